import Derived.Test.YtclgkgaobjcifaaGreatDoorMw07
import Derived.Test.YtclgkgaobjcifaaGreatDoorCards
import Derived.Test.YtclgkgaobjcifaaGreatDoorTie
import Derived.ProofKit
import Derived.OpenShut
import Derived.ShutString
import Derived.SizedLaws
import Derived.Deep.DeepHandedRow
import Derived.LaidLaws
import Derived.LaidHandle
import Derived.Lib.LaidTab
import Derived.Deep.Slices
import Derived.Deep.Strs
import Derived.Lib.SmallJoins
import Derived.Test.YtclgkgaobjcifaaGreatDoorMw11
import Derived.Test.YtclgkgaobjcifaaGreatDoorMw03
namespace Go.Proofs.YtclgkgaobjcifaaGreatDoor
open Go.ChangeShapes Go.WideShapes Go.ChangeAt Go.RowKit
theorem own : ownKnob Tryz.prog.godebug = none := by kernel_rfl
theorem laidOut : laidOutB Tryz.prog = true := by kernel_rfl
theorem gEt : Tryz.prog.globalNamed "errors.errorType" = some 0 := by kernel_rfl
theorem gRt : (Tryz.prog.cutTypes.find? (·.1 == "internal/reflectlite.rtype")).map (·.2) = some 184 := by kernel_rfl
theorem gOne : ((List.range 226).filter fun t => Tryz.prog.rowNamed t [101, 114, 114, 111, 114]) = [151] := by kernel_rfl
theorem gSize : Tryz.prog.types.size = 226 := by kernel_rfl
def laidL : List (String × DataW Unit) := [("errors.errorType", Rows.laid_errors_errorType)]
theorem wf_I64 {z : Int} (h : (Lit.int .i64 z).wf = true) : I64 z := by
  simpa [I64, Lit.wf, IntKind.min, IntKind.max, IntKind.signed, IntKind.bits] using h
/-- What the row's list gives. -/
theorem ety_of {W : World} (h : laidMetH Tryz.prog laidL W) : ETy W := by
  have h' : laidMet Tryz.prog [] W ∧ handlesMet Tryz.prog laidL W := h
  obtain ⟨name, u, ty, e1, e2, e3, e4, e5⟩ := h'.2 _ (List.mem_singleton.2 rfl)
  have en : name = [101, 114, 114, 111, 114] := (Option.some.inj e1).symm
  subst en
  obtain rfl := Option.some.inj (gRt.symm.trans e2)
  have hm : ty ∈ (List.range 226).filter fun t => Tryz.prog.rowNamed t [101, 114, 114, 111, 114] := List.mem_filter.2 ⟨List.mem_range.2 (by rw [← gSize]; exact e3), e4⟩
  rw [gOne] at hm
  obtain rfl := List.mem_singleton.1 hm
  have hh : typeHandle Tryz.prog 151 = .pointer (some ⟨2, 151, none⟩) := by kernel_rfl
  rw [hh] at e5
  have := World.var?_cell gEt e5 0
  unfold ETy
  simpa using this
/-- A world for the witness: the settled one, the variable's cell laid. -/
noncomputable def laidWorld (os : Os) : World :=
  let w0 := World.holding Tryz.prog os ⟨#[], #[], []⟩
  { w0 with heap := w0.heap.modify 0 fun
      | .cells _ t frozen => .cells #[.iface 184 (.agg #[.pointer (some ⟨2, 151, none⟩)])] t frozen
      | o => o }
end Go.Proofs.YtclgkgaobjcifaaGreatDoor

namespace Go.Proofs.YtclgkgaobjcifaaGreatDoor
open Go.ChangeShapes Go.WideShapes Go.ChangeAt Go.RowKit
set_option maxRecDepth 100000 in
/-- An argument []int. -/
theorem open_ilw {H : Type} {enc : TypeId × Value → H} {w : World} {base : Nat} {spare : Nat → Bool} {held : Bool} {fuel : Nat} {a : Option Addr} {len cap : Nat} {x : DataW H × List MemPlace} (h : DataW.trod enc Tryz.prog w base spare held fuel 22 [.slice a len cap] = some x) :
    ∃ l : List Int, len = l.length ∧ Lst w w.heap.size a l ∧ (∀ i, I64 (l.getD i 0)) ∧ len ≤ 9223372036854775807 := by
  have hML : (maxLen : Nat) = 9223372036854775807 := rfl
  rcases open_ints Tryz.underlying22 Tryz.underlying3 (by kernel_rfl) h with ⟨hcs, _⟩ | ⟨ad, l, c, zs, hcs, _, hl, hm, hz, hd, hcell, hwz⟩
  · simp at hcs
    obtain ⟨rfl, rfl, rfl⟩ := hcs
    exact ⟨[], rfl, fun j hj => (by cases hj), fun i => by simp [I64], by omega⟩
  · simp at hcs
    obtain ⟨rfl, rfl, rfl⟩ := hcs
    have hzl : len ≤ zs.length := by rw [hz]; split <;> omega
    have hlen : (zs.take len).length = len := by simp; omega
    refine ⟨zs.take len, hlen.symm, fun j hj => ?_, fun i => ?_, by omega⟩
    · rw [hlen] at hj
      have hc := hcell j (by omega)
      have hc0 := hcell 0 (by omega)
      obtain ⟨b, off, spot⟩ := ad
      have hspot : spot = none := by simpa [Addr.add] using World.cell?_spot hc0
      subst hspot
      rw [Addr.add_mid] at hc
      refine ⟨b, off, rfl, World.block_lt_of_cell? w _ hc, hc.trans ?_⟩
      simp [hj]
    · by_cases hi : i < (zs.take len).length
      · rw [List.getD_eq_getElem?_getD, List.getElem?_eq_getElem hi]
        exact wf_I64 (hwz _ (List.mem_of_mem_take (List.getElem_mem hi)))
      · rw [List.getD_eq_getElem?_getD, List.getElem?_eq_none (by omega)]
        simp [I64]
end Go.Proofs.YtclgkgaobjcifaaGreatDoor

namespace Go.Proofs.YtclgkgaobjcifaaGreatDoor
open Go.ChangeShapes Go.WideShapes Go.ChangeAt Go.RowKit
set_option maxRecDepth 100000
theorem list8 {α : Type} {l : List α} (h : l.length = 8) : ∃ c0 c1 c2 c3 c4 c5 c6 c7, l = [c0, c1, c2, c3, c4, c5, c6, c7] := by
  match l, h with
  | [c0, c1, c2, c3, c4, c5, c6, c7], _ => exact ⟨c0, c1, c2, c3, c4, c5, c6, c7, rfl⟩
theorem array8 {α : Type} {cs : Array α} (h : cs.size = 8) : ∃ c0 c1 c2 c3 c4 c5 c6 c7, cs = #[c0, c1, c2, c3, c4, c5, c6, c7] := by
  obtain ⟨l⟩ := cs
  obtain ⟨c0, c1, c2, c3, c4, c5, c6, c7, rfl⟩ := list8 (show l.length = 8 from h)
  exact ⟨c0, c1, c2, c3, c4, c5, c6, c7, rfl⟩
theorem cells3r : Tryz.prog.cellsOf 3 = 1 := by kernel_rfl
theorem cells9r : Tryz.prog.cellsOf 9 = 1 := by kernel_rfl
theorem cellsIr : Tryz.prog.cellsOf 22 = 1 := by kernel_rfl
theorem cellsSr : Tryz.prog.cellsOf 32 = 1 := by kernel_rfl
/-- A list of numbers within an argument. -/
theorem open_ilc {H : Type} {enc : TypeId × Value → H} {w : World} {base : Nat} {spare : Nat → Bool} {held : Bool} {fuel : Nat} {c : Value} {x : DataW H × List MemPlace} (h : DataW.trod enc Tryz.prog w base spare held fuel 22 [c] = some x)
    (hs : ∀ n ∈ x.1.weights Tryz.prog 22, n ≤ reachBytes) :
    ∃ (a : Option Addr) (len cap : Nat) (l : List Int), c = .slice a len cap ∧ l.length = len ∧ Lst w w.heap.size a l ∧ len ≤ 17592186044416 := by
  have h9 := h
  rcases open_ints Tryz.underlying22 Tryz.underlying3 (by kernel_rfl) h with ⟨hcs, _⟩ | ⟨ad, l, cp, zs, hcs, _, hl, hm, hz, hd, hcell, hwz⟩
  · have e : c = .slice none 0 0 := by simpa using hcs
    exact ⟨none, 0, 0, [], e, rfl, fun j hj => absurd hj (by simp), by omega⟩
  · have e : c = .slice (some ad) l cp := by simpa using hcs
    subst e
    obtain ⟨l9, e1, e2, _, _⟩ := open_ilw h9
    refine ⟨some ad, l, cp, l9, rfl, e1.symm, e2, ?_⟩
    have hzl : l ≤ zs.length := by rw [hz]; split <;> omega
    have hb : Tryz.prog.bytesOf 3 = 8 := by kernel_rfl
    have hw := hs ((zs.length) * 8) (by
      rw [hd]
      simp only [DataW.weights, Tryz.underlying22, List.mem_cons]
      left
      rw [hb]
      simp [lits]
      omega)
    unfold reachBytes at hw
    omega
theorem open_rep {H : Type} {enc : TypeId × Value → H} {W : World} {base b0 : Nat} {r : Reach} {spare : Nat → Bool} {held : Bool} {v : Value} {d : DataW H} {p : List MemPlace} (hv : Value.okWide Tryz.prog W r b0 34 v) (h : DataW.Trod enc Tryz.prog W base spare held 34 v d p) (hs : ∀ n ∈ d.weights Tryz.prog 34, n ≤ reachBytes) : ∃ (q : Rep) (V Pl : List Int), v = .agg q.cs ∧ V.length = q.vm ∧ Pl.length = q.pm ∧ (q.vm ≤ 17592186044416 ∧ q.pm ≤ 17592186044416) ∧ Lst W W.heap.size q.vp V ∧ Lst W W.heap.size q.pp Pl := by
  obtain ⟨cs, rfl, hsz⟩ := okWide_struct Tryz.underlying34 hv
  obtain ⟨c0, c1, c2, c3, c4, c5, c6, c7, rfl⟩ := array8 (hsz.trans (by kernel_rfl))
  obtain ⟨fuel, hf⟩ := h
  obtain ⟨xs, n, _, hx, hl, hlen, hfs⟩ := DataW.trod_struct Tryz.underlying34 hf
  obtain ⟨y0, y1, y2, y3, y4, y5, y6, y7, rfl⟩ := list8 (show xs.length = 8 from hlen)
  have g0 := hfs 0 _ rfl
  have g1 := hfs 1 _ rfl
  have g2 := hfs 2 _ rfl
  have g3 := hfs 3 _ rfl
  have g4 := hfs 4 _ rfl
  have g5 := hfs 5 _ rfl
  have g6 := hfs 6 _ rfl
  have g7 := hfs 7 _ rfl
  simp [Value.cells, cells3r, cells9r, cellsIr, cellsSr] at g0 g1 g2 g3 g4 g5 g6 g7
  obtain ⟨k0, e0, _, _⟩ := DataW.trod_int Tryz.underlying32 g0
  obtain ⟨k1, e1, _, _⟩ := DataW.trod_int Tryz.underlying3 g1
  obtain ⟨k2, e2, _, _⟩ := DataW.trod_int Tryz.underlying3 g2
  obtain ⟨k4, e4, _, _⟩ := DataW.trod_int Tryz.underlying3 g4
  obtain ⟨k6, e6, _, _⟩ := DataW.trod_string Tryz.underlying9 g6
  obtain ⟨k7, e7, _, _⟩ := DataW.trod_string Tryz.underlying9 g7
  have hd : d = .agg [y0.1, y1.1, y2.1, y3.1, y4.1, y5.1, y6.1, y7.1] := by simpa using (Prod.mk.inj hx).1
  have hw3 : ∀ n ∈ y3.1.weights Tryz.prog 22, n ≤ reachBytes := fun n hn => hs n (by
    rw [hd]
    simp only [DataW.weights, Tryz.underlying34, DataW.weightsEach, List.map_cons, List.mem_append]
    exact Or.inr (Or.inr (Or.inr (Or.inl hn))))
  have hw5 : ∀ n ∈ y5.1.weights Tryz.prog 22, n ≤ reachBytes := fun n hn => hs n (by
    rw [hd]
    simp only [DataW.weights, Tryz.underlying34, DataW.weightsEach, List.map_cons, List.mem_append]
    exact Or.inr (Or.inr (Or.inr (Or.inr (Or.inr (Or.inl hn))))))
  obtain ⟨a3, l3, m3, V, e3, v1, v2, v3⟩ := open_ilc g3 hw3
  obtain ⟨a5, l5, m5, Pl, e5, p1, p2, p3⟩ := open_ilc g5 hw5
  simp at e0 e1 e2 e4 e6 e7
  subst e0 e1 e2 e3 e4 e5 e6 e7
  exact ⟨⟨k0, k1, k2, a3, l3, m3, k4, a5, l5, m5, k6, k7⟩, V, Pl, rfl, v1, p1, ⟨v3, p3⟩, v2, p2⟩
end Go.Proofs.YtclgkgaobjcifaaGreatDoor
