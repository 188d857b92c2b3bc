import Derived.Test.YtaepdekpdiofnaaGreatDoorMi17
import Derived.Test.YtaepdekpdiofnaaGreatDoorCards
import Derived.Test.YtaepdekpdiofnaaGreatDoorTie
import Derived.ProofKit
import Derived.OpenShut
import Derived.ShutString
import Derived.SizedLaws
import Derived.Deep.DeepHandedRow
import Derived.LaidLaws
import Derived.LaidHandle
import Derived.Lib.LaidTab
import Derived.Deep.Slices
import Derived.Deep.Strs
import Derived.Lib.SmallJoins
import Derived.Test.YtaepdekpdiofnaaGreatDoorMi27
import Derived.Deep.SlicePairs
import Derived.Test.YtaepdekpdiofnaaGreatDoorMi38
namespace Go.Proofs.YtaepdekpdiofnaaGreatDoor
open Go.ChangeShapes Go.WideShapes Go.ChangeAt Go.RowKit
theorem own : ownKnob Tryz.prog.godebug = none := by kernel_rfl
theorem laidOut : laidOutB Tryz.prog = true := by kernel_rfl
theorem gEt : Tryz.prog.globalNamed "errors.errorType" = some 1 := by kernel_rfl
theorem gRt : (Tryz.prog.cutTypes.find? (·.1 == "internal/reflectlite.rtype")).map (·.2) = some 223 := by kernel_rfl
theorem gOne : ((List.range 261).filter fun t => Tryz.prog.rowNamed t [101, 114, 114, 111, 114]) = [155] := by kernel_rfl
theorem gSize : Tryz.prog.types.size = 261 := by kernel_rfl
def laidL : List (String × DataW Unit) := [("errors.errorType", Rows.laid_errors_errorType)]
theorem wf_I64 {z : Int} (h : (Lit.int .i64 z).wf = true) : I64 z := by
  simpa [I64, Lit.wf, IntKind.min, IntKind.max, IntKind.signed, IntKind.bits] using h
/-- What the row's list gives. -/
theorem ety_of {W : World} (h : laidMetH Tryz.prog laidL W) : ETy W := by
  have h' : laidMet Tryz.prog [] W ∧ handlesMet Tryz.prog laidL W := h
  obtain ⟨name, u, ty, e1, e2, e3, e4, e5⟩ := h'.2 _ (List.mem_singleton.2 rfl)
  have en : name = [101, 114, 114, 111, 114] := (Option.some.inj e1).symm
  subst en
  obtain rfl := Option.some.inj (gRt.symm.trans e2)
  have hm : ty ∈ (List.range 261).filter fun t => Tryz.prog.rowNamed t [101, 114, 114, 111, 114] := List.mem_filter.2 ⟨List.mem_range.2 (by rw [← gSize]; exact e3), e4⟩
  rw [gOne] at hm
  obtain rfl := List.mem_singleton.1 hm
  have hh : typeHandle Tryz.prog 155 = .pointer (some ⟨2, 155, none⟩) := by kernel_rfl
  rw [hh] at e5
  have := World.var?_cell gEt e5 0
  unfold ETy
  simpa using this
/-- A world for the witness: the settled one, the variable's cell laid. -/
noncomputable def laidWorld (os : Os) : World :=
  let w0 := World.holding Tryz.prog os ⟨#[], #[], []⟩
  { w0 with heap := w0.heap.modify 1 fun
      | .cells _ t frozen => .cells #[.iface 223 (.agg #[.pointer (some ⟨2, 155, none⟩)])] t frozen
      | o => o }
end Go.Proofs.YtaepdekpdiofnaaGreatDoor

namespace Go.Proofs.YtaepdekpdiofnaaGreatDoor
open Go.ChangeShapes Go.WideShapes Go.ChangeAt Go.RowKit
theorem weightsAll_mem {H : Type} {P : Program} {e : TypeId} : ∀ {l : List (DataW H)} {d : DataW H}, d ∈ l → ∀ n ∈ d.weights P e, n ∈ DataW.weightsAll P e l
  | d' :: r, d, hd, n, hn => by
    simp only [DataW.weightsAll, List.mem_append]
    rcases List.mem_cons.1 hd with rfl | h
    · exact Or.inl hn
    · exact Or.inr (weightsAll_mem h n hn)
set_option maxRecDepth 100000 in
/-- A list of writes that came in. -/
theorem open_wlist {H : Type} {enc : TypeId × Value → H} {w : World} {base : Nat} {spare : Nat → Bool} {held : Bool} {fuel : Nat} {a : Option Addr} {len cap : Nat} {x : DataW H × List MemPlace} (h : DataW.trod enc Tryz.prog w base spare held fuel 22 [.slice a len cap] = some x)
    (hs : ∀ n ∈ x.1.weights Tryz.prog 22, n ≤ reachBytes) :
    ∃ raw : List Wr1, len = raw.length ∧ Wls w a raw ∧ Wok raw ∧ len ≤ 9223372036854775807 := by
  rcases Deep.open_slice_pairs Tryz.underlying22 Tryz.underlying53 (by kernel_rfl) rfl rfl (by kernel_rfl) (by kernel_rfl) h with ⟨hcs, _⟩ | ⟨ad, ln, cp, m, n, V0, V1, D0, D1, P0, P1, hcs, _, hl, hm, hmm, rfl, hx⟩
  · simp at hcs
    obtain ⟨rfl, rfl, rfl⟩ := hcs
    exact ⟨[], rfl, Wls.nil _ _, fun z hz => (by cases hz), by omega⟩
  · simp at hcs
    obtain ⟨rfl, rfl, rfl⟩ := hcs
    have hlm : len ≤ m := by rw [hmm]; split <;> omega
    have each : ∀ i, i < len → ∃ q : Wr1, w.cell? (ad.add (i * 2)) = some (.int .i64 q.1) ∧ w.cell? (ad.add (i * 2 + 1)) = some (.string q.2) ∧ I64 q.1 ∧ q.2.size ≤ 140737488355328 := by
      intro i hi
      obtain ⟨c0, c1, g0, g1⟩ := hx i (by omega)
      obtain ⟨z0, e0, d0, f0⟩ := DataW.trod_int Tryz.underlying3 g0
      obtain ⟨z1, e1, d1, _⟩ := DataW.trod_string Tryz.underlying9 g1
      simp at e0 e1
      rw [e0] at c0
      rw [e1] at c1
      refine ⟨(z0, z1), c0, c1, wf_I64 f0, ?_⟩
      have hw : z1.data.toList.length ≤ reachBytes := by
        refine hs _ ?_
        simp only [DataW.weights, Tryz.underlying22, List.mem_cons, List.mem_append]
        refine Or.inr (Or.inl (weightsAll_mem (d := .agg [D0 i, D1 i]) (List.mem_map.2 ⟨i, by simpa using hi, rfl⟩) _ ?_))
        simp only [DataW.weights, Tryz.underlying53]
        rw [(Prod.mk.inj d1).1]
        simp [DataW.weightsEach, DataW.weights]
      have e : z1.data.toList.length = z1.size := rfl
      unfold reachBytes at hw
      show z1.size ≤ _
      omega
    obtain ⟨q, hq⟩ := Deep.choose_lt each
    refine ⟨(List.range len).map q, by simp, ?_, ?_, by simp only [maxLen] at hm; omega⟩
    · intro j hj
      have hj' : j < len := by simpa using hj
      obtain ⟨q0, q1, _⟩ := hq j hj'
      obtain ⟨b, off, spot⟩ := ad
      have hspot : spot = none := by simpa [Addr.add] using World.cell?_spot (hq 0 (by omega)).1
      subst hspot
      rw [Addr.add_mid] at q0 q1
      have eg : ((List.range len).map q).getD j wr0 = q j := by simp [List.getD, List.getElem?_map, List.getElem?_range hj']
      rw [eg]
      exact ⟨b, off, rfl, World.block_lt_of_cell? w _ q0, q0, by simpa [Nat.add_assoc] using q1⟩
    · intro y hy
      obtain ⟨i, hi, rfl⟩ := List.mem_map.1 hy
      exact (hq i (by simpa using hi)).2.2
end Go.Proofs.YtaepdekpdiofnaaGreatDoor

namespace Go.Proofs.YtaepdekpdiofnaaGreatDoor
open Go.ChangeShapes Go.WideShapes Go.ChangeAt Go.RowKit
set_option maxRecDepth 100000 in
/-- Losses that came in. -/
theorem open_loss {H : Type} {enc : TypeId × Value → H} {w : World} {base : Nat} {spare : Nat → Bool} {held : Bool} {fuel : Nat} {a : Option Addr} {len cap : Nat} {x : DataW H × List MemPlace} (h : DataW.trod enc Tryz.prog w base spare held fuel 68 [.slice a len cap] = some x) :
    ∃ os : List (Int × Int), len = os.length ∧ Lss w a os ∧ len ≤ 9223372036854775807 := by
  rcases Deep.open_slice_pairs Tryz.underlying68 Tryz.underlying67 (by kernel_rfl) rfl rfl (by kernel_rfl) (by kernel_rfl) h with ⟨hcs, _⟩ | ⟨ad, ln, cp, m, n, V0, V1, D0, D1, P0, P1, hcs, _, hl, hm, hmm, rfl, hx⟩
  · simp at hcs
    obtain ⟨rfl, rfl, rfl⟩ := hcs
    exact ⟨[], rfl, fun j hj => (by cases hj), by omega⟩
  · simp at hcs
    obtain ⟨rfl, rfl, rfl⟩ := hcs
    have hlm : len ≤ m := by rw [hmm]; split <;> omega
    have each : ∀ i, i < len → ∃ q : Int × Int, w.cell? (ad.add (i * 2)) = some (.int .i64 q.1) ∧ w.cell? (ad.add (i * 2 + 1)) = some (.int .i64 q.2) ∧ I64 q.1 := by
      intro i hi
      obtain ⟨c0, c1, g0, g1⟩ := hx i (by omega)
      obtain ⟨z0, e0, d0, f0⟩ := DataW.trod_int Tryz.underlying3 g0
      obtain ⟨z1, e1, d1, _⟩ := DataW.trod_int Tryz.underlying3 g1
      simp at e0 e1
      rw [e0] at c0
      rw [e1] at c1
      exact ⟨(z0, z1), c0, c1, wf_I64 f0⟩
    obtain ⟨q, hq⟩ := Deep.choose_lt each
    refine ⟨(List.range len).map q, by simp, ?_, by simp only [maxLen] at hm; omega⟩
    intro j hj
    have hj' : j < len := by simpa using hj
    obtain ⟨q0, q1, q2⟩ := hq j hj'
    obtain ⟨b, off, spot⟩ := ad
    have hspot : spot = none := by simpa [Addr.add] using World.cell?_spot (hq 0 (by omega)).1
    subst hspot
    rw [Addr.add_mid] at q0 q1
    have eg : ((List.range len).map q).getD j (0, 0) = q j := by simp [List.getD, List.getElem?_map, List.getElem?_range hj']
    rw [eg]
    exact ⟨b, off, rfl, World.block_lt_of_cell? w _ q0, q0, by simpa [Nat.add_assoc] using q1, q2⟩
end Go.Proofs.YtaepdekpdiofnaaGreatDoor
