import Derived.Test.YtifjmldmilmfjaaGreatDoorMp10
import Derived.Test.YtifjmldmilmfjaaGreatDoorMp01
import Derived.Test.YtifjmldmilmfjaaGreatDoorCards
import Derived.Test.YtifjmldmilmfjaaGreatDoorTie
import Derived.ProofKit
import Derived.OpenShut
import Derived.ShutString
import Derived.SizedLaws
import Derived.Deep.DeepHandedRow
import Derived.LaidLaws
import Derived.LaidHandle
import Derived.Lib.LaidTab
import Derived.Deep.Slices
import Derived.Deep.Strs
import Derived.Lib.SmallJoins
import Derived.Stop.LaidErr
import Derived.Stop.LaidTwo
import Derived.Test.YtifjmldmilmfjaaGreatDoorMp22
import Derived.SliceStrings
import Derived.Deep.SlicePairs
import Derived.Test.YtifjmldmilmfjaaGreatDoorMp27
namespace Go.Proofs.YtifjmldmilmfjaaGreatDoor
open Go.ChangeShapes Go.WideShapes Go.ChangeAt Go.RowKit
theorem own : ownKnob Tryz.prog.godebug = none := by kernel_rfl
theorem laidOut : laidOutB Tryz.prog = true := by kernel_rfl
theorem gEt : Tryz.prog.globalNamed "errors.errorType" = some 0 := by kernel_rfl
theorem gRt : (Tryz.prog.cutTypes.find? (·.1 == "internal/reflectlite.rtype")).map (·.2) = some 187 := by kernel_rfl
theorem gOne : ((List.range 227).filter fun t => Tryz.prog.rowNamed t [101, 114, 114, 111, 114]) = [147] := by kernel_rfl
theorem gSize : Tryz.prog.types.size = 227 := by kernel_rfl
theorem gTab : Tryz.prog.globalNamed "strongbox/hash.roundWords" = some 1 := by kernel_rfl
theorem gTabType : (Tryz.prog.globals[1]?).map (·.type) = some 154 := by kernel_rfl
theorem cells54 : Tryz.prog.cellsOf 154 = 64 := by kernel_rfl
theorem cells44 : Tryz.prog.cellsOf 42 = 1 := by kernel_rfl
theorem wf_I64 {z : Int} (h : (Lit.int .i64 z).wf = true) : I64 z := by
  simpa [I64, Lit.wf, IntKind.min, IntKind.max, IntKind.signed, IntKind.bits] using h
def laidQm : List (String × DataW Unit) := []
def laidPm : List (String × DataW Unit) := ("strongbox/hash.roundWords", Rows.laid_strongbox_hash_roundWords) :: laidQm
def laidL : List (String × DataW Unit) := ("strongbox/hash.roundWords", Rows.laid_strongbox_hash_roundWords) :: ("errors.errorType", Rows.laid_errors_errorType) :: laidQm
theorem laid_parts {W : World} (h : laidMetH Tryz.prog laidL W) : laidMet Tryz.prog laidPm W ∧ handlesMet Tryz.prog [("errors.errorType", Rows.laid_errors_errorType)] W := h
/-- What the row's list gives. -/
theorem ety_of {W : World} (h : laidMetH Tryz.prog laidL W) : ETy W := by
  obtain ⟨name, u, ty, e1, e2, e3, e4, e5⟩ := (laid_parts h).2 _ (List.mem_singleton.2 rfl)
  have en : name = [101, 114, 114, 111, 114] := (Option.some.inj e1).symm
  subst en
  obtain rfl := Option.some.inj (gRt.symm.trans e2)
  have hm : ty ∈ (List.range 227).filter fun t => Tryz.prog.rowNamed t [101, 114, 114, 111, 114] := List.mem_filter.2 ⟨List.mem_range.2 (by rw [← gSize]; exact e3), e4⟩
  rw [gOne] at hm
  obtain rfl := List.mem_singleton.1 hm
  have hh : typeHandle Tryz.prog 147 = .pointer (some ⟨2, 147, none⟩) := by kernel_rfl
  rw [hh] at e5
  have := World.var?_cell gEt e5 0
  unfold ETy
  simpa using this
set_option maxRecDepth 100000 in
theorem ktab_of {W : World} (h : laidMetH Tryz.prog laidL W) : KTab W := by
  have hT : Lib.TabIs Tryz.prog W "strongbox/hash.roundWords" .u32 kWords :=
    Lib.tabIs_of_head (rest := laidQm) gTab gTabType Tryz.underlying154 Tryz.underlying42 cells44 cells54 (laid_parts h).1
  have hc : ∀ j, j < 64 → W.cell? ⟨1, j, none⟩ = some (.int .u32 (kWords.getD j 0)) := fun j hj => hT.cell gTab j hj
  exact ⟨World.block_lt_of_cell? W _ (hc 0 (by decide)), hc⟩
/-- A world for the witness: the settled one, the variables laid. -/
noncomputable def laidWorld (os : Os) : World :=
  let w0 := World.holding Tryz.prog os ⟨#[], #[], []⟩
  { w0 with heap := (w0.heap.modify 0 fun
      | .cells _ t frozen => .cells #[.iface 187 (.agg #[.pointer (some ⟨2, 147, none⟩)])] t frozen
      | o => o).modify 1 fun
      | .cells _ t frozen => .cells (kWords.map (Value.int .u32)).toArray t frozen
      | o => o }
theorem laid_metA (os : Os) (args : Array Value) : laidMet Tryz.prog laidPm ((laidWorld os).forCall (fun _ _ => 0) ⟨#[], args, []⟩).memory :=
  laidMet_of_run' 80 (by kernel_rfl) (by kernel_rfl)
end Go.Proofs.YtifjmldmilmfjaaGreatDoor

namespace Go.Proofs.YtifjmldmilmfjaaGreatDoor
open Go.ChangeShapes Go.WideShapes Go.ChangeAt Go.RowKit
theorem weightsAll_mem {H : Type} {P : Program} {e : TypeId} : ∀ {l : List (DataW H)} {d : DataW H}, d ∈ l → ∀ n ∈ d.weights P e, n ∈ DataW.weightsAll P e l
  | x :: l, d, h, n, hn => by
    rw [DataW.weightsAll]
    rcases List.mem_cons.1 h with rfl | h
    · exact List.mem_append_left _ hn
    · exact List.mem_append_right _ (weightsAll_mem h n hn)
set_option maxRecDepth 100000 in
/-- An argument []string, with the bound that its texts' bytes make. -/
theorem open_sb {H : Type} {enc : TypeId × Value → H} {w : World} {base : Nat} {spare : Nat → Bool} {held : Bool} {fuel : Nat} {a : Option Addr} {len cap : Nat} {x : DataW H × List MemPlace} (h : DataW.trod enc Tryz.prog w base spare held fuel 22 [.slice a len cap] = some x)
    (hs : ∀ n ∈ x.1.weights Tryz.prog 22, n ≤ reachBytes) :
    ∃ l : List ByteArray, l.length = len ∧ SB w w.heap.size a l ∧ (∀ j, j < l.length → (l.getD j ⟨#[]⟩).size ≤ 140737488351232) ∧ len ≤ cap ∧ cap ≤ 9223372036854775807 ∧ (a = none → cap = 0) ∧ len ≤ 8796093021952 := by
  rcases open_strings Tryz.underlying22 Tryz.underlying9 (by kernel_rfl) h with ⟨hcs, _⟩ | ⟨ad, l, c, zs, hcs, _, hl, hm, hz, hd, hcell, _⟩
  · simp at hcs
    obtain ⟨rfl, rfl, rfl⟩ := hcs
    exact ⟨[], rfl, fun j hj => (by cases hj), fun t ht => (by cases ht), Nat.le_refl _, by omega, fun _ => rfl, by omega⟩
  · simp at hcs
    obtain ⟨rfl, rfl, rfl⟩ := hcs
    have hzl : len ≤ zs.length := by rw [hz]; split <;> omega
    have hlen : (zs.take len).length = len := by simp; omega
    have hb : Tryz.prog.bytesOf 9 = 16 := by kernel_rfl
    have hw := hs ((zs.length) * 16) (by
      rw [hd]
      simp only [DataW.weights, Tryz.underlying22, List.mem_cons]
      left
      rw [hb]
      simp [strs]
      omega)
    refine ⟨zs.take len, hlen, fun j hj => ?_, fun j hj => ?_, hl, hm, fun q => (by cases q), by unfold reachBytes at hw; omega⟩
    · rw [hlen] at hj
      have hc := hcell j (by omega)
      have hc0 := hcell 0 (by omega)
      obtain ⟨b, off, spot⟩ := ad
      have hspot : spot = none := by simpa [Addr.add] using World.cell?_spot hc0
      subst hspot
      rw [Addr.add_mid] at hc
      refine ⟨b, off, rfl, World.block_lt_of_cell? w _ hc, hc.trans ?_⟩
      rw [getD_take zs len j hj]
      rfl
    · have ht : (zs.take len).getD j ⟨#[]⟩ ∈ zs.take len := by
        rw [List.getD_eq_getElem?_getD, List.getElem?_eq_getElem hj]
        exact List.getElem_mem hj
      generalize (zs.take len).getD j ⟨#[]⟩ = t at *
      have hw : t.data.toList.length ≤ reachBytes := by
        refine hs _ ?_
        rw [hd]
        simp only [DataW.weights, Tryz.underlying22, List.mem_cons, List.mem_append]
        refine Or.inr (Or.inl (weightsAll_mem (d := .lit (.string t.data.toList)) (List.mem_map.2 ⟨t, ht, rfl⟩) _ ?_))
        simp [DataW.weights]
      have e : t.data.toList.length = t.size := rfl
      unfold reachBytes at hw
      omega
end Go.Proofs.YtifjmldmilmfjaaGreatDoor

namespace Go.Proofs.YtifjmldmilmfjaaGreatDoor
open Go.ChangeShapes Go.WideShapes Go.ChangeAt Go.RowKit
set_option maxRecDepth 100000
theorem open_opp {H : Type} {enc : TypeId × Value → H} {w : World} {base : Nat} {spare : Nat → Bool} {held : Bool} {fuel : Nat} {a : Option Addr} {len cap : Nat} {x : DataW H × List MemPlace} (h : DataW.trod enc Tryz.prog w base spare held fuel 67 [.slice a len cap] = some x)
    (hs : ∀ n ∈ x.1.weights Tryz.prog 67, n ≤ reachBytes) :
    (len = 0 ∨ ∃ D sp, x.1 = .slice ((List.range len).map D) sp) ∧ ∃ (K O N M : Nat → Int) (S : Nat → ByteArray), OpP w w.heap.size a len K O N M S ∧ (∀ i, i < len → I64 (O i) ∧ I64 (N i) ∧ I64 (M i) ∧ (S i).size ≤ 140737488351232) := by
  rcases Deep.open_slice Tryz.underlying67 h with ⟨hcs, _⟩ | ⟨ad, ln, cp, m, n, D, Pl, hcs, hb, hl, hm, hmm, rfl, hx⟩
  · simp at hcs
    obtain ⟨rfl, rfl, rfl⟩ := hcs
    exact ⟨Or.inl rfl, fun _ => 0, fun _ => 0, fun _ => 0, fun _ => 0, fun _ => ⟨#[]⟩, fun i hi => absurd hi (by omega), fun i hi => absurd hi (by omega)⟩
  · simp at hcs
    obtain ⟨rfl, rfl, rfl⟩ := hcs
    have hlm : len ≤ m := by rw [hmm]; split <;> omega
    have each : ∀ i, i < len → ∃ q : Int × Int × Int × Int × ByteArray, w.cell? (ad.add (i * 5)) = some (.int .i64 q.1) ∧ w.cell? (ad.add (i * 5 + 1)) = some (.int .i64 q.2.1) ∧ w.cell? (ad.add (i * 5 + 2)) = some (.int .i64 q.2.2.1) ∧ w.cell? (ad.add (i * 5 + 3)) = some (.int .i64 q.2.2.2.1) ∧ w.cell? (ad.add (i * 5 + 4)) = some (.string q.2.2.2.2) ∧ (Lit.int .i64 q.2.1).wf = true ∧ (Lit.int .i64 q.2.2.1).wf = true ∧ (Lit.int .i64 q.2.2.2.1).wf = true ∧ q.2.2.2.2.size ≤ 140737488351232 := by
      intro i hi
      obtain ⟨cs', h1, h2⟩ := hx i (by omega)
      rw [show Tryz.prog.cellsOf 73 = 5 by kernel_rfl] at h1
      obtain ⟨_, hlen, hcell⟩ := World.cells?_some h1
      obtain ⟨xs, k, _, hxy, _, hlx, hfs⟩ := DataW.trod_struct Tryz.underlying73 h2
      match cs', hlen with
      | [v0, v1, v2, v3, v4], _ =>
      match xs, hlx with
      | [y0, y1, y2, y3, y4], _ =>
        have g0 := hfs 0 _ rfl
        have g1 := hfs 1 _ rfl
        have g2 := hfs 2 _ rfl
        have g3 := hfs 3 _ rfl
        have g4 := hfs 4 _ rfl
        simp [show Tryz.prog.cellsOf 3 = 1 by kernel_rfl, show Tryz.prog.cellsOf 9 = 1 by kernel_rfl] at g0 g1 g2 g3 g4
        obtain ⟨z0, e0, d0, f0⟩ := DataW.trod_int Tryz.underlying3 g0
        obtain ⟨z1, e1, d1, f1⟩ := DataW.trod_int Tryz.underlying3 g1
        obtain ⟨z2, e2, d2, f2⟩ := DataW.trod_int Tryz.underlying3 g2
        obtain ⟨z3, e3, d3, f3⟩ := DataW.trod_int Tryz.underlying3 g3
        obtain ⟨z4, e4, d4, _⟩ := DataW.trod_string Tryz.underlying9 g4
        simp at e0 e1 e2 e3 e4
        subst e0 e1 e2 e3 e4
        have c0 := hcell 0 (by omega)
        have c1 := hcell 1 (by omega)
        have c2 := hcell 2 (by omega)
        have c3 := hcell 3 (by omega)
        have c4 := hcell 4 (by omega)
        rw [Deep.add_add] at c0 c1 c2 c3 c4
        have hw : z4.data.toList.length ≤ reachBytes := by
          refine hs _ ?_
          simp only [DataW.weights, Tryz.underlying67, List.mem_cons, List.mem_append]
          refine Or.inr (Or.inl (weightsAll_mem (d := D i) (List.mem_map.2 ⟨i, by simpa using by omega, rfl⟩) _ ?_))
          rw [show D i = .agg [y0.1, y1.1, y2.1, y3.1, y4.1] from (Prod.mk.inj hxy).1]
          simp only [DataW.weights, Tryz.underlying73]
          rw [show y4.1 = .lit (.string z4.data.toList) from (Prod.mk.inj d4).1]
          simp [DataW.weightsEach, DataW.weights]
        have e : z4.data.toList.length = z4.size := rfl
        unfold reachBytes at hw
        exact ⟨(z0, z1, z2, z3, z4), by simpa using c0, by simpa using c1, by simpa using c2, by simpa using c3, by simpa using c4, f1, f2, f3, by show z4.size ≤ _; omega⟩
    obtain ⟨q, hq⟩ := Deep.choose_lt each
    refine ⟨Or.inr ⟨D, _, rfl⟩, fun i => (q i).1, fun i => (q i).2.1, fun i => (q i).2.2.1, fun i => (q i).2.2.2.1, fun i => (q i).2.2.2.2, fun i hi => ?_, fun i hi => ?_⟩
    · obtain ⟨q0, q1, q2, q3, q4, _⟩ := hq i hi
      obtain ⟨b, off, spot⟩ := ad
      have z0 := (hq 0 (by omega)).1
      have hspot : spot = none := by simpa [Addr.add] using World.cell?_spot z0
      subst hspot
      rw [Addr.add_mid] at q0 q1 q2 q3 q4
      exact ⟨b, off, rfl, World.block_lt_of_cell? w _ q0, q0, by simpa [Nat.add_assoc] using q1, by simpa [Nat.add_assoc] using q2, by simpa [Nat.add_assoc] using q3, by simpa [Nat.add_assoc] using q4⟩
    · obtain ⟨_, _, _, _, _, f1, f2, f3, f4⟩ := hq i hi
      exact ⟨wf_I64 f1, wf_I64 f2, wf_I64 f3, f4⟩
end Go.Proofs.YtifjmldmilmfjaaGreatDoor
