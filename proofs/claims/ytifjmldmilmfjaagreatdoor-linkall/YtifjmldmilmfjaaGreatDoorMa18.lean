import Derived.Test.YtifjmldmilmfjaaGreatDoorMa07
import Derived.Test.YtifjmldmilmfjaaGreatDoorMa01
import Derived.Test.YtifjmldmilmfjaaGreatDoorCards
import Derived.Test.YtifjmldmilmfjaaGreatDoorTie
import Derived.ProofKit
import Derived.OpenShut
import Derived.ShutString
import Derived.SizedLaws
import Derived.Deep.DeepHandedRow
import Derived.LaidLaws
import Derived.LaidHandle
import Derived.Lib.LaidTab
import Derived.Deep.Slices
import Derived.Deep.Strs
import Derived.Lib.SmallJoins
import Derived.Stop.LaidErr
import Derived.Stop.LaidTwo
import Derived.Test.YtifjmldmilmfjaaGreatDoorMa15
import Derived.SliceStrings
import Derived.Deep.SlicePairs
namespace Go.Proofs.YtifjmldmilmfjaaGreatDoor
open Go.ChangeShapes Go.WideShapes Go.ChangeAt Go.RowKit
theorem own : ownKnob Tryz.prog.godebug = none := by kernel_rfl
theorem laidOut : laidOutB Tryz.prog = true := by kernel_rfl
theorem gEt : Tryz.prog.globalNamed "errors.errorType" = some 0 := by kernel_rfl
theorem gRt : (Tryz.prog.cutTypes.find? (·.1 == "internal/reflectlite.rtype")).map (·.2) = some 187 := by kernel_rfl
theorem gOne : ((List.range 227).filter fun t => Tryz.prog.rowNamed t [101, 114, 114, 111, 114]) = [147] := by kernel_rfl
theorem gSize : Tryz.prog.types.size = 227 := by kernel_rfl
theorem gTab : Tryz.prog.globalNamed "strongbox/hash.roundWords" = some 1 := by kernel_rfl
theorem gTabType : (Tryz.prog.globals[1]?).map (·.type) = some 154 := by kernel_rfl
theorem cells54 : Tryz.prog.cellsOf 154 = 64 := by kernel_rfl
theorem cells44 : Tryz.prog.cellsOf 42 = 1 := by kernel_rfl
theorem wf_I64 {z : Int} (h : (Lit.int .i64 z).wf = true) : I64 z := by
  simpa [I64, Lit.wf, IntKind.min, IntKind.max, IntKind.signed, IntKind.bits] using h
def laidQm : List (String × DataW Unit) := []
def laidPm : List (String × DataW Unit) := ("strongbox/hash.roundWords", Rows.laid_strongbox_hash_roundWords) :: laidQm
def laidL : List (String × DataW Unit) := ("strongbox/hash.roundWords", Rows.laid_strongbox_hash_roundWords) :: ("errors.errorType", Rows.laid_errors_errorType) :: laidQm
theorem laid_parts {W : World} (h : laidMetH Tryz.prog laidL W) : laidMet Tryz.prog laidPm W ∧ handlesMet Tryz.prog [("errors.errorType", Rows.laid_errors_errorType)] W := h
/-- What the row's list gives. -/
theorem ety_of {W : World} (h : laidMetH Tryz.prog laidL W) : ETy W := by
  obtain ⟨name, u, ty, e1, e2, e3, e4, e5⟩ := (laid_parts h).2 _ (List.mem_singleton.2 rfl)
  have en : name = [101, 114, 114, 111, 114] := (Option.some.inj e1).symm
  subst en
  obtain rfl := Option.some.inj (gRt.symm.trans e2)
  have hm : ty ∈ (List.range 227).filter fun t => Tryz.prog.rowNamed t [101, 114, 114, 111, 114] := List.mem_filter.2 ⟨List.mem_range.2 (by rw [← gSize]; exact e3), e4⟩
  rw [gOne] at hm
  obtain rfl := List.mem_singleton.1 hm
  have hh : typeHandle Tryz.prog 147 = .pointer (some ⟨2, 147, none⟩) := by kernel_rfl
  rw [hh] at e5
  have := World.var?_cell gEt e5 0
  unfold ETy
  simpa using this
set_option maxRecDepth 100000 in
theorem ktab_of {W : World} (h : laidMetH Tryz.prog laidL W) : KTab W := by
  have hT : Lib.TabIs Tryz.prog W "strongbox/hash.roundWords" .u32 kWords :=
    Lib.tabIs_of_head (rest := laidQm) gTab gTabType Tryz.underlying154 Tryz.underlying42 cells44 cells54 (laid_parts h).1
  have hc : ∀ j, j < 64 → W.cell? ⟨1, j, none⟩ = some (.int .u32 (kWords.getD j 0)) := fun j hj => hT.cell gTab j hj
  exact ⟨World.block_lt_of_cell? W _ (hc 0 (by decide)), hc⟩
/-- A world for the witness: the settled one, the variables laid. -/
noncomputable def laidWorld (os : Os) : World :=
  let w0 := World.holding Tryz.prog os ⟨#[], #[], []⟩
  { w0 with heap := (w0.heap.modify 0 fun
      | .cells _ t frozen => .cells #[.iface 187 (.agg #[.pointer (some ⟨2, 147, none⟩)])] t frozen
      | o => o).modify 1 fun
      | .cells _ t frozen => .cells (kWords.map (Value.int .u32)).toArray t frozen
      | o => o }
theorem laid_metA (os : Os) (args : Array Value) : laidMet Tryz.prog laidPm ((laidWorld os).forCall (fun _ _ => 0) ⟨#[], args, []⟩).memory :=
  laidMet_of_run' 80 (by kernel_rfl) (by kernel_rfl)
end Go.Proofs.YtifjmldmilmfjaaGreatDoor

namespace Go.Proofs.YtifjmldmilmfjaaGreatDoor
open Go.ChangeShapes Go.WideShapes Go.ChangeAt Go.RowKit
theorem weightsAll_mem {H : Type} {P : Program} {e : TypeId} : ∀ {l : List (DataW H)} {d : DataW H}, d ∈ l → ∀ n ∈ d.weights P e, n ∈ DataW.weightsAll P e l
  | x :: l, d, h, n, hn => by
    rw [DataW.weightsAll]
    rcases List.mem_cons.1 h with rfl | h
    · exact List.mem_append_left _ hn
    · exact List.mem_append_right _ (weightsAll_mem h n hn)
set_option maxRecDepth 100000 in
/-- An argument []string, with the bound that its texts' bytes make. -/
theorem open_sb {H : Type} {enc : TypeId × Value → H} {w : World} {base : Nat} {spare : Nat → Bool} {held : Bool} {fuel : Nat} {a : Option Addr} {len cap : Nat} {x : DataW H × List MemPlace} (h : DataW.trod enc Tryz.prog w base spare held fuel 22 [.slice a len cap] = some x)
    (hs : ∀ n ∈ x.1.weights Tryz.prog 22, n ≤ reachBytes) :
    ∃ l : List ByteArray, l.length = len ∧ SB w w.heap.size a l ∧ (∀ j, j < l.length → (l.getD j ⟨#[]⟩).size ≤ 140737488351232) ∧ len ≤ cap ∧ cap ≤ 9223372036854775807 ∧ (a = none → cap = 0) ∧ len ≤ 8796093021952 := by
  rcases open_strings Tryz.underlying22 Tryz.underlying9 (by kernel_rfl) h with ⟨hcs, _⟩ | ⟨ad, l, c, zs, hcs, _, hl, hm, hz, hd, hcell, _⟩
  · simp at hcs
    obtain ⟨rfl, rfl, rfl⟩ := hcs
    exact ⟨[], rfl, fun j hj => (by cases hj), fun t ht => (by cases ht), Nat.le_refl _, by omega, fun _ => rfl, by omega⟩
  · simp at hcs
    obtain ⟨rfl, rfl, rfl⟩ := hcs
    have hzl : len ≤ zs.length := by rw [hz]; split <;> omega
    have hlen : (zs.take len).length = len := by simp; omega
    have hb : Tryz.prog.bytesOf 9 = 16 := by kernel_rfl
    have hw := hs ((zs.length) * 16) (by
      rw [hd]
      simp only [DataW.weights, Tryz.underlying22, List.mem_cons]
      left
      rw [hb]
      simp [strs]
      omega)
    refine ⟨zs.take len, hlen, fun j hj => ?_, fun j hj => ?_, hl, hm, fun q => (by cases q), by unfold reachBytes at hw; omega⟩
    · rw [hlen] at hj
      have hc := hcell j (by omega)
      have hc0 := hcell 0 (by omega)
      obtain ⟨b, off, spot⟩ := ad
      have hspot : spot = none := by simpa [Addr.add] using World.cell?_spot hc0
      subst hspot
      rw [Addr.add_mid] at hc
      refine ⟨b, off, rfl, World.block_lt_of_cell? w _ hc, hc.trans ?_⟩
      rw [getD_take zs len j hj]
      rfl
    · have ht : (zs.take len).getD j ⟨#[]⟩ ∈ zs.take len := by
        rw [List.getD_eq_getElem?_getD, List.getElem?_eq_getElem hj]
        exact List.getElem_mem hj
      generalize (zs.take len).getD j ⟨#[]⟩ = t at *
      have hw : t.data.toList.length ≤ reachBytes := by
        refine hs _ ?_
        rw [hd]
        simp only [DataW.weights, Tryz.underlying22, List.mem_cons, List.mem_append]
        refine Or.inr (Or.inl (weightsAll_mem (d := .lit (.string t.data.toList)) (List.mem_map.2 ⟨t, ht, rfl⟩) _ ?_))
        simp [DataW.weights]
      have e : t.data.toList.length = t.size := rfl
      unfold reachBytes at hw
      omega
set_option maxRecDepth 100000 in
/-- An argument []int. -/
theorem open_ilK {H : Type} {enc : TypeId × Value → H} {w : World} {base : Nat} {spare : Nat → Bool} {held : Bool} {fuel : Nat} {a : Option Addr} {len cap : Nat} {x : DataW H × List MemPlace} (h : DataW.trod enc Tryz.prog w base spare held fuel 23 [.slice a len cap] = some x) :
    ∃ l : List Int, len = l.length ∧ IL w w.heap.size a l ∧ (∀ i, I64 (l.getD i 0)) ∧ len ≤ 9223372036854775807 := by
  have hML : (maxLen : Nat) = 9223372036854775807 := rfl
  rcases open_ints Tryz.underlying23 Tryz.underlying3 (by kernel_rfl) h with ⟨hcs, _⟩ | ⟨ad, l, c, zs, hcs, _, hl, hm, hz, hd, hcell, hwz⟩
  · simp at hcs
    obtain ⟨rfl, rfl, rfl⟩ := hcs
    exact ⟨[], rfl, fun j hj => (by cases hj), fun i => by simp [I64], by omega⟩
  · simp at hcs
    obtain ⟨rfl, rfl, rfl⟩ := hcs
    have hzl : len ≤ zs.length := by rw [hz]; split <;> omega
    have hlen : (zs.take len).length = len := by simp; omega
    refine ⟨zs.take len, hlen.symm, fun j hj => ?_, fun i => ?_, by omega⟩
    · rw [hlen] at hj
      have hc := hcell j (by omega)
      have hc0 := hcell 0 (by omega)
      obtain ⟨b, off, spot⟩ := ad
      have hspot : spot = none := by simpa [Addr.add] using World.cell?_spot hc0
      subst hspot
      rw [Addr.add_mid] at hc
      refine ⟨b, off, rfl, World.block_lt_of_cell? w _ hc, hc.trans ?_⟩
      rw [List.getD_eq_getElem?_getD (l := zs.take len), List.getElem?_take, if_pos hj, ← List.getD_eq_getElem?_getD]
    · by_cases hi : i < (zs.take len).length
      · rw [List.getD_eq_getElem?_getD, List.getElem?_eq_getElem hi]
        exact wf_I64 (hwz _ (List.mem_of_mem_take (List.getElem_mem hi)))
      · rw [List.getD_eq_getElem?_getD, List.getElem?_eq_none (by omega)]
        simp [I64]
set_option maxRecDepth 100000 in
/-- An argument []int, with the bound that its bytes make. -/
theorem open_ilzK {H : Type} {enc : TypeId × Value → H} {w : World} {base : Nat} {spare : Nat → Bool} {held : Bool} {fuel : Nat} {a : Option Addr} {len cap : Nat} {x : DataW H × List MemPlace} (h : DataW.trod enc Tryz.prog w base spare held fuel 23 [.slice a len cap] = some x)
    (hs : ∀ n ∈ x.1.weights Tryz.prog 23, n ≤ reachBytes) :
    ∃ l : List Int, len = l.length ∧ IL w w.heap.size a l ∧ (∀ i, I64 (l.getD i 0)) ∧ len ≤ 17592186044400 := by
  obtain ⟨l9, e1, e2, e3, _⟩ := open_ilK h
  refine ⟨l9, e1, e2, e3, ?_⟩
  rcases open_ints Tryz.underlying23 Tryz.underlying3 (by kernel_rfl) h with ⟨hcs, _⟩ | ⟨ad, l, cp, zs, hcs, _, hl, hm, hz, hd, hcell, hwz⟩
  · simp at hcs
    omega
  · simp at hcs
    obtain ⟨rfl, rfl, rfl⟩ := hcs
    have hzl : len ≤ zs.length := by rw [hz]; split <;> omega
    have hb : Tryz.prog.bytesOf 3 = 8 := by kernel_rfl
    have hw := hs ((zs.length) * 8) (by
      rw [hd]
      simp only [DataW.weights, Tryz.underlying23, List.mem_cons]
      left
      rw [hb]
      simp [lits]
      omega)
    unfold reachBytes at hw
    omega
end Go.Proofs.YtifjmldmilmfjaaGreatDoor
