import Derived.Test.YtnfdedolgfcmfaaGreatDoorMra07
import Derived.Test.YtnfdedolgfcmfaaGreatDoorMra01
import Derived.Test.YtnfdedolgfcmfaaGreatDoorCards
import Derived.Test.YtnfdedolgfcmfaaGreatDoorTie
import Derived.ProofKit
import Derived.OpenShut
import Derived.ShutString
import Derived.SizedLaws
import Derived.Deep.DeepHandedRow
import Derived.LaidLaws
import Derived.LaidHandle
import Derived.Lib.LaidTab
import Derived.Deep.Slices
import Derived.Deep.Strs
import Derived.Lib.SmallJoins
import Derived.Stop.LaidErr
import Derived.Stop.LaidTwo
namespace Go.Proofs.YtnfdedolgfcmfaaGreatDoor
open Go.ChangeShapes Go.WideShapes Go.ChangeAt Go.RowKit
theorem own : ownKnob Tryz.prog.godebug = none := by kernel_rfl
theorem laidOut : laidOutB Tryz.prog = true := by kernel_rfl
theorem gEt : Tryz.prog.globalNamed "errors.errorType" = some 0 := by kernel_rfl
theorem gRt : (Tryz.prog.cutTypes.find? (·.1 == "internal/reflectlite.rtype")).map (·.2) = some 257 := by kernel_rfl
theorem gOne : ((List.range 311).filter fun t => Tryz.prog.rowNamed t [101, 114, 114, 111, 114]) = [200] := by kernel_rfl
theorem gSize : Tryz.prog.types.size = 311 := by kernel_rfl
theorem gTab : Tryz.prog.globalNamed "strongbox/hash.roundWords" = some 2 := by kernel_rfl
theorem gTabType : (Tryz.prog.globals[2]?).map (·.type) = some 245 := by kernel_rfl
theorem cells54 : Tryz.prog.cellsOf 245 = 64 := by kernel_rfl
theorem cells44 : Tryz.prog.cellsOf 162 = 1 := by kernel_rfl
def laidQm : List (String × DataW Unit) := []
def laidPm : List (String × DataW Unit) := ("strongbox/hash.roundWords", Rows.laid_strongbox_hash_roundWords) :: laidQm
def laidL : List (String × DataW Unit) := ("strongbox/hash.roundWords", Rows.laid_strongbox_hash_roundWords) :: ("errors.errorType", Rows.laid_errors_errorType) :: laidQm
theorem laid_parts {W : World} (h : laidMetH Tryz.prog laidL W) : laidMet Tryz.prog laidPm W ∧ handlesMet Tryz.prog [("errors.errorType", Rows.laid_errors_errorType)] W := h
/-- What the row's list gives. -/
theorem ety_of {W : World} (h : laidMetH Tryz.prog laidL W) : ETy W := by
  obtain ⟨name, u, ty, e1, e2, e3, e4, e5⟩ := (laid_parts h).2 _ (List.mem_singleton.2 rfl)
  have en : name = [101, 114, 114, 111, 114] := (Option.some.inj e1).symm
  subst en
  obtain rfl := Option.some.inj (gRt.symm.trans e2)
  have hm : ty ∈ (List.range 311).filter fun t => Tryz.prog.rowNamed t [101, 114, 114, 111, 114] := List.mem_filter.2 ⟨List.mem_range.2 (by rw [← gSize]; exact e3), e4⟩
  rw [gOne] at hm
  obtain rfl := List.mem_singleton.1 hm
  have hh : typeHandle Tryz.prog 200 = .pointer (some ⟨3, 200, none⟩) := by kernel_rfl
  rw [hh] at e5
  have := World.var?_cell gEt e5 0
  unfold ETy
  simpa using this
set_option maxRecDepth 100000 in
theorem ktab_of {W : World} (h : laidMetH Tryz.prog laidL W) : KTab W := by
  have hT : Lib.TabIs Tryz.prog W "strongbox/hash.roundWords" .u32 kWords :=
    Lib.tabIs_of_head (rest := laidQm) gTab gTabType Tryz.underlying245 Tryz.underlying162 cells44 cells54 (laid_parts h).1
  have hc : ∀ j, j < 64 → W.cell? ⟨2, j, none⟩ = some (.int .u32 (kWords.getD j 0)) := fun j hj => hT.cell gTab j hj
  exact ⟨World.block_lt_of_cell? W _ (hc 0 (by decide)), hc⟩
/-- A world for the witness: the settled one, the variables laid. -/
noncomputable def laidWorld (os : Os) : World :=
  let w0 := World.holding Tryz.prog os ⟨#[], #[], []⟩
  { w0 with heap := (w0.heap.modify 0 fun
      | .cells _ t frozen => .cells #[.iface 257 (.agg #[.pointer (some ⟨3, 200, none⟩)])] t frozen
      | o => o).modify 2 fun
      | .cells _ t frozen => .cells (kWords.map (Value.int .u32)).toArray t frozen
      | o => o }
theorem laid_metA (os : Os) (args : Array Value) : laidMet Tryz.prog laidPm ((laidWorld os).forCall (fun _ _ => 0) ⟨#[], args, []⟩).memory :=
  laidMet_of_run' 80 (by kernel_rfl) (by kernel_rfl)
end Go.Proofs.YtnfdedolgfcmfaaGreatDoor
