import Derived.Test.YtkileaocgecckabDoorMix
import Derived.Test.YtkileaocgecckabDoorCards
import Derived.Test.YtkileaocgecckabDoorTie
import Derived.ProofKit
import Derived.OpenShut
import Derived.ShutString
import Derived.SizedLaws
import Derived.Deep.DeepHandedRow
import Derived.Lib.LaidTab
namespace Go.Proofs.YtkileaocgecckabDoor
open Go.ChangeShapes Go.WideShapes Go.ChangeAt Go.RowKit
theorem own : ownKnob Tryd.prog.godebug = none := by kernel_rfl
theorem laidOut : laidOutB Tryd.prog = true := by kernel_rfl
theorem gTab : Tryd.prog.globalNamed "strongbox/hash.roundWords" = some 2 := by kernel_rfl
theorem gTabType : (Tryd.prog.globals[2]?).map (·.type) = some 84 := by kernel_rfl
theorem cells54 : Tryd.prog.cellsOf 84 = 64 := by kernel_rfl
theorem cells44 : Tryd.prog.cellsOf 81 = 1 := by kernel_rfl
def laidL : List (String × DataW Unit) := [("strongbox/hash.roundWords", Rows.laid_strongbox_hash_roundWords)]
set_option maxRecDepth 100000 in
/-- What the row's list gives. -/
theorem ktab_of {W : World} (h : laidMetH Tryd.prog laidL W) : KTab W := by
  have hT : Lib.TabIs Tryd.prog W "strongbox/hash.roundWords" .u32 kWords :=
    Lib.tabIs_of_head (rest := []) gTab gTabType Tryd.underlying84 Tryd.underlying81 cells44 cells54 h
  have hc : ∀ j, j < 64 → W.cell? ⟨2, j, none⟩ = some (.int .u32 (kWords.getD j 0)) := fun j hj => hT.cell gTab j hj
  exact ⟨World.block_lt_of_cell? W _ (hc 0 (by decide)), hc⟩
/-- A world for the witness: the settled one, the table holding what its initialiser lays. -/
noncomputable def laidWorld (os : Os) : World :=
  { World.holding Tryd.prog os ⟨#[], #[], []⟩ with heap := (World.holding Tryd.prog os ⟨#[], #[], []⟩).heap.modify 2 fun
      | .cells _ t frozen => .cells (kWords.map (Value.int .u32)).toArray t frozen
      | o => o }
end Go.Proofs.YtkileaocgecckabDoor
