import Derived.Test.YtilhilglokblpaaDoorQtz
import Derived.Test.YtilhilglokblpaaDoorCards
import Derived.Test.YtilhilglokblpaaDoorTie
import Derived.ProofKit
import Derived.OpenShut
import Derived.ShutString
import Derived.SizedLaws
import Derived.Deep.DeepHandedRow
import Derived.Lib.LaidTab
import Derived.Stop.LaidErr
namespace Go.Proofs.YtilhilglokblpaaDoor
open Go.ChangeShapes Go.WideShapes Go.ChangeAt Go.RowKit
theorem own : ownKnob Tryd.prog.godebug = none := by kernel_rfl
theorem laidOut : laidOutB Tryd.prog = true := by kernel_rfl
theorem gTab : Tryd.prog.globalNamed "strongbox/hash.roundWords" = some 2 := by kernel_rfl
theorem gTabType : (Tryd.prog.globals[2]?).map (·.type) = some 82 := by kernel_rfl
theorem cells54 : Tryd.prog.cellsOf 82 = 64 := by kernel_rfl
theorem cells44 : Tryd.prog.cellsOf 69 = 1 := by kernel_rfl
theorem gTabB : Tryd.prog.globalNamed "math/bits.deBruijn64tab" = some 1 := by kernel_rfl
theorem gTabBType : (Tryd.prog.globals[1]?).map (·.type) = some 89 := by kernel_rfl
theorem cellsB64 : Tryd.prog.cellsOf 89 = 64 := by kernel_rfl
theorem cellsB1 : Tryd.prog.cellsOf 5 = 1 := by kernel_rfl
theorem wf_I64 {z : Int} (h : (Lit.int .i64 z).wf = true) : I64 z := by
  simpa [I64, Lit.wf, IntKind.min, IntKind.max, IntKind.signed, IntKind.bits] using h
def laidKm : List (String × DataW Unit) := [("strongbox/hash.roundWords", Rows.laid_strongbox_hash_roundWords)]
def laidBm : List (String × DataW Unit) := ("math/bits.deBruijn64tab", Rows.laid_math_bits_deBruijn64tab) :: laidKm
def laidL : List (String × DataW Unit) := ("math/bits.deBruijn32tab", Rows.laid_math_bits_deBruijn32tab) :: laidBm
theorem laid_plain {W : World} (h : laidMetH Tryd.prog laidL W) : laidMet Tryd.prog laidL W := h
set_option maxRecDepth 100000 in
/-- What the row's list gives. -/
theorem ktab_of {W : World} (h : laidMetH Tryd.prog laidL W) : KTab W := by
  have hT : Lib.TabIs Tryd.prog W "strongbox/hash.roundWords" .u32 kWords :=
    Lib.tabIs_of_head (rest := []) gTab gTabType Tryd.underlying82 Tryd.underlying69 cells44 cells54 (laid_plain h).tail.tail
  have hc : ∀ j, j < 64 → W.cell? ⟨2, j, none⟩ = some (.int .u32 (kWords.getD j 0)) := fun j hj => hT.cell gTab j hj
  exact ⟨World.block_lt_of_cell? W _ (hc 0 (by decide)), hc⟩
set_option maxRecDepth 100000 in
theorem btab_of {W : World} (h : laidMetH Tryd.prog laidL W) : BTab W := by
  have hT : Lib.TabIs Tryd.prog W "math/bits.deBruijn64tab" .u8 bWords :=
    Lib.tabIs_of_head (rest := laidKm) gTabB gTabBType Tryd.underlying89 Tryd.underlying5 cellsB1 cellsB64 (laid_plain h).tail
  have hc : ∀ j, j < 64 → W.cell? ⟨1, j, none⟩ = some (.int .u8 (bWords.getD j 0)) := fun j hj => hT.cell gTabB j hj
  exact ⟨World.block_lt_of_cell? W _ (hc 0 (by decide)), hc⟩
def litV : DataW Unit → List Value
  | .lit (.int k v) => [.int k v]
  | _ => []
def rowV : DataW Unit → List Value
  | .agg l => l.flatMap litV
  | _ => []
noncomputable def laidWorld1 (os : Os) : World :=
  { World.holding Tryd.prog os ⟨#[], #[], []⟩ with heap := (World.holding Tryd.prog os ⟨#[], #[], []⟩).heap.modify 0 fun
      | .cells _ t frozen => .cells (rowV Rows.laid_math_bits_deBruijn32tab).toArray t frozen
      | o => o }
noncomputable def laidWorld2 (os : Os) : World :=
  { laidWorld1 os with heap := (laidWorld1 os).heap.modify 1 fun
      | .cells _ t frozen => .cells (rowV Rows.laid_math_bits_deBruijn64tab).toArray t frozen
      | o => o }
/-- A world for the witness: the three tables laid. -/
noncomputable def laidWorld (os : Os) : World :=
  { laidWorld2 os with heap := (laidWorld2 os).heap.modify 2 fun
      | .cells _ t frozen => .cells (rowV Rows.laid_strongbox_hash_roundWords).toArray t frozen
      | o => o }
end Go.Proofs.YtilhilglokblpaaDoor
