import Derived.Test.YtolblldpdgfkmaaDoorBas
import Derived.Test.YtolblldpdgfkmaaDoorCards
import Derived.Test.YtolblldpdgfkmaaDoorTie
import Derived.ProofKit
import Derived.OpenShut
import Derived.ShutString
import Derived.SizedLaws
import Derived.Deep.DeepHandedRow
import Derived.LaidLaws
namespace Go.Proofs.YtolblldpdgfkmaaDoor
open Go.ChangeShapes Go.WideShapes Go.ChangeAt Go.RowKit
theorem own : ownKnob Tryd.prog.godebug = none := by kernel_rfl
theorem wf_I64 {z : Int} (h : (Lit.int .i64 z).wf = true) : I64 z := by
  simpa [I64, Lit.wf, IntKind.min, IntKind.max, IntKind.signed, IntKind.bits] using h
/-- The cells of a number that is laid. -/
def litV : DataW Unit → List Value
  | .lit (.int k v) => [.int k v]
  | _ => []
/-- The cells of a row of numbers. -/
def rowV : DataW Unit → List Value
  | .agg l => l.flatMap litV
  | _ => []
/-- The cells of a row of rows of numbers. -/
def rowsV : DataW Unit → List Value
  | .agg l => l.flatMap rowV
  | _ => []
/-- The settled world, one table of utf8 holding what its initialiser lays. -/
noncomputable def laidWorld1 (os : Os) : World :=
  { World.holding Tryd.prog os ⟨#[], #[], []⟩ with heap := (World.holding Tryd.prog os ⟨#[], #[], []⟩).heap.modify 2 fun
      | .cells _ t frozen => .cells (rowsV Rows.laid_unicode_utf8_acceptRanges).toArray t frozen
      | o => o }
/-- A world for the witness: both tables laid. -/
noncomputable def laidWorld (os : Os) : World :=
  { laidWorld1 os with heap := (laidWorld1 os).heap.modify 1 fun
      | .cells _ t frozen => .cells (rowV Rows.laid_unicode_utf8_first).toArray t frozen
      | o => o }
end Go.Proofs.YtolblldpdgfkmaaDoor
