import Derived.Test.YtkileaocgecckabDoorHxg
import Derived.StillTailTactics
import Derived.Deep.RegionHeld3
namespace Go.Proofs.YtkileaocgecckabDoor
open Go.RowKit
set_option maxHeartbeats 400000 in
theorem right_any (x n : Int) (w : World) (h0 : 0 ≤ n) (h1 : n ≤ 32) :
    Calls Tryd.prog 68 #[.int .u32 x, .int .i64 n] w fun e w' => e = .returned (.int .u32 (rotr x n)) ∧ ∃ m, w' = w.drewN m := by
  go_enter Tryd.func68, Tryd.ntmps68
  go_wp2
  go_quiet (fail)
  go_wp2
  go_ret
  exact ⟨rfl, _, rfl⟩
set_option maxRecDepth 100000 in
set_option maxHeartbeats 400000 in
theorem starts_any (w : World) :
    Calls Tryd.prog 54 #[] w fun e w' => e = .returned (.agg (start8.vals.map (Value.int .u32)).toArray) ∧ Below w.heap.size w w' := by
  go_enter Tryd.func54, Tryd.ntmps54
  go_wp2
  have hld := run_loadVar_mid (P := Tryd.prog) (w.alloc (Obj.cells (start8.vals.map (Value.int .u32)).toArray 82)) w.heap.size 0 82 _ _ (arr_new w .u32 start8.vals 82 _ rfl).range Tryd.underlying82 rfl (by rw [size82]; rfl)
  refine bodyPost_ret (v := .agg (start8.vals.map (Value.int .u32)).toArray) ?_ rfl ⟨rfl, (Below.refl _ _).alloc (Nat.le_refl _) _⟩
  exact results_cell rfl _ _ _ ⟨w.heap.size, 0, none⟩ rfl _ hld
end Go.Proofs.YtkileaocgecckabDoor
