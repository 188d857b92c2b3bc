import Derived.Test.YtilhilglokblpaaDoorHxg
import Derived.StillTailTactics
import Derived.Deep.RegionHeld3
namespace Go.Proofs.YtilhilglokblpaaDoor
open Go.RowKit
set_option maxHeartbeats 400000 in
theorem right_any (x n : Int) (w : World) (h0 : 0 ≤ n) (h1 : n ≤ 32) :
    Calls Tryd.prog 57 #[.int .u32 x, .int .i64 n] w fun e w' => e = .returned (.int .u32 (rotr x n)) ∧ ∃ m, w' = w.drewN m := by
  go_enter Tryd.func57, Tryd.ntmps57
  go_wp2
  go_quiet (fail)
  go_wp2
  go_ret
  exact ⟨rfl, _, rfl⟩
set_option maxRecDepth 100000 in
set_option maxHeartbeats 400000 in
theorem starts_any (w : World) :
    Calls Tryd.prog 45 #[] w fun e w' => e = .returned (.agg (start8.vals.map (Value.int .u32)).toArray) ∧ Below w.heap.size w w' := by
  go_enter Tryd.func45, Tryd.ntmps45
  go_wp2
  have hld := run_loadVar_mid (P := Tryd.prog) (w.alloc (Obj.cells (start8.vals.map (Value.int .u32)).toArray 80)) w.heap.size 0 80 _ _ (arr_new w .u32 start8.vals 80 _ rfl).range Tryd.underlying80 rfl (by rw [size80]; rfl)
  refine bodyPost_ret (v := .agg (start8.vals.map (Value.int .u32)).toArray) ?_ rfl ⟨rfl, (Below.refl _ _).alloc (Nat.le_refl _) _⟩
  exact results_cell rfl _ _ _ ⟨w.heap.size, 0, none⟩ rfl _ hld
end Go.Proofs.YtilhilglokblpaaDoor
