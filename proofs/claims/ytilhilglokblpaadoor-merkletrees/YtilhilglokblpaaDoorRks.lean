import Derived.Test.YtilhilglokblpaaDoorMix
namespace Go.Proofs.YtilhilglokblpaaDoor
open Go.RowKit
theorem klen : kWords.length = 64 := by decide
set_option maxRecDepth 100000 in
set_option maxHeartbeats 400000 in
theorem ks_any (w : World) :
    Calls Tryd.prog 46 #[] w fun e w' => e = .returned (.agg (kWords.map (Value.int .u32)).toArray) ∧ Below w.heap.size w w' := by
  have HN := hide ((arr_new w .u32 (List.replicate 64 0) 82 _ rfl).there)
  go_enter Tryd.func46, Tryd.ntmps46
  go_wp2_with (refine wpList_store_to rfl 82 (.tmp 0) (.tmp 1) rfl w.heap.size 0 (kWords.map (Value.int .u32)).toArray rfl rfl (unhide HN) (by rw [size82]; simp [klen]) (one_ints _ _) ?_; intro W2 hW2; have HW2 := hide hW2; clear hW2)
  have hA : Arr W2 w.heap.size 0 .u32 kWords := by
    rw [unhide HW2]
    exact (arr_new w .u32 (List.replicate 64 0) 82 _ rfl).setCells kWords (by rw [klen]; simp)
  have hB : Below w.heap.size w W2 := by
    rw [unhide HW2]
    exact below_setCells (Nat.le_refl _) _ _ ((Below.refl _ _).alloc (Nat.le_refl _) _)
  have hld := run_loadVar_mid (P := Tryd.prog) W2 w.heap.size 0 82 _ _ hA.range Tryd.underlying82 rfl (by rw [size82, List.length_map, klen])
  refine bodyPost_ret (v := .agg (kWords.map (Value.int .u32)).toArray) ?_ rfl ⟨rfl, hB⟩
  exact results_cell rfl _ _ _ ⟨w.heap.size, 0, none⟩ rfl _ hld
end Go.Proofs.YtilhilglokblpaaDoor
