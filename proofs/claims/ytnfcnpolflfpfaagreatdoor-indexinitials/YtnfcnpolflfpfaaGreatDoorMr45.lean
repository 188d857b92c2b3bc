import Derived.Test.YtnfcnpolflfpfaaGreatDoorMr05
import Derived.Test.YtnfcnpolflfpfaaGreatDoorMr21
namespace Go.Proofs.YtnfcnpolflfpfaaGreatDoor
open Go.RowKit
set_option maxRecDepth 100000 in
set_option maxHeartbeats 1000000 in
theorem rzeros_any (n : Nat) (hn : n ≤ 244) (w : World) :
    Calls Tryz.prog 115 #[.int .i64 (n : Int)] w fun e w' => e = .returned (.string (strOfNums (List.replicate n 0))) ∧ Below w.heap.size w w' := by
  obtain ⟨zc, hzc⟩ : ∃ zc : Array Value, zc = ((List.replicate n (0 : Int)).map (Value.int .u8)).toArray := ⟨_, rfl⟩
  have hmk : ∀ W : World, (Instr.makeSlice 49 (.int .i64 (n : Int)) (.int .i64 (n : Int))).run Tryz.prog W = .ok (.slice (some ⟨W.heap.size, 0, none⟩) n n) (W.alloc (.cells zc 5)) := by
    intro W
    rw [hzc]
    exact run_make_u8 n n (Nat.le_refl _) (by omega) W
  have hA := arr_new w .u8 (List.replicate n 0) 5 zc hzc
  have hcv := run_convert_bytes_arg (P := Tryz.prog) (w.alloc (Obj.cells zc 5)) 49 5 Tryz.underlying49 Tryz.underlying5 w.heap.size 0 n n (List.replicate n 0) (by simp) (fun i hi => hA.get i (by simpa using hi)) 9 Tryz.underlying9
  obtain ⟨Z, hZ⟩ : ∃ Z, strOfNums (List.replicate n 0) = Z := ⟨_, rfl⟩
  rw [hZ] at hcv ⊢
  clear hA hzc hZ
  go_enter Tryz.func115, Tryz.ntmps115
  go_wp2
  go_ret
  exact ⟨rfl, (Below.refl _ w).alloc (Nat.le_refl _) _⟩
end Go.Proofs.YtnfcnpolflfpfaaGreatDoor
