import Derived.Test.YtbnefbncjnfjdaaDoorHxg
namespace Go.Proofs.YtbnefbncjnfjdaaDoor
open Go.RowKit
/-- A number by so many bytes, the highest first. -/
def numB (v : Int) (size : Nat) : List Int := (List.range size).map (fun i => v / 2 ^ (8 * (size - 1 - i)) % 256)
theorem numB_len (v : Int) (size : Nat) : (numB v size).length = size := by simp [numB]
theorem numB_bytes (v : Int) (size : Nat) : Bytes (numB v size) := by
  intro j
  by_cases h : j < size
  · have : (numB v size).getD j 0 = v / 2 ^ (8 * (size - 1 - j)) % 256 := by simp [numB, h]
    rw [this]
    omega
  · have : (numB v size).getD j 0 = 0 := by simp [numB, h]
    rw [this]
    omega
theorem numB_drop (v : Int) (size m : Nat) (h : m < size) : (numB v size).drop m = (v / 2 ^ (8 * (size - 1 - m)) % 256) :: (numB v size).drop (m + 1) := by
  have hl : m < (numB v size).length := by rw [numB_len]; exact h
  rw [List.drop_eq_getElem_cons hl]
  congr 1
  simp [numB]
theorem num_step (v : Int) (size m k : Nat) (hm : m + 1 + k = size) (x : Int) (hx : x = v / 2 ^ (8 * k) % 256) : (List.replicate (m + 1) (0 : Int) ++ (numB v size).drop (m + 1)).set m x = List.replicate m 0 ++ (numB v size).drop m := by
  rw [numB_drop v size m (by omega), hx, show size - 1 - m = k by omega, List.set_append, if_pos (by simp), List.replicate_succ', List.set_append, if_neg (by simp)]
  simp
theorem shr_step (v : Int) (k : Nat) : v / 2 ^ (8 * k) / 256 = v / 2 ^ (8 * (k + 1)) := by
  rw [Int.ediv_ediv_of_nonneg (by exact Int.pow_nonneg (by omega)), show 8 * (k + 1) = 8 * k + 8 by omega, Int.pow_add]
  rfl
set_option maxRecDepth 100000 in
set_option maxHeartbeats 400000 in
theorem number_any (v : Int) (size : Nat) (h0 : 0 ≤ v) (_h1 : v ≤ 9223372036854775807) (hs : size ≤ 8) (w : World) :
    Calls Tryd.prog 49 #[.int .i64 v, .int .i64 (size : Int)] w fun e w' => e = .returned (.string (strOfNums (numB v size))) ∧ Below w.heap.size w w' := by
  have hmk := fun W => run_make_u8 size size (by omega) (by omega) W
  go_enter Tryd.func49, Tryd.ntmps49
  go_wp2
  clear hmk
  go_loopw [0, 6] (fun u i wr => ∃ (k m : Nat), m + k = size ∧ u = .int .i64 (v / 2 ^ (8 * k)) ∧ i = .int .i64 ((m : Int) - 1) ∧ KeyInv w (List.replicate m 0 ++ (numB v size).drop m) wr) (fun _ i _ => ((intOf i) + 1).toNat)
  case atStart =>
    have h : KeyInv w (List.replicate size 0) (w.alloc (Obj.cells (Array.replicate size (Value.int .u8 0)) 5)) := ⟨arr_new w .u8 (List.replicate size 0) 5 _ (by simp), (Below.refl _ _).alloc (Nat.le_refl _) _, by simp⟩
    refine ⟨0, size, by omega, by simp, by go_num, ?_⟩
    rw [List.drop_of_length_le (by rw [numB_len]; exact Nat.le_refl _), List.append_nil]
    exact h
  case round =>
    obtain ⟨k, m, hmk, rfl, rfl, hI⟩ := hrel
    cases m with
    | zero =>
      rw [List.replicate_zero, List.nil_append, List.drop_zero] at hI
      have hcv := run_convert_bytes_arg (P := Tryd.prog) wr 37 5 Tryd.underlying37 Tryd.underlying5 w.heap.size 0 size size (numB v size) (numB_len v size) (fun i hi => hI.1.get i (by rw [numB_len]; omega)) 9 Tryd.underlying9
      have HB := hide hI.2.1
      clear hI
      go_wp2
      go_ret
      exact ⟨rfl, unhide HB⟩
    | succ m =>
      have hv0 : 0 ≤ v / 2 ^ (8 * k) := Int.ediv_nonneg h0 (Int.pow_nonneg (by omega))
      have hv1 : v / 2 ^ (8 * k) ≤ v := Int.ediv_le_self _ h0
      have hlen : (List.replicate (m + 1) (0 : Int) ++ (numB v size).drop (m + 1)).length = size := by simp [numB_len]; omega
      have c1 := hI.1.get0 m (by omega)
      have f1 := hI.1.free0 m (by omega)
      have HN := hide (num_step v size m k (by omega) _ rfl)
      have HS := hide (shr_step v k)
      have HI := hide hI
      have hm : m < size := by omega
      generalize (List.replicate (m + 1) (0 : Int) ++ (numB v size).drop (m + 1)).getD m 0 = y at *
      generalize v / 2 ^ (8 * k) = u at *
      have hmi : ((m + 1 : Nat) : Int) - 1 = (m : Int) := by omega
      rw [hmi]
      clear hI hmi
      go_wp2
      go_roundw
      case rel => exact ⟨k + 1, m, by omega, by rw [← unhide HS], by go_num, (unhide HI).put m (by omega) _ (unhide HN)⟩
      case measure => simp [intOf]
set_option maxRecDepth 100000 in
set_option maxHeartbeats 400000 in
theorem rnumber_any (v : Int) (size : Nat) (h0 : 0 ≤ v) (h1 : v ≤ 9223372036854775807) (hs : size ≤ 8) (w : World) :
    Calls Tryd.prog 48 #[.int .i64 v, .int .i64 (size : Int)] w fun e w' => e = .returned (.string (strOfNums (numB v size))) ∧ Below w.heap.size w w' := by
  have hmk := fun W => run_make_u8 size size (by omega) (by omega) W
  go_enter Tryd.func48, Tryd.ntmps48
  go_wp2
  clear hmk
  go_loopw [0, 6] (fun u i wr => ∃ (k m : Nat), m + k = size ∧ u = .int .i64 (v / 2 ^ (8 * k)) ∧ i = .int .i64 ((m : Int) - 1) ∧ KeyInv w (List.replicate m 0 ++ (numB v size).drop m) wr) (fun _ i _ => ((intOf i) + 1).toNat)
  case atStart =>
    have h : KeyInv w (List.replicate size 0) (w.alloc (Obj.cells (Array.replicate size (Value.int .u8 0)) 5)) := ⟨arr_new w .u8 (List.replicate size 0) 5 _ (by simp), (Below.refl _ _).alloc (Nat.le_refl _) _, by simp⟩
    refine ⟨0, size, by omega, by simp, by go_num, ?_⟩
    rw [List.drop_of_length_le (by rw [numB_len]; exact Nat.le_refl _), List.append_nil]
    exact h
  case round =>
    obtain ⟨k, m, hmk, rfl, rfl, hI⟩ := hrel
    cases m with
    | zero =>
      rw [List.replicate_zero, List.nil_append, List.drop_zero] at hI
      have hcv := run_convert_bytes_arg (P := Tryd.prog) wr 37 5 Tryd.underlying37 Tryd.underlying5 w.heap.size 0 size size (numB v size) (numB_len v size) (fun i hi => hI.1.get i (by rw [numB_len]; omega)) 9 Tryd.underlying9
      have HB := hide hI.2.1
      clear hI
      go_wp2
      go_ret
      exact ⟨rfl, unhide HB⟩
    | succ m =>
      have hv0 : 0 ≤ v / 2 ^ (8 * k) := Int.ediv_nonneg h0 (Int.pow_nonneg (by omega))
      have hv1 : v / 2 ^ (8 * k) ≤ v := Int.ediv_le_self _ h0
      have hlen : (List.replicate (m + 1) (0 : Int) ++ (numB v size).drop (m + 1)).length = size := by simp [numB_len]; omega
      have c1 := hI.1.get0 m (by omega)
      have f1 := hI.1.free0 m (by omega)
      have HN := hide (num_step v size m k (by omega) _ rfl)
      have HS := hide (shr_step v k)
      have HI := hide hI
      have hm : m < size := by omega
      generalize (List.replicate (m + 1) (0 : Int) ++ (numB v size).drop (m + 1)).getD m 0 = y at *
      generalize v / 2 ^ (8 * k) = u at *
      have hmi : ((m + 1 : Nat) : Int) - 1 = (m : Int) := by omega
      rw [hmi]
      clear hI hmi
      have e1 : Int.tmod u 256 = u % 256 := Int.tmod_eq_emod_of_nonneg hv0
      have e2 : Int.tdiv u 256 = u / 256 := Int.tdiv_eq_ediv_of_nonneg hv0
      go_wp2
      go_roundw
      case rel => exact ⟨k + 1, m, by omega, by rw [← unhide HS], by go_num, (unhide HI).put m (by omega) _ (unhide HN)⟩
      case measure => simp [intOf]
end Go.Proofs.YtbnefbncjnfjdaaDoor
