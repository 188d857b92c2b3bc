import Derived.Test.YtobmeiomfiepjaaGreatDoorXfj
import Derived.Test.YtobmeiomfiepjaaGreatDoorRba
import Derived.Test.YtobmeiomfiepjaaGreatDoorRck
namespace Go.Proofs.YtobmeiomfiepjaaGreatDoor
open Go.RowKit
set_option maxRecDepth 100000
theorem within_any (n lo hi : Int) (w : World) : Calls Tryz.prog 64 #[.int .i64 n, .int .i64 lo, .int .i64 hi] w fun e w' => e = .returned (.bool (decide (lo ≤ n ∧ n ≤ hi))) ∧ w' = w := by
  by_cases h0 : lo ≤ n
  · have hd : decide (n ≥ lo) = true := by simpa using h0
    have he : decide (lo ≤ n ∧ n ≤ hi) = decide (n ≤ hi) := by simp [h0]
    rw [he]
    clear h0 he
    generalize hdz : decide (n ≤ hi) = dz at *
    go_enter Tryz.func64, Tryz.ntmps64
    go_wp2
    go_ret
    exact ⟨rfl, rfl⟩
  · have hd : decide (n ≥ lo) = false := by simpa using h0
    have he : decide (lo ≤ n ∧ n ≤ hi) = false := by simp [h0]
    rw [he]
    clear h0 he
    go_enter Tryz.func64, Tryz.ntmps64
    go_wp2
    go_ret
    exact ⟨rfl, rfl⟩
theorem rnum_of (n k : Nat) (hn : n ≤ 9223372036854775807) (hk : k ≤ 8) (w : World) : Calls Tryz.prog 33 #[.int .i64 (n : Int), .int .i64 (k : Int)] w fun e w' => e = .returned (.string (strOfNums (numB (n : Int) k))) ∧ Below w.heap.size w w' := by
  have HB := hide (rbytes_any n k hn hk w)
  clear hn hk
  generalize strOfNums (numB (n : Int) k) = S at *
  go_enter Tryz.func33, Tryz.ntmps33
  go_wp2_with (go_at_call 65; refine (unhide HB).mono ?_; rintro e x ⟨rfl, hx⟩; have HX := hide hx; clear hx)
  go_ret
  exact ⟨rfl, unhide HX⟩
theorem kinds12 {k : Int} (h : 1 ≤ k ∧ k ≤ 12) : k = 1 ∨ k = 2 ∨ k = 3 ∨ k = 4 ∨ k = 5 ∨ k = 6 ∨ k = 7 ∨ k = 8 ∨ k = 9 ∨ k = 10 ∨ k = 11 ∨ k = 12 := by omega
set_option maxHeartbeats 4000000 in
theorem rsize_any (k : Int) (h : 1 ≤ k ∧ k ≤ 12) (w : World) : Calls Tryz.prog 42 #[.int .i64 k] w fun e w' => e = .returned (.int .i64 (szF (rqF k) : Int)) ∧ Below w.heap.size w w' := by
  rcases kinds12 h with rfl | rfl | rfl | rfl | rfl | rfl | rfl | rfl | rfl | rfl | rfl | rfl <;> clear h <;> (go_enter Tryz.func42, Tryz.ntmps42; go_wp2; go_ret; exact ⟨rfl, (Below.refl _ _).alloc (Nat.le_refl _) _⟩)
set_option maxHeartbeats 2000000 in
theorem low4_any (c : Nat) (hc : c ≤ 4294967295) (w : World) : Calls Tryz.prog 35 #[.int .i64 (c : Int)] w fun e w' => e = .returned (.string (strOfNums (le4 c))) ∧ Below w.heap.size w w' := by
  have HB := hide (Below.refl w.heap.size w)
  have HL := hide (show ∀ j : Nat, j < 4 → (le4 c).take (j + 1) = (le4 c).take j ++ [((c / 256 ^ j % 256 : Nat) : Int)] by
    intro j hj
    have : j = 0 ∨ j = 1 ∨ j = 2 ∨ j = 3 := by omega
    rcases this with rfl | rfl | rfl | rfl
    · simp [le4]
    · simp [le4]
    · simp [le4]
    · simp [le4]
      omega)
  have HE := hide (show (le4 c).take 4 = le4 c from rfl)
  have HC := hide hc
  generalize le4 c = L at *
  go_enter Tryz.func35, Tryz.ntmps35
  go_wp2
  go_loopw [0, 3, 4] (fun u s i wr => ∃ j m : Nat, j ≤ 4 ∧ m = c / 256 ^ j ∧ u = .int .i64 (m : Int) ∧ i = .int .i64 (j : Int) ∧ s = .string (strOfNums (L.take j)) ∧ Below w.heap.size w wr) (fun _ _ i _ => 4 - (intOf i).toNat)
  case atStart => exact ⟨0, c, by omega, by simp, rfl, rfl, rfl, unhide HB⟩
  case round =>
    obtain ⟨j, m, hj, hm, rfl, rfl, rfl, hB⟩ := hrel
    obtain ⟨wo, rfl⟩ : ∃ wo, wo = wr := ⟨_, rfl⟩
    have HBE := hide hB
    clear hB HB
    have hmc : m ≤ 4294967295 := by rw [hm]; exact Nat.le_trans (Nat.div_le_self _ _) (unhide HC)
    by_cases hj4 : j < 4
    · have hj' : (j : Int) < 4 := by omega
      have hr : ((m : Int)).tmod 256 = ((m % 256 : Nat) : Int) := rfl
      obtain ⟨R, hR⟩ : ∃ R, m % 256 = R := ⟨_, rfl⟩
      obtain ⟨Q, hQ⟩ : ∃ Q, m / 256 = Q := ⟨_, rfl⟩
      have hq : ((m : Int)).tdiv 256 = (Q : Int) := by rw [← hQ]; rfl
      rw [hR] at hr
      have hR8 : R < 256 := by omega
      have hw8 : IntKind.u8.wrap (R : Int) = (R : Int) := by rw [IntKind.wrap_u8']; omega
      have hcv := run_one wo (R : Int) 5
      have hsz : (strOfNums (L.take j)).size ≤ 4 := by rw [strOfNums_size, List.length_take]; omega
      have hs1 : (strOfNums [(R : Int)]).size = 1 := rfl
      have HN := hide (show strOfNums (L.take j) ++ strOfNums [(R : Int)] = strOfNums (L.take (j + 1)) by
        rw [← strOfNums_app, unhide HL j hj4, ← hm, hR])
      have HQ := hide (show Q = c / 256 ^ (j + 1) by rw [← hQ, hm, Nat.div_div_eq_div_mul, Nat.pow_succ])
      have hQl : Q ≤ m := by rw [← hQ]; exact Nat.div_le_self _ _
      clear hR hQ hm
      generalize strOfNums (L.take j) = S at *
      generalize strOfNums [(R : Int)] = S1 at *
      have y1 : ¬ 9223372036854775807 < S.size + S1.size := by omega
      go_wp2
      go_roundw
      case rel => exact ⟨j + 1, Q, by omega, unhide HQ, by go_num, by go_num, by rw [unhide HN], (unhide HBE).alloc (by have := (unhide HBE).size; omega) _⟩
      all_goals (simp [intOf]; omega)
    · have hj' : ¬ (j : Int) < 4 := by omega
      obtain rfl : j = 4 := by omega
      rw [unhide HE]
      go_wp2
      go_ret
      exact ⟨rfl, unhide HBE⟩
end Go.Proofs.YtobmeiomfiepjaaGreatDoor
