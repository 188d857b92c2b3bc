import Derived.Test.YtokaomlhnmbajabDoorKey
namespace Go.Proofs.YtokaomlhnmbajabDoor
open Go.RowKit
/-- The number that a sign stands for; below 0: none. -/
def sgn (x : Int) : Int := if 48 ≤ x ∧ x ≤ 57 then x - 48 else if 97 ≤ x ∧ x ≤ 102 then x - 87 else -1
set_option maxHeartbeats 400000 in
theorem sign_digit (x : Int) (h1 : 48 ≤ x) (h2 : x ≤ 57) (w : World) :
    Calls Tryd.prog 28 #[.int .u8 x] w fun e w' => e = .returned (.tuple #[.int .u8 (x - 48), .bool true]) ∧ w' = w := by
  go_enter Tryd.func28, Tryd.ntmps28
  go_wp2
  go_ret2
  exact ⟨rfl, rfl⟩
set_option maxHeartbeats 400000 in
theorem sign_letter (x : Int) (h1 : 97 ≤ x) (h2 : x ≤ 102) (w : World) :
    Calls Tryd.prog 28 #[.int .u8 x] w fun e w' => e = .returned (.tuple #[.int .u8 (x - 87), .bool true]) ∧ w' = w := by
  have e1 : x - 97 + 10 = x - 87 := by omega
  have hd : decide (x ≤ 57) = false := by simp; omega
  go_enter Tryd.func28, Tryd.ntmps28
  go_wp2
  go_ret2
  exact ⟨by simp, rfl⟩
set_option maxHeartbeats 400000 in
theorem sign_none (x : Int) (h : sgn x = -1) (w : World) :
    Calls Tryd.prog 28 #[.int .u8 x] w fun e w' => e = .returned (.tuple #[.int .u8 0, .bool false]) ∧ w' = w := by
  have h3 : x < 48 ∨ (57 < x ∧ x < 97) ∨ 102 < x := by
    unfold sgn at h
    split at h
    · omega
    · split at h <;> omega
  rcases h3 with h3 | ⟨h3, h4⟩ | h3
  · have d1 : decide (48 ≤ x) = false := by simp; omega
    have d2 : decide (97 ≤ x) = false := by simp; omega
    clear h
    go_enter Tryd.func28, Tryd.ntmps28
    go_wp2
    go_ret2
    exact ⟨rfl, rfl⟩
  · have d1 : decide (x ≤ 57) = false := by simp; omega
    have d2 : decide (97 ≤ x) = false := by simp; omega
    clear h
    go_enter Tryd.func28, Tryd.ntmps28
    go_wp2
    go_ret2
    exact ⟨rfl, rfl⟩
  · have d1 : decide (x ≤ 57) = false := by simp; omega
    have d2 : decide (x ≤ 102) = false := by simp; omega
    clear h
    go_enter Tryd.func28, Tryd.ntmps28
    go_wp2
    go_ret2
    exact ⟨rfl, rfl⟩
theorem sgn_cases (x : Int) (h : 0 ≤ sgn x) : (48 ≤ x ∧ x ≤ 57 ∧ sgn x = x - 48) ∨ (97 ≤ x ∧ x ≤ 102 ∧ sgn x = x - 87) := by
  unfold sgn at *
  split at h
  · left; omega
  · split at h
    · right; rename_i h1 h2; rw [if_neg h1, if_pos h2]; omega
    · omega
theorem sgn_bd (x : Int) : -1 ≤ sgn x ∧ sgn x ≤ 15 := by
  unfold sgn
  split
  · omega
  · split <;> omega
theorem sign_ok (x : Int) (h : 0 ≤ sgn x) (w : World) :
    Calls Tryd.prog 28 #[.int .u8 x] w fun e w' => e = .returned (.tuple #[.int .u8 (sgn x), .bool true]) ∧ w' = w := by
  rcases sgn_cases x h with ⟨h1, h2, h3⟩ | ⟨h1, h2, h3⟩
  · rw [h3]; exact sign_digit x h1 h2 w
  · rw [h3]; exact sign_letter x h1 h2 w
end Go.Proofs.YtokaomlhnmbajabDoor
