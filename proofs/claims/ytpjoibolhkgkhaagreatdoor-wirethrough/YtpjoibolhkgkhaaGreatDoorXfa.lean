import Derived.Test.YtpjoibolhkgkhaaGreatDoorXpu
import Derived.Handy
namespace Go.Proofs.YtpjoibolhkgkhaaGreatDoor
open Go.RowKit
set_option maxRecDepth 100000
theorem isKind_any (z : Int) (w : World) : Calls Tryz.prog 27 #[.int .i64 z] w fun e w' => e = .returned (.bool (decide (1 ≤ z ∧ z ≤ 12))) ∧ w' = w := by
  by_cases h0 : 1 ≤ z
  · have hd : decide ((1 : Int) ≤ z) = true := by simpa using h0
    have he : decide (1 ≤ z ∧ z ≤ 12) = decide (z ≤ 12) := by simp [h0]
    rw [he]
    clear h0 he
    generalize hdz : decide (z ≤ 12) = dz at *
    go_enter Tryz.func27, Tryz.ntmps27
    go_wp2
    go_ret
    exact ⟨rfl, rfl⟩
  · have hd : decide ((1 : Int) ≤ z) = false := by simpa using h0
    have he : decide (1 ≤ z ∧ z ≤ 12) = false := by simp [h0]
    rw [he]
    clear h0 he
    go_enter Tryz.func27, Tryz.ntmps27
    go_wp2
    go_ret
    exact ⟨rfl, rfl⟩
theorem isStatus_any (z : Int) (w : World) : Calls Tryz.prog 35 #[.int .i64 z] w fun e w' => e = .returned (.bool (decide (0 ≤ z ∧ z ≤ 13))) ∧ w' = w := by
  by_cases h0 : 0 ≤ z
  · have hd : decide ((0 : Int) ≤ z) = true := by simpa using h0
    have he : decide (0 ≤ z ∧ z ≤ 13) = decide (z ≤ 13) := by simp [h0]
    rw [he]
    clear h0 he
    generalize hdz : decide (z ≤ 13) = dz at *
    go_enter Tryz.func35, Tryz.ntmps35
    go_wp2
    go_ret
    exact ⟨rfl, rfl⟩
  · have hd : decide ((0 : Int) ≤ z) = false := by simpa using h0
    have he : decide (0 ≤ z ∧ z ≤ 13) = false := by simp [h0]
    rw [he]
    clear h0 he
    go_enter Tryz.func35, Tryz.ntmps35
    go_wp2
    go_ret
    exact ⟨rfl, rfl⟩
theorem isReplyKind_any (z : Int) (w : World) : Calls Tryz.prog 34 #[.int .i64 z] w fun e w' => e = .returned (.bool (decide (0 ≤ z ∧ z ≤ 12))) ∧ w' = w := by
  by_cases h0 : z = 0
  · subst h0
    go_enter Tryz.func34, Tryz.ntmps34
    go_wp2
    go_ret
    exact ⟨rfl, rfl⟩
  · have hd : (z == 0) = false := by simpa using h0
    have he : decide (1 ≤ z ∧ z ≤ 12) = decide (0 ≤ z ∧ z ≤ 12) := by
      have : (1 ≤ z ∧ z ≤ 12) ↔ (0 ≤ z ∧ z ≤ 12) := by omega
      simp [this]
    have HK := hide (isKind_any z)
    rw [he] at HK
    clear he h0
    generalize hdz : decide (0 ≤ z ∧ z ≤ 12) = dz at *
    clear hdz
    go_enter Tryz.func34, Tryz.ntmps34
    go_wp2_with (go_at_call 27; refine (unhide HK _).mono ?_; rintro e x ⟨rfl, rfl⟩)
    go_ret
    exact ⟨rfl, rfl⟩
def fullP (k s : Int) : Bool := if k = 8 then decide (s = 1) else decide (s = 0)
theorem isFull_any (k s : Int) (w : World) : Calls Tryz.prog 63 #[.int .i64 k, .int .i64 s] w fun e w' => e = .returned (.bool (fullP k s)) ∧ w' = w := by
  by_cases h0 : k = 8
  · have he : fullP k s = (s == 1) := by simp [fullP, h0]; rfl
    rw [he]
    subst h0
    clear he
    go_enter Tryz.func63, Tryz.ntmps63
    go_wp2
    go_ret
    exact ⟨rfl, rfl⟩
  · have he : fullP k s = (s == 0) := by simp [fullP, h0]; rfl
    have hd : (k == 8) = false := by simpa using h0
    rw [he]
    clear he h0
    go_enter Tryz.func63, Tryz.ntmps63
    go_wp2
    go_ret
    exact ⟨rfl, rfl⟩
theorem mayBe_any (b lo hi n : Int) (w : World) : Calls Tryz.prog 133 #[.agg #[.int .i64 b, .int .i64 lo, .int .i64 hi], .int .i64 n] w fun e w' => e = .returned (.bool (decide (lo ≤ n ∧ n ≤ hi))) ∧ Below w.heap.size w w' := by
  by_cases h0 : lo ≤ n
  · have hd : decide (lo ≤ n) = true := by simpa using h0
    have he : decide (lo ≤ n ∧ n ≤ hi) = decide (n ≤ hi) := by simp [h0]
    rw [he]
    clear h0 he
    generalize hdz : decide (n ≤ hi) = dz at *
    go_enter Tryz.func133, Tryz.ntmps133
    go_wp2
    go_ret
    exact ⟨rfl, (Below.refl _ _).alloc (Nat.le_refl _) _⟩
  · have hd : decide (lo ≤ n) = false := by simpa using h0
    have he : decide (lo ≤ n ∧ n ≤ hi) = false := by simp [h0]
    rw [he]
    clear h0 he
    go_enter Tryz.func133, Tryz.ntmps133
    go_wp2
    go_ret
    exact ⟨rfl, (Below.refl _ _).alloc (Nat.le_refl _) _⟩
theorem nsize_any (b lo hi : Int) (w : World) : Calls Tryz.prog 131 #[.agg #[.int .i64 b, .int .i64 lo, .int .i64 hi]] w fun e w' => e = .returned (.int .i64 b) ∧ Below w.heap.size w w' := by
  go_enter Tryz.func131, Tryz.ntmps131
  go_wp2
  go_ret
  exact ⟨rfl, (Below.refl _ _).alloc (Nat.le_refl _) _⟩
theorem tsize_any (b : Int) (w : World) : Calls Tryz.prog 135 #[.agg #[.int .i64 b]] w fun e w' => e = .returned (.int .i64 b) ∧ Below w.heap.size w w' := by
  go_enter Tryz.func135, Tryz.ntmps135
  go_wp2
  go_ret
  exact ⟨rfl, (Below.refl _ _).alloc (Nat.le_refl _) _⟩
theorem psize_any (w : World) : Calls Tryz.prog 138 #[.agg #[]] w fun e w' => e = .returned (.int .i64 8) ∧ Below w.heap.size w w' := by
  go_enter Tryz.func138, Tryz.ntmps138
  go_wp2
  go_ret
  exact ⟨rfl, (Below.refl _ _).alloc (Nat.le_refl _) _⟩
theorem vsize_any (w : World) : Calls Tryz.prog 142 #[.agg #[]] w fun e w' => e = .returned (.int .i64 9) ∧ Below w.heap.size w w' := by
  go_enter Tryz.func142, Tryz.ntmps142
  go_wp2
  go_ret
  exact ⟨rfl, (Below.refl _ _).alloc (Nat.le_refl _) _⟩
end Go.Proofs.YtpjoibolhkgkhaaGreatDoor
