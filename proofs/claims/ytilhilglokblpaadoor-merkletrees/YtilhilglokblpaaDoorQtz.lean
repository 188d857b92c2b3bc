import Derived.Test.YtilhilglokblpaaDoorQtb
namespace Go.Proofs.YtilhilglokblpaaDoor
open Go.RowKit
set_option maxRecDepth 100000
/-- the table by which the noughts at a number's end are told -/
def bWords : List Int := [0, 1, 56, 2, 57, 49, 28, 3, 61, 58, 42, 50, 38, 29, 17, 4, 62, 47, 59, 36, 45, 43, 51, 22, 53, 39, 33, 30, 24, 18, 12, 5, 63, 55, 48, 27, 60, 41, 37, 16, 46, 35, 44, 21, 52, 32, 23, 11, 54, 26, 40, 15, 34, 20, 31, 10, 25, 14, 19, 9, 13, 8, 7, 6]
def BTab (w : World) : Prop := 1 < w.heap.size ∧ ∀ j, j < 64 → w.cell? ⟨1, j, none⟩ = some (.int .u8 (bWords.getD j 0))
theorem BTab.below {w w' : World} {B : Nat} (h : BTab w) (hb : Below B w w') (hB : 1 < B) : BTab w' := ⟨Nat.lt_of_lt_of_le h.1 hb.size, fun j hj => (hb.cell (p := ⟨1, j, none⟩) hB).trans (h.2 j hj)⟩
/-- the place in the table -/
def tzE (n : Nat) : Int := IntKind.u64.wrap (bits .and .u64 (n : Int) (IntKind.u64.wrap (-(n : Int))) * 285870213051353865) / 288230376151711744
def tzB (n : Nat) : Bool :=
  let i := (tzE n).toNat
  let p := (bWords.getD i 0).toNat
  tzE n == (i : Int) && Nat.blt i 64 && bWords.getD i 0 == (p : Int) && Nat.ble p 12 && n % 2 ^ p == 0 && n / 2 ^ p % 2 == 1
theorem tz_all : ((List.range 65).all fun a => (List.range 64).all fun b => 64 * a + b == 0 || Nat.blt 4096 (64 * a + b) || tzB (64 * a + b)) = true := by decide +kernel
theorem tz_of (n : Nat) (h1 : 1 ≤ n) (h2 : n ≤ 4096) : ∃ i p : Nat, IntKind.u64.wrap (bits .and .u64 (n : Int) (IntKind.u64.wrap (-(n : Int))) * 285870213051353865) / 288230376151711744 = (i : Int) ∧ i < 64 ∧ bWords.getD i 0 = (p : Int) ∧ p ≤ 12 ∧ n % 2 ^ p = 0 ∧ n / 2 ^ p % 2 = 1 := by
  have h := List.all_eq_true.1 (List.all_eq_true.1 tz_all (n / 64) (List.mem_range.2 (by omega))) (n % 64) (List.mem_range.2 (by omega))
  have e : 64 * (n / 64) + n % 64 = n := by omega
  rw [e] at h
  have h0 : (n == 0) = false := by simp; omega
  have h9 : Nat.blt 4096 n = false := by
    cases hb : Nat.blt 4096 n
    · rfl
    · exfalso
      have : 4096 < n := by simpa [Nat.blt_eq] using hb
      omega
  rw [h0, h9] at h
  simp only [Bool.false_or] at h
  unfold tzB at h
  simp only [Bool.and_eq_true, beq_iff_eq, Nat.blt_eq, Nat.ble_eq] at h
  obtain ⟨⟨⟨⟨⟨a1, a2⟩, a3⟩, a4⟩, a5⟩, a6⟩ := h
  exact ⟨_, _, a1, a2, a3, a4, a5, a6⟩
set_option maxHeartbeats 1000000 in
theorem tz64_any (n : Nat) (h1 : 1 ≤ n) (h2 : n ≤ 4096) (w : World) (hB : BTab w) : Calls Tryd.prog 39 #[.int .u64 (n : Int)] w fun e w' => ∃ p : Nat, p ≤ 12 ∧ n % 2 ^ p = 0 ∧ n / 2 ^ p % 2 = 1 ∧ e = .returned (.int .i64 (p : Int)) ∧ w' = w := by
  obtain ⟨i, p, a1, a2, a3, a4, a5, a6⟩ := tz_of n h1 h2
  have hc := hB.2 i a2
  rw [a3] at hc
  have HE := hide (And.intro a4 (And.intro a5 a6))
  have b2 : (i : Int) < 64 := by omega
  have b0 : ((n : Int) == 0) = false := by simp; omega
  have b4 : (p : Int) ≤ 12 := by omega
  clear hB a3 a5 a6
  go_enter Tryd.func39, Tryd.ntmps39
  go_wp2
  go_ret
  exact ⟨p, (unhide HE).1, (unhide HE).2.1, (unhide HE).2.2, rfl, rfl⟩
set_option maxHeartbeats 1000000 in
theorem tz_any (n : Nat) (h1 : 1 ≤ n) (h2 : n ≤ 4096) (w : World) (hB : BTab w) : Calls Tryd.prog 22 #[.int .u64 (n : Int)] w fun e w' => ∃ p : Nat, p ≤ 12 ∧ n % 2 ^ p = 0 ∧ n / 2 ^ p % 2 = 1 ∧ e = .returned (.int .i64 (p : Int)) ∧ w' = w := by
  have HT := hide (tz64_any n h1 h2 w hB)
  clear hB
  go_enter Tryd.func22, Tryd.ntmps22
  go_wp2_with fail
  refine (unhide HT).mono ?_
  rintro e y ⟨p, q1, q2, q3, rfl, rfl⟩
  have HE := hide (And.intro q1 (And.intro q2 q3))
  go_wp2
  go_ret
  exact ⟨p, (unhide HE).1, (unhide HE).2.1, (unhide HE).2.2, rfl, rfl⟩
end Go.Proofs.YtilhilglokblpaaDoor
