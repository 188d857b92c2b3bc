import Derived.Test.YtolblldpdgfkmaaDoorGfe
namespace Go.Proofs.YtolblldpdgfkmaaDoor
/-- the product with 2, as a byte -/
def dbl (a : Nat) : Nat := if a < 128 then 2 * a else (2 * a) % 256 ^^^ 29
theorem dbl_gm : ∀ a, a < 256 → dbl a = gm a 2 := by decide +kernel
theorem dbl_lt (a : Nat) (ha : a < 256) : dbl a < 256 := by rw [dbl_gm a ha]; exact gm_lt _ _ ha (by decide)
theorem two_xor (c e : Nat) (he : e < 2) : 2 * c + e = 2 * c ^^^ e := by
  refine Nat.eq_of_testBit_eq (fun i => ?_)
  rw [Nat.testBit_xor]
  cases i with
  | zero =>
    rw [Nat.testBit_zero, Nat.testBit_zero, Nat.testBit_zero]
    rcases (by omega : e = 0 ∨ e = 1) with rfl | rfl
    · simp
    · rw [show (2 * c + 1) % 2 = 1 by omega, show 2 * c % 2 = 0 by omega]; rfl
  | succ i =>
    rw [Nat.testBit_succ, Nat.testBit_succ, Nat.testBit_succ, show (2 * c + e) / 2 = c by omega, show 2 * c / 2 = c by omega, show e / 2 = 0 by omega]
    simp
/-- a product, one bit of the second further -/
theorem gm_bit (a c e : Nat) (ha : a < 256) (hc : c < 128) (he : e < 2) : gm a (2 * c + e) = dbl (gm a c) ^^^ (if e = 1 then a else 0) := by
  have h1 : 2 * c = gm c 2 := by
    rw [← dbl_gm c (by omega)]
    unfold dbl
    rw [if_pos hc]
  rw [two_xor c e he, gm_right, dbl_gm _ (gm_lt _ _ ha (by omega)), h1, ← gm_assoc a c 2 ha (by omega) (by decide)]
  congr 1
  rcases (by omega : e = 0 ∨ e = 1) with rfl | rfl
  · rw [gm_zero, if_neg (by decide)]
  · rw [gm_one a ha, if_pos rfl]
theorem gm_shift (a b j : Nat) (ha : a < 256) (hb : b < 256) : gm a (b / 2 ^ j) = dbl (gm a (b / 2 ^ (j + 1))) ^^^ (if b.testBit j then a else 0) := by
  have e : b / 2 ^ j = 2 * (b / 2 ^ (j + 1)) + b / 2 ^ j % 2 := by
    rw [Nat.pow_succ, ← Nat.div_div_eq_div_mul]
    omega
  have hc : b / 2 ^ (j + 1) < 128 := by
    rw [Nat.pow_succ, Nat.mul_comm, ← Nat.div_div_eq_div_mul]
    exact Nat.lt_of_le_of_lt (Nat.div_le_self _ _) (by omega)
  rw [e, gm_bit a _ _ ha hc (Nat.mod_lt _ (by decide)), Nat.testBit_eq_decide_div_mod_eq]
  by_cases q : b / 2 ^ j % 2 = 1
  · rw [if_pos q, if_pos (by simpa using q)]
  · rw [if_neg q, if_neg (by simpa using q)]
/-- the power, and the product of the powers so far -/
def pw (a : Nat) : Nat → Nat × Nat
  | 0 => (a, 1)
  | k + 1 => match pw a k with
    | (p, q) => (gm p p, gm q (gm p p))
theorem pw_ok : ∀ a, a < 256 → a ≠ 0 → gm a (pw a 7).2 = 1 := by decide +kernel
theorem pw_zero : (pw 0 7).2 = 0 := by decide +kernel
theorem pw_lt (a : Nat) (ha : a < 256) : ∀ k, (pw a k).1 < 256 ∧ (pw a k).2 < 256
  | 0 => ⟨ha, by show 1 < 256; decide⟩
  | k + 1 => by
    have ih := pw_lt a ha k
    show gm (pw a k).1 (pw a k).1 < 256 ∧ gm (pw a k).2 (gm (pw a k).1 (pw a k).1) < 256
    have h1 := gm_lt _ _ ih.1 ih.1
    exact ⟨h1, gm_lt _ _ ih.2 h1⟩
theorem pw_giv (a : Nat) (ha : a < 256) : (pw a 7).2 = giv a := by
  by_cases h : a = 0
  · rw [h, pw_zero, giv_zero]
  · exact giv_uniq ha (pw_lt a ha 7).2 (pw_ok a ha h)
theorem pw_succ (a k : Nat) : pw a (k + 1) = (gm (pw a k).1 (pw a k).1, gm (pw a k).2 (gm (pw a k).1 (pw a k).1)) := rfl
/-- the products of a and each element, made of one another -/
theorem mults (a b : Nat) (ha : a < 256) (hb : b < 256) : gm a b = dbl (gm a (b / 2)) ^^^ (if b % 2 = 1 then a else 0) := by
  have h := gm_bit a (b / 2) (b % 2) ha (by omega) (Nat.mod_lt _ (by decide))
  rw [show 2 * (b / 2) + b % 2 = b by omega] at h
  exact h
end Go.Proofs.YtolblldpdgfkmaaDoor
