import Derived.WalkKit
namespace Go.Proofs.YtpjoibolhkgkhaaGreatDoor
open Go.RowKit
/-- One bit of the check. -/
def cstep (v : Nat) : Nat := (v / 2) ^^^ (if v % 2 = 1 then 3988292384 else 0)
def iter (n : Nat) (v : Nat) : Nat := match n with
  | 0 => v
  | n + 1 => iter n (cstep v)
theorem iter_add (n m v : Nat) : iter (n + m) v = iter m (iter n v) := by
  induction n generalizing v with
  | zero => simp [iter]
  | succ n ih => rw [Nat.succ_add, iter, ih, iter]
theorem cstep_xor (a b : Nat) : cstep (a ^^^ b) = cstep a ^^^ cstep b := by
  unfold cstep
  have h1 : (a ^^^ b) / 2 = a / 2 ^^^ b / 2 := by
    have := Nat.xor_div_two_pow (a := a) (b := b) (n := 1)
    simpa using this
  have h2 : (a ^^^ b) % 2 = (a % 2) ^^^ (b % 2) := by
    have := Nat.xor_mod_two_pow (a := a) (b := b) (n := 1)
    simpa using this
  rw [h1, h2]
  rcases Nat.mod_two_eq_zero_or_one a with ha | ha <;> rcases Nat.mod_two_eq_zero_or_one b with hb | hb <;> simp [ha, hb]
  · rw [Nat.xor_assoc]
  · rw [Nat.xor_assoc, Nat.xor_assoc, Nat.xor_comm (b / 2)]
  · rw [Nat.xor_assoc, Nat.xor_comm (b / 2), ← Nat.xor_assoc 3988292384, Nat.xor_self, Nat.zero_xor]
theorem iter_xor (n a b : Nat) : iter n (a ^^^ b) = iter n a ^^^ iter n b := by
  induction n generalizing a b with
  | zero => rfl
  | succ n ih => rw [iter, iter, iter, cstep_xor, ih]
theorem cstep_double (x : Nat) : cstep (2 * x) = x := by
  unfold cstep
  rw [show 2 * x % 2 = 0 by omega, show 2 * x / 2 = x by omega]
  simp
theorem iter_shift (n x : Nat) : iter n (2 ^ n * x) = x := by
  induction n generalizing x with
  | zero => simp [iter]
  | succ n ih =>
    rw [iter, show 2 ^ (n + 1) * x = 2 * (2 ^ n * x) by rw [Nat.pow_succ]; simp [Nat.mul_comm, Nat.mul_left_comm], cstep_double, ih]
theorem cstep_lt (v : Nat) (h : v < 4294967296) : cstep v < 4294967296 := by
  unfold cstep
  refine Nat.xor_lt_two_pow (n := 32) (by omega) ?_
  split <;> omega
theorem iter_lt (n v : Nat) (h : v < 4294967296) : iter n v < 4294967296 := by
  induction n generalizing v with
  | zero => exact h
  | succ n ih => exact ih _ (cstep_lt v h)
theorem cstep_ne (v : Nat) (h : v < 4294967296) (h0 : v ≠ 0) : cstep v ≠ 0 := by
  unfold cstep
  intro e
  split at e
  · have h3 : v / 2 = 3988292384 := by
      have : (v / 2 ^^^ 3988292384) ^^^ 3988292384 = 0 ^^^ 3988292384 := by rw [e]
      rw [Nat.xor_assoc, Nat.xor_self, Nat.xor_zero, Nat.zero_xor] at this
      exact this
    omega
  · simp at e
    omega
theorem iter_ne (n v : Nat) (h : v < 4294967296) (h0 : v ≠ 0) : iter n v ≠ 0 := by
  induction n generalizing v with
  | zero => exact h0
  | succ n ih => exact ih _ (cstep_lt v h) (cstep_ne v h h0)
/-- The register behind a byte; behind a row of bytes. -/
def cbyte (v b : Nat) : Nat := iter 8 (v ^^^ b)
def crcR (v : Nat) (l : List Nat) : Nat := l.foldl cbyte v
theorem cbyte_lt (v b : Nat) (hv : v < 4294967296) (hb : b < 256) : cbyte v b < 4294967296 :=
  iter_lt _ _ (Nat.xor_lt_two_pow (n := 32) (by omega) (by omega))
/-- Bytes as a number, the lowest first. -/
def leN : List Nat → Nat
  | [] => 0
  | b :: l => b + 256 * leN l
theorem add_xor (b x : Nat) (h : b < 256) : b + 256 * x = b ^^^ (256 * x) := by
  have h1 : (256 * x) &&& b = 0 := by
    apply Nat.eq_of_testBit_eq
    intro i
    rw [Nat.testBit_and, Nat.zero_testBit, show 256 * x = 2 ^ 8 * x by rfl, Nat.testBit_two_pow_mul]
    by_cases hi : 8 ≤ i
    · have : b.testBit i = false := Nat.testBit_lt_two_pow (Nat.lt_of_lt_of_le h (by exact Nat.pow_le_pow_right (n := 2) (by decide) hi))
      simp [this]
    · simp [hi]
  apply Nat.eq_of_testBit_eq
  intro i
  rw [Nat.testBit_xor, show b + 256 * x = 2 ^ 8 * x + b by omega, Nat.testBit_two_pow_mul_add _ h, show 256 * x = 2 ^ 8 * x by rfl, Nat.testBit_two_pow_mul]
  by_cases hi : i < 8
  · simp [hi, show ¬ 8 ≤ i by omega]
  · have : b.testBit i = false := Nat.testBit_lt_two_pow (Nat.lt_of_lt_of_le h (by exact Nat.pow_le_pow_right (n := 2) (by decide) (show 8 ≤ i by omega)))
    simp [hi, this, show 8 ≤ i by omega]
theorem crcR_le (l : List Nat) (v : Nat) (hl : ∀ x ∈ l, x < 256) : crcR v l = iter (8 * l.length) (v ^^^ leN l) := by
  induction l generalizing v with
  | nil => simp [crcR, leN, iter]
  | cons b l ih =>
    have hb : b < 256 := hl b (by simp)
    have e : crcR v (b :: l) = crcR (cbyte v b) l := rfl
    rw [e, ih _ (fun x hx => hl x (by simp [hx])), leN, add_xor b _ hb, List.length_cons, show 8 * (l.length + 1) = 8 + 8 * l.length by omega, iter_add, ← Nat.xor_assoc, iter_xor 8]
    have := iter_shift 8 (leN l)
    rw [show (2 : Nat) ^ 8 = 256 by rfl] at this
    rw [this]
    rfl
/-- Of two texts of one length whose registers end alike, the difference is no burst within 32 bits. -/
theorem no_burst (l l' : List Nat) (v p k : Nat) (hl : ∀ x ∈ l, x < 256) (hl' : ∀ x ∈ l', x < 256) (hlen : l'.length = l.length) (hk : k ≤ 8 * l.length) (hp : p ≠ 0) (hp' : p < 4294967296) (h : leN l' = leN l ^^^ (2 ^ k * p)) : crcR v l' ≠ crcR v l := by
  rw [crcR_le l v hl, crcR_le l' v hl', h, hlen, ← Nat.xor_assoc, iter_xor]
  obtain ⟨m, hm⟩ : ∃ m, 8 * l.length = k + m := ⟨8 * l.length - k, by omega⟩
  intro e
  have h2 : iter (8 * l.length) (2 ^ k * p) = 0 := by
    have : (iter (8 * l.length) (v ^^^ leN l)) ^^^ (iter (8 * l.length) (v ^^^ leN l) ^^^ iter (8 * l.length) (2 ^ k * p)) = iter (8 * l.length) (v ^^^ leN l) ^^^ iter (8 * l.length) (v ^^^ leN l) := by rw [e]
    rw [← Nat.xor_assoc, Nat.xor_self, Nat.zero_xor] at this
    exact this
  rw [hm, iter_add, iter_shift] at h2
  exact iter_ne m p hp' hp h2
/-- What ends behind its own check. -/
theorem checked (l c : List Nat) (hc : ∀ x ∈ c, x < 256) (h4 : c.length = 4) (h : leN c = crcR 4294967295 l ^^^ 4294967295) : crcR 4294967295 (l ++ c) = iter 32 4294967295 := by
  have e : crcR 4294967295 (l ++ c) = crcR (crcR 4294967295 l) c := by simp [crcR, List.foldl_append]
  rw [e, crcR_le c _ hc, h4, h, ← Nat.xor_assoc, Nat.xor_self, Nat.zero_xor]
end Go.Proofs.YtpjoibolhkgkhaaGreatDoor
