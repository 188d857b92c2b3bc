import Derived.Test.YtilhilglokblpaaDoorQpu
namespace Go.Proofs.YtilhilglokblpaaDoor
open Go.RowKit
set_option maxRecDepth 100000
/-- the peaks of a row: the part of 2^p leaves, and all that stand behind the greater parts -/
def sg (l : List ByteArray) (p : Nat) : List ByteArray := (l.drop (l.length - l.length % 2 ^ (p + 1))).take (2 ^ p)
def tl (l : List ByteArray) (p : Nat) : List ByteArray := l.drop (l.length - l.length % 2 ^ p)
theorem rt_join (A B : List ByteArray) (p : Nat) (hA : A.length = 2 ^ p) (h1 : 1 ≤ B.length) (h2 : B.length ≤ 2 ^ p) : rt (A ++ B) = ndB (rt A) (rt B) := by
  have h3 := Nat.one_le_two_pow (n := p)
  have hk : kk (A ++ B).length = 2 ^ p := kk_is _ p (by rw [List.length_append]; omega) (by rw [List.length_append, Nat.pow_succ]; omega)
  rw [rt_two _ (by rw [List.length_append]; omega), hk, List.take_left' hA, List.drop_left' hA]
theorem bit_on (n p : Nat) (h : n / 2 ^ p % 2 = 1) : n % 2 ^ (p + 1) = 2 ^ p + n % 2 ^ p := by
  rw [Nat.mod_pow_succ, h]; omega
theorem bit_off (n p : Nat) (h : n / 2 ^ p % 2 = 0) : n % 2 ^ (p + 1) = n % 2 ^ p := by
  rw [Nat.mod_pow_succ, h]; omega
theorem tl_step (l : List ByteArray) (p : Nat) (h : l.length / 2 ^ p % 2 = 1) : tl l (p + 1) = sg l p ++ tl l p := by
  have e := bit_on _ _ h
  have hle := Nat.mod_le l.length (2 ^ (p + 1))
  unfold tl sg
  rw [show l.length - l.length % 2 ^ p = l.length - l.length % 2 ^ (p + 1) + 2 ^ p by omega, ← List.drop_drop, List.take_append_drop]
theorem tl_skip (l : List ByteArray) (p : Nat) (h : l.length / 2 ^ p % 2 = 0) : tl l (p + 1) = tl l p := by
  unfold tl
  rw [bit_off _ _ h]
theorem tl_all (l : List ByteArray) (p : Nat) (h : l.length < 2 ^ p) : tl l p = l := by
  unfold tl
  rw [Nat.mod_eq_of_lt h, Nat.sub_self, List.drop_zero]
theorem tl_len (l : List ByteArray) (p : Nat) : (tl l p).length = l.length % 2 ^ p := by
  have hle := Nat.mod_le l.length (2 ^ p)
  unfold tl
  rw [List.length_drop]
  omega
theorem sg_len (l : List ByteArray) (p : Nat) (h : l.length / 2 ^ p % 2 = 1) : (sg l p).length = 2 ^ p := by
  have e := bit_on _ _ h
  have hle := Nat.mod_le l.length (2 ^ (p + 1))
  unfold sg
  rw [List.length_take, List.length_drop]
  omega
theorem tl_least (l : List ByteArray) (p : Nat) (h : l.length / 2 ^ p % 2 = 1) (h0 : l.length % 2 ^ p = 0) : tl l (p + 1) = sg l p := by
  rw [tl_step l p h, List.eq_nil_of_length_eq_zero (by rw [tl_len, h0] : (tl l p).length = 0), List.append_nil]
theorem rt_step (l : List ByteArray) (p : Nat) (h : l.length / 2 ^ p % 2 = 1) (h0 : l.length % 2 ^ p ≠ 0) : rt (tl l (p + 1)) = ndB (rt (sg l p)) (rt (tl l p)) := by
  have := Nat.mod_lt l.length (Nat.two_pow_pos p)
  rw [tl_step l p h]
  exact rt_join _ _ p (sg_len l p h) (by rw [tl_len]; omega) (by rw [tl_len]; omega)
/-- a leaf is added: while the p-th part is there, it goes below a node -/
theorem ad_step (l : List ByteArray) (x : ByteArray) (p : Nat) (hr : l.length % 2 ^ p = 2 ^ p - 1) (h : l.length / 2 ^ p % 2 = 1) : l.length % 2 ^ (p + 1) = 2 ^ (p + 1) - 1 ∧ rt ((l ++ [x]).drop (l.length + 1 - 2 ^ (p + 1))) = ndB (rt (sg l p)) (rt ((l ++ [x]).drop (l.length + 1 - 2 ^ p))) := by
  have e := bit_on _ _ h
  have h3 := Nat.one_le_two_pow (n := p)
  have hle := Nat.mod_le l.length (2 ^ (p + 1))
  have h5 : 2 ^ (p + 1) = 2 * 2 ^ p := by rw [Nat.pow_succ]; omega
  have e2 : l.length % 2 ^ (p + 1) = 2 ^ (p + 1) - 1 := by omega
  refine ⟨e2, ?_⟩
  have hd : (l ++ [x]).drop (l.length + 1 - 2 ^ (p + 1)) = sg l p ++ (l ++ [x]).drop (l.length + 1 - 2 ^ p) := by
    have ea : l.length + 1 - 2 ^ (p + 1) = l.length - l.length % 2 ^ (p + 1) := by omega
    unfold sg
    rw [show l.length + 1 - 2 ^ p = l.length + 1 - 2 ^ (p + 1) + 2 ^ p by omega, ← List.drop_drop, ea]
    have et : (l.drop (l.length - l.length % 2 ^ (p + 1))).take (2 ^ p) = ((l ++ [x]).drop (l.length - l.length % 2 ^ (p + 1))).take (2 ^ p) := by
      rw [List.drop_append_of_le_length (by omega), List.take_append_of_le_length (by rw [List.length_drop]; omega)]
    rw [et, List.take_append_drop]
  rw [hd]
  refine rt_join _ _ p (sg_len l p h) ?_ ?_ <;> rw [List.length_drop, List.length_append, List.length_singleton] <;> omega
theorem ad_mod (n p : Nat) (hr : n % 2 ^ p = 2 ^ p - 1) (h : n / 2 ^ p % 2 = 0) : (n + 1) % 2 ^ (p + 1) = 2 ^ p := by
  have e := bit_off _ _ h
  have h3 := Nat.one_le_two_pow (n := p)
  have h5 : 2 ^ (p + 1) = 2 * 2 ^ p := by rw [Nat.pow_succ]; omega
  rw [Nat.add_mod, e, hr, Nat.mod_eq_of_lt (show 1 < 2 ^ (p + 1) by omega), Nat.mod_eq_of_lt (by omega)]
  omega
/-- where it is not there, the new part stands -/
theorem ad_end (l : List ByteArray) (x : ByteArray) (p : Nat) (hr : l.length % 2 ^ p = 2 ^ p - 1) (h : l.length / 2 ^ p % 2 = 0) : sg (l ++ [x]) p = (l ++ [x]).drop (l.length + 1 - 2 ^ p) := by
  have h3 := Nat.one_le_two_pow (n := p)
  unfold sg
  rw [List.length_append, List.length_singleton, ad_mod _ _ hr h]
  exact List.take_of_length_le (by rw [List.length_drop, List.length_append, List.length_singleton]; have := Nat.mod_le l.length (2 ^ p); omega)
theorem ad_over (n p : Nat) (hr : n % 2 ^ p = 2 ^ p - 1) (h : n / 2 ^ p % 2 = 0) : ∀ d, n % 2 ^ (p + 1 + d) + 1 < 2 ^ (p + 1 + d) := by
  intro d
  have h3 := Nat.one_le_two_pow (n := p)
  induction d with
  | zero =>
    have e := bit_off _ _ h
    have h5 : 2 ^ (p + 1) = 2 * 2 ^ p := by rw [Nat.pow_succ]; omega
    show n % 2 ^ (p + 1) + 1 < 2 ^ (p + 1)
    omega
  | succ d ih =>
    have h5 : 2 ^ (p + 1 + (d + 1)) = 2 * 2 ^ (p + 1 + d) := by rw [← Nat.add_assoc, Nat.pow_succ]; omega
    have h6 := Nat.mod_pow_succ (x := n) (b := 2) (k := p + 1 + d)
    rw [show p + 1 + (d + 1) = p + 1 + d + 1 by omega] at *
    rcases Nat.mod_two_eq_zero_or_one (n / 2 ^ (p + 1 + d)) with e | e <;> rw [e] at h6 <;> omega
/-- the greater parts stay -/
theorem ad_keep (l : List ByteArray) (x : ByteArray) (p q : Nat) (hpq : p < q) (hr : l.length % 2 ^ p = 2 ^ p - 1) (h : l.length / 2 ^ p % 2 = 0) (hq : l.length / 2 ^ q % 2 = 1) : sg (l ++ [x]) q = sg l q := by
  obtain ⟨d, rfl⟩ : ∃ d, q = p + 1 + d := ⟨q - p - 1, by omega⟩
  have ho := ad_over _ _ hr h (d + 1)
  rw [← Nat.add_assoc] at ho
  have e := bit_on _ _ hq
  have hle := Nat.mod_le l.length (2 ^ (p + 1 + d + 1))
  have em : (l.length + 1) % 2 ^ (p + 1 + d + 1) = l.length % 2 ^ (p + 1 + d + 1) + 1 := by
    rw [Nat.add_mod, Nat.mod_eq_of_lt (show 1 < 2 ^ (p + 1 + d + 1) by omega), Nat.mod_eq_of_lt ho]
  unfold sg
  rw [List.length_append, List.length_singleton, em, show l.length + 1 - (l.length % 2 ^ (p + 1 + d + 1) + 1) = l.length - l.length % 2 ^ (p + 1 + d + 1) by omega, List.drop_append_of_le_length (by omega), List.take_append_of_le_length (by rw [List.length_drop]; omega)]
end Go.Proofs.YtilhilglokblpaaDoor
