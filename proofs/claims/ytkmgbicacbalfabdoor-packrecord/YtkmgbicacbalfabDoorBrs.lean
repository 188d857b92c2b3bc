import Derived.Test.YtkmgbicacbalfabDoorPpu
namespace Go.Proofs.YtkmgbicacbalfabDoor
open Go.RowKit
theorem mul_xor (k a b : Nat) : 2 ^ k * (a ^^^ b) = (2 ^ k * a) ^^^ (2 ^ k * b) := by
  apply Nat.eq_of_testBit_eq
  intro i
  rw [Nat.testBit_xor, Nat.testBit_two_pow_mul, Nat.testBit_two_pow_mul, Nat.testBit_two_pow_mul, Nat.testBit_xor]
  by_cases h : k ≤ i <;> simp [h]
theorem mod_succ_bit (p i : Nat) (h : p / 2 ^ i % 2 = 1) : p % 2 ^ (i + 1) = (p % 2 ^ i) ^^^ 2 ^ i := by
  apply Nat.eq_of_testBit_eq
  intro j
  have hb : p.testBit i = true := by rw [Nat.testBit_eq_decide_div_mod_eq, decide_eq_true h]
  rw [Nat.testBit_xor, Nat.testBit_mod_two_pow, Nat.testBit_mod_two_pow, Nat.testBit_two_pow]
  by_cases h1 : j = i
  · subst h1
    simp [hb]
  · by_cases h2 : j < i
    · simp [h2, show j < i + 1 by omega, show ¬ i = j by omega]
    · simp [h2, show ¬ j < i + 1 by omega, show ¬ i = j by omega]
theorem mod_succ_no (p i : Nat) (h : p / 2 ^ i % 2 = 0) : p % 2 ^ (i + 1) = p % 2 ^ i := by
  rw [Nat.pow_succ, Nat.mod_mul, h]
  simp
theorem leN_set (l : List Nat) (hl : ∀ x ∈ l, x < 256) (q r : Nat) (hq : q < l.length) (hr : r < 8) : leN (l.set q (l.getD q 0 ^^^ 2 ^ r)) = leN l ^^^ 2 ^ (8 * q + r) := by
  induction l generalizing q with
  | nil => simp at hq
  | cons b l ih =>
    have hb : b < 256 := hl b (by simp)
    have hr2 : 2 ^ r < 256 := Nat.lt_of_lt_of_le (Nat.pow_lt_pow_right (by decide) hr) (by decide)
    cases q with
    | zero =>
      have hx : b ^^^ 2 ^ r < 256 := Nat.xor_lt_two_pow (n := 8) hb hr2
      show leN ((b ^^^ 2 ^ r) :: l) = leN (b :: l) ^^^ 2 ^ (8 * 0 + r)
      rw [leN, leN, add_xor _ _ hx, add_xor _ _ hb, Nat.mul_zero, Nat.zero_add, Nat.xor_assoc, Nat.xor_assoc, Nat.xor_comm (2 ^ r)]
    | succ q =>
      show leN (b :: l.set q (l.getD q 0 ^^^ 2 ^ r)) = leN (b :: l) ^^^ 2 ^ (8 * (q + 1) + r)
      rw [leN, leN, ih (fun x hx => hl x (by simp [hx])) q (by simpa using hq), add_xor _ _ hb, add_xor _ _ hb, Nat.xor_assoc]
      congr 1
      have := mul_xor 8 (leN l) (2 ^ (8 * q + r))
      rw [show (256 : Nat) = 2 ^ 8 from rfl, this, ← Nat.pow_add, show 8 + (8 * q + r) = 8 * (q + 1) + r by omega]
/-- The bytes behind a page, as numbers. -/
theorem le4_val (c : Nat) (h : c ≤ 4294967295) : leN (nats (le4 c)) = c := by
  simp only [nats, le4, List.map_cons, List.map_nil, Int.toNat_natCast, leN]
  omega
theorem crc_page (kind number : Int) (body : List Int) (hb : Bytes body) : crcR 4294967295 (nats (makeL kind number body)) = iter 32 4294967295 := by
  have hp := pageL_bytes kind number body hb
  have e : nats (makeL kind number body) = nats (pageL kind number body) ++ nats (le4 (chkN (pageL kind number body))) := by simp [nats, makeL]
  rw [e]
  have hc := chkN_lt (pageL kind number body)
  refine checked _ _ (nats_lt _ (le4_bytes _ hc)) rfl ?_
  have hlt := crcR_lt (nats (pageL kind number body)) (nats_lt _ hp) 4294967295 (by omega)
  rw [le4_val _ hc, xor_all _ hlt]
  rfl
/-- What is a page has the page's register. -/
theorem crc_prOk (s : ByteArray) (h : prOk s) : crcR 4294967295 (nats (nums s)) = iter 32 4294967295 := by
  have hm : s = strOfNums (makeL (pkd s) (pnm s) (nums (pbd s))) := by
    have := h.2
    rw [makeB, if_pos h.1] at this
    exact this.symm
  have hn : nums s = makeL (pkd s) (pnm s) (nums (pbd s)) := by
    have := congrArg nums hm
    rwa [nums_strOfNums _ (makeL_bytes _ _ _ (nums_bytes _))] at this
  rw [hn]
  exact crc_page _ _ _ (nums_bytes _)
theorem turned_bad (kind number : Int) (body : ByteArray) (hb : body.size ≤ 244) (Y : List Int) (hY : Bytes Y) (hl : Y.length = 256) (k p : Nat) (hk : k ≤ 2016) (hp : p ≠ 0) (hp' : p < 4294967296)
    (h : leN (nats Y) = leN (nats (makeL kind number (nums body))) ^^^ (2 ^ k * p)) : ¬ prOk (strOfNums Y) := by
  intro hok
  have h1 := crc_prOk _ hok
  rw [nums_strOfNums _ hY] at h1
  have h2 := crc_page kind number (nums body) (nums_bytes _)
  have hml : (makeL kind number (nums body)).length = 256 := makeL_len _ _ _ (by rw [nums_len]; exact hb)
  refine no_burst (nats (makeL kind number (nums body))) (nats Y) 4294967295 p k (nats_lt _ (makeL_bytes _ _ _ (nums_bytes _))) (nats_lt _ hY) ?_ ?_ hp hp' h (h1.trans h2.symm)
  · simp [nats, hml, hl]
  · simp [nats, hml]; omega
theorem zeros_bad : ¬ prOk (strOfNums (List.replicate 256 0)) := by
  intro hok
  obtain ⟨hf1, hf2, hf3⟩ := errM_zero hok.1
  have hm : strOfNums (makeL (pkd (strOfNums (List.replicate 256 0))) (pnm (strOfNums (List.replicate 256 0))) (nums (pbd (strOfNums (List.replicate 256 0))))) = strOfNums (List.replicate 256 0) := by
    have := hok.2
    rw [makeB, if_pos hok.1] at this
    exact this
  have hn := congrArg nums hm
  rw [nums_strOfNums _ (makeL_bytes _ _ _ (nums_bytes _)), nums_strOfNums _ (zeros_byte 256), page_front _ _ _ hf1 (by rw [nums_len]; exact hf3)] at hn
  have h3 : (83 : Int) = (List.replicate 256 (0 : Int)).getD 0 0 := congrArg (fun l => l.getD 0 0) hn
  have h4 : (List.replicate 256 (0 : Int)).getD 0 0 = 0 := rfl
  exact absurd (h3.trans h4) (by decide)
theorem nats_set (l : List Int) (q : Nat) (v : Int) : nats (l.set q v) = (nats l).set q v.toNat := by simp [nats, List.map_set]
theorem nats_getD (l : List Int) (q : Nat) : (nats l).getD q 0 = (l.getD q 0).toNat := by
  rw [List.getD_eq_getElem?_getD, List.getD_eq_getElem?_getD, nats, List.getElem?_map]
  cases l[q]? <;> rfl
/-- One bit more is turned. -/
theorem turn_step (X Y : List Int) (hY : Bytes Y) (k p i : Nat) (hl : k + i < 8 * Y.length) (h : leN (nats Y) = leN (nats X) ^^^ (2 ^ k * (p % 2 ^ i))) (hb : p / 2 ^ i % 2 = 1) (v : Int)
    (hv : v = (((Y.getD ((k + i) / 8) 0).toNat ^^^ 2 ^ ((k + i) % 8) : Nat) : Int)) : Bytes (Y.set ((k + i) / 8) v) ∧ leN (nats (Y.set ((k + i) / 8) v)) = leN (nats X) ^^^ (2 ^ k * (p % 2 ^ (i + 1))) := by
  have hq := hY ((k + i) / 8)
  have hr2 : 2 ^ ((k + i) % 8) < 256 := Nat.lt_of_lt_of_le (Nat.pow_lt_pow_right (by decide) (show (k + i) % 8 < 8 by omega)) (by decide)
  have hx : (Y.getD ((k + i) / 8) 0).toNat ^^^ 2 ^ ((k + i) % 8) < 256 := Nat.xor_lt_two_pow (n := 8) (by omega) hr2
  refine ⟨Bytes.of_mem (fun x hx2 => ?_), ?_⟩
  · rcases List.mem_or_eq_of_mem_set hx2 with h1 | h1
    · exact hY.mem h1
    · rw [h1, hv]
      omega
  · rw [nats_set, hv, Int.toNat_natCast, ← nats_getD, leN_set (nats Y) (nats_lt _ hY) ((k + i) / 8) ((k + i) % 8) (by simp [nats]; omega) (by omega), h, mod_succ_bit p i hb, mul_xor, ← Nat.xor_assoc, ← Nat.pow_add]
    congr 2
    omega
end Go.Proofs.YtkmgbicacbalfabDoor
