import Derived.WalkKit
import Derived.Test.YtkkndlkelpdehaaGreatDoorMr00
import Derived.Test.YtkkndlkelpdehaaGreatDoorMr07
namespace Go.Proofs.YtkkndlkelpdehaaGreatDoor
open Go.RowKit
/-- One bit of the check. -/
def cstep (v : Nat) : Nat := (v / 2) ^^^ (if v % 2 = 1 then 3988292384 else 0)
def iter (n : Nat) (v : Nat) : Nat := match n with
  | 0 => v
  | n + 1 => iter n (cstep v)
theorem iter_add (n m v : Nat) : iter (n + m) v = iter m (iter n v) := by
  induction n generalizing v with
  | zero => simp [iter]
  | succ n ih => rw [Nat.succ_add, iter, ih, iter]
theorem cstep_xor (a b : Nat) : cstep (a ^^^ b) = cstep a ^^^ cstep b := by
  unfold cstep
  have h1 : (a ^^^ b) / 2 = a / 2 ^^^ b / 2 := by
    have := Nat.xor_div_two_pow (a := a) (b := b) (n := 1)
    simpa using this
  have h2 : (a ^^^ b) % 2 = (a % 2) ^^^ (b % 2) := by
    have := Nat.xor_mod_two_pow (a := a) (b := b) (n := 1)
    simpa using this
  rw [h1, h2]
  rcases Nat.mod_two_eq_zero_or_one a with ha | ha <;> rcases Nat.mod_two_eq_zero_or_one b with hb | hb <;> simp [ha, hb]
  · rw [Nat.xor_assoc]
  · rw [Nat.xor_assoc, Nat.xor_assoc, Nat.xor_comm (b / 2)]
  · rw [Nat.xor_assoc, Nat.xor_comm (b / 2), ← Nat.xor_assoc 3988292384, Nat.xor_self, Nat.zero_xor]
theorem iter_xor (n a b : Nat) : iter n (a ^^^ b) = iter n a ^^^ iter n b := by
  induction n generalizing a b with
  | zero => rfl
  | succ n ih => rw [iter, iter, iter, cstep_xor, ih]
theorem cstep_double (x : Nat) : cstep (2 * x) = x := by
  unfold cstep
  rw [show 2 * x % 2 = 0 by omega, show 2 * x / 2 = x by omega]
  simp
theorem iter_shift (n x : Nat) : iter n (2 ^ n * x) = x := by
  induction n generalizing x with
  | zero => simp [iter]
  | succ n ih =>
    rw [iter, show 2 ^ (n + 1) * x = 2 * (2 ^ n * x) by rw [Nat.pow_succ]; simp [Nat.mul_comm, Nat.mul_left_comm], cstep_double, ih]
theorem cstep_lt (v : Nat) (h : v < 4294967296) : cstep v < 4294967296 := by
  unfold cstep
  refine Nat.xor_lt_two_pow (n := 32) (by omega) ?_
  split <;> omega
theorem iter_lt (n v : Nat) (h : v < 4294967296) : iter n v < 4294967296 := by
  induction n generalizing v with
  | zero => exact h
  | succ n ih => exact ih _ (cstep_lt v h)
theorem cstep_ne (v : Nat) (h : v < 4294967296) (h0 : v ≠ 0) : cstep v ≠ 0 := by
  unfold cstep
  intro e
  split at e
  · have h3 : v / 2 = 3988292384 := by
      have : (v / 2 ^^^ 3988292384) ^^^ 3988292384 = 0 ^^^ 3988292384 := by rw [e]
      rw [Nat.xor_assoc, Nat.xor_self, Nat.xor_zero, Nat.zero_xor] at this
      exact this
    omega
  · simp at e
    omega
theorem iter_ne (n v : Nat) (h : v < 4294967296) (h0 : v ≠ 0) : iter n v ≠ 0 := by
  induction n generalizing v with
  | zero => exact h0
  | succ n ih => exact ih _ (cstep_lt v h) (cstep_ne v h h0)
/-- The register behind a byte; behind a row of bytes. -/
def cbyte (v b : Nat) : Nat := iter 8 (v ^^^ b)
def crcR (v : Nat) (l : List Nat) : Nat := l.foldl cbyte v
theorem cbyte_lt (v b : Nat) (hv : v < 4294967296) (hb : b < 256) : cbyte v b < 4294967296 :=
  iter_lt _ _ (Nat.xor_lt_two_pow (n := 32) (by omega) (by omega))
/-- Bytes as a number, the lowest first. -/
def leN : List Nat → Nat
  | [] => 0
  | b :: l => b + 256 * leN l
theorem add_xor (b x : Nat) (h : b < 256) : b + 256 * x = b ^^^ (256 * x) := by
  have h1 : (256 * x) &&& b = 0 := by
    apply Nat.eq_of_testBit_eq
    intro i
    rw [Nat.testBit_and, Nat.zero_testBit, show 256 * x = 2 ^ 8 * x by rfl, Nat.testBit_two_pow_mul]
    by_cases hi : 8 ≤ i
    · have : b.testBit i = false := Nat.testBit_lt_two_pow (Nat.lt_of_lt_of_le h (by exact Nat.pow_le_pow_right (n := 2) (by decide) hi))
      simp [this]
    · simp [hi]
  apply Nat.eq_of_testBit_eq
  intro i
  rw [Nat.testBit_xor, show b + 256 * x = 2 ^ 8 * x + b by omega, Nat.testBit_two_pow_mul_add _ h, show 256 * x = 2 ^ 8 * x by rfl, Nat.testBit_two_pow_mul]
  by_cases hi : i < 8
  · simp [hi, show ¬ 8 ≤ i by omega]
  · have : b.testBit i = false := Nat.testBit_lt_two_pow (Nat.lt_of_lt_of_le h (by exact Nat.pow_le_pow_right (n := 2) (by decide) (show 8 ≤ i by omega)))
    simp [hi, this, show 8 ≤ i by omega]
theorem crcR_le (l : List Nat) (v : Nat) (hl : ∀ x ∈ l, x < 256) : crcR v l = iter (8 * l.length) (v ^^^ leN l) := by
  induction l generalizing v with
  | nil => simp [crcR, leN, iter]
  | cons b l ih =>
    have hb : b < 256 := hl b (by simp)
    have e : crcR v (b :: l) = crcR (cbyte v b) l := rfl
    rw [e, ih _ (fun x hx => hl x (by simp [hx])), leN, add_xor b _ hb, List.length_cons, show 8 * (l.length + 1) = 8 + 8 * l.length by omega, iter_add, ← Nat.xor_assoc, iter_xor 8]
    have := iter_shift 8 (leN l)
    rw [show (2 : Nat) ^ 8 = 256 by rfl] at this
    rw [this]
    rfl
/-- Of two texts of one length whose registers end alike, the difference is no burst within 32 bits. -/
theorem no_burst (l l' : List Nat) (v p k : Nat) (hl : ∀ x ∈ l, x < 256) (hl' : ∀ x ∈ l', x < 256) (hlen : l'.length = l.length) (hk : k ≤ 8 * l.length) (hp : p ≠ 0) (hp' : p < 4294967296) (h : leN l' = leN l ^^^ (2 ^ k * p)) : crcR v l' ≠ crcR v l := by
  rw [crcR_le l v hl, crcR_le l' v hl', h, hlen, ← Nat.xor_assoc, iter_xor]
  obtain ⟨m, hm⟩ : ∃ m, 8 * l.length = k + m := ⟨8 * l.length - k, by omega⟩
  intro e
  have h2 : iter (8 * l.length) (2 ^ k * p) = 0 := by
    have : (iter (8 * l.length) (v ^^^ leN l)) ^^^ (iter (8 * l.length) (v ^^^ leN l) ^^^ iter (8 * l.length) (2 ^ k * p)) = iter (8 * l.length) (v ^^^ leN l) ^^^ iter (8 * l.length) (v ^^^ leN l) := by rw [e]
    rw [← Nat.xor_assoc, Nat.xor_self, Nat.zero_xor] at this
    exact this
  rw [hm, iter_add, iter_shift] at h2
  exact iter_ne m p hp' hp h2
/-- What ends behind its own check. -/
theorem checked (l c : List Nat) (hc : ∀ x ∈ c, x < 256) (h4 : c.length = 4) (h : leN c = crcR 4294967295 l ^^^ 4294967295) : crcR 4294967295 (l ++ c) = iter 32 4294967295 := by
  have e : crcR 4294967295 (l ++ c) = crcR (crcR 4294967295 l) c := by simp [crcR, List.foldl_append]
  rw [e, crcR_le c _ hc, h4, h, ← Nat.xor_assoc, Nat.xor_self, Nat.zero_xor]
end Go.Proofs.YtkkndlkelpdehaaGreatDoor

namespace Go.Proofs.YtkkndlkelpdehaaGreatDoor
open Go.RowKit
def nats (l : List Int) : List Nat := l.map Int.toNat
/-- The check of a row of bytes. -/
def chkN (l : List Int) : Nat := 4294967295 - crcR 4294967295 (nats l)
theorem crcR_lt (l : List Nat) (hl : ∀ x ∈ l, x < 256) (v : Nat) (hv : v < 4294967296) : crcR v l < 4294967296 := by
  induction l generalizing v with
  | nil => exact hv
  | cons b l ih => exact ih (fun x hx => hl x (by simp [hx])) _ (cbyte_lt v b hv (hl b (by simp)))
theorem nats_lt (l : List Int) (h : Bytes l) : ∀ x ∈ nats l, x < 256 := by
  intro x hx
  obtain ⟨y, hy, rfl⟩ := List.mem_map.1 hx
  obtain ⟨j, hj, e⟩ := List.getElem_of_mem hy
  have := h j
  rw [List.getD_eq_getElem?_getD, List.getElem?_eq_getElem hj, e] at this
  simp at this
  omega
theorem i64_xor_nat (a b : Nat) (ha : a < 4294967296) (hb : b < 4294967296) : bits .xor .i64 (a : Int) (b : Int) = ((a ^^^ b : Nat) : Int) := by
  have hx : a ^^^ b < 2 ^ 32 := Nat.xor_lt_two_pow (by omega) (by omega)
  have h1 : (BitVec.ofInt 64 (a : Int)).toNat = a := by
    rw [BitVec.ofInt_natCast, BitVec.toNat_ofNat]; exact Nat.mod_eq_of_lt (by omega)
  have h2 : (BitVec.ofInt 64 (b : Int)).toNat = b := by
    rw [BitVec.ofInt_natCast, BitVec.toNat_ofNat]; exact Nat.mod_eq_of_lt (by omega)
  show IntKind.i64.wrap ((BitVec.ofInt 64 (a : Int) ^^^ BitVec.ofInt 64 (b : Int)).toNat : Int) = _
  rw [BitVec.toNat_xor, h1, h2, IntKind.wrap_i64]
  omega
theorem iter_succ' (n v : Nat) : iter (n + 1) v = cstep (iter n v) := by rw [iter_add]; rfl
theorem nums_nat (s : ByteArray) (i : Nat) (hi : i < s.size) : ∃ B : Nat, B < 256 ∧ (nums s).getD i 0 = (B : Int) ∧ nats ((nums s).take (i + 1)) = nats ((nums s).take i) ++ [B] := by
  have hb := nums_bytes s i
  refine ⟨((nums s).getD i 0).toNat, by omega, by omega, ?_⟩
  have hl : i < (nums s).length := by rw [nums_len]; exact hi
  rw [List.take_add_one, List.getElem?_eq_getElem hl, nats, nats, List.map_append, List.getD_eq_getElem?_getD, List.getElem?_eq_getElem hl]
  rfl
theorem xor_all (v : Nat) (h : v < 4294967296) : v ^^^ 4294967295 = 4294967295 - v := by
  have h1 : (4294967295 : Nat) = 2 ^ 32 - 1 := by decide
  have h2 : v ^^^ (2 ^ 32 - 1) = 2 ^ 32 - 1 - v := by
    apply Nat.eq_of_testBit_eq
    intro i
    rw [Nat.testBit_xor, Nat.testBit_two_pow_sub_one, show 2 ^ 32 - 1 - v = 2 ^ 32 - (v + 1) by omega, Nat.testBit_two_pow_sub_succ (by omega)]
    by_cases hi : i < 32
    · simp [hi]
    · have : v.testBit i = false := Nat.testBit_lt_two_pow (Nat.lt_of_lt_of_le h (by exact Nat.pow_le_pow_right (n := 2) (by decide) (show 32 ≤ i by omega)))
      simp [hi, this]
  rw [h1]; exact h2
set_option maxRecDepth 100000 in
set_option maxHeartbeats 1000000 in
theorem check_g (s : ByteArray) (G : Nat) (hG : G = chkN (nums s)) (hs : s.size ≤ 9223372036854775806) (w : World) :
    Calls Tryz.prog 107 #[.string s] w fun e w' => e = .returned (.int .i64 (G : Int)) ∧ w' = w := by
  have HG := hide hG
  clear hG
  have hix := fun (i : Nat) (hi : i < s.size) (W : World) => index_str s i hi W
  go_enter Tryz.func107, Tryz.ntmps107
  go_wp2
  go_loopw [3, 8] (fun c i wr => ∃ n : Nat, n ≤ s.size ∧ i = .int .i64 (n : Int) ∧ c = .int .u32 (crcR 4294967295 (nats ((nums s).take n)) : Int) ∧ wr = w) (fun _ i _ => s.size - (intOf i).toNat)
  case atStart => exact ⟨0, by omega, rfl, rfl, rfl⟩
  case round =>
    obtain ⟨n, hn, rfl, rfl, rfl⟩ := hrel
    obtain ⟨wo, rfl⟩ : ∃ wo, wo = wr := ⟨_, rfl⟩
    have hlt := crcR_lt (nats ((nums s).take n)) (nats_lt _ (fun j => by
      have := nums_bytes s j
      rw [List.getD_eq_getElem?_getD, List.getElem?_take]
      split
      · rw [← List.getD_eq_getElem?_getD]; exact this
      · simp)) 4294967295 (by omega)
    by_cases hns : n < s.size
    · obtain ⟨B, hB, hBe, hBt⟩ := nums_nat s n hns
      have hi2 := hix n hns
      rw [hBe] at hi2
      have HT := hide hBt
      have HC := hide (show crcR 4294967295 (nats ((nums s).take (n + 1))) = cbyte (crcR 4294967295 (nats ((nums s).take n))) B by rw [hBt, crcR, List.foldl_append]; rfl)
      clear hBt hBe hix
      generalize crcR 4294967295 (nats ((nums s).take n)) = V at *
      have hw8 : IntKind.u32.wrap (B : Int) = (B : Int) := by rw [IntKind.wrap_u32']; omega
      have hx := u32_xor_nat V B hlt (by omega)
      have hxl : V ^^^ B < 4294967296 := Nat.xor_lt_two_pow (n := 32) (by omega) (by omega)
      go_wp2
      go_loopw [3, 17] (fun c i wr => ∃ k : Nat, k ≤ 8 ∧ i = .int .i64 (k : Int) ∧ c = .int .u32 (iter k (V ^^^ B) : Int) ∧ wr = wo) (fun _ i _ => 8 - (intOf i).toNat)
      case atStart => exact ⟨0, by omega, rfl, rfl, rfl⟩
      case round =>
        obtain ⟨k, hk, rfl, rfl, rfl⟩ := hrel
        have hl := iter_lt k (V ^^^ B) hxl
        have HS := hide (iter_succ' k (V ^^^ B))
        by_cases hk8 : k < 8
        · generalize iter k (V ^^^ B) = U at *
          have ha0 := u32_and_nat U 1 hl (by omega)
          rw [Nat.and_one_is_mod] at ha0
          have ha : bits .and .u32 (U : Int) 1 = ((U % 2 : Nat) : Int) := ha0
          have HX2 := hide (u32_xor_nat (U / 2) 3988292384 (by omega) (by omega))
          clear ha0
          rcases Nat.mod_two_eq_zero_or_one U with h | h
          · rw [h] at ha
            go_wp2
            go_roundw
            case rel => exact ⟨k + 1, by omega, by go_num, by rw [unhide HS, cstep, if_neg (by omega), Nat.xor_zero]; simp, trivial⟩
            case measure => simp [intOf]; omega
          · rw [h] at ha
            go_wp2
            go_roundw
            case rel => exact ⟨k + 1, by omega, by go_num, by rw [unhide HS, cstep, if_pos h, ← unhide HX2]; rfl, trivial⟩
            case measure => simp [intOf]; omega
        · obtain rfl : k = 8 := by omega
          go_wp2
          go_roundw
          case rel => exact ⟨n + 1, by omega, by go_num, by rw [unhide HC]; rfl, trivial⟩
          case measure => simp [intOf]; omega
    · have HF := hide (show G = 4294967295 - crcR 4294967295 (nats ((nums s).take n)) by rw [unhide HG, chkN, List.take_of_length_le (by rw [nums_len]; omega)])
      have HX := hide (xor_all _ hlt)
      clear hix HG
      generalize crcR 4294967295 (nats ((nums s).take n)) = V at *
      have hx0 := u32_xor_nat 4294967295 V (by omega) hlt
      rw [Nat.xor_comm, unhide HX] at hx0
      have hx : bits .xor .u32 4294967295 (V : Int) = ((4294967295 - V : Nat) : Int) := hx0
      clear hx0
      obtain ⟨R, hR⟩ : ∃ R, R = 4294967295 - V := ⟨_, rfl⟩
      have hRl : R < 4294967296 := by omega
      rw [← hR] at hx HF
      have HW := hide (show wrap64 (bits .xor .u32 IntKind.u32.max (V : Int)) = (R : Int) by
        have hm : (IntKind.u32.max : Int) = 4294967295 := by decide
        rw [hm, hx]; exact wrap64_eq _ (by omega) (by omega))
      clear hR HX hx
      go_wp2
      go_ret
      refine ⟨?_, rfl⟩
      rw [unhide HF, ← unhide HW]
      rfl
theorem check_any (s : ByteArray) (hs : s.size ≤ 9223372036854775806) (w : World) :
    Calls Tryz.prog 107 #[.string s] w fun e w' => e = .returned (.int .i64 (chkN (nums s) : Int)) ∧ w' = w := check_g s _ rfl hs w
end Go.Proofs.YtkkndlkelpdehaaGreatDoor

namespace Go.Proofs.YtkkndlkelpdehaaGreatDoor
open Go.RowKit
/-- A number of 32 bits as four bytes, the lowest first. -/
def le4 (c : Nat) : List Int := [((c % 256 : Nat) : Int), ((c / 256 % 256 : Nat) : Int), ((c / 65536 % 256 : Nat) : Int), ((c / 16777216 : Nat) : Int)]
/-- A page's first 252 bytes; the page. -/
def pageL (kind number : Int) (body : List Int) : List Int := [83, 66] ++ (numB kind 1 ++ numB (body.length : Int) 1) ++ numB number 4 ++ body ++ List.replicate (244 - body.length) 0
def makeL (kind number : Int) (body : List Int) : List Int := pageL kind number body ++ le4 (chkN (pageL kind number body))
def errM (kind number : Int) (n : Nat) : Int := if ¬ fitsP kind 1 ∨ ¬ fitsP number 4 then 1 else if 244 < n then 32 else 0
def makeB (kind number : Int) (body : ByteArray) : ByteArray := if errM kind number body.size = 0 then strOfNums (makeL kind number (nums body)) else ⟨#[]⟩
theorem pageL_len (kind number : Int) (body : List Int) (h : body.length ≤ 244) : (pageL kind number body).length = 252 := by simp [pageL, numB_len]; omega
theorem makeL_len (kind number : Int) (body : List Int) (h : body.length ≤ 244) : (makeL kind number body).length = 256 := by rw [makeL, List.length_append, pageL_len _ _ _ h]; rfl
theorem Bytes.app {a b : List Int} (ha : Bytes a) (hb : Bytes b) : Bytes (a ++ b) := by
  intro j
  rw [List.getD_eq_getElem?_getD, List.getElem?_append]
  split
  · rw [← List.getD_eq_getElem?_getD]; exact ha j
  · rw [← List.getD_eq_getElem?_getD]; exact hb _
theorem Bytes.of_mem {a : List Int} (h : ∀ x ∈ a, 0 ≤ x ∧ x < 256) : Bytes a := by
  intro j
  rw [List.getD_eq_getElem?_getD]
  cases e : a[j]? with
  | none => simp
  | some x => exact h x (List.mem_of_getElem? e)
theorem Bytes.mem {a : List Int} (h : Bytes a) {x : Int} (hx : x ∈ a) : 0 ≤ x ∧ x < 256 := by
  obtain ⟨j, hj, e⟩ := List.getElem_of_mem hx
  have := h j
  rw [List.getD_eq_getElem?_getD, List.getElem?_eq_getElem hj, e] at this
  simpa using this
theorem chkN_lt (l : List Int) : chkN l ≤ 4294967295 := by unfold chkN; omega
theorem le4_bytes (c : Nat) (h : c ≤ 4294967295) : Bytes (le4 c) := Bytes.of_mem (by
  intro x hx
  simp [le4] at hx
  rcases hx with rfl | rfl | rfl | rfl <;> omega)
theorem zeros_byte (n : Nat) : Bytes (List.replicate n 0) := Bytes.of_mem (by intro x hx; rw [(List.mem_replicate.1 hx).2]; omega)
theorem pageL_bytes (kind number : Int) (body : List Int) (h : Bytes body) : Bytes (pageL kind number body) :=
  ((((Bytes.of_mem (by intro x hx; simp at hx; omega)).app ((numB_bytes _ _).app (numB_bytes _ _))).app (numB_bytes _ _)).app h).app (zeros_byte _)
theorem makeL_bytes (kind number : Int) (body : List Int) (h : Bytes body) : Bytes (makeL kind number body) := (pageL_bytes _ _ _ h).app (le4_bytes _ (chkN_lt _))
theorem fits1 (x : Int) : fitsP x 1 ↔ 0 ≤ x ∧ x ≤ 255 := by
  unfold fitsP
  rw [show (2 : Int) ^ (8 * 1) = 256 by decide]
  omega
theorem fits4 (x : Int) : fitsP x 4 ↔ 0 ≤ x ∧ x ≤ 4294967295 := by
  unfold fitsP
  rw [show (2 : Int) ^ (8 * 4) = 4294967296 by decide]
  omega
theorem numB1 (x : Int) (h0 : 0 ≤ x) (h : x ≤ 255) : numB x 1 = [x] := by
  simp [numB, List.range_succ]
  omega
theorem i64_and255 (c : Nat) (h : c < 9223372036854775808) : bits .and .i64 (c : Int) 255 = ((c % 256 : Nat) : Int) := by
  have hx : c &&& 255 = c % 256 := Nat.and_two_pow_sub_one_eq_mod c 8
  have h1 : (BitVec.ofInt 64 (c : Int)).toNat = c := by
    rw [BitVec.ofInt_natCast, BitVec.toNat_ofNat]; exact Nat.mod_eq_of_lt (by omega)
  have h2 : (BitVec.ofInt 64 (255 : Int)).toNat = 255 := by decide
  show IntKind.i64.wrap ((BitVec.ofInt 64 (c : Int) &&& BitVec.ofInt 64 (255 : Int)).toNat : Int) = _
  rw [BitVec.toNat_and, h1, h2, hx, IntKind.wrap_i64]
  omega
end Go.Proofs.YtkkndlkelpdehaaGreatDoor

namespace Go.Proofs.YtkkndlkelpdehaaGreatDoor
open Go.RowKit
/-- strings.Repeat of one nought. -/
def RepOk : Prop := ∀ (c : Nat) (W : World), c ≤ 244 → Calls Tryz.prog 35 #[.string ⟨#[0]⟩, .int .i64 (c : Int)] W fun e w' => e = .returned (.string (strOfNums (List.replicate c 0))) ∧ Below W.heap.size W w'
def pageV (kind number : Int) (body : ByteArray) : Value := .agg #[.int .i64 kind, .int .i64 number, .string body]
set_option maxRecDepth 100000 in
set_option maxHeartbeats 4000000 in
theorem make_ok (hRep : RepOk) (kind number : Int) (body : ByteArray) (hk : fitsP kind 1) (hn : fitsP number 4) (hbd : body.size ≤ 244) (w : World) :
    Calls Tryz.prog 72 #[.agg #[.int .i64 kind, .int .i64 number, .string body]] w fun e w' => e = .returned (.tuple #[.string (strOfNums (makeL kind number (nums body))), .int .i64 0]) ∧ Below w.heap.size w w' := by
  have HF1 := hide (fun W => fits_any kind 1 (by decide) W)
  rw [decide_eq_true hk] at HF1
  have HF4 := hide (fun W => fits_any number 4 (by decide) W)
  rw [decide_eq_true hn] at HF4
  have HNW := hide (fun W => newWriter_any W)
  have HR := hide hRep
  obtain ⟨n, hnB⟩ : ∃ n, body.size = n := ⟨_, rfl⟩
  have HE1 := hide (show errN 1 [kind, (n : Int)] = 0 by
    rw [errN, if_neg (by omega), if_pos]
    intro x hx
    simp at hx
    rcases hx with rfl | rfl
    · exact hk
    · exact (fits1 _).2 ⟨by omega, by omega⟩)
  have HE4 := hide (show errN 4 [number] = 0 by
    rw [errN, if_neg (by omega), if_pos]
    intro x hx
    simp at hx
    rw [hx]
    exact hn)
  obtain ⟨P, hP⟩ : ∃ P, pageL kind number (nums body) = P := ⟨_, rfl⟩
  have hPl : P.length = 252 := by rw [← hP]; exact pageL_len _ _ _ (by rw [nums_len]; exact hbd)
  have hPeq : [83, 66] ++ outN 1 [kind, (n : Int)] ++ outN 4 [number] ++ nums body ++ List.replicate (244 - n) 0 = P := by
    rw [← hP, pageL, nums_len, hnB]
    simp [outN]
  obtain ⟨c, hc⟩ : ∃ c, chkN P = c := ⟨_, rfl⟩
  have hcl : c ≤ 4294967295 := by rw [← hc]; exact chkN_lt _
  have hmk : makeL kind number (nums body) = P ++ le4 c := by rw [makeL, hP, hc]
  have hPb : Bytes P := by rw [← hP]; exact pageL_bytes _ _ _ (nums_bytes _)
  have HEC := hide (show errN 1 (le4 c) = 0 by
    rw [errN, if_neg (by omega), if_pos]
    intro x hx
    have := (le4_bytes c hcl).mem hx
    exact (fits1 _).2 ⟨by omega, by omega⟩)
  have hoc : outN 1 (le4 c) = le4 c := by
    have h1 : ∀ l : List Int, Bytes l → outN 1 l = l := by
      intro l
      induction l with
      | nil => intro _; rfl
      | cons x l ih =>
        intro hb
        have hx := hb.mem (List.mem_cons_self)
        have e1 : outN 1 (x :: l) = numB x 1 ++ outN 1 l := by simp [outN]
        rw [e1, numB1 x hx.1 (by omega), ih (Bytes.of_mem (fun y hy => hb.mem (List.mem_cons_of_mem _ hy)))]
        rfl
    exact h1 _ (le4_bytes c hcl)
  rw [hmk]
  have HCK := hide (fun W => check_g (strOfNums P) c (by rw [nums_strOfNums P hPb, hc]) (by
    have : (strOfNums P).size = P.length := by rw [← nums_len, nums_strOfNums P hPb]
    omega) W)
  have a0 := i64_and255 c (by omega)
  have a1 : bits .and .i64 ((c : Int) / 256) 255 = ((c / 256 % 256 : Nat) : Int) := by have := i64_and255 (c / 256) (by omega); rwa [show ((c / 256 : Nat) : Int) = (c : Int) / 256 by omega] at this
  have a2 : bits .and .i64 ((c : Int) / 65536) 255 = ((c / 65536 % 256 : Nat) : Int) := by have := i64_and255 (c / 65536) (by omega); rwa [show ((c / 65536 : Nat) : Int) = (c : Int) / 65536 by omega] at this
  obtain ⟨d0, hd0⟩ : ∃ d, c % 256 = d := ⟨_, rfl⟩
  obtain ⟨d1, hd1⟩ : ∃ d, c / 256 % 256 = d := ⟨_, rfl⟩
  obtain ⟨d2, hd2⟩ : ∃ d, c / 65536 % 256 = d := ⟨_, rfl⟩
  obtain ⟨d3, hd3⟩ : ∃ d, c / 16777216 = d := ⟨_, rfl⟩
  have hle : le4 c = [(d0 : Int), (d1 : Int), (d2 : Int), (d3 : Int)] := by rw [le4, hd0, hd1, hd2, hd3]
  rw [hd0] at a0
  rw [hd1] at a1
  rw [hd2] at a2
  have s3 : (c : Int) / 16777216 = (d3 : Int) := by omega
  have hsub : (244 : Int) - (n : Int) = ((244 - n : Nat) : Int) := by omega
  obtain ⟨z, hz⟩ : ∃ z, 244 - n = z := ⟨_, rfl⟩
  rw [hz] at hsub hPeq
  have HPE := hide hPeq
  have HLE := hide hle
  have HOC := hide hoc
  have HPL := hide hPl
  have hz244 : z ≤ 244 := by omega
  clear hk hn hRep hP hPl hPeq hc hmk hPb hoc hd0 hd1 hd2 hd3 hle hz
  go_enter Tryz.func72, Tryz.ntmps72
  go_wp2_with fail
  refine (unhide HF1 _).mono ?_
  rintro ev wa ⟨rfl, rfl⟩
  go_wp2_with fail
  refine (unhide HF4 _).mono ?_
  rintro ev wb ⟨rfl, rfl⟩
  go_wp2_with fail
  refine (unhide HNW _).mono ?_
  rintro ev x0 ⟨rfl, hW, hBe, hSz⟩
  have hPG : Blk x0 w.heap.size #[.int .i64 kind, .int .i64 number, .string body] 128 := (Blk.new w _ _).below hBe (by simp)
  have HPG := hide hPG
  obtain ⟨B, hB⟩ : ∃ B, (w.alloc (Obj.cells #[.int .i64 kind, .int .i64 number, .string body] 128)).heap.size = B := ⟨_, rfl⟩
  have hB' : B = w.heap.size + 1 := by rw [← hB]; simp
  rw [hB] at hW hSz
  have HBe := hide (show Below w.heap.size w x0 from ((Below.refl _ w).alloc (Nat.le_refl _) _).trans (hBe.mono (by simp)))
  have HNF := hide (show ¬ Fp B (.slice none 0 0) w.heap.size by
    rintro (h | h)
    · omega
    · cases h)
  have hb0 : B ≤ x0.heap.size := by omega
  have hB1 : w.heap.size + 1 = B := by omega
  have HP0 := hide (WPost.refl hW)
  have HHB := hide hB
  have HHB' := hide hB'
  have HSz := hide hSz
  clear hW hBe hSz hPG HNW HF1 HF4 hB hB'
  have hbx0 := (unhide HP0).blk (unhide HPG) (unhide HNF)
  have p0x0 : x0.cell? ⟨w.heap.size, 0, none⟩ = some (.int .i64 kind) := by rw [hbx0.cell 0]; rfl
  have p1x0 : x0.cell? ⟨w.heap.size, 1, none⟩ = some (.int .i64 number) := by rw [hbx0.cell 1]; rfl
  have p2x0 : x0.cell? ⟨w.heap.size, 2, none⟩ = some (.string body) := by rw [hbx0.cell 2]; rfl
  clear hbx0
  go_wp2_with fail
  refine (rawK (unhide HP0) hb0 ⟨#[83, 66]⟩ (by decide)).mono ?_
  rintro ev x1 ⟨rfl, hP⟩
  rw [wl_good, List.nil_append, show nums ⟨#[83, 66]⟩ = [83, 66] from rfl] at hP
  have HP1 := hide hP
  clear hP HP0 p0x0 p1x0 p2x0
  have hbx1 := (unhide HP1).blk (unhide HPG) (unhide HNF)
  have p0x1 : x1.cell? ⟨w.heap.size, 0, none⟩ = some (.int .i64 kind) := by rw [hbx1.cell 0]; rfl
  have p1x1 : x1.cell? ⟨w.heap.size, 1, none⟩ = some (.int .i64 number) := by rw [hbx1.cell 1]; rfl
  have p2x1 : x1.cell? ⟨w.heap.size, 2, none⟩ = some (.string body) := by rw [hbx1.cell 2]; rfl
  clear hbx1
  go_wp2_with fail
  refine (numK (unhide HP1) hb0 1 [kind, (n : Int)] _ rfl (by simp) 2 rfl).mono ?_
  rintro ev x2 ⟨rfl, hP⟩
  rw [unhide HE1, wl_good, we_good] at hP
  have HP2 := hide hP
  clear hP HP1 p0x1 p1x1 p2x1
  have hbx2 := (unhide HP2).blk (unhide HPG) (unhide HNF)
  have p0x2 : x2.cell? ⟨w.heap.size, 0, none⟩ = some (.int .i64 kind) := by rw [hbx2.cell 0]; rfl
  have p1x2 : x2.cell? ⟨w.heap.size, 1, none⟩ = some (.int .i64 number) := by rw [hbx2.cell 1]; rfl
  have p2x2 : x2.cell? ⟨w.heap.size, 2, none⟩ = some (.string body) := by rw [hbx2.cell 2]; rfl
  clear hbx2
  go_wp2_with fail
  refine (numK (unhide HP2) hb0 4 [number] _ rfl (by simp [outN_len]) 1 rfl).mono ?_
  rintro ev x3 ⟨rfl, hP⟩
  rw [unhide HE4, wl_good, we_good] at hP
  have HP3 := hide hP
  clear hP HP2 p0x2 p1x2 p2x2
  have hbx3 := (unhide HP3).blk (unhide HPG) (unhide HNF)
  have p0x3 : x3.cell? ⟨w.heap.size, 0, none⟩ = some (.int .i64 kind) := by rw [hbx3.cell 0]; rfl
  have p1x3 : x3.cell? ⟨w.heap.size, 1, none⟩ = some (.int .i64 number) := by rw [hbx3.cell 1]; rfl
  have p2x3 : x3.cell? ⟨w.heap.size, 2, none⟩ = some (.string body) := by rw [hbx3.cell 2]; rfl
  clear hbx3
  go_wp2_with fail
  refine (rawK (unhide HP3) hb0 body (by simp [outN_len]; omega)).mono ?_
  rintro ev x4 ⟨rfl, hP⟩
  rw [wl_good] at hP
  have HP4 := hide hP
  clear hP HP3 p0x3 p1x3 p2x3
  have hbx4 := (unhide HP4).blk (unhide HPG) (unhide HNF)
  have p0x4 : x4.cell? ⟨w.heap.size, 0, none⟩ = some (.int .i64 kind) := by rw [hbx4.cell 0]; rfl
  have p1x4 : x4.cell? ⟨w.heap.size, 1, none⟩ = some (.int .i64 number) := by rw [hbx4.cell 1]; rfl
  have p2x4 : x4.cell? ⟨w.heap.size, 2, none⟩ = some (.string body) := by rw [hbx4.cell 2]; rfl
  clear hbx4
  go_wp2_with fail
  refine (unhide HR z _ hz244).mono ?_
  rintro ev x5 ⟨rfl, hB5⟩
  have HP5 := hide ((unhide HP4).below hB5)
  clear hB5 HP4 p0x4 p1x4 p2x4
  have hbx5 := (unhide HP5).blk (unhide HPG) (unhide HNF)
  have p0x5 : x5.cell? ⟨w.heap.size, 0, none⟩ = some (.int .i64 kind) := by rw [hbx5.cell 0]; rfl
  have p1x5 : x5.cell? ⟨w.heap.size, 1, none⟩ = some (.int .i64 number) := by rw [hbx5.cell 1]; rfl
  have p2x5 : x5.cell? ⟨w.heap.size, 2, none⟩ = some (.string body) := by rw [hbx5.cell 2]; rfl
  clear hbx5
  go_wp2_with fail
  refine (rawK (unhide HP5) hb0 (strOfNums (List.replicate z 0)) (by rw [← nums_len (strOfNums _), nums_strOfNums _ (zeros_byte z)]; simp [outN_len, nums_len]; omega)).mono ?_
  rintro ev x6 ⟨rfl, hP⟩
  rw [wl_good, nums_strOfNums _ (zeros_byte z), show Int.toNat 1 = 1 from rfl, show Int.toNat 4 = 4 from rfl, unhide HPE] at hP
  have HP6 := hide hP
  clear hP HP5 p0x5 p1x5 p2x5
  have hbx6 := (unhide HP6).blk (unhide HPG) (unhide HNF)
  have p0x6 : x6.cell? ⟨w.heap.size, 0, none⟩ = some (.int .i64 kind) := by rw [hbx6.cell 0]; rfl
  have p1x6 : x6.cell? ⟨w.heap.size, 1, none⟩ = some (.int .i64 number) := by rw [hbx6.cell 1]; rfl
  have p2x6 : x6.cell? ⟨w.heap.size, 2, none⟩ = some (.string body) := by rw [hbx6.cell 2]; rfl
  clear hbx6
  go_wp2_with fail
  refine (doneK (unhide HP6)).mono ?_
  rintro ev x7 ⟨rfl, hP⟩
  skip
  have HP7 := hide hP
  clear hP HP6 p0x6 p1x6 p2x6
  have hbx7 := (unhide HP7).blk (unhide HPG) (unhide HNF)
  have p0x7 : x7.cell? ⟨w.heap.size, 0, none⟩ = some (.int .i64 kind) := by rw [hbx7.cell 0]; rfl
  have p1x7 : x7.cell? ⟨w.heap.size, 1, none⟩ = some (.int .i64 number) := by rw [hbx7.cell 1]; rfl
  have p2x7 : x7.cell? ⟨w.heap.size, 2, none⟩ = some (.string body) := by rw [hbx7.cell 2]; rfl
  clear hbx7
  go_wp2_with fail
  refine (unhide HCK _).mono ?_
  rintro ev x8 ⟨rfl, rfl⟩
  have HP8 := HP7
  clear HP7
  go_wp2_with fail
  refine (numK (unhide HP8) hb0 1 [(d0 : Int), (d1 : Int), (d2 : Int), (d3 : Int)] _ rfl (by rw [unhide HPL]; simp) 4 rfl).mono ?_
  rintro ev x9 ⟨rfl, hP⟩
  rw [← unhide HLE, unhide HEC, wl_good, we_good, show Int.toNat 1 = 1 from rfl, unhide HOC] at hP
  have HP9 := hide hP
  clear hP HP8
  go_wp2_with fail
  refine (doneK (unhide HP9)).mono ?_
  rintro ev x10 ⟨rfl, hP⟩
  have HP10 := hide hP
  clear hP HP9
  go_wp2
  go_ret2
  refine ⟨rfl, ?_⟩
  obtain ⟨v1, h1, h2, h3⟩ := unhide HP10
  have hlow : Below w.heap.size x0 x10 := h2.below (by have := unhide HSz; have := unhide HHB'; omega) (fun k hk hf => by
    rcases hf with rfl | hf
    · have := unhide HHB'; omega
    · cases hf)
  exact (unhide HBe).trans hlow
end Go.Proofs.YtkkndlkelpdehaaGreatDoor
