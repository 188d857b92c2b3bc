import Derived.Test.YtpjoibolhkgkhaaGreatDoorBas
import Derived.Test.YtpjoibolhkgkhaaGreatDoorCrc
namespace Go.Proofs.YtpjoibolhkgkhaaGreatDoor
open Go.RowKit
def nats (l : List Int) : List Nat := l.map Int.toNat
/-- The check of a row of bytes. -/
def chkN (l : List Int) : Nat := 4294967295 - crcR 4294967295 (nats l)
theorem crcR_lt (l : List Nat) (hl : ∀ x ∈ l, x < 256) (v : Nat) (hv : v < 4294967296) : crcR v l < 4294967296 := by
  induction l generalizing v with
  | nil => exact hv
  | cons b l ih => exact ih (fun x hx => hl x (by simp [hx])) _ (cbyte_lt v b hv (hl b (by simp)))
theorem nats_lt (l : List Int) (h : Bytes l) : ∀ x ∈ nats l, x < 256 := by
  intro x hx
  obtain ⟨y, hy, rfl⟩ := List.mem_map.1 hx
  obtain ⟨j, hj, e⟩ := List.getElem_of_mem hy
  have := h j
  rw [List.getD_eq_getElem?_getD, List.getElem?_eq_getElem hj, e] at this
  simp at this
  omega
theorem i64_xor_nat (a b : Nat) (ha : a < 4294967296) (hb : b < 4294967296) : bits .xor .i64 (a : Int) (b : Int) = ((a ^^^ b : Nat) : Int) := by
  have hx : a ^^^ b < 2 ^ 32 := Nat.xor_lt_two_pow (by omega) (by omega)
  have h1 : (BitVec.ofInt 64 (a : Int)).toNat = a := by
    rw [BitVec.ofInt_natCast, BitVec.toNat_ofNat]; exact Nat.mod_eq_of_lt (by omega)
  have h2 : (BitVec.ofInt 64 (b : Int)).toNat = b := by
    rw [BitVec.ofInt_natCast, BitVec.toNat_ofNat]; exact Nat.mod_eq_of_lt (by omega)
  show IntKind.i64.wrap ((BitVec.ofInt 64 (a : Int) ^^^ BitVec.ofInt 64 (b : Int)).toNat : Int) = _
  rw [BitVec.toNat_xor, h1, h2, IntKind.wrap_i64]
  omega
theorem iter_succ' (n v : Nat) : iter (n + 1) v = cstep (iter n v) := by rw [iter_add]; rfl
theorem nums_nat (s : ByteArray) (i : Nat) (hi : i < s.size) : ∃ B : Nat, B < 256 ∧ (nums s).getD i 0 = (B : Int) ∧ nats ((nums s).take (i + 1)) = nats ((nums s).take i) ++ [B] := by
  have hb := nums_bytes s i
  refine ⟨((nums s).getD i 0).toNat, by omega, by omega, ?_⟩
  have hl : i < (nums s).length := by rw [nums_len]; exact hi
  rw [List.take_add_one, List.getElem?_eq_getElem hl, nats, nats, List.map_append, List.getD_eq_getElem?_getD, List.getElem?_eq_getElem hl]
  rfl
theorem xor_all (v : Nat) (h : v < 4294967296) : v ^^^ 4294967295 = 4294967295 - v := by
  have h1 : (4294967295 : Nat) = 2 ^ 32 - 1 := by decide
  have h2 : v ^^^ (2 ^ 32 - 1) = 2 ^ 32 - 1 - v := by
    apply Nat.eq_of_testBit_eq
    intro i
    rw [Nat.testBit_xor, Nat.testBit_two_pow_sub_one, show 2 ^ 32 - 1 - v = 2 ^ 32 - (v + 1) by omega, Nat.testBit_two_pow_sub_succ (by omega)]
    by_cases hi : i < 32
    · simp [hi]
    · have : v.testBit i = false := Nat.testBit_lt_two_pow (Nat.lt_of_lt_of_le h (by exact Nat.pow_le_pow_right (n := 2) (by decide) (show 32 ≤ i by omega)))
      simp [hi, this]
  rw [h1]; exact h2
set_option maxRecDepth 100000 in
set_option maxHeartbeats 1000000 in
theorem check_g (s : ByteArray) (G : Nat) (hG : G = chkN (nums s)) (hs : s.size ≤ 9223372036854775806) (w : World) :
    Calls Tryz.prog 62 #[.string s] w fun e w' => e = .returned (.int .i64 (G : Int)) ∧ w' = w := by
  have HG := hide hG
  clear hG
  have hix := fun (i : Nat) (hi : i < s.size) (W : World) => index_str s i hi W
  go_enter Tryz.func62, Tryz.ntmps62
  go_wp2
  go_loopw [3, 8] (fun c i wr => ∃ n : Nat, n ≤ s.size ∧ i = .int .i64 (n : Int) ∧ c = .int .u32 (crcR 4294967295 (nats ((nums s).take n)) : Int) ∧ wr = w) (fun _ i _ => s.size - (intOf i).toNat)
  case atStart => exact ⟨0, by omega, rfl, rfl, rfl⟩
  case round =>
    obtain ⟨n, hn, rfl, rfl, rfl⟩ := hrel
    obtain ⟨wo, rfl⟩ : ∃ wo, wo = wr := ⟨_, rfl⟩
    have hlt := crcR_lt (nats ((nums s).take n)) (nats_lt _ (fun j => by
      have := nums_bytes s j
      rw [List.getD_eq_getElem?_getD, List.getElem?_take]
      split
      · rw [← List.getD_eq_getElem?_getD]; exact this
      · simp)) 4294967295 (by omega)
    by_cases hns : n < s.size
    · obtain ⟨B, hB, hBe, hBt⟩ := nums_nat s n hns
      have hi2 := hix n hns
      rw [hBe] at hi2
      have HT := hide hBt
      have HC := hide (show crcR 4294967295 (nats ((nums s).take (n + 1))) = cbyte (crcR 4294967295 (nats ((nums s).take n))) B by rw [hBt, crcR, List.foldl_append]; rfl)
      clear hBt hBe hix
      generalize crcR 4294967295 (nats ((nums s).take n)) = V at *
      have hw8 : IntKind.u32.wrap (B : Int) = (B : Int) := by rw [IntKind.wrap_u32']; omega
      have hx := u32_xor_nat V B hlt (by omega)
      have hxl : V ^^^ B < 4294967296 := Nat.xor_lt_two_pow (n := 32) (by omega) (by omega)
      go_wp2
      go_loopw [3, 17] (fun c i wr => ∃ k : Nat, k ≤ 8 ∧ i = .int .i64 (k : Int) ∧ c = .int .u32 (iter k (V ^^^ B) : Int) ∧ wr = wo) (fun _ i _ => 8 - (intOf i).toNat)
      case atStart => exact ⟨0, by omega, rfl, rfl, rfl⟩
      case round =>
        obtain ⟨k, hk, rfl, rfl, rfl⟩ := hrel
        have hl := iter_lt k (V ^^^ B) hxl
        have HS := hide (iter_succ' k (V ^^^ B))
        by_cases hk8 : k < 8
        · generalize iter k (V ^^^ B) = U at *
          have ha0 := u32_and_nat U 1 hl (by omega)
          rw [Nat.and_one_is_mod] at ha0
          have ha : bits .and .u32 (U : Int) 1 = ((U % 2 : Nat) : Int) := ha0
          have HX2 := hide (u32_xor_nat (U / 2) 3988292384 (by omega) (by omega))
          clear ha0
          rcases Nat.mod_two_eq_zero_or_one U with h | h
          · rw [h] at ha
            go_wp2
            go_roundw
            case rel => exact ⟨k + 1, by omega, by go_num, by rw [unhide HS, cstep, if_neg (by omega), Nat.xor_zero]; simp, trivial⟩
            case measure => simp [intOf]; omega
          · rw [h] at ha
            go_wp2
            go_roundw
            case rel => exact ⟨k + 1, by omega, by go_num, by rw [unhide HS, cstep, if_pos h, ← unhide HX2]; rfl, trivial⟩
            case measure => simp [intOf]; omega
        · obtain rfl : k = 8 := by omega
          go_wp2
          go_roundw
          case rel => exact ⟨n + 1, by omega, by go_num, by rw [unhide HC]; rfl, trivial⟩
          case measure => simp [intOf]; omega
    · have HF := hide (show G = 4294967295 - crcR 4294967295 (nats ((nums s).take n)) by rw [unhide HG, chkN, List.take_of_length_le (by rw [nums_len]; omega)])
      have HX := hide (xor_all _ hlt)
      clear hix HG
      generalize crcR 4294967295 (nats ((nums s).take n)) = V at *
      have hx0 := u32_xor_nat 4294967295 V (by omega) hlt
      rw [Nat.xor_comm, unhide HX] at hx0
      have hx : bits .xor .u32 4294967295 (V : Int) = ((4294967295 - V : Nat) : Int) := hx0
      clear hx0
      obtain ⟨R, hR⟩ : ∃ R, R = 4294967295 - V := ⟨_, rfl⟩
      have hRl : R < 4294967296 := by omega
      rw [← hR] at hx HF
      have HW := hide (show wrap64 (bits .xor .u32 IntKind.u32.max (V : Int)) = (R : Int) by
        have hm : (IntKind.u32.max : Int) = 4294967295 := by decide
        rw [hm, hx]; exact wrap64_eq _ (by omega) (by omega))
      clear hR HX hx
      go_wp2
      go_ret
      refine ⟨?_, rfl⟩
      rw [unhide HF, ← unhide HW]
      rfl
theorem check_any (s : ByteArray) (hs : s.size ≤ 9223372036854775806) (w : World) :
    Calls Tryz.prog 62 #[.string s] w fun e w' => e = .returned (.int .i64 (chkN (nums s) : Int)) ∧ w' = w := check_g s _ rfl hs w
end Go.Proofs.YtpjoibolhkgkhaaGreatDoor
