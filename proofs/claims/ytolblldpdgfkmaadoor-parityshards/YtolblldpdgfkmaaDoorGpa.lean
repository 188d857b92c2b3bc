import Derived.Test.YtolblldpdgfkmaaDoorGrb
import Derived.Test.YtolblldpdgfkmaaDoorGff
namespace Go.Proofs.YtolblldpdgfkmaaDoor
open Go.RowKit
set_option maxRecDepth 100000
theorem xor8q (a b : Nat) (ha : a < 256) (hb : b < 256) : bits .xor .u8 (a : Int) (b : Int) = ((a ^^^ b : Nat) : Int) := by
  have hx : a ^^^ b < 2 ^ 8 := Nat.xor_lt_two_pow (by omega) (by omega)
  have h1 : (BitVec.ofInt 8 (a : Int)).toNat = a := by
    rw [BitVec.ofInt_natCast, BitVec.toNat_ofNat]; exact Nat.mod_eq_of_lt (by omega)
  have h2 : (BitVec.ofInt 8 (b : Int)).toNat = b := by
    rw [BitVec.ofInt_natCast, BitVec.toNat_ofNat]; exact Nat.mod_eq_of_lt (by omega)
  show IntKind.u8.wrap ((BitVec.ofInt 8 (a : Int) ^^^ BitVec.ofInt 8 (b : Int)).toNat : Int) = _
  rw [BitVec.toNat_xor, h1, h2]
  show ((a ^^^ b : Nat) : Int) % 256 = _
  omega
theorem and8one (c : Nat) (h : c < 256) : bits .and .u8 (c : Int) 1 = ((c % 2 : Nat) : Int) := by
  have hx : c &&& 1 = c % 2 := Nat.and_one_is_mod c
  have h1 : (BitVec.ofInt 8 (c : Int)).toNat = c := by
    rw [BitVec.ofInt_natCast, BitVec.toNat_ofNat]; exact Nat.mod_eq_of_lt (by omega)
  have h2 : (BitVec.ofInt 8 (1 : Int)).toNat = 1 := by decide
  show IntKind.u8.wrap ((BitVec.ofInt 8 (c : Int) &&& BitVec.ofInt 8 (1 : Int)).toNat : Int) = _
  rw [BitVec.toNat_and, h1, h2, hx]
  show ((c % 2 : Nat) : Int) % 256 = _
  omega
theorem bit8 (b k : Nat) (hb : b < 256) : (bits .and .u8 ((b : Int) / 2 ^ k) 1 == 1) = b.testBit k := by
  have e : (b : Int) / 2 ^ k = ((b / 2 ^ k : Nat) : Int) := by
    rw [Int.natCast_ediv, Int.natCast_pow]
    rfl
  rw [e, and8one _ (Nat.lt_of_le_of_lt (Nat.div_le_self _ _) hb), Nat.testBit_eq_decide_div_mod_eq]
  by_cases q : b / 2 ^ k % 2 = 1
  · rw [q]; rfl
  · have : b / 2 ^ k % 2 = 0 := by omega
    rw [this]; rfl
theorem pelem_any (a : Int) (w : World) : Calls Tryd.prog 26 #[.int .i64 a] w fun e w' => e = .returned (.bool (decide (0 ≤ a ∧ a < 256))) ∧ w' = w := by
  by_cases h : 0 ≤ a ∧ a < 256
  · have h1 : 0 ≤ a := h.1
    have h2 : a < 256 := h.2
    have HD := hide (decide_eq_true h)
    rw [unhide HD]
    clear h
    go_enter Tryd.func26, Tryd.ntmps26
    go_wp2
    go_ret
    exact ⟨rfl, rfl⟩
  · have HD := hide (decide_eq_false h)
    rw [unhide HD]
    by_cases h1 : 0 ≤ a
    · have h2 : ¬ a < 256 := fun q => h ⟨h1, q⟩
      clear h
      go_enter Tryd.func26, Tryd.ntmps26
      go_wp2
      go_ret
      exact ⟨rfl, rfl⟩
    · clear h
      go_enter Tryd.func26, Tryd.ntmps26
      go_wp2
      go_ret
      exact ⟨rfl, rfl⟩
theorem pdouble_any (a : Nat) (ha : a < 256) (w : World) : Calls Tryd.prog 42 #[.int .u8 (a : Int)] w fun e w' => e = .returned (.int .u8 (dbl a : Int)) ∧ w' = w := by
  by_cases h : a < 128
  · have h' : (a : Int) < 128 := by omega
    have HD := hide (show (dbl a : Int) = (a : Int) * 2 from by unfold dbl; rw [if_pos h]; omega)
    have e1 : (a : Int) * 2 % 256 = (a : Int) * 2 := by omega
    rw [unhide HD]
    go_enter Tryd.func42, Tryd.ntmps42
    go_wp2
    go_ret
    exact ⟨by first | rfl | rw [e1], rfl⟩
  · have h' : ¬ (a : Int) < 128 := by omega
    have HD := hide (show dbl a = (2 * a) % 256 ^^^ 29 from by unfold dbl; rw [if_neg h])
    have e1 : (a : Int) * 2 % 256 = (((2 * a) % 256 : Nat) : Int) := by omega
    have e2 := xor8q ((2 * a) % 256) 29 (Nat.mod_lt _ (by decide)) (by decide)
    simp only [Int.cast_ofNat_Int] at e2
    rw [unhide HD]
    generalize (2 * a) % 256 = c at *
    clear HD
    go_enter Tryd.func42, Tryd.ntmps42
    go_wp2
    go_ret
    exact ⟨by first | rfl | (rw [e1, e2]), rfl⟩
set_option maxHeartbeats 1000000 in
theorem prod_any (a b : Nat) (ha : a < 256) (hb : b < 256) (w : World) : Calls Tryd.prog 27 #[.int .u8 (a : Int), .int .u8 (b : Int)] w fun e w' => e = .returned (.int .u8 (gm a b : Int)) ∧ w' = w := by
  go_enter Tryd.func27, Tryd.ntmps27
  go_wp2
  go_loopw [5, 6] (fun p i wr => ∃ k : Nat, k ≤ 8 ∧ i = .int .i64 ((k : Int) - 1) ∧ p = .int .u8 (gm a (b / 2 ^ k) : Int) ∧ wr = w) (fun _ i _ => (intOf i + 1).toNat)
  case atStart => exact ⟨8, by omega, rfl, by rw [show b / 2 ^ 8 = 0 from Nat.div_eq_of_lt hb, gm_zero]; rfl, rfl⟩
  case round =>
    obtain ⟨k, hk, rfl, rfl, hw⟩ := hrel
    subst wr
    by_cases hk0 : k = 0
    · subst hk0
      have HF := hide (show gm a (b / 2 ^ 0) = gm a b from by rw [Nat.pow_zero, Nat.div_one])
      rw [unhide HF]
      clear HF
      go_wp2
      go_ret
      exact ⟨rfl, rfl⟩
    · obtain ⟨j, rfl⟩ : ∃ j, k = j + 1 := ⟨k - 1, by omega⟩
      have ej : ((j + 1 : Nat) : Int) - 1 = (j : Int) := by omega
      rw [ej]
      have hj0 : (0 : Int) ≤ (j : Int) := by omega
      have hlt : gm a (b / 2 ^ (j + 1)) < 256 := gm_lt _ _ ha (Nat.lt_of_le_of_lt (Nat.div_le_self _ _) hb)
      have HM := hide (fun W => pdouble_any (gm a (b / 2 ^ (j + 1))) hlt W)
      have hd := dbl_lt _ hlt
      have hbt := bit8 b j hb
      have hs := gm_shift a b j ha hb
      have hw1 : IntKind.i64.wrap ((j : Int) - 1) = (j : Int) - 1 := wrapI_eq _ (by omega) (by omega)
      generalize gm a (b / 2 ^ (j + 1)) = c at *
      generalize dbl c = d at *
      cases hq : b.testBit j with
      | false =>
        rw [hq] at hbt hs
        have HE := hide (show gm a (b / 2 ^ j) = d from by rw [hs]; simp)
        clear hs hq hlt hd
        go_wp2_with fail
        refine (unhide HM _).mono ?_
        rintro e w' ⟨rfl, hw'⟩
        subst w'
        go_wp2
        go_roundw
        case rel => exact ⟨j, by omega, by first | rfl | rw [hw1], by rw [unhide HE], by first | rfl | trivial⟩
        case measure => simp [intOf] <;> omega
      | true =>
        rw [hq] at hbt hs
        have hx := xor8q d a hd ha
        have HE := hide (show gm a (b / 2 ^ j) = d ^^^ a from by rw [hs]; simp)
        clear hs hq hlt hd
        go_wp2_with fail
        refine (unhide HM _).mono ?_
        rintro e w' ⟨rfl, hw'⟩
        subst w'
        go_wp2
        go_roundw
        case rel => exact ⟨j, by omega, by first | rfl | rw [hw1], by rw [unhide HE], by first | rfl | trivial⟩
        case measure => simp [intOf] <;> omega
set_option maxHeartbeats 1000000 in
theorem pinverse_any (a : Nat) (ha : a < 256) (w : World) : Calls Tryd.prog 28 #[.int .u8 (a : Int)] w fun e w' => e = .returned (.int .u8 (giv a : Int)) ∧ w' = w := by
  have HG := hide (pw_giv a ha)
  have HL := hide (pw_lt a ha)
  go_enter Tryd.func28, Tryd.ntmps28
  go_wp2
  go_loopw [3, 4, 6] (fun p q i wr => ∃ k : Nat, k ≤ 7 ∧ i = .int .i64 (k : Int) ∧ p = .int .u8 ((pw a k).1 : Int) ∧ q = .int .u8 ((pw a k).2 : Int) ∧ wr = w) (fun _ _ i _ => 7 - (intOf i).toNat)
  case atStart => exact ⟨0, by omega, rfl, rfl, rfl, rfl⟩
  case round =>
    obtain ⟨k, hk, rfl, rfl, rfl, hw⟩ := hrel
    subst wr
    by_cases hk7 : k < 7
    · have hk7' : (k : Int) < 7 := by omega
      obtain ⟨h1, h2⟩ := unhide HL k
      have h3 := gm_lt _ _ h1 h1
      have HM := hide (fun W => prod_any _ _ h1 h1 W)
      have HM2 := hide (fun W => prod_any _ _ h2 h3 W)
      have HE := hide (pw_succ a k)
      generalize (pw a k).1 = p at *
      generalize (pw a k).2 = q at *
      generalize gm p p = r at *
      generalize gm q r = s at *
      clear h1 h2 h3
      go_wp2_with fail
      refine (unhide HM _).mono ?_
      rintro e w' ⟨rfl, hw'⟩
      subst w'
      go_wp2_with fail
      refine (unhide HM2 _).mono ?_
      rintro e w' ⟨rfl, hw'⟩
      subst w'
      go_wp2
      go_roundw
      case rel => exact ⟨k + 1, by omega, by go_num, by rw [unhide HE], by rw [unhide HE], by first | rfl | trivial⟩
      case measure => simp [intOf] <;> omega
    · obtain rfl : k = 7 := by omega
      rw [unhide HG]
      have hk7' : ¬ ((7 : Nat) : Int) < 7 := by omega
      clear HG HL
      generalize (pw a 7).1 = p at *
      go_wp2
      go_ret
      exact ⟨rfl, rfl⟩
end Go.Proofs.YtolblldpdgfkmaaDoor
