import Derived.Test.YtolblldpdgfkmaaDoorGfd
import Derived.Test.YtolblldpdgfkmaaDoorBas
namespace Go.Proofs.YtolblldpdgfkmaaDoor
open Go.RowKit
set_option maxRecDepth 100000
theorem xor64n (a b : Nat) (ha : a < 4294967296) (hb : b < 4294967296) : bits .xor .i64 (a : Int) (b : Int) = ((a ^^^ b : Nat) : Int) := by
  have hx : a ^^^ b < 2 ^ 32 := Nat.xor_lt_two_pow (by omega) (by omega)
  have h1 : (BitVec.ofInt 64 (a : Int)).toNat = a := by
    rw [BitVec.ofInt_natCast, BitVec.toNat_ofNat]; exact Nat.mod_eq_of_lt (by omega)
  have h2 : (BitVec.ofInt 64 (b : Int)).toNat = b := by
    rw [BitVec.ofInt_natCast, BitVec.toNat_ofNat]; exact Nat.mod_eq_of_lt (by omega)
  show IntKind.i64.wrap ((BitVec.ofInt 64 (a : Int) ^^^ BitVec.ofInt 64 (b : Int)).toNat : Int) = _
  rw [BitVec.toNat_xor, h1, h2, IntKind.wrap_i64]
  omega
theorem and64one (c : Nat) (h : c < 9223372036854775808) : bits .and .i64 (c : Int) 1 = ((c % 2 : Nat) : Int) := by
  have hx : c &&& 1 = c % 2 := Nat.and_one_is_mod c
  have h1 : (BitVec.ofInt 64 (c : Int)).toNat = c := by
    rw [BitVec.ofInt_natCast, BitVec.toNat_ofNat]; exact Nat.mod_eq_of_lt (by omega)
  have h2 : (BitVec.ofInt 64 (1 : Int)).toNat = 1 := by decide
  show IntKind.i64.wrap ((BitVec.ofInt 64 (c : Int) &&& BitVec.ofInt 64 (1 : Int)).toNat : Int) = _
  rw [BitVec.toNat_and, h1, h2, hx, IntKind.wrap_i64]
  omega
/-- a bit of a number, as it is asked for -/
theorem bit64 (b k : Nat) (hb : b < 4294967296) : (bits .and .i64 ((b : Int) / 2 ^ k) 1 == 1) = b.testBit k := by
  have e : (b : Int) / 2 ^ k = ((b / 2 ^ k : Nat) : Int) := by
    rw [Int.natCast_ediv, Int.natCast_pow]
    rfl
  rw [e, and64one _ (Nat.lt_of_le_of_lt (Nat.div_le_self _ _) (by omega)), Nat.testBit_eq_decide_div_mod_eq]
  by_cases q : b / 2 ^ k % 2 = 1
  · rw [q]; rfl
  · have : b / 2 ^ k % 2 = 0 := by omega
    rw [this]; rfl
theorem shl64 (a k : Nat) (h : a <<< k < 4294967296) : IntKind.i64.wrap ((a : Int) * 2 ^ k) = ((a <<< k : Nat) : Int) := by
  have e : (a : Int) * 2 ^ k = ((a <<< k : Nat) : Int) := by
    rw [Nat.shiftLeft_eq, Int.natCast_mul, Int.natCast_pow]
    rfl
  rw [e]
  generalize a <<< k = s at *
  exact wrapI_eq _ (by omega) (by omega)
/-- what the first k bits of b make of a -/
def clp (a b : Nat) : Nat → Nat
  | 0 => 0
  | k + 1 => if b.testBit k then clp a b k ^^^ (a <<< k) else clp a b k
theorem shl_lt (a k : Nat) (ha : a < 256) (hk : k < 8) : a <<< k < 65536 := by
  rw [Nat.shiftLeft_eq]
  have : 2 ^ k ≤ 2 ^ 7 := Nat.pow_le_pow_right (by decide) (by omega)
  calc a * 2 ^ k ≤ a * 2 ^ 7 := Nat.mul_le_mul_left a this
    _ < 65536 := by omega
theorem clp_lt (a b : Nat) (ha : a < 256) : ∀ k, k ≤ 8 → clp a b k < 65536
  | 0, _ => by show 0 < 65536; decide
  | k + 1, h => by
    have ih := clp_lt a b ha k (by omega)
    unfold clp
    split
    · exact Nat.xor_lt_two_pow (n := 16) ih (shl_lt a k ha (by omega))
    · exact ih
theorem clp_clm (a b : Nat) : clp a b 8 = clm a b := by
  unfold clm
  simp only [clp, show List.range 8 = [0, 1, 2, 3, 4, 5, 6, 7] from rfl, List.foldl_cons, List.foldl_nil]
/-- what is taken away, from the highest bit on -/
def rds (p : Nat) : Nat → Nat
  | 0 => p
  | k + 1 => rd (6 - k) (rds p k)
theorem rds_red (p : Nat) : rds p 7 = red p := rfl
theorem rds_lt (p : Nat) (hp : p < 65536) : ∀ k, k ≤ 7 → rds p k < 65536
  | 0, _ => hp
  | k + 1, h => by
    have ih := rds_lt p hp k (by omega)
    unfold rds rd
    split
    · refine Nat.xor_lt_two_pow (n := 16) ih ?_
      have : ∀ j, j < 7 → 285 <<< j < 2 ^ 16 := by decide
      exact this (6 - k) (by omega)
    · exact ih
set_option maxHeartbeats 1000000 in
theorem rmul_any (a b : Nat) (ha : a < 256) (hb : b < 256) (w : World) : Calls Tryd.prog 55 #[.int .i64 (a : Int), .int .i64 (b : Int)] w fun e w' => e = .returned (.int .i64 (gm a b : Int)) ∧ w' = w := by
  go_enter Tryd.func55, Tryd.ntmps55
  go_wp2
  go_loopw [5, 6] (fun p i wr => ∃ k : Nat, k ≤ 8 ∧ i = .int .i64 (k : Int) ∧ p = .int .i64 (clp a b k : Int) ∧ wr = w) (fun _ i _ => 8 - (intOf i).toNat)
  case atStart => exact ⟨0, by omega, rfl, rfl, rfl⟩
  case round =>
    obtain ⟨k, hk, rfl, rfl, hw⟩ := hrel
    subst wr
    by_cases hk8 : k < 8
    · have hk8' : (k : Int) < 8 := by omega
      have hbt := bit64 b k (by omega)
      cases hq : b.testBit k with
      | false =>
        rw [hq] at hbt
        have HE := hide (show clp a b (k + 1) = clp a b k from by show (if b.testBit k then _ else _) = _; rw [hq]; rfl)
        generalize clp a b k = c at *
        clear hq
        go_wp2
        go_roundw
        case rel => exact ⟨k + 1, by omega, by go_num, by rw [unhide HE], by first | rfl | trivial⟩
        case measure => simp [intOf]; omega
      | true =>
        rw [hq] at hbt
        have hsl := shl_lt a k ha hk8
        have hcl := clp_lt a b ha k hk
        have hsh := shl64 a k (by omega)
        have hxr := xor64n (clp a b k) (a <<< k) (by omega) (by omega)
        have HE := hide (show clp a b (k + 1) = clp a b k ^^^ (a <<< k) from by show (if b.testBit k then _ else _) = _; rw [hq]; rfl)
        generalize clp a b k = c at *
        generalize a <<< k = s at *
        clear hq hsl hcl
        go_wp2
        go_roundw
        case rel => exact ⟨k + 1, by omega, by go_num, by rw [unhide HE], by first | rfl | trivial⟩
        case measure => simp [intOf]; omega
    · obtain rfl : k = 8 := by omega
      have hk8' : ¬ ((8 : Nat) : Int) < 8 := by omega
      have HC := hide (show clp a b 8 = clm a b from clp_clm a b)
      have HL := hide (clp_lt a b ha 8 (by omega))
      generalize clp a b 8 = c at *
      go_wp2
      go_loopw [5, 7] (fun p i wr => ∃ j : Nat, 7 ≤ j ∧ j ≤ 14 ∧ i = .int .i64 (j : Int) ∧ p = .int .i64 (rds c (14 - j) : Int) ∧ wr = w) (fun _ i _ => (intOf i).toNat)
      case atStart => exact ⟨14, by omega, by omega, rfl, rfl, rfl⟩
      case round =>
        obtain ⟨j, hj7, hj, rfl, rfl, hw⟩ := hrel
        subst wr
        by_cases hj8 : 8 ≤ j
        · have hj8' : (8 : Int) ≤ (j : Int) := by omega
          have hlt := rds_lt c (unhide HL) (14 - j) (by omega)
          have hbt := bit64 (rds c (14 - j)) j (by omega)
          have hw1 : IntKind.i64.wrap ((j : Int) - 1) = ((j - 1 : Nat) : Int) := by rw [wrapI_eq _ (by omega) (by omega)]; omega
          have e1 : 14 - (j - 1) = 14 - j + 1 := by omega
          have e2 : 6 - (14 - j) = j - 8 := by omega
          have e3 : j - 8 + 8 = j := by omega
          cases hq : (rds c (14 - j)).testBit j with
          | false =>
            rw [hq] at hbt
            have HE := hide (show rds c (14 - (j - 1)) = rds c (14 - j) from by
              rw [e1]
              show rd (6 - (14 - j)) (rds c (14 - j)) = _
              rw [e2, rd, e3, hq]
              rfl)
            generalize rds c (14 - j) = r at *
            clear hq hlt e1 e2 e3
            go_wp2
            go_roundw
            case rel => exact ⟨j - 1, by omega, by omega, by first | rfl | (rw [hw1]) , by rw [unhide HE], by first | rfl | trivial⟩
            case measure => simp [intOf]; omega
          | true =>
            rw [hq] at hbt
            have hw8 : IntKind.i64.wrap ((j : Int) - 8) = ((j - 8 : Nat) : Int) := by rw [wrapI_eq _ (by omega) (by omega)]; omega
            have h285 : 285 <<< (j - 8) < 65536 := by
              have : ∀ i, i < 7 → 285 <<< i < 65536 := by decide
              exact this (j - 8) (by omega)
            have hsh := shl64 285 (j - 8) (by omega)
            simp only [Int.cast_ofNat_Int] at hsh
            have hxr := xor64n (rds c (14 - j)) (285 <<< (j - 8)) (by omega) (by omega)
            have HE := hide (show rds c (14 - (j - 1)) = rds c (14 - j) ^^^ 285 <<< (j - 8) from by
              rw [e1]
              show rd (6 - (14 - j)) (rds c (14 - j)) = _
              rw [e2, rd, e3, hq]
              rfl)
            generalize rds c (14 - j) = r at *
            generalize 285 <<< (j - 8) = s at *
            clear hq hlt e1 e2 e3 h285
            go_wp2
            go_roundw
            case rel => exact ⟨j - 1, by omega, by omega, by first | rfl | (rw [hw1]), by rw [unhide HE], by first | rfl | trivial⟩
            case measure => simp [intOf]; omega
        · obtain rfl : j = 7 := by omega
          have hj8' : ¬ (8 : Int) ≤ ((7 : Nat) : Int) := by omega
          have HF := hide (show rds c (14 - 7) = gm a b from by unfold gm; rw [← unhide HC]; rfl)
          rw [unhide HF]
          clear HF
          go_wp2
          go_ret
          exact ⟨rfl, rfl⟩
end Go.Proofs.YtolblldpdgfkmaaDoor
