import Derived.Test.YtclgkgaobjcifaaGreatDoorMx01
import Derived.Test.YtclgkgaobjcifaaGreatDoorMx08
import Derived.Test.YtclgkgaobjcifaaGreatDoorMx20
import Derived.Test.YtclgkgaobjcifaaGreatDoorMx11
import Derived.Test.YtclgkgaobjcifaaGreatDoorMx13
namespace Go.Proofs.YtclgkgaobjcifaaGreatDoor
open Go.RowKit
set_option maxRecDepth 100000 in
set_option maxHeartbeats 1000000 in
theorem rcheck_g (s : ByteArray) (G : Nat) (hG : G = chkN (nums s)) (hs : s.size ≤ 9223372036854775806) (w : World) :
    Calls Tryz.prog 50 #[.string s] w fun e w' => e = .returned (.int .i64 (G : Int)) ∧ w' = w := by
  have HG := hide hG
  clear hG
  have hix := fun (i : Nat) (hi : i < s.size) (W : World) => index_str s i hi W
  go_enter Tryz.func50, Tryz.ntmps50
  go_wp2
  go_loopw [3, 4] (fun c i wr => ∃ n : Nat, n ≤ s.size ∧ i = .int .i64 (n : Int) ∧ c = .int .i64 (crcR 4294967295 (nats ((nums s).take n)) : Int) ∧ wr = w) (fun _ i _ => s.size - (intOf i).toNat)
  case atStart => exact ⟨0, by omega, rfl, rfl, rfl⟩
  case round =>
    obtain ⟨n, hn, rfl, rfl, rfl⟩ := hrel
    obtain ⟨wo, rfl⟩ : ∃ wo, wo = wr := ⟨_, rfl⟩
    have hlt := crcR_lt (nats ((nums s).take n)) (nats_lt _ (fun j => by
      have := nums_bytes s j
      rw [List.getD_eq_getElem?_getD, List.getElem?_take]
      split
      · rw [← List.getD_eq_getElem?_getD]; exact this
      · simp)) 4294967295 (by omega)
    by_cases hns : n < s.size
    · obtain ⟨B, hB, hBe, hBt⟩ := nums_nat s n hns
      have hi2 := hix n hns
      rw [hBe] at hi2
      have HT := hide hBt
      have HC := hide (show crcR 4294967295 (nats ((nums s).take (n + 1))) = cbyte (crcR 4294967295 (nats ((nums s).take n))) B by rw [hBt, crcR, List.foldl_append]; rfl)
      clear hBt hBe hix
      generalize crcR 4294967295 (nats ((nums s).take n)) = V at *
      have hx := i64_xor_nat V B hlt (by omega)
      have hxl : V ^^^ B < 4294967296 := Nat.xor_lt_two_pow (n := 32) (by omega) (by omega)
      go_wp2
      go_loopw [3, 5] (fun c i wr => ∃ k : Nat, k ≤ 8 ∧ i = .int .i64 (k : Int) ∧ c = .int .i64 (iter k (V ^^^ B) : Int) ∧ wr = wo) (fun _ i _ => 8 - (intOf i).toNat)
      case atStart => exact ⟨0, by omega, rfl, rfl, rfl⟩
      case round =>
        obtain ⟨k, hk, rfl, rfl, rfl⟩ := hrel
        have hl := iter_lt k (V ^^^ B) hxl
        have HS := hide (iter_succ' k (V ^^^ B))
        by_cases hk8 : k < 8
        · generalize iter k (V ^^^ B) = U at *
          have ha : ((U : Int)).tmod 2 = ((U % 2 : Nat) : Int) := rfl
          obtain ⟨U2, hU2⟩ : ∃ U2, U / 2 = U2 := ⟨_, rfl⟩
          have hq : ((U : Int)).tdiv 2 = (U2 : Int) := by rw [← hU2]; rfl
          have HX2 := hide (i64_xor_nat U2 3988292384 (by omega) (by omega))
          have HU2 := hide hU2
          have hU2l : U2 < 4294967296 := by omega
          clear hU2
          rcases Nat.mod_two_eq_zero_or_one U with h | h
          · rw [h] at ha
            go_wp2
            go_roundw
            case rel => exact ⟨k + 1, by omega, by go_num, by rw [unhide HS, cstep, if_neg (by omega), Nat.xor_zero, unhide HU2], trivial⟩
            case measure => simp [intOf]; omega
          · rw [h] at ha
            go_wp2
            go_roundw
            case rel => exact ⟨k + 1, by omega, by go_num, by rw [unhide HS, cstep, if_pos h, unhide HU2, ← unhide HX2]; rfl, trivial⟩
            case measure => simp [intOf]; omega
        · obtain rfl : k = 8 := by omega
          go_wp2
          go_roundw
          case rel => exact ⟨n + 1, by omega, by go_num, by rw [unhide HC]; rfl, trivial⟩
          case measure => simp [intOf]; omega
    · have HF := hide (show G = 4294967295 - crcR 4294967295 (nats ((nums s).take n)) by rw [unhide HG, chkN, List.take_of_length_le (by rw [nums_len]; omega)])
      clear hix HG
      generalize crcR 4294967295 (nats ((nums s).take n)) = V at *
      go_wp2
      go_ret
      refine ⟨?_, rfl⟩
      have e : (G : Int) = 4294967295 - (V : Int) := by have := unhide HF; omega
      rw [e]
      rfl
theorem rcheck_any (s : ByteArray) (hs : s.size ≤ 9223372036854775806) (w : World) :
    Calls Tryz.prog 50 #[.string s] w fun e w' => e = .returned (.int .i64 (chkN (nums s) : Int)) ∧ w' = w := rcheck_g s _ rfl hs w
end Go.Proofs.YtclgkgaobjcifaaGreatDoor

namespace Go.Proofs.YtclgkgaobjcifaaGreatDoor
open Go.RowKit
set_option maxRecDepth 100000
theorem within_any (n lo hi : Int) (w : World) : Calls Tryz.prog 76 #[.int .i64 n, .int .i64 lo, .int .i64 hi] w fun e w' => e = .returned (.bool (decide (lo ≤ n ∧ n ≤ hi))) ∧ w' = w := by
  by_cases h0 : lo ≤ n
  · have hd : decide (n ≥ lo) = true := by simpa using h0
    have he : decide (lo ≤ n ∧ n ≤ hi) = decide (n ≤ hi) := by simp [h0]
    rw [he]
    clear h0 he
    generalize hdz : decide (n ≤ hi) = dz at *
    go_enter Tryz.func76, Tryz.ntmps76
    go_wp2
    go_ret
    exact ⟨rfl, rfl⟩
  · have hd : decide (n ≥ lo) = false := by simpa using h0
    have he : decide (lo ≤ n ∧ n ≤ hi) = false := by simp [h0]
    rw [he]
    clear h0 he
    go_enter Tryz.func76, Tryz.ntmps76
    go_wp2
    go_ret
    exact ⟨rfl, rfl⟩
theorem rnum_of (n k : Nat) (hn : n ≤ 9223372036854775807) (hk : k ≤ 8) (w : World) : Calls Tryz.prog 47 #[.int .i64 (n : Int), .int .i64 (k : Int)] w fun e w' => e = .returned (.string (strOfNums (numB (n : Int) k))) ∧ Below w.heap.size w w' := by
  have HB := hide (rbytes_any n k hn hk w)
  clear hn hk
  generalize strOfNums (numB (n : Int) k) = S at *
  go_enter Tryz.func47, Tryz.ntmps47
  go_wp2_with (go_at_call 79; refine (unhide HB).mono ?_; rintro e x ⟨rfl, hx⟩; have HX := hide hx; clear hx)
  go_ret
  exact ⟨rfl, unhide HX⟩
theorem kinds12 {k : Int} (h : 1 ≤ k ∧ k ≤ 12) : k = 1 ∨ k = 2 ∨ k = 3 ∨ k = 4 ∨ k = 5 ∨ k = 6 ∨ k = 7 ∨ k = 8 ∨ k = 9 ∨ k = 10 ∨ k = 11 ∨ k = 12 := by omega
set_option maxHeartbeats 4000000 in
theorem rsize_any (k : Int) (h : 1 ≤ k ∧ k ≤ 12) (w : World) : Calls Tryz.prog 55 #[.int .i64 k] w fun e w' => e = .returned (.int .i64 (szF (rqF k) : Int)) ∧ Below w.heap.size w w' := by
  rcases kinds12 h with rfl | rfl | rfl | rfl | rfl | rfl | rfl | rfl | rfl | rfl | rfl | rfl <;> clear h <;> (go_enter Tryz.func55, Tryz.ntmps55; go_wp2; go_ret; exact ⟨rfl, (Below.refl _ _).alloc (Nat.le_refl _) _⟩)
set_option maxHeartbeats 2000000 in
theorem low4_any (c : Nat) (hc : c ≤ 4294967295) (w : World) : Calls Tryz.prog 49 #[.int .i64 (c : Int)] w fun e w' => e = .returned (.string (strOfNums (le4 c))) ∧ Below w.heap.size w w' := by
  have HB := hide (Below.refl w.heap.size w)
  have HL := hide (show ∀ j : Nat, j < 4 → (le4 c).take (j + 1) = (le4 c).take j ++ [((c / 256 ^ j % 256 : Nat) : Int)] by
    intro j hj
    have : j = 0 ∨ j = 1 ∨ j = 2 ∨ j = 3 := by omega
    rcases this with rfl | rfl | rfl | rfl
    · simp [le4]
    · simp [le4]
    · simp [le4]
    · simp [le4]
      omega)
  have HE := hide (show (le4 c).take 4 = le4 c from rfl)
  have HC := hide hc
  generalize le4 c = L at *
  go_enter Tryz.func49, Tryz.ntmps49
  go_wp2
  go_loopw [0, 3, 4] (fun u s i wr => ∃ j m : Nat, j ≤ 4 ∧ m = c / 256 ^ j ∧ u = .int .i64 (m : Int) ∧ i = .int .i64 (j : Int) ∧ s = .string (strOfNums (L.take j)) ∧ Below w.heap.size w wr) (fun _ _ i _ => 4 - (intOf i).toNat)
  case atStart => exact ⟨0, c, by omega, by simp, rfl, rfl, rfl, unhide HB⟩
  case round =>
    obtain ⟨j, m, hj, hm, rfl, rfl, rfl, hB⟩ := hrel
    obtain ⟨wo, rfl⟩ : ∃ wo, wo = wr := ⟨_, rfl⟩
    have HBE := hide hB
    clear hB HB
    have hmc : m ≤ 4294967295 := by rw [hm]; exact Nat.le_trans (Nat.div_le_self _ _) (unhide HC)
    by_cases hj4 : j < 4
    · have hj' : (j : Int) < 4 := by omega
      have hr : ((m : Int)).tmod 256 = ((m % 256 : Nat) : Int) := rfl
      obtain ⟨R, hR⟩ : ∃ R, m % 256 = R := ⟨_, rfl⟩
      obtain ⟨Q, hQ⟩ : ∃ Q, m / 256 = Q := ⟨_, rfl⟩
      have hq : ((m : Int)).tdiv 256 = (Q : Int) := by rw [← hQ]; rfl
      rw [hR] at hr
      have hR8 : R < 256 := by omega
      have hw8 : IntKind.u8.wrap (R : Int) = (R : Int) := by rw [IntKind.wrap_u8']; omega
      have hcv := run_one wo (R : Int) 5
      have hsz : (strOfNums (L.take j)).size ≤ 4 := by rw [strOfNums_size, List.length_take]; omega
      have hs1 : (strOfNums [(R : Int)]).size = 1 := rfl
      have HN := hide (show strOfNums (L.take j) ++ strOfNums [(R : Int)] = strOfNums (L.take (j + 1)) by
        rw [← strOfNums_app, unhide HL j hj4, ← hm, hR])
      have HQ := hide (show Q = c / 256 ^ (j + 1) by rw [← hQ, hm, Nat.div_div_eq_div_mul, Nat.pow_succ])
      have hQl : Q ≤ m := by rw [← hQ]; exact Nat.div_le_self _ _
      clear hR hQ hm
      generalize strOfNums (L.take j) = S at *
      generalize strOfNums [(R : Int)] = S1 at *
      have y1 : ¬ 9223372036854775807 < S.size + S1.size := by omega
      go_wp2
      go_roundw
      case rel => exact ⟨j + 1, Q, by omega, unhide HQ, by go_num, by go_num, by rw [unhide HN], (unhide HBE).alloc (by have := (unhide HBE).size; omega) _⟩
      all_goals (simp [intOf]; omega)
    · have hj' : ¬ (j : Int) < 4 := by omega
      obtain rfl : j = 4 := by omega
      rw [unhide HE]
      go_wp2
      go_ret
      exact ⟨rfl, unhide HBE⟩
end Go.Proofs.YtclgkgaobjcifaaGreatDoor

namespace Go.Proofs.YtclgkgaobjcifaaGreatDoor
open Go.RowKit
set_option maxRecDepth 100000
set_option maxHeartbeats 2000000 in
theorem value_any (s : ByteArray) (hs : s.size ≤ 4) (w : World) : Calls Tryz.prog 82 #[.string s] w fun e w' => e = .returned (.int .i64 (beN (nums s))) ∧ w' = w := by
  have HT := hide (fun i (hi : i < (nums s).length) => be_take (nums s) i hi)
  have HBD := hide (fun i => be_bound (nums s) (nums_bytes s) i)
  have HNB := hide (nums_bytes s)
  have HNL := hide (nums_len s)
  have HALL := hide (show (nums s).take s.size = nums s from List.take_of_length_le (by rw [nums_len]; exact Nat.le_refl _))
  have HIX := hide (fun i (hi : i < s.size) W => index_str s i hi W)
  generalize hL : nums s = L at *
  clear hL
  go_enter Tryz.func82, Tryz.ntmps82
  go_wp2
  go_loopw [3, 4] (fun m ix wr => ∃ i : Nat, i ≤ s.size ∧ ix = .int .i64 (i : Int) ∧ m = .int .i64 (beN (L.take i)) ∧ wr = w) (fun _ ix _ => s.size - (intOf ix).toNat)
  case atStart => exact ⟨0, Nat.zero_le _, rfl, rfl, rfl⟩
  case round =>
    obtain ⟨i, hi, rfl, rfl, rfl⟩ := hrel
    by_cases hin : i < s.size
    · have hin' : (i : Int) < (s.size : Int) := by omega
      have hi0 : (0 : Int) ≤ (i : Int) := by omega
      have ht := unhide HT i (by rw [unhide HNL]; exact hin)
      have hb0 := unhide HBD i
      have hb1 := unhide HBD (i + 1)
      have hnb := unhide HNB i
      have hix := unhide HIX i hin
      have hp : (256 : Int) ^ (i + 1) ≤ 256 ^ 4 := by
        have := Nat.pow_le_pow_right (show 0 < 256 by decide) (show i + 1 ≤ 4 by omega)
        exact_mod_cast this
      have hp0 : (256 : Int) ^ i ≤ 256 ^ 4 := by
        have := Nat.pow_le_pow_right (show 0 < 256 by decide) (show i ≤ 4 by omega)
        exact_mod_cast this
      have hq : (256 : Int) ^ 4 = 4294967296 := by decide
      rw [hq] at hp hp0
      obtain ⟨b0, hb0'⟩ : ∃ Z, beN (L.take i) = Z := ⟨_, rfl⟩
      obtain ⟨b1, hb1'⟩ : ∃ Z, beN (L.take (i + 1)) = Z := ⟨_, rfl⟩
      obtain ⟨c, hc⟩ : ∃ Z, L.getD i 0 = Z := ⟨_, rfl⟩
      have HB1 := hide hb1'
      rw [hb0', hb1', hc] at ht
      rw [hb0'] at hb0
      rw [hb1'] at hb1
      rw [hc] at hnb hix
      rw [hb0']
      have w1 : wrap64 (256 * b0) = 256 * b0 := wrap64_eq _ (by omega) (by omega)
      have w2 : wrap64 c = c := wrap64_eq _ (by omega) (by omega)
      have w3 : wrap64 (256 * b0 + c) = b1 := by rw [wrap64_eq _ (by omega) (by omega), ht]
      have wk : wrap64 ((i : Int) + 1) = ((i + 1 : Nat) : Int) := by rw [wrap64_eq _ (by omega) (by omega)]; omega
      clear hb0' hb1' hc ht hb0 hb1 hnb hp hp0 hq
      go_wp2
      exact ⟨⟨i + 1, by omega, rfl, by rw [unhide HB1]; simp [w3], trivial⟩, by simp [intOf]; omega⟩
    · have hin' : ¬ (i : Int) < (s.size : Int) := by omega
      obtain rfl : i = s.size := by omega
      rw [unhide HALL]
      go_wp2
      go_ret
      exact ⟨rfl, rfl⟩
end Go.Proofs.YtclgkgaobjcifaaGreatDoor

namespace Go.Proofs.YtclgkgaobjcifaaGreatDoor
open Go.RowKit
set_option maxRecDepth 100000
set_option maxHeartbeats 1000000 in
theorem rwhole_any (k s : Int) (w : World) : Calls Tryz.prog 74 #[.int .i64 k, .int .i64 s] w fun e w' => e = .returned (.bool (fullP k s)) ∧ w' = w := by
  by_cases h0 : k = 8
  · have he : fullP k s = (s == 1) := by simp [fullP, h0]; rfl
    rw [he]
    subst h0
    clear he
    go_enter Tryz.func74, Tryz.ntmps74
    go_wp2
    go_ret
    exact ⟨rfl, rfl⟩
  · have he : fullP k s = (s == 0) := by simp [fullP, h0]; rfl
    have hd : (k == 8) = false := by simpa using h0
    rw [he]
    clear he h0
    go_enter Tryz.func74, Tryz.ntmps74
    go_wp2
    go_ret
    exact ⟨rfl, rfl⟩
set_option maxHeartbeats 2000000 in
theorem askedL_any (w : World) (p : Option Addr) (c n : Nat) (L : List Int) (hn : L.length = n) (hL : Lst w w.heap.size p L) (hz : n ≤ 9000000000000000000) : Calls Tryz.prog 78 #[.slice p n c] w fun e w' => e = .returned (.bool (plB L)) ∧ Below w.heap.size w w' := by
  have HL := hide (And.intro hn hL)
  clear hn hL
  go_enter Tryz.func78, Tryz.ntmps78
  go_wp2
  go_loopw [3] (fun i wr => ∃ k : Nat, k ≤ n ∧ i = .int .i64 (k : Int) ∧ (∀ j, j < k → 0 ≤ L.getD j 0 ∧ L.getD j 0 ≤ 255) ∧ Below w.heap.size w wr) (fun i _ => n - (intOf i).toNat)
  case atStart => exact ⟨0, by omega, rfl, fun j hj => absurd hj (by omega), Below.refl _ _⟩
  case round =>
    obtain ⟨k, hk, rfl, hall, hb⟩ := hrel
    obtain ⟨wo, rfl⟩ : ∃ wo, wo = wr := ⟨_, rfl⟩
    have XB := hide hb
    have HA := hide hall
    clear hb hall
    by_cases hkn : k < n
    · obtain ⟨g1, o1, rfl, q1, d1⟩ := (unhide HL).2 k (by have := (unhide HL).1; omega)
      have e1 := ((unhide XB).cell (p := ⟨g1, o1 + k, none⟩) q1).trans d1
      obtain ⟨z1, hz1⟩ : ∃ z, L.getD k 0 = z := ⟨_, rfl⟩
      rw [hz1] at e1
      have HZ := hide hz1
      clear q1 d1 hz1
      have j0 : 0 ≤ (k : Int) := by omega
      have j1 : (k : Int) < (n : Int) := by omega
      by_cases hzz : 0 ≤ z1 ∧ z1 ≤ 255
      · have i1 : ¬ z1 < 0 := by omega
        have i2 : ¬ 255 < z1 := by omega
        have HZZ := hide hzz
        clear hzz
        go_wp2_with fail
        go_roundw
        case rel =>
          refine ⟨k + 1, by omega, by go_num, fun j hj => ?_, unhide XB⟩
          by_cases e : j = k
          · rw [e, unhide HZ]; exact unhide HZZ
          · exact unhide HA j (by omega)
        case measure => simp [intOf]; omega
      · have HD := hide (show plB L = false from decide_eq_false (fun e => hzz (by rw [← unhide HZ]; exact e.2 k (by have := (unhide HL).1; omega))))
        have i3 : z1 < 0 ∨ 255 < z1 := by omega
        clear hzz
        rcases i3 with i3 | i3
        · go_wp2_with fail
          go_ret
          rw [unhide HD]
          exact ⟨rfl, unhide XB⟩
        · have i4 : ¬ z1 < 0 := by omega
          go_wp2_with fail
          go_ret
          rw [unhide HD]
          exact ⟨rfl, unhide XB⟩
    · have e1 : ¬ (k : Int) < (n : Int) := by omega
      obtain rfl : k = n := by omega
      by_cases h8 : k = 8
      · have HD := hide (show plB L = true from decide_eq_true ⟨by have := (unhide HL).1; omega, fun j hj => unhide HA j (by have := (unhide HL).1; omega)⟩)
        subst h8
        go_wp2_with fail
        go_ret
        rw [unhide HD]
        exact ⟨rfl, unhide XB⟩
      · have HD := hide (show plB L = false from decide_eq_false (fun e => h8 (by have := (unhide HL).1; omega)))
        have h9 : ((k : Int) == 8) = false := by simp; omega
        clear h8
        go_wp2_with fail
        go_ret
        rw [unhide HD]
        exact ⟨rfl, unhide XB⟩
end Go.Proofs.YtclgkgaobjcifaaGreatDoor
