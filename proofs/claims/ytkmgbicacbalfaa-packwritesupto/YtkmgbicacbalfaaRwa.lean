import Derived.Test.YtkmgbicacbalfaaRba
import Derived.Test.YtkmgbicacbalfaaBlk
import Derived.BigQuiet
namespace Go.Proofs.Ytkmgbicacbalfaa
open Go.RowKit
/-- At block b lies the document's Writer: the text S, the first fault e. -/
def Rwt (w : World) (b : Nat) (S : ByteArray) (e : Int) : Prop := Blk w b #[.string S, .int .i64 e] 36
set_option maxRecDepth 100000 in
set_option maxHeartbeats 1000000 in
theorem rwrong_any (w : World) (b : Nat) (S : ByteArray) (e x : Int) (h : Rwt w b S e) :
    Calls Try.prog 35 #[.pointer (some ⟨b, 0, none⟩), .int .i64 x] w fun ev w' => ev = .returned (.tuple #[]) ∧ Rwt w' b S (we e x) ∧ Only (fun k => k = b) w w' := by
  have c1 : w.cell? ⟨b, 1, none⟩ = some (.int .i64 e) := by rw [h.cell 1]; rfl
  have f1 := h.frozen 1
  have HW := hide h
  clear h
  by_cases he : e = 0
  · subst he
    rw [we, if_pos rfl]
    go_enter Try.func35, Try.ntmps35
    go_wp2
    go_end0
    exact ⟨rfl, (unhide HW).set 1 _, (Only.refl _ w).setCell _ _ (fun _ => rfl)⟩
  · rw [we, if_neg he]
    have hne : (e == 0) = false := by simp [he]
    go_enter Try.func35, Try.ntmps35
    go_wp2
    go_end0
    exact ⟨rfl, unhide HW, Only.refl _ _⟩
set_option maxRecDepth 100000 in
set_option maxHeartbeats 1000000 in
theorem rwdone_any (w : World) (b : Nat) (S : ByteArray) (e : Int) (h : Rwt w b S e) :
    Calls Try.prog 30 #[.pointer (some ⟨b, 0, none⟩)] w fun ev w' => ev = .returned (.tuple #[.string (if e = 0 then S else ⟨#[]⟩), .int .i64 e]) ∧ Below w.heap.size w w' := by
  have c0 : w.cell? ⟨b, 0, none⟩ = some (.string S) := by rw [h.cell 0]; rfl
  have c1 : w.cell? ⟨b, 1, none⟩ = some (.int .i64 e) := by rw [h.cell 1]; rfl
  clear h
  by_cases he : e = 0
  · subst he
    rw [if_pos rfl]
    go_enter Try.func30, Try.ntmps30
    go_wp2
    go_ret2
    exact ⟨rfl, Below.refl _ _⟩
  · rw [if_neg he]
    have hne : (e == 0) = false := by simp [he]
    have hne' : (e != 0) = true := by simp [he]
    go_enter Try.func30, Try.ntmps30
    go_wp2
    go_quiet (fail)
    go_wp2
    go_ret2
    exact ⟨rfl, below_drewN (Below.refl _ _) _⟩
set_option maxRecDepth 100000 in
set_option maxHeartbeats 1000000 in
theorem rwraw_any (w : World) (b : Nat) (S s : ByteArray) (e : Int) (h : Rwt w b S e) (hs : S.size + s.size ≤ 9223372036854775807) :
    Calls Try.prog 26 #[.pointer (some ⟨b, 0, none⟩), .string s] w fun ev w' => ev = .returned (.tuple #[]) ∧ Rwt w' b (S ++ s) e ∧ Only (fun k => k = b) w w' := by
  have c0 : w.cell? ⟨b, 0, none⟩ = some (.string S) := by rw [h.cell 0]; rfl
  have f0 := h.frozen 0
  have HW := hide h
  have y1 : ¬ 9223372036854775807 < S.size + s.size := by omega
  clear h hs
  go_enter Try.func26, Try.ntmps26
  go_wp2
  go_end0
  exact ⟨rfl, (unhide HW).set 0 _, (Only.refl _ w).setCell _ _ (fun _ => rfl)⟩
set_option maxRecDepth 100000 in
set_option maxHeartbeats 1000000 in
theorem rfits_any (n : Int) (k : Nat) (hn : n ≤ 9223372036854775807) (hk : k ≤ 8) (w : World) :
    Calls Try.prog 36 #[.int .i64 n, .int .i64 (k : Int)] w fun e w' => e = .returned (.bool (decide (fitsP n k))) ∧ w' = w := by
  by_cases h : 0 ≤ n
  · obtain ⟨N, rfl⟩ := Int.eq_ofNat_of_zero_le h
    go_enter Try.func36, Try.ntmps36
    go_wp2
    go_loopw [0, 5] (fun u i wr => ∃ j m : Nat, j ≤ k ∧ (m : Int) = (N : Int) / 2 ^ (8 * j) ∧ u = .int .i64 (m : Int) ∧ i = .int .i64 (j : Int) ∧ wr = w) (fun _ i _ => k - (intOf i).toNat)
    case atStart => exact ⟨0, N, by omega, by simp, rfl, rfl, rfl⟩
    case round =>
      obtain ⟨j, m, hj, hm, rfl, rfl, rfl⟩ := hrel
      have hml : m ≤ N := by
        have : (N : Int) / 2 ^ (8 * j) ≤ (N : Int) := Int.ediv_le_self _ (by omega)
        omega
      by_cases hjk : j < k
      · obtain ⟨Q, hQ⟩ : ∃ Q, m / 256 = Q := ⟨_, rfl⟩
        have hq : ((m : Int)).tdiv 256 = (Q : Int) := by rw [← hQ]; rfl
        have HQ := hide (show (Q : Int) = (N : Int) / 2 ^ (8 * (j + 1)) by
          rw [show 8 * (j + 1) = 8 * j + 8 by omega, Int.pow_add, ← Int.ediv_ediv_of_nonneg (by exact Int.pow_nonneg (by omega)), ← hm]
          have : (2 : Int) ^ 8 = 256 := by decide
          rw [this]
          omega)
        have hQl : Q ≤ m := by omega
        clear hQ hm
        go_wp2
        go_roundw
        case rel => exact ⟨j + 1, Q, by omega, unhide HQ, by go_num, by go_num, by first | rfl | trivial⟩
        case measure => simp [intOf]; omega
      · obtain rfl : j = k := by omega
        have hd : decide (fitsP (N : Int) j) = ((m : Int) == 0) := by
          rw [show ((m : Int) == 0) = decide ((m : Int) = 0) from rfl]
          apply decide_eq_decide.2
          rw [hm]
          exact ⟨fun x => x.2, fun x => ⟨h, x⟩⟩
        have HD := hide hd
        clear hd hm
        go_wp2
        go_ret
        exact ⟨by rw [unhide HD]; rfl, rfl⟩
  · have hd : decide (fitsP n k) = false := decide_eq_false (fun q => h q.1)
    rw [hd]
    go_enter Try.func36, Try.ntmps36
    go_wp2
    go_ret
    exact ⟨rfl, rfl⟩
/-- What the first rounds of Digits have laid: the digits, and what is left. -/
theorem digN_split (n : Nat) (h : 128 ≤ n) : digN n = ((128 + n % 128 : Nat) : Int) :: digN (n / 128) := by rw [digN_big n (by omega), Nat.add_comm]
set_option maxRecDepth 100000 in
set_option maxHeartbeats 1000000 in
theorem rdigits_any (n : Nat) (hn : n ≤ 9223372036854775807) (w : World) :
    Calls Try.prog 38 #[.int .i64 (n : Int)] w fun e w' => e = .returned (.string (strOfNums (digN n))) ∧ Below w.heap.size w w' := by
  have HB := hide (Below.refl w.heap.size w)
  go_enter Try.func38, Try.ntmps38
  go_wp2
  go_loopw [0, 3] (fun u s wr => ∃ (m : Nat) (l : List Int), m ≤ n ∧ l ++ digN m = digN n ∧ u = .int .i64 (m : Int) ∧ s = .string (strOfNums l) ∧ Below w.heap.size w wr) (fun u _ _ => (intOf u).toNat)
  case atStart => exact ⟨n, [], Nat.le_refl _, rfl, rfl, rfl, unhide HB⟩
  case round =>
    obtain ⟨m, l, hm, hl, rfl, rfl, hBe⟩ := hrel
    obtain ⟨wo, rfl⟩ : ∃ wo, wo = wr := ⟨_, rfl⟩
    have HBE := hide hBe
    clear hBe HB
    have hsz : (strOfNums l).size ≤ 9 := by
      rw [strOfNums_size]
      have h1 := (digN_nine n hn).2
      rw [← hl, List.length_append] at h1
      omega
    by_cases h7 : 127 < m
    · obtain ⟨R, hR⟩ : ∃ R, m % 128 = R := ⟨_, rfl⟩
      obtain ⟨Q, hQ⟩ : ∃ Q, m / 128 = Q := ⟨_, rfl⟩
      have hr : ((m : Int)).tmod 128 = (R : Int) := by rw [← hR]; rfl
      have hq : ((m : Int)).tdiv 128 = (Q : Int) := by rw [← hQ]; rfl
      have hR8 : R < 128 := by omega
      have hw0 : IntKind.i64.wrap (128 + (R : Int)) = ((128 + R : Nat) : Int) := by rw [wrapI_eq _ (by omega) (by omega)]; omega
      have hw8 : IntKind.u8.wrap ((128 + R : Nat) : Int) = ((128 + R : Nat) : Int) := by rw [IntKind.wrap_u8']; omega
      have hcv := run_one wo ((128 + R : Nat) : Int) 5
      have hs1 : (strOfNums [((128 + R : Nat) : Int)]).size = 1 := rfl
      have HN := hide (show strOfNums l ++ strOfNums [((128 + R : Nat) : Int)] = strOfNums (l ++ [((128 + R : Nat) : Int)]) from (strOfNums_app _ _).symm)
      have HL := hide (show (l ++ [((128 + R : Nat) : Int)]) ++ digN Q = digN n by rw [← hl, digN_split m (by omega), hR, hQ]; simp)
      have hQl : Q < m := by omega
      generalize ((128 + R : Nat) : Int) = X at *
      clear hR hQ hl
      generalize strOfNums l = S at *
      generalize strOfNums [X] = S1 at *
      have y1 : ¬ 9223372036854775807 < S.size + S1.size := by omega
      have y2 : ¬ 9223372036854775807 < S.size + 1 := by omega
      go_wp2
      go_roundw
      case rel => exact ⟨Q, l ++ [X], by omega, unhide HL, by go_num, by rw [unhide HN], (unhide HBE).alloc (by have := (unhide HBE).size; omega) _⟩
      case measure => simp [intOf]; omega
    · have hw8 : IntKind.u8.wrap (m : Int) = (m : Int) := by rw [IntKind.wrap_u8']; omega
      have hcv := run_one wo (m : Int) 5
      have hs1 : (strOfNums [(m : Int)]).size = 1 := rfl
      have HN := hide (show strOfNums l ++ strOfNums [(m : Int)] = strOfNums (digN n) by rw [← strOfNums_app, ← hl, digN_small m (by omega)])
      clear hl
      generalize strOfNums l = S at *
      generalize strOfNums [(m : Int)] = S1 at *
      have y1 : ¬ 9223372036854775807 < S.size + S1.size := by omega
      have y2 : ¬ 9223372036854775807 < S.size + 1 := by omega
      go_wp2
      go_ret
      exact ⟨by rw [unhide HN]; rfl, (unhide HBE).alloc (by have := (unhide HBE).size; omega) _⟩
end Go.Proofs.Ytkmgbicacbalfaa
