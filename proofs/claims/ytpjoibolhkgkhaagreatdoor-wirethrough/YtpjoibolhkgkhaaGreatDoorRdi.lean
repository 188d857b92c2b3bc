import Derived.Test.YtpjoibolhkgkhaaGreatDoorClo
import Derived.Test.YtpjoibolhkgkhaaGreatDoorRdp
import Derived.Laws.Bits64b
namespace Go.Proofs.YtpjoibolhkgkhaaGreatDoor
open Go.RowKit
/-- A panic of a Reader's own. -/
def gave (x : Int) : List PanicEntry := [{ v := .iface 117 (.agg #[.int .i64 x]), recovered := false }]
/-- What a call that gives up leaves behind. -/
def Thr (b : Nat) (w w' : World) : Prop := (∃ r t, Rdr w' b r t 0) ∧ Only (fun k => k = b) w w'
theorem Rdr.cells {w : World} {b : Nat} {r : ByteArray} {t e : Int} (h : Rdr w b r t e) : w.cell? ⟨b, 0, none⟩ = some (.string r) ∧ w.cell? ⟨b, 1, none⟩ = some (.int .i64 t) ∧ w.cell? ⟨b, 2, none⟩ = some (.int .i64 e) ∧ w.frozen? ⟨b, 0, none⟩ = false ∧ w.frozen? ⟨b, 1, none⟩ = false ∧ w.frozen? ⟨b, 2, none⟩ = false := by
  have h' : Blk w b #[.string r, .int .i64 t, .int .i64 e] 114 := h
  refine ⟨?_, ?_, ?_, h'.frozen 0, h'.frozen 1, h'.frozen 2⟩
  · rw [h'.cell 0]; rfl
  · rw [h'.cell 1]; rfl
  · rw [h'.cell 2]; rfl
set_option maxRecDepth 100000 in
set_option maxHeartbeats 1000000 in
theorem take_ok (w : World) (b : Nat) (r : ByteArray) (t e : Int) (h : Rdr w b r t e) (n : Nat) (hn : n ≤ r.size) (ht : 0 ≤ t) (hr : t + (r.size : Int) ≤ 9223372036854775807) :
    Calls Tryz.prog 89 #[.pointer (some ⟨b, 0, none⟩), .int .i64 (n : Int)] w fun ev w' => ev = .returned (.string (r.extract 0 n)) ∧ Rdr w' b (r.extract n r.size) (t + (n : Int)) e ∧ Only (fun k => k = b) w w' := by
  obtain ⟨c0, c1, c2, f0, f1, f2⟩ := h.cells
  have HB := hide h
  clear h
  go_enter Tryz.func89, Tryz.ntmps89
  go_wp2
  go_ret
  refine ⟨rfl, ?_, ((Only.refl (fun k => k = b) w).setCell ⟨b, 0, none⟩ _ (fun _ => rfl)).setCell ⟨b, 1, none⟩ _ (fun _ => rfl)⟩
  exact (Blk.set (unhide HB) 0 _).set 1 _
set_option maxRecDepth 100000 in
set_option maxHeartbeats 1000000 in
theorem take_short (w : World) (b : Nat) (r : ByteArray) (t : Int) (h : Rdr w b r t 0) (n : Int) (hn : (r.size : Int) < n) :
    Calls Tryz.prog 89 #[.pointer (some ⟨b, 0, none⟩), .int .i64 n] w fun ev w' => ev = .panicked (gave 31) ∧ Thr b w w' := by
  obtain ⟨c0, c1, c2, f0, f1, f2⟩ := h.cells
  have HB := hide h
  clear h
  go_enter Tryz.func89, Tryz.ntmps89
  go_wp2
  (try simp only [Exit.inBlock, Exit.then])
  exact ⟨rfl, rfl, ⟨r, t, unhide HB⟩, Only.refl _ _⟩
set_option maxRecDepth 100000 in
set_option maxHeartbeats 1000000 in
theorem number_short (w : World) (b : Nat) (r : ByteArray) (t : Int) (h : Rdr w b r t 0) (n : Int) (hn : (r.size : Int) < n) :
    Calls Tryz.prog 71 #[.pointer (some ⟨b, 0, none⟩), .int .i64 n] w fun ev w' => ev = .panicked (gave 31) ∧ Thr b w w' := by
  have HT := hide (take_short w b r t h n hn)
  clear h
  go_enter Tryz.func71, Tryz.ntmps71
  go_wp2_with (go_at_call 89; refine (unhide HT).mono ?_; rintro ev w2 ⟨rfl, hP⟩; have HP := hide hP; clear hP)
  (try simp only [Exit.inBlock, Exit.then])
  exact ⟨rfl, rfl, unhide HP⟩
theorem be_take (l : List Int) (i : Nat) (hi : i < l.length) : beN (l.take (i + 1)) = 256 * beN (l.take i) + l.getD i 0 := by
  rw [List.take_add_one, List.getElem?_eq_getElem hi, List.getD_eq_getElem?_getD, List.getElem?_eq_getElem hi]
  exact beN_snoc _ _
theorem be_bound (l : List Int) (h : Bytes l) : ∀ i, 0 ≤ beN (l.take i) ∧ beN (l.take i) < 256 ^ i := by
  intro i
  induction i with
  | zero => simp [beN]
  | succ i ih =>
    by_cases hi : i < l.length
    · rw [be_take l i hi, Int.pow_succ]
      have := h i
      omega
    · rw [List.take_of_length_le (by omega)] at ih ⊢
      have : (256 : Int) ^ i ≤ 256 ^ (i + 1) := by rw [Int.pow_succ]; have : (0:Int) < 256 ^ i := Int.pow_pos (by decide); omega
      omega
def NumPost (b : Nat) (r : ByteArray) (t : Int) (n : Nat) (Z : Int) (w : World) (ev : Ending) (w' : World) : Prop :=
  (Z ≤ 9223372036854775807 → ev = .returned (.int .i64 Z) ∧ Rdr w' b (r.extract n r.size) (t + (n : Int)) 0 ∧ Only (fun k => k = b) w w') ∧ (9223372036854775807 < Z → ev = .panicked (gave 30) ∧ Thr b w w')
set_option maxRecDepth 100000 in
set_option maxHeartbeats 2000000 in
theorem number_any (w : World) (b : Nat) (r : ByteArray) (t : Int) (h : Rdr w b r t 0) (n : Nat) (hn : n ≤ r.size) (hn8 : n ≤ 8) (ht : 0 ≤ t) (hr : t + (r.size : Int) ≤ 9223372036854775807) (Z : Int) (hZ : Z = beN ((nums r).take n)) :
    Calls Tryz.prog 71 #[.pointer (some ⟨b, 0, none⟩), .int .i64 (n : Int)] w fun ev w' => NumPost b r t n Z w ev w' := by
  have HT := hide (take_ok w b r t 0 h n hn ht hr)
  have hsz : (r.extract 0 n).size = n := by simp; omega
  have hnm : nums (r.extract 0 n) = (nums r).take n := by rw [nums_extract, List.drop_zero]
  generalize r.extract 0 n = s at *
  rw [← hnm] at hZ
  have HZ := hide hZ
  clear h hnm hZ
  go_enter Tryz.func71, Tryz.ntmps71
  go_wp2_with fail
  refine (unhide HT).mono ?_
  rintro ev w2 ⟨rfl, hR2, hO2⟩
  obtain ⟨cap, W, hrun, hB, hbel⟩ := Bsl.of_string w2 s (by omega)
  rw [hsz] at hrun
  have hlt2 : b < w2.heap.size := Blk.lt hR2
  have HR2 := hide hR2
  have HO2 := hide hO2
  have HRW := hide (show Rdr W b (r.extract n r.size) (t + (n : Int)) 0 from Blk.below hR2 hbel hlt2)
  have HOW := hide (show Only (fun k => k = b) w W from hO2.trans (Only.of_below (P := fun _ => False) hbel) (fun _ _ q => q.elim))
  have HA := hide hB.2.2.2.2.1
  have hb8 := be_bound (nums s) (nums_bytes s)
  have hHB := hide hb8
  clear hR2 hO2 hB hbel hb8 HT HR2 HO2
  go_wp2
  go_loopw [5, 13] (fun u i wr => ∃ j : Nat, j ≤ n ∧ i = .int .i64 (j : Int) ∧ u = .int .u64 (beN ((nums s).take j)) ∧ wr = W) (fun _ i _ => n - (intOf i).toNat)
  case atStart => exact ⟨0, by omega, rfl, rfl, rfl⟩
  case round =>
    obtain ⟨j, hj, rfl, rfl, rfl⟩ := hrel
    have hbj := unhide hHB j
    by_cases hjn : j < n
    · have hl : j < (nums s).length := by rw [nums_len, hsz]; exact hjn
      have c1 := (unhide HA).get0 j hl
      have hx := nums_bytes s j
      have HN := hide (be_take (nums s) j hl)
      have hp : (256 : Int) ^ j ≤ 256 ^ 7 := by
        have h1 : (256 : Nat) ^ j ≤ 256 ^ 7 := Nat.pow_le_pow_right (by decide) (by omega)
        exact_mod_cast h1
      have h7 : (256 : Int) ^ 7 = 72057594037927936 := by decide
      obtain ⟨X, hX⟩ := Int.eq_ofNat_of_zero_le hx.1
      obtain ⟨N, hN⟩ := Int.eq_ofNat_of_zero_le hbj.1
      have hNl : N < 72057594037927936 := by omega
      have hXl : X < 256 := by omega
      rw [hX] at c1 HN
      rw [hN] at HN ⊢
      clear hp h7 hx hbj hX hN
      have hw1 : IntKind.u64.wrap ((N : Int) * 2 ^ (8 : Int).toNat) = ((N * 256 : Nat) : Int) := by
        rw [IntKind.wrap_u64]
        have : (8 : Int).toNat = 8 := rfl
        rw [this]
        omega
      have ho := bits_or_u64_nat (N * 256) X (by omega) (by omega)
      rw [Nat.or_comm, or_add' N 256 8 X (by decide) (by omega)] at ho
      go_wp2
      go_roundw
      case rel => exact ⟨j + 1, by omega, by go_num, by rw [unhide HN, show (256 * (N : Int) + (X : Int)) = ((N * 256 + X : Nat) : Int) by omega, ← ho]; rfl, trivial⟩
      case measure => simp [intOf]; omega
    · have hjn' : j = n := by omega
      subst hjn'
      have hall : (nums s).take j = nums s := List.take_of_length_le (by rw [nums_len]; omega)
      rw [hall, ← unhide HZ] at hbj ⊢
      have hp : (256 : Int) ^ j ≤ 256 ^ 8 := by
        have h1 : (256 : Nat) ^ j ≤ 256 ^ 8 := Nat.pow_le_pow_right (by decide) (by omega)
        exact_mod_cast h1
      have h8 : (256 : Int) ^ 8 = 18446744073709551616 := by decide
      have hZ1 : Z < 18446744073709551616 := by omega
      have hZ0 := hbj.1
      clear hp h8 hbj hall
      by_cases hZm : Z ≤ 9223372036854775807
      · have hng : ¬ 9223372036854775807 < Z := by omega
        go_wp2
        go_ret
        exact ⟨fun _ => ⟨rfl, unhide HRW, unhide HOW⟩, fun h => by omega⟩
      · have hg : 9223372036854775807 < Z := by omega
        go_wp2
        (try simp only [Exit.inBlock, Exit.then])
        exact ⟨rfl, fun h => by omega, fun _ => ⟨rfl, ⟨_, _, unhide HRW⟩, unhide HOW⟩⟩
def DigPost (b : Nat) (r : ByteArray) (t E : Int) (V C : Nat) (w : World) (ev : Ending) (w' : World) : Prop :=
  (E = 0 → ev = .returned (.int .i64 (V : Int)) ∧ Rdr w' b (r.extract C r.size) (t + (C : Int)) 0 ∧ Only (fun k => k = b) w w') ∧ (E ≠ 0 → ev = .panicked (gave E) ∧ Thr b w w')
theorem be_one (x : Int) (l : List Int) : beN ((x :: l).take 1) = x := by simp [beN]
theorem dig_pow (i : Nat) : (2 : Nat) ^ (7 * i) = 128 ^ i := by rw [Nat.pow_mul]
end Go.Proofs.YtpjoibolhkgkhaaGreatDoor
