import Derived.Test.YtnfdedolgfcmfaaGreatDoorMrc06
import Derived.Test.YtnfdedolgfcmfaaGreatDoorMrc09
import Derived.Laws.Bits64b
import Derived.BigQuiet
import Derived.Test.YtnfdedolgfcmfaaGreatDoorMrc07
namespace Go.Proofs.YtnfdedolgfcmfaaGreatDoor
open Go.RowKit
/-- Bytes as a number, the highest first. -/
def beN (l : List Int) : Int := l.foldl (fun n b => 256 * n + b) 0
theorem beN_snoc (l : List Int) (x : Int) : beN (l ++ [x]) = 256 * beN l + x := by simp [beN]
theorem or_add' (A c k B : Nat) (hc : c = 2 ^ k) (h : B < c) : B ||| A * c = A * c + B := by
  subst hc
  have := Nat.shiftLeft_add_eq_or_of_lt h A
  rw [Nat.shiftLeft_eq] at this
  rw [Nat.or_comm]
  exact this.symm
theorem nums_extract (s : ByteArray) (a b : Nat) : nums (s.extract a b) = ((nums s).take b).drop a := by
  simp [nums, ByteArray.data_extract, List.map_take, List.map_drop, List.drop_take]
theorem nums_tail (s : ByteArray) (a : Nat) : nums (s.extract a s.size) = (nums s).drop a := by
  rw [nums_extract, List.take_of_length_le (by rw [nums_len]; exact Nat.le_refl _)]
theorem extract_tail (s : ByteArray) (a b : Nat) : (s.extract a s.size).extract b (s.extract a s.size).size = s.extract (a + b) s.size := by
  have h : nums ((s.extract a s.size).extract b (s.extract a s.size).size) = nums (s.extract (a + b) s.size) := by
    rw [nums_tail, nums_tail, nums_tail, List.drop_drop]
  have h2 := congrArg strOfNums h
  rwa [strOfNums_nums, strOfNums_nums] at h2
theorem nums_inj {s t : ByteArray} (h : nums s = nums t) : s = t := by
  have h2 := congrArg strOfNums h
  rwa [strOfNums_nums, strOfNums_nums] at h2
end Go.Proofs.YtnfdedolgfcmfaaGreatDoor

namespace Go.Proofs.YtnfdedolgfcmfaaGreatDoor
open Go.RowKit
/-- A panic of a Reader's own. -/
def gave (x : Int) : List PanicEntry := [{ v := .iface 184 (.agg #[.int .i64 x]), recovered := false }]
/-- What a call that gives up leaves behind. -/
def Thr (b : Nat) (w w' : World) : Prop := (∃ r t, Rdr w' b r t 0) ∧ Only (fun k => k = b) w w'
theorem Rdr.cells {w : World} {b : Nat} {r : ByteArray} {t e : Int} (h : Rdr w b r t e) : w.cell? ⟨b, 0, none⟩ = some (.string r) ∧ w.cell? ⟨b, 1, none⟩ = some (.int .i64 t) ∧ w.cell? ⟨b, 2, none⟩ = some (.int .i64 e) ∧ w.frozen? ⟨b, 0, none⟩ = false ∧ w.frozen? ⟨b, 1, none⟩ = false ∧ w.frozen? ⟨b, 2, none⟩ = false := by
  have h' : Blk w b #[.string r, .int .i64 t, .int .i64 e] 181 := h
  refine ⟨?_, ?_, ?_, h'.frozen 0, h'.frozen 1, h'.frozen 2⟩
  · rw [h'.cell 0]; rfl
  · rw [h'.cell 1]; rfl
  · rw [h'.cell 2]; rfl
set_option maxRecDepth 100000 in
set_option maxHeartbeats 1000000 in
theorem take_ok (w : World) (b : Nat) (r : ByteArray) (t e : Int) (h : Rdr w b r t e) (n : Nat) (hn : n ≤ r.size) (ht : 0 ≤ t) (hr : t + (r.size : Int) ≤ 9223372036854775807) :
    Calls Tryz.prog 111 #[.pointer (some ⟨b, 0, none⟩), .int .i64 (n : Int)] w fun ev w' => ev = .returned (.string (r.extract 0 n)) ∧ Rdr w' b (r.extract n r.size) (t + (n : Int)) e ∧ Only (fun k => k = b) w w' := by
  obtain ⟨c0, c1, c2, f0, f1, f2⟩ := h.cells
  have HB := hide h
  clear h
  go_enter Tryz.func111, Tryz.ntmps111
  go_wp2
  go_ret
  refine ⟨rfl, ?_, ((Only.refl (fun k => k = b) w).setCell ⟨b, 0, none⟩ _ (fun _ => rfl)).setCell ⟨b, 1, none⟩ _ (fun _ => rfl)⟩
  exact (Blk.set (unhide HB) 0 _).set 1 _
set_option maxRecDepth 100000 in
set_option maxHeartbeats 1000000 in
theorem take_short (w : World) (b : Nat) (r : ByteArray) (t : Int) (h : Rdr w b r t 0) (n : Int) (hn : (r.size : Int) < n) :
    Calls Tryz.prog 111 #[.pointer (some ⟨b, 0, none⟩), .int .i64 n] w fun ev w' => ev = .panicked (gave 31) ∧ Thr b w w' := by
  obtain ⟨c0, c1, c2, f0, f1, f2⟩ := h.cells
  have HB := hide h
  clear h
  go_enter Tryz.func111, Tryz.ntmps111
  go_wp2
  (try simp only [Exit.inBlock, Exit.then])
  exact ⟨rfl, rfl, ⟨r, t, unhide HB⟩, Only.refl _ _⟩
set_option maxRecDepth 100000 in
set_option maxHeartbeats 1000000 in
theorem number_short (w : World) (b : Nat) (r : ByteArray) (t : Int) (h : Rdr w b r t 0) (n : Int) (hn : (r.size : Int) < n) :
    Calls Tryz.prog 113 #[.pointer (some ⟨b, 0, none⟩), .int .i64 n] w fun ev w' => ev = .panicked (gave 31) ∧ Thr b w w' := by
  have HT := hide (take_short w b r t h n hn)
  clear h
  go_enter Tryz.func113, Tryz.ntmps113
  go_wp2_with (go_at_call 111; refine (unhide HT).mono ?_; rintro ev w2 ⟨rfl, hP⟩; have HP := hide hP; clear hP)
  (try simp only [Exit.inBlock, Exit.then])
  exact ⟨rfl, rfl, unhide HP⟩
theorem be_take (l : List Int) (i : Nat) (hi : i < l.length) : beN (l.take (i + 1)) = 256 * beN (l.take i) + l.getD i 0 := by
  rw [List.take_add_one, List.getElem?_eq_getElem hi, List.getD_eq_getElem?_getD, List.getElem?_eq_getElem hi]
  exact beN_snoc _ _
theorem be_bound (l : List Int) (h : Bytes l) : ∀ i, 0 ≤ beN (l.take i) ∧ beN (l.take i) < 256 ^ i := by
  intro i
  induction i with
  | zero => simp [beN]
  | succ i ih =>
    by_cases hi : i < l.length
    · rw [be_take l i hi, Int.pow_succ]
      have := h i
      omega
    · rw [List.take_of_length_le (by omega)] at ih ⊢
      have : (256 : Int) ^ i ≤ 256 ^ (i + 1) := by rw [Int.pow_succ]; have : (0:Int) < 256 ^ i := Int.pow_pos (by decide); omega
      omega
def NumPost (b : Nat) (r : ByteArray) (t : Int) (n : Nat) (Z : Int) (w : World) (ev : Ending) (w' : World) : Prop :=
  (Z ≤ 9223372036854775807 → ev = .returned (.int .i64 Z) ∧ Rdr w' b (r.extract n r.size) (t + (n : Int)) 0 ∧ Only (fun k => k = b) w w') ∧ (9223372036854775807 < Z → ev = .panicked (gave 30) ∧ Thr b w w')
set_option maxRecDepth 100000 in
set_option maxHeartbeats 2000000 in
theorem number_any (w : World) (b : Nat) (r : ByteArray) (t : Int) (h : Rdr w b r t 0) (n : Nat) (hn : n ≤ r.size) (hn8 : n ≤ 8) (ht : 0 ≤ t) (hr : t + (r.size : Int) ≤ 9223372036854775807) (Z : Int) (hZ : Z = beN ((nums r).take n)) :
    Calls Tryz.prog 113 #[.pointer (some ⟨b, 0, none⟩), .int .i64 (n : Int)] w fun ev w' => NumPost b r t n Z w ev w' := by
  have HT := hide (take_ok w b r t 0 h n hn ht hr)
  have hsz : (r.extract 0 n).size = n := by simp; omega
  have hnm : nums (r.extract 0 n) = (nums r).take n := by rw [nums_extract, List.drop_zero]
  generalize r.extract 0 n = s at *
  rw [← hnm] at hZ
  have HZ := hide hZ
  clear h hnm hZ
  go_enter Tryz.func113, Tryz.ntmps113
  go_wp2_with fail
  refine (unhide HT).mono ?_
  rintro ev w2 ⟨rfl, hR2, hO2⟩
  obtain ⟨cap, W, hrun, hB, hbel⟩ := Bsl.of_string w2 s (by omega)
  rw [hsz] at hrun
  have hlt2 : b < w2.heap.size := Blk.lt hR2
  have HR2 := hide hR2
  have HO2 := hide hO2
  have HRW := hide (show Rdr W b (r.extract n r.size) (t + (n : Int)) 0 from Blk.below hR2 hbel hlt2)
  have HOW := hide (show Only (fun k => k = b) w W from hO2.trans (Only.of_below (P := fun _ => False) hbel) (fun _ _ q => q.elim))
  have HA := hide hB.2.2.2.2.1
  have hb8 := be_bound (nums s) (nums_bytes s)
  have hHB := hide hb8
  clear hR2 hO2 hB hbel hb8 HT HR2 HO2
  go_wp2
  go_loopw [5, 13] (fun u i wr => ∃ j : Nat, j ≤ n ∧ i = .int .i64 (j : Int) ∧ u = .int .u64 (beN ((nums s).take j)) ∧ wr = W) (fun _ i _ => n - (intOf i).toNat)
  case atStart => exact ⟨0, by omega, rfl, rfl, rfl⟩
  case round =>
    obtain ⟨j, hj, rfl, rfl, rfl⟩ := hrel
    have hbj := unhide hHB j
    by_cases hjn : j < n
    · have hl : j < (nums s).length := by rw [nums_len, hsz]; exact hjn
      have c1 := (unhide HA).get0 j hl
      have hx := nums_bytes s j
      have HN := hide (be_take (nums s) j hl)
      have hp : (256 : Int) ^ j ≤ 256 ^ 7 := by
        have h1 : (256 : Nat) ^ j ≤ 256 ^ 7 := Nat.pow_le_pow_right (by decide) (by omega)
        exact_mod_cast h1
      have h7 : (256 : Int) ^ 7 = 72057594037927936 := by decide
      obtain ⟨X, hX⟩ := Int.eq_ofNat_of_zero_le hx.1
      obtain ⟨N, hN⟩ := Int.eq_ofNat_of_zero_le hbj.1
      have hNl : N < 72057594037927936 := by omega
      have hXl : X < 256 := by omega
      rw [hX] at c1 HN
      rw [hN] at HN ⊢
      clear hp h7 hx hbj hX hN
      have hw1 : IntKind.u64.wrap ((N : Int) * 2 ^ (8 : Int).toNat) = ((N * 256 : Nat) : Int) := by
        rw [IntKind.wrap_u64]
        have : (8 : Int).toNat = 8 := rfl
        rw [this]
        omega
      have ho := bits_or_u64_nat (N * 256) X (by omega) (by omega)
      rw [Nat.or_comm, or_add' N 256 8 X (by decide) (by omega)] at ho
      go_wp2
      go_roundw
      case rel => exact ⟨j + 1, by omega, by go_num, by rw [unhide HN, show (256 * (N : Int) + (X : Int)) = ((N * 256 + X : Nat) : Int) by omega, ← ho]; rfl, trivial⟩
      case measure => simp [intOf]; omega
    · have hjn' : j = n := by omega
      subst hjn'
      have hall : (nums s).take j = nums s := List.take_of_length_le (by rw [nums_len]; omega)
      rw [hall, ← unhide HZ] at hbj ⊢
      have hp : (256 : Int) ^ j ≤ 256 ^ 8 := by
        have h1 : (256 : Nat) ^ j ≤ 256 ^ 8 := Nat.pow_le_pow_right (by decide) (by omega)
        exact_mod_cast h1
      have h8 : (256 : Int) ^ 8 = 18446744073709551616 := by decide
      have hZ1 : Z < 18446744073709551616 := by omega
      have hZ0 := hbj.1
      clear hp h8 hbj hall
      by_cases hZm : Z ≤ 9223372036854775807
      · have hng : ¬ 9223372036854775807 < Z := by omega
        go_wp2
        go_ret
        exact ⟨fun _ => ⟨rfl, unhide HRW, unhide HOW⟩, fun h => by omega⟩
      · have hg : 9223372036854775807 < Z := by omega
        go_wp2
        (try simp only [Exit.inBlock, Exit.then])
        exact ⟨rfl, fun h => by omega, fun _ => ⟨rfl, ⟨_, _, unhide HRW⟩, unhide HOW⟩⟩
end Go.Proofs.YtnfdedolgfcmfaaGreatDoor

namespace Go.Proofs.YtnfdedolgfcmfaaGreatDoor
open Go.RowKit Go.Extern.Stop Go.Stop Go.Extern
theorem ETy.ne {w : World} {b : Nat} {r : ByteArray} {t e : Int} (h : ETy w) (hR : Rdr w b r t e) : b ≠ 0 := by
  intro hb
  subst hb
  have h1 := hR.cells.1
  have h2 : w.cell? ⟨0, 0, none⟩ = _ := h
  rw [h1] at h2
  cases h2
/-- What is left, and how much was taken, behind a call of a Reader with which nothing was wrong before. -/
def rRest (r : ByteArray) (E : Int) (c : Nat) : ByteArray := if E = 0 then r.extract c r.size else ⟨#[]⟩
def rTak (t E : Int) (c : Nat) : Int := if E = 0 then t + (c : Int) else t
/-- Behind a call that answers v. -/
def RPost (b : Nat) (r : ByteArray) (t E : Int) (c : Nat) (v : Value) (w : World) (ev : Ending) (w' : World) : Prop :=
  ev = .returned v ∧ Rdr w' b (rRest r E c) (rTak t E c) E ∧ Only (fun k => k = b) w w'
/-- The two new variables of a face: the receiver's, and how much was taken before. -/
theorem face_start {w : World} {b : Nat} {r : ByteArray} {t e : Int} (h : Rdr w b r t e) (hg : ETy w) :
    Rdr ((w.alloc (Obj.cells #[.pointer (some ⟨b, 0, none⟩)] 151)).alloc (Obj.cells #[.int .i64 t] 3)) b r t e ∧ ETy ((w.alloc (Obj.cells #[.pointer (some ⟨b, 0, none⟩)] 151)).alloc (Obj.cells #[.int .i64 t] 3)) ∧
    Only (fun k => k = b) w ((w.alloc (Obj.cells #[.pointer (some ⟨b, 0, none⟩)] 151)).alloc (Obj.cells #[.int .i64 t] 3)) := by
  have h1 := ((Only.refl (fun _ => False) w).alloc (Obj.cells #[.pointer (some ⟨b, 0, none⟩)] 151)).alloc (Obj.cells #[.int .i64 t] 3)
  exact ⟨Blk.only h h1 (fun q => q), hg.only h1 (fun q => q), h1.mono (fun _ _ q => q.elim)⟩
theorem face_cells {w w2 : World} {b : Nat} {t : Int} (hb : b < w.heap.size) (hO : Only (fun k => k = b) ((w.alloc (Obj.cells #[.pointer (some ⟨b, 0, none⟩)] 151)).alloc (Obj.cells #[.int .i64 t] 3)) w2) :
    w2.cell? ⟨w.heap.size, 0, none⟩ = some (.pointer (some ⟨b, 0, none⟩)) ∧ w2.cell? ⟨w.heap.size + 1, 0, none⟩ = some (.int .i64 t) := by
  have h1 : Blk ((w.alloc (Obj.cells #[.pointer (some ⟨b, 0, none⟩)] 151)).alloc (Obj.cells #[.int .i64 t] 3)) w.heap.size #[.pointer (some ⟨b, 0, none⟩)] 151 := (Blk.new w _ _).alloc _
  have h2 : Blk ((w.alloc (Obj.cells #[.pointer (some ⟨b, 0, none⟩)] 151)).alloc (Obj.cells #[.int .i64 t] 3)) (w.heap.size + 1) #[.int .i64 t] 3 := by
    have := Blk.new (w.alloc (Obj.cells #[.pointer (some ⟨b, 0, none⟩)] 151)) 3 #[.int .i64 t]
    simpa using this
  have k1 := h1.only hO (by show ¬ w.heap.size = b; omega)
  have k2 := h2.only hO (by show ¬ w.heap.size + 1 = b; omega)
  exact ⟨by rw [k1.cell 0]; rfl, by rw [k2.cell 0]; rfl⟩
set_option maxRecDepth 100000 in
set_option maxHeartbeats 2000000 in
theorem rNum_wrong (w : World) (b : Nat) (r : ByteArray) (t e : Int) (h : Rdr w b r t e) (he : e ≠ 0) (bytes : Int) :
    Calls Tryz.prog 82 #[.pointer (some ⟨b, 0, none⟩), .int .i64 bytes] w fun ev w' => ev = .returned (.int .i64 0) ∧ Rdr w' b r t e ∧ Only (fun k => k = b) w w' := by
  obtain ⟨c0, c1, c2, f0, f1, f2⟩ := h.cells
  have HB := hide (show Rdr (w.alloc (Obj.cells #[.pointer (some ⟨b, 0, none⟩)] 151)) b r t e ∧ Only (fun k => k = b) w (w.alloc (Obj.cells #[.pointer (some ⟨b, 0, none⟩)] 151)) from ⟨Blk.alloc h _, (Only.refl _ w).alloc _⟩)
  have hlt : b < w.heap.size := Blk.lt h
  have hne : (e != 0) = true := by simp [he]
  clear h
  go_enter_defers Tryz.func82, Tryz.ntmps82
  go_wp2
  refine ⟨_, results_tmp rfl _ _ _, ?_⟩
  exact ⟨rfl, unhide HB⟩
set_option maxRecDepth 100000 in
set_option maxHeartbeats 2000000 in
theorem rRaw_wrong (w : World) (b : Nat) (r : ByteArray) (t e : Int) (h : Rdr w b r t e) (he : e ≠ 0) (n : Int) :
    Calls Tryz.prog 81 #[.pointer (some ⟨b, 0, none⟩), .int .i64 n] w fun ev w' => ev = .returned (.string ⟨#[]⟩) ∧ Rdr w' b r t e ∧ Only (fun k => k = b) w w' := by
  obtain ⟨c0, c1, c2, f0, f1, f2⟩ := h.cells
  have HB := hide (show Rdr (w.alloc (Obj.cells #[.pointer (some ⟨b, 0, none⟩)] 151)) b r t e ∧ Only (fun k => k = b) w (w.alloc (Obj.cells #[.pointer (some ⟨b, 0, none⟩)] 151)) from ⟨Blk.alloc h _, (Only.refl _ w).alloc _⟩)
  have hlt : b < w.heap.size := Blk.lt h
  have hne : (e != 0) = true := by simp [he]
  clear h
  go_enter_defers Tryz.func81, Tryz.ntmps81
  go_wp2
  refine ⟨_, results_tmp rfl _ _ _, ?_⟩
  exact ⟨rfl, unhide HB⟩
def numE (bytes : Int) (r : ByteArray) : Int := if bytes < 1 ∨ 8 < bytes then 1 else if (r.size : Int) < bytes then 31 else if 9223372036854775807 < beN ((nums r).take bytes.toNat) then 30 else 0
def numV (bytes : Int) (r : ByteArray) : Int := if numE bytes r = 0 then beN ((nums r).take bytes.toNat) else 0
set_option maxRecDepth 100000 in
set_option maxHeartbeats 2000000 in
theorem rnum_any (w : World) (b : Nat) (r : ByteArray) (t : Int) (h : Rdr w b r t 0) (hg : ETy w) (ht : 0 ≤ t) (hr : t + (r.size : Int) ≤ 9223372036854775807) (bytes : Int) :
    Calls Tryz.prog 82 #[.pointer (some ⟨b, 0, none⟩), .int .i64 bytes] w fun ev w' => RPost b r t (numE bytes r) (bytes.toNat) (.int .i64 (numV bytes r)) w ev w' := by
  have hmf : ∀ (fn : Fn) (first cap : Array Value) (w : World), (Instr.makeFunc fn first cap).run Tryz.prog w = .ok (.func fn first cap) w := fun _ _ _ _ => rfl
  obtain ⟨c0, c1, c2, f0, f1, f2⟩ := h.cells
  obtain ⟨hR1, hG1, hO1⟩ := face_start h hg
  have hlt : b < w.heap.size := Blk.lt h
  have hne := hg.ne h
  have HG1 := hide hG1
  have HO1 := hide hO1
  have HR1 := hide hR1
  have HW := hide (fun W => isWidth_any bytes W)
  by_cases hw : 1 ≤ bytes ∧ bytes ≤ 8
  · rw [decide_eq_true hw] at HW
    obtain ⟨k, rfl⟩ := Int.eq_ofNat_of_zero_le (show 0 ≤ bytes by omega)
    by_cases hs : (r.size : Int) < (k : Int)
    · have HN := hide (number_short _ b r t hR1 (k : Int) hs)
      have hE : numE (k : Int) r = 31 := by rw [numE, if_neg (by omega), if_pos hs]
      have hV : numV (k : Int) r = 0 := by rw [numV, if_neg (by rw [hE]; decide)]
      rw [hE, hV]
      have HX := hide (show (31 : Int) ≠ 0 by decide)
      clear h hg hR1 hG1 hO1 hE hV
      go_enter_defers Tryz.func82, Tryz.ntmps82
      go_wp2_with fail
      refine (unhide HW _).mono ?_
      rintro ev w1 ⟨rfl, rfl⟩
      go_wp2_with fail
      refine (unhide HN).mono ?_
      rintro ev wP ⟨rfl, hTh⟩
      have HTR := hide hTh.1
      have HTO := hide hTh.2
      clear hTh
      go_wp2
      obtain ⟨r', t', hTR⟩ := unhide HTR
      have hcp := face_cells (t := t) hlt (unhide HTO)
      have HC := hide (Num1_hit ⟨w.heap.size, 0, none⟩ ⟨w.heap.size + 1, 0, none⟩ b r' t' t 0 31 [] _ ((unhide HG1).only (unhide HTO) (fun q => hne q.symm)) hTR hcp.1 hcp.2)
      clear hTR hcp
      refine leaves_cons (f := 112) (args := #[.pointer (some ⟨w.heap.size, 0, none⟩), .pointer (some ⟨w.heap.size + 1, 0, none⟩)]) (by simp) (by simp [go_sem]) ?_
      refine (unhide HC).mono ?_
      rintro e u' wF ⟨rfl, rfl, hRF, hOF⟩
      have hF : RPost b r t 31 ((k : Int).toNat) (.int .i64 0) w (.returned (.int .i64 0)) wF := ⟨rfl, by rw [rRest, if_neg (unhide HX), rTak, if_neg (unhide HX)]; exact hRF, (unhide HO1).trans ((unhide HTO).trans hOF (fun _ _ q => q)) (fun _ _ q => q)⟩
      simp [Leaves, Go.settle, results, Tryz.results82, go_sem]
      exact hF
    · obtain ⟨Z, hZ⟩ : ∃ Z, Z = beN ((nums r).take k) := ⟨_, rfl⟩
      have HN := hide (number_any _ b r t hR1 k (by omega) (by omega) ht hr Z hZ)
      by_cases hZm : Z ≤ 9223372036854775807
      · have hE : numE (k : Int) r = 0 := by rw [numE, if_neg (by omega), if_neg hs, Int.toNat_natCast, ← hZ, if_neg (by omega)]
        have hV : numV (k : Int) r = Z := by rw [numV, if_pos hE, Int.toNat_natCast, ← hZ]
        rw [hE, hV, Int.toNat_natCast]
        clear h hg hR1 hG1 hO1 hE hV hZ
        go_enter_defers Tryz.func82, Tryz.ntmps82
        go_wp2_with fail
        refine (unhide HW _).mono ?_
        rintro ev w1 ⟨rfl, rfl⟩
        go_wp2_with fail
        refine (unhide HN).mono ?_
        rintro ev wP hTh
        obtain ⟨rfl, hTR, hTO⟩ := hTh.1 hZm
        have HTR := hide hTR
        have HTO := hide hTO
        clear hTR hTO hTh
        go_wp2
        have hcp := face_cells (t := t) hlt (unhide HTO)
        have HC := hide (Num1_idle ⟨w.heap.size, 0, none⟩ ⟨w.heap.size + 1, 0, none⟩ b t _ hcp.1 hcp.2)
        clear hcp
        refine leaves_cons (f := 112) (args := #[.pointer (some ⟨w.heap.size, 0, none⟩), .pointer (some ⟨w.heap.size + 1, 0, none⟩)]) (by simp) (by simp [go_sem]) ?_
        refine (unhide HC).mono ?_
        rintro e u' wF ⟨rfl, rfl, rfl⟩
        have hF : RPost b r t 0 (k) (.int .i64 Z) w (.returned (.int .i64 Z)) (World.drew _) := ⟨rfl, by rw [rRest, if_pos rfl, rTak, if_pos rfl]; exact unhide HTR, (unhide HO1).trans ((unhide HTO).drew) (fun _ _ q => q)⟩
        refine ⟨_, results_tmp rfl _ _ _, ?_⟩
        exact hF
      · have hE : numE (k : Int) r = 30 := by rw [numE, if_neg (by omega), if_neg hs, Int.toNat_natCast, ← hZ, if_pos (by omega)]
        have hV : numV (k : Int) r = 0 := by rw [numV, if_neg (by rw [hE]; decide)]
        rw [hE, hV, Int.toNat_natCast]
        have HX := hide (show (30 : Int) ≠ 0 by decide)
        clear h hg hR1 hG1 hO1 hE hV hZ
        go_enter_defers Tryz.func82, Tryz.ntmps82
        go_wp2_with fail
        refine (unhide HW _).mono ?_
        rintro ev w1 ⟨rfl, rfl⟩
        go_wp2_with fail
        refine (unhide HN).mono ?_
        rintro ev wP hTh
        obtain ⟨rfl, hTT⟩ := hTh.2 (by omega)
        have HTR := hide hTT.1
        have HTO := hide hTT.2
        clear hTT hTh
        go_wp2
        obtain ⟨r', t', hTR⟩ := unhide HTR
        have hcp := face_cells (t := t) hlt (unhide HTO)
        have HC := hide (Num1_hit ⟨w.heap.size, 0, none⟩ ⟨w.heap.size + 1, 0, none⟩ b r' t' t 0 30 [] _ ((unhide HG1).only (unhide HTO) (fun q => hne q.symm)) hTR hcp.1 hcp.2)
        clear hTR hcp
        refine leaves_cons (f := 112) (args := #[.pointer (some ⟨w.heap.size, 0, none⟩), .pointer (some ⟨w.heap.size + 1, 0, none⟩)]) (by simp) (by simp [go_sem]) ?_
        refine (unhide HC).mono ?_
        rintro e u' wF ⟨rfl, rfl, hRF, hOF⟩
        have hF : RPost b r t 30 (k) (.int .i64 0) w (.returned (.int .i64 0)) wF := ⟨rfl, by rw [rRest, if_neg (unhide HX), rTak, if_neg (unhide HX)]; exact hRF, (unhide HO1).trans ((unhide HTO).trans hOF (fun _ _ q => q)) (fun _ _ q => q)⟩
        simp [Leaves, Go.settle, results, Tryz.results82, go_sem]
        exact hF
  · rw [decide_eq_false hw] at HW
    have hE : numE bytes r = 1 := by rw [numE, if_pos (by omega)]
    have hV : numV bytes r = 0 := by rw [numV, if_neg (by rw [hE]; decide)]
    rw [hE, hV]
    have HX := hide (show (1 : Int) ≠ 0 by decide)
    have HTR := hide (⟨r, t, hR1⟩ : ∃ r' t', Rdr _ b r' t' 0)
    have HTO := hide (Only.refl (fun k => k = b) ((w.alloc (Obj.cells #[.pointer (some ⟨b, 0, none⟩)] 151)).alloc (Obj.cells #[.int .i64 t] 3)))
    clear h hg hR1 hG1 hO1 hE hV
    go_enter_defers Tryz.func82, Tryz.ntmps82
    go_wp2_with (go_at_call 87; refine (unhide HW _).mono ?_; rintro ev w1 ⟨rfl, rfl⟩)
    obtain ⟨r', t', hTR⟩ := unhide HTR
    have hcp := face_cells (t := t) hlt (unhide HTO)
    have HC := hide (Num1_hit ⟨w.heap.size, 0, none⟩ ⟨w.heap.size + 1, 0, none⟩ b r' t' t 0 1 [] _ ((unhide HG1).only (unhide HTO) (fun q => hne q.symm)) hTR hcp.1 hcp.2)
    clear hTR hcp
    refine leaves_cons (f := 112) (args := #[.pointer (some ⟨w.heap.size, 0, none⟩), .pointer (some ⟨w.heap.size + 1, 0, none⟩)]) (by simp) (by simp [go_sem]) ?_
    refine (unhide HC).mono ?_
    rintro e u' wF ⟨rfl, rfl, hRF, hOF⟩
    have hF : RPost b r t 1 (bytes.toNat) (.int .i64 0) w (.returned (.int .i64 0)) wF := ⟨rfl, by rw [rRest, if_neg (unhide HX), rTak, if_neg (unhide HX)]; exact hRF, (unhide HO1).trans ((unhide HTO).trans hOF (fun _ _ q => q)) (fun _ _ q => q)⟩
    simp [Leaves, Go.settle, results, Tryz.results82, go_sem]
    exact hF
def rawE (n : Int) (r : ByteArray) : Int := if n < 0 then 1 else if (r.size : Int) < n then 31 else 0
def rawV (n : Int) (r : ByteArray) : ByteArray := if rawE n r = 0 then r.extract 0 n.toNat else ⟨#[]⟩
set_option maxRecDepth 100000 in
set_option maxHeartbeats 2000000 in
theorem rraw_any (w : World) (b : Nat) (r : ByteArray) (t : Int) (h : Rdr w b r t 0) (hg : ETy w) (ht : 0 ≤ t) (hr : t + (r.size : Int) ≤ 9223372036854775807) (n : Int) :
    Calls Tryz.prog 81 #[.pointer (some ⟨b, 0, none⟩), .int .i64 n] w fun ev w' => RPost b r t (rawE n r) (n.toNat) (.string (rawV n r)) w ev w' := by
  have hmf : ∀ (fn : Fn) (first cap : Array Value) (w : World), (Instr.makeFunc fn first cap).run Tryz.prog w = .ok (.func fn first cap) w := fun _ _ _ _ => rfl
  obtain ⟨c0, c1, c2, f0, f1, f2⟩ := h.cells
  obtain ⟨hR1, hG1, hO1⟩ := face_start h hg
  have hlt : b < w.heap.size := Blk.lt h
  have hne := hg.ne h
  have HG1 := hide hG1
  have HO1 := hide hO1
  have HR1 := hide hR1
  by_cases h0 : n < 0
  · have hE : rawE n r = 1 := by rw [rawE, if_pos h0]
    have hV : rawV n r = ⟨#[]⟩ := by rw [rawV, if_neg (by rw [hE]; decide)]
    rw [hE, hV]
    have HX := hide (show (1 : Int) ≠ 0 by decide)
    have HTR := hide (⟨r, t, hR1⟩ : ∃ r' t', Rdr _ b r' t' 0)
    have HTO := hide (Only.refl (fun k => k = b) ((w.alloc (Obj.cells #[.pointer (some ⟨b, 0, none⟩)] 151)).alloc (Obj.cells #[.int .i64 t] 3)))
    clear h hg hR1 hG1 hO1 hE hV
    go_enter_defers Tryz.func81, Tryz.ntmps81
    go_wp2
    obtain ⟨r', t', hTR⟩ := unhide HTR
    have hcp := face_cells (t := t) hlt (unhide HTO)
    have HC := hide (Raw1_hit ⟨w.heap.size, 0, none⟩ ⟨w.heap.size + 1, 0, none⟩ b r' t' t 0 1 [] _ ((unhide HG1).only (unhide HTO) (fun q => hne q.symm)) hTR hcp.1 hcp.2)
    clear hTR hcp
    refine leaves_cons (f := 109) (args := #[.pointer (some ⟨w.heap.size, 0, none⟩), .pointer (some ⟨w.heap.size + 1, 0, none⟩)]) (by simp) (by simp [go_sem]) ?_
    refine (unhide HC).mono ?_
    rintro e u' wF ⟨rfl, rfl, hRF, hOF⟩
    have hF : RPost b r t 1 (n.toNat) (.string ⟨#[]⟩) w (.returned (.string ⟨#[]⟩)) wF := ⟨rfl, by rw [rRest, if_neg (unhide HX), rTak, if_neg (unhide HX)]; exact hRF, (unhide HO1).trans ((unhide HTO).trans hOF (fun _ _ q => q)) (fun _ _ q => q)⟩
    simp [Leaves, Go.settle, results, Tryz.results81, go_sem]
    exact hF
  · by_cases hs : (r.size : Int) < n
    · have hE : rawE n r = 31 := by rw [rawE, if_neg h0, if_pos hs]
      have hV : rawV n r = ⟨#[]⟩ := by rw [rawV, if_neg (by rw [hE]; decide)]
      rw [hE, hV]
      have HX := hide (show (31 : Int) ≠ 0 by decide)
      have HN := hide (take_short _ b r t hR1 n hs)
      clear h hg hR1 hG1 hO1 hE hV
      go_enter_defers Tryz.func81, Tryz.ntmps81
      go_wp2_with fail
      refine (unhide HN).mono ?_
      rintro ev wP ⟨rfl, hTh⟩
      have HTR := hide hTh.1
      have HTO := hide hTh.2
      clear hTh
      go_wp2
      obtain ⟨r', t', hTR⟩ := unhide HTR
      have hcp := face_cells (t := t) hlt (unhide HTO)
      have HC := hide (Raw1_hit ⟨w.heap.size, 0, none⟩ ⟨w.heap.size + 1, 0, none⟩ b r' t' t 0 31 [] _ ((unhide HG1).only (unhide HTO) (fun q => hne q.symm)) hTR hcp.1 hcp.2)
      clear hTR hcp
      refine leaves_cons (f := 109) (args := #[.pointer (some ⟨w.heap.size, 0, none⟩), .pointer (some ⟨w.heap.size + 1, 0, none⟩)]) (by simp) (by simp [go_sem]) ?_
      refine (unhide HC).mono ?_
      rintro e u' wF ⟨rfl, rfl, hRF, hOF⟩
      have hF : RPost b r t 31 (n.toNat) (.string ⟨#[]⟩) w (.returned (.string ⟨#[]⟩)) wF := ⟨rfl, by rw [rRest, if_neg (unhide HX), rTak, if_neg (unhide HX)]; exact hRF, (unhide HO1).trans ((unhide HTO).trans hOF (fun _ _ q => q)) (fun _ _ q => q)⟩
      simp [Leaves, Go.settle, results, Tryz.results81, go_sem]
      exact hF
    · obtain ⟨k, rfl⟩ := Int.eq_ofNat_of_zero_le (show 0 ≤ n by omega)
      have hE : rawE (k : Int) r = 0 := by rw [rawE, if_neg h0, if_neg hs]
      have hV : rawV (k : Int) r = r.extract 0 k := by rw [rawV, if_pos hE, Int.toNat_natCast]
      rw [hE, hV, Int.toNat_natCast]
      have HN := hide (take_ok _ b r t 0 hR1 k (by omega) ht hr)
      clear h hg hR1 hG1 hO1 hE hV
      go_enter_defers Tryz.func81, Tryz.ntmps81
      go_wp2_with fail
      refine (unhide HN).mono ?_
      rintro ev wP ⟨rfl, hTR, hTO⟩
      have HTR := hide hTR
      have HTO := hide hTO
      clear hTR hTO
      go_wp2
      have hcp := face_cells (t := t) hlt (unhide HTO)
      have HC := hide (Raw1_idle ⟨w.heap.size, 0, none⟩ ⟨w.heap.size + 1, 0, none⟩ b t _ hcp.1 hcp.2)
      clear hcp
      refine leaves_cons (f := 109) (args := #[.pointer (some ⟨w.heap.size, 0, none⟩), .pointer (some ⟨w.heap.size + 1, 0, none⟩)]) (by simp) (by simp [go_sem]) ?_
      refine (unhide HC).mono ?_
      rintro e u' wF ⟨rfl, rfl, rfl⟩
      have hF : RPost b r t 0 (k) (.string (r.extract 0 k)) w (.returned (.string (r.extract 0 k))) (World.drew _) := ⟨rfl, by rw [rRest, if_pos rfl, rTak, if_pos rfl]; exact unhide HTR, (unhide HO1).trans ((unhide HTO).drew) (fun _ _ q => q)⟩
      refine ⟨_, results_tmp rfl _ _ _, ?_⟩
      exact hF
end Go.Proofs.YtnfdedolgfcmfaaGreatDoor

namespace Go.Proofs.YtnfdedolgfcmfaaGreatDoor
open Go.RowKit
set_option maxRecDepth 100000 in
set_option maxHeartbeats 400000 in
theorem newReader_any (s : ByteArray) (w : World) :
    Calls Tryz.prog 80 #[.string s] w fun e w' => e = .returned (.pointer (some ⟨w.heap.size, 0, none⟩)) ∧ Rdr w' w.heap.size s 0 0 ∧ Below w.heap.size w w' ∧ w'.heap.size = w.heap.size + 1 := by
  go_enter Tryz.func80, Tryz.ntmps80
  go_wp2
  go_ret
  exact ⟨rfl, Blk.new _ _ _, (Below.refl _ _).alloc (Nat.le_refl _) _, by simp⟩
end Go.Proofs.YtnfdedolgfcmfaaGreatDoor

namespace Go.Proofs.YtnfdedolgfcmfaaGreatDoor
open Go.RowKit
/-- A Reader's state: what is left, how much was taken, what was wrong first. -/
structure RSt where
  r : ByteArray
  t : Int
  e : Int
def stepR (s : RSt) (E : Int) (c : Nat) : RSt := if s.e = 0 then ⟨rRest s.r E c, rTak s.t E c, E⟩ else s
def Rds (w : World) (b : Nat) (s : RSt) : Prop := Rdr w b s.r s.t s.e
def RSt.ok (s : RSt) (N : Nat) : Prop := 0 ≤ s.t ∧ s.t + (s.r.size : Int) ≤ (N : Int)
theorem numS (w : World) (b : Nat) (s : RSt) (h : Rds w b s) (hg : ETy w) (hN : s.ok 9223372036854775807) (bytes : Int) :
    Calls Tryz.prog 82 #[.pointer (some ⟨b, 0, none⟩), .int .i64 bytes] w fun ev w' => ev = .returned (.int .i64 (if s.e = 0 then numV bytes s.r else 0)) ∧ Rds w' b (stepR s (numE bytes s.r) (bytes.toNat)) ∧ Only (fun k => k = b) w w' := by
  by_cases he : s.e = 0
  · have h' : Rdr w b s.r s.t 0 := by rw [← he]; exact h
    refine (rnum_any w b s.r s.t h' hg hN.1 hN.2 bytes).mono ?_
    rintro ev w' ⟨rfl, hR, hO⟩
    refine ⟨by rw [if_pos he], ?_, hO⟩
    unfold Rds stepR
    rw [if_pos he]
    exact hR
  · refine (rNum_wrong w b s.r s.t s.e h he bytes).mono ?_
    rintro ev w' ⟨rfl, hR, hO⟩
    refine ⟨by rw [if_neg he], ?_, hO⟩
    unfold Rds stepR
    rw [if_neg he]
    exact hR
theorem rawS (w : World) (b : Nat) (s : RSt) (h : Rds w b s) (hg : ETy w) (hN : s.ok 9223372036854775807) (n : Int) :
    Calls Tryz.prog 81 #[.pointer (some ⟨b, 0, none⟩), .int .i64 n] w fun ev w' => ev = .returned (.string (if s.e = 0 then rawV n s.r else ⟨#[]⟩)) ∧ Rds w' b (stepR s (rawE n s.r) (n.toNat)) ∧ Only (fun k => k = b) w w' := by
  by_cases he : s.e = 0
  · have h' : Rdr w b s.r s.t 0 := by rw [← he]; exact h
    refine (rraw_any w b s.r s.t h' hg hN.1 hN.2 n).mono ?_
    rintro ev w' ⟨rfl, hR, hO⟩
    refine ⟨by rw [if_pos he], ?_, hO⟩
    unfold Rds stepR
    rw [if_pos he]
    exact hR
  · refine (rRaw_wrong w b s.r s.t s.e h he n).mono ?_
    rintro ev w' ⟨rfl, hR, hO⟩
    refine ⟨by rw [if_neg he], ?_, hO⟩
    unfold Rds stepR
    rw [if_neg he]
    exact hR
theorem Rds.only {w w' : World} {b : Nat} {s : RSt} {P : Nat → Prop} (h : Rds w b s) (ho : Only P w w') (hp : ¬ P b) : Rds w' b s := Blk.only h ho hp
theorem Rds.ne {w : World} {b : Nat} {s : RSt} (h : Rds w b s) (hg : ETy w) : b ≠ 0 := hg.ne h
end Go.Proofs.YtnfdedolgfcmfaaGreatDoor

namespace Go.Proofs.YtnfdedolgfcmfaaGreatDoor
open Go.RowKit
set_option maxRecDepth 100000
/-- a reader at work: what is left, how much was taken; nothing was wrong -/
def Rk (w : World) (b : Nat) (r : ByteArray) (t : Nat) : Prop := Rdr w b r (t : Int) 0 ∧ ETy w ∧ t + r.size ≤ 10000000
theorem Rk.next {w w' : World} {b : Nat} {r : ByteArray} {t n : Nat} (h : Rk w b r t) (hn : n ≤ r.size) (hR : Rds w' b (stepR ⟨r, (t : Int), 0⟩ 0 n)) (hO : Only (fun k => k = b) w w') : Rk w' b (r.extract n r.size) (t + n) := by
  have e : stepR ⟨r, (t : Int), 0⟩ 0 n = ⟨r.extract n r.size, ((t + n : Nat) : Int), 0⟩ := by
    simp [stepR, rRest, rTak]
  rw [e] at hR
  refine ⟨hR, h.2.1.only hO (fun q => h.2.1.ne h.1 q.symm), ?_⟩
  have := h.2.2
  rw [ByteArray.size_extract]
  omega
theorem ykraw_any (w : World) (b : Nat) (r : ByteArray) (t n : Nat) (h : Rk w b r t) (hn : n ≤ r.size) : Calls Tryz.prog 81 #[.pointer (some ⟨b, 0, none⟩), .int .i64 (n : Int)] w fun e w' => e = .returned (.string (r.extract 0 n)) ∧ Rk w' b (r.extract n r.size) (t + n) ∧ Only (fun k => k = b) w w' := by
  have hE : rawE (n : Int) r = 0 := by rw [rawE, if_neg (by omega), if_neg (by omega)]
  refine (rawS w b ⟨r, (t : Int), 0⟩ h.1 h.2.1 ⟨by show (0 : Int) ≤ (t : Int); omega, by show (t : Int) + (r.size : Int) ≤ _; have := h.2.2; omega⟩ (n : Int)).mono ?_
  rintro e w' ⟨rfl, hR, hO⟩
  refine ⟨?_, h.next hn (by rw [hE, Int.toNat_natCast] at hR; exact hR) hO, hO⟩
  rw [if_pos rfl, rawV, if_pos hE, Int.toNat_natCast]
theorem yknum_any (w : World) (b : Nat) (r : ByteArray) (t n : Nat) (h : Rk w b r t) (hn : n ≤ r.size) (h1 : 1 ≤ n) (h4 : n ≤ 4) : Calls Tryz.prog 82 #[.pointer (some ⟨b, 0, none⟩), .int .i64 (n : Int)] w fun e w' => e = .returned (.int .i64 (beN ((nums r).take n))) ∧ Rk w' b (r.extract n r.size) (t + n) ∧ Only (fun k => k = b) w w' := by
  have hb := be_bound (nums r) (nums_bytes r) n
  have hp : (256 : Int) ^ n ≤ 4294967296 := by
    obtain rfl | rfl | rfl | rfl : n = 1 ∨ n = 2 ∨ n = 3 ∨ n = 4 := by omega
    all_goals decide
  have hE : numE (n : Int) r = 0 := by
    rw [numE, if_neg (by omega), if_neg (by omega), Int.toNat_natCast, if_neg (by omega)]
  refine (numS w b ⟨r, (t : Int), 0⟩ h.1 h.2.1 ⟨by show (0 : Int) ≤ (t : Int); omega, by show (t : Int) + (r.size : Int) ≤ _; have := h.2.2; omega⟩ (n : Int)).mono ?_
  rintro e w' ⟨rfl, hR, hO⟩
  refine ⟨?_, h.next hn (by rw [hE, Int.toNat_natCast] at hR; exact hR) hO, hO⟩
  rw [if_pos rfl, numV, if_pos hE, Int.toNat_natCast]
end Go.Proofs.YtnfdedolgfcmfaaGreatDoor

namespace Go.Proofs.YtnfdedolgfcmfaaGreatDoor
open Go.RowKit
set_option maxRecDepth 100000
theorem iload_blk {W : World} {b : Nat} {cur : Array Value} {T : TypeId} (ty : TypeId) (d : TypeDesc) (h : Blk W b cur T) (hu : Tryz.prog.underlying ty = some d) (hd : d.isRow = true) (hi : (Tryz.prog.info? ty).map (·.size) = some cur.size) : (loadVar ty ⟨b, 0, none⟩).run Tryz.prog W = .ok (.agg cur) W := by
  have := run_loadVar_mid (P := Tryz.prog) W b 0 ty cur.toList d (fun j v hv => by rw [Nat.zero_add, h.cell j]; simpa using hv) hu hd (by simpa using hi)
  simpa using this
theorem results_cell2 {fn : Func} {p q : Tmp} {ty : TypeId} (h : fn.results = #[.cell p ty, .tmp q]) (tmps : Array Value) (P : Program) (w : World) (ad : Addr) (ha : tmps.getD p undef = .pointer (some ad)) (v : Value) (hl : (loadVar ty ad).run P w = .ok v w) :
    (results fn tmps).run P w = .ok (.tuple #[v, tmps.getD q undef]) w := by
  have ha' : tmps[p]?.getD undef = .pointer (some ad) := by simpa using ha
  simp only [results, h]
  simp [ha', asAddr, hl]
/-- so many noughts -/
def zR (n : Nat) : ByteArray := strOfNums (List.replicate n 0)
theorem zR_size (n : Nat) : (zR n).size = n := by rw [zR, strOfNums_size, List.length_replicate]
theorem yrep_any (c : Nat) (hc : c ≤ 100000) (w : World) : Calls Tryz.prog 116 #[.string ⟨#[0]⟩, .int .i64 (c : Int)] w fun e w' => e = .returned (.string (zR c)) ∧ Below w.heap.size w w' := by
  have h := Tryz.strings_Repeat ⟨#[0]⟩ c w (by omega) (by show 1 * c ≤ _; omega)
  have e : (⟨(Lib.repeatL (ByteArray.mk #[0]).data.toList c).toArray⟩ : ByteArray) = zR c := by
    have h : Lib.repeatL (ByteArray.mk #[0]).data.toList c = List.replicate c 0 := by
      have := Lib.repeatL_replicate 0 1 c
      rw [Nat.mul_one] at this
      exact this
    rw [h, zR, strOfNums]
    simp
  rw [e] at h
  exact h
theorem yblank_any (w : World) : Calls Tryz.prog 118 #[] w fun e w' => e = .returned (.string (zR 256)) ∧ Below w.heap.size w w' := by
  have HR := hide (yrep_any 256 (by omega) w)
  generalize zR 256 = z at *
  go_enter Tryz.func118, Tryz.ntmps118
  go_wp2_with fail
  refine (unhide HR).mono ?_
  rintro e y ⟨rfl, hb⟩
  have HB := hide hb
  clear hb HR
  go_wp2
  go_ret
  exact ⟨rfl, unhide HB⟩
/-- a word, as a value -/
def wdV (k n : Nat) (r : ByteArray) : Value := .agg #[.int .i64 (k : Int), .int .i64 (n : Int), .string r]
set_option maxHeartbeats 1000000 in
theorem ynothing_any (w : World) : Calls Tryz.prog 84 #[] w fun e w' => e = .returned (wdV 0 0 (zR 32)) ∧ Below w.heap.size w w' := by
  have HR := hide (fun W => yrep_any 32 (by omega) W)
  generalize zR 32 = z at *
  have hB0 := Blk.new w 103 #[.int .i64 0, .int .i64 0, .string ⟨#[]⟩]
  have HB0 := hide (And.intro hB0 ((Below.refl w.heap.size w).alloc (Nat.le_refl _) (.cells #[.int .i64 0, .int .i64 0, .string ⟨#[]⟩] 103)))
  clear hB0
  unfold wdV
  go_enter Tryz.func84, Tryz.ntmps84
  go_wp2_with fail
  refine (unhide HR _).mono ?_
  rintro e y ⟨rfl, hb⟩
  have hbl := (unhide HB0).1.below hb (by simp)
  have hbb := (unhide HB0).2.trans (hb.mono (by simp))
  have c0 : y.cell? ⟨w.heap.size, 0, none⟩ = some (.int .i64 0) := by rw [hbl.cell 0]; rfl
  have c1 : y.cell? ⟨w.heap.size, 1, none⟩ = some (.int .i64 0) := by rw [hbl.cell 1]; rfl
  have c2 : y.cell? ⟨w.heap.size, 2, none⟩ = some (.string ⟨#[]⟩) := by rw [hbl.cell 2]; rfl
  have f0 := hbl.frozen 0
  have f1 := hbl.frozen 1
  have f2 := hbl.frozen 2
  have HX := hide (show Blk (((y.setCell ⟨w.heap.size, 0, none⟩ (.int .i64 0)).setCell ⟨w.heap.size, 1, none⟩ (.int .i64 0)).setCell ⟨w.heap.size, 2, none⟩ (.string z)) w.heap.size #[.int .i64 0, .int .i64 0, .string z] 103 ∧ Below w.heap.size w (((y.setCell ⟨w.heap.size, 0, none⟩ (.int .i64 0)).setCell ⟨w.heap.size, 1, none⟩ (.int .i64 0)).setCell ⟨w.heap.size, 2, none⟩ (.string z)) from ⟨((hbl.set 0 (.int .i64 0)).set 1 (.int .i64 0)).set 2 (.string z), ((hbb.setCell (Nat.le_refl _) _).setCell (Nat.le_refl _) _).setCell (Nat.le_refl _) _⟩)
  clear HR hb hbl hbb HB0
  go_wp2
  obtain ⟨x, hx⟩ : ∃ q, (((y.setCell ⟨w.heap.size, 0, none⟩ (.int .i64 0)).setCell ⟨w.heap.size, 1, none⟩ (.int .i64 0)).setCell ⟨w.heap.size, 2, none⟩ (.string z)) = q := ⟨_, rfl⟩
  rw [hx] at HX ⊢
  have hld := iload_blk 103 _ (unhide HX).1 Tryz.underlying103 rfl (by kernel_rfl)
  refine bodyPost_ret (v := .agg #[.int .i64 0, .int .i64 0, .string z]) (results_cell rfl _ _ _ ⟨w.heap.size, 0, none⟩ rfl _ hld) rfl ⟨rfl, (unhide HX).2⟩
end Go.Proofs.YtnfdedolgfcmfaaGreatDoor
