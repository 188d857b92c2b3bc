import Derived.Test.YtclgkgaobjcifaaGreatDoorMy10
import Derived.Test.YtclgkgaobjcifaaGreatDoorMy08
import Derived.Laws.Bits64b
import Derived.Test.YtclgkgaobjcifaaGreatDoorMy00
import Derived.BigQuiet
namespace Go.Proofs.YtclgkgaobjcifaaGreatDoor
open Go.RowKit
/-- A panic of a Reader's own. -/
def gave (x : Int) : List PanicEntry := [{ v := .iface 117 (.agg #[.int .i64 x]), recovered := false }]
/-- What a call that gives up leaves behind. -/
def Thr (b : Nat) (w w' : World) : Prop := (∃ r t, Rdr w' b r t 0) ∧ Only (fun k => k = b) w w'
theorem Rdr.cells {w : World} {b : Nat} {r : ByteArray} {t e : Int} (h : Rdr w b r t e) : w.cell? ⟨b, 0, none⟩ = some (.string r) ∧ w.cell? ⟨b, 1, none⟩ = some (.int .i64 t) ∧ w.cell? ⟨b, 2, none⟩ = some (.int .i64 e) ∧ w.frozen? ⟨b, 0, none⟩ = false ∧ w.frozen? ⟨b, 1, none⟩ = false ∧ w.frozen? ⟨b, 2, none⟩ = false := by
  have h' : Blk w b #[.string r, .int .i64 t, .int .i64 e] 114 := h
  refine ⟨?_, ?_, ?_, h'.frozen 0, h'.frozen 1, h'.frozen 2⟩
  · rw [h'.cell 0]; rfl
  · rw [h'.cell 1]; rfl
  · rw [h'.cell 2]; rfl
set_option maxRecDepth 100000 in
set_option maxHeartbeats 1000000 in
theorem take_ok (w : World) (b : Nat) (r : ByteArray) (t e : Int) (h : Rdr w b r t e) (n : Nat) (hn : n ≤ r.size) (ht : 0 ≤ t) (hr : t + (r.size : Int) ≤ 9223372036854775807) :
    Calls Tryz.prog 89 #[.pointer (some ⟨b, 0, none⟩), .int .i64 (n : Int)] w fun ev w' => ev = .returned (.string (r.extract 0 n)) ∧ Rdr w' b (r.extract n r.size) (t + (n : Int)) e ∧ Only (fun k => k = b) w w' := by
  obtain ⟨c0, c1, c2, f0, f1, f2⟩ := h.cells
  have HB := hide h
  clear h
  go_enter Tryz.func89, Tryz.ntmps89
  go_wp2
  go_ret
  refine ⟨rfl, ?_, ((Only.refl (fun k => k = b) w).setCell ⟨b, 0, none⟩ _ (fun _ => rfl)).setCell ⟨b, 1, none⟩ _ (fun _ => rfl)⟩
  exact (Blk.set (unhide HB) 0 _).set 1 _
set_option maxRecDepth 100000 in
set_option maxHeartbeats 1000000 in
theorem take_short (w : World) (b : Nat) (r : ByteArray) (t : Int) (h : Rdr w b r t 0) (n : Int) (hn : (r.size : Int) < n) :
    Calls Tryz.prog 89 #[.pointer (some ⟨b, 0, none⟩), .int .i64 n] w fun ev w' => ev = .panicked (gave 31) ∧ Thr b w w' := by
  obtain ⟨c0, c1, c2, f0, f1, f2⟩ := h.cells
  have HB := hide h
  clear h
  go_enter Tryz.func89, Tryz.ntmps89
  go_wp2
  (try simp only [Exit.inBlock, Exit.then])
  exact ⟨rfl, rfl, ⟨r, t, unhide HB⟩, Only.refl _ _⟩
set_option maxRecDepth 100000 in
set_option maxHeartbeats 1000000 in
theorem number_short (w : World) (b : Nat) (r : ByteArray) (t : Int) (h : Rdr w b r t 0) (n : Int) (hn : (r.size : Int) < n) :
    Calls Tryz.prog 71 #[.pointer (some ⟨b, 0, none⟩), .int .i64 n] w fun ev w' => ev = .panicked (gave 31) ∧ Thr b w w' := by
  have HT := hide (take_short w b r t h n hn)
  clear h
  go_enter Tryz.func71, Tryz.ntmps71
  go_wp2_with (go_at_call 89; refine (unhide HT).mono ?_; rintro ev w2 ⟨rfl, hP⟩; have HP := hide hP; clear hP)
  (try simp only [Exit.inBlock, Exit.then])
  exact ⟨rfl, rfl, unhide HP⟩
theorem be_take (l : List Int) (i : Nat) (hi : i < l.length) : beN (l.take (i + 1)) = 256 * beN (l.take i) + l.getD i 0 := by
  rw [List.take_add_one, List.getElem?_eq_getElem hi, List.getD_eq_getElem?_getD, List.getElem?_eq_getElem hi]
  exact beN_snoc _ _
theorem be_bound (l : List Int) (h : Bytes l) : ∀ i, 0 ≤ beN (l.take i) ∧ beN (l.take i) < 256 ^ i := by
  intro i
  induction i with
  | zero => simp [beN]
  | succ i ih =>
    by_cases hi : i < l.length
    · rw [be_take l i hi, Int.pow_succ]
      have := h i
      omega
    · rw [List.take_of_length_le (by omega)] at ih ⊢
      have : (256 : Int) ^ i ≤ 256 ^ (i + 1) := by rw [Int.pow_succ]; have : (0:Int) < 256 ^ i := Int.pow_pos (by decide); omega
      omega
def NumPost (b : Nat) (r : ByteArray) (t : Int) (n : Nat) (Z : Int) (w : World) (ev : Ending) (w' : World) : Prop :=
  (Z ≤ 9223372036854775807 → ev = .returned (.int .i64 Z) ∧ Rdr w' b (r.extract n r.size) (t + (n : Int)) 0 ∧ Only (fun k => k = b) w w') ∧ (9223372036854775807 < Z → ev = .panicked (gave 30) ∧ Thr b w w')
set_option maxRecDepth 100000 in
set_option maxHeartbeats 2000000 in
theorem number_any (w : World) (b : Nat) (r : ByteArray) (t : Int) (h : Rdr w b r t 0) (n : Nat) (hn : n ≤ r.size) (hn8 : n ≤ 8) (ht : 0 ≤ t) (hr : t + (r.size : Int) ≤ 9223372036854775807) (Z : Int) (hZ : Z = beN ((nums r).take n)) :
    Calls Tryz.prog 71 #[.pointer (some ⟨b, 0, none⟩), .int .i64 (n : Int)] w fun ev w' => NumPost b r t n Z w ev w' := by
  have HT := hide (take_ok w b r t 0 h n hn ht hr)
  have hsz : (r.extract 0 n).size = n := by simp; omega
  have hnm : nums (r.extract 0 n) = (nums r).take n := by rw [nums_extract, List.drop_zero]
  generalize r.extract 0 n = s at *
  rw [← hnm] at hZ
  have HZ := hide hZ
  clear h hnm hZ
  go_enter Tryz.func71, Tryz.ntmps71
  go_wp2_with fail
  refine (unhide HT).mono ?_
  rintro ev w2 ⟨rfl, hR2, hO2⟩
  obtain ⟨cap, W, hrun, hB, hbel⟩ := Bsl.of_string w2 s (by omega)
  rw [hsz] at hrun
  have hlt2 : b < w2.heap.size := Blk.lt hR2
  have HR2 := hide hR2
  have HO2 := hide hO2
  have HRW := hide (show Rdr W b (r.extract n r.size) (t + (n : Int)) 0 from Blk.below hR2 hbel hlt2)
  have HOW := hide (show Only (fun k => k = b) w W from hO2.trans (Only.of_below (P := fun _ => False) hbel) (fun _ _ q => q.elim))
  have HA := hide hB.2.2.2.2.1
  have hb8 := be_bound (nums s) (nums_bytes s)
  have hHB := hide hb8
  clear hR2 hO2 hB hbel hb8 HT HR2 HO2
  go_wp2
  go_loopw [5, 13] (fun u i wr => ∃ j : Nat, j ≤ n ∧ i = .int .i64 (j : Int) ∧ u = .int .u64 (beN ((nums s).take j)) ∧ wr = W) (fun _ i _ => n - (intOf i).toNat)
  case atStart => exact ⟨0, by omega, rfl, rfl, rfl⟩
  case round =>
    obtain ⟨j, hj, rfl, rfl, rfl⟩ := hrel
    have hbj := unhide hHB j
    by_cases hjn : j < n
    · have hl : j < (nums s).length := by rw [nums_len, hsz]; exact hjn
      have c1 := (unhide HA).get0 j hl
      have hx := nums_bytes s j
      have HN := hide (be_take (nums s) j hl)
      have hp : (256 : Int) ^ j ≤ 256 ^ 7 := by
        have h1 : (256 : Nat) ^ j ≤ 256 ^ 7 := Nat.pow_le_pow_right (by decide) (by omega)
        exact_mod_cast h1
      have h7 : (256 : Int) ^ 7 = 72057594037927936 := by decide
      obtain ⟨X, hX⟩ := Int.eq_ofNat_of_zero_le hx.1
      obtain ⟨N, hN⟩ := Int.eq_ofNat_of_zero_le hbj.1
      have hNl : N < 72057594037927936 := by omega
      have hXl : X < 256 := by omega
      rw [hX] at c1 HN
      rw [hN] at HN ⊢
      clear hp h7 hx hbj hX hN
      have hw1 : IntKind.u64.wrap ((N : Int) * 2 ^ (8 : Int).toNat) = ((N * 256 : Nat) : Int) := by
        rw [IntKind.wrap_u64]
        have : (8 : Int).toNat = 8 := rfl
        rw [this]
        omega
      have ho := bits_or_u64_nat (N * 256) X (by omega) (by omega)
      rw [Nat.or_comm, or_add' N 256 8 X (by decide) (by omega)] at ho
      go_wp2
      go_roundw
      case rel => exact ⟨j + 1, by omega, by go_num, by rw [unhide HN, show (256 * (N : Int) + (X : Int)) = ((N * 256 + X : Nat) : Int) by omega, ← ho]; rfl, trivial⟩
      case measure => simp [intOf]; omega
    · have hjn' : j = n := by omega
      subst hjn'
      have hall : (nums s).take j = nums s := List.take_of_length_le (by rw [nums_len]; omega)
      rw [hall, ← unhide HZ] at hbj ⊢
      have hp : (256 : Int) ^ j ≤ 256 ^ 8 := by
        have h1 : (256 : Nat) ^ j ≤ 256 ^ 8 := Nat.pow_le_pow_right (by decide) (by omega)
        exact_mod_cast h1
      have h8 : (256 : Int) ^ 8 = 18446744073709551616 := by decide
      have hZ1 : Z < 18446744073709551616 := by omega
      have hZ0 := hbj.1
      clear hp h8 hbj hall
      by_cases hZm : Z ≤ 9223372036854775807
      · have hng : ¬ 9223372036854775807 < Z := by omega
        go_wp2
        go_ret
        exact ⟨fun _ => ⟨rfl, unhide HRW, unhide HOW⟩, fun h => by omega⟩
      · have hg : 9223372036854775807 < Z := by omega
        go_wp2
        (try simp only [Exit.inBlock, Exit.then])
        exact ⟨rfl, fun h => by omega, fun _ => ⟨rfl, ⟨_, _, unhide HRW⟩, unhide HOW⟩⟩
end Go.Proofs.YtclgkgaobjcifaaGreatDoor

namespace Go.Proofs.YtclgkgaobjcifaaGreatDoor
open Go.RowKit Go.Extern.Stop Go.Stop Go.Extern
theorem ETy.ne {w : World} {b : Nat} {r : ByteArray} {t e : Int} (h : ETy w) (hR : Rdr w b r t e) : b ≠ 0 := by
  intro hb
  subst hb
  have h1 := hR.cells.1
  have h2 : w.cell? ⟨0, 0, none⟩ = _ := h
  rw [h1] at h2
  cases h2
/-- What is left, and how much was taken, behind a call of a Reader with which nothing was wrong before. -/
def rRest (r : ByteArray) (E : Int) (c : Nat) : ByteArray := if E = 0 then r.extract c r.size else ⟨#[]⟩
def rTak (t E : Int) (c : Nat) : Int := if E = 0 then t + (c : Int) else t
/-- Behind a call that answers v. -/
def RPost (b : Nat) (r : ByteArray) (t E : Int) (c : Nat) (v : Value) (w : World) (ev : Ending) (w' : World) : Prop :=
  ev = .returned v ∧ Rdr w' b (rRest r E c) (rTak t E c) E ∧ Only (fun k => k = b) w w'
/-- The two new variables of a face: the receiver's, and how much was taken before. -/
theorem face_start {w : World} {b : Nat} {r : ByteArray} {t e : Int} (h : Rdr w b r t e) (hg : ETy w) :
    Rdr ((w.alloc (Obj.cells #[.pointer (some ⟨b, 0, none⟩)] 76)).alloc (Obj.cells #[.int .i64 t] 3)) b r t e ∧ ETy ((w.alloc (Obj.cells #[.pointer (some ⟨b, 0, none⟩)] 76)).alloc (Obj.cells #[.int .i64 t] 3)) ∧
    Only (fun k => k = b) w ((w.alloc (Obj.cells #[.pointer (some ⟨b, 0, none⟩)] 76)).alloc (Obj.cells #[.int .i64 t] 3)) := by
  have h1 := ((Only.refl (fun _ => False) w).alloc (Obj.cells #[.pointer (some ⟨b, 0, none⟩)] 76)).alloc (Obj.cells #[.int .i64 t] 3)
  exact ⟨Blk.only h h1 (fun q => q), hg.only h1 (fun q => q), h1.mono (fun _ _ q => q.elim)⟩
theorem face_cells {w w2 : World} {b : Nat} {t : Int} (hb : b < w.heap.size) (hO : Only (fun k => k = b) ((w.alloc (Obj.cells #[.pointer (some ⟨b, 0, none⟩)] 76)).alloc (Obj.cells #[.int .i64 t] 3)) w2) :
    w2.cell? ⟨w.heap.size, 0, none⟩ = some (.pointer (some ⟨b, 0, none⟩)) ∧ w2.cell? ⟨w.heap.size + 1, 0, none⟩ = some (.int .i64 t) := by
  have h1 : Blk ((w.alloc (Obj.cells #[.pointer (some ⟨b, 0, none⟩)] 76)).alloc (Obj.cells #[.int .i64 t] 3)) w.heap.size #[.pointer (some ⟨b, 0, none⟩)] 76 := (Blk.new w _ _).alloc _
  have h2 : Blk ((w.alloc (Obj.cells #[.pointer (some ⟨b, 0, none⟩)] 76)).alloc (Obj.cells #[.int .i64 t] 3)) (w.heap.size + 1) #[.int .i64 t] 3 := by
    have := Blk.new (w.alloc (Obj.cells #[.pointer (some ⟨b, 0, none⟩)] 76)) 3 #[.int .i64 t]
    simpa using this
  have k1 := h1.only hO (by show ¬ w.heap.size = b; omega)
  have k2 := h2.only hO (by show ¬ w.heap.size + 1 = b; omega)
  exact ⟨by rw [k1.cell 0]; rfl, by rw [k2.cell 0]; rfl⟩
set_option maxRecDepth 100000 in
set_option maxHeartbeats 2000000 in
theorem rNum_wrong (w : World) (b : Nat) (r : ByteArray) (t e : Int) (h : Rdr w b r t e) (he : e ≠ 0) (bytes : Int) :
    Calls Tryz.prog 39 #[.pointer (some ⟨b, 0, none⟩), .int .i64 bytes] w fun ev w' => ev = .returned (.int .i64 0) ∧ Rdr w' b r t e ∧ Only (fun k => k = b) w w' := by
  obtain ⟨c0, c1, c2, f0, f1, f2⟩ := h.cells
  have HB := hide (show Rdr (w.alloc (Obj.cells #[.pointer (some ⟨b, 0, none⟩)] 76)) b r t e ∧ Only (fun k => k = b) w (w.alloc (Obj.cells #[.pointer (some ⟨b, 0, none⟩)] 76)) from ⟨Blk.alloc h _, (Only.refl _ w).alloc _⟩)
  have hlt : b < w.heap.size := Blk.lt h
  have hne : (e != 0) = true := by simp [he]
  clear h
  go_enter_defers Tryz.func39, Tryz.ntmps39
  go_wp2
  refine ⟨_, results_tmp rfl _ _ _, ?_⟩
  exact ⟨rfl, unhide HB⟩
set_option maxRecDepth 100000 in
set_option maxHeartbeats 2000000 in
theorem rRaw_wrong (w : World) (b : Nat) (r : ByteArray) (t e : Int) (h : Rdr w b r t e) (he : e ≠ 0) (n : Int) :
    Calls Tryz.prog 73 #[.pointer (some ⟨b, 0, none⟩), .int .i64 n] w fun ev w' => ev = .returned (.string ⟨#[]⟩) ∧ Rdr w' b r t e ∧ Only (fun k => k = b) w w' := by
  obtain ⟨c0, c1, c2, f0, f1, f2⟩ := h.cells
  have HB := hide (show Rdr (w.alloc (Obj.cells #[.pointer (some ⟨b, 0, none⟩)] 76)) b r t e ∧ Only (fun k => k = b) w (w.alloc (Obj.cells #[.pointer (some ⟨b, 0, none⟩)] 76)) from ⟨Blk.alloc h _, (Only.refl _ w).alloc _⟩)
  have hlt : b < w.heap.size := Blk.lt h
  have hne : (e != 0) = true := by simp [he]
  clear h
  go_enter_defers Tryz.func73, Tryz.ntmps73
  go_wp2
  refine ⟨_, results_tmp rfl _ _ _, ?_⟩
  exact ⟨rfl, unhide HB⟩
def numE (bytes : Int) (r : ByteArray) : Int := if bytes < 1 ∨ 8 < bytes then 1 else if (r.size : Int) < bytes then 31 else if 9223372036854775807 < beN ((nums r).take bytes.toNat) then 30 else 0
def numV (bytes : Int) (r : ByteArray) : Int := if numE bytes r = 0 then beN ((nums r).take bytes.toNat) else 0
set_option maxRecDepth 100000 in
set_option maxHeartbeats 2000000 in
theorem rnum_any (w : World) (b : Nat) (r : ByteArray) (t : Int) (h : Rdr w b r t 0) (hg : ETy w) (ht : 0 ≤ t) (hr : t + (r.size : Int) ≤ 9223372036854775807) (bytes : Int) :
    Calls Tryz.prog 39 #[.pointer (some ⟨b, 0, none⟩), .int .i64 bytes] w fun ev w' => RPost b r t (numE bytes r) (bytes.toNat) (.int .i64 (numV bytes r)) w ev w' := by
  have hmf : ∀ (fn : Fn) (first cap : Array Value) (w : World), (Instr.makeFunc fn first cap).run Tryz.prog w = .ok (.func fn first cap) w := fun _ _ _ _ => rfl
  obtain ⟨c0, c1, c2, f0, f1, f2⟩ := h.cells
  obtain ⟨hR1, hG1, hO1⟩ := face_start h hg
  have hlt : b < w.heap.size := Blk.lt h
  have hne := hg.ne h
  have HG1 := hide hG1
  have HO1 := hide hO1
  have HR1 := hide hR1
  have HW := hide (fun W => isWidth_any bytes W)
  by_cases hw : 1 ≤ bytes ∧ bytes ≤ 8
  · rw [decide_eq_true hw] at HW
    obtain ⟨k, rfl⟩ := Int.eq_ofNat_of_zero_le (show 0 ≤ bytes by omega)
    by_cases hs : (r.size : Int) < (k : Int)
    · have HN := hide (number_short _ b r t hR1 (k : Int) hs)
      have hE : numE (k : Int) r = 31 := by rw [numE, if_neg (by omega), if_pos hs]
      have hV : numV (k : Int) r = 0 := by rw [numV, if_neg (by rw [hE]; decide)]
      rw [hE, hV]
      have HX := hide (show (31 : Int) ≠ 0 by decide)
      clear h hg hR1 hG1 hO1 hE hV
      go_enter_defers Tryz.func39, Tryz.ntmps39
      go_wp2_with fail
      refine (unhide HW _).mono ?_
      rintro ev w1 ⟨rfl, rfl⟩
      go_wp2_with fail
      refine (unhide HN).mono ?_
      rintro ev wP ⟨rfl, hTh⟩
      have HTR := hide hTh.1
      have HTO := hide hTh.2
      clear hTh
      go_wp2
      obtain ⟨r', t', hTR⟩ := unhide HTR
      have hcp := face_cells (t := t) hlt (unhide HTO)
      have HC := hide (Num1_hit ⟨w.heap.size, 0, none⟩ ⟨w.heap.size + 1, 0, none⟩ b r' t' t 0 31 [] _ ((unhide HG1).only (unhide HTO) (fun q => hne q.symm)) hTR hcp.1 hcp.2)
      clear hTR hcp
      refine leaves_cons (f := 69) (args := #[.pointer (some ⟨w.heap.size, 0, none⟩), .pointer (some ⟨w.heap.size + 1, 0, none⟩)]) (by simp) (by simp [go_sem]) ?_
      refine (unhide HC).mono ?_
      rintro e u' wF ⟨rfl, rfl, hRF, hOF⟩
      have hF : RPost b r t 31 ((k : Int).toNat) (.int .i64 0) w (.returned (.int .i64 0)) wF := ⟨rfl, by rw [rRest, if_neg (unhide HX), rTak, if_neg (unhide HX)]; exact hRF, (unhide HO1).trans ((unhide HTO).trans hOF (fun _ _ q => q)) (fun _ _ q => q)⟩
      simp [Leaves, Go.settle, results, Tryz.results39, go_sem]
      exact hF
    · obtain ⟨Z, hZ⟩ : ∃ Z, Z = beN ((nums r).take k) := ⟨_, rfl⟩
      have HN := hide (number_any _ b r t hR1 k (by omega) (by omega) ht hr Z hZ)
      by_cases hZm : Z ≤ 9223372036854775807
      · have hE : numE (k : Int) r = 0 := by rw [numE, if_neg (by omega), if_neg hs, Int.toNat_natCast, ← hZ, if_neg (by omega)]
        have hV : numV (k : Int) r = Z := by rw [numV, if_pos hE, Int.toNat_natCast, ← hZ]
        rw [hE, hV, Int.toNat_natCast]
        clear h hg hR1 hG1 hO1 hE hV hZ
        go_enter_defers Tryz.func39, Tryz.ntmps39
        go_wp2_with fail
        refine (unhide HW _).mono ?_
        rintro ev w1 ⟨rfl, rfl⟩
        go_wp2_with fail
        refine (unhide HN).mono ?_
        rintro ev wP hTh
        obtain ⟨rfl, hTR, hTO⟩ := hTh.1 hZm
        have HTR := hide hTR
        have HTO := hide hTO
        clear hTR hTO hTh
        go_wp2
        have hcp := face_cells (t := t) hlt (unhide HTO)
        have HC := hide (Num1_idle ⟨w.heap.size, 0, none⟩ ⟨w.heap.size + 1, 0, none⟩ b t _ hcp.1 hcp.2)
        clear hcp
        refine leaves_cons (f := 69) (args := #[.pointer (some ⟨w.heap.size, 0, none⟩), .pointer (some ⟨w.heap.size + 1, 0, none⟩)]) (by simp) (by simp [go_sem]) ?_
        refine (unhide HC).mono ?_
        rintro e u' wF ⟨rfl, rfl, rfl⟩
        have hF : RPost b r t 0 (k) (.int .i64 Z) w (.returned (.int .i64 Z)) (World.drew _) := ⟨rfl, by rw [rRest, if_pos rfl, rTak, if_pos rfl]; exact unhide HTR, (unhide HO1).trans ((unhide HTO).drew) (fun _ _ q => q)⟩
        refine ⟨_, results_tmp rfl _ _ _, ?_⟩
        exact hF
      · have hE : numE (k : Int) r = 30 := by rw [numE, if_neg (by omega), if_neg hs, Int.toNat_natCast, ← hZ, if_pos (by omega)]
        have hV : numV (k : Int) r = 0 := by rw [numV, if_neg (by rw [hE]; decide)]
        rw [hE, hV, Int.toNat_natCast]
        have HX := hide (show (30 : Int) ≠ 0 by decide)
        clear h hg hR1 hG1 hO1 hE hV hZ
        go_enter_defers Tryz.func39, Tryz.ntmps39
        go_wp2_with fail
        refine (unhide HW _).mono ?_
        rintro ev w1 ⟨rfl, rfl⟩
        go_wp2_with fail
        refine (unhide HN).mono ?_
        rintro ev wP hTh
        obtain ⟨rfl, hTT⟩ := hTh.2 (by omega)
        have HTR := hide hTT.1
        have HTO := hide hTT.2
        clear hTT hTh
        go_wp2
        obtain ⟨r', t', hTR⟩ := unhide HTR
        have hcp := face_cells (t := t) hlt (unhide HTO)
        have HC := hide (Num1_hit ⟨w.heap.size, 0, none⟩ ⟨w.heap.size + 1, 0, none⟩ b r' t' t 0 30 [] _ ((unhide HG1).only (unhide HTO) (fun q => hne q.symm)) hTR hcp.1 hcp.2)
        clear hTR hcp
        refine leaves_cons (f := 69) (args := #[.pointer (some ⟨w.heap.size, 0, none⟩), .pointer (some ⟨w.heap.size + 1, 0, none⟩)]) (by simp) (by simp [go_sem]) ?_
        refine (unhide HC).mono ?_
        rintro e u' wF ⟨rfl, rfl, hRF, hOF⟩
        have hF : RPost b r t 30 (k) (.int .i64 0) w (.returned (.int .i64 0)) wF := ⟨rfl, by rw [rRest, if_neg (unhide HX), rTak, if_neg (unhide HX)]; exact hRF, (unhide HO1).trans ((unhide HTO).trans hOF (fun _ _ q => q)) (fun _ _ q => q)⟩
        simp [Leaves, Go.settle, results, Tryz.results39, go_sem]
        exact hF
  · rw [decide_eq_false hw] at HW
    have hE : numE bytes r = 1 := by rw [numE, if_pos (by omega)]
    have hV : numV bytes r = 0 := by rw [numV, if_neg (by rw [hE]; decide)]
    rw [hE, hV]
    have HX := hide (show (1 : Int) ≠ 0 by decide)
    have HTR := hide (⟨r, t, hR1⟩ : ∃ r' t', Rdr _ b r' t' 0)
    have HTO := hide (Only.refl (fun k => k = b) ((w.alloc (Obj.cells #[.pointer (some ⟨b, 0, none⟩)] 76)).alloc (Obj.cells #[.int .i64 t] 3)))
    clear h hg hR1 hG1 hO1 hE hV
    go_enter_defers Tryz.func39, Tryz.ntmps39
    go_wp2_with (go_at_call 57; refine (unhide HW _).mono ?_; rintro ev w1 ⟨rfl, rfl⟩)
    obtain ⟨r', t', hTR⟩ := unhide HTR
    have hcp := face_cells (t := t) hlt (unhide HTO)
    have HC := hide (Num1_hit ⟨w.heap.size, 0, none⟩ ⟨w.heap.size + 1, 0, none⟩ b r' t' t 0 1 [] _ ((unhide HG1).only (unhide HTO) (fun q => hne q.symm)) hTR hcp.1 hcp.2)
    clear hTR hcp
    refine leaves_cons (f := 69) (args := #[.pointer (some ⟨w.heap.size, 0, none⟩), .pointer (some ⟨w.heap.size + 1, 0, none⟩)]) (by simp) (by simp [go_sem]) ?_
    refine (unhide HC).mono ?_
    rintro e u' wF ⟨rfl, rfl, hRF, hOF⟩
    have hF : RPost b r t 1 (bytes.toNat) (.int .i64 0) w (.returned (.int .i64 0)) wF := ⟨rfl, by rw [rRest, if_neg (unhide HX), rTak, if_neg (unhide HX)]; exact hRF, (unhide HO1).trans ((unhide HTO).trans hOF (fun _ _ q => q)) (fun _ _ q => q)⟩
    simp [Leaves, Go.settle, results, Tryz.results39, go_sem]
    exact hF
def rawE (n : Int) (r : ByteArray) : Int := if n < 0 then 1 else if (r.size : Int) < n then 31 else 0
def rawV (n : Int) (r : ByteArray) : ByteArray := if rawE n r = 0 then r.extract 0 n.toNat else ⟨#[]⟩
set_option maxRecDepth 100000 in
set_option maxHeartbeats 2000000 in
theorem rraw_any (w : World) (b : Nat) (r : ByteArray) (t : Int) (h : Rdr w b r t 0) (hg : ETy w) (ht : 0 ≤ t) (hr : t + (r.size : Int) ≤ 9223372036854775807) (n : Int) :
    Calls Tryz.prog 73 #[.pointer (some ⟨b, 0, none⟩), .int .i64 n] w fun ev w' => RPost b r t (rawE n r) (n.toNat) (.string (rawV n r)) w ev w' := by
  have hmf : ∀ (fn : Fn) (first cap : Array Value) (w : World), (Instr.makeFunc fn first cap).run Tryz.prog w = .ok (.func fn first cap) w := fun _ _ _ _ => rfl
  obtain ⟨c0, c1, c2, f0, f1, f2⟩ := h.cells
  obtain ⟨hR1, hG1, hO1⟩ := face_start h hg
  have hlt : b < w.heap.size := Blk.lt h
  have hne := hg.ne h
  have HG1 := hide hG1
  have HO1 := hide hO1
  have HR1 := hide hR1
  by_cases h0 : n < 0
  · have hE : rawE n r = 1 := by rw [rawE, if_pos h0]
    have hV : rawV n r = ⟨#[]⟩ := by rw [rawV, if_neg (by rw [hE]; decide)]
    rw [hE, hV]
    have HX := hide (show (1 : Int) ≠ 0 by decide)
    have HTR := hide (⟨r, t, hR1⟩ : ∃ r' t', Rdr _ b r' t' 0)
    have HTO := hide (Only.refl (fun k => k = b) ((w.alloc (Obj.cells #[.pointer (some ⟨b, 0, none⟩)] 76)).alloc (Obj.cells #[.int .i64 t] 3)))
    clear h hg hR1 hG1 hO1 hE hV
    go_enter_defers Tryz.func73, Tryz.ntmps73
    go_wp2
    obtain ⟨r', t', hTR⟩ := unhide HTR
    have hcp := face_cells (t := t) hlt (unhide HTO)
    have HC := hide (Raw1_hit ⟨w.heap.size, 0, none⟩ ⟨w.heap.size + 1, 0, none⟩ b r' t' t 0 1 [] _ ((unhide HG1).only (unhide HTO) (fun q => hne q.symm)) hTR hcp.1 hcp.2)
    clear hTR hcp
    refine leaves_cons (f := 90) (args := #[.pointer (some ⟨w.heap.size, 0, none⟩), .pointer (some ⟨w.heap.size + 1, 0, none⟩)]) (by simp) (by simp [go_sem]) ?_
    refine (unhide HC).mono ?_
    rintro e u' wF ⟨rfl, rfl, hRF, hOF⟩
    have hF : RPost b r t 1 (n.toNat) (.string ⟨#[]⟩) w (.returned (.string ⟨#[]⟩)) wF := ⟨rfl, by rw [rRest, if_neg (unhide HX), rTak, if_neg (unhide HX)]; exact hRF, (unhide HO1).trans ((unhide HTO).trans hOF (fun _ _ q => q)) (fun _ _ q => q)⟩
    simp [Leaves, Go.settle, results, Tryz.results73, go_sem]
    exact hF
  · by_cases hs : (r.size : Int) < n
    · have hE : rawE n r = 31 := by rw [rawE, if_neg h0, if_pos hs]
      have hV : rawV n r = ⟨#[]⟩ := by rw [rawV, if_neg (by rw [hE]; decide)]
      rw [hE, hV]
      have HX := hide (show (31 : Int) ≠ 0 by decide)
      have HN := hide (take_short _ b r t hR1 n hs)
      clear h hg hR1 hG1 hO1 hE hV
      go_enter_defers Tryz.func73, Tryz.ntmps73
      go_wp2_with fail
      refine (unhide HN).mono ?_
      rintro ev wP ⟨rfl, hTh⟩
      have HTR := hide hTh.1
      have HTO := hide hTh.2
      clear hTh
      go_wp2
      obtain ⟨r', t', hTR⟩ := unhide HTR
      have hcp := face_cells (t := t) hlt (unhide HTO)
      have HC := hide (Raw1_hit ⟨w.heap.size, 0, none⟩ ⟨w.heap.size + 1, 0, none⟩ b r' t' t 0 31 [] _ ((unhide HG1).only (unhide HTO) (fun q => hne q.symm)) hTR hcp.1 hcp.2)
      clear hTR hcp
      refine leaves_cons (f := 90) (args := #[.pointer (some ⟨w.heap.size, 0, none⟩), .pointer (some ⟨w.heap.size + 1, 0, none⟩)]) (by simp) (by simp [go_sem]) ?_
      refine (unhide HC).mono ?_
      rintro e u' wF ⟨rfl, rfl, hRF, hOF⟩
      have hF : RPost b r t 31 (n.toNat) (.string ⟨#[]⟩) w (.returned (.string ⟨#[]⟩)) wF := ⟨rfl, by rw [rRest, if_neg (unhide HX), rTak, if_neg (unhide HX)]; exact hRF, (unhide HO1).trans ((unhide HTO).trans hOF (fun _ _ q => q)) (fun _ _ q => q)⟩
      simp [Leaves, Go.settle, results, Tryz.results73, go_sem]
      exact hF
    · obtain ⟨k, rfl⟩ := Int.eq_ofNat_of_zero_le (show 0 ≤ n by omega)
      have hE : rawE (k : Int) r = 0 := by rw [rawE, if_neg h0, if_neg hs]
      have hV : rawV (k : Int) r = r.extract 0 k := by rw [rawV, if_pos hE, Int.toNat_natCast]
      rw [hE, hV, Int.toNat_natCast]
      have HN := hide (take_ok _ b r t 0 hR1 k (by omega) ht hr)
      clear h hg hR1 hG1 hO1 hE hV
      go_enter_defers Tryz.func73, Tryz.ntmps73
      go_wp2_with fail
      refine (unhide HN).mono ?_
      rintro ev wP ⟨rfl, hTR, hTO⟩
      have HTR := hide hTR
      have HTO := hide hTO
      clear hTR hTO
      go_wp2
      have hcp := face_cells (t := t) hlt (unhide HTO)
      have HC := hide (Raw1_idle ⟨w.heap.size, 0, none⟩ ⟨w.heap.size + 1, 0, none⟩ b t _ hcp.1 hcp.2)
      clear hcp
      refine leaves_cons (f := 90) (args := #[.pointer (some ⟨w.heap.size, 0, none⟩), .pointer (some ⟨w.heap.size + 1, 0, none⟩)]) (by simp) (by simp [go_sem]) ?_
      refine (unhide HC).mono ?_
      rintro e u' wF ⟨rfl, rfl, rfl⟩
      have hF : RPost b r t 0 (k) (.string (r.extract 0 k)) w (.returned (.string (r.extract 0 k))) (World.drew _) := ⟨rfl, by rw [rRest, if_pos rfl, rTak, if_pos rfl]; exact unhide HTR, (unhide HO1).trans ((unhide HTO).drew) (fun _ _ q => q)⟩
      refine ⟨_, results_tmp rfl _ _ _, ?_⟩
      exact hF
theorem extract_mid (s : ByteArray) (a b : Nat) : (s.extract a s.size).extract 0 b = s.extract a (a + b) := by
  apply nums_inj
  rw [nums_extract, nums_tail, nums_extract, List.drop_zero, List.drop_take]
  congr 1
  omega
end Go.Proofs.YtclgkgaobjcifaaGreatDoor

namespace Go.Proofs.YtclgkgaobjcifaaGreatDoor
open Go.RowKit
set_option maxRecDepth 100000 in
set_option maxHeartbeats 400000 in
theorem newReader_any (s : ByteArray) (w : World) :
    Calls Tryz.prog 38 #[.string s] w fun e w' => e = .returned (.pointer (some ⟨w.heap.size, 0, none⟩)) ∧ Rdr w' w.heap.size s 0 0 ∧ Below w.heap.size w w' ∧ w'.heap.size = w.heap.size + 1 := by
  go_enter Tryz.func38, Tryz.ntmps38
  go_wp2
  go_ret
  exact ⟨rfl, Blk.new _ _ _, (Below.refl _ _).alloc (Nat.le_refl _) _, by simp⟩
end Go.Proofs.YtclgkgaobjcifaaGreatDoor

namespace Go.Proofs.YtclgkgaobjcifaaGreatDoor
open Go.RowKit
/-- A Reader's state: what is left, how much was taken, what was wrong first. -/
structure RSt where
  r : ByteArray
  t : Int
  e : Int
def stepR (s : RSt) (E : Int) (c : Nat) : RSt := if s.e = 0 then ⟨rRest s.r E c, rTak s.t E c, E⟩ else s
def Rds (w : World) (b : Nat) (s : RSt) : Prop := Rdr w b s.r s.t s.e
def RSt.ok (s : RSt) (N : Nat) : Prop := 0 ≤ s.t ∧ s.t + (s.r.size : Int) ≤ (N : Int)
theorem numS (w : World) (b : Nat) (s : RSt) (h : Rds w b s) (hg : ETy w) (hN : s.ok 9223372036854775807) (bytes : Int) :
    Calls Tryz.prog 39 #[.pointer (some ⟨b, 0, none⟩), .int .i64 bytes] w fun ev w' => ev = .returned (.int .i64 (if s.e = 0 then numV bytes s.r else 0)) ∧ Rds w' b (stepR s (numE bytes s.r) (bytes.toNat)) ∧ Only (fun k => k = b) w w' := by
  by_cases he : s.e = 0
  · have h' : Rdr w b s.r s.t 0 := by rw [← he]; exact h
    refine (rnum_any w b s.r s.t h' hg hN.1 hN.2 bytes).mono ?_
    rintro ev w' ⟨rfl, hR, hO⟩
    refine ⟨by rw [if_pos he], ?_, hO⟩
    unfold Rds stepR
    rw [if_pos he]
    exact hR
  · refine (rNum_wrong w b s.r s.t s.e h he bytes).mono ?_
    rintro ev w' ⟨rfl, hR, hO⟩
    refine ⟨by rw [if_neg he], ?_, hO⟩
    unfold Rds stepR
    rw [if_neg he]
    exact hR
theorem rawS (w : World) (b : Nat) (s : RSt) (h : Rds w b s) (hg : ETy w) (hN : s.ok 9223372036854775807) (n : Int) :
    Calls Tryz.prog 73 #[.pointer (some ⟨b, 0, none⟩), .int .i64 n] w fun ev w' => ev = .returned (.string (if s.e = 0 then rawV n s.r else ⟨#[]⟩)) ∧ Rds w' b (stepR s (rawE n s.r) (n.toNat)) ∧ Only (fun k => k = b) w w' := by
  by_cases he : s.e = 0
  · have h' : Rdr w b s.r s.t 0 := by rw [← he]; exact h
    refine (rraw_any w b s.r s.t h' hg hN.1 hN.2 n).mono ?_
    rintro ev w' ⟨rfl, hR, hO⟩
    refine ⟨by rw [if_pos he], ?_, hO⟩
    unfold Rds stepR
    rw [if_pos he]
    exact hR
  · refine (rRaw_wrong w b s.r s.t s.e h he n).mono ?_
    rintro ev w' ⟨rfl, hR, hO⟩
    refine ⟨by rw [if_neg he], ?_, hO⟩
    unfold Rds stepR
    rw [if_neg he]
    exact hR
theorem Rds.only {w w' : World} {b : Nat} {s : RSt} {P : Nat → Prop} (h : Rds w b s) (ho : Only P w w') (hp : ¬ P b) : Rds w' b s := Blk.only h ho hp
theorem Rds.ne {w : World} {b : Nat} {s : RSt} (h : Rds w b s) (hg : ETy w) : b ≠ 0 := hg.ne h
end Go.Proofs.YtclgkgaobjcifaaGreatDoor

namespace Go.Proofs.YtclgkgaobjcifaaGreatDoor
open Go.RowKit
set_option maxRecDepth 100000
/-- a Reader of s that stands at place i -/
def At (w : World) (b : Nat) (s : ByteArray) (i : Nat) : Prop := Rds w b ⟨s.extract i s.size, (i : Int), 0⟩
theorem At.only {w w' : World} {b : Nat} {s : ByteArray} {i : Nat} {P : Nat → Prop} (h : At w b s i) (ho : Only P w w') (hp : ¬ P b) : At w' b s i := Rds.only h ho hp
theorem At.below {w w' : World} {b B : Nat} {s : ByteArray} {i : Nat} (h : At w b s i) (hb : Below B w w') (hB : b < B) : At w' b s i := Blk.below h hb hB
theorem At.lt {w : World} {b : Nat} {s : ByteArray} {i : Nat} (h : At w b s i) : b < w.heap.size := Blk.lt h
theorem numA (w : World) (b : Nat) (s : ByteArray) (i k : Nat) (h : At w b s i) (hg : ETy w) (hs : s.size ≤ 150000000000000) (h1 : 1 ≤ k) (h7 : k ≤ 4) (hk : i + k ≤ s.size) :
    Calls Tryz.prog 39 #[.pointer (some ⟨b, 0, none⟩), .int .i64 (k : Int)] w fun e w' => e = .returned (.int .i64 (beN (((nums s).drop i).take k))) ∧ At w' b s (i + k) ∧ Only (fun j => j = b) w w' := by
  have hsz : (s.extract i s.size).size = s.size - i := by simp
  have hn : (nums (s.extract i s.size)).take k = ((nums s).drop i).take k := by rw [nums_tail]
  have hbd := (be_bound (((nums s).drop i).take k) (by
    intro j
    have hq := nums_bytes s
    simp only [List.getD_eq_getElem?_getD, List.getElem?_take, List.getElem?_drop]
    split
    · have := hq (i + j); simpa [List.getD_eq_getElem?_getD] using this
    · simp) k).2
  rw [List.take_take, Nat.min_self] at hbd
  have hp : (256 : Int) ^ k ≤ 256 ^ 4 := by
    have := Nat.pow_le_pow_right (show 0 < 256 by decide) h7
    exact_mod_cast this
  have hE : numE (k : Int) (s.extract i s.size) = 0 := by
    rw [numE, if_neg (by omega), if_neg (by omega), if_neg]
    rw [Int.toNat_natCast, hn]
    omega
  refine (numS w b _ h hg ⟨by simp, by simp only [hsz]; omega⟩ (k : Int)).mono ?_
  rintro e w' ⟨rfl, hR, hO⟩
  refine ⟨?_, ?_, hO⟩
  · simp only [if_true]
    rw [numV, if_pos hE, Int.toNat_natCast, hn]
  · unfold At
    rw [hE] at hR
    simp only [stepR, if_true, rRest, rTak, Int.toNat_natCast] at hR
    rw [extract_tail] at hR
    have e : ((i : Int) + (k : Int)) = ((i + k : Nat) : Int) := by omega
    rw [e] at hR
    exact hR
theorem rawA (w : World) (b : Nat) (s : ByteArray) (i k : Nat) (h : At w b s i) (hg : ETy w) (hs : s.size ≤ 150000000000000) (hk : i + k ≤ s.size) :
    Calls Tryz.prog 73 #[.pointer (some ⟨b, 0, none⟩), .int .i64 (k : Int)] w fun e w' => e = .returned (.string (s.extract i (i + k))) ∧ At w' b s (i + k) ∧ Only (fun j => j = b) w w' := by
  have hsz : (s.extract i s.size).size = s.size - i := by simp
  have hE : rawE (k : Int) (s.extract i s.size) = 0 := by
    rw [rawE, if_neg (by omega), if_neg (by omega)]
  refine (rawS w b _ h hg ⟨by simp, by simp only [hsz]; omega⟩ (k : Int)).mono ?_
  rintro e w' ⟨rfl, hR, hO⟩
  refine ⟨?_, ?_, hO⟩
  · simp only [if_true]
    rw [rawV, if_pos hE, Int.toNat_natCast, extract_mid]
  · unfold At
    rw [hE] at hR
    simp only [stepR, if_true, rRest, rTak, Int.toNat_natCast] at hR
    rw [extract_tail] at hR
    have e : ((i : Int) + (k : Int)) = ((i + k : Nat) : Int) := by omega
    rw [e] at hR
    exact hR
theorem built_num (n : Int) : Tryz.prog.built 103 [(0, .int .i64 n)] = some (Prt.num n).cs := by kernel_rfl
theorem built_txt (t : ByteArray) : Tryz.prog.built 103 [(1, .string t)] = some (Prt.txt t).cs := by kernel_rfl
set_option maxHeartbeats 2000000 in
theorem ttake_any (bb : Nat) (w : World) (b : Nat) (s : ByteArray) (i : Nat) (hA : At w b s i) (hg : ETy w) (hs : s.size ≤ 150000000000000) (hk : i + bb ≤ s.size) :
    Calls Tryz.prog 136 #[.agg #[.int .i64 (bb : Int)], .pointer (some ⟨b, 0, none⟩)] w fun e w' => e = .returned (.tuple #[.agg (Prt.txt (s.extract i (i + bb))).cs, .bool true]) ∧ At w' b s (i + bb) ∧ Only (fun j => j = b) w w' := by
  obtain ⟨B1, B2, hbl, hs2⟩ := two_boxes w #[.int .i64 (bb : Int)] #[.int .i64 0, .string ⟨#[]⟩, .slice none 0 0] 128 103
  obtain ⟨g, hgg⟩ : ∃ g, w.heap.size = g := ⟨_, rfl⟩
  obtain ⟨y, hy⟩ : ∃ Z, (w.alloc (.cells #[.int .i64 (bb : Int)] 128)).alloc (.cells #[.int .i64 0, .string ⟨#[]⟩, .slice none 0 0] 103) = Z := ⟨_, rfl⟩
  rw [hgg] at B1 B2 hs2 hbl
  rw [hy] at B1 B2 hbl hs2
  have hbg : b < g := by rw [← hgg]; exact hA.lt
  have HR := hide (rawA y b s i bb (hA.below hbl hbg) (hg.below hbl (by rw [← hgg]; exact hg.lt)) hs hk)
  have a0 : y.cell? ⟨g, 0, none⟩ = some (.int .i64 (bb : Int)) := by rw [B1.cell]; rfl
  have HY := hide (And.intro B2 hbl)
  have HB := hide (built_txt (s.extract i (i + bb)))
  have HO := hide (Prt.one (Prt.txt (s.extract i (i + bb))))
  clear B1 B2 hbl hs2 hA hg
  obtain ⟨tx, htx⟩ : ∃ Z, s.extract i (i + bb) = Z := ⟨_, rfl⟩
  rw [htx] at HR HB HO ⊢
  clear htx
  go_enter Tryz.func136, Tryz.ntmps136
  go_wp2_with fail
  refine (unhide HR).mono ?_
  rintro e x ⟨rfl, hAx, hOx⟩
  obtain ⟨B2, hbl⟩ := unhide HY
  have C2 := B2.only hOx (by omega)
  have BT := blk_setRow (cells := (Prt.txt tx).cs) C2
  have HL := hide (iload_blk 103 _ BT Tryz.underlying103 rfl size_prt)
  have HZ := hide C2
  have HF := hide (show At (x.setRow (g + 1) (Prt.txt tx).cs) b s (i + bb) ∧ Only (fun j => j = b) w (x.setRow (g + 1) (Prt.txt tx).cs) from
    ⟨hAx.only (only_setRow (P := fun j => j = g + 1) (g + 1) _ rfl) (by omega), by
      have o1 : Only (fun j => j = b) w y := Only.of_below (by rw [hgg]; exact hbl)
      exact (o1.trans hOx (fun _ _ q => q)).trans (only_setRow (P := fun j => j = g + 1) (g + 1) _ rfl) (fun k hk q => by omega)⟩)
  clear B2 hbl C2 BT hAx hOx a0 hy HR HY
  go_wp2_with (first | refine wpList_buildAs rfl 103 #[(1, .tmp 9)] rfl _ rfl (Prt.txt tx).cs (unhide HB) ?_ | refine wpList_store_row rfl 103 (.tmp 4) (.tmp 10) rfl (g + 1) (Prt.txt tx).cs rfl rfl 103 #[.int .i64 0, .string ⟨#[]⟩, .slice none 0 0] (unhide HZ) size_prt rfl (unhide HO) ?_)
  (try simp only [Exit.inBlock, Exit.then])
  refine bodyPost_ret (v := .tuple #[.agg (Prt.txt tx).cs, .bool true]) (results_cell2 (p := 4) (q := 5) (ty := 103) rfl _ _ _ ⟨g + 1, 0, none⟩ rfl _ (unhide HL)) rfl ?_
  exact ⟨rfl, unhide HF⟩
set_option maxHeartbeats 2000000 in
theorem ntake_any (bb lo hi : Nat) (h1 : 1 ≤ bb) (h4 : bb ≤ 4) (w : World) (b : Nat) (s : ByteArray) (i : Nat) (hA : At w b s i) (hg : ETy w) (hs : s.size ≤ 150000000000000) (hk : i + bb ≤ s.size) (n : Int) (hn : beN (((nums s).drop i).take bb) = n) :
    Calls Tryz.prog 132 #[.agg #[.int .i64 (bb : Int), .int .i64 (lo : Int), .int .i64 (hi : Int)], .pointer (some ⟨b, 0, none⟩)] w fun e w' => e = .returned (.tuple #[.agg (Prt.num n).cs, .bool (decide ((lo : Int) ≤ n ∧ n ≤ (hi : Int)))]) ∧ At w' b s (i + bb) ∧ Only (fun j => j = b) w w' := by
  obtain ⟨B1, B2, hbl, hs2⟩ := two_boxes w #[.int .i64 (bb : Int), .int .i64 (lo : Int), .int .i64 (hi : Int)] #[.int .i64 0, .string ⟨#[]⟩, .slice none 0 0] 119 103
  obtain ⟨g, hgg⟩ : ∃ g, w.heap.size = g := ⟨_, rfl⟩
  obtain ⟨y, hy⟩ : ∃ Z, (w.alloc (.cells #[.int .i64 (bb : Int), .int .i64 (lo : Int), .int .i64 (hi : Int)] 119)).alloc (.cells #[.int .i64 0, .string ⟨#[]⟩, .slice none 0 0] 103) = Z := ⟨_, rfl⟩
  rw [hgg] at B1 B2 hs2 hbl
  rw [hy] at B1 B2 hbl hs2
  have hbg : b < g := by rw [← hgg]; exact hA.lt
  have hR := numA y b s i bb (hA.below hbl hbg) (hg.below hbl (by rw [← hgg]; exact hg.lt)) hs h1 h4 hk
  rw [hn] at hR
  have HR := hide hR
  have a0 : y.cell? ⟨g, 0, none⟩ = some (.int .i64 (bb : Int)) := by rw [B1.cell]; rfl
  have HY := hide (And.intro B1 (And.intro B2 (And.intro hbl hs2)))
  have HB := hide (built_num n)
  have HO := hide (Prt.one (Prt.num n))
  have HM := hide (mayBe_any (bb : Int) (lo : Int) (hi : Int) n)
  clear B1 B2 hbl hs2 hA hg hR hn
  generalize decide ((lo : Int) ≤ n ∧ n ≤ (hi : Int)) = D at *
  go_enter Tryz.func132, Tryz.ntmps132
  go_wp2_with fail
  refine (unhide HR).mono ?_
  rintro e x ⟨rfl, hAx, hOx⟩
  obtain ⟨B1, B2, hbl, hs2⟩ := unhide HY
  have C1 := B1.only hOx (by omega)
  have C2 := B2.only hOx (by omega)
  have c0 : x.cell? ⟨g, 0, none⟩ = some (.int .i64 (bb : Int)) := by rw [C1.cell]; rfl
  have c1 : x.cell? ⟨g, 1, none⟩ = some (.int .i64 (lo : Int)) := by rw [C1.cell]; rfl
  have c2 : x.cell? ⟨g, 2, none⟩ = some (.int .i64 (hi : Int)) := by rw [C1.cell]; rfl
  have HX := hide (And.intro C2 (And.intro hAx (show Only (fun j => j = b) w x from (Only.of_below (P := fun j => j = b) (by rw [hgg]; exact hbl)).trans hOx (fun _ _ q => q))))
  have hgx : g + 1 < x.heap.size := C2.lt
  clear B1 B2 hbl hs2 C1 C2 hAx hOx a0 hy HR HY
  go_wp2_with (refine wpList_buildAs rfl 103 #[(0, .tmp 11)] rfl _ rfl (Prt.num n).cs (unhide HB) ?_)
  refine (unhide HM _).mono ?_
  rintro e z ⟨rfl, hz⟩
  obtain ⟨C2, hAx, hOx⟩ := unhide HX
  have D2 := C2.below hz C2.lt
  have BT := blk_setRow (cells := (Prt.num n).cs) D2
  have HL := hide (iload_blk 103 _ BT Tryz.underlying103 rfl size_prt)
  have HZ := hide D2
  have HF := hide (show At (z.setRow (g + 1) (Prt.num n).cs) b s (i + bb) ∧ Only (fun j => j = b) w (z.setRow (g + 1) (Prt.num n).cs) from
    ⟨(hAx.below hz hAx.lt).only (only_setRow (P := fun j => j = g + 1) (g + 1) _ rfl) (by omega),
      (hOx.trans (Only.of_below (P := fun _ => False) hz) (fun _ _ q => q.elim)).trans (only_setRow (P := fun j => j = g + 1) (g + 1) _ rfl) (fun k hk q => by omega)⟩)
  clear C2 D2 BT hAx hOx hz c0 c1 c2 HX
  go_wp2_with (refine wpList_store_row rfl 103 (.tmp 4) (.tmp 12) rfl (g + 1) (Prt.num n).cs rfl rfl 103 #[.int .i64 0, .string ⟨#[]⟩, .slice none 0 0] (unhide HZ) size_prt rfl (unhide HO) ?_)
  (try simp only [Exit.inBlock, Exit.then])
  refine bodyPost_ret (v := .tuple #[.agg (Prt.num n).cs, .bool D]) (results_cell2 (p := 4) (q := 5) (ty := 103) rfl _ _ _ ⟨g + 1, 0, none⟩ rfl _ (unhide HL)) rfl ?_
  exact ⟨rfl, unhide HF⟩
end Go.Proofs.YtclgkgaobjcifaaGreatDoor

namespace Go.Proofs.YtclgkgaobjcifaaGreatDoor
open Go.RowKit
set_option maxRecDepth 100000
theorem At.set {w : World} {b g : Nat} {s : ByteArray} {i : Nat} {cells : Array Value} (h : At w b s i) (hb : b ≠ g) : At (w.setRow g cells) b s i := h.only (only_setRow (P := fun j => j = g) g cells rfl) hb
theorem At.alloc {w : World} {b : Nat} {s : ByteArray} {i : Nat} (h : At w b s i) (ob : Obj) : At (w.alloc ob) b s i := Blk.alloc h ob
/-- a field taken off a frame: what it is, whether it may be, as the interface's method answers -/
theorem szF_drop (fs : List Fld) (k : Nat) (hk : k < fs.length) : szF (fs.drop k) = (fs[k]).b + szF (fs.drop (k + 1)) := by
  rw [← List.getElem_cons_drop hk]
  rfl
end Go.Proofs.YtclgkgaobjcifaaGreatDoor
