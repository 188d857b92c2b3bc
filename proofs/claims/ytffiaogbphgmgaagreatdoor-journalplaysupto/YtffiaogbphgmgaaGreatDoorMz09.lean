import Derived.Test.YtffiaogbphgmgaaGreatDoorMz08
import Derived.BigQuiet
namespace Go.Proofs.YtffiaogbphgmgaaGreatDoor
open Go.RowKit Go.Extern.Stop Go.Stop Go.Extern
theorem ETy.ne {w : World} {b : Nat} {r : ByteArray} {t e : Int} (h : ETy w) (hR : Rdr w b r t e) : b ≠ 1 := by
  intro hb
  subst hb
  have h1 := hR.cells.1
  have h2 : w.cell? ⟨1, 0, none⟩ = _ := h
  rw [h1] at h2
  cases h2
/-- What is left, and how much was taken, behind a call of a Reader with which nothing was wrong before. -/
def rRest (r : ByteArray) (E : Int) (c : Nat) : ByteArray := if E = 0 then r.extract c r.size else ⟨#[]⟩
def rTak (t E : Int) (c : Nat) : Int := if E = 0 then t + (c : Int) else t
/-- Behind a call that answers v. -/
def RPost (b : Nat) (r : ByteArray) (t E : Int) (c : Nat) (v : Value) (w : World) (ev : Ending) (w' : World) : Prop :=
  ev = .returned v ∧ Rdr w' b (rRest r E c) (rTak t E c) E ∧ Only (fun k => k = b) w w'
/-- The two new variables of a face: the receiver's, and how much was taken before. -/
theorem face_start {w : World} {b : Nat} {r : ByteArray} {t e : Int} (h : Rdr w b r t e) (hg : ETy w) :
    Rdr ((w.alloc (Obj.cells #[.pointer (some ⟨b, 0, none⟩)] 156)).alloc (Obj.cells #[.int .i64 t] 3)) b r t e ∧ ETy ((w.alloc (Obj.cells #[.pointer (some ⟨b, 0, none⟩)] 156)).alloc (Obj.cells #[.int .i64 t] 3)) ∧
    Only (fun k => k = b) w ((w.alloc (Obj.cells #[.pointer (some ⟨b, 0, none⟩)] 156)).alloc (Obj.cells #[.int .i64 t] 3)) := by
  have h1 := ((Only.refl (fun _ => False) w).alloc (Obj.cells #[.pointer (some ⟨b, 0, none⟩)] 156)).alloc (Obj.cells #[.int .i64 t] 3)
  exact ⟨Blk.only h h1 (fun q => q), hg.only h1 (fun q => q), h1.mono (fun _ _ q => q.elim)⟩
theorem face_cells {w w2 : World} {b : Nat} {t : Int} (hb : b < w.heap.size) (hO : Only (fun k => k = b) ((w.alloc (Obj.cells #[.pointer (some ⟨b, 0, none⟩)] 156)).alloc (Obj.cells #[.int .i64 t] 3)) w2) :
    w2.cell? ⟨w.heap.size, 0, none⟩ = some (.pointer (some ⟨b, 0, none⟩)) ∧ w2.cell? ⟨w.heap.size + 1, 0, none⟩ = some (.int .i64 t) := by
  have h1 : Blk ((w.alloc (Obj.cells #[.pointer (some ⟨b, 0, none⟩)] 156)).alloc (Obj.cells #[.int .i64 t] 3)) w.heap.size #[.pointer (some ⟨b, 0, none⟩)] 156 := (Blk.new w _ _).alloc _
  have h2 : Blk ((w.alloc (Obj.cells #[.pointer (some ⟨b, 0, none⟩)] 156)).alloc (Obj.cells #[.int .i64 t] 3)) (w.heap.size + 1) #[.int .i64 t] 3 := by
    have := Blk.new (w.alloc (Obj.cells #[.pointer (some ⟨b, 0, none⟩)] 156)) 3 #[.int .i64 t]
    simpa using this
  have k1 := h1.only hO (by show ¬ w.heap.size = b; omega)
  have k2 := h2.only hO (by show ¬ w.heap.size + 1 = b; omega)
  exact ⟨by rw [k1.cell 0]; rfl, by rw [k2.cell 0]; rfl⟩
set_option maxRecDepth 100000 in
set_option maxHeartbeats 2000000 in
theorem rNum_wrong (w : World) (b : Nat) (r : ByteArray) (t e : Int) (h : Rdr w b r t e) (he : e ≠ 0) (bytes : Int) :
    Calls Tryz.prog 104 #[.pointer (some ⟨b, 0, none⟩), .int .i64 bytes] w fun ev w' => ev = .returned (.int .i64 0) ∧ Rdr w' b r t e ∧ Only (fun k => k = b) w w' := by
  obtain ⟨c0, c1, c2, f0, f1, f2⟩ := h.cells
  have HB := hide (show Rdr (w.alloc (Obj.cells #[.pointer (some ⟨b, 0, none⟩)] 156)) b r t e ∧ Only (fun k => k = b) w (w.alloc (Obj.cells #[.pointer (some ⟨b, 0, none⟩)] 156)) from ⟨Blk.alloc h _, (Only.refl _ w).alloc _⟩)
  have hlt : b < w.heap.size := Blk.lt h
  have hne : (e != 0) = true := by simp [he]
  clear h
  go_enter_defers Tryz.func104, Tryz.ntmps104
  go_wp2
  refine ⟨_, results_tmp rfl _ _ _, ?_⟩
  exact ⟨rfl, unhide HB⟩
set_option maxRecDepth 100000 in
set_option maxHeartbeats 2000000 in
theorem rRaw_wrong (w : World) (b : Nat) (r : ByteArray) (t e : Int) (h : Rdr w b r t e) (he : e ≠ 0) (n : Int) :
    Calls Tryz.prog 122 #[.pointer (some ⟨b, 0, none⟩), .int .i64 n] w fun ev w' => ev = .returned (.string ⟨#[]⟩) ∧ Rdr w' b r t e ∧ Only (fun k => k = b) w w' := by
  obtain ⟨c0, c1, c2, f0, f1, f2⟩ := h.cells
  have HB := hide (show Rdr (w.alloc (Obj.cells #[.pointer (some ⟨b, 0, none⟩)] 156)) b r t e ∧ Only (fun k => k = b) w (w.alloc (Obj.cells #[.pointer (some ⟨b, 0, none⟩)] 156)) from ⟨Blk.alloc h _, (Only.refl _ w).alloc _⟩)
  have hlt : b < w.heap.size := Blk.lt h
  have hne : (e != 0) = true := by simp [he]
  clear h
  go_enter_defers Tryz.func122, Tryz.ntmps122
  go_wp2
  refine ⟨_, results_tmp rfl _ _ _, ?_⟩
  exact ⟨rfl, unhide HB⟩
def numE (bytes : Int) (r : ByteArray) : Int := if bytes < 1 ∨ 8 < bytes then 1 else if (r.size : Int) < bytes then 31 else if 9223372036854775807 < beN ((nums r).take bytes.toNat) then 30 else 0
def numV (bytes : Int) (r : ByteArray) : Int := if numE bytes r = 0 then beN ((nums r).take bytes.toNat) else 0
set_option maxRecDepth 100000 in
set_option maxHeartbeats 2000000 in
theorem rnum_any (w : World) (b : Nat) (r : ByteArray) (t : Int) (h : Rdr w b r t 0) (hg : ETy w) (ht : 0 ≤ t) (hr : t + (r.size : Int) ≤ 9223372036854775807) (bytes : Int) :
    Calls Tryz.prog 104 #[.pointer (some ⟨b, 0, none⟩), .int .i64 bytes] w fun ev w' => RPost b r t (numE bytes r) (bytes.toNat) (.int .i64 (numV bytes r)) w ev w' := by
  have hmf : ∀ (fn : Fn) (first cap : Array Value) (w : World), (Instr.makeFunc fn first cap).run Tryz.prog w = .ok (.func fn first cap) w := fun _ _ _ _ => rfl
  obtain ⟨c0, c1, c2, f0, f1, f2⟩ := h.cells
  obtain ⟨hR1, hG1, hO1⟩ := face_start h hg
  have hlt : b < w.heap.size := Blk.lt h
  have hne := hg.ne h
  have HG1 := hide hG1
  have HO1 := hide hO1
  have HR1 := hide hR1
  have HW := hide (fun W => isWidth_any bytes W)
  by_cases hw : 1 ≤ bytes ∧ bytes ≤ 8
  · rw [decide_eq_true hw] at HW
    obtain ⟨k, rfl⟩ := Int.eq_ofNat_of_zero_le (show 0 ≤ bytes by omega)
    by_cases hs : (r.size : Int) < (k : Int)
    · have HN := hide (number_short _ b r t hR1 (k : Int) hs)
      have hE : numE (k : Int) r = 31 := by rw [numE, if_neg (by omega), if_pos hs]
      have hV : numV (k : Int) r = 0 := by rw [numV, if_neg (by rw [hE]; decide)]
      rw [hE, hV]
      have HX := hide (show (31 : Int) ≠ 0 by decide)
      clear h hg hR1 hG1 hO1 hE hV
      go_enter_defers Tryz.func104, Tryz.ntmps104
      go_wp2_with fail
      refine (unhide HW _).mono ?_
      rintro ev w1 ⟨rfl, rfl⟩
      go_wp2_with fail
      refine (unhide HN).mono ?_
      rintro ev wP ⟨rfl, hTh⟩
      have HTR := hide hTh.1
      have HTO := hide hTh.2
      clear hTh
      go_wp2
      obtain ⟨r', t', hTR⟩ := unhide HTR
      have hcp := face_cells (t := t) hlt (unhide HTO)
      have HC := hide (Num1_hit ⟨w.heap.size, 0, none⟩ ⟨w.heap.size + 1, 0, none⟩ b r' t' t 0 31 [] _ ((unhide HG1).only (unhide HTO) (fun q => hne q.symm)) hTR hcp.1 hcp.2)
      clear hTR hcp
      refine leaves_cons (f := 123) (args := #[.pointer (some ⟨w.heap.size, 0, none⟩), .pointer (some ⟨w.heap.size + 1, 0, none⟩)]) (by simp) (by simp [go_sem]) ?_
      refine (unhide HC).mono ?_
      rintro e u' wF ⟨rfl, rfl, hRF, hOF⟩
      have hF : RPost b r t 31 ((k : Int).toNat) (.int .i64 0) w (.returned (.int .i64 0)) wF := ⟨rfl, by rw [rRest, if_neg (unhide HX), rTak, if_neg (unhide HX)]; exact hRF, (unhide HO1).trans ((unhide HTO).trans hOF (fun _ _ q => q)) (fun _ _ q => q)⟩
      simp [Leaves, Go.settle, results, Tryz.results104, go_sem]
      exact hF
    · obtain ⟨Z, hZ⟩ : ∃ Z, Z = beN ((nums r).take k) := ⟨_, rfl⟩
      have HN := hide (number_any _ b r t hR1 k (by omega) (by omega) ht hr Z hZ)
      by_cases hZm : Z ≤ 9223372036854775807
      · have hE : numE (k : Int) r = 0 := by rw [numE, if_neg (by omega), if_neg hs, Int.toNat_natCast, ← hZ, if_neg (by omega)]
        have hV : numV (k : Int) r = Z := by rw [numV, if_pos hE, Int.toNat_natCast, ← hZ]
        rw [hE, hV, Int.toNat_natCast]
        clear h hg hR1 hG1 hO1 hE hV hZ
        go_enter_defers Tryz.func104, Tryz.ntmps104
        go_wp2_with fail
        refine (unhide HW _).mono ?_
        rintro ev w1 ⟨rfl, rfl⟩
        go_wp2_with fail
        refine (unhide HN).mono ?_
        rintro ev wP hTh
        obtain ⟨rfl, hTR, hTO⟩ := hTh.1 hZm
        have HTR := hide hTR
        have HTO := hide hTO
        clear hTR hTO hTh
        go_wp2
        have hcp := face_cells (t := t) hlt (unhide HTO)
        have HC := hide (Num1_idle ⟨w.heap.size, 0, none⟩ ⟨w.heap.size + 1, 0, none⟩ b t _ hcp.1 hcp.2)
        clear hcp
        refine leaves_cons (f := 123) (args := #[.pointer (some ⟨w.heap.size, 0, none⟩), .pointer (some ⟨w.heap.size + 1, 0, none⟩)]) (by simp) (by simp [go_sem]) ?_
        refine (unhide HC).mono ?_
        rintro e u' wF ⟨rfl, rfl, rfl⟩
        have hF : RPost b r t 0 (k) (.int .i64 Z) w (.returned (.int .i64 Z)) (World.drew _) := ⟨rfl, by rw [rRest, if_pos rfl, rTak, if_pos rfl]; exact unhide HTR, (unhide HO1).trans ((unhide HTO).drew) (fun _ _ q => q)⟩
        refine ⟨_, results_tmp rfl _ _ _, ?_⟩
        exact hF
      · have hE : numE (k : Int) r = 30 := by rw [numE, if_neg (by omega), if_neg hs, Int.toNat_natCast, ← hZ, if_pos (by omega)]
        have hV : numV (k : Int) r = 0 := by rw [numV, if_neg (by rw [hE]; decide)]
        rw [hE, hV, Int.toNat_natCast]
        have HX := hide (show (30 : Int) ≠ 0 by decide)
        clear h hg hR1 hG1 hO1 hE hV hZ
        go_enter_defers Tryz.func104, Tryz.ntmps104
        go_wp2_with fail
        refine (unhide HW _).mono ?_
        rintro ev w1 ⟨rfl, rfl⟩
        go_wp2_with fail
        refine (unhide HN).mono ?_
        rintro ev wP hTh
        obtain ⟨rfl, hTT⟩ := hTh.2 (by omega)
        have HTR := hide hTT.1
        have HTO := hide hTT.2
        clear hTT hTh
        go_wp2
        obtain ⟨r', t', hTR⟩ := unhide HTR
        have hcp := face_cells (t := t) hlt (unhide HTO)
        have HC := hide (Num1_hit ⟨w.heap.size, 0, none⟩ ⟨w.heap.size + 1, 0, none⟩ b r' t' t 0 30 [] _ ((unhide HG1).only (unhide HTO) (fun q => hne q.symm)) hTR hcp.1 hcp.2)
        clear hTR hcp
        refine leaves_cons (f := 123) (args := #[.pointer (some ⟨w.heap.size, 0, none⟩), .pointer (some ⟨w.heap.size + 1, 0, none⟩)]) (by simp) (by simp [go_sem]) ?_
        refine (unhide HC).mono ?_
        rintro e u' wF ⟨rfl, rfl, hRF, hOF⟩
        have hF : RPost b r t 30 (k) (.int .i64 0) w (.returned (.int .i64 0)) wF := ⟨rfl, by rw [rRest, if_neg (unhide HX), rTak, if_neg (unhide HX)]; exact hRF, (unhide HO1).trans ((unhide HTO).trans hOF (fun _ _ q => q)) (fun _ _ q => q)⟩
        simp [Leaves, Go.settle, results, Tryz.results104, go_sem]
        exact hF
  · rw [decide_eq_false hw] at HW
    have hE : numE bytes r = 1 := by rw [numE, if_pos (by omega)]
    have hV : numV bytes r = 0 := by rw [numV, if_neg (by rw [hE]; decide)]
    rw [hE, hV]
    have HX := hide (show (1 : Int) ≠ 0 by decide)
    have HTR := hide (⟨r, t, hR1⟩ : ∃ r' t', Rdr _ b r' t' 0)
    have HTO := hide (Only.refl (fun k => k = b) ((w.alloc (Obj.cells #[.pointer (some ⟨b, 0, none⟩)] 156)).alloc (Obj.cells #[.int .i64 t] 3)))
    clear h hg hR1 hG1 hO1 hE hV
    go_enter_defers Tryz.func104, Tryz.ntmps104
    go_wp2_with (go_at_call 113; refine (unhide HW _).mono ?_; rintro ev w1 ⟨rfl, rfl⟩)
    obtain ⟨r', t', hTR⟩ := unhide HTR
    have hcp := face_cells (t := t) hlt (unhide HTO)
    have HC := hide (Num1_hit ⟨w.heap.size, 0, none⟩ ⟨w.heap.size + 1, 0, none⟩ b r' t' t 0 1 [] _ ((unhide HG1).only (unhide HTO) (fun q => hne q.symm)) hTR hcp.1 hcp.2)
    clear hTR hcp
    refine leaves_cons (f := 123) (args := #[.pointer (some ⟨w.heap.size, 0, none⟩), .pointer (some ⟨w.heap.size + 1, 0, none⟩)]) (by simp) (by simp [go_sem]) ?_
    refine (unhide HC).mono ?_
    rintro e u' wF ⟨rfl, rfl, hRF, hOF⟩
    have hF : RPost b r t 1 (bytes.toNat) (.int .i64 0) w (.returned (.int .i64 0)) wF := ⟨rfl, by rw [rRest, if_neg (unhide HX), rTak, if_neg (unhide HX)]; exact hRF, (unhide HO1).trans ((unhide HTO).trans hOF (fun _ _ q => q)) (fun _ _ q => q)⟩
    simp [Leaves, Go.settle, results, Tryz.results104, go_sem]
    exact hF
def rawE (n : Int) (r : ByteArray) : Int := if n < 0 then 1 else if (r.size : Int) < n then 31 else 0
def rawV (n : Int) (r : ByteArray) : ByteArray := if rawE n r = 0 then r.extract 0 n.toNat else ⟨#[]⟩
set_option maxRecDepth 100000 in
set_option maxHeartbeats 2000000 in
theorem rraw_any (w : World) (b : Nat) (r : ByteArray) (t : Int) (h : Rdr w b r t 0) (hg : ETy w) (ht : 0 ≤ t) (hr : t + (r.size : Int) ≤ 9223372036854775807) (n : Int) :
    Calls Tryz.prog 122 #[.pointer (some ⟨b, 0, none⟩), .int .i64 n] w fun ev w' => RPost b r t (rawE n r) (n.toNat) (.string (rawV n r)) w ev w' := by
  have hmf : ∀ (fn : Fn) (first cap : Array Value) (w : World), (Instr.makeFunc fn first cap).run Tryz.prog w = .ok (.func fn first cap) w := fun _ _ _ _ => rfl
  obtain ⟨c0, c1, c2, f0, f1, f2⟩ := h.cells
  obtain ⟨hR1, hG1, hO1⟩ := face_start h hg
  have hlt : b < w.heap.size := Blk.lt h
  have hne := hg.ne h
  have HG1 := hide hG1
  have HO1 := hide hO1
  have HR1 := hide hR1
  by_cases h0 : n < 0
  · have hE : rawE n r = 1 := by rw [rawE, if_pos h0]
    have hV : rawV n r = ⟨#[]⟩ := by rw [rawV, if_neg (by rw [hE]; decide)]
    rw [hE, hV]
    have HX := hide (show (1 : Int) ≠ 0 by decide)
    have HTR := hide (⟨r, t, hR1⟩ : ∃ r' t', Rdr _ b r' t' 0)
    have HTO := hide (Only.refl (fun k => k = b) ((w.alloc (Obj.cells #[.pointer (some ⟨b, 0, none⟩)] 156)).alloc (Obj.cells #[.int .i64 t] 3)))
    clear h hg hR1 hG1 hO1 hE hV
    go_enter_defers Tryz.func122, Tryz.ntmps122
    go_wp2
    obtain ⟨r', t', hTR⟩ := unhide HTR
    have hcp := face_cells (t := t) hlt (unhide HTO)
    have HC := hide (Raw1_hit ⟨w.heap.size, 0, none⟩ ⟨w.heap.size + 1, 0, none⟩ b r' t' t 0 1 [] _ ((unhide HG1).only (unhide HTO) (fun q => hne q.symm)) hTR hcp.1 hcp.2)
    clear hTR hcp
    refine leaves_cons (f := 137) (args := #[.pointer (some ⟨w.heap.size, 0, none⟩), .pointer (some ⟨w.heap.size + 1, 0, none⟩)]) (by simp) (by simp [go_sem]) ?_
    refine (unhide HC).mono ?_
    rintro e u' wF ⟨rfl, rfl, hRF, hOF⟩
    have hF : RPost b r t 1 (n.toNat) (.string ⟨#[]⟩) w (.returned (.string ⟨#[]⟩)) wF := ⟨rfl, by rw [rRest, if_neg (unhide HX), rTak, if_neg (unhide HX)]; exact hRF, (unhide HO1).trans ((unhide HTO).trans hOF (fun _ _ q => q)) (fun _ _ q => q)⟩
    simp [Leaves, Go.settle, results, Tryz.results122, go_sem]
    exact hF
  · by_cases hs : (r.size : Int) < n
    · have hE : rawE n r = 31 := by rw [rawE, if_neg h0, if_pos hs]
      have hV : rawV n r = ⟨#[]⟩ := by rw [rawV, if_neg (by rw [hE]; decide)]
      rw [hE, hV]
      have HX := hide (show (31 : Int) ≠ 0 by decide)
      have HN := hide (take_short _ b r t hR1 n hs)
      clear h hg hR1 hG1 hO1 hE hV
      go_enter_defers Tryz.func122, Tryz.ntmps122
      go_wp2_with fail
      refine (unhide HN).mono ?_
      rintro ev wP ⟨rfl, hTh⟩
      have HTR := hide hTh.1
      have HTO := hide hTh.2
      clear hTh
      go_wp2
      obtain ⟨r', t', hTR⟩ := unhide HTR
      have hcp := face_cells (t := t) hlt (unhide HTO)
      have HC := hide (Raw1_hit ⟨w.heap.size, 0, none⟩ ⟨w.heap.size + 1, 0, none⟩ b r' t' t 0 31 [] _ ((unhide HG1).only (unhide HTO) (fun q => hne q.symm)) hTR hcp.1 hcp.2)
      clear hTR hcp
      refine leaves_cons (f := 137) (args := #[.pointer (some ⟨w.heap.size, 0, none⟩), .pointer (some ⟨w.heap.size + 1, 0, none⟩)]) (by simp) (by simp [go_sem]) ?_
      refine (unhide HC).mono ?_
      rintro e u' wF ⟨rfl, rfl, hRF, hOF⟩
      have hF : RPost b r t 31 (n.toNat) (.string ⟨#[]⟩) w (.returned (.string ⟨#[]⟩)) wF := ⟨rfl, by rw [rRest, if_neg (unhide HX), rTak, if_neg (unhide HX)]; exact hRF, (unhide HO1).trans ((unhide HTO).trans hOF (fun _ _ q => q)) (fun _ _ q => q)⟩
      simp [Leaves, Go.settle, results, Tryz.results122, go_sem]
      exact hF
    · obtain ⟨k, rfl⟩ := Int.eq_ofNat_of_zero_le (show 0 ≤ n by omega)
      have hE : rawE (k : Int) r = 0 := by rw [rawE, if_neg h0, if_neg hs]
      have hV : rawV (k : Int) r = r.extract 0 k := by rw [rawV, if_pos hE, Int.toNat_natCast]
      rw [hE, hV, Int.toNat_natCast]
      have HN := hide (take_ok _ b r t 0 hR1 k (by omega) ht hr)
      clear h hg hR1 hG1 hO1 hE hV
      go_enter_defers Tryz.func122, Tryz.ntmps122
      go_wp2_with fail
      refine (unhide HN).mono ?_
      rintro ev wP ⟨rfl, hTR, hTO⟩
      have HTR := hide hTR
      have HTO := hide hTO
      clear hTR hTO
      go_wp2
      have hcp := face_cells (t := t) hlt (unhide HTO)
      have HC := hide (Raw1_idle ⟨w.heap.size, 0, none⟩ ⟨w.heap.size + 1, 0, none⟩ b t _ hcp.1 hcp.2)
      clear hcp
      refine leaves_cons (f := 137) (args := #[.pointer (some ⟨w.heap.size, 0, none⟩), .pointer (some ⟨w.heap.size + 1, 0, none⟩)]) (by simp) (by simp [go_sem]) ?_
      refine (unhide HC).mono ?_
      rintro e u' wF ⟨rfl, rfl, rfl⟩
      have hF : RPost b r t 0 (k) (.string (r.extract 0 k)) w (.returned (.string (r.extract 0 k))) (World.drew _) := ⟨rfl, by rw [rRest, if_pos rfl, rTak, if_pos rfl]; exact unhide HTR, (unhide HO1).trans ((unhide HTO).drew) (fun _ _ q => q)⟩
      refine ⟨_, results_tmp rfl _ _ _, ?_⟩
      exact hF
theorem extract_mid (s : ByteArray) (a b : Nat) : (s.extract a s.size).extract 0 b = s.extract a (a + b) := by
  apply nums_inj
  rw [nums_extract, nums_tail, nums_extract, List.drop_zero, List.drop_take]
  congr 1
  omega
end Go.Proofs.YtffiaogbphgmgaaGreatDoor

namespace Go.Proofs.YtffiaogbphgmgaaGreatDoor
open Go.RowKit
set_option maxRecDepth 100000 in
set_option maxHeartbeats 400000 in
theorem newReader_any (s : ByteArray) (w : World) :
    Calls Tryz.prog 103 #[.string s] w fun e w' => e = .returned (.pointer (some ⟨w.heap.size, 0, none⟩)) ∧ Rdr w' w.heap.size s 0 0 ∧ Below w.heap.size w w' ∧ w'.heap.size = w.heap.size + 1 := by
  go_enter Tryz.func103, Tryz.ntmps103
  go_wp2
  go_ret
  exact ⟨rfl, Blk.new _ _ _, (Below.refl _ _).alloc (Nat.le_refl _) _, by simp⟩
def doneE (r : ByteArray) (e : Int) : Int := if e = 0 ∧ 0 < r.size then 33 else e
set_option maxRecDepth 100000 in
set_option maxHeartbeats 1000000 in
theorem rdone_any (w : World) (b : Nat) (r : ByteArray) (t e : Int) (h : Rdr w b r t e) :
    Calls Tryz.prog 106 #[.pointer (some ⟨b, 0, none⟩)] w fun ev w' => ev = .returned (.tuple #[.int .i64 (doneE r e), .int .i64 t]) ∧ Below w.heap.size w w' := by
  obtain ⟨c0, c1, c2, f0, f1, f2⟩ := h.cells
  clear h
  by_cases he : e = 0
  · subst he
    by_cases hs : 0 < r.size
    · have hD : doneE r 0 = 33 := by rw [doneE, if_pos ⟨rfl, hs⟩]
      rw [hD]
      clear hD
      go_enter Tryz.func106, Tryz.ntmps106
      go_wp2
      go_quiet (fail)
      go_wp2
      go_ret2
      exact ⟨rfl, below_drewN (Below.refl _ _) _⟩
    · have hD : doneE r 0 = 0 := by rw [doneE, if_neg (fun q => hs q.2)]
      rw [hD]
      clear hD
      go_enter Tryz.func106, Tryz.ntmps106
      go_wp2
      go_quiet (fail)
      go_wp2
      go_ret2
      exact ⟨rfl, below_drewN (Below.refl _ _) _⟩
  · have hD : doneE r e = e := by rw [doneE, if_neg (fun q => he q.1)]
    rw [hD]
    have hne : (e == 0) = false := by simp [he]
    clear hD
    go_enter Tryz.func106, Tryz.ntmps106
    go_wp2
    go_quiet (fail)
    go_wp2
    go_ret2
    exact ⟨rfl, below_drewN (Below.refl _ _) _⟩
end Go.Proofs.YtffiaogbphgmgaaGreatDoor

namespace Go.Proofs.YtffiaogbphgmgaaGreatDoor
open Go.RowKit
/-- A Reader's state: what is left, how much was taken, what was wrong first. -/
structure RSt where
  r : ByteArray
  t : Int
  e : Int
def stepR (s : RSt) (E : Int) (c : Nat) : RSt := if s.e = 0 then ⟨rRest s.r E c, rTak s.t E c, E⟩ else s
def Rds (w : World) (b : Nat) (s : RSt) : Prop := Rdr w b s.r s.t s.e
def RSt.ok (s : RSt) (N : Nat) : Prop := 0 ≤ s.t ∧ s.t + (s.r.size : Int) ≤ (N : Int)
theorem rRest_size (r : ByteArray) (E : Int) (c : Nat) : (rRest r E c).size = if E = 0 then r.size - c else 0 := by
  unfold rRest
  split
  · simp
  · rfl
theorem stepR_ok (s : RSt) (E : Int) (c N : Nat) (h : s.ok N) (hc : E = 0 → c ≤ s.r.size) : (stepR s E c).ok N := by
  unfold stepR
  split
  · refine ⟨?_, ?_⟩
    · show 0 ≤ rTak s.t E c
      have := h.1
      unfold rTak
      split <;> omega
    · show rTak s.t E c + ((rRest s.r E c).size : Int) ≤ (N : Int)
      rw [rRest_size]
      have h1 := h.1
      have h2 := h.2
      unfold rTak
      split
      · rename_i h0
        have := hc h0
        omega
      · omega
  · exact h
theorem numS (w : World) (b : Nat) (s : RSt) (h : Rds w b s) (hg : ETy w) (hN : s.ok 9223372036854775807) (bytes : Int) :
    Calls Tryz.prog 104 #[.pointer (some ⟨b, 0, none⟩), .int .i64 bytes] w fun ev w' => ev = .returned (.int .i64 (if s.e = 0 then numV bytes s.r else 0)) ∧ Rds w' b (stepR s (numE bytes s.r) (bytes.toNat)) ∧ Only (fun k => k = b) w w' := by
  by_cases he : s.e = 0
  · have h' : Rdr w b s.r s.t 0 := by rw [← he]; exact h
    refine (rnum_any w b s.r s.t h' hg hN.1 hN.2 bytes).mono ?_
    rintro ev w' ⟨rfl, hR, hO⟩
    refine ⟨by rw [if_pos he], ?_, hO⟩
    unfold Rds stepR
    rw [if_pos he]
    exact hR
  · refine (rNum_wrong w b s.r s.t s.e h he bytes).mono ?_
    rintro ev w' ⟨rfl, hR, hO⟩
    refine ⟨by rw [if_neg he], ?_, hO⟩
    unfold Rds stepR
    rw [if_neg he]
    exact hR
theorem rawS (w : World) (b : Nat) (s : RSt) (h : Rds w b s) (hg : ETy w) (hN : s.ok 9223372036854775807) (n : Int) :
    Calls Tryz.prog 122 #[.pointer (some ⟨b, 0, none⟩), .int .i64 n] w fun ev w' => ev = .returned (.string (if s.e = 0 then rawV n s.r else ⟨#[]⟩)) ∧ Rds w' b (stepR s (rawE n s.r) (n.toNat)) ∧ Only (fun k => k = b) w w' := by
  by_cases he : s.e = 0
  · have h' : Rdr w b s.r s.t 0 := by rw [← he]; exact h
    refine (rraw_any w b s.r s.t h' hg hN.1 hN.2 n).mono ?_
    rintro ev w' ⟨rfl, hR, hO⟩
    refine ⟨by rw [if_pos he], ?_, hO⟩
    unfold Rds stepR
    rw [if_pos he]
    exact hR
  · refine (rRaw_wrong w b s.r s.t s.e h he n).mono ?_
    rintro ev w' ⟨rfl, hR, hO⟩
    refine ⟨by rw [if_neg he], ?_, hO⟩
    unfold Rds stepR
    rw [if_neg he]
    exact hR
theorem numE_le (bytes : Int) (r : ByteArray) (h : numE bytes r = 0) : bytes.toNat ≤ r.size ∧ 1 ≤ bytes ∧ bytes ≤ 8 := by
  unfold numE at h
  split at h
  · cases h
  · split at h
    · cases h
    · omega
theorem rawE_le (n : Int) (r : ByteArray) (h : rawE n r = 0) : n.toNat ≤ r.size ∧ 0 ≤ n := by
  unfold rawE at h
  split at h
  · cases h
  · split at h
    · cases h
    · omega
theorem Rds.only {w w' : World} {b : Nat} {s : RSt} {P : Nat → Prop} (h : Rds w b s) (ho : Only P w w') (hp : ¬ P b) : Rds w' b s := Blk.only h ho hp
theorem Rds.ne {w : World} {b : Nat} {s : RSt} (h : Rds w b s) (hg : ETy w) : b ≠ 1 := hg.ne h
end Go.Proofs.YtffiaogbphgmgaaGreatDoor

namespace Go.Proofs.YtffiaogbphgmgaaGreatDoor
open Go.RowKit
theorem refuseP {w wr : World} {base b : Nat} {v : Value} {l : List Int} {e : Int} (h : WPost base b v l e w wr) (x : Int) :
    Calls Tryz.prog 114 #[.pointer (some ⟨b, 0, none⟩), .int .i64 x] wr fun ev w' => ev = .returned (.tuple #[]) ∧ WPost base b v (if e = 0 then [] else l) (if e = 0 then x else e) w w' := by
  obtain ⟨v1, h1, h2, h3⟩ := h
  exact (refuse_any wr base b v1 l e h1 x).mono (by rintro ev w' ⟨rfl, hp⟩; exact ⟨rfl, WPost.trans h2 h3 hp⟩)
set_option maxRecDepth 100000 in
set_option maxHeartbeats 2000000 in
theorem num_any (w : World) (base b : Nat) (v : Value) (l : List Int) (e : Int) (h : Wtr w base b v l e) (hb : base ≤ w.heap.size) (bytes : Int) (L : List Int) (p : Option Addr) (cap : Nat)
    (hp : L = [] ∨ ∃ lb lo, p = some ⟨lb, lo, none⟩ ∧ lb < w.heap.size ∧ ¬ Fp b v lb ∧ ∀ j, j < L.length → w.cell? ⟨lb, lo + j, none⟩ = some (.int .i64 (L.getD j 0)))
    (hsz : l.length + 8 * L.length ≤ 140737488355328) :
    Calls Tryz.prog 93 #[.pointer (some ⟨b, 0, none⟩), .int .i64 bytes, .slice p L.length cap] w fun ev w' => ev = .returned (.tuple #[]) ∧ WPost base b v (wl l e (errN bytes L) (outN bytes.toNat L)) (we e (errN bytes L)) w w' := by
  by_cases hw : 1 ≤ bytes ∧ bytes ≤ 8
  · obtain ⟨k, rfl⟩ := Int.eq_ofNat_of_zero_le (show 0 ≤ bytes by omega)
    have HW := hide (fun W => isWidth_any (k : Int) W)
    rw [decide_eq_true hw] at HW
    obtain ⟨hk1, hk8⟩ := hw
    have hE : errN (k : Int) L = if ∀ n ∈ L, fitsP n k then 0 else 30 := by rw [errN, if_neg (by omega), Int.toNat_natCast]
    rw [Int.toNat_natCast]
    have HS := hide (show WPost base b v (wl l e 0 (outN k (L.take 0))) e w w by
      rw [List.take_zero, show outN k [] = [] from rfl, wl_nil]
      exact WPost.refl h)
    have HE := hide hE
    clear hE h
    have hk1' : 1 ≤ k := by omega
    have hk8' : k ≤ 8 := by omega
    clear hk1 hk8
    have HPT := hide hp
    clear hp
    generalize errN (k : Int) L = E at *
    go_enter Tryz.func93, Tryz.ntmps93
    go_wp2_with (go_at_call 113; refine (unhide HW _).mono ?_; rintro ev w' ⟨rfl, rfl⟩)
    go_loopw [16] (fun u wr => ∃ i : Nat, i ≤ L.length ∧ u = .int .i64 (i : Int) ∧ (∀ n ∈ L.take i, fitsP n k) ∧ WPost base b v (wl l e 0 (outN k (L.take i))) e w' wr) (fun u _ => L.length - (intOf u).toNat)
    case atStart => exact ⟨0, by omega, rfl, fun n hn => by simp at hn, unhide HS⟩
    case round =>
      obtain ⟨i, hi, rfl, hall, hP⟩ := hrel
      have HP := hide hP
      have HA := hide hall
      clear hP hall HS HW
      obtain ⟨wo, rfl⟩ : ∃ wo, wo = wr := ⟨_, rfl⟩
      by_cases hiL : i < L.length
      · have hlen : (wl l e 0 (outN k (L.take i))).length + k ≤ 140737488355328 := by
          have h1 := wl_len l e (outN k (L.take i))
          rw [outN_len, List.length_take, Nat.min_eq_left (by omega)] at h1
          have h2 : k * i + k ≤ 8 * L.length := by
            have : k * (i + 1) ≤ 8 * L.length := Nat.mul_le_mul hk8' hiL
            rw [Nat.mul_succ] at this
            exact this
          omega
        obtain ⟨lb, lo, rfl, hlb, hfp, hc⟩ : ∃ lb lo, p = some ⟨lb, lo, none⟩ ∧ lb < w'.heap.size ∧ ¬ Fp b v lb ∧ ∀ j, j < L.length → w'.cell? ⟨lb, lo + j, none⟩ = some (.int .i64 (L.getD j 0)) := by
          rcases unhide HPT with h | h
          · subst h; simp at hiL
          · exact h
        have c1 : wo.cell? ⟨lb, lo + i, none⟩ = some (.int .i64 (L.getD i 0)) := by
          obtain ⟨v1, _, h2, _⟩ := unhide HP
          rw [World.cell?_of_block (w := w') (a := ⟨lb, lo + i, none⟩) (h2.2 lb hlb hfp)]
          exact hc i hiL
        have HN := hide (outN_snoc k L i hiL)
        have hmem : L.getD i 0 ∈ L := by
          rw [List.getD_eq_getElem?_getD, List.getElem?_eq_getElem hiL]
          exact List.getElem_mem _
        have HM := hide hmem
        have HT : Hid (L.take (i + 1) = L.take i ++ [L.getD i 0]) := hide (by rw [List.take_add_one, List.getElem?_eq_getElem hiL, List.getD_eq_getElem?_getD, List.getElem?_eq_getElem hiL]; rfl)
        clear hc hmem
        generalize L.getD i 0 = n at *
        have HF := hide (fun W => fits_any n k hk8' W)
        by_cases hf : fitsP n k
        · rw [decide_eq_true hf] at HF
          go_wp2_with (go_at_call 115; refine (unhide HF _).mono ?_; rintro ev w1 ⟨rfl, rfl⟩)
          clear c1 HF
          go_loopw [8] (fun u wr => ∃ q j : Nat, q + j = k ∧ u = .int .i64 ((q : Int) - 1) ∧ WPost base b v (wl l e 0 (outN k (L.take i) ++ (numB n k).take j)) e w' wr) (fun u _ => ((intOf u) + 1).toNat)
          case atStart => exact ⟨k, 0, by omega, rfl, by rw [List.take_zero, List.append_nil]; exact unhide HP⟩
          case round =>
            obtain ⟨q, j, hqj, rfl, hP2⟩ := hrel
            have HP2 := hide hP2
            clear hP2 HP
            cases q with
            | zero =>
              have hj : j = k := by omega
              subst hj
              go_wp2
              go_roundw
              case rel => exact ⟨i + 1, by omega, by go_num, fun x hx => by
                rw [unhide HT] at hx
                rcases List.mem_append.1 hx with h | h
                · exact unhide HA x h
                · rw [List.mem_singleton.1 h]; exact hf, by rw [unhide HN, ← numB_all n j]; exact unhide HP2⟩
              case measure => simp [intOf]; omega
            | succ q =>
              have hq1 : ((q + 1 : Nat) : Int) - 1 = (q : Int) := by omega
              rw [hq1]
              have ht : (8 * (q : Int)).toNat = 8 * q := by omega
              have h64 : 8 * (q : Int) ≤ 64 := by omega
              have hl2 : (wl l e 0 (outN k (L.take i) ++ (numB n k).take j)).length + 1 ≤ 140737488355328 := by
                have h1 := wl_len (wl l e 0 (outN k (L.take i))) e ((numB n k).take j)
                rw [wl_two] at h1
                have h2 : ((numB n k).take j).length ≤ j := by simp; omega
                omega
              have HX := hide (numB_take n k j (by omega))
              rw [show k - 1 - j = q by omega] at HX
              have hq8 : q ≤ 8 := by omega
              clear hq1
              go_wp2_with (go_at_call 116; refine (lay1 (unhide HP2) (by assumption) _ _ hl2).mono ?_; rintro ev w2 ⟨rfl, hP3⟩; have HP3 := hide hP3; clear hP3)
              go_roundw
              case rel => exact ⟨q, j + 1, by omega, by go_num, by rw [unhide HX, ← List.append_assoc, ← wl_two]; exact unhide HP3⟩
              case measure => simp [intOf]
        · rw [decide_eq_false hf] at HF
          have hEE : E = 30 := by rw [unhide HE, if_neg (fun q => hf (q n (unhide HM)))]
          go_wp2_with (first | (go_at_call 115; refine (unhide HF _).mono ?_; rintro ev w1 ⟨rfl, rfl⟩) | (go_at_call 114; refine (refuseP (unhide HP) 30).mono ?_; rintro ev w2 ⟨rfl, hP3⟩; have HP3 := hide hP3; clear hP3))
          (try simp only [Exit.inBlock, Exit.then])
          refine bodyPost_ret (results_none rfl _ _ _) rfl ⟨rfl, ?_⟩
          rw [← wl_bad l e E (outN k (L.take i)) _ (by omega), we, hEE]
          exact unhide HP3
      · have hEE : E = 0 := by
          rw [unhide HE, if_pos (fun n hn => unhide HA n (by rw [List.take_of_length_le (by omega)]; exact hn))]
        have HPE : Hid (WPost base b v (wl l e E (outN k L)) (we e E) w' wo) := hide (by
          have := unhide HP
          rw [List.take_of_length_le (by omega)] at this
          rw [hEE, we_ok]
          exact this)
        clear hEE
        go_wp2
        go_end0
        exact ⟨rfl, unhide HPE⟩
  · have HW := hide (fun W => isWidth_any bytes W)
    rw [decide_eq_false hw] at HW
    have hE : errN bytes L = 1 := by rw [errN, if_pos (by omega)]
    rw [hE]
    have HR := hide (refuse_any w base b v l e h 1)
    have e1 : (if e = 0 then [] else l) = wl l e 1 (outN bytes.toNat L) := by simp [wl]
    have e2 : (if e = 0 then (1 : Int) else e) = we e 1 := rfl
    rw [e1, e2] at HR
    generalize wl l e 1 (outN bytes.toNat L) = X at *
    generalize we e 1 = Y at *
    clear h hp hE e1 e2
    go_enter Tryz.func93, Tryz.ntmps93
    go_wp2_with (first | (go_at_call 113; refine (unhide HW _).mono ?_; rintro ev w1 ⟨rfl, rfl⟩) | (go_at_call 114; refine (unhide HR).mono ?_; rintro ev w2 ⟨rfl, hP3⟩; have HP3 := hide hP3; clear hP3))
    (try simp only [Exit.inBlock, Exit.then])
    exact bodyPost_ret (results_none rfl _ _ _) rfl ⟨rfl, unhide HP3⟩
theorem there_bsl {w : World} {base b cap : Nat} {L : List Int} (h : Bsl w base b cap L) : ∀ j, j < L.length → w.cell? ((⟨b, 0, none⟩ : Addr).add j) = some (.int .u8 (L.getD j 0)) := by
  intro j hj
  rw [Addr.add_mid]
  exact h.2.2.2.2.1.get j hj
set_option maxRecDepth 100000 in
set_option maxHeartbeats 1000000 in
theorem raw_any (w : World) (base b : Nat) (v : Value) (l : List Int) (e : Int) (h : Wtr w base b v l e) (hb : base ≤ w.heap.size) (s : ByteArray) (hsz : l.length + s.size ≤ 140737488355328) :
    Calls Tryz.prog 117 #[.pointer (some ⟨b, 0, none⟩), .string s] w fun ev w' => ev = .returned (.tuple #[]) ∧ WPost base b v (wl l e 0 (nums s)) e w w' := by
  obtain ⟨cap, W, hrun, hB, hbel⟩ := Bsl.of_string w s (by omega)
  have hO : Only (fun _ => False) w W := Only.of_below hbel
  have HL := hide (lay_any W base b v l e (h.only hO (fun _ _ q => q)) (Nat.le_trans hb hbel.size) ⟨w.heap.size, 0, none⟩ s.size cap (nums s) (nums_len s) (fun j hj => there_bsl hB j (by rw [nums_len]; exact hj)) hsz)
  rw [← wl_ok] at HL
  have HO := hide hO
  clear h hB hbel hO
  generalize wl l e 0 (nums s) = X at *
  go_enter Tryz.func117, Tryz.ntmps117
  go_wp2_with (go_at_call 116; refine (unhide HL).mono ?_; rintro ev w2 ⟨rfl, hP3⟩; have HP3 := hide hP3; clear hP3)
  go_end0
  exact ⟨rfl, WPost.trans (v1 := v) ((unhide HO).mono (fun _ _ q => q.elim)) (fun k hk => .inl hk) (unhide HP3)⟩
end Go.Proofs.YtffiaogbphgmgaaGreatDoor

namespace Go.Proofs.YtffiaogbphgmgaaGreatDoor
open Go.RowKit
theorem Arr.of_owns {w : World} {base g cap n : Nat} {l : List Int} (h : w.ownsRow base 5 1 (.slice (some ⟨g, 0, none⟩) n cap) l.length (l.map (Value.int .u8))) : Arr w g 0 .u8 l := by
  intro j hj
  rcases h.2 with ⟨h1, _⟩ | ⟨g', cap', cur, h1, _, hh, hn, _, hs, hx⟩
  · cases h1
  · obtain ⟨rfl, rfl, rfl⟩ : g = g' ∧ n = l.length ∧ cap = cap' := by simpa using h1
    rw [Nat.mul_one] at hs hx
    rw [Nat.zero_add, cell_of_row w g j cur 5 (0, 0) hh]
    refine ⟨?_, by simp [World.frozen?, hh]⟩
    have e : cur.toList[j]? = (l.map (Value.int .u8))[j]? := by rw [← hx, List.getElem?_take, if_pos hj]
    rw [← Array.getElem?_toList, e]
    simp [hj]
set_option maxRecDepth 100000 in
set_option maxHeartbeats 1000000 in
theorem done_any (w : World) (base b : Nat) (v : Value) (l : List Int) (e : Int) (h : Wtr w base b v l e) :
    Calls Tryz.prog 94 #[.pointer (some ⟨b, 0, none⟩)] w fun ev w' => ev = .returned (.tuple #[.string (strOfNums l), .int .i64 e]) ∧ Below w.heap.size w w' := by
  have hcv : ∃ p cap, v = .slice p l.length cap ∧ (convert 67 9 (.slice p l.length cap)).run Tryz.prog w.drew = .ok (.string (strOfNums l)) w.drew := by
    rcases h.2.1.2 with ⟨h1, h2⟩ | ⟨g, cap, cur, h1, _, hh, hn, _, hs, hx⟩
    · obtain rfl : l = [] := List.eq_nil_of_length_eq_zero h2
      exact ⟨none, 0, h1, run_convert_bytes_nil (P := Tryz.prog) w.drew 67 5 Tryz.underlying67 Tryz.underlying5 0 0 9 Tryz.underlying9⟩
    · subst h1
      have hA : Arr w g 0 .u8 l := Arr.of_owns h.2.1
      exact ⟨some ⟨g, 0, none⟩, cap, rfl, run_convert_bytes_arg (P := Tryz.prog) w.drew 67 5 Tryz.underlying67 Tryz.underlying5 g 0 l.length cap l rfl (fun i hi => hA.get i hi) 9 Tryz.underlying9⟩
  obtain ⟨p, cap, rfl, hcv⟩ := hcv
  have c0 : w.cell? ⟨b, 0, none⟩ = some (.slice p l.length cap) := by rw [h.1.cell 0]; rfl
  have c1 : w.cell? ⟨b, 1, none⟩ = some (.int .i64 e) := by rw [h.1.cell 1]; rfl
  clear h
  generalize strOfNums l = S at *
  go_enter Tryz.func94, Tryz.ntmps94
  go_wp2
  go_region
  all_goals (try go_wp2)
  all_goals (go_ret2; exact ⟨rfl, (Below.refl _ _).drew⟩)
end Go.Proofs.YtffiaogbphgmgaaGreatDoor

namespace Go.Proofs.YtffiaogbphgmgaaGreatDoor
open Go.RowKit
theorem WPost.below {w wr w2 : World} {base b : Nat} {v : Value} {l : List Int} {e : Int} (h : WPost base b v l e w wr) (hb : Below wr.heap.size wr w2) : WPost base b v l e w w2 := by
  obtain ⟨v1, h1, h2, h3⟩ := h
  have hO : Only (fun _ => False) wr w2 := Only.of_below hb
  exact ⟨v1, h1.only hO (fun _ _ q => q), h2.trans hO (fun _ _ q => q.elim), h3⟩
theorem WPost.only {w wr w2 : World} {base b : Nat} {v : Value} {l : List Int} {e : Int} {P : Nat → Prop} (h : WPost base b v l e w wr) (hO : Only P wr w2) (hp : ∀ k, P k → k < w.heap.size ∧ ¬ Fp b v k) (hb : b < w.heap.size) : ∃ v', Wtr w2 base b v' l e ∧ (∀ k, v'.ownBlock = some k → v.ownBlock = some k ∨ w.heap.size ≤ k) := by
  obtain ⟨v1, h1, h2, h3⟩ := h
  refine ⟨v1, h1.only hO (fun k hk hpk => ?_), h3⟩
  obtain ⟨q1, q2⟩ := hp k hpk
  rcases hk with rfl | hk
  · exact q2 (.inl rfl)
  · rcases h3 k hk with h | h
    · exact q2 (.inr h)
    · omega
theorem WPost.alloc {w wr : World} {base b : Nat} {v : Value} {l : List Int} {e : Int} (h : WPost base b v l e w wr) (o : Obj) : WPost base b v l e w (wr.alloc o) := h.below ((Below.refl _ _).alloc (Nat.le_refl _) o)
theorem WPost.size {w wr : World} {base b : Nat} {v : Value} {l : List Int} {e : Int} (h : WPost base b v l e w wr) : w.heap.size ≤ wr.heap.size := by obtain ⟨_, _, h2, _⟩ := h; exact h2.size
theorem WPost.blk {w wr : World} {base b : Nat} {v : Value} {l : List Int} {e : Int} (h : WPost base b v l e w wr) {k : Nat} {cur : Array Value} {T : TypeId} (hB : Blk w k cur T) (hk : ¬ Fp b v k) : Blk wr k cur T := by obtain ⟨_, _, h2, _⟩ := h; exact hB.only h2 hk
theorem rawK {w wr : World} {base b : Nat} {v : Value} {l : List Int} {e : Int} (h : WPost base b v l e w wr) (hb : base ≤ w.heap.size) (s : ByteArray) (hsz : l.length + s.size ≤ 140737488355328) :
    Calls Tryz.prog 117 #[.pointer (some ⟨b, 0, none⟩), .string s] wr fun ev w' => ev = .returned (.tuple #[]) ∧ WPost base b v (wl l e 0 (nums s)) e w w' := by
  obtain ⟨v1, h1, h2, h3⟩ := h
  exact (raw_any wr base b v1 l e h1 (Nat.le_trans hb h2.size) s hsz).mono (by rintro ev w' ⟨rfl, hp⟩; exact ⟨rfl, WPost.trans h2 h3 hp⟩)
theorem numK {w wr : World} {base b : Nat} {v : Value} {l : List Int} {e : Int} (h : WPost base b v l e w wr) (hb : base ≤ w.heap.size) (bytes : Int) (L : List Int) (cur : Array Value) (hc : cur = (L.map (Value.int .i64)).toArray) (hsz : l.length + 8 * L.length ≤ 140737488355328) (m : Nat) (hm : m = L.length) :
    Calls Tryz.prog 93 #[.pointer (some ⟨b, 0, none⟩), .int .i64 bytes, .slice (some ⟨wr.heap.size, 0, none⟩) m m] (wr.alloc (Obj.cells cur 3)) fun ev w' => ev = .returned (.tuple #[]) ∧ WPost base b v (wl l e (errN bytes L) (outN bytes.toNat L)) (we e (errN bytes L)) w w' := by
  subst hc hm
  obtain ⟨v1, h1, h2, h3⟩ := h
  have hA := (Only.refl (fun _ => False) wr).alloc (Obj.cells (L.map (Value.int .i64)).toArray 3)
  have hB := Blk.new wr 3 (L.map (Value.int .i64)).toArray
  refine (num_any (wr.alloc (Obj.cells (L.map (Value.int .i64)).toArray 3)) base b v1 l e (h1.only hA (fun _ _ q => q)) (by have := h2.size; simp; omega) bytes L (some ⟨wr.heap.size, 0, none⟩) L.length (.inr ⟨wr.heap.size, 0, rfl, by simp, ?_, fun j hj => ?_⟩) hsz).mono ?_
  · rintro (hq | hq)
    · have := h1.lt; omega
    · have := (h1.2.1.lt _ hq).2; omega
  · rw [Nat.zero_add, hB.cell j]
    simp [hj]
  · rintro ev w' ⟨rfl, hp⟩
    exact ⟨rfl, WPost.trans (h2.alloc _) h3 hp⟩
theorem doneK {w wr : World} {base b : Nat} {v : Value} {l : List Int} {e : Int} (h : WPost base b v l e w wr) :
    Calls Tryz.prog 94 #[.pointer (some ⟨b, 0, none⟩)] wr fun ev w' => ev = .returned (.tuple #[.string (strOfNums l), .int .i64 e]) ∧ WPost base b v l e w w' := by
  have h' := h
  obtain ⟨v1, h1, h2, h3⟩ := h
  exact (done_any wr base b v1 l e h1).mono (by rintro ev w' ⟨rfl, hb⟩; exact ⟨rfl, h'.below hb⟩)
theorem wl_good (l out : List Int) : wl l 0 0 out = l ++ out := by simp [wl]
theorem we_good : we 0 0 = 0 := rfl
end Go.Proofs.YtffiaogbphgmgaaGreatDoor
