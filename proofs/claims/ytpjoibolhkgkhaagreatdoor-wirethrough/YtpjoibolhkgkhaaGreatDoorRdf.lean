import Derived.Test.YtpjoibolhkgkhaaGreatDoorRdi
import Derived.Test.YtpjoibolhkgkhaaGreatDoorWrn
namespace Go.Proofs.YtpjoibolhkgkhaaGreatDoor
open Go.RowKit Go.Extern.Stop Go.Stop Go.Extern
theorem ETy.ne {w : World} {b : Nat} {r : ByteArray} {t e : Int} (h : ETy w) (hR : Rdr w b r t e) : b ≠ 0 := by
  intro hb
  subst hb
  have h1 := hR.cells.1
  have h2 : w.cell? ⟨0, 0, none⟩ = _ := h
  rw [h1] at h2
  cases h2
/-- What is left, and how much was taken, behind a call of a Reader with which nothing was wrong before. -/
def rRest (r : ByteArray) (E : Int) (c : Nat) : ByteArray := if E = 0 then r.extract c r.size else ⟨#[]⟩
def rTak (t E : Int) (c : Nat) : Int := if E = 0 then t + (c : Int) else t
/-- Behind a call that answers v. -/
def RPost (b : Nat) (r : ByteArray) (t E : Int) (c : Nat) (v : Value) (w : World) (ev : Ending) (w' : World) : Prop :=
  ev = .returned v ∧ Rdr w' b (rRest r E c) (rTak t E c) E ∧ Only (fun k => k = b) w w'
/-- The two new variables of a face: the receiver's, and how much was taken before. -/
theorem face_start {w : World} {b : Nat} {r : ByteArray} {t e : Int} (h : Rdr w b r t e) (hg : ETy w) :
    Rdr ((w.alloc (Obj.cells #[.pointer (some ⟨b, 0, none⟩)] 76)).alloc (Obj.cells #[.int .i64 t] 3)) b r t e ∧ ETy ((w.alloc (Obj.cells #[.pointer (some ⟨b, 0, none⟩)] 76)).alloc (Obj.cells #[.int .i64 t] 3)) ∧
    Only (fun k => k = b) w ((w.alloc (Obj.cells #[.pointer (some ⟨b, 0, none⟩)] 76)).alloc (Obj.cells #[.int .i64 t] 3)) := by
  have h1 := ((Only.refl (fun _ => False) w).alloc (Obj.cells #[.pointer (some ⟨b, 0, none⟩)] 76)).alloc (Obj.cells #[.int .i64 t] 3)
  exact ⟨Blk.only h h1 (fun q => q), hg.only h1 (fun q => q), h1.mono (fun _ _ q => q.elim)⟩
theorem face_cells {w w2 : World} {b : Nat} {t : Int} (hb : b < w.heap.size) (hO : Only (fun k => k = b) ((w.alloc (Obj.cells #[.pointer (some ⟨b, 0, none⟩)] 76)).alloc (Obj.cells #[.int .i64 t] 3)) w2) :
    w2.cell? ⟨w.heap.size, 0, none⟩ = some (.pointer (some ⟨b, 0, none⟩)) ∧ w2.cell? ⟨w.heap.size + 1, 0, none⟩ = some (.int .i64 t) := by
  have h1 : Blk ((w.alloc (Obj.cells #[.pointer (some ⟨b, 0, none⟩)] 76)).alloc (Obj.cells #[.int .i64 t] 3)) w.heap.size #[.pointer (some ⟨b, 0, none⟩)] 76 := (Blk.new w _ _).alloc _
  have h2 : Blk ((w.alloc (Obj.cells #[.pointer (some ⟨b, 0, none⟩)] 76)).alloc (Obj.cells #[.int .i64 t] 3)) (w.heap.size + 1) #[.int .i64 t] 3 := by
    have := Blk.new (w.alloc (Obj.cells #[.pointer (some ⟨b, 0, none⟩)] 76)) 3 #[.int .i64 t]
    simpa using this
  have k1 := h1.only hO (by show ¬ w.heap.size = b; omega)
  have k2 := h2.only hO (by show ¬ w.heap.size + 1 = b; omega)
  exact ⟨by rw [k1.cell 0]; rfl, by rw [k2.cell 0]; rfl⟩
set_option maxRecDepth 100000 in
set_option maxHeartbeats 2000000 in
theorem rNum_wrong (w : World) (b : Nat) (r : ByteArray) (t e : Int) (h : Rdr w b r t e) (he : e ≠ 0) (bytes : Int) :
    Calls Tryz.prog 39 #[.pointer (some ⟨b, 0, none⟩), .int .i64 bytes] w fun ev w' => ev = .returned (.int .i64 0) ∧ Rdr w' b r t e ∧ Only (fun k => k = b) w w' := by
  obtain ⟨c0, c1, c2, f0, f1, f2⟩ := h.cells
  have HB := hide (show Rdr (w.alloc (Obj.cells #[.pointer (some ⟨b, 0, none⟩)] 76)) b r t e ∧ Only (fun k => k = b) w (w.alloc (Obj.cells #[.pointer (some ⟨b, 0, none⟩)] 76)) from ⟨Blk.alloc h _, (Only.refl _ w).alloc _⟩)
  have hlt : b < w.heap.size := Blk.lt h
  have hne : (e != 0) = true := by simp [he]
  clear h
  go_enter_defers Tryz.func39, Tryz.ntmps39
  go_wp2
  refine ⟨_, results_tmp rfl _ _ _, ?_⟩
  exact ⟨rfl, unhide HB⟩
set_option maxRecDepth 100000 in
set_option maxHeartbeats 2000000 in
theorem rRaw_wrong (w : World) (b : Nat) (r : ByteArray) (t e : Int) (h : Rdr w b r t e) (he : e ≠ 0) (n : Int) :
    Calls Tryz.prog 73 #[.pointer (some ⟨b, 0, none⟩), .int .i64 n] w fun ev w' => ev = .returned (.string ⟨#[]⟩) ∧ Rdr w' b r t e ∧ Only (fun k => k = b) w w' := by
  obtain ⟨c0, c1, c2, f0, f1, f2⟩ := h.cells
  have HB := hide (show Rdr (w.alloc (Obj.cells #[.pointer (some ⟨b, 0, none⟩)] 76)) b r t e ∧ Only (fun k => k = b) w (w.alloc (Obj.cells #[.pointer (some ⟨b, 0, none⟩)] 76)) from ⟨Blk.alloc h _, (Only.refl _ w).alloc _⟩)
  have hlt : b < w.heap.size := Blk.lt h
  have hne : (e != 0) = true := by simp [he]
  clear h
  go_enter_defers Tryz.func73, Tryz.ntmps73
  go_wp2
  refine ⟨_, results_tmp rfl _ _ _, ?_⟩
  exact ⟨rfl, unhide HB⟩
def numE (bytes : Int) (r : ByteArray) : Int := if bytes < 1 ∨ 8 < bytes then 1 else if (r.size : Int) < bytes then 31 else if 9223372036854775807 < beN ((nums r).take bytes.toNat) then 30 else 0
def numV (bytes : Int) (r : ByteArray) : Int := if numE bytes r = 0 then beN ((nums r).take bytes.toNat) else 0
set_option maxRecDepth 100000 in
set_option maxHeartbeats 2000000 in
theorem rnum_any (w : World) (b : Nat) (r : ByteArray) (t : Int) (h : Rdr w b r t 0) (hg : ETy w) (ht : 0 ≤ t) (hr : t + (r.size : Int) ≤ 9223372036854775807) (bytes : Int) :
    Calls Tryz.prog 39 #[.pointer (some ⟨b, 0, none⟩), .int .i64 bytes] w fun ev w' => RPost b r t (numE bytes r) (bytes.toNat) (.int .i64 (numV bytes r)) w ev w' := by
  have hmf : ∀ (fn : Fn) (first cap : Array Value) (w : World), (Instr.makeFunc fn first cap).run Tryz.prog w = .ok (.func fn first cap) w := fun _ _ _ _ => rfl
  obtain ⟨c0, c1, c2, f0, f1, f2⟩ := h.cells
  obtain ⟨hR1, hG1, hO1⟩ := face_start h hg
  have hlt : b < w.heap.size := Blk.lt h
  have hne := hg.ne h
  have HG1 := hide hG1
  have HO1 := hide hO1
  have HR1 := hide hR1
  have HW := hide (fun W => isWidth_any bytes W)
  by_cases hw : 1 ≤ bytes ∧ bytes ≤ 8
  · rw [decide_eq_true hw] at HW
    obtain ⟨k, rfl⟩ := Int.eq_ofNat_of_zero_le (show 0 ≤ bytes by omega)
    by_cases hs : (r.size : Int) < (k : Int)
    · have HN := hide (number_short _ b r t hR1 (k : Int) hs)
      have hE : numE (k : Int) r = 31 := by rw [numE, if_neg (by omega), if_pos hs]
      have hV : numV (k : Int) r = 0 := by rw [numV, if_neg (by rw [hE]; decide)]
      rw [hE, hV]
      have HX := hide (show (31 : Int) ≠ 0 by decide)
      clear h hg hR1 hG1 hO1 hE hV
      go_enter_defers Tryz.func39, Tryz.ntmps39
      go_wp2_with fail
      refine (unhide HW _).mono ?_
      rintro ev w1 ⟨rfl, rfl⟩
      go_wp2_with fail
      refine (unhide HN).mono ?_
      rintro ev wP ⟨rfl, hTh⟩
      have HTR := hide hTh.1
      have HTO := hide hTh.2
      clear hTh
      go_wp2
      obtain ⟨r', t', hTR⟩ := unhide HTR
      have hcp := face_cells (t := t) hlt (unhide HTO)
      have HC := hide (Num1_hit ⟨w.heap.size, 0, none⟩ ⟨w.heap.size + 1, 0, none⟩ b r' t' t 0 31 [] _ ((unhide HG1).only (unhide HTO) (fun q => hne q.symm)) hTR hcp.1 hcp.2)
      clear hTR hcp
      refine leaves_cons (f := 69) (args := #[.pointer (some ⟨w.heap.size, 0, none⟩), .pointer (some ⟨w.heap.size + 1, 0, none⟩)]) (by simp) (by simp [go_sem]) ?_
      refine (unhide HC).mono ?_
      rintro e u' wF ⟨rfl, rfl, hRF, hOF⟩
      have hF : RPost b r t 31 ((k : Int).toNat) (.int .i64 0) w (.returned (.int .i64 0)) wF := ⟨rfl, by rw [rRest, if_neg (unhide HX), rTak, if_neg (unhide HX)]; exact hRF, (unhide HO1).trans ((unhide HTO).trans hOF (fun _ _ q => q)) (fun _ _ q => q)⟩
      simp [Leaves, Go.settle, results, Tryz.results39, go_sem]
      exact hF
    · obtain ⟨Z, hZ⟩ : ∃ Z, Z = beN ((nums r).take k) := ⟨_, rfl⟩
      have HN := hide (number_any _ b r t hR1 k (by omega) (by omega) ht hr Z hZ)
      by_cases hZm : Z ≤ 9223372036854775807
      · have hE : numE (k : Int) r = 0 := by rw [numE, if_neg (by omega), if_neg hs, Int.toNat_natCast, ← hZ, if_neg (by omega)]
        have hV : numV (k : Int) r = Z := by rw [numV, if_pos hE, Int.toNat_natCast, ← hZ]
        rw [hE, hV, Int.toNat_natCast]
        clear h hg hR1 hG1 hO1 hE hV hZ
        go_enter_defers Tryz.func39, Tryz.ntmps39
        go_wp2_with fail
        refine (unhide HW _).mono ?_
        rintro ev w1 ⟨rfl, rfl⟩
        go_wp2_with fail
        refine (unhide HN).mono ?_
        rintro ev wP hTh
        obtain ⟨rfl, hTR, hTO⟩ := hTh.1 hZm
        have HTR := hide hTR
        have HTO := hide hTO
        clear hTR hTO hTh
        go_wp2
        have hcp := face_cells (t := t) hlt (unhide HTO)
        have HC := hide (Num1_idle ⟨w.heap.size, 0, none⟩ ⟨w.heap.size + 1, 0, none⟩ b t _ hcp.1 hcp.2)
        clear hcp
        refine leaves_cons (f := 69) (args := #[.pointer (some ⟨w.heap.size, 0, none⟩), .pointer (some ⟨w.heap.size + 1, 0, none⟩)]) (by simp) (by simp [go_sem]) ?_
        refine (unhide HC).mono ?_
        rintro e u' wF ⟨rfl, rfl, rfl⟩
        have hF : RPost b r t 0 (k) (.int .i64 Z) w (.returned (.int .i64 Z)) (World.drew _) := ⟨rfl, by rw [rRest, if_pos rfl, rTak, if_pos rfl]; exact unhide HTR, (unhide HO1).trans ((unhide HTO).drew) (fun _ _ q => q)⟩
        refine ⟨_, results_tmp rfl _ _ _, ?_⟩
        exact hF
      · have hE : numE (k : Int) r = 30 := by rw [numE, if_neg (by omega), if_neg hs, Int.toNat_natCast, ← hZ, if_pos (by omega)]
        have hV : numV (k : Int) r = 0 := by rw [numV, if_neg (by rw [hE]; decide)]
        rw [hE, hV, Int.toNat_natCast]
        have HX := hide (show (30 : Int) ≠ 0 by decide)
        clear h hg hR1 hG1 hO1 hE hV hZ
        go_enter_defers Tryz.func39, Tryz.ntmps39
        go_wp2_with fail
        refine (unhide HW _).mono ?_
        rintro ev w1 ⟨rfl, rfl⟩
        go_wp2_with fail
        refine (unhide HN).mono ?_
        rintro ev wP hTh
        obtain ⟨rfl, hTT⟩ := hTh.2 (by omega)
        have HTR := hide hTT.1
        have HTO := hide hTT.2
        clear hTT hTh
        go_wp2
        obtain ⟨r', t', hTR⟩ := unhide HTR
        have hcp := face_cells (t := t) hlt (unhide HTO)
        have HC := hide (Num1_hit ⟨w.heap.size, 0, none⟩ ⟨w.heap.size + 1, 0, none⟩ b r' t' t 0 30 [] _ ((unhide HG1).only (unhide HTO) (fun q => hne q.symm)) hTR hcp.1 hcp.2)
        clear hTR hcp
        refine leaves_cons (f := 69) (args := #[.pointer (some ⟨w.heap.size, 0, none⟩), .pointer (some ⟨w.heap.size + 1, 0, none⟩)]) (by simp) (by simp [go_sem]) ?_
        refine (unhide HC).mono ?_
        rintro e u' wF ⟨rfl, rfl, hRF, hOF⟩
        have hF : RPost b r t 30 (k) (.int .i64 0) w (.returned (.int .i64 0)) wF := ⟨rfl, by rw [rRest, if_neg (unhide HX), rTak, if_neg (unhide HX)]; exact hRF, (unhide HO1).trans ((unhide HTO).trans hOF (fun _ _ q => q)) (fun _ _ q => q)⟩
        simp [Leaves, Go.settle, results, Tryz.results39, go_sem]
        exact hF
  · rw [decide_eq_false hw] at HW
    have hE : numE bytes r = 1 := by rw [numE, if_pos (by omega)]
    have hV : numV bytes r = 0 := by rw [numV, if_neg (by rw [hE]; decide)]
    rw [hE, hV]
    have HX := hide (show (1 : Int) ≠ 0 by decide)
    have HTR := hide (⟨r, t, hR1⟩ : ∃ r' t', Rdr _ b r' t' 0)
    have HTO := hide (Only.refl (fun k => k = b) ((w.alloc (Obj.cells #[.pointer (some ⟨b, 0, none⟩)] 76)).alloc (Obj.cells #[.int .i64 t] 3)))
    clear h hg hR1 hG1 hO1 hE hV
    go_enter_defers Tryz.func39, Tryz.ntmps39
    go_wp2_with (go_at_call 57; refine (unhide HW _).mono ?_; rintro ev w1 ⟨rfl, rfl⟩)
    obtain ⟨r', t', hTR⟩ := unhide HTR
    have hcp := face_cells (t := t) hlt (unhide HTO)
    have HC := hide (Num1_hit ⟨w.heap.size, 0, none⟩ ⟨w.heap.size + 1, 0, none⟩ b r' t' t 0 1 [] _ ((unhide HG1).only (unhide HTO) (fun q => hne q.symm)) hTR hcp.1 hcp.2)
    clear hTR hcp
    refine leaves_cons (f := 69) (args := #[.pointer (some ⟨w.heap.size, 0, none⟩), .pointer (some ⟨w.heap.size + 1, 0, none⟩)]) (by simp) (by simp [go_sem]) ?_
    refine (unhide HC).mono ?_
    rintro e u' wF ⟨rfl, rfl, hRF, hOF⟩
    have hF : RPost b r t 1 (bytes.toNat) (.int .i64 0) w (.returned (.int .i64 0)) wF := ⟨rfl, by rw [rRest, if_neg (unhide HX), rTak, if_neg (unhide HX)]; exact hRF, (unhide HO1).trans ((unhide HTO).trans hOF (fun _ _ q => q)) (fun _ _ q => q)⟩
    simp [Leaves, Go.settle, results, Tryz.results39, go_sem]
    exact hF
def varE (r : ByteArray) : Int := (varP (nums r)).1
def varC (r : ByteArray) : Nat := (varP (nums r)).2.2
def varV (r : ByteArray) : Nat := if varE r = 0 then (varP (nums r)).2.1 else 0
def rawE (n : Int) (r : ByteArray) : Int := if n < 0 then 1 else if (r.size : Int) < n then 31 else 0
def rawV (n : Int) (r : ByteArray) : ByteArray := if rawE n r = 0 then r.extract 0 n.toNat else ⟨#[]⟩
set_option maxRecDepth 100000 in
set_option maxHeartbeats 2000000 in
theorem rraw_any (w : World) (b : Nat) (r : ByteArray) (t : Int) (h : Rdr w b r t 0) (hg : ETy w) (ht : 0 ≤ t) (hr : t + (r.size : Int) ≤ 9223372036854775807) (n : Int) :
    Calls Tryz.prog 73 #[.pointer (some ⟨b, 0, none⟩), .int .i64 n] w fun ev w' => RPost b r t (rawE n r) (n.toNat) (.string (rawV n r)) w ev w' := by
  have hmf : ∀ (fn : Fn) (first cap : Array Value) (w : World), (Instr.makeFunc fn first cap).run Tryz.prog w = .ok (.func fn first cap) w := fun _ _ _ _ => rfl
  obtain ⟨c0, c1, c2, f0, f1, f2⟩ := h.cells
  obtain ⟨hR1, hG1, hO1⟩ := face_start h hg
  have hlt : b < w.heap.size := Blk.lt h
  have hne := hg.ne h
  have HG1 := hide hG1
  have HO1 := hide hO1
  have HR1 := hide hR1
  by_cases h0 : n < 0
  · have hE : rawE n r = 1 := by rw [rawE, if_pos h0]
    have hV : rawV n r = ⟨#[]⟩ := by rw [rawV, if_neg (by rw [hE]; decide)]
    rw [hE, hV]
    have HX := hide (show (1 : Int) ≠ 0 by decide)
    have HTR := hide (⟨r, t, hR1⟩ : ∃ r' t', Rdr _ b r' t' 0)
    have HTO := hide (Only.refl (fun k => k = b) ((w.alloc (Obj.cells #[.pointer (some ⟨b, 0, none⟩)] 76)).alloc (Obj.cells #[.int .i64 t] 3)))
    clear h hg hR1 hG1 hO1 hE hV
    go_enter_defers Tryz.func73, Tryz.ntmps73
    go_wp2
    obtain ⟨r', t', hTR⟩ := unhide HTR
    have hcp := face_cells (t := t) hlt (unhide HTO)
    have HC := hide (Raw1_hit ⟨w.heap.size, 0, none⟩ ⟨w.heap.size + 1, 0, none⟩ b r' t' t 0 1 [] _ ((unhide HG1).only (unhide HTO) (fun q => hne q.symm)) hTR hcp.1 hcp.2)
    clear hTR hcp
    refine leaves_cons (f := 90) (args := #[.pointer (some ⟨w.heap.size, 0, none⟩), .pointer (some ⟨w.heap.size + 1, 0, none⟩)]) (by simp) (by simp [go_sem]) ?_
    refine (unhide HC).mono ?_
    rintro e u' wF ⟨rfl, rfl, hRF, hOF⟩
    have hF : RPost b r t 1 (n.toNat) (.string ⟨#[]⟩) w (.returned (.string ⟨#[]⟩)) wF := ⟨rfl, by rw [rRest, if_neg (unhide HX), rTak, if_neg (unhide HX)]; exact hRF, (unhide HO1).trans ((unhide HTO).trans hOF (fun _ _ q => q)) (fun _ _ q => q)⟩
    simp [Leaves, Go.settle, results, Tryz.results73, go_sem]
    exact hF
  · by_cases hs : (r.size : Int) < n
    · have hE : rawE n r = 31 := by rw [rawE, if_neg h0, if_pos hs]
      have hV : rawV n r = ⟨#[]⟩ := by rw [rawV, if_neg (by rw [hE]; decide)]
      rw [hE, hV]
      have HX := hide (show (31 : Int) ≠ 0 by decide)
      have HN := hide (take_short _ b r t hR1 n hs)
      clear h hg hR1 hG1 hO1 hE hV
      go_enter_defers Tryz.func73, Tryz.ntmps73
      go_wp2_with fail
      refine (unhide HN).mono ?_
      rintro ev wP ⟨rfl, hTh⟩
      have HTR := hide hTh.1
      have HTO := hide hTh.2
      clear hTh
      go_wp2
      obtain ⟨r', t', hTR⟩ := unhide HTR
      have hcp := face_cells (t := t) hlt (unhide HTO)
      have HC := hide (Raw1_hit ⟨w.heap.size, 0, none⟩ ⟨w.heap.size + 1, 0, none⟩ b r' t' t 0 31 [] _ ((unhide HG1).only (unhide HTO) (fun q => hne q.symm)) hTR hcp.1 hcp.2)
      clear hTR hcp
      refine leaves_cons (f := 90) (args := #[.pointer (some ⟨w.heap.size, 0, none⟩), .pointer (some ⟨w.heap.size + 1, 0, none⟩)]) (by simp) (by simp [go_sem]) ?_
      refine (unhide HC).mono ?_
      rintro e u' wF ⟨rfl, rfl, hRF, hOF⟩
      have hF : RPost b r t 31 (n.toNat) (.string ⟨#[]⟩) w (.returned (.string ⟨#[]⟩)) wF := ⟨rfl, by rw [rRest, if_neg (unhide HX), rTak, if_neg (unhide HX)]; exact hRF, (unhide HO1).trans ((unhide HTO).trans hOF (fun _ _ q => q)) (fun _ _ q => q)⟩
      simp [Leaves, Go.settle, results, Tryz.results73, go_sem]
      exact hF
    · obtain ⟨k, rfl⟩ := Int.eq_ofNat_of_zero_le (show 0 ≤ n by omega)
      have hE : rawE (k : Int) r = 0 := by rw [rawE, if_neg h0, if_neg hs]
      have hV : rawV (k : Int) r = r.extract 0 k := by rw [rawV, if_pos hE, Int.toNat_natCast]
      rw [hE, hV, Int.toNat_natCast]
      have HN := hide (take_ok _ b r t 0 hR1 k (by omega) ht hr)
      clear h hg hR1 hG1 hO1 hE hV
      go_enter_defers Tryz.func73, Tryz.ntmps73
      go_wp2_with fail
      refine (unhide HN).mono ?_
      rintro ev wP ⟨rfl, hTR, hTO⟩
      have HTR := hide hTR
      have HTO := hide hTO
      clear hTR hTO
      go_wp2
      have hcp := face_cells (t := t) hlt (unhide HTO)
      have HC := hide (Raw1_idle ⟨w.heap.size, 0, none⟩ ⟨w.heap.size + 1, 0, none⟩ b t _ hcp.1 hcp.2)
      clear hcp
      refine leaves_cons (f := 90) (args := #[.pointer (some ⟨w.heap.size, 0, none⟩), .pointer (some ⟨w.heap.size + 1, 0, none⟩)]) (by simp) (by simp [go_sem]) ?_
      refine (unhide HC).mono ?_
      rintro e u' wF ⟨rfl, rfl, rfl⟩
      have hF : RPost b r t 0 (k) (.string (r.extract 0 k)) w (.returned (.string (r.extract 0 k))) (World.drew _) := ⟨rfl, by rw [rRest, if_pos rfl, rTak, if_pos rfl]; exact unhide HTR, (unhide HO1).trans ((unhide HTO).drew) (fun _ _ q => q)⟩
      refine ⟨_, results_tmp rfl _ _ _, ?_⟩
      exact hF
theorem dgA_le : ∀ (f i n : Nat) (l : List Int) (V C : Nat), dgA f i n l = (0, V, C) → C ≤ i + l.length
  | 0, _, _, _, _, _, h => by rw [dgA] at h; simp at h
  | _ + 1, _, _, [], _, _, h => by rw [dgA] at h; simp at h
  | f + 1, i, n, d :: l, V, C, h => by
    rw [dgA] at h
    split at h
    · simp at h
    · split at h
      · have : i + 1 = C := by simpa using congrArg (fun q => q.2.2) h
        simp
        omega
      · have := dgA_le f (i + 1) _ l V C h
        simp
        omega
theorem varC_le (r : ByteArray) (h : varE r = 0) : varC r ≤ r.size := by
  have h1 : varP (nums r) = (0, (varP (nums r)).2.1, varC r) := by rw [← h]; rfl
  have := dgA_le 9 0 0 (nums r) _ _ h1
  rw [nums_len] at this
  omega
theorem extract_mid (s : ByteArray) (a b : Nat) : (s.extract a s.size).extract 0 b = s.extract a (a + b) := by
  apply nums_inj
  rw [nums_extract, nums_tail, nums_extract, List.drop_zero, List.drop_take]
  congr 1
  omega
def textE (most : Int) (r : ByteArray) : Int := if most < 0 then 1 else if ¬ varE r = 0 then varE r else if most < (varV r : Int) then 32 else if r.size < varC r + varV r then 31 else 0
def textV (most : Int) (r : ByteArray) : ByteArray := if textE most r = 0 then r.extract (varC r) (varC r + varV r) else ⟨#[]⟩
end Go.Proofs.YtpjoibolhkgkhaaGreatDoor
