import Derived.Test.YtnfdedolgfcmfaaGreatDoorMrc10
import Derived.Laws.StructEq
namespace Go.Proofs.YtnfdedolgfcmfaaGreatDoor
open Go.RowKit
set_option maxRecDepth 100000
/-- what a word's bytes say: its letters, kind, number, root -/
def rwL (s : ByteArray) : ByteArray := s.extract 0 2
def rw1 (s : ByteArray) : ByteArray := s.extract 2 s.size
def rw2 (s : ByteArray) : ByteArray := (rw1 s).extract 1 (rw1 s).size
def rw3 (s : ByteArray) : ByteArray := (rw2 s).extract 4 (rw2 s).size
def rwK (s : ByteArray) : Int := beN ((nums (rw1 s)).take 1)
def rwN (s : ByteArray) : Int := beN ((nums (rw2 s)).take 4)
def rwR (s : ByteArray) : ByteArray := (rw3 s).extract 0 32
def wd0 : Value := .agg #[.int .i64 0, .int .i64 0, .string ⟨#[]⟩]
set_option maxHeartbeats 4000000 in
theorem yreadWord_short (s : ByteArray) (h : s.size ≠ 43 ∨ okR s = false) (w : World) : Calls Tryz.prog 46 #[.string s] w fun e w' => e = .returned (.tuple #[wd0, .bool false]) ∧ Below w.heap.size w w' := by
  have hB0 := Blk.new w 103 #[.int .i64 0, .int .i64 0, .string ⟨#[]⟩]
  have HB0 := hide (And.intro hB0 ((Below.refl w.heap.size w).alloc (Nat.le_refl _) (.cells #[.int .i64 0, .int .i64 0, .string ⟨#[]⟩] 103)))
  have HX := hide (show ∀ y, Below (w.alloc (.cells #[.int .i64 0, .int .i64 0, .string ⟨#[]⟩] 103)).heap.size (w.alloc (.cells #[.int .i64 0, .int .i64 0, .string ⟨#[]⟩] 103)) y → y.cell? ⟨w.heap.size, 0, none⟩ = some (.int .i64 0) ∧ y.cell? ⟨w.heap.size, 1, none⟩ = some (.int .i64 0) ∧ y.cell? ⟨w.heap.size, 2, none⟩ = some (.string ⟨#[]⟩) ∧ y.frozen? ⟨w.heap.size, 0, none⟩ = false ∧ y.frozen? ⟨w.heap.size, 1, none⟩ = false ∧ y.frozen? ⟨w.heap.size, 2, none⟩ = false ∧ Blk (((y.setCell ⟨w.heap.size, 0, none⟩ (.int .i64 0)).setCell ⟨w.heap.size, 1, none⟩ (.int .i64 0)).setCell ⟨w.heap.size, 2, none⟩ (.string ⟨#[]⟩)) w.heap.size #[.int .i64 0, .int .i64 0, .string ⟨#[]⟩] 103 ∧ Below w.heap.size w (((y.setCell ⟨w.heap.size, 0, none⟩ (.int .i64 0)).setCell ⟨w.heap.size, 1, none⟩ (.int .i64 0)).setCell ⟨w.heap.size, 2, none⟩ (.string ⟨#[]⟩)) from fun y hb => by
    have hbl := (unhide HB0).1.below hb (by simp)
    have hbb := (unhide HB0).2.trans (hb.mono (by simp))
    refine ⟨by rw [hbl.cell 0]; rfl, by rw [hbl.cell 1]; rfl, by rw [hbl.cell 2]; rfl, hbl.frozen 0, hbl.frozen 1, hbl.frozen 2, ((hbl.set 0 (.int .i64 0)).set 1 (.int .i64 0)).set 2 (.string ⟨#[]⟩), ((hbb.setCell (Nat.le_refl _) _).setCell (Nat.le_refl _) _).setCell (Nat.le_refl _) _⟩)
  clear hB0
  unfold wd0
  by_cases h43 : s.size = 43
  · have hok := h.resolve_left (fun q => q h43)
    have e1 : ((s.size : Int) != 43) = false := by simp; omega
    have HC := hide (fun W => yisChecked_any s (by omega) (by omega) W)
    rw [hok] at HC
    clear h hok h43
    go_enter Tryz.func46, Tryz.ntmps46
    go_wp2_with fail
    refine (unhide HC _).mono ?_
    rintro e y ⟨rfl, hb⟩
    obtain ⟨c0, c1, c2, f0, f1, f2, hx⟩ := unhide HX y hb
    have HY := hide hx
    clear hx hb HC HX HB0
    go_wp2
    have hld := iload_blk 103 _ (unhide HY).1 Tryz.underlying103 rfl (by kernel_rfl)
    refine bodyPost_ret (v := .tuple #[.agg #[.int .i64 0, .int .i64 0, .string ⟨#[]⟩], .bool false]) (results_cell2 (p := 2) (q := 3) (ty := 103) rfl _ _ _ ⟨w.heap.size, 0, none⟩ rfl _ hld) rfl ⟨rfl, (unhide HY).2⟩
  · have e1 : ((s.size : Int) != 43) = true := by simp; omega
    clear h h43 HX
    go_enter Tryz.func46, Tryz.ntmps46
    go_wp2
    have hld := iload_blk 103 _ (unhide HB0).1 Tryz.underlying103 rfl (by kernel_rfl)
    refine bodyPost_ret (v := .tuple #[.agg #[.int .i64 0, .int .i64 0, .string ⟨#[]⟩], .bool false]) (results_cell2 (p := 2) (q := 3) (ty := 103) rfl _ _ _ ⟨w.heap.size, 0, none⟩ rfl _ hld) rfl ⟨rfl, (unhide HB0).2⟩
end Go.Proofs.YtnfdedolgfcmfaaGreatDoor

namespace Go.Proofs.YtnfdedolgfcmfaaGreatDoor
open Go.RowKit
set_option maxRecDepth 100000
/-- is a text of the right length, with the right check, a word? -/
def rwB (s : ByteArray) : Bool := decide (rwL s = ⟨#[82, 87]⟩ ∧ (rwK s = 1 ∨ (rwK s = 0 ∧ rwN s = 0 ∧ rwR s = zR 32)))
def rwV (s : ByteArray) : Value := .agg #[.int .i64 (rwK s), .int .i64 (rwN s), .string (rwR s)]
theorem ytl (s t : ByteArray) : (s.toList = t.toList) = (s = t) := propext ⟨fun q => Decidable.byContradiction (fun n => by
  have := str_ne n
  rw [q] at this
  simp at this), fun q => by rw [q]⟩
set_option maxHeartbeats 4000000 in
theorem yreadWord_full (s : ByteArray) (h43 : s.size = 43) (hok : okR s = true) (w : World) (hg : ETy w) : Calls Tryz.prog 46 #[.string s] w fun e w' => e = .returned (.tuple #[if rwB s then rwV s else wd0, .bool (rwB s)]) ∧ Below w.heap.size w w' := by
  have hB0 := Blk.new w 103 #[.int .i64 0, .int .i64 0, .string ⟨#[]⟩]
  have HB0 := hide (And.intro hB0 ((Below.refl w.heap.size w).alloc (Nat.le_refl _) (.cells #[.int .i64 0, .int .i64 0, .string ⟨#[]⟩] 103)))
  have HG0 := hide (hg.below ((Below.refl w.heap.size w).alloc (Nat.le_refl _) (.cells #[.int .i64 0, .int .i64 0, .string ⟨#[]⟩] 103)) hg.lt)
  obtain ⟨x0, hx0⟩ : ∃ q, w.alloc (.cells #[.int .i64 0, .int .i64 0, .string ⟨#[]⟩] 103) = q := ⟨_, rfl⟩
  have HX0 := hide hx0
  have HSZ0 := hide (show x0.heap.size = w.heap.size + 1 from by rw [← hx0]; simp)
  rw [hx0] at HB0 HG0
  have HC := hide (fun W => yisChecked_any s (by omega) (by omega) W)
  rw [hok] at HC
  have HNR := hide (fun W => newReader_any s W)
  have e1 : ((s.size : Int) != 43) = false := by simp; omega
  have H43 := hide h43
  have z1 : (rw1 s).size = 41 := by rw [rw1, ByteArray.size_extract]; omega
  have z2 : (rw2 s).size = 40 := by rw [rw2, ByteArray.size_extract]; omega
  have z3 : (rw3 s).size = 36 := by rw [rw3, ByteArray.size_extract]; omega
  have HZ := hide (And.intro z1 (And.intro z2 z3))
  obtain ⟨A, hA⟩ : ∃ q, (if rwB s then rwV s else wd0) = q := ⟨_, rfl⟩
  obtain ⟨Z, hZ⟩ : ∃ q, rwB s = q := ⟨_, rfl⟩
  rw [hA]
  rw [hZ] at hA ⊢
  have HA := hide (And.intro hA hZ)
  clear hB0 hx0 h43 hok z1 z2 z3 hA hZ hg
  go_enter Tryz.func46, Tryz.ntmps46
  go_wp2_with fail
  rw [unhide HX0]
  refine (unhide HC _).mono ?_
  rintro e y1 ⟨rfl, hb1⟩
  have HB1 := hide (And.intro ((unhide HB0).1.below hb1 (by have := unhide HSZ0; omega)) (And.intro ((unhide HB0).2.trans (hb1.mono (by have := unhide HSZ0; omega))) ((unhide HG0).below hb1 (unhide HG0).lt)))
  have HS1 := hide (show w.heap.size + 1 ≤ y1.heap.size from by have := unhide HSZ0; have := hb1.size; omega)
  clear hb1 HC HX0 HSZ0 HB0 HG0
  go_wp2_with fail
  refine (unhide HNR _).mono ?_
  rintro e y2 ⟨rfl, hr2, hb2, hs2⟩
  obtain ⟨b, hbe⟩ : ∃ q, y1.heap.size = q := ⟨_, rfl⟩
  rw [hbe] at hr2 hb2 hs2 ⊢
  have HBE := hide (show w.heap.size < b from by have := unhide HS1; omega)
  have hrk : Rk y2 b s 0 := ⟨hr2, (unhide HB1).2.2.below (hb2.mono (Nat.le_of_eq hbe)) (by have := (unhide HB1).2.2.lt; omega), by have := unhide H43; omega⟩
  have HW2 := hide (And.intro ((unhide HB1).1.below hb2 (unhide HBE)) ((unhide HB1).2.1.trans (hb2.mono (by have := unhide HBE; omega))))
  have HR1 := hide (ykraw_any y2 b s 0 2 hrk (by have := unhide H43; omega))
  rw [show s.extract 0 2 = rwL s from rfl, show s.extract 2 s.size = rw1 s from rfl] at HR1
  have HS2 := hide (show b < y2.heap.size from by omega)
  clear hr2 hb2 hs2 hbe hrk HNR HB1 HS1
  go_wp2_with fail
  refine (unhide HR1).mono ?_
  rintro e y3 ⟨rfl, hrk, hO⟩
  have HST := hide (show ∀ y y', Blk y w.heap.size #[.int .i64 0, .int .i64 0, .string ⟨#[]⟩] 103 ∧ Below w.heap.size w y → Only (fun k => k = b) y y' → Blk y' w.heap.size #[.int .i64 0, .int .i64 0, .string ⟨#[]⟩] 103 ∧ Below w.heap.size w y' from fun y y' h hO => ⟨h.1.only hO (fun q => by have := unhide HBE; omega), h.2.trans (hO.below h.2.size (fun k hk q => by have := unhide HBE; omega))⟩)
  have HW3 := hide (unhide HST _ _ (unhide HW2) hO)
  have HR2 := hide (yknum_any y3 b (rw1 s) 2 1 hrk (by have := (unhide HZ).1; omega) (by omega) (by omega))
  rw [show beN ((nums (rw1 s)).take 1) = rwK s from rfl, show (rw1 s).extract 1 (rw1 s).size = rw2 s from rfl] at HR2
  clear hrk hO HR1 HW2 HS2
  go_wp2_with fail
  refine (unhide HR2).mono ?_
  rintro e y4 ⟨rfl, hrk, hO⟩
  have HW4 := hide (unhide HST _ _ (unhide HW3) hO)
  have HR3 := hide (yknum_any y4 b (rw2 s) 3 4 hrk (by have := (unhide HZ).2.1; omega) (by omega) (by omega))
  rw [show beN ((nums (rw2 s)).take 4) = rwN s from rfl, show (rw2 s).extract 4 (rw2 s).size = rw3 s from rfl] at HR3
  clear hrk hO HR2 HW3
  go_wp2_with fail
  refine (unhide HR3).mono ?_
  rintro e y5 ⟨rfl, hrk, hO⟩
  have HW5 := hide (unhide HST _ _ (unhide HW4) hO)
  have HR4 := hide (ykraw_any y5 b (rw3 s) 7 32 hrk (by have := (unhide HZ).2.2; omega))
  rw [show (rw3 s).extract 0 32 = rwR s from rfl] at HR4
  clear hrk hO HR3 HW4
  go_wp2_with fail
  refine (unhide HR4).mono ?_
  rintro e y6 ⟨rfl, hrk, hO⟩
  have HW6 := hide (unhide HST _ _ (unhide HW5) hO)
  have HN6 := hide (ynothing_any)
  obtain ⟨L, hL⟩ : ∃ q, rwL s = q := ⟨_, rfl⟩
  obtain ⟨K9, hK9⟩ : ∃ q, rwK s = q := ⟨_, rfl⟩
  obtain ⟨N9, hN9⟩ : ∃ q, rwN s = q := ⟨_, rfl⟩
  obtain ⟨R9, hR9⟩ : ∃ q, rwR s = q := ⟨_, rfl⟩
  have HB9 := hide (show decide (L = ⟨#[82, 87]⟩ ∧ (K9 = 1 ∨ (K9 = 0 ∧ N9 = 0 ∧ R9 = zR 32))) = Z from by rw [← hL, ← hK9, ← hN9, ← hR9]; exact (unhide HA).2)
  have HA9 := hide (show (if Z = true then Value.agg #[.int .i64 K9, .int .i64 N9, .string R9] else wd0) = A from by rw [← hK9, ← hN9, ← hR9]; exact (unhide HA).1)
  rw [hL, hK9, hN9, hR9]
  clear hrk hO HR4 HW5 HA HZ HST hL hK9 hN9 hR9 H43
  by_cases hl : L = ⟨#[82, 87]⟩
  · subst hl
    by_cases hk : K9 = 1
    · subst hk
      have hd : ((1 : Int) != 1) = false := by decide
      have hz : Z = true := by rw [← unhide HB9]; exact decide_eq_true ⟨rfl, .inl rfl⟩
      subst hz
      have hae : Value.agg #[.int .i64 1, .int .i64 N9, .string R9] = A := by rw [← unhide HA9, if_pos rfl]
      clear HA9 HB9
      subst hae
      go_wp2_with fail
      obtain ⟨b7, hb7⟩ : ∃ q, y6.heap.size = q := ⟨_, rfl⟩
      obtain ⟨x7, hx7⟩ : ∃ q, y6.alloc (.cells #[.int .i64 1, .int .i64 N9, .string R9] 103) = q := ⟨_, rfl⟩
      rw [hb7, hx7]
      have hB7 : Blk x7 b7 #[.int .i64 1, .int .i64 N9, .string R9] 103 := by rw [← hx7, ← hb7]; exact Blk.new _ _ _
      have hB8 : Blk x7 w.heap.size #[.int .i64 0, .int .i64 0, .string ⟨#[]⟩] 103 := by rw [← hx7]; exact (unhide HW6).1.alloc _
      have hBl : Below w.heap.size w x7 := by rw [← hx7]; exact (unhide HW6).2.alloc (unhide HW6).2.size _
      have c0 : x7.cell? ⟨w.heap.size, 0, none⟩ = some (.int .i64 0) := by rw [hB8.cell 0]; rfl
      have f0 := hB8.frozen 0
      have c1 : x7.cell? ⟨w.heap.size, 1, none⟩ = some (.int .i64 0) := by rw [hB8.cell 1]; rfl
      have f1 := hB8.frozen 1
      have c2 : x7.cell? ⟨w.heap.size, 2, none⟩ = some (.string ⟨#[]⟩) := by rw [hB8.cell 2]; rfl
      have f2 := hB8.frozen 2
      have d0 : x7.cell? ⟨b7, 0, none⟩ = some (.int .i64 1) := by rw [hB7.cell 0]; rfl
      have d1 : x7.cell? ⟨b7, 1, none⟩ = some (.int .i64 N9) := by rw [hB7.cell 1]; rfl
      have d2 : x7.cell? ⟨b7, 2, none⟩ = some (.string R9) := by rw [hB7.cell 2]; rfl
      have HY := hide (show Blk (((x7.drew.setCell ⟨w.heap.size, 0, none⟩ (.int .i64 1)).setCell ⟨w.heap.size, 1, none⟩ (.int .i64 N9)).setCell ⟨w.heap.size, 2, none⟩ (.string R9)) w.heap.size #[.int .i64 1, .int .i64 N9, .string R9] 103 ∧ Below w.heap.size w (((x7.drew.setCell ⟨w.heap.size, 0, none⟩ (.int .i64 1)).setCell ⟨w.heap.size, 1, none⟩ (.int .i64 N9)).setCell ⟨w.heap.size, 2, none⟩ (.string R9)) from ⟨(((show Blk x7.drew w.heap.size #[.int .i64 0, .int .i64 0, .string ⟨#[]⟩] 103 from hB8).set 0 (.int .i64 1)).set 1 (.int .i64 N9)).set 2 (.string R9), ((hBl.drew.setCell (Nat.le_refl _) _).setCell (Nat.le_refl _) _).setCell (Nat.le_refl _) _⟩)
      clear hB7 hB8 hBl hx7 hb7 HW6 HN6
      go_region
      all_goals (try go_wp2)
      all_goals
        have hld := iload_blk 103 _ (unhide HY).1 Tryz.underlying103 rfl (by kernel_rfl)
        refine bodyPost_ret (v := .tuple #[.agg #[.int .i64 1, .int .i64 N9, .string R9], .bool true]) (results_cell2 (p := 2) (q := 3) (ty := 103) rfl _ _ _ ⟨w.heap.size, 0, none⟩ rfl _ hld) rfl ⟨rfl, (unhide HY).2⟩
    · have hd : (K9 != 1) = true := by simpa using hk
      have hzv : decide (K9 = 0 ∧ N9 = 0 ∧ R9 = zR 32) = Z := by
        rw [← unhide HB9]
        by_cases q : K9 = 0 ∧ N9 = 0 ∧ R9 = zR 32
        · rw [decide_eq_true q, decide_eq_true ⟨rfl, .inr q⟩]
        · rw [decide_eq_false q, decide_eq_false (fun m => m.2.elim hk q)]
      clear HB9
      have HN7 := hide (show ∀ W, Calls Tryz.prog 84 #[] W fun e w' => e = .returned (.agg #[.int .i64 0, .int .i64 0, .string (zR 32)]) ∧ Below W.heap.size W w' from fun W => unhide HN6 W)
      clear HN6
      obtain ⟨z9, hz9⟩ : ∃ q, zR 32 = q := ⟨_, rfl⟩
      rw [hz9] at hzv HN7
      have HN6 := HN7
      clear hz9 HN7
      have HV := hide hzv
      have HA8 := hide (unhide HA9)
      clear hzv HA9 hk
      go_wp2_with fail
      obtain ⟨b7, hb7⟩ : ∃ q, y6.heap.size = q := ⟨_, rfl⟩
      obtain ⟨x7, hx7⟩ : ∃ q, y6.alloc (.cells #[.int .i64 K9, .int .i64 N9, .string R9] 103) = q := ⟨_, rfl⟩
      rw [hb7, hx7]
      have hB7 : Blk x7 b7 #[.int .i64 K9, .int .i64 N9, .string R9] 103 := by rw [← hx7, ← hb7]; exact Blk.new _ _ _
      have hB8 : Blk x7 w.heap.size #[.int .i64 0, .int .i64 0, .string ⟨#[]⟩] 103 := by rw [← hx7]; exact (unhide HW6).1.alloc _
      have hBl : Below w.heap.size w x7 := by rw [← hx7]; exact (unhide HW6).2.alloc (unhide HW6).2.size _
      have HS7 := hide (show Blk x7.drew b7 #[.int .i64 K9, .int .i64 N9, .string R9] 103 ∧ Blk x7.drew w.heap.size #[.int .i64 0, .int .i64 0, .string ⟨#[]⟩] 103 ∧ Below w.heap.size w x7.drew from ⟨hB7, hB8, hBl.drew⟩)
      have HS8 := hide (show ∀ W y, (Blk W b7 #[.int .i64 K9, .int .i64 N9, .string R9] 103 ∧ Blk W w.heap.size #[.int .i64 0, .int .i64 0, .string ⟨#[]⟩] 103 ∧ Below w.heap.size w W) → Below W.heap.size W y → Blk y b7 #[.int .i64 K9, .int .i64 N9, .string R9] 103 ∧ Blk y w.heap.size #[.int .i64 0, .int .i64 0, .string ⟨#[]⟩] 103 ∧ Below w.heap.size w y from fun W y h hb => ⟨h.1.below hb h.1.lt, h.2.1.below hb h.2.1.lt, h.2.2.trans (hb.mono h.2.2.size)⟩)
      clear hB7 hB8 hBl hx7 hb7 HW6
      refine wp_region_held_drew (S := fun W => Blk W b7 #[.int .i64 K9, .int .i64 N9, .string R9] 103 ∧ Blk W w.heap.size #[.int .i64 0, .int .i64 0, .string ⟨#[]⟩] 103 ∧ Below w.heap.size w W) (by kernel_rfl) (unhide HS7) ?_
      intro hS
      refine wpAnyH_takeD 0 (some 27) (.string ⟨#[82, 87]⟩) rfl rfl (by kernel_rfl) (by kernel_rfl) (by kernel_rfl) (fun _ _ _ h => h) (Or.inl ⟨by rfl, fun w hSw => by have d0 : w.cell? ⟨b7, 0, none⟩ = some (.int .i64 K9) := (by rw [hSw.1.cell 0]; rfl); have d1 : w.cell? ⟨b7, 1, none⟩ = some (.int .i64 N9) := (by rw [hSw.1.cell 1]; rfl); have d2 : w.cell? ⟨b7, 2, none⟩ = some (.string R9) := (by rw [hSw.1.cell 2]; rfl); clear hSw; go_simp⟩) hS ?_
      simp only [Act.put, List.setIfInBounds_toArray, List.set_cons_zero, List.set_cons_succ]
      refine wpAnyH_takeD 1 (some 28) (.bool false) rfl rfl (by kernel_rfl) (by kernel_rfl) (by kernel_rfl) (fun _ _ _ h => h) (Or.inl ⟨by rfl, fun w hSw => by have d0 : w.cell? ⟨b7, 0, none⟩ = some (.int .i64 K9) := (by rw [hSw.1.cell 0]; rfl); have d1 : w.cell? ⟨b7, 1, none⟩ = some (.int .i64 N9) := (by rw [hSw.1.cell 1]; rfl); have d2 : w.cell? ⟨b7, 2, none⟩ = some (.string R9) := (by rw [hSw.1.cell 2]; rfl); clear hSw; go_simp⟩) hS ?_
      simp only [Act.put, List.setIfInBounds_toArray, List.set_cons_zero, List.set_cons_succ]
      refine wpAnyH_takeD 2 (some 29) (.bool false) rfl rfl (by kernel_rfl) (by kernel_rfl) (by kernel_rfl) (fun _ _ _ h => h) (Or.inl ⟨by rfl, fun w hSw => by have d0 : w.cell? ⟨b7, 0, none⟩ = some (.int .i64 K9) := (by rw [hSw.1.cell 0]; rfl); have d1 : w.cell? ⟨b7, 1, none⟩ = some (.int .i64 N9) := (by rw [hSw.1.cell 1]; rfl); have d2 : w.cell? ⟨b7, 2, none⟩ = some (.string R9) := (by rw [hSw.1.cell 2]; rfl); clear hSw; go_simp⟩) hS ?_
      simp only [Act.put, List.setIfInBounds_toArray, List.set_cons_zero, List.set_cons_succ]
      refine wpAnyH_takeD 3 (some 30) (.pointer (some ⟨b7, 0, none⟩)) rfl rfl (by kernel_rfl) (by kernel_rfl) (by kernel_rfl) (fun _ _ _ h => h) (Or.inl ⟨by rfl, fun w hSw => by have d0 : w.cell? ⟨b7, 0, none⟩ = some (.int .i64 K9) := (by rw [hSw.1.cell 0]; rfl); have d1 : w.cell? ⟨b7, 1, none⟩ = some (.int .i64 N9) := (by rw [hSw.1.cell 1]; rfl); have d2 : w.cell? ⟨b7, 2, none⟩ = some (.string R9) := (by rw [hSw.1.cell 2]; rfl); clear hSw; go_simp⟩) hS ?_
      simp only [Act.put, List.setIfInBounds_toArray, List.set_cons_zero, List.set_cons_succ]
      refine wpAnyH_takeD 4 (some 31) (.int .i64 K9) rfl rfl (by kernel_rfl) (by kernel_rfl) (by kernel_rfl) (fun _ _ _ h => h) (Or.inl ⟨by rfl, fun w hSw => by have d0 : w.cell? ⟨b7, 0, none⟩ = some (.int .i64 K9) := (by rw [hSw.1.cell 0]; rfl); have d1 : w.cell? ⟨b7, 1, none⟩ = some (.int .i64 N9) := (by rw [hSw.1.cell 1]; rfl); have d2 : w.cell? ⟨b7, 2, none⟩ = some (.string R9) := (by rw [hSw.1.cell 2]; rfl); clear hSw; go_simp⟩) hS ?_
      simp only [Act.put, List.setIfInBounds_toArray, List.set_cons_zero, List.set_cons_succ]
      refine wpAnyH_takeD 5 (some 32) (.bool true) rfl rfl (by kernel_rfl) (by kernel_rfl) (by kernel_rfl) (fun _ _ _ h => h) (Or.inl ⟨by rfl, fun w hSw => by have d0 : w.cell? ⟨b7, 0, none⟩ = some (.int .i64 K9) := (by rw [hSw.1.cell 0]; rfl); have d1 : w.cell? ⟨b7, 1, none⟩ = some (.int .i64 N9) := (by rw [hSw.1.cell 1]; rfl); have d2 : w.cell? ⟨b7, 2, none⟩ = some (.string R9) := (by rw [hSw.1.cell 2]; rfl); clear hSw; go_simp⟩) hS ?_
      simp only [Act.put, List.setIfInBounds_toArray, List.set_cons_zero, List.set_cons_succ]
      refine wpAnyH_takeD 6 (some 33) (.bool true) rfl rfl (by kernel_rfl) (by kernel_rfl) (by kernel_rfl) (fun _ _ _ h => h) (Or.inl ⟨by rfl, fun w hSw => by have d0 : w.cell? ⟨b7, 0, none⟩ = some (.int .i64 K9) := (by rw [hSw.1.cell 0]; rfl); have d1 : w.cell? ⟨b7, 1, none⟩ = some (.int .i64 N9) := (by rw [hSw.1.cell 1]; rfl); have d2 : w.cell? ⟨b7, 2, none⟩ = some (.string R9) := (by rw [hSw.1.cell 2]; rfl); clear hSw; go_simp⟩) hS ?_
      simp only [Act.put, List.setIfInBounds_toArray, List.set_cons_zero, List.set_cons_succ]
      refine wpAnyH_takeD 7 (some 34) (.agg #[.int .i64 K9, .int .i64 N9, .string R9]) rfl rfl (by kernel_rfl) (by kernel_rfl) (by kernel_rfl) (fun _ _ _ h => h) (Or.inl ⟨by rfl, fun w hSw => by have d0 : w.cell? ⟨b7, 0, none⟩ = some (.int .i64 K9) := (by rw [hSw.1.cell 0]; rfl); have d1 : w.cell? ⟨b7, 1, none⟩ = some (.int .i64 N9) := (by rw [hSw.1.cell 1]; rfl); have d2 : w.cell? ⟨b7, 2, none⟩ = some (.string R9) := (by rw [hSw.1.cell 2]; rfl); clear hSw; go_simp⟩) hS ?_
      simp only [Act.put, List.setIfInBounds_toArray, List.set_cons_zero, List.set_cons_succ]
      refine wpAnyH_ready (rs := [8]) (by kernel_rfl) (by simp) ?_
      refine AllReadyH.cons rfl (fun K hK => ?_) AllReadyH.nil
      simp only [List.getElem_toArray, List.getElem_cons_succ, List.getElem_cons_zero]
      go_simp
      refine (unhide HN6 _).mono ?_
      rintro e y ⟨rfl, hb⟩
      have hS9 := unhide HS8 _ _ hS hb
      clear hb
      refine hK.out _ _ hS9 (fun hS => ?_)
      clear hK K
      refine wpAnyH_takeD 9 (some 36) (.bool (!Z)) rfl rfl (by kernel_rfl) (by kernel_rfl) (by kernel_rfl) (fun _ _ _ h => h) (Or.inl ⟨by rfl, fun w hSw => by clear hSw; go_simp; rw [← unhide HV]; by_cases h1 : K9 = 0 <;> by_cases h2 : N9 = 0 <;> by_cases h3 : R9 = z9 <;> simp [h1, h2, h3, ytl]⟩) hS ?_
      simp only [Act.put, List.setIfInBounds_toArray, List.set_cons_zero, List.set_cons_succ]
      refine wpAnyH_takeD 10 (some 37) (.bool (!Z)) rfl rfl (by kernel_rfl) (by kernel_rfl) (by kernel_rfl) (fun _ _ _ h => h) (Or.inl ⟨by rfl, fun w hSw => by have d0 : w.cell? ⟨b7, 0, none⟩ = some (.int .i64 K9) := (by rw [hSw.1.cell 0]; rfl); have d1 : w.cell? ⟨b7, 1, none⟩ = some (.int .i64 N9) := (by rw [hSw.1.cell 1]; rfl); have d2 : w.cell? ⟨b7, 2, none⟩ = some (.string R9) := (by rw [hSw.1.cell 2]; rfl); clear hSw; go_simp⟩) hS ?_
      simp only [Act.put, List.setIfInBounds_toArray, List.set_cons_zero, List.set_cons_succ]
      refine wpAnyH_takeD 11 (some 38) (.bool (!Z)) rfl rfl (by kernel_rfl) (by kernel_rfl) (by kernel_rfl) (fun _ _ _ h => h) (Or.inl ⟨by rfl, fun w hSw => by have d0 : w.cell? ⟨b7, 0, none⟩ = some (.int .i64 K9) := (by rw [hSw.1.cell 0]; rfl); have d1 : w.cell? ⟨b7, 1, none⟩ = some (.int .i64 N9) := (by rw [hSw.1.cell 1]; rfl); have d2 : w.cell? ⟨b7, 2, none⟩ = some (.string R9) := (by rw [hSw.1.cell 2]; rfl); clear hSw; go_simp⟩) hS ?_
      simp only [Act.put, List.setIfInBounds_toArray, List.set_cons_zero, List.set_cons_succ]
      refine wpAnyH_done (by kernel_rfl) ?_ _
      cases hzz : Z
      · rw [hzz] at HA8
        have hae : Value.agg #[.int .i64 0, .int .i64 0, .string ⟨#[]⟩] = A := by rw [← unhide HA8]; rfl
        subst hae
        clear HA8 HV HS8 HS7 HN6 hd
        have c0 : y.cell? ⟨w.heap.size, 0, none⟩ = some (.int .i64 0) := by rw [hS.2.1.cell 0]; rfl
        have c1 : y.cell? ⟨w.heap.size, 1, none⟩ = some (.int .i64 0) := by rw [hS.2.1.cell 1]; rfl
        have c2 : y.cell? ⟨w.heap.size, 2, none⟩ = some (.string ⟨#[]⟩) := by rw [hS.2.1.cell 2]; rfl
        have f0 := hS.2.1.frozen 0
        have f1 := hS.2.1.frozen 1
        have f2 := hS.2.1.frozen 2
        have HY := hide (show Blk (((y.setCell ⟨w.heap.size, 0, none⟩ (.int .i64 0)).setCell ⟨w.heap.size, 1, none⟩ (.int .i64 0)).setCell ⟨w.heap.size, 2, none⟩ (.string ⟨#[]⟩)) w.heap.size #[.int .i64 0, .int .i64 0, .string ⟨#[]⟩] 103 ∧ Below w.heap.size w (((y.setCell ⟨w.heap.size, 0, none⟩ (.int .i64 0)).setCell ⟨w.heap.size, 1, none⟩ (.int .i64 0)).setCell ⟨w.heap.size, 2, none⟩ (.string ⟨#[]⟩)) from ⟨((hS.2.1.set 0 (.int .i64 0)).set 1 (.int .i64 0)).set 2 (.string ⟨#[]⟩), ((hS.2.2.setCell (Nat.le_refl _) _).setCell (Nat.le_refl _) _).setCell (Nat.le_refl _) _⟩)
        clear hS
        go_wp2
        have hld := iload_blk 103 _ (unhide HY).1 Tryz.underlying103 rfl (by kernel_rfl)
        refine bodyPost_ret (v := .tuple #[.agg #[.int .i64 0, .int .i64 0, .string ⟨#[]⟩], .bool false]) (results_cell2 (p := 2) (q := 3) (ty := 103) rfl _ _ _ ⟨w.heap.size, 0, none⟩ rfl _ hld) rfl ⟨by rw [hzz], (unhide HY).2⟩
      · rw [hzz] at HA8
        have hae : Value.agg #[.int .i64 K9, .int .i64 N9, .string R9] = A := by rw [← unhide HA8]; rfl
        subst hae
        clear HA8 HV HS8 HS7 HN6 hd
        have c0 : y.cell? ⟨w.heap.size, 0, none⟩ = some (.int .i64 0) := by rw [hS.2.1.cell 0]; rfl
        have c1 : y.cell? ⟨w.heap.size, 1, none⟩ = some (.int .i64 0) := by rw [hS.2.1.cell 1]; rfl
        have c2 : y.cell? ⟨w.heap.size, 2, none⟩ = some (.string ⟨#[]⟩) := by rw [hS.2.1.cell 2]; rfl
        have f0 := hS.2.1.frozen 0
        have f1 := hS.2.1.frozen 1
        have f2 := hS.2.1.frozen 2
        have d0 : y.cell? ⟨b7, 0, none⟩ = some (.int .i64 K9) := by rw [hS.1.cell 0]; rfl
        have d1 : y.cell? ⟨b7, 1, none⟩ = some (.int .i64 N9) := by rw [hS.1.cell 1]; rfl
        have d2 : y.cell? ⟨b7, 2, none⟩ = some (.string R9) := by rw [hS.1.cell 2]; rfl
        have HY := hide (show Blk (((y.setCell ⟨w.heap.size, 0, none⟩ (.int .i64 K9)).setCell ⟨w.heap.size, 1, none⟩ (.int .i64 N9)).setCell ⟨w.heap.size, 2, none⟩ (.string R9)) w.heap.size #[.int .i64 K9, .int .i64 N9, .string R9] 103 ∧ Below w.heap.size w (((y.setCell ⟨w.heap.size, 0, none⟩ (.int .i64 K9)).setCell ⟨w.heap.size, 1, none⟩ (.int .i64 N9)).setCell ⟨w.heap.size, 2, none⟩ (.string R9)) from ⟨((hS.2.1.set 0 (.int .i64 K9)).set 1 (.int .i64 N9)).set 2 (.string R9), ((hS.2.2.setCell (Nat.le_refl _) _).setCell (Nat.le_refl _) _).setCell (Nat.le_refl _) _⟩)
        clear hS
        go_wp2
        have hld := iload_blk 103 _ (unhide HY).1 Tryz.underlying103 rfl (by kernel_rfl)
        refine bodyPost_ret (v := .tuple #[.agg #[.int .i64 K9, .int .i64 N9, .string R9], .bool true]) (results_cell2 (p := 2) (q := 3) (ty := 103) rfl _ _ _ ⟨w.heap.size, 0, none⟩ rfl _ hld) rfl ⟨by rw [hzz], (unhide HY).2⟩
  · have hne : (L.toList == [82, 87]) = false := by
      have q := str_ne hl
      rwa [show (⟨#[82, 87]⟩ : ByteArray).toList = [82, 87] from by first | rfl | simp | decide] at q
    have hz : Z = false := by rw [← unhide HB9]; exact decide_eq_false (fun q => hl q.1)
    subst hz
    have hae : Value.agg #[.int .i64 0, .int .i64 0, .string ⟨#[]⟩] = A := by rw [← unhide HA9]; rfl
    clear HA9 HB9
    subst hae
    go_wp2_with fail
    obtain ⟨b7, hb7⟩ : ∃ q, y6.heap.size = q := ⟨_, rfl⟩
    obtain ⟨x7, hx7⟩ : ∃ q, y6.alloc (.cells #[.int .i64 K9, .int .i64 N9, .string R9] 103) = q := ⟨_, rfl⟩
    rw [hb7, hx7]
    have hB7 : Blk x7 b7 #[.int .i64 K9, .int .i64 N9, .string R9] 103 := by rw [← hx7, ← hb7]; exact Blk.new _ _ _
    have hB8 : Blk x7 w.heap.size #[.int .i64 0, .int .i64 0, .string ⟨#[]⟩] 103 := by rw [← hx7]; exact (unhide HW6).1.alloc _
    have hBl : Below w.heap.size w x7 := by rw [← hx7]; exact (unhide HW6).2.alloc (unhide HW6).2.size _
    have c0 : x7.cell? ⟨w.heap.size, 0, none⟩ = some (.int .i64 0) := by rw [hB8.cell 0]; rfl
    have f0 := hB8.frozen 0
    have c1 : x7.cell? ⟨w.heap.size, 1, none⟩ = some (.int .i64 0) := by rw [hB8.cell 1]; rfl
    have f1 := hB8.frozen 1
    have c2 : x7.cell? ⟨w.heap.size, 2, none⟩ = some (.string ⟨#[]⟩) := by rw [hB8.cell 2]; rfl
    have f2 := hB8.frozen 2
    have HY := hide (show Blk (((x7.drew.setCell ⟨w.heap.size, 0, none⟩ (.int .i64 0)).setCell ⟨w.heap.size, 1, none⟩ (.int .i64 0)).setCell ⟨w.heap.size, 2, none⟩ (.string ⟨#[]⟩)) w.heap.size #[.int .i64 0, .int .i64 0, .string ⟨#[]⟩] 103 ∧ Below w.heap.size w (((x7.drew.setCell ⟨w.heap.size, 0, none⟩ (.int .i64 0)).setCell ⟨w.heap.size, 1, none⟩ (.int .i64 0)).setCell ⟨w.heap.size, 2, none⟩ (.string ⟨#[]⟩)) from ⟨(((show Blk x7.drew w.heap.size #[.int .i64 0, .int .i64 0, .string ⟨#[]⟩] 103 from hB8).set 0 (.int .i64 0)).set 1 (.int .i64 0)).set 2 (.string ⟨#[]⟩), ((hBl.drew.setCell (Nat.le_refl _) _).setCell (Nat.le_refl _) _).setCell (Nat.le_refl _) _⟩)
    clear hB7 hB8 hBl hx7 hb7 HW6 HN6
    go_region
    all_goals (try go_wp2)
    all_goals
      have hld := iload_blk 103 _ (unhide HY).1 Tryz.underlying103 rfl (by kernel_rfl)
      refine bodyPost_ret (v := .tuple #[.agg #[.int .i64 0, .int .i64 0, .string ⟨#[]⟩], .bool false]) (results_cell2 (p := 2) (q := 3) (ty := 103) rfl _ _ _ ⟨w.heap.size, 0, none⟩ rfl _ hld) rfl ⟨rfl, (unhide HY).2⟩
end Go.Proofs.YtnfdedolgfcmfaaGreatDoor
