import Derived.Test.YtnfdedolgfcmfaaGreatDoorMrc15
namespace Go.Proofs.YtnfdedolgfcmfaaGreatDoor
open Go.RowKit
set_option maxRecDepth 100000
def fq0 (s : ByteArray) : ByteArray := s.extract 0 (s.size - 4)
def fq1 (s : ByteArray) : ByteArray := (fq0 s).extract 2 (fq0 s).size
def fq2 (s : ByteArray) : ByteArray := (fq1 s).extract 1 (fq1 s).size
def fq3 (s : ByteArray) : ByteArray := (fq2 s).extract 2 (fq2 s).size
def fq4 (s : ByteArray) : ByteArray := (fq3 s).extract 4 (fq3 s).size
def fq5 (s : ByteArray) : ByteArray := (fq4 s).extract 4 (fq4 s).size
def fq6 (s : ByteArray) : ByteArray := (fq5 s).extract 32 (fq5 s).size
def fq7 (s : ByteArray) : ByteArray := (fq6 s).extract 2 (fq6 s).size
def frL (s : ByteArray) : ByteArray := (fq0 s).extract 0 2
def frK (s : ByteArray) : Nat := beT (fq1 s) 1
def frZ (s : ByteArray) : Nat := beT (fq2 s) 2
def frF (s : ByteArray) : Nat := beT (fq3 s) 4
def frT (s : ByteArray) : Nat := beT (fq4 s) 4
def frR (s : ByteArray) : ByteArray := (fq5 s).extract 0 32
def frN (s : ByteArray) : Nat := beT (fq6 s) 2
/-- is a text a frame -/
def frOk (s : ByteArray) : Prop := 51 ≤ s.size ∧ s.size ≤ 264243 ∧ okR s = true ∧ frL s = ⟨#[82, 70]⟩ ∧ s.size = 51 + frN s * 258 ∧ mbB (frK s) (frZ s) (frF s) (frT s) (frW (fq7 s) (frN s)) = true
set_option maxHeartbeats 16000000 in
theorem yreadFrame_any (s : ByteArray) (hs : s.size ≤ 140737488355000) (w : World) (hg : ETy w) : Calls Tryz.prog 39 #[.string s] w fun e w' => Below w.heap.size w w' ∧ (¬ frOk s → e = .returned (.tuple #[.agg #[.int .i64 0, .int .i64 0, .int .i64 0, .int .i64 0, .string ⟨#[]⟩, .slice none 0 0], .bool false])) ∧ (frOk s → ∃ p c, e = .returned (.tuple #[.agg #[.int .i64 (frK s : Int), .int .i64 (frZ s : Int), .int .i64 (frF s : Int), .int .i64 (frT s : Int), .string (frR s), .slice p (frN s) c], .bool true]) ∧ SWr w' w'.heap.size p (frW (fq7 s) (frN s))) := by
  have hB0 := Blk.new w 97 #[.int .i64 0, .int .i64 0, .int .i64 0, .int .i64 0, .string ⟨#[]⟩, .slice none 0 0]
  have hbx0 : Below w.heap.size w (w.alloc (Obj.cells #[.int .i64 0, .int .i64 0, .int .i64 0, .int .i64 0, .string ⟨#[]⟩, .slice none 0 0] 97)) := (Below.refl _ _).alloc (Nat.le_refl _) _
  obtain ⟨x0, hx0⟩ : ∃ q, w.alloc (Obj.cells #[.int .i64 0, .int .i64 0, .int .i64 0, .int .i64 0, .string ⟨#[]⟩, .slice none 0 0] 97) = q := ⟨_, rfl⟩
  obtain ⟨h0, hh0⟩ : ∃ q, w.heap.size = q := ⟨_, rfl⟩
  have hx0s : x0.heap.size = w.heap.size + 1 := by rw [← hx0]; simp
  rw [hx0] at hB0 hbx0
  rw [hh0] at hB0
  have HX0W := hide hx0
  have HG0 := hide (hg.below hbx0 hg.lt)
  have HB0 := hide (And.intro hB0 hbx0)
  have HH0 := hide (And.intro hh0 hx0s)
  clear hB0 hbx0 hx0 hg
  by_cases h51 : s.size < 51
  · have e1 : (s.size : Int) < 51 := by omega
    have HNOK := hide (show ¬ frOk s from fun q => by have := q.1; omega)
    have h0y := (unhide HB0).1
    have hby := (unhide HB0).2
    have z0 : x0.cell? ⟨h0, 0, none⟩ = some (.int .i64 0) := by rw [(h0y).cell 0]; rfl
    have z1 : x0.cell? ⟨h0, 1, none⟩ = some (.int .i64 0) := by rw [(h0y).cell 1]; rfl
    have z2 : x0.cell? ⟨h0, 2, none⟩ = some (.int .i64 0) := by rw [(h0y).cell 2]; rfl
    have z3 : x0.cell? ⟨h0, 3, none⟩ = some (.int .i64 0) := by rw [(h0y).cell 3]; rfl
    have z4 : x0.cell? ⟨h0, 4, none⟩ = some (.string ⟨#[]⟩) := by rw [(h0y).cell 4]; rfl
    have z5 : x0.cell? ⟨h0, 5, none⟩ = some (.slice none 0 0) := by rw [(h0y).cell 5]; rfl
    have g0 := (h0y).frozen 0
    have g1 := (h0y).frozen 1
    have g2 := (h0y).frozen 2
    have g3 := (h0y).frozen 3
    have g4 := (h0y).frozen 4
    have g5 := (h0y).frozen 5
    have hh0' := (unhide HH0).1
    clear hx0s
    go_enter Tryz.func39, Tryz.ntmps39
    go_wp2_with (rw [unhide HX0W])
    have HY := hide (show Blk ((((((x0.setCell ⟨h0, 0, none⟩ (.int .i64 0)).setCell ⟨h0, 1, none⟩ (.int .i64 0)).setCell ⟨h0, 2, none⟩ (.int .i64 0)).setCell ⟨h0, 3, none⟩ (.int .i64 0)).setCell ⟨h0, 4, none⟩ (.string ⟨#[]⟩)).setCell ⟨h0, 5, none⟩ (.slice none 0 0)) h0 #[.int .i64 0, .int .i64 0, .int .i64 0, .int .i64 0, .string ⟨#[]⟩, .slice none 0 0] 97 ∧ Below w.heap.size w ((((((x0.setCell ⟨h0, 0, none⟩ (.int .i64 0)).setCell ⟨h0, 1, none⟩ (.int .i64 0)).setCell ⟨h0, 2, none⟩ (.int .i64 0)).setCell ⟨h0, 3, none⟩ (.int .i64 0)).setCell ⟨h0, 4, none⟩ (.string ⟨#[]⟩)).setCell ⟨h0, 5, none⟩ (.slice none 0 0)) from ⟨((((((((((((h0y).set 0 (.int .i64 0))).set 1 (.int .i64 0))).set 2 (.int .i64 0))).set 3 (.int .i64 0))).set 4 (.string ⟨#[]⟩))).set 5 (.slice none 0 0)), ((((((((((((hby).setCell (p := ⟨h0, 0, none⟩) (by show w.heap.size ≤ h0; omega) (.int .i64 0))).setCell (p := ⟨h0, 1, none⟩) (by show w.heap.size ≤ h0; omega) (.int .i64 0))).setCell (p := ⟨h0, 2, none⟩) (by show w.heap.size ≤ h0; omega) (.int .i64 0))).setCell (p := ⟨h0, 3, none⟩) (by show w.heap.size ≤ h0; omega) (.int .i64 0))).setCell (p := ⟨h0, 4, none⟩) (by show w.heap.size ≤ h0; omega) (.string ⟨#[]⟩))).setCell (p := ⟨h0, 5, none⟩) (by show w.heap.size ≤ h0; omega) (.slice none 0 0))⟩)
    clear h0y hby
    go_wp2
    have hld := iload_blk 97 _ (unhide HY).1 Tryz.underlying97 rfl (by kernel_rfl)
    refine bodyPost_ret (v := .tuple #[.agg #[.int .i64 0, .int .i64 0, .int .i64 0, .int .i64 0, .string ⟨#[]⟩, .slice none 0 0], .bool false]) (results_cell2 (p := 2) (q := 3) (ty := 97) rfl _ _ _ ⟨h0, 0, none⟩ rfl _ hld) rfl ⟨(by first | exact (unhide HY).2 | (have q := (unhide HY).2; rw [(unhide HH0).1] at q; exact q)), fun _ => rfl, fun q => absurd q (unhide HNOK)⟩
  have e1 : ¬ (s.size : Int) < 51 := by omega
  by_cases h26 : 264243 < s.size
  · have e2 : (264243 : Int) < (s.size : Int) := by omega
    have HNOK := hide (show ¬ frOk s from fun q => by have := q.2.1; omega)
    have h0y := (unhide HB0).1
    have hby := (unhide HB0).2
    have z0 : x0.cell? ⟨h0, 0, none⟩ = some (.int .i64 0) := by rw [(h0y).cell 0]; rfl
    have z1 : x0.cell? ⟨h0, 1, none⟩ = some (.int .i64 0) := by rw [(h0y).cell 1]; rfl
    have z2 : x0.cell? ⟨h0, 2, none⟩ = some (.int .i64 0) := by rw [(h0y).cell 2]; rfl
    have z3 : x0.cell? ⟨h0, 3, none⟩ = some (.int .i64 0) := by rw [(h0y).cell 3]; rfl
    have z4 : x0.cell? ⟨h0, 4, none⟩ = some (.string ⟨#[]⟩) := by rw [(h0y).cell 4]; rfl
    have z5 : x0.cell? ⟨h0, 5, none⟩ = some (.slice none 0 0) := by rw [(h0y).cell 5]; rfl
    have g0 := (h0y).frozen 0
    have g1 := (h0y).frozen 1
    have g2 := (h0y).frozen 2
    have g3 := (h0y).frozen 3
    have g4 := (h0y).frozen 4
    have g5 := (h0y).frozen 5
    have hh0' := (unhide HH0).1
    clear hx0s
    go_enter Tryz.func39, Tryz.ntmps39
    go_wp2_with (rw [unhide HX0W])
    have HY := hide (show Blk ((((((x0.setCell ⟨h0, 0, none⟩ (.int .i64 0)).setCell ⟨h0, 1, none⟩ (.int .i64 0)).setCell ⟨h0, 2, none⟩ (.int .i64 0)).setCell ⟨h0, 3, none⟩ (.int .i64 0)).setCell ⟨h0, 4, none⟩ (.string ⟨#[]⟩)).setCell ⟨h0, 5, none⟩ (.slice none 0 0)) h0 #[.int .i64 0, .int .i64 0, .int .i64 0, .int .i64 0, .string ⟨#[]⟩, .slice none 0 0] 97 ∧ Below w.heap.size w ((((((x0.setCell ⟨h0, 0, none⟩ (.int .i64 0)).setCell ⟨h0, 1, none⟩ (.int .i64 0)).setCell ⟨h0, 2, none⟩ (.int .i64 0)).setCell ⟨h0, 3, none⟩ (.int .i64 0)).setCell ⟨h0, 4, none⟩ (.string ⟨#[]⟩)).setCell ⟨h0, 5, none⟩ (.slice none 0 0)) from ⟨((((((((((((h0y).set 0 (.int .i64 0))).set 1 (.int .i64 0))).set 2 (.int .i64 0))).set 3 (.int .i64 0))).set 4 (.string ⟨#[]⟩))).set 5 (.slice none 0 0)), ((((((((((((hby).setCell (p := ⟨h0, 0, none⟩) (by show w.heap.size ≤ h0; omega) (.int .i64 0))).setCell (p := ⟨h0, 1, none⟩) (by show w.heap.size ≤ h0; omega) (.int .i64 0))).setCell (p := ⟨h0, 2, none⟩) (by show w.heap.size ≤ h0; omega) (.int .i64 0))).setCell (p := ⟨h0, 3, none⟩) (by show w.heap.size ≤ h0; omega) (.int .i64 0))).setCell (p := ⟨h0, 4, none⟩) (by show w.heap.size ≤ h0; omega) (.string ⟨#[]⟩))).setCell (p := ⟨h0, 5, none⟩) (by show w.heap.size ≤ h0; omega) (.slice none 0 0))⟩)
    clear h0y hby
    go_wp2
    have hld := iload_blk 97 _ (unhide HY).1 Tryz.underlying97 rfl (by kernel_rfl)
    refine bodyPost_ret (v := .tuple #[.agg #[.int .i64 0, .int .i64 0, .int .i64 0, .int .i64 0, .string ⟨#[]⟩, .slice none 0 0], .bool false]) (results_cell2 (p := 2) (q := 3) (ty := 97) rfl _ _ _ ⟨h0, 0, none⟩ rfl _ hld) rfl ⟨(by first | exact (unhide HY).2 | (have q := (unhide HY).2; rw [(unhide HH0).1] at q; exact q)), fun _ => rfl, fun q => absurd q (unhide HNOK)⟩
  have e2 : ¬ (264243 : Int) < (s.size : Int) := by omega
  have HC := hide (yisChecked_any s (by omega) hs x0)
  have HNR := hide (fun W => newReader_any (fq0 s) W)
  obtain ⟨n4, hn4⟩ : ∃ q, s.size - 4 = q := ⟨_, rfl⟩
  have hn4s : s.size = n4 + 4 := by omega
  have e3 : wrap64 ((s.size : Int) - 4) = (n4 : Int) := by rw [wrap64_eq _ (by omega) (by omega)]; omega
  have e4 : n4 ≤ s.size := by omega
  have HSZ := hide (And.intro hn4s (And.intro h51 h26))
  have hq0z : (fq0 s).size = n4 := by unfold fq0; rw [ByteArray.size_extract]; omega
  have hq0e : s.extract 0 n4 = fq0 s := by rw [← hn4]; rfl
  obtain ⟨OK9, hOK9⟩ : ∃ q, okR s = q := ⟨_, rfl⟩
  rw [hOK9] at HC
  have HOKR := hide hOK9
  have HQ0 := hide (And.intro hq0z hq0e)
  clear h51 h26 hn4 hn4s hOK9 hq0z hq0e hs hx0s
  have hh0' := (unhide HH0).1
  go_enter Tryz.func39, Tryz.ntmps39
  go_wp2_with (rw [unhide HX0W])
  refine (unhide HC).mono ?_
  rintro e y1 ⟨rfl, hb1⟩
  have hx0s := (unhide HH0).2
  have hy1s := hb1.size
  have HB1 := hide (show Blk y1 h0 #[.int .i64 0, .int .i64 0, .int .i64 0, .int .i64 0, .string ⟨#[]⟩, .slice none 0 0] 97 ∧ Below w.heap.size w y1 ∧ ETy y1 from ⟨(unhide HB0).1.below hb1 (unhide HB0).1.lt, (unhide HB0).2.trans (hb1.mono (by omega)), (unhide HG0).below hb1 (unhide HG0).lt⟩)
  clear hb1 HC
  cases OK9 with
  | false =>
    have HNOK := hide (show ¬ frOk s from fun q => by have h3 := q.2.2.1; rw [unhide HOKR] at h3; cases h3)
    have h0y := (unhide HB1).1
    have hby := (unhide HB1).2.1
    have z0 : y1.cell? ⟨h0, 0, none⟩ = some (.int .i64 0) := by rw [(h0y).cell 0]; rfl
    have z1 : y1.cell? ⟨h0, 1, none⟩ = some (.int .i64 0) := by rw [(h0y).cell 1]; rfl
    have z2 : y1.cell? ⟨h0, 2, none⟩ = some (.int .i64 0) := by rw [(h0y).cell 2]; rfl
    have z3 : y1.cell? ⟨h0, 3, none⟩ = some (.int .i64 0) := by rw [(h0y).cell 3]; rfl
    have z4 : y1.cell? ⟨h0, 4, none⟩ = some (.string ⟨#[]⟩) := by rw [(h0y).cell 4]; rfl
    have z5 : y1.cell? ⟨h0, 5, none⟩ = some (.slice none 0 0) := by rw [(h0y).cell 5]; rfl
    have g0 := (h0y).frozen 0
    have g1 := (h0y).frozen 1
    have g2 := (h0y).frozen 2
    have g3 := (h0y).frozen 3
    have g4 := (h0y).frozen 4
    have g5 := (h0y).frozen 5
    have HY := hide (show Blk ((((((y1.setCell ⟨h0, 0, none⟩ (.int .i64 0)).setCell ⟨h0, 1, none⟩ (.int .i64 0)).setCell ⟨h0, 2, none⟩ (.int .i64 0)).setCell ⟨h0, 3, none⟩ (.int .i64 0)).setCell ⟨h0, 4, none⟩ (.string ⟨#[]⟩)).setCell ⟨h0, 5, none⟩ (.slice none 0 0)) h0 #[.int .i64 0, .int .i64 0, .int .i64 0, .int .i64 0, .string ⟨#[]⟩, .slice none 0 0] 97 ∧ Below w.heap.size w ((((((y1.setCell ⟨h0, 0, none⟩ (.int .i64 0)).setCell ⟨h0, 1, none⟩ (.int .i64 0)).setCell ⟨h0, 2, none⟩ (.int .i64 0)).setCell ⟨h0, 3, none⟩ (.int .i64 0)).setCell ⟨h0, 4, none⟩ (.string ⟨#[]⟩)).setCell ⟨h0, 5, none⟩ (.slice none 0 0)) from ⟨((((((((((((h0y).set 0 (.int .i64 0))).set 1 (.int .i64 0))).set 2 (.int .i64 0))).set 3 (.int .i64 0))).set 4 (.string ⟨#[]⟩))).set 5 (.slice none 0 0)), ((((((((((((hby).setCell (p := ⟨h0, 0, none⟩) (by show w.heap.size ≤ h0; omega) (.int .i64 0))).setCell (p := ⟨h0, 1, none⟩) (by show w.heap.size ≤ h0; omega) (.int .i64 0))).setCell (p := ⟨h0, 2, none⟩) (by show w.heap.size ≤ h0; omega) (.int .i64 0))).setCell (p := ⟨h0, 3, none⟩) (by show w.heap.size ≤ h0; omega) (.int .i64 0))).setCell (p := ⟨h0, 4, none⟩) (by show w.heap.size ≤ h0; omega) (.string ⟨#[]⟩))).setCell (p := ⟨h0, 5, none⟩) (by show w.heap.size ≤ h0; omega) (.slice none 0 0))⟩)
    clear h0y hby
    go_wp2
    have hld := iload_blk 97 _ (unhide HY).1 Tryz.underlying97 rfl (by kernel_rfl)
    refine bodyPost_ret (v := .tuple #[.agg #[.int .i64 0, .int .i64 0, .int .i64 0, .int .i64 0, .string ⟨#[]⟩, .slice none 0 0], .bool false]) (results_cell2 (p := 2) (q := 3) (ty := 97) rfl _ _ _ ⟨h0, 0, none⟩ rfl _ hld) rfl ⟨(by first | exact (unhide HY).2 | (have q := (unhide HY).2; rw [(unhide HH0).1] at q; exact q)), fun _ => rfl, fun q => absurd q (unhide HNOK)⟩
  | true =>
  have hq0e := (unhide HQ0).2
  go_wp2_with fail
  refine (unhide HNR y1).mono ?_
  rintro e y2 ⟨rfl, hr2, hb2, hs2⟩
  obtain ⟨b, hbe⟩ : ∃ q, y1.heap.size = q := ⟨_, rfl⟩
  rw [hbe] at hr2 hb2 hs2 ⊢
  have hwb : h0 < b := by omega
  clear hq0e
  obtain ⟨q0, hq0⟩ : ∃ q, fq0 s = q := ⟨_, rfl⟩
  have z0 : q0.size = n4 := by rw [← hq0]; exact (unhide HQ0).1
  have E0v : q0.extract 0 2 = frL s := by rw [← hq0]; rfl
  have E0q : q0.extract 2 q0.size = fq1 s := by rw [← hq0]; rfl
  obtain ⟨q1, hq1⟩ : ∃ q, fq1 s = q := ⟨_, rfl⟩
  rw [hq1] at E0q
  have z1 : q1.size = q0.size - 2 := by rw [← E0q, ByteArray.size_extract]; omega
  have E1v : beT q1 1 = frK s := by rw [← hq1]; rfl
  have E1q : q1.extract 1 q1.size = fq2 s := by rw [← hq1]; rfl
  obtain ⟨q2, hq2⟩ : ∃ q, fq2 s = q := ⟨_, rfl⟩
  rw [hq2] at E1q
  have z2 : q2.size = q1.size - 1 := by rw [← E1q, ByteArray.size_extract]; omega
  have E2v : beT q2 2 = frZ s := by rw [← hq2]; rfl
  have E2q : q2.extract 2 q2.size = fq3 s := by rw [← hq2]; rfl
  obtain ⟨q3, hq3⟩ : ∃ q, fq3 s = q := ⟨_, rfl⟩
  rw [hq3] at E2q
  have z3 : q3.size = q2.size - 2 := by rw [← E2q, ByteArray.size_extract]; omega
  have E3v : beT q3 4 = frF s := by rw [← hq3]; rfl
  have E3q : q3.extract 4 q3.size = fq4 s := by rw [← hq3]; rfl
  obtain ⟨q4, hq4⟩ : ∃ q, fq4 s = q := ⟨_, rfl⟩
  rw [hq4] at E3q
  have z4 : q4.size = q3.size - 4 := by rw [← E3q, ByteArray.size_extract]; omega
  have E4v : beT q4 4 = frT s := by rw [← hq4]; rfl
  have E4q : q4.extract 4 q4.size = fq5 s := by rw [← hq4]; rfl
  obtain ⟨q5, hq5⟩ : ∃ q, fq5 s = q := ⟨_, rfl⟩
  rw [hq5] at E4q
  have z5 : q5.size = q4.size - 4 := by rw [← E4q, ByteArray.size_extract]; omega
  have E5v : q5.extract 0 32 = frR s := by rw [← hq5]; rfl
  have E5q : q5.extract 32 q5.size = fq6 s := by rw [← hq5]; rfl
  obtain ⟨q6, hq6⟩ : ∃ q, fq6 s = q := ⟨_, rfl⟩
  rw [hq6] at E5q
  have z6 : q6.size = q5.size - 32 := by rw [← E5q, ByteArray.size_extract]; omega
  have E6v : beT q6 2 = frN s := by rw [← hq6]; rfl
  have E6q : q6.extract 2 q6.size = fq7 s := by rw [← hq6]; rfl
  obtain ⟨q7, hq7⟩ : ∃ q, fq7 s = q := ⟨_, rfl⟩
  rw [hq7] at E6q
  have z7 : q7.size = q6.size - 2 := by rw [← E6q, ByteArray.size_extract]; omega
  have HOKI := hide (show frOk s ↔ (frL s = ⟨#[82, 70]⟩ ∧ s.size = 51 + frN s * 258 ∧ mbB (frK s) (frZ s) (frF s) (frT s) (frW q7 (frN s)) = true) from ⟨fun q => ⟨q.2.2.2.1, q.2.2.2.2.1, by rw [← hq7]; exact q.2.2.2.2.2⟩, fun q => ⟨by have := (unhide HSZ).2.1; omega, by have := (unhide HSZ).2.2; omega, unhide HOKR, q.1, q.2.1, by rw [hq7]; exact q.2.2⟩⟩)
  obtain ⟨L9, hL9⟩ : ∃ q, frL s = q := ⟨_, rfl⟩
  rw [hL9] at E0v HOKI
  obtain ⟨K9n, hK9n⟩ : ∃ q, frK s = q := ⟨_, rfl⟩
  rw [hK9n] at E1v HOKI
  obtain ⟨Z9, hZ9⟩ : ∃ q, frZ s = q := ⟨_, rfl⟩
  rw [hZ9] at E2v HOKI
  obtain ⟨F9, hF9⟩ : ∃ q, frF s = q := ⟨_, rfl⟩
  rw [hF9] at E3v HOKI
  obtain ⟨T9, hT9⟩ : ∃ q, frT s = q := ⟨_, rfl⟩
  rw [hT9] at E4v HOKI
  obtain ⟨R9, hR9⟩ : ∃ q, frR s = q := ⟨_, rfl⟩
  rw [hR9] at E5v
  obtain ⟨N9, hN9⟩ : ∃ q, frN s = q := ⟨_, rfl⟩
  rw [hN9] at E6v HOKI
  have HLT := hide (show K9n < 256 ∧ Z9 < 65536 ∧ F9 < 4294967296 ∧ T9 < 4294967296 ∧ N9 < 65536 from ⟨by rw [← E1v]; exact beT_lt _ 1 256 (by decide), by rw [← E2v]; exact beT_lt _ 2 65536 (by decide), by rw [← E3v]; exact beT_lt _ 4 4294967296 (by decide), by rw [← E4v]; exact beT_lt _ 4 4294967296 (by decide), by rw [← E6v]; exact beT_lt _ 2 65536 (by decide)⟩)
  have HEQ := hide (And.intro hK9n (And.intro hZ9 (And.intro hF9 (And.intro hT9 (And.intro hR9 (And.intro hN9 hq7))))))
  clear hL9 hK9n hZ9 hF9 hT9 hR9 hN9 hq1 hq2 hq3 hq4 hq5 hq6 hq7
  rw [hq0] at hr2
  clear hq0
  have hn47 := (unhide HSZ)
  have HW2 := hide (And.intro ((unhide HB1).1.below hb2 (by omega)) ((unhide HB1).2.1.trans (hb2.mono (by omega))))
  have hrk : Rk y2 b q0 0 := ⟨hr2, (unhide HB1).2.2.below (hb2.mono (Nat.le_of_eq hbe)) (unhide HB1).2.2.lt, by omega⟩
  have HST := hide (show ∀ y y', Blk y h0 #[.int .i64 0, .int .i64 0, .int .i64 0, .int .i64 0, .string ⟨#[]⟩, .slice none 0 0] 97 ∧ Below w.heap.size w y → Only (fun k => k = b) y y' → Blk y' h0 #[.int .i64 0, .int .i64 0, .int .i64 0, .int .i64 0, .string ⟨#[]⟩, .slice none 0 0] 97 ∧ Below w.heap.size w y' from fun y y' hy ho => ⟨hy.1.only ho (by show ¬ h0 = b; omega), hy.2.trans (ho.below hy.2.size (fun q hq e => by omega))⟩)
  clear hr2 hb2 hs2 HB1 HNR hbe HQ0
  have HRD0 := hide (ykraw_any y2 b q0 0 2 hrk (by omega))
  rw [E0v, E0q] at HRD0
  clear hrk E0v E0q
  go_wp2_with fail
  refine (unhide HRD0).mono ?_
  rintro e y3 ⟨rfl, hrk, ho⟩
  have HW3 := hide (unhide HST _ _ (unhide HW2) ho)
  clear ho HRD0 HW2
  have HRD1 := hide (yknum_any y3 b q1 2 1 hrk (by omega) (by omega) (by omega))
  rw [← beT_v] at HRD1
  rw [E1v, E1q] at HRD1
  clear hrk E1v E1q
  go_wp2_with fail
  refine (unhide HRD1).mono ?_
  rintro e y4 ⟨rfl, hrk, ho⟩
  have HW4 := hide (unhide HST _ _ (unhide HW3) ho)
  clear ho HRD1 HW3
  have HRD2 := hide (yknum_any y4 b q2 3 2 hrk (by omega) (by omega) (by omega))
  rw [← beT_v] at HRD2
  rw [E2v, E2q] at HRD2
  clear hrk E2v E2q
  go_wp2_with fail
  refine (unhide HRD2).mono ?_
  rintro e y5 ⟨rfl, hrk, ho⟩
  have HW5 := hide (unhide HST _ _ (unhide HW4) ho)
  clear ho HRD2 HW4
  have HRD3 := hide (yknum_any y5 b q3 5 4 hrk (by omega) (by omega) (by omega))
  rw [← beT_v] at HRD3
  rw [E3v, E3q] at HRD3
  clear hrk E3v E3q
  go_wp2_with fail
  refine (unhide HRD3).mono ?_
  rintro e y6 ⟨rfl, hrk, ho⟩
  have HW6 := hide (unhide HST _ _ (unhide HW5) ho)
  clear ho HRD3 HW5
  have HRD4 := hide (yknum_any y6 b q4 9 4 hrk (by omega) (by omega) (by omega))
  rw [← beT_v] at HRD4
  rw [E4v, E4q] at HRD4
  clear hrk E4v E4q
  go_wp2_with fail
  refine (unhide HRD4).mono ?_
  rintro e y7 ⟨rfl, hrk, ho⟩
  have HW7 := hide (unhide HST _ _ (unhide HW6) ho)
  clear ho HRD4 HW6
  have HRD5 := hide (ykraw_any y7 b q5 13 32 hrk (by omega))
  rw [E5v, E5q] at HRD5
  clear hrk E5v E5q
  go_wp2_with fail
  refine (unhide HRD5).mono ?_
  rintro e y8 ⟨rfl, hrk, ho⟩
  have HW8 := hide (unhide HST _ _ (unhide HW7) ho)
  clear ho HRD5 HW7
  -- the frame's own block
  obtain ⟨h6, hh6⟩ : ∃ q, y8.heap.size = q := ⟨_, rfl⟩
  obtain ⟨x8, hx8⟩ : ∃ q, y8.alloc (Obj.cells #[.int .i64 (K9n : Int), .int .i64 (Z9 : Int), .int .i64 (F9 : Int), .int .i64 (T9 : Int), .string R9, .slice none 0 0] 97) = q := ⟨_, rfl⟩
  have hB6 : Blk x8 h6 #[.int .i64 (K9n : Int), .int .i64 (Z9 : Int), .int .i64 (F9 : Int), .int .i64 (T9 : Int), .string R9, .slice none 0 0] 97 := by rw [← hx8, ← hh6]; exact Blk.new _ _ _
  have hbx8 : Below y8.heap.size y8 x8 := by rw [← hx8]; exact (Below.refl _ _).alloc (Nat.le_refl _) _
  have h0x8 := (unhide HW8).1.below hbx8 (unhide HW8).1.lt
  have h06 : h0 ≠ h6 := by have := (unhide HW8).1.lt; omega
  have HGE := hide (show w.heap.size ≤ h0 ∧ w.heap.size ≤ h6 ∧ w.heap.size ≤ b from ⟨by omega, by have := (unhide HW8).2.size; omega, by omega⟩)
  have HW9 := hide (show Blk x8 h0 #[.int .i64 0, .int .i64 0, .int .i64 0, .int .i64 0, .string ⟨#[]⟩, .slice none 0 0] 97 ∧ Below w.heap.size w x8 from ⟨h0x8, (unhide HW8).2.trans (hbx8.mono (unhide HW8).2.size)⟩)
  have hrx : Rk x8 b q6 45 := ⟨Blk.below hrk.1 hbx8 (Rk.lt hrk), hrk.2.1.below hbx8 hrk.2.1.lt, hrk.2.2⟩
  have hb6 : b ≠ h6 := Blk.tyne hrx.1 hB6 (by decide)
  have hl8 := hB6.lt
  have HB6 := hide hB6
  have HRD6 := hide (yknum_any x8 b q6 45 2 hrx (by omega) (by omega) (by omega))
  rw [← beT_v, E6v, E6q] at HRD6
  have HXH := hide (And.intro hx8 hh6)
  clear hrk hrx hB6 h0x8 hbx8 hx8 hh6 E6v E6q
  go_wp2_with (rw [(unhide HXH).1, (unhide HXH).2])
  refine (unhide HRD6).mono ?_
  rintro e w0 ⟨rfl, hrk, ho⟩
  have HWA := hide (unhide HST _ _ (unhide HW9) ho)
  have hB6 := (unhide HB6).only ho (fun q => hb6 q.symm)
  have HBA := hide (And.intro hB6 hrk)
  clear ho HRD6 HW9 HB6 hB6 hrk HXH
  have HNOT := hide (show ¬ frOk s → ∀ w', Below w.heap.size w w' → True from fun _ _ _ => trivial)
  have hN6 := (unhide HLT).2.2.2.2
  have HWR := hide (show wrap64 ((N9 : Int) * 258) = (N9 : Int) * 258 from wrap64_eq _ (by omega) (by omega))
  have HWR2 := hide (show wrap64 (51 + (N9 : Int) * 258) = 51 + (N9 : Int) * 258 from wrap64_eq _ (by omega) (by omega))
  have htl : (⟨#[82, 70]⟩ : ByteArray).toList = [82, 70] := by first | rfl | decide | simp
  by_cases hL : L9 = ⟨#[82, 70]⟩
  case neg =>
    have d1 : (L9.toList == (⟨#[82, 70]⟩ : ByteArray).toList) = false := str_ne hL
    rw [htl] at d1
    have d1p : ¬ L9.toList = [82, 70] := fun q => by rw [q] at d1; simp at d1
    clear htl
    have HNOK := hide (show ¬ frOk s from fun q => hL ((unhide HOKI).1 q).1)
    have h0y := (unhide HWA).1
    have hby := (unhide HWA).2
    have z0 : w0.cell? ⟨h0, 0, none⟩ = some (.int .i64 0) := by rw [(h0y).cell 0]; rfl
    have z1 : w0.cell? ⟨h0, 1, none⟩ = some (.int .i64 0) := by rw [(h0y).cell 1]; rfl
    have z2 : w0.cell? ⟨h0, 2, none⟩ = some (.int .i64 0) := by rw [(h0y).cell 2]; rfl
    have z3 : w0.cell? ⟨h0, 3, none⟩ = some (.int .i64 0) := by rw [(h0y).cell 3]; rfl
    have z4 : w0.cell? ⟨h0, 4, none⟩ = some (.string ⟨#[]⟩) := by rw [(h0y).cell 4]; rfl
    have z5 : w0.cell? ⟨h0, 5, none⟩ = some (.slice none 0 0) := by rw [(h0y).cell 5]; rfl
    have g0 := (h0y).frozen 0
    have g1 := (h0y).frozen 1
    have g2 := (h0y).frozen 2
    have g3 := (h0y).frozen 3
    have g4 := (h0y).frozen 4
    have g5 := (h0y).frozen 5
    clear hL
    have HY := hide (show Blk ((((((w0.setCell ⟨h0, 0, none⟩ (.int .i64 0)).setCell ⟨h0, 1, none⟩ (.int .i64 0)).setCell ⟨h0, 2, none⟩ (.int .i64 0)).setCell ⟨h0, 3, none⟩ (.int .i64 0)).setCell ⟨h0, 4, none⟩ (.string ⟨#[]⟩)).setCell ⟨h0, 5, none⟩ (.slice none 0 0)) h0 #[.int .i64 0, .int .i64 0, .int .i64 0, .int .i64 0, .string ⟨#[]⟩, .slice none 0 0] 97 ∧ Below w.heap.size w ((((((w0.setCell ⟨h0, 0, none⟩ (.int .i64 0)).setCell ⟨h0, 1, none⟩ (.int .i64 0)).setCell ⟨h0, 2, none⟩ (.int .i64 0)).setCell ⟨h0, 3, none⟩ (.int .i64 0)).setCell ⟨h0, 4, none⟩ (.string ⟨#[]⟩)).setCell ⟨h0, 5, none⟩ (.slice none 0 0)) from ⟨((((((((((((h0y).set 0 (.int .i64 0))).set 1 (.int .i64 0))).set 2 (.int .i64 0))).set 3 (.int .i64 0))).set 4 (.string ⟨#[]⟩))).set 5 (.slice none 0 0)), ((((((((((((hby).setCell (p := ⟨h0, 0, none⟩) (by show w.heap.size ≤ h0; omega) (.int .i64 0))).setCell (p := ⟨h0, 1, none⟩) (by show w.heap.size ≤ h0; omega) (.int .i64 0))).setCell (p := ⟨h0, 2, none⟩) (by show w.heap.size ≤ h0; omega) (.int .i64 0))).setCell (p := ⟨h0, 3, none⟩) (by show w.heap.size ≤ h0; omega) (.int .i64 0))).setCell (p := ⟨h0, 4, none⟩) (by show w.heap.size ≤ h0; omega) (.string ⟨#[]⟩))).setCell (p := ⟨h0, 5, none⟩) (by show w.heap.size ≤ h0; omega) (.slice none 0 0))⟩)
    clear h0y hby
    go_wp2
    have hld := iload_blk 97 _ (unhide HY).1 Tryz.underlying97 rfl (by kernel_rfl)
    refine bodyPost_ret (v := .tuple #[.agg #[.int .i64 0, .int .i64 0, .int .i64 0, .int .i64 0, .string ⟨#[]⟩, .slice none 0 0], .bool false]) (results_cell2 (p := 2) (q := 3) (ty := 97) rfl _ _ _ ⟨h0, 0, none⟩ rfl _ hld) rfl ⟨(by first | exact (unhide HY).2 | (have q := (unhide HY).2; rw [(unhide HH0).1] at q; exact q)), fun _ => rfl, fun q => absurd q (unhide HNOK)⟩
  case pos =>
  have d1p : L9.toList = [82, 70] := by rw [hL]; exact htl
  have d1 : (L9.toList == [82, 70]) = true := by rw [d1p]; decide
  clear htl d1p
  by_cases hN : s.size = 51 + N9 * 258
  case neg =>
    have d2 : ((s.size : Int) != 51 + (N9 : Int) * 258) = true := by simp; omega
    have HNOK := hide (show ¬ frOk s from fun q => hN ((unhide HOKI).1 q).2.1)
    have h0y := (unhide HWA).1
    have hby := (unhide HWA).2
    have z0 : w0.cell? ⟨h0, 0, none⟩ = some (.int .i64 0) := by rw [(h0y).cell 0]; rfl
    have z1 : w0.cell? ⟨h0, 1, none⟩ = some (.int .i64 0) := by rw [(h0y).cell 1]; rfl
    have z2 : w0.cell? ⟨h0, 2, none⟩ = some (.int .i64 0) := by rw [(h0y).cell 2]; rfl
    have z3 : w0.cell? ⟨h0, 3, none⟩ = some (.int .i64 0) := by rw [(h0y).cell 3]; rfl
    have z4 : w0.cell? ⟨h0, 4, none⟩ = some (.string ⟨#[]⟩) := by rw [(h0y).cell 4]; rfl
    have z5 : w0.cell? ⟨h0, 5, none⟩ = some (.slice none 0 0) := by rw [(h0y).cell 5]; rfl
    have g0 := (h0y).frozen 0
    have g1 := (h0y).frozen 1
    have g2 := (h0y).frozen 2
    have g3 := (h0y).frozen 3
    have g4 := (h0y).frozen 4
    have g5 := (h0y).frozen 5
    have d3 := unhide HWR
    have d4 := unhide HWR2
    clear hL hN
    have HY := hide (show Blk ((((((w0.setCell ⟨h0, 0, none⟩ (.int .i64 0)).setCell ⟨h0, 1, none⟩ (.int .i64 0)).setCell ⟨h0, 2, none⟩ (.int .i64 0)).setCell ⟨h0, 3, none⟩ (.int .i64 0)).setCell ⟨h0, 4, none⟩ (.string ⟨#[]⟩)).setCell ⟨h0, 5, none⟩ (.slice none 0 0)) h0 #[.int .i64 0, .int .i64 0, .int .i64 0, .int .i64 0, .string ⟨#[]⟩, .slice none 0 0] 97 ∧ Below w.heap.size w ((((((w0.setCell ⟨h0, 0, none⟩ (.int .i64 0)).setCell ⟨h0, 1, none⟩ (.int .i64 0)).setCell ⟨h0, 2, none⟩ (.int .i64 0)).setCell ⟨h0, 3, none⟩ (.int .i64 0)).setCell ⟨h0, 4, none⟩ (.string ⟨#[]⟩)).setCell ⟨h0, 5, none⟩ (.slice none 0 0)) from ⟨((((((((((((h0y).set 0 (.int .i64 0))).set 1 (.int .i64 0))).set 2 (.int .i64 0))).set 3 (.int .i64 0))).set 4 (.string ⟨#[]⟩))).set 5 (.slice none 0 0)), ((((((((((((hby).setCell (p := ⟨h0, 0, none⟩) (by show w.heap.size ≤ h0; omega) (.int .i64 0))).setCell (p := ⟨h0, 1, none⟩) (by show w.heap.size ≤ h0; omega) (.int .i64 0))).setCell (p := ⟨h0, 2, none⟩) (by show w.heap.size ≤ h0; omega) (.int .i64 0))).setCell (p := ⟨h0, 3, none⟩) (by show w.heap.size ≤ h0; omega) (.int .i64 0))).setCell (p := ⟨h0, 4, none⟩) (by show w.heap.size ≤ h0; omega) (.string ⟨#[]⟩))).setCell (p := ⟨h0, 5, none⟩) (by show w.heap.size ≤ h0; omega) (.slice none 0 0))⟩)
    clear h0y hby
    go_wp2
    have hld := iload_blk 97 _ (unhide HY).1 Tryz.underlying97 rfl (by kernel_rfl)
    refine bodyPost_ret (v := .tuple #[.agg #[.int .i64 0, .int .i64 0, .int .i64 0, .int .i64 0, .string ⟨#[]⟩, .slice none 0 0], .bool false]) (results_cell2 (p := 2) (q := 3) (ty := 97) rfl _ _ _ ⟨h0, 0, none⟩ rfl _ hld) rfl ⟨(by first | exact (unhide HY).2 | (have q := (unhide HY).2; rw [(unhide HH0).1] at q; exact q)), fun _ => rfl, fun q => absurd q (unhide HNOK)⟩
  case pos =>
  have d2 : ((s.size : Int) != 51 + (N9 : Int) * 258) = false := by simp; omega
  have d3 := unhide HWR
  have d4 := unhide HWR2
  have HOK := hide (show mbB K9n Z9 (F9 : Int) (T9 : Int) (frW q7 N9) = true → frOk s from fun q => (unhide HOKI).2 ⟨hL, hN, q⟩)
  have HNK := hide (show mbB K9n Z9 (F9 : Int) (T9 : Int) (frW q7 N9) = false → ¬ frOk s from fun q h => by have := ((unhide HOKI).1 h).2.2; rw [q] at this; cases this)
  have hx : q7.size = N9 * 258 := by omega
  have hn9 : N9 ≤ 1024 := by have := (unhide HSZ).2.2; omega
  have hrk := (unhide HBA).2
  have hB6 := (unhide HBA).1
  have hB0 := (unhide HWA).1
  obtain ⟨PP, hPP⟩ : ∃ PP : Ending → World → Prop, ∀ e w', PP e w' ↔ (fun (e : Ending) (w' : World) => Below w.heap.size w w' ∧ (¬ frOk s → e = .returned (.tuple #[.agg #[.int .i64 0, .int .i64 0, .int .i64 0, .int .i64 0, .string ⟨#[]⟩, .slice none 0 0], .bool false])) ∧ (frOk s → ∃ p c, e = .returned (.tuple #[.agg #[.int .i64 (frK s : Int), .int .i64 (frZ s : Int), .int .i64 (frF s : Int), .int .i64 (frT s : Int), .string (frR s), .slice p (frN s) c], .bool true]) ∧ SWr w' w'.heap.size p (frW (fq7 s) (frN s)))) e w' := ⟨(fun (e : Ending) (w' : World) => Below w.heap.size w w' ∧ (¬ frOk s → e = .returned (.tuple #[.agg #[.int .i64 0, .int .i64 0, .int .i64 0, .int .i64 0, .string ⟨#[]⟩, .slice none 0 0], .bool false])) ∧ (frOk s → ∃ p c, e = .returned (.tuple #[.agg #[.int .i64 (frK s : Int), .int .i64 (frZ s : Int), .int .i64 (frF s : Int), .int .i64 (frT s : Int), .string (frR s), .slice p (frN s) c], .bool true]) ∧ SWr w' w'.heap.size p (frW (fq7 s) (frN s)))), fun _ _ => Iff.rfl⟩
  have HPP := hide hPP
  have hQ1 : mbB K9n Z9 (F9 : Int) (T9 : Int) (frW q7 N9) = false → ∀ w', Only (fun q => q = h0 ∨ q = h6 ∨ q = b) w0 w' → PP (.returned (.tuple #[.agg #[.int .i64 0, .int .i64 0, .int .i64 0, .int .i64 0, .string ⟨#[]⟩, .slice none 0 0], .bool false])) w' := fun hm w' ho => (hPP _ _).2 ⟨(unhide HWA).2.trans (ho.below (unhide HWA).2.size (fun q hq e => by have := unhide HGE; omega)), fun _ => rfl, fun q => absurd q (unhide HNK hm)⟩
  have hQ2 : mbB K9n Z9 (F9 : Int) (T9 : Int) (frW q7 N9) = true → ∀ w' p c, Only (fun q => q = h0 ∨ q = h6 ∨ q = b) w0 w' → SWr w' w'.heap.size p (frW q7 N9) → PP (.returned (.tuple #[.agg #[.int .i64 (K9n : Int), .int .i64 (Z9 : Int), .int .i64 (F9 : Int), .int .i64 (T9 : Int), .string R9, .slice p N9 c], .bool true])) w' := fun hm w' p c ho hsw => (hPP _ _).2 ⟨(unhide HWA).2.trans (ho.below (unhide HWA).2.size (fun q hq e => by have := unhide HGE; omega)), fun q => absurd (unhide HOK hm) q, fun _ => by
    obtain ⟨a1, a2, a3, a4, a5, a6, a7⟩ := unhide HEQ
    rw [a1, a2, a3, a4, a5, a6, a7]
    exact ⟨p, c, rfl, hsw⟩⟩
  clear hPP
  clear hL hN HOKI HEQ HSZ HST HOKR HB0 HG0 HLT HWR HWR2 HNOT
  obtain ⟨k, rfl⟩ : ∃ q, q = K9n := ⟨_, rfl⟩
  obtain ⟨z, rfl⟩ : ∃ q, q = Z9 := ⟨_, rfl⟩
  obtain ⟨f, rfl⟩ : ∃ q, q = F9 := ⟨_, rfl⟩
  obtain ⟨t, rfl⟩ : ∃ q, q = T9 := ⟨_, rfl⟩
  obtain ⟨n, rfl⟩ : ∃ q, q = N9 := ⟨_, rfl⟩
  obtain ⟨r, rfl⟩ : ∃ q, q = R9 := ⟨_, rfl⟩
  obtain ⟨x, rfl⟩ : ∃ q, q = q7 := ⟨_, rfl⟩
  obtain ⟨tk, htk⟩ : ∃ q : Nat, q = 47 := ⟨_, rfl⟩
  replace hrk : Rk w0 b x tk := by rw [htk]; exact hrk
  clear hn47 hb6 hl8 htk z0 z1 z2 z3 z4 z5 z6 z7
  obtain ⟨i0, hi0, hz0, hz1, hz2⟩ := info_parts yr_info
  have HI := hide (And.intro hi0 (And.intro hz0 (And.intro hz1 hz2)))
  have hb6 : b ≠ h6 := Blk.tyne hrk.1 hB6 (by decide)
  have hb0 : b ≠ h0 := Blk.tyne hrk.1 hB0 (by decide)
  have hl6 := hB6.lt
  have hl0 := hB0.lt
  have hlb := hrk.lt
  have HET := hide hrk.2.1
  have HX0 := hide (show (Rk w0 b (frS x (0)) (tk + (0) * 258) ∧ Blk w0 h6 #[.int .i64 (k : Int), .int .i64 (z : Int), .int .i64 (f : Int), .int .i64 (t : Int), .string r, .slice none (0) 0] 97 ∧ w0.ownsRow w0.heap.size 149 2 (.slice none (0) 0) (0) (wrR (frW x (0))) ∧ Only (fun q => q = h6 ∨ q = b) w0 w0) from ⟨hrk, hB6, World.ownsRow_nil _ _ _ _, Only.refl _ _⟩)
  have HB0 := hide hB0
  have HFS := hide (frS_size x n hx)
  have HQ1 := hide hQ1
  have HQ2 := hide hQ2
  clear hi0 hz0 hz1 hz2 hx hrk hB6 hB0 hQ1 hQ2
  go_wp2_with fail
  rename_i K9 aK9
  have hK : ∀ (wx : World) (pu : Option Addr) (cu : Nat) (_ : (Rk wx b (frS x (n)) (tk + (n) * 258) ∧ Blk wx h6 #[.int .i64 (k : Int), .int .i64 (z : Int), .int .i64 (f : Int), .int .i64 (t : Int), .string r, .slice pu n cu] 97 ∧ wx.ownsRow w0.heap.size 149 2 (.slice pu (n) cu) (n) (wrR (frW x (n))) ∧ Only (fun q => q = h6 ∨ q = b) w0 wx)) (t0 t1 t3 t4 t5 t7 t8 t9 t10 t11 t12 t13 t14 t15 t16 t17 t18 t19 t20 t21 t22 t23 t24 t25 t26 t27 t28 t29 t30 t31 t32 t33 t34 t35 t36 t37 t38 t39 t40 t41 t42 t43 t44 t45 t46 t47 t48 t49 t50 t51 t52 t53 t54 t55 t56 t57 t58 t59 t60 t61 t62 t63 t64 t65 t66 t67 t68 t69 t70 t71 t72 : Value), K9 ⟨#[t0, t1, .pointer (some ⟨h0, 0, none⟩), t3, t4, t5, .pointer (some ⟨h6, 0, none⟩), t7, t8, t9, t10, t11, t12, t13, t14, t15, t16, t17, t18, t19, t20, t21, t22, t23, t24, t25, t26, t27, t28, t29, t30, t31, t32, t33, t34, t35, t36, t37, t38, t39, t40, t41, t42, t43, t44, t45, t46, t47, t48, t49, t50, t51, t52, t53, t54, t55, t56, t57, t58, t59, t60, t61, t62, t63, t64, t65, t66, t67, t68, t69, t70, t71, t72], []⟩ wx := fun wx pu cu q1 t0 t1 t3 t4 t5 t7 t8 t9 t10 t11 t12 t13 t14 t15 t16 t17 t18 t19 t20 t21 t22 t23 t24 t25 t26 t27 t28 t29 t30 t31 t32 t33 t34 t35 t36 t37 t38 t39 t40 t41 t42 t43 t44 t45 t46 t47 t48 t49 t50 t51 t52 t53 t54 t55 t56 t57 t58 t59 t60 t61 t62 t63 t64 t65 t66 t67 t68 t69 t70 t71 t72 => aK9 _ _ (by
    have hsw := own_swr (frW_len x n) q1.2.2.1
    have hb0x := (unhide HB0).only q1.2.2.2 (by rintro (q | q); exact h06 q; exact hb0 q.symm)
    exact frE_walk wx h0 h6 wx.heap.size k z f t n cu r pu (frW x n) (frW_len x n) (by omega) (fun j hj => by
      rw [frW_len] at hj
      rw [frW_at x n j hj]
      exact beT_lt _ 2 65536 (by decide)) hsw (Nat.le_refl _) q1.2.1 hb0x _ (fun hm w' ho => ((unhide HPP) _ _).1 <| unhide HQ1 hm w' ((q1.2.2.2.mono (Q := (fun q => q = h0 ∨ q = h6 ∨ q = b)) (fun _ _ q => .inr q)).trans ho (fun _ _ q => .inl q))) (fun hm w' ho => ((unhide HPP) _ _).1 <| unhide HQ2 hm w' pu cu ((q1.2.2.2.mono (Q := (fun q => q = h0 ∨ q = h6 ∨ q = b)) (fun _ _ q => .inr q)).trans ho (fun _ _ q => .inl q)) (own_swr (frW_len x n) (owns_only q1.2.2.1 ho (fun q hq e => by
        have := (q1.2.2.1.lt q hq).1
        omega)))) t0 t1 t3 t4 t5 t7 t8 t9 t10 t11 t12 t13 t14 t15 t16 t17 t18 t19 t20 t21 t22 t23 t24 t25 t26 t27 t28 t29 t30 t31 t32 t33 t34 t35 t36 t37 t38 t39 t40 t41 t42 t43 t44 t45 t46 t47 t48 t49 t50 t51 t52 t53 t54 t55 t56 t57 t58 t59 t60 t61 t62 t63 t64 t65 t66 t67 t68 t69 t70 t71 t72)
  have HK := hide hK
  clear hK aK9 HQ1 HQ2
  go_loopw [55] (fun i wr => ∃ (j : Nat) (pu : Option Addr) (cu : Nat), j ≤ n ∧ i = .int .i64 (j : Int) ∧ Hid (Rk wr b (frS x (j)) (tk + (j) * 258) ∧ Blk wr h6 #[.int .i64 (k : Int), .int .i64 (z : Int), .int .i64 (f : Int), .int .i64 (t : Int), .string r, .slice pu j cu] 97 ∧ wr.ownsRow w0.heap.size 149 2 (.slice pu (j) cu) (j) (wrR (frW x (j))) ∧ Only (fun q => q = h6 ∨ q = b) w0 wr)) (fun i _ => n - (intOf i).toNat)
  case atStart => exact ⟨0, none, 0, by omega, rfl, HX0⟩
  case round =>
  obtain ⟨j, pu, cu, hj, rfl, HR⟩ := hrel
  obtain ⟨wr, rfl⟩ : ∃ q, q = wr := ⟨_, rfl⟩
  clear HX0
  by_cases hjn : j < n
  case neg =>
    obtain rfl : j = n := by omega
    have e1 : ¬ (j : Int) < (j : Int) := by omega
    go_wp2_with fail
    exact unhide HK wr pu cu (unhide HR) _ _ _ _ _ _ _ _ _ _ _ _ _ _ _ _ _ _ _ _ _ _ _ _ _ _ _ _ _ _ _ _ _ _ _ _ _ _ _ _ _ _ _ _ _ _ _ _ _ _ _ _ _ _ _ _ _ _ _ _ _ _ _ _ _ _ _ _ _ _ _
  case pos =>
      have e1 : (j : Int) < (n : Int) := by omega
      clear HK
      have hqs := unhide HFS j (by omega)
      have hwss := (unhide HR).2.2.2.size
      have HWS := hide hwss
      have c5 : wr.drew.cell? ⟨h6, 5, none⟩ = some (.slice pu j cu) := by
        have := (unhide HR).2.1.cell 5
        exact this.trans rfl
      obtain ⟨qj, hqj⟩ : ∃ q, frS x j = q := ⟨_, rfl⟩
      have HSX := hide (show frW x (j + 1) = frW x j ++ [(beT qj 2, (qj.extract 2 qj.size).extract 0 256)] ∧ frS x (j + 1) = (qj.extract 2 qj.size).extract 256 (qj.extract 2 qj.size).size from by
        refine ⟨?_, by rw [← hqj]; rfl⟩
        unfold frW
        rw [List.range_succ, List.map_append, List.map_singleton, hqj]
        rfl)
      have hrk := (unhide HR).1
      rw [hqj] at hqs hrk
      have hrd : Rk wr.drew b qj (tk + j * 258) := hrk
      have HN1 := hide (yknum_any wr.drew b qj (tk + j * 258) 2 hrd (by omega) (by omega) (by omega))
      rw [← beT_v] at HN1
      have ha6 := beT_lt qj 2 65536 (by decide)
      obtain ⟨a, hae⟩ : ∃ q, beT qj 2 = q := ⟨_, rfl⟩
      rw [hae] at HN1 HSX ha6
      obtain ⟨q1, hq1⟩ : ∃ q, qj.extract 2 qj.size = q := ⟨_, rfl⟩
      have hq1s : q1.size + 2 = qj.size := by rw [← hq1, ByteArray.size_extract]; omega
      rw [hq1] at HN1 HSX
      obtain ⟨sx, hsx⟩ : ∃ q, q1.extract 0 256 = q := ⟨_, rfl⟩
      obtain ⟨q2, hq2⟩ : ∃ q, q1.extract 256 q1.size = q := ⟨_, rfl⟩
      have HRW := hide (show ∀ y, Rk y b q1 (tk + j * 258 + 2) → Calls Tryz.prog 81 #[.pointer (some ⟨b, 0, none⟩), .int .i64 256] y fun e w' => e = .returned (.string sx) ∧ Rk w' b q2 (tk + j * 258 + 2 + 256) ∧ Only (fun k => k = b) y w' from fun y hy => by
        have := ykraw_any y b q1 (tk + j * 258 + 2) 256 hy (by omega)
        rw [hsx, hq2] at this
        exact this)
      rw [hsx, hq2] at HSX
      have HX8 := hide (show ∀ y8, Rk y8 b q1 (tk + j * 258 + 2) → Only (fun k => k = b) wr.drew y8 → y8.cell? ⟨h6, 5, none⟩ = some (.slice pu j cu) ∧ Hid (Rk y8 b q1 (tk + j * 258 + 2) ∧ Blk y8 h6 #[.int .i64 (k : Int), .int .i64 (z : Int), .int .i64 (f : Int), .int .i64 (t : Int), .string r, .slice pu j cu] 97 ∧ y8.ownsRow w0.heap.size 149 2 (.slice pu j cu) j (wrR (frW x j)) ∧ Only (fun q => q = h6 ∨ q = b) w0 y8) from fun y8 hr ho => by
        have hon : Only (fun k => k = b) wr y8 := ⟨⟨ho.1.os, ho.1.tape, ho.1.output, ho.1.size, ho.1.block⟩, ho.2⟩
        have k6 := (unhide HR).2.1.only hon (fun q => hb6 q.symm)
        refine ⟨by rw [k6.cell 5]; rfl, hide ⟨hr, k6, owns_only (unhide HR).2.2.1 hon (fun q hq e => ?_), (unhide HR).2.2.2.trans hon (fun _ _ q => .inr q)⟩⟩
        have := ((unhide HR).2.2.1.lt q hq).1
        omega)
      have HX9 := hide (show ∀ y8 y9, Hid (Rk y8 b q1 (tk + j * 258 + 2) ∧ Blk y8 h6 #[.int .i64 (k : Int), .int .i64 (z : Int), .int .i64 (f : Int), .int .i64 (t : Int), .string r, .slice pu j cu] 97 ∧ y8.ownsRow w0.heap.size 149 2 (.slice pu j cu) j (wrR (frW x j)) ∧ Only (fun q => q = h6 ∨ q = b) w0 y8) → Rk y9 b q2 (tk + j * 258 + 2 + 256) → Only (fun k => k = b) y8 y9 → y9.cell? ⟨h6, 5, none⟩ = some (.slice pu j cu) ∧ (y9.alloc (.cells #[.int .i64 (a : Int), .string sx] 149)).cell? ⟨h6, 5, none⟩ = some (.slice pu j cu) ∧ Hid ((Rk y9 b q2 (tk + j * 258 + 2 + 256) ∧ Blk y9 h6 #[.int .i64 (k : Int), .int .i64 (z : Int), .int .i64 (f : Int), .int .i64 (t : Int), .string r, .slice pu j cu] 97) ∧ Only (fun q => q = h6 ∨ q = b) w0 y9 ∧ (y9.alloc (.cells #[.int .i64 (a : Int), .string sx] 149)).ownsRow w0.heap.size 149 2 (.slice pu j cu) j (wrR (frW x j))) from fun y8 y9 H8 hr ho => by
        have k6 := (unhide H8).2.1.only ho (fun q => hb6 q.symm)
        have k6a := k6.alloc (.cells #[.int .i64 (a : Int), .string sx] 149)
        refine ⟨by rw [k6.cell 5]; rfl, by rw [k6a.cell 5]; rfl, hide ⟨⟨hr, k6⟩, (unhide H8).2.2.2.trans ho (fun _ _ q => .inr q), (owns_only (unhide H8).2.2.1 ho (fun q hq e => ?_)).alloc _⟩⟩
        have := ((unhide H8).2.2.1.lt q hq).1
        omega)
      have HX5 := hide (show ∀ y9 g5 cap5 (x5 : World), Hid ((Rk y9 b q2 (tk + j * 258 + 2 + 256) ∧ Blk y9 h6 #[.int .i64 (k : Int), .int .i64 (z : Int), .int .i64 (f : Int), .int .i64 (t : Int), .string r, .slice pu j cu] 97) ∧ Only (fun q => q = h6 ∨ q = b) w0 y9 ∧ (y9.alloc (.cells #[.int .i64 (a : Int), .string sx] 149)).ownsRow w0.heap.size 149 2 (.slice pu j cu) j (wrR (frW x j))) → x5.ownsRow w0.heap.size 149 2 (.slice (some ⟨g5, 0, none⟩) (j + 1) cap5) (j + 1) (wrR (frW x j) ++ [.int .i64 (a : Int), .string sx]) → (y9.alloc (.cells #[.int .i64 (a : Int), .string sx] 149)).grownBy x5 (Value.slice pu j cu).ownBlock → x5.cell? ⟨h6, 5, none⟩ = some (.slice pu j cu) ∧ x5.frozen? ⟨h6, 5, none⟩ = false ∧ Hid (Rk (x5.setCell ⟨h6, 5, none⟩ (.slice (some ⟨g5, 0, none⟩) (j + 1) cap5)) b (frS x (j + 1)) (tk + (j + 1) * 258) ∧ Blk (x5.setCell ⟨h6, 5, none⟩ (.slice (some ⟨g5, 0, none⟩) (j + 1) cap5)) h6 #[.int .i64 (k : Int), .int .i64 (z : Int), .int .i64 (f : Int), .int .i64 (t : Int), .string r, .slice (some ⟨g5, 0, none⟩) (j + 1) cap5] 97 ∧ (x5.setCell ⟨h6, 5, none⟩ (.slice (some ⟨g5, 0, none⟩) (j + 1) cap5)).ownsRow w0.heap.size 149 2 (.slice (some ⟨g5, 0, none⟩) (j + 1) cap5) (j + 1) (wrR (frW x (j + 1))) ∧ Only (fun q => q = h6 ∨ q = b) w0 (x5.setCell ⟨h6, 5, none⟩ (.slice (some ⟨g5, 0, none⟩) (j + 1) cap5))) from fun y9 g5 cap5 x5 H9 ho5 hg5 => by
        obtain ⟨⟨k1, k6⟩, k3, k4⟩ := unhide H9
        have hrow : ∀ q, (Value.slice pu j cu).ownBlock = some q → w0.heap.size ≤ q := fun q hq => (k4.lt q hq).1
        have hon : Only (fun q => w0.heap.size ≤ q) (y9.alloc (.cells #[.int .i64 (a : Int), .string sx] 149)) x5 := (Only.refl _ _).grown hg5 (fun q _ hq => hrow q hq)
        have k6b := (k6.alloc (.cells #[.int .i64 (a : Int), .string sx] 149)).only hon (by show ¬ w0.heap.size ≤ h6; omega)
        have hra : Rk (y9.alloc (.cells #[.int .i64 (a : Int), .string sx] 149)) b q2 (tk + j * 258 + 2 + 256) := ⟨Blk.alloc k1.1 _, k1.2.1.below ((Below.refl _ y9).alloc (Nat.le_refl _) _) k1.2.1.lt, k1.2.2⟩
        have hr5 : Rk x5 b q2 (tk + j * 258 + 2 + 256) := ⟨Blk.only hra.1 hon (by show ¬ w0.heap.size ≤ b; omega), hra.2.1.only hon (by show ¬ w0.heap.size ≤ _; have := (unhide HET).lt; omega), hra.2.2⟩
        refine ⟨by rw [k6b.cell 5]; rfl, k6b.frozen 5, hide ⟨?_, k6b.set 5 (.slice (some ⟨g5, 0, none⟩) (j + 1) cap5), ?_, ?_⟩⟩
        · rw [(unhide HSX).2, show tk + (j + 1) * 258 = tk + j * 258 + 2 + 256 by omega]
          exact ⟨Blk.other hr5.1 ⟨h6, 5, none⟩ _ (fun q => hb6 q.symm), ety_only6 hr5.2.1 k6b rfl ((Only.refl (fun q => q = h6) x5).setCell ⟨h6, 5, none⟩ _ (fun _ => rfl)), hr5.2.2⟩
        · rw [(unhide HSX).1, wrR_snoc]
          exact owns_only ho5 ((Only.refl (fun q => q = h6) x5).setCell ⟨h6, 5, none⟩ _ (fun _ => rfl)) (fun q hq e => by
            have := (ho5.lt q hq).1
            omega)
        · have t1 : Only (fun q => q = h6 ∨ q = b) w0 x5 := (k3.alloc _).trans hon (fun q hq h => by omega)
          exact t1.setCell _ _ (fun _ => .inl rfl))
      clear hqs hrk hrd hqj hae hq1 hq1s hsx hq2 HSX ha6
      go_wp2_with fail
      refine wp_region_held_drew (S := fun _ => True) (by kernel_rfl) trivial ?_
      intro hS
      refine wpAnyH_takeD 0 (some 57) (.pointer (some ⟨h6, 5, none⟩)) rfl rfl (by kernel_rfl) (by kernel_rfl) (by kernel_rfl) (fun _ _ _ h => h) (Or.inl ⟨by rfl, fun w hSw => by go_simp; try (intro hbad; omega)⟩) hS ?_
      simp only [Act.put, List.setIfInBounds_toArray, List.set_cons_zero, List.set_cons_succ]
      refine wpAnyH_takeD 2 (some 59) (.pointer (some ⟨b, 0, none⟩)) rfl rfl (by kernel_rfl) (by kernel_rfl) (by kernel_rfl) (fun _ _ _ h => h) (Or.inl ⟨by rfl, fun w hSw => by go_simp; try (intro hbad; omega)⟩) hS ?_
      simp only [Act.put, List.setIfInBounds_toArray, List.set_cons_zero, List.set_cons_succ]
      refine wpAnyH_takeD 4 (some 61) (.pointer (some ⟨b, 0, none⟩)) rfl rfl (by kernel_rfl) (by kernel_rfl) (by kernel_rfl) (fun _ _ _ h => h) (Or.inl ⟨by rfl, fun w hSw => by go_simp; try (intro hbad; omega)⟩) hS ?_
      simp only [Act.put, List.setIfInBounds_toArray, List.set_cons_zero, List.set_cons_succ]
      refine wpAnyH_ready (rs := [1, 3]) (by kernel_rfl) (by simp) ?_
      refine AllReadyH.cons rfl (fun K hK => ?_) ?_
      · simp only [List.getElem_toArray, List.getElem_cons_succ, List.getElem_cons_zero]
        go_simp
        refine hK.out _ _ trivial (fun hS => ?_)
        clear hK K
        refine wpAnyH_ready (rs := [3]) (by kernel_rfl) (by simp) ?_
        refine AllReadyH.cons rfl (fun K hK => ?_) AllReadyH.nil
        simp only [List.getElem_toArray, List.getElem_cons_succ, List.getElem_cons_zero]
        go_simp
        refine (unhide HN1).mono ?_
        rintro e y8 ⟨rfl, hr8, ho8⟩
        obtain ⟨m8, HP8⟩ := unhide HX8 y8 hr8 ho8
        clear hr8 ho8
        refine hK.out _ _ trivial (fun hS => ?_)
        clear hK K
        refine wpAnyH_ready (rs := [5]) (by kernel_rfl) (by simp) ?_
        refine AllReadyH.cons rfl (fun K hK => ?_) AllReadyH.nil
        simp only [List.getElem_toArray, List.getElem_cons_succ, List.getElem_cons_zero]
        go_simp
        refine (unhide HRW y8 (unhide HP8).1).mono ?_
        rintro e y9 ⟨rfl, hr9, ho9⟩
        obtain ⟨m9, m9a, HP9⟩ := unhide HX9 y8 y9 HP8 hr9 ho9
        clear hr9 ho9
        refine hK.out _ _ trivial (fun hS => ?_)
        clear hK K
        refine wpAnyH_takeD 6 (some 63) (.agg #[.int .i64 (a : Int), .string sx]) rfl rfl (by kernel_rfl) (by kernel_rfl) (by kernel_rfl) (fun _ _ _ h => h) (Or.inl ⟨by rfl, fun w hSw => by go_simp; try (intro hbad; omega)⟩) hS ?_
        simp only [Act.put, List.setIfInBounds_toArray, List.set_cons_zero, List.set_cons_succ]
        refine wpAnyH_ready (rs := [7]) (by kernel_rfl) (by simp) ?_
        refine AllReadyH.cons rfl (fun K hK => ?_) AllReadyH.nil
        simp only [List.getElem_toArray, List.getElem_cons_succ, List.getElem_cons_zero]
        go_simp
        refine hK.out _ _ trivial (fun hS => ?_)
        clear hK K
        refine wpAnyH_ready (rs := [8]) (by kernel_rfl) (by simp) ?_
        refine AllReadyH.cons rfl (fun K hK => ?_) AllReadyH.nil
        rw [if_pos (by rfl)]
        refine wp_append_lies _ (.tmp 58) (.tmp 64) 95 rfl w0.heap.size 149 i0 (.agg #[.int .i64 0, .string ⟨#[]⟩]) 2 24 Tryz.underlying95 (unhide HI).1 (unhide HI).2.1 (unhide HI).2.2.1 (unhide HI).2.2.2 rfl (by decide) _ j _ rfl (unhide HP9).2.2 ⟨y9.heap.size, 0, none⟩ 1 1 [.int .i64 (a : Int), .string sx] rfl rfl (fun q u hu => yr_two y9 _ _ _ q u hu) (by simp [Value.oneCell']) (by decide) (by unfold maxLen; omega) (by omega) (by have := (unhide HP9).2.1.1.size; have := unhide HWS; simp; omega) (y9.heap.size + 1) (by simp) ?_
        intro g5 cap5 x5 ho5 hg5 _ _
        obtain ⟨m5, fz, HP5⟩ := unhide HX5 y9 g5 cap5 x5 HP9 ho5 hg5
        clear ho5 hg5
        simp only [List.getElem_toArray, List.getElem_cons_succ, List.getElem_cons_zero]
        simp only [Act.put, List.setIfInBounds_toArray, List.set_cons_zero, List.set_cons_succ]
        refine hK.out _ _ trivial (fun hS => ?_)
        clear hK K
        refine wpAnyH_takeD 9 (some 66) (.pointer (some ⟨h6, 5, none⟩)) rfl rfl (by kernel_rfl) (by kernel_rfl) (by kernel_rfl) (fun _ _ _ h => h) (Or.inl ⟨by rfl, fun w hSw => by go_simp; try (intro hbad; omega)⟩) hS ?_
        simp only [Act.put, List.setIfInBounds_toArray, List.set_cons_zero, List.set_cons_succ]
        refine wpAnyH_ready (rs := [10]) (by kernel_rfl) (by simp) ?_
        refine AllReadyH.cons rfl (fun K hK => ?_) AllReadyH.nil
        simp only [List.getElem_toArray, List.getElem_cons_succ, List.getElem_cons_zero]
        go_simp
        refine hK.out _ _ trivial (fun hS => ?_)
        clear hK K
        refine wpAnyH_done (by kernel_rfl) ?_ _
        clear hS m5 fz
        go_wp2
        go_roundw
        case rel => exact ⟨j + 1, _, _, by omega, by go_num, HP5⟩
        case measure => simp [intOf] <;> omega
      refine AllReadyH.cons rfl (fun K hK => ?_) AllReadyH.nil
      simp only [List.getElem_toArray, List.getElem_cons_succ, List.getElem_cons_zero]
      go_simp
      refine (unhide HN1).mono ?_
      rintro e y8 ⟨rfl, hr8, ho8⟩
      obtain ⟨m8, HP8⟩ := unhide HX8 y8 hr8 ho8
      clear hr8 ho8
      refine hK.out _ _ trivial (fun hS => ?_)
      clear hK K
      refine wpAnyH_ready (rs := [1, 5]) (by kernel_rfl) (by simp) ?_
      refine AllReadyH.cons rfl (fun K hK => ?_) ?_
      · simp only [List.getElem_toArray, List.getElem_cons_succ, List.getElem_cons_zero]
        go_simp
        refine hK.out _ _ trivial (fun hS => ?_)
        clear hK K
        refine wpAnyH_ready (rs := [5]) (by kernel_rfl) (by simp) ?_
        refine AllReadyH.cons rfl (fun K hK => ?_) AllReadyH.nil
        simp only [List.getElem_toArray, List.getElem_cons_succ, List.getElem_cons_zero]
        go_simp
        refine (unhide HRW y8 (unhide HP8).1).mono ?_
        rintro e y9 ⟨rfl, hr9, ho9⟩
        obtain ⟨m9, m9a, HP9⟩ := unhide HX9 y8 y9 HP8 hr9 ho9
        clear hr9 ho9
        refine hK.out _ _ trivial (fun hS => ?_)
        clear hK K
        refine wpAnyH_takeD 6 (some 63) (.agg #[.int .i64 (a : Int), .string sx]) rfl rfl (by kernel_rfl) (by kernel_rfl) (by kernel_rfl) (fun _ _ _ h => h) (Or.inl ⟨by rfl, fun w hSw => by go_simp; try (intro hbad; omega)⟩) hS ?_
        simp only [Act.put, List.setIfInBounds_toArray, List.set_cons_zero, List.set_cons_succ]
        refine wpAnyH_ready (rs := [7]) (by kernel_rfl) (by simp) ?_
        refine AllReadyH.cons rfl (fun K hK => ?_) AllReadyH.nil
        simp only [List.getElem_toArray, List.getElem_cons_succ, List.getElem_cons_zero]
        go_simp
        refine hK.out _ _ trivial (fun hS => ?_)
        clear hK K
        refine wpAnyH_ready (rs := [8]) (by kernel_rfl) (by simp) ?_
        refine AllReadyH.cons rfl (fun K hK => ?_) AllReadyH.nil
        rw [if_pos (by rfl)]
        refine wp_append_lies _ (.tmp 58) (.tmp 64) 95 rfl w0.heap.size 149 i0 (.agg #[.int .i64 0, .string ⟨#[]⟩]) 2 24 Tryz.underlying95 (unhide HI).1 (unhide HI).2.1 (unhide HI).2.2.1 (unhide HI).2.2.2 rfl (by decide) _ j _ rfl (unhide HP9).2.2 ⟨y9.heap.size, 0, none⟩ 1 1 [.int .i64 (a : Int), .string sx] rfl rfl (fun q u hu => yr_two y9 _ _ _ q u hu) (by simp [Value.oneCell']) (by decide) (by unfold maxLen; omega) (by omega) (by have := (unhide HP9).2.1.1.size; have := unhide HWS; simp; omega) (y9.heap.size + 1) (by simp) ?_
        intro g5 cap5 x5 ho5 hg5 _ _
        obtain ⟨m5, fz, HP5⟩ := unhide HX5 y9 g5 cap5 x5 HP9 ho5 hg5
        clear ho5 hg5
        simp only [List.getElem_toArray, List.getElem_cons_succ, List.getElem_cons_zero]
        simp only [Act.put, List.setIfInBounds_toArray, List.set_cons_zero, List.set_cons_succ]
        refine hK.out _ _ trivial (fun hS => ?_)
        clear hK K
        refine wpAnyH_takeD 9 (some 66) (.pointer (some ⟨h6, 5, none⟩)) rfl rfl (by kernel_rfl) (by kernel_rfl) (by kernel_rfl) (fun _ _ _ h => h) (Or.inl ⟨by rfl, fun w hSw => by go_simp; try (intro hbad; omega)⟩) hS ?_
        simp only [Act.put, List.setIfInBounds_toArray, List.set_cons_zero, List.set_cons_succ]
        refine wpAnyH_ready (rs := [10]) (by kernel_rfl) (by simp) ?_
        refine AllReadyH.cons rfl (fun K hK => ?_) AllReadyH.nil
        simp only [List.getElem_toArray, List.getElem_cons_succ, List.getElem_cons_zero]
        go_simp
        refine hK.out _ _ trivial (fun hS => ?_)
        clear hK K
        refine wpAnyH_done (by kernel_rfl) ?_ _
        clear hS m5 fz
        go_wp2
        go_roundw
        case rel => exact ⟨j + 1, _, _, by omega, by go_num, HP5⟩
        case measure => simp [intOf] <;> omega
      refine AllReadyH.cons rfl (fun K hK => ?_) AllReadyH.nil
      simp only [List.getElem_toArray, List.getElem_cons_succ, List.getElem_cons_zero]
      go_simp
      refine (unhide HRW y8 (unhide HP8).1).mono ?_
      rintro e y9 ⟨rfl, hr9, ho9⟩
      obtain ⟨m9, m9a, HP9⟩ := unhide HX9 y8 y9 HP8 hr9 ho9
      clear hr9 ho9
      refine hK.out _ _ trivial (fun hS => ?_)
      clear hK K
      refine wpAnyH_takeD 6 (some 63) (.agg #[.int .i64 (a : Int), .string sx]) rfl rfl (by kernel_rfl) (by kernel_rfl) (by kernel_rfl) (fun _ _ _ h => h) (Or.inl ⟨by rfl, fun w hSw => by go_simp; try (intro hbad; omega)⟩) hS ?_
      simp only [Act.put, List.setIfInBounds_toArray, List.set_cons_zero, List.set_cons_succ]
      refine wpAnyH_ready (rs := [1, 7]) (by kernel_rfl) (by simp) ?_
      refine AllReadyH.cons rfl (fun K hK => ?_) ?_
      · simp only [List.getElem_toArray, List.getElem_cons_succ, List.getElem_cons_zero]
        go_simp
        refine hK.out _ _ trivial (fun hS => ?_)
        clear hK K
        refine wpAnyH_ready (rs := [7]) (by kernel_rfl) (by simp) ?_
        refine AllReadyH.cons rfl (fun K hK => ?_) AllReadyH.nil
        simp only [List.getElem_toArray, List.getElem_cons_succ, List.getElem_cons_zero]
        go_simp
        refine hK.out _ _ trivial (fun hS => ?_)
        clear hK K
        refine wpAnyH_ready (rs := [8]) (by kernel_rfl) (by simp) ?_
        refine AllReadyH.cons rfl (fun K hK => ?_) AllReadyH.nil
        rw [if_pos (by rfl)]
        refine wp_append_lies _ (.tmp 58) (.tmp 64) 95 rfl w0.heap.size 149 i0 (.agg #[.int .i64 0, .string ⟨#[]⟩]) 2 24 Tryz.underlying95 (unhide HI).1 (unhide HI).2.1 (unhide HI).2.2.1 (unhide HI).2.2.2 rfl (by decide) _ j _ rfl (unhide HP9).2.2 ⟨y9.heap.size, 0, none⟩ 1 1 [.int .i64 (a : Int), .string sx] rfl rfl (fun q u hu => yr_two y9 _ _ _ q u hu) (by simp [Value.oneCell']) (by decide) (by unfold maxLen; omega) (by omega) (by have := (unhide HP9).2.1.1.size; have := unhide HWS; simp; omega) (y9.heap.size + 1) (by simp) ?_
        intro g5 cap5 x5 ho5 hg5 _ _
        obtain ⟨m5, fz, HP5⟩ := unhide HX5 y9 g5 cap5 x5 HP9 ho5 hg5
        clear ho5 hg5
        simp only [List.getElem_toArray, List.getElem_cons_succ, List.getElem_cons_zero]
        simp only [Act.put, List.setIfInBounds_toArray, List.set_cons_zero, List.set_cons_succ]
        refine hK.out _ _ trivial (fun hS => ?_)
        clear hK K
        refine wpAnyH_takeD 9 (some 66) (.pointer (some ⟨h6, 5, none⟩)) rfl rfl (by kernel_rfl) (by kernel_rfl) (by kernel_rfl) (fun _ _ _ h => h) (Or.inl ⟨by rfl, fun w hSw => by go_simp; try (intro hbad; omega)⟩) hS ?_
        simp only [Act.put, List.setIfInBounds_toArray, List.set_cons_zero, List.set_cons_succ]
        refine wpAnyH_ready (rs := [10]) (by kernel_rfl) (by simp) ?_
        refine AllReadyH.cons rfl (fun K hK => ?_) AllReadyH.nil
        simp only [List.getElem_toArray, List.getElem_cons_succ, List.getElem_cons_zero]
        go_simp
        refine hK.out _ _ trivial (fun hS => ?_)
        clear hK K
        refine wpAnyH_done (by kernel_rfl) ?_ _
        clear hS m5 fz
        go_wp2
        go_roundw
        case rel => exact ⟨j + 1, _, _, by omega, by go_num, HP5⟩
        case measure => simp [intOf] <;> omega
      refine AllReadyH.cons rfl (fun K hK => ?_) AllReadyH.nil
      simp only [List.getElem_toArray, List.getElem_cons_succ, List.getElem_cons_zero]
      go_simp
      refine hK.out _ _ trivial (fun hS => ?_)
      clear hK K
      refine wpAnyH_ready (rs := [1]) (by kernel_rfl) (by simp) ?_
      refine AllReadyH.cons rfl (fun K hK => ?_) AllReadyH.nil
      simp only [List.getElem_toArray, List.getElem_cons_succ, List.getElem_cons_zero]
      go_simp
      refine hK.out _ _ trivial (fun hS => ?_)
      clear hK K
      refine wpAnyH_ready (rs := [8]) (by kernel_rfl) (by simp) ?_
      refine AllReadyH.cons rfl (fun K hK => ?_) AllReadyH.nil
      rw [if_pos (by rfl)]
      refine wp_append_lies _ (.tmp 58) (.tmp 64) 95 rfl w0.heap.size 149 i0 (.agg #[.int .i64 0, .string ⟨#[]⟩]) 2 24 Tryz.underlying95 (unhide HI).1 (unhide HI).2.1 (unhide HI).2.2.1 (unhide HI).2.2.2 rfl (by decide) _ j _ rfl (unhide HP9).2.2 ⟨y9.heap.size, 0, none⟩ 1 1 [.int .i64 (a : Int), .string sx] rfl rfl (fun q u hu => yr_two y9 _ _ _ q u hu) (by simp [Value.oneCell']) (by decide) (by unfold maxLen; omega) (by omega) (by have := (unhide HP9).2.1.1.size; have := unhide HWS; simp; omega) (y9.heap.size + 1) (by simp) ?_
      intro g5 cap5 x5 ho5 hg5 _ _
      obtain ⟨m5, fz, HP5⟩ := unhide HX5 y9 g5 cap5 x5 HP9 ho5 hg5
      clear ho5 hg5
      simp only [List.getElem_toArray, List.getElem_cons_succ, List.getElem_cons_zero]
      simp only [Act.put, List.setIfInBounds_toArray, List.set_cons_zero, List.set_cons_succ]
      refine hK.out _ _ trivial (fun hS => ?_)
      clear hK K
      refine wpAnyH_takeD 9 (some 66) (.pointer (some ⟨h6, 5, none⟩)) rfl rfl (by kernel_rfl) (by kernel_rfl) (by kernel_rfl) (fun _ _ _ h => h) (Or.inl ⟨by rfl, fun w hSw => by go_simp; try (intro hbad; omega)⟩) hS ?_
      simp only [Act.put, List.setIfInBounds_toArray, List.set_cons_zero, List.set_cons_succ]
      refine wpAnyH_ready (rs := [10]) (by kernel_rfl) (by simp) ?_
      refine AllReadyH.cons rfl (fun K hK => ?_) AllReadyH.nil
      simp only [List.getElem_toArray, List.getElem_cons_succ, List.getElem_cons_zero]
      go_simp
      refine hK.out _ _ trivial (fun hS => ?_)
      clear hK K
      refine wpAnyH_done (by kernel_rfl) ?_ _
      clear hS m5 fz
      go_wp2
      go_roundw
      case rel => exact ⟨j + 1, _, _, by omega, by go_num, HP5⟩
      case measure => simp [intOf] <;> omega
end Go.Proofs.YtnfdedolgfcmfaaGreatDoor
