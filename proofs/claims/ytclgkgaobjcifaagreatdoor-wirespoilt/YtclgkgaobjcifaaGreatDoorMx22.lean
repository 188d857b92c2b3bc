import Derived.Test.YtclgkgaobjcifaaGreatDoorMx20
import Derived.Test.YtclgkgaobjcifaaGreatDoorMx21
namespace Go.Proofs.YtclgkgaobjcifaaGreatDoor
open Go.RowKit
set_option maxRecDepth 100000
set_option maxHeartbeats 4000000 in
theorem told_not (kd st : Int) (t : ByteArray) (hfull : fullP kd st = false) (w : World) : Calls Tryz.prog 52 #[.int .i64 kd, .int .i64 st, .string t] w fun e w' => ∃ r : Rep, e = .returned (.agg r.cs) ∧ RM st w.heap.size r PR.bare w' ∧ Below w.heap.size w w' := by
  have HW := hide (rwhole_any kd st)
  rw [hfull] at HW
  obtain ⟨B1, B2, hbl, hs2⟩ := two_boxes w #[.int .i64 0, .int .i64 0, .int .i64 0, .slice none 0 0, .int .i64 0, .slice none 0 0, .string ⟨#[]⟩, .string ⟨#[]⟩] #[.int .i64 0, .int .i64 0, .int .i64 0, .slice none 0 0, .int .i64 0, .slice none 0 0, .string ⟨#[]⟩, .string ⟨#[]⟩] 34 34
  obtain ⟨g, hg⟩ : ∃ g, w.heap.size = g := ⟨_, rfl⟩
  rw [hg] at B1 B2 hs2 hbl ⊢
  obtain ⟨y, hy⟩ : ∃ Z, (w.alloc (.cells #[.int .i64 0, .int .i64 0, .int .i64 0, .slice none 0 0, .int .i64 0, .slice none 0 0, .string ⟨#[]⟩, .string ⟨#[]⟩] 34)).alloc (.cells #[.int .i64 0, .int .i64 0, .int .i64 0, .slice none 0 0, .int .i64 0, .slice none 0 0, .string ⟨#[]⟩, .string ⟨#[]⟩] 34) = Z := ⟨_, rfl⟩
  rw [hy] at B1 B2 hbl hs2
  have C2 := blk_setRow (cells := (Rep.bare st).cs) B2
  have C1 : Blk (y.setRow (g + 1) (Rep.bare st).cs) g _ _ := blk_setRow_other B1 (by omega)
  have hO1 : Below g w (y.setRow (g + 1) (Rep.bare st).cs) := below_setRow hbl (by omega) _
  have hS2 : g + 2 ≤ (y.setRow (g + 1) (Rep.bare st).cs).heap.size := by have := (only_setRow (w := y) (P := fun j => j = g + 1) (g + 1) (Rep.bare st).cs rfl).size; omega
  obtain ⟨y2, hy2⟩ : ∃ Z, y.setRow (g + 1) (Rep.bare st).cs = Z := ⟨_, rfl⟩
  have HZ0 := hide B2
  rw [hy2] at C1 C2 hO1 hS2
  have HY0 := hide (show Blk y2 g #[.int .i64 0, .int .i64 0, .int .i64 0, .slice none 0 0, .int .i64 0, .slice none 0 0, .string ⟨#[]⟩, .string ⟨#[]⟩] 34 ∧ Blk y2 (g + 1) (Rep.bare st).cs 34 ∧ Below g w y2 ∧ g + 2 ≤ y2.heap.size from ⟨C1, C2, hO1, hS2⟩)
  have HB0 := hide (built_rep st)
  have HO0 := hide (Rep.one (Rep.bare st))
  have c0 : y2.cell? ⟨g + 1, 0, none⟩ = some (.int .i64 st) := C2.cell 0
  clear B1 B2 hbl hs2 C1 C2 hO1 hS2 hfull
  go_enter Tryz.func52, Tryz.ntmps52
  have BT := blk_setRow (cells := (Rep.bare st).cs) (unhide HY0).1
  have HL0 := hide (iload_blk 34 _ BT Tryz.underlying34 rfl size_rep)
  have HRG := hide (show y2.rangeAt (g + 1) 0 (Rep.bare st).cl from blk_range (unhide HY0).2.1)
  have HZ := hide (unhide HY0).1
  have HO := hide (Rep.one (Rep.bare st))
  have HF := hide (show Below g w (y2.setRow g (Rep.bare st).cs) from below_setRow (unhide HY0).2.2.1 (Nat.le_refl _) _)
  have hon : Only (fun q => q = g) y2 (y2.setRow g (Rep.bare st).cs) := only_setRow (P := fun j => j = g) g (Rep.bare st).cs rfl
  have HG := hide (show RM st g (Rep.bare st) PR.bare (y2.setRow g (Rep.bare st).cs) from RM.bare _ _ _)
  clear BT hon
  go_wp2_with (first | refine wpList_buildAs rfl 34 #[(0, .tmp 9)] rfl _ rfl (Rep.bare st).cs (unhide HB0) ?_ | refine wpList_store_row rfl 34 (.tmp 7) (.tmp 10) rfl (g + 1) (Rep.bare st).cs rfl rfl 34 #[.int .i64 0, .int .i64 0, .int .i64 0, .slice none 0 0, .int .i64 0, .slice none 0 0, .string ⟨#[]⟩, .string ⟨#[]⟩] (unhide HZ0) size_rep rfl (unhide HO0) ?_ | (go_at_call 74; refine (unhide HW _).mono ?_; rintro e y ⟨rfl, hy⟩; subst y) | refine wpList_load_mid rfl 34 (.tmp 7) rfl (g + 1) 0 rfl (Rep.bare st).cl _ (unhide HRG) Tryz.underlying34 rfl size_rep ?_ | refine wpList_store_row rfl 34 (.tmp 6) (.tmp 17) rfl g (Rep.bare st).cs rfl rfl 34 #[.int .i64 0, .int .i64 0, .int .i64 0, .slice none 0 0, .int .i64 0, .slice none 0 0, .string ⟨#[]⟩, .string ⟨#[]⟩] (unhide HZ) size_rep rfl (unhide HO) ?_)
  (try simp only [Exit.inBlock, Exit.then])
  refine bodyPost_ret (results_cell rfl _ _ _ ⟨g, 0, none⟩ rfl _ (unhide HL0)) rfl ?_
  exact ⟨_, rfl, unhide HG, unhide HF⟩
set_option maxHeartbeats 4000000 in
theorem told_o (kd : Int) (k3 : (kd == 3) = false) (k6 : (kd == 6) = false) (k7 : (kd == 7) = false) (k8 : (kd == 8) = false) (k11 : (kd == 11) = false) (st : Int) (t : ByteArray) (hfull : fullP kd st = true) (A0 : PR) (hA0 : A0 = PR.bare) (w : World) : Calls Tryz.prog 52 #[.int .i64 kd, .int .i64 st, .string t] w fun e w' => ∃ r : Rep, e = .returned (.agg r.cs) ∧ RM st w.heap.size r A0 w' ∧ Below w.heap.size w w' := by
  subst hA0
  have HW := hide (rwhole_any kd st)
  rw [hfull] at HW
  obtain ⟨B1, B2, hbl, hs2⟩ := two_boxes w #[.int .i64 0, .int .i64 0, .int .i64 0, .slice none 0 0, .int .i64 0, .slice none 0 0, .string ⟨#[]⟩, .string ⟨#[]⟩] #[.int .i64 0, .int .i64 0, .int .i64 0, .slice none 0 0, .int .i64 0, .slice none 0 0, .string ⟨#[]⟩, .string ⟨#[]⟩] 34 34
  obtain ⟨g, hg⟩ : ∃ g, w.heap.size = g := ⟨_, rfl⟩
  rw [hg] at B1 B2 hs2 hbl ⊢
  obtain ⟨y, hy⟩ : ∃ Z, (w.alloc (.cells #[.int .i64 0, .int .i64 0, .int .i64 0, .slice none 0 0, .int .i64 0, .slice none 0 0, .string ⟨#[]⟩, .string ⟨#[]⟩] 34)).alloc (.cells #[.int .i64 0, .int .i64 0, .int .i64 0, .slice none 0 0, .int .i64 0, .slice none 0 0, .string ⟨#[]⟩, .string ⟨#[]⟩] 34) = Z := ⟨_, rfl⟩
  rw [hy] at B1 B2 hbl hs2
  have C2 := blk_setRow (cells := (Rep.bare st).cs) B2
  have C1 : Blk (y.setRow (g + 1) (Rep.bare st).cs) g _ _ := blk_setRow_other B1 (by omega)
  have hO1 : Below g w (y.setRow (g + 1) (Rep.bare st).cs) := below_setRow hbl (by omega) _
  have hS2 : g + 2 ≤ (y.setRow (g + 1) (Rep.bare st).cs).heap.size := by have := (only_setRow (w := y) (P := fun j => j = g + 1) (g + 1) (Rep.bare st).cs rfl).size; omega
  obtain ⟨y2, hy2⟩ : ∃ Z, y.setRow (g + 1) (Rep.bare st).cs = Z := ⟨_, rfl⟩
  have HZ0 := hide B2
  rw [hy2] at C1 C2 hO1 hS2
  have HY0 := hide (show Blk y2 g #[.int .i64 0, .int .i64 0, .int .i64 0, .slice none 0 0, .int .i64 0, .slice none 0 0, .string ⟨#[]⟩, .string ⟨#[]⟩] 34 ∧ Blk y2 (g + 1) (Rep.bare st).cs 34 ∧ Below g w y2 ∧ g + 2 ≤ y2.heap.size from ⟨C1, C2, hO1, hS2⟩)
  have HB0 := hide (built_rep st)
  have HO0 := hide (Rep.one (Rep.bare st))
  have c0 : y2.cell? ⟨g + 1, 0, none⟩ = some (.int .i64 st) := C2.cell 0
  clear B1 B2 hbl hs2 C1 C2 hO1 hS2 hfull
  go_enter Tryz.func52, Tryz.ntmps52
  have BT := blk_setRow (cells := (Rep.bare st).cs) (unhide HY0).1
  have HL0 := hide (iload_blk 34 _ BT Tryz.underlying34 rfl size_rep)
  have HRG := hide (show y2.rangeAt (g + 1) 0 (Rep.bare st).cl from blk_range (unhide HY0).2.1)
  have HZ := hide (unhide HY0).1
  have HO := hide (Rep.one (Rep.bare st))
  have HF := hide (show Below g w (y2.setRow g (Rep.bare st).cs) from below_setRow (unhide HY0).2.2.1 (Nat.le_refl _) _)
  have hon : Only (fun q => q = g) y2 (y2.setRow g (Rep.bare st).cs) := only_setRow (P := fun j => j = g) g (Rep.bare st).cs rfl
  have HG := hide (show RM st g (Rep.bare st) PR.bare (y2.setRow g (Rep.bare st).cs) from RM.bare _ _ _)
  clear BT hon
  go_wp2_with (first | refine wpList_buildAs rfl 34 #[(0, .tmp 9)] rfl _ rfl (Rep.bare st).cs (unhide HB0) ?_ | refine wpList_store_row rfl 34 (.tmp 7) (.tmp 10) rfl (g + 1) (Rep.bare st).cs rfl rfl 34 #[.int .i64 0, .int .i64 0, .int .i64 0, .slice none 0 0, .int .i64 0, .slice none 0 0, .string ⟨#[]⟩, .string ⟨#[]⟩] (unhide HZ0) size_rep rfl (unhide HO0) ?_ | (go_at_call 74; refine (unhide HW _).mono ?_; rintro e y ⟨rfl, hy⟩; subst y) | refine wpList_load_mid rfl 34 (.tmp 7) rfl (g + 1) 0 rfl (Rep.bare st).cl _ (unhide HRG) Tryz.underlying34 rfl size_rep ?_ | refine wpList_store_row rfl 34 (.tmp 6) (.tmp 66) rfl g (Rep.bare st).cs rfl rfl 34 #[.int .i64 0, .int .i64 0, .int .i64 0, .slice none 0 0, .int .i64 0, .slice none 0 0, .string ⟨#[]⟩, .string ⟨#[]⟩] (unhide HZ) size_rep rfl (unhide HO) ?_)
  (try simp only [Exit.inBlock, Exit.then])
  refine bodyPost_ret (results_cell rfl _ _ _ ⟨g, 0, none⟩ rfl _ (unhide HL0)) rfl ?_
  exact ⟨_, rfl, unhide HG, unhide HF⟩
set_option maxHeartbeats 4000000 in
theorem told_7 (st : Int) (t : ByteArray) (ht : t.size = 4) (hfull : fullP 7 st = true) (A0 : PR) (hA0 : A0 = ⟨beN (nums (t.extract 0 2)), beN (nums (t.extract 2 4)), 0, ⟨#[]⟩, ⟨#[]⟩, [], []⟩) (w : World) : Calls Tryz.prog 52 #[.int .i64 7, .int .i64 st, .string t] w fun e w' => ∃ r : Rep, e = .returned (.agg r.cs) ∧ RM st w.heap.size r A0 w' ∧ Below w.heap.size w w' := by
  have Hqu := hide (fun W => value_any (t.extract 0 2) (by rw [ByteArray.size_extract]; omega) W)
  generalize beN (nums (t.extract 0 2)) = qu at *
  have Hch := hide (fun W => value_any (t.extract 2 4) (by rw [ByteArray.size_extract]; omega) W)
  generalize beN (nums (t.extract 2 4)) = ch at *
  have l1 : (2 : Int) ≤ (t.size : Int) := by omega
  have l2 : (4 : Int) = (t.size : Int) := by omega
  have l3 : t.size = 4 := ht
  rw [hA0]
  clear hA0 ht l2
  have HW := hide (rwhole_any 7 st)
  rw [hfull] at HW
  obtain ⟨B1, B2, hbl, hs2⟩ := two_boxes w #[.int .i64 0, .int .i64 0, .int .i64 0, .slice none 0 0, .int .i64 0, .slice none 0 0, .string ⟨#[]⟩, .string ⟨#[]⟩] #[.int .i64 0, .int .i64 0, .int .i64 0, .slice none 0 0, .int .i64 0, .slice none 0 0, .string ⟨#[]⟩, .string ⟨#[]⟩] 34 34
  obtain ⟨g, hg⟩ : ∃ g, w.heap.size = g := ⟨_, rfl⟩
  rw [hg] at B1 B2 hs2 hbl ⊢
  obtain ⟨y, hy⟩ : ∃ Z, (w.alloc (.cells #[.int .i64 0, .int .i64 0, .int .i64 0, .slice none 0 0, .int .i64 0, .slice none 0 0, .string ⟨#[]⟩, .string ⟨#[]⟩] 34)).alloc (.cells #[.int .i64 0, .int .i64 0, .int .i64 0, .slice none 0 0, .int .i64 0, .slice none 0 0, .string ⟨#[]⟩, .string ⟨#[]⟩] 34) = Z := ⟨_, rfl⟩
  rw [hy] at B1 B2 hbl hs2
  have C2 := blk_setRow (cells := (Rep.bare st).cs) B2
  have C1 : Blk (y.setRow (g + 1) (Rep.bare st).cs) g _ _ := blk_setRow_other B1 (by omega)
  have hO1 : Below g w (y.setRow (g + 1) (Rep.bare st).cs) := below_setRow hbl (by omega) _
  have hS2 : g + 2 ≤ (y.setRow (g + 1) (Rep.bare st).cs).heap.size := by have := (only_setRow (w := y) (P := fun j => j = g + 1) (g + 1) (Rep.bare st).cs rfl).size; omega
  obtain ⟨y2, hy2⟩ : ∃ Z, y.setRow (g + 1) (Rep.bare st).cs = Z := ⟨_, rfl⟩
  have HZ0 := hide B2
  rw [hy2] at C1 C2 hO1 hS2
  have HY0 := hide (show Blk y2 g #[.int .i64 0, .int .i64 0, .int .i64 0, .slice none 0 0, .int .i64 0, .slice none 0 0, .string ⟨#[]⟩, .string ⟨#[]⟩] 34 ∧ Blk y2 (g + 1) (Rep.bare st).cs 34 ∧ Below g w y2 ∧ g + 2 ≤ y2.heap.size from ⟨C1, C2, hO1, hS2⟩)
  have HB0 := hide (built_rep st)
  have HO0 := hide (Rep.one (Rep.bare st))
  have c0 : y2.cell? ⟨g + 1, 0, none⟩ = some (.int .i64 st) := C2.cell 0
  clear B1 B2 hbl hs2 C1 C2 hO1 hS2 hfull
  go_enter Tryz.func52, Tryz.ntmps52
  go_wp2_with (first | refine wpList_buildAs rfl 34 #[(0, .tmp 9)] rfl _ rfl (Rep.bare st).cs (unhide HB0) ?_ | refine wpList_store_row rfl 34 (.tmp 7) (.tmp 10) rfl (g + 1) (Rep.bare st).cs rfl rfl 34 #[.int .i64 0, .int .i64 0, .int .i64 0, .slice none 0 0, .int .i64 0, .slice none 0 0, .string ⟨#[]⟩, .string ⟨#[]⟩] (unhide HZ0) size_rep rfl (unhide HO0) ?_ | (go_at_call 74; refine (unhide HW _).mono ?_; rintro e y ⟨rfl, hy⟩; subst y))
  (try rw [hy2])
  clear hy hy2
  refine (unhide Hqu _).mono ?_
  rintro e x ⟨rfl, hx⟩
  subst x
  have cf0 : y2.cell? ⟨g + 1, 1, none⟩ = some (.int .i64 0) := by rw [(unhide HY0).2.1.cell]; rfl
  have ff0 : y2.frozen? ⟨g + 1, 1, none⟩ = false := (unhide HY0).2.1.frozen 1
  obtain ⟨y3, hy3⟩ : ∃ Z, y2.setCell ⟨g + 1, 1, none⟩ (.int .i64 qu) = Z := ⟨_, rfl⟩
  have HY1 := hide (show Blk y3 g #[.int .i64 0, .int .i64 0, .int .i64 0, .slice none 0 0, .int .i64 0, .slice none 0 0, .string ⟨#[]⟩, .string ⟨#[]⟩] 34 ∧ Blk y3 (g + 1) (⟨st, qu, 0, none, 0, 0, 0, none, 0, 0, ⟨#[]⟩, ⟨#[]⟩⟩ : Rep).cs 34 ∧ Below g w y3 ∧ g + 2 ≤ y3.heap.size from by
    rw [← hy3]
    obtain ⟨q1, q2, q3, q4⟩ := unhide HY0
    exact ⟨q1.other _ _ (by show g + 1 ≠ g; omega), q2.set 1 (.int .i64 qu), q3.setCell (by show g ≤ g + 1; omega) _, by simpa using q4⟩)
  go_wp2_with fail
  (try rw [hy3])
  (try rw [l3])
  refine (unhide Hch _).mono ?_
  rintro e x ⟨rfl, hx⟩
  subst x
  have cf1 : y3.cell? ⟨g + 1, 2, none⟩ = some (.int .i64 0) := by rw [(unhide HY1).2.1.cell]; rfl
  have ff1 : y3.frozen? ⟨g + 1, 2, none⟩ = false := (unhide HY1).2.1.frozen 2
  obtain ⟨y4, hy4⟩ : ∃ Z, y3.setCell ⟨g + 1, 2, none⟩ (.int .i64 ch) = Z := ⟨_, rfl⟩
  have HY2 := hide (show Blk y4 g #[.int .i64 0, .int .i64 0, .int .i64 0, .slice none 0 0, .int .i64 0, .slice none 0 0, .string ⟨#[]⟩, .string ⟨#[]⟩] 34 ∧ Blk y4 (g + 1) (⟨st, qu, ch, none, 0, 0, 0, none, 0, 0, ⟨#[]⟩, ⟨#[]⟩⟩ : Rep).cs 34 ∧ Below g w y4 ∧ g + 2 ≤ y4.heap.size from by
    rw [← hy4]
    obtain ⟨q1, q2, q3, q4⟩ := unhide HY1
    exact ⟨q1.other _ _ (by show g + 1 ≠ g; omega), q2.set 2 (.int .i64 ch), q3.setCell (by show g ≤ g + 1; omega) _, by simpa using q4⟩)
  (try rw [hy4])
  have BT := blk_setRow (cells := (⟨st, qu, ch, none, 0, 0, 0, none, 0, 0, ⟨#[]⟩, ⟨#[]⟩⟩ : Rep).cs) (unhide HY2).1
  have HL0 := hide (iload_blk 34 _ BT Tryz.underlying34 rfl size_rep)
  have HRG := hide (show y4.rangeAt (g + 1) 0 (⟨st, qu, ch, none, 0, 0, 0, none, 0, 0, ⟨#[]⟩, ⟨#[]⟩⟩ : Rep).cl from blk_range (unhide HY2).2.1)
  have HZ := hide (unhide HY2).1
  have HO := hide (Rep.one (⟨st, qu, ch, none, 0, 0, 0, none, 0, 0, ⟨#[]⟩, ⟨#[]⟩⟩ : Rep))
  have HF := hide (show Below g w (y4.setRow g (⟨st, qu, ch, none, 0, 0, 0, none, 0, 0, ⟨#[]⟩, ⟨#[]⟩⟩ : Rep).cs) from below_setRow (unhide HY2).2.2.1 (Nat.le_refl _) _)
  have hon : Only (fun q => q = g) y4 (y4.setRow g (⟨st, qu, ch, none, 0, 0, 0, none, 0, 0, ⟨#[]⟩, ⟨#[]⟩⟩ : Rep).cs) := only_setRow (P := fun j => j = g) g (⟨st, qu, ch, none, 0, 0, 0, none, 0, 0, ⟨#[]⟩, ⟨#[]⟩⟩ : Rep).cs rfl
  have HG := hide (show RM st g (⟨st, qu, ch, none, 0, 0, 0, none, 0, 0, ⟨#[]⟩, ⟨#[]⟩⟩ : Rep) ⟨qu, ch, 0, ⟨#[]⟩, ⟨#[]⟩, [], []⟩ (y4.setRow g (⟨st, qu, ch, none, 0, 0, 0, none, 0, 0, ⟨#[]⟩, ⟨#[]⟩⟩ : Rep).cs) from ⟨rfl, rfl, rfl, rfl, rfl, rfl, OwnL.nil _ _, OwnL.nil _ _⟩)
  clear BT hon
  go_wp2_with (first | refine wpList_load_mid rfl 34 (.tmp 7) rfl (g + 1) 0 rfl (⟨st, qu, ch, none, 0, 0, 0, none, 0, 0, ⟨#[]⟩, ⟨#[]⟩⟩ : Rep).cl _ (unhide HRG) Tryz.underlying34 rfl size_rep ?_ | refine wpList_store_row rfl 34 (.tmp 6) (.tmp 66) rfl g (⟨st, qu, ch, none, 0, 0, 0, none, 0, 0, ⟨#[]⟩, ⟨#[]⟩⟩ : Rep).cs rfl rfl 34 #[.int .i64 0, .int .i64 0, .int .i64 0, .slice none 0 0, .int .i64 0, .slice none 0 0, .string ⟨#[]⟩, .string ⟨#[]⟩] (unhide HZ) size_rep rfl (unhide HO) ?_)
  (try simp only [Exit.inBlock, Exit.then])
  refine bodyPost_ret (results_cell rfl _ _ _ ⟨g, 0, none⟩ rfl _ (unhide HL0)) rfl ?_
  exact ⟨_, rfl, unhide HG, unhide HF⟩
set_option maxHeartbeats 4000000 in
theorem told_11 (st : Int) (t : ByteArray) (ht : t.size = 304) (hfull : fullP 11 st = true) (A0 : PR) (hA0 : A0 = ⟨0, 0, 0, t.extract 0 48, t.extract 48 304, [], []⟩) (w : World) : Calls Tryz.prog 52 #[.int .i64 11, .int .i64 st, .string t] w fun e w' => ∃ r : Rep, e = .returned (.agg r.cs) ∧ RM st w.heap.size r A0 w' ∧ Below w.heap.size w w' := by
  have l1 : (48 : Int) ≤ (t.size : Int) := by omega
  have l3 : t.size = 304 := ht
  rw [hA0]
  clear hA0 ht
  obtain ⟨tw, htw⟩ : ∃ Z, t.extract 0 48 = Z := ⟨_, rfl⟩
  obtain ⟨td, htd⟩ : ∃ Z, t.extract 48 304 = Z := ⟨_, rfl⟩
  have htd2 : t.extract 48 t.size = td := by rw [l3]; exact htd
  rw [htw, htd]
  have HW := hide (rwhole_any 11 st)
  rw [hfull] at HW
  obtain ⟨B1, B2, hbl, hs2⟩ := two_boxes w #[.int .i64 0, .int .i64 0, .int .i64 0, .slice none 0 0, .int .i64 0, .slice none 0 0, .string ⟨#[]⟩, .string ⟨#[]⟩] #[.int .i64 0, .int .i64 0, .int .i64 0, .slice none 0 0, .int .i64 0, .slice none 0 0, .string ⟨#[]⟩, .string ⟨#[]⟩] 34 34
  obtain ⟨g, hg⟩ : ∃ g, w.heap.size = g := ⟨_, rfl⟩
  rw [hg] at B1 B2 hs2 hbl ⊢
  obtain ⟨y, hy⟩ : ∃ Z, (w.alloc (.cells #[.int .i64 0, .int .i64 0, .int .i64 0, .slice none 0 0, .int .i64 0, .slice none 0 0, .string ⟨#[]⟩, .string ⟨#[]⟩] 34)).alloc (.cells #[.int .i64 0, .int .i64 0, .int .i64 0, .slice none 0 0, .int .i64 0, .slice none 0 0, .string ⟨#[]⟩, .string ⟨#[]⟩] 34) = Z := ⟨_, rfl⟩
  rw [hy] at B1 B2 hbl hs2
  have C2 := blk_setRow (cells := (Rep.bare st).cs) B2
  have C1 : Blk (y.setRow (g + 1) (Rep.bare st).cs) g _ _ := blk_setRow_other B1 (by omega)
  have hO1 : Below g w (y.setRow (g + 1) (Rep.bare st).cs) := below_setRow hbl (by omega) _
  have hS2 : g + 2 ≤ (y.setRow (g + 1) (Rep.bare st).cs).heap.size := by have := (only_setRow (w := y) (P := fun j => j = g + 1) (g + 1) (Rep.bare st).cs rfl).size; omega
  obtain ⟨y2, hy2⟩ : ∃ Z, y.setRow (g + 1) (Rep.bare st).cs = Z := ⟨_, rfl⟩
  have HZ0 := hide B2
  rw [hy2] at C1 C2 hO1 hS2
  have HY0 := hide (show Blk y2 g #[.int .i64 0, .int .i64 0, .int .i64 0, .slice none 0 0, .int .i64 0, .slice none 0 0, .string ⟨#[]⟩, .string ⟨#[]⟩] 34 ∧ Blk y2 (g + 1) (Rep.bare st).cs 34 ∧ Below g w y2 ∧ g + 2 ≤ y2.heap.size from ⟨C1, C2, hO1, hS2⟩)
  have HB0 := hide (built_rep st)
  have HO0 := hide (Rep.one (Rep.bare st))
  have c0 : y2.cell? ⟨g + 1, 0, none⟩ = some (.int .i64 st) := C2.cell 0
  clear B1 B2 hbl hs2 C1 C2 hO1 hS2 hfull
  have cf0 : y2.cell? ⟨g + 1, 6, none⟩ = some (.string ⟨#[]⟩) := by rw [(unhide HY0).2.1.cell]; rfl
  have ff0 : y2.frozen? ⟨g + 1, 6, none⟩ = false := (unhide HY0).2.1.frozen 6
  obtain ⟨y3, hy3⟩ : ∃ Z, y2.setCell ⟨g + 1, 6, none⟩ (.string tw) = Z := ⟨_, rfl⟩
  have HY1 := hide (show Blk y3 g #[.int .i64 0, .int .i64 0, .int .i64 0, .slice none 0 0, .int .i64 0, .slice none 0 0, .string ⟨#[]⟩, .string ⟨#[]⟩] 34 ∧ Blk y3 (g + 1) (⟨st, 0, 0, none, 0, 0, 0, none, 0, 0, tw, ⟨#[]⟩⟩ : Rep).cs 34 ∧ Below g w y3 ∧ g + 2 ≤ y3.heap.size from by
    rw [← hy3]
    obtain ⟨q1, q2, q3, q4⟩ := unhide HY0
    exact ⟨q1.other _ _ (by show g + 1 ≠ g; omega), q2.set 6 (.string tw), q3.setCell (by show g ≤ g + 1; omega) _, by simpa using q4⟩)
  have cf1 : y3.cell? ⟨g + 1, 7, none⟩ = some (.string ⟨#[]⟩) := by rw [(unhide HY1).2.1.cell]; rfl
  have ff1 : y3.frozen? ⟨g + 1, 7, none⟩ = false := (unhide HY1).2.1.frozen 7
  obtain ⟨y4, hy4⟩ : ∃ Z, y3.setCell ⟨g + 1, 7, none⟩ (.string td) = Z := ⟨_, rfl⟩
  have HY2 := hide (show Blk y4 g #[.int .i64 0, .int .i64 0, .int .i64 0, .slice none 0 0, .int .i64 0, .slice none 0 0, .string ⟨#[]⟩, .string ⟨#[]⟩] 34 ∧ Blk y4 (g + 1) (⟨st, 0, 0, none, 0, 0, 0, none, 0, 0, tw, td⟩ : Rep).cs 34 ∧ Below g w y4 ∧ g + 2 ≤ y4.heap.size from by
    rw [← hy4]
    obtain ⟨q1, q2, q3, q4⟩ := unhide HY1
    exact ⟨q1.other _ _ (by show g + 1 ≠ g; omega), q2.set 7 (.string td), q3.setCell (by show g ≤ g + 1; omega) _, by simpa using q4⟩)
  go_enter Tryz.func52, Tryz.ntmps52
  have BT := blk_setRow (cells := (⟨st, 0, 0, none, 0, 0, 0, none, 0, 0, tw, td⟩ : Rep).cs) (unhide HY2).1
  have HL0 := hide (iload_blk 34 _ BT Tryz.underlying34 rfl size_rep)
  have HRG := hide (show y4.rangeAt (g + 1) 0 (⟨st, 0, 0, none, 0, 0, 0, none, 0, 0, tw, td⟩ : Rep).cl from blk_range (unhide HY2).2.1)
  have HZ := hide (unhide HY2).1
  have HO := hide (Rep.one (⟨st, 0, 0, none, 0, 0, 0, none, 0, 0, tw, td⟩ : Rep))
  have HF := hide (show Below g w (y4.setRow g (⟨st, 0, 0, none, 0, 0, 0, none, 0, 0, tw, td⟩ : Rep).cs) from below_setRow (unhide HY2).2.2.1 (Nat.le_refl _) _)
  have hon : Only (fun q => q = g) y4 (y4.setRow g (⟨st, 0, 0, none, 0, 0, 0, none, 0, 0, tw, td⟩ : Rep).cs) := only_setRow (P := fun j => j = g) g (⟨st, 0, 0, none, 0, 0, 0, none, 0, 0, tw, td⟩ : Rep).cs rfl
  have HG := hide (show RM st g (⟨st, 0, 0, none, 0, 0, 0, none, 0, 0, tw, td⟩ : Rep) ⟨0, 0, 0, tw, td, [], []⟩ (y4.setRow g (⟨st, 0, 0, none, 0, 0, 0, none, 0, 0, tw, td⟩ : Rep).cs) from ⟨rfl, rfl, rfl, rfl, rfl, rfl, OwnL.nil _ _, OwnL.nil _ _⟩)
  clear BT hon
  go_wp2_with (first | refine wpList_buildAs rfl 34 #[(0, .tmp 9)] rfl _ rfl (Rep.bare st).cs (unhide HB0) ?_ | refine wpList_store_row rfl 34 (.tmp 7) (.tmp 10) rfl (g + 1) (Rep.bare st).cs rfl rfl 34 #[.int .i64 0, .int .i64 0, .int .i64 0, .slice none 0 0, .int .i64 0, .slice none 0 0, .string ⟨#[]⟩, .string ⟨#[]⟩] (unhide HZ0) size_rep rfl (unhide HO0) ?_ | (go_at_call 74; refine (unhide HW _).mono ?_; rintro e y ⟨rfl, hy⟩; subst y) | refine wpList_load_mid rfl 34 (.tmp 7) rfl (g + 1) 0 rfl (⟨st, 0, 0, none, 0, 0, 0, none, 0, 0, tw, td⟩ : Rep).cl _ (unhide HRG) Tryz.underlying34 rfl size_rep ?_ | refine wpList_store_row rfl 34 (.tmp 6) (.tmp 66) rfl g (⟨st, 0, 0, none, 0, 0, 0, none, 0, 0, tw, td⟩ : Rep).cs rfl rfl 34 #[.int .i64 0, .int .i64 0, .int .i64 0, .slice none 0 0, .int .i64 0, .slice none 0 0, .string ⟨#[]⟩, .string ⟨#[]⟩] (unhide HZ) size_rep rfl (unhide HO) ?_)
  (try simp only [Exit.inBlock, Exit.then])
  refine bodyPost_ret (results_cell rfl _ _ _ ⟨g, 0, none⟩ rfl _ (unhide HL0)) rfl ?_
  exact ⟨_, rfl, unhide HG, unhide HF⟩
set_option maxHeartbeats 4000000 in
theorem told_6 (st : Int) (t : ByteArray) (ht : t.size = 9) (hfull : fullP 6 st = true) (A0 : PR) (hA0 : A0 = ⟨0, 0, 0, ⟨#[]⟩, ⟨#[]⟩, tkB t 1 (min (vtN t 0) 8), []⟩) (w : World) : Calls Tryz.prog 52 #[.int .i64 6, .int .i64 st, .string t] w fun e w' => ∃ r : Rep, e = .returned (.agg r.cs) ∧ RM st w.heap.size r A0 w' ∧ Below w.heap.size w w' := by
  have HV := hide (fun W => volumes_any t ht W)
  rw [hA0]
  clear hA0 ht
  generalize tkB t 1 (min (vtN t 0) 8) = V at *
  have HW := hide (rwhole_any 6 st)
  rw [hfull] at HW
  obtain ⟨B1, B2, hbl, hs2⟩ := two_boxes w #[.int .i64 0, .int .i64 0, .int .i64 0, .slice none 0 0, .int .i64 0, .slice none 0 0, .string ⟨#[]⟩, .string ⟨#[]⟩] #[.int .i64 0, .int .i64 0, .int .i64 0, .slice none 0 0, .int .i64 0, .slice none 0 0, .string ⟨#[]⟩, .string ⟨#[]⟩] 34 34
  obtain ⟨g, hg⟩ : ∃ g, w.heap.size = g := ⟨_, rfl⟩
  rw [hg] at B1 B2 hs2 hbl ⊢
  obtain ⟨y, hy⟩ : ∃ Z, (w.alloc (.cells #[.int .i64 0, .int .i64 0, .int .i64 0, .slice none 0 0, .int .i64 0, .slice none 0 0, .string ⟨#[]⟩, .string ⟨#[]⟩] 34)).alloc (.cells #[.int .i64 0, .int .i64 0, .int .i64 0, .slice none 0 0, .int .i64 0, .slice none 0 0, .string ⟨#[]⟩, .string ⟨#[]⟩] 34) = Z := ⟨_, rfl⟩
  rw [hy] at B1 B2 hbl hs2
  have C2 := blk_setRow (cells := (Rep.bare st).cs) B2
  have C1 : Blk (y.setRow (g + 1) (Rep.bare st).cs) g _ _ := blk_setRow_other B1 (by omega)
  have hO1 : Below g w (y.setRow (g + 1) (Rep.bare st).cs) := below_setRow hbl (by omega) _
  have hS2 : g + 2 ≤ (y.setRow (g + 1) (Rep.bare st).cs).heap.size := by have := (only_setRow (w := y) (P := fun j => j = g + 1) (g + 1) (Rep.bare st).cs rfl).size; omega
  obtain ⟨y2, hy2⟩ : ∃ Z, y.setRow (g + 1) (Rep.bare st).cs = Z := ⟨_, rfl⟩
  have HZ0 := hide B2
  rw [hy2] at C1 C2 hO1 hS2
  have HY0 := hide (show Blk y2 g #[.int .i64 0, .int .i64 0, .int .i64 0, .slice none 0 0, .int .i64 0, .slice none 0 0, .string ⟨#[]⟩, .string ⟨#[]⟩] 34 ∧ Blk y2 (g + 1) (Rep.bare st).cs 34 ∧ Below g w y2 ∧ g + 2 ≤ y2.heap.size from ⟨C1, C2, hO1, hS2⟩)
  have HB0 := hide (built_rep st)
  have HO0 := hide (Rep.one (Rep.bare st))
  have c0 : y2.cell? ⟨g + 1, 0, none⟩ = some (.int .i64 st) := C2.cell 0
  clear B1 B2 hbl hs2 C1 C2 hO1 hS2 hfull
  go_enter Tryz.func52, Tryz.ntmps52
  go_wp2_with (first | refine wpList_buildAs rfl 34 #[(0, .tmp 9)] rfl _ rfl (Rep.bare st).cs (unhide HB0) ?_ | refine wpList_store_row rfl 34 (.tmp 7) (.tmp 10) rfl (g + 1) (Rep.bare st).cs rfl rfl 34 #[.int .i64 0, .int .i64 0, .int .i64 0, .slice none 0 0, .int .i64 0, .slice none 0 0, .string ⟨#[]⟩, .string ⟨#[]⟩] (unhide HZ0) size_rep rfl (unhide HO0) ?_ | (go_at_call 74; refine (unhide HW _).mono ?_; rintro e y ⟨rfl, hy⟩; subst y))
  (try rw [hy2])
  clear hy hy2
  refine (unhide HV _).mono ?_
  rintro e x5 ⟨p, c, rfl, hOL, hbL⟩
  have HX5 := hide (show Blk x5 g #[.int .i64 0, .int .i64 0, .int .i64 0, .slice none 0 0, .int .i64 0, .slice none 0 0, .string ⟨#[]⟩, .string ⟨#[]⟩] 34 ∧ Blk x5 (g + 1) (Rep.bare st).cs 34 ∧ Below g w x5 ∧ g + 2 ≤ x5.heap.size from by
    obtain ⟨q1, q2, q3, q4⟩ := unhide HY0
    exact ⟨q1.below hbL q1.lt, q2.below hbL q2.lt, q3.trans (hbL.mono (by omega)), Nat.le_trans q4 hbL.size⟩)
  have HOL := hide (hOL.base (N' := g + 2) (unhide HY0).2.2.2)
  clear hOL hbL
  have cf0 : x5.cell? ⟨g + 1, 3, none⟩ = some (.slice none 0 0) := by rw [(unhide HX5).2.1.cell]; rfl
  have ff0 : x5.frozen? ⟨g + 1, 3, none⟩ = false := (unhide HX5).2.1.frozen 3
  obtain ⟨y3, hy3⟩ : ∃ Z, x5.setCell ⟨g + 1, 3, none⟩ (.slice p V.length c) = Z := ⟨_, rfl⟩
  have HY1 := hide (show Blk y3 g #[.int .i64 0, .int .i64 0, .int .i64 0, .slice none 0 0, .int .i64 0, .slice none 0 0, .string ⟨#[]⟩, .string ⟨#[]⟩] 34 ∧ Blk y3 (g + 1) (⟨st, 0, 0, p, V.length, c, 0, none, 0, 0, ⟨#[]⟩, ⟨#[]⟩⟩ : Rep).cs 34 ∧ Below g w y3 ∧ g + 2 ≤ y3.heap.size from by
    rw [← hy3]
    obtain ⟨q1, q2, q3, q4⟩ := unhide HX5
    exact ⟨q1.other _ _ (by show g + 1 ≠ g; omega), q2.set 3 (.slice p V.length c), q3.setCell (by show g ≤ g + 1; omega) _, by simpa using q4⟩)
  have HOL9 := hide (show OwnL y3 (g + 2) p V.length c V from by rw [← hy3]; exact (unhide HOL).only ((Only.refl _ _).setCell (P := fun q => q = g + 1) _ _ (fun _ => rfl)) (fun q hq _ e => by omega))
  have BT := blk_setRow (cells := (⟨st, 0, 0, p, V.length, c, 0, none, 0, 0, ⟨#[]⟩, ⟨#[]⟩⟩ : Rep).cs) (unhide HY1).1
  have HL0 := hide (iload_blk 34 _ BT Tryz.underlying34 rfl size_rep)
  have HRG := hide (show y3.rangeAt (g + 1) 0 (⟨st, 0, 0, p, V.length, c, 0, none, 0, 0, ⟨#[]⟩, ⟨#[]⟩⟩ : Rep).cl from blk_range (unhide HY1).2.1)
  have HZ := hide (unhide HY1).1
  have HO := hide (Rep.one (⟨st, 0, 0, p, V.length, c, 0, none, 0, 0, ⟨#[]⟩, ⟨#[]⟩⟩ : Rep))
  have HF := hide (show Below g w (y3.setRow g (⟨st, 0, 0, p, V.length, c, 0, none, 0, 0, ⟨#[]⟩, ⟨#[]⟩⟩ : Rep).cs) from below_setRow (unhide HY1).2.2.1 (Nat.le_refl _) _)
  have hon : Only (fun q => q = g) y3 (y3.setRow g (⟨st, 0, 0, p, V.length, c, 0, none, 0, 0, ⟨#[]⟩, ⟨#[]⟩⟩ : Rep).cs) := only_setRow (P := fun j => j = g) g (⟨st, 0, 0, p, V.length, c, 0, none, 0, 0, ⟨#[]⟩, ⟨#[]⟩⟩ : Rep).cs rfl
  have HG := hide (show RM st g (⟨st, 0, 0, p, V.length, c, 0, none, 0, 0, ⟨#[]⟩, ⟨#[]⟩⟩ : Rep) ⟨0, 0, 0, ⟨#[]⟩, ⟨#[]⟩, V, []⟩ (y3.setRow g (⟨st, 0, 0, p, V.length, c, 0, none, 0, 0, ⟨#[]⟩, ⟨#[]⟩⟩ : Rep).cs) from ⟨rfl, rfl, rfl, rfl, rfl, rfl, (OwnL.only (unhide HOL9) hon (fun q hq _ e => by omega)).base (by omega), OwnL.nil _ _⟩)
  clear BT hon
  go_wp2_with (first | refine wpList_load_mid rfl 34 (.tmp 7) rfl (g + 1) 0 rfl (⟨st, 0, 0, p, V.length, c, 0, none, 0, 0, ⟨#[]⟩, ⟨#[]⟩⟩ : Rep).cl _ (unhide HRG) Tryz.underlying34 rfl size_rep ?_ | refine wpList_store_row rfl 34 (.tmp 6) (.tmp 66) rfl g (⟨st, 0, 0, p, V.length, c, 0, none, 0, 0, ⟨#[]⟩, ⟨#[]⟩⟩ : Rep).cs rfl rfl 34 #[.int .i64 0, .int .i64 0, .int .i64 0, .slice none 0 0, .int .i64 0, .slice none 0 0, .string ⟨#[]⟩, .string ⟨#[]⟩] (unhide HZ) size_rep rfl (unhide HO) ?_)
  (try simp only [Exit.inBlock, Exit.then])
  refine bodyPost_ret (results_cell rfl _ _ _ ⟨g, 0, none⟩ rfl _ (unhide HL0)) rfl ?_
  exact ⟨_, rfl, unhide HG, unhide HF⟩
set_option maxHeartbeats 4000000 in
theorem told_8 (st : Int) (t : ByteArray) (ht : t.size = 12) (hfull : fullP 8 st = true) (A0 : PR) (hA0 : A0 = ⟨0, 0, beN (nums (t.extract 0 4)), ⟨#[]⟩, ⟨#[]⟩, [], nums (t.extract 4 12)⟩) (w : World) : Calls Tryz.prog 52 #[.int .i64 8, .int .i64 st, .string t] w fun e w' => ∃ r : Rep, e = .returned (.agg r.cs) ∧ RM st w.heap.size r A0 w' ∧ Below w.heap.size w w' := by
  have Hno := hide (fun W => value_any (t.extract 0 4) (by rw [ByteArray.size_extract]; omega) W)
  generalize beN (nums (t.extract 0 4)) = no at *
  have l3 : t.size = 12 := ht
  have l1 : (4 : Int) ≤ (t.size : Int) := by omega
  have HV := hide (fun W => list_any (t.extract 4 12) 8 (by rw [ByteArray.size_extract]; omega) (by decide) W)
  rw [hA0]
  clear hA0 ht
  generalize nums (t.extract 4 12) = V at *
  have HW := hide (rwhole_any 8 st)
  rw [hfull] at HW
  obtain ⟨B1, B2, hbl, hs2⟩ := two_boxes w #[.int .i64 0, .int .i64 0, .int .i64 0, .slice none 0 0, .int .i64 0, .slice none 0 0, .string ⟨#[]⟩, .string ⟨#[]⟩] #[.int .i64 0, .int .i64 0, .int .i64 0, .slice none 0 0, .int .i64 0, .slice none 0 0, .string ⟨#[]⟩, .string ⟨#[]⟩] 34 34
  obtain ⟨g, hg⟩ : ∃ g, w.heap.size = g := ⟨_, rfl⟩
  rw [hg] at B1 B2 hs2 hbl ⊢
  obtain ⟨y, hy⟩ : ∃ Z, (w.alloc (.cells #[.int .i64 0, .int .i64 0, .int .i64 0, .slice none 0 0, .int .i64 0, .slice none 0 0, .string ⟨#[]⟩, .string ⟨#[]⟩] 34)).alloc (.cells #[.int .i64 0, .int .i64 0, .int .i64 0, .slice none 0 0, .int .i64 0, .slice none 0 0, .string ⟨#[]⟩, .string ⟨#[]⟩] 34) = Z := ⟨_, rfl⟩
  rw [hy] at B1 B2 hbl hs2
  have C2 := blk_setRow (cells := (Rep.bare st).cs) B2
  have C1 : Blk (y.setRow (g + 1) (Rep.bare st).cs) g _ _ := blk_setRow_other B1 (by omega)
  have hO1 : Below g w (y.setRow (g + 1) (Rep.bare st).cs) := below_setRow hbl (by omega) _
  have hS2 : g + 2 ≤ (y.setRow (g + 1) (Rep.bare st).cs).heap.size := by have := (only_setRow (w := y) (P := fun j => j = g + 1) (g + 1) (Rep.bare st).cs rfl).size; omega
  obtain ⟨y2, hy2⟩ : ∃ Z, y.setRow (g + 1) (Rep.bare st).cs = Z := ⟨_, rfl⟩
  have HZ0 := hide B2
  rw [hy2] at C1 C2 hO1 hS2
  have HY0 := hide (show Blk y2 g #[.int .i64 0, .int .i64 0, .int .i64 0, .slice none 0 0, .int .i64 0, .slice none 0 0, .string ⟨#[]⟩, .string ⟨#[]⟩] 34 ∧ Blk y2 (g + 1) (Rep.bare st).cs 34 ∧ Below g w y2 ∧ g + 2 ≤ y2.heap.size from ⟨C1, C2, hO1, hS2⟩)
  have HB0 := hide (built_rep st)
  have HO0 := hide (Rep.one (Rep.bare st))
  have c0 : y2.cell? ⟨g + 1, 0, none⟩ = some (.int .i64 st) := C2.cell 0
  clear B1 B2 hbl hs2 C1 C2 hO1 hS2 hfull
  go_enter Tryz.func52, Tryz.ntmps52
  go_wp2_with (first | refine wpList_buildAs rfl 34 #[(0, .tmp 9)] rfl _ rfl (Rep.bare st).cs (unhide HB0) ?_ | refine wpList_store_row rfl 34 (.tmp 7) (.tmp 10) rfl (g + 1) (Rep.bare st).cs rfl rfl 34 #[.int .i64 0, .int .i64 0, .int .i64 0, .slice none 0 0, .int .i64 0, .slice none 0 0, .string ⟨#[]⟩, .string ⟨#[]⟩] (unhide HZ0) size_rep rfl (unhide HO0) ?_ | (go_at_call 74; refine (unhide HW _).mono ?_; rintro e y ⟨rfl, hy⟩; subst y))
  (try rw [hy2])
  clear hy hy2
  refine (unhide Hno _).mono ?_
  rintro e x ⟨rfl, hx⟩
  subst x
  have cf0 : y2.cell? ⟨g + 1, 4, none⟩ = some (.int .i64 0) := by rw [(unhide HY0).2.1.cell]; rfl
  have ff0 : y2.frozen? ⟨g + 1, 4, none⟩ = false := (unhide HY0).2.1.frozen 4
  obtain ⟨y3, hy3⟩ : ∃ Z, y2.setCell ⟨g + 1, 4, none⟩ (.int .i64 no) = Z := ⟨_, rfl⟩
  have HY1 := hide (show Blk y3 g #[.int .i64 0, .int .i64 0, .int .i64 0, .slice none 0 0, .int .i64 0, .slice none 0 0, .string ⟨#[]⟩, .string ⟨#[]⟩] 34 ∧ Blk y3 (g + 1) (⟨st, 0, 0, none, 0, 0, no, none, 0, 0, ⟨#[]⟩, ⟨#[]⟩⟩ : Rep).cs 34 ∧ Below g w y3 ∧ g + 2 ≤ y3.heap.size from by
    rw [← hy3]
    obtain ⟨q1, q2, q3, q4⟩ := unhide HY0
    exact ⟨q1.other _ _ (by show g + 1 ≠ g; omega), q2.set 4 (.int .i64 no), q3.setCell (by show g ≤ g + 1; omega) _, by simpa using q4⟩)
  go_wp2_with fail
  (try rw [hy3])
  (try rw [l3])
  refine (unhide HV _).mono ?_
  rintro e x5 ⟨p, c, rfl, hOL, hbL⟩
  have HX5 := hide (show Blk x5 g #[.int .i64 0, .int .i64 0, .int .i64 0, .slice none 0 0, .int .i64 0, .slice none 0 0, .string ⟨#[]⟩, .string ⟨#[]⟩] 34 ∧ Blk x5 (g + 1) (⟨st, 0, 0, none, 0, 0, no, none, 0, 0, ⟨#[]⟩, ⟨#[]⟩⟩ : Rep).cs 34 ∧ Below g w x5 ∧ g + 2 ≤ x5.heap.size from by
    obtain ⟨q1, q2, q3, q4⟩ := unhide HY1
    exact ⟨q1.below hbL q1.lt, q2.below hbL q2.lt, q3.trans (hbL.mono (by omega)), Nat.le_trans q4 hbL.size⟩)
  have HOL := hide (hOL.base (N' := g + 2) (unhide HY1).2.2.2)
  clear hOL hbL
  have cf1 : x5.cell? ⟨g + 1, 5, none⟩ = some (.slice none 0 0) := by rw [(unhide HX5).2.1.cell]; rfl
  have ff1 : x5.frozen? ⟨g + 1, 5, none⟩ = false := (unhide HX5).2.1.frozen 5
  obtain ⟨y4, hy4⟩ : ∃ Z, x5.setCell ⟨g + 1, 5, none⟩ (.slice p V.length c) = Z := ⟨_, rfl⟩
  have HY2 := hide (show Blk y4 g #[.int .i64 0, .int .i64 0, .int .i64 0, .slice none 0 0, .int .i64 0, .slice none 0 0, .string ⟨#[]⟩, .string ⟨#[]⟩] 34 ∧ Blk y4 (g + 1) (⟨st, 0, 0, none, 0, 0, no, p, V.length, c, ⟨#[]⟩, ⟨#[]⟩⟩ : Rep).cs 34 ∧ Below g w y4 ∧ g + 2 ≤ y4.heap.size from by
    rw [← hy4]
    obtain ⟨q1, q2, q3, q4⟩ := unhide HX5
    exact ⟨q1.other _ _ (by show g + 1 ≠ g; omega), q2.set 5 (.slice p V.length c), q3.setCell (by show g ≤ g + 1; omega) _, by simpa using q4⟩)
  have HOL9 := hide (show OwnL y4 (g + 2) p V.length c V from by rw [← hy4]; exact (unhide HOL).only ((Only.refl _ _).setCell (P := fun q => q = g + 1) _ _ (fun _ => rfl)) (fun q hq _ e => by omega))
  have BT := blk_setRow (cells := (⟨st, 0, 0, none, 0, 0, no, p, V.length, c, ⟨#[]⟩, ⟨#[]⟩⟩ : Rep).cs) (unhide HY2).1
  have HL0 := hide (iload_blk 34 _ BT Tryz.underlying34 rfl size_rep)
  have HRG := hide (show y4.rangeAt (g + 1) 0 (⟨st, 0, 0, none, 0, 0, no, p, V.length, c, ⟨#[]⟩, ⟨#[]⟩⟩ : Rep).cl from blk_range (unhide HY2).2.1)
  have HZ := hide (unhide HY2).1
  have HO := hide (Rep.one (⟨st, 0, 0, none, 0, 0, no, p, V.length, c, ⟨#[]⟩, ⟨#[]⟩⟩ : Rep))
  have HF := hide (show Below g w (y4.setRow g (⟨st, 0, 0, none, 0, 0, no, p, V.length, c, ⟨#[]⟩, ⟨#[]⟩⟩ : Rep).cs) from below_setRow (unhide HY2).2.2.1 (Nat.le_refl _) _)
  have hon : Only (fun q => q = g) y4 (y4.setRow g (⟨st, 0, 0, none, 0, 0, no, p, V.length, c, ⟨#[]⟩, ⟨#[]⟩⟩ : Rep).cs) := only_setRow (P := fun j => j = g) g (⟨st, 0, 0, none, 0, 0, no, p, V.length, c, ⟨#[]⟩, ⟨#[]⟩⟩ : Rep).cs rfl
  have HG := hide (show RM st g (⟨st, 0, 0, none, 0, 0, no, p, V.length, c, ⟨#[]⟩, ⟨#[]⟩⟩ : Rep) ⟨0, 0, no, ⟨#[]⟩, ⟨#[]⟩, [], V⟩ (y4.setRow g (⟨st, 0, 0, none, 0, 0, no, p, V.length, c, ⟨#[]⟩, ⟨#[]⟩⟩ : Rep).cs) from ⟨rfl, rfl, rfl, rfl, rfl, rfl, OwnL.nil _ _, (OwnL.only (unhide HOL9) hon (fun q hq _ e => by omega)).base (by omega)⟩)
  clear BT hon
  go_wp2_with (first | refine wpList_load_mid rfl 34 (.tmp 7) rfl (g + 1) 0 rfl (⟨st, 0, 0, none, 0, 0, no, p, V.length, c, ⟨#[]⟩, ⟨#[]⟩⟩ : Rep).cl _ (unhide HRG) Tryz.underlying34 rfl size_rep ?_ | refine wpList_store_row rfl 34 (.tmp 6) (.tmp 66) rfl g (⟨st, 0, 0, none, 0, 0, no, p, V.length, c, ⟨#[]⟩, ⟨#[]⟩⟩ : Rep).cs rfl rfl 34 #[.int .i64 0, .int .i64 0, .int .i64 0, .slice none 0 0, .int .i64 0, .slice none 0 0, .string ⟨#[]⟩, .string ⟨#[]⟩] (unhide HZ) size_rep rfl (unhide HO) ?_)
  (try simp only [Exit.inBlock, Exit.then])
  refine bodyPost_ret (results_cell rfl _ _ _ ⟨g, 0, none⟩ rfl _ (unhide HL0)) rfl ?_
  exact ⟨_, rfl, unhide HG, unhide HF⟩
set_option maxHeartbeats 4000000 in
theorem told_3 (st : Int) (t : ByteArray) (ht : t.size = 13) (hfull : fullP 3 st = true) (A0 : PR) (hA0 : A0 = ⟨beN (nums (t.extract 0 2)), beN (nums (t.extract 2 4)), 0, ⟨#[]⟩, ⟨#[]⟩, tkB (t.extract 4 13) 1 (min (vtN (t.extract 4 13) 0) 8), []⟩) (w : World) : Calls Tryz.prog 52 #[.int .i64 3, .int .i64 st, .string t] w fun e w' => ∃ r : Rep, e = .returned (.agg r.cs) ∧ RM st w.heap.size r A0 w' ∧ Below w.heap.size w w' := by
  have Hqu := hide (fun W => value_any (t.extract 0 2) (by rw [ByteArray.size_extract]; omega) W)
  generalize beN (nums (t.extract 0 2)) = qu at *
  have Hch := hide (fun W => value_any (t.extract 2 4) (by rw [ByteArray.size_extract]; omega) W)
  generalize beN (nums (t.extract 2 4)) = ch at *
  have l3 : t.size = 13 := ht
  have l1 : (2 : Int) ≤ (t.size : Int) := by omega
  have l2 : (4 : Int) ≤ (t.size : Int) := by omega
  have HV := hide (fun W => volumes_any (t.extract 4 13) (by rw [ByteArray.size_extract]; omega) W)
  rw [hA0]
  clear hA0 ht
  generalize tkB (t.extract 4 13) 1 (min (vtN (t.extract 4 13) 0) 8) = V at *
  have HW := hide (rwhole_any 3 st)
  rw [hfull] at HW
  obtain ⟨B1, B2, hbl, hs2⟩ := two_boxes w #[.int .i64 0, .int .i64 0, .int .i64 0, .slice none 0 0, .int .i64 0, .slice none 0 0, .string ⟨#[]⟩, .string ⟨#[]⟩] #[.int .i64 0, .int .i64 0, .int .i64 0, .slice none 0 0, .int .i64 0, .slice none 0 0, .string ⟨#[]⟩, .string ⟨#[]⟩] 34 34
  obtain ⟨g, hg⟩ : ∃ g, w.heap.size = g := ⟨_, rfl⟩
  rw [hg] at B1 B2 hs2 hbl ⊢
  obtain ⟨y, hy⟩ : ∃ Z, (w.alloc (.cells #[.int .i64 0, .int .i64 0, .int .i64 0, .slice none 0 0, .int .i64 0, .slice none 0 0, .string ⟨#[]⟩, .string ⟨#[]⟩] 34)).alloc (.cells #[.int .i64 0, .int .i64 0, .int .i64 0, .slice none 0 0, .int .i64 0, .slice none 0 0, .string ⟨#[]⟩, .string ⟨#[]⟩] 34) = Z := ⟨_, rfl⟩
  rw [hy] at B1 B2 hbl hs2
  have C2 := blk_setRow (cells := (Rep.bare st).cs) B2
  have C1 : Blk (y.setRow (g + 1) (Rep.bare st).cs) g _ _ := blk_setRow_other B1 (by omega)
  have hO1 : Below g w (y.setRow (g + 1) (Rep.bare st).cs) := below_setRow hbl (by omega) _
  have hS2 : g + 2 ≤ (y.setRow (g + 1) (Rep.bare st).cs).heap.size := by have := (only_setRow (w := y) (P := fun j => j = g + 1) (g + 1) (Rep.bare st).cs rfl).size; omega
  obtain ⟨y2, hy2⟩ : ∃ Z, y.setRow (g + 1) (Rep.bare st).cs = Z := ⟨_, rfl⟩
  have HZ0 := hide B2
  rw [hy2] at C1 C2 hO1 hS2
  have HY0 := hide (show Blk y2 g #[.int .i64 0, .int .i64 0, .int .i64 0, .slice none 0 0, .int .i64 0, .slice none 0 0, .string ⟨#[]⟩, .string ⟨#[]⟩] 34 ∧ Blk y2 (g + 1) (Rep.bare st).cs 34 ∧ Below g w y2 ∧ g + 2 ≤ y2.heap.size from ⟨C1, C2, hO1, hS2⟩)
  have HB0 := hide (built_rep st)
  have HO0 := hide (Rep.one (Rep.bare st))
  have c0 : y2.cell? ⟨g + 1, 0, none⟩ = some (.int .i64 st) := C2.cell 0
  clear B1 B2 hbl hs2 C1 C2 hO1 hS2 hfull
  go_enter Tryz.func52, Tryz.ntmps52
  go_wp2_with (first | refine wpList_buildAs rfl 34 #[(0, .tmp 9)] rfl _ rfl (Rep.bare st).cs (unhide HB0) ?_ | refine wpList_store_row rfl 34 (.tmp 7) (.tmp 10) rfl (g + 1) (Rep.bare st).cs rfl rfl 34 #[.int .i64 0, .int .i64 0, .int .i64 0, .slice none 0 0, .int .i64 0, .slice none 0 0, .string ⟨#[]⟩, .string ⟨#[]⟩] (unhide HZ0) size_rep rfl (unhide HO0) ?_ | (go_at_call 74; refine (unhide HW _).mono ?_; rintro e y ⟨rfl, hy⟩; subst y))
  (try rw [hy2])
  clear hy hy2
  refine (unhide Hqu _).mono ?_
  rintro e x ⟨rfl, hx⟩
  subst x
  have cf0 : y2.cell? ⟨g + 1, 1, none⟩ = some (.int .i64 0) := by rw [(unhide HY0).2.1.cell]; rfl
  have ff0 : y2.frozen? ⟨g + 1, 1, none⟩ = false := (unhide HY0).2.1.frozen 1
  obtain ⟨y3, hy3⟩ : ∃ Z, y2.setCell ⟨g + 1, 1, none⟩ (.int .i64 qu) = Z := ⟨_, rfl⟩
  have HY1 := hide (show Blk y3 g #[.int .i64 0, .int .i64 0, .int .i64 0, .slice none 0 0, .int .i64 0, .slice none 0 0, .string ⟨#[]⟩, .string ⟨#[]⟩] 34 ∧ Blk y3 (g + 1) (⟨st, qu, 0, none, 0, 0, 0, none, 0, 0, ⟨#[]⟩, ⟨#[]⟩⟩ : Rep).cs 34 ∧ Below g w y3 ∧ g + 2 ≤ y3.heap.size from by
    rw [← hy3]
    obtain ⟨q1, q2, q3, q4⟩ := unhide HY0
    exact ⟨q1.other _ _ (by show g + 1 ≠ g; omega), q2.set 1 (.int .i64 qu), q3.setCell (by show g ≤ g + 1; omega) _, by simpa using q4⟩)
  go_wp2_with fail
  (try rw [hy3])
  refine (unhide Hch _).mono ?_
  rintro e x ⟨rfl, hx⟩
  subst x
  have cf1 : y3.cell? ⟨g + 1, 2, none⟩ = some (.int .i64 0) := by rw [(unhide HY1).2.1.cell]; rfl
  have ff1 : y3.frozen? ⟨g + 1, 2, none⟩ = false := (unhide HY1).2.1.frozen 2
  obtain ⟨y4, hy4⟩ : ∃ Z, y3.setCell ⟨g + 1, 2, none⟩ (.int .i64 ch) = Z := ⟨_, rfl⟩
  have HY2 := hide (show Blk y4 g #[.int .i64 0, .int .i64 0, .int .i64 0, .slice none 0 0, .int .i64 0, .slice none 0 0, .string ⟨#[]⟩, .string ⟨#[]⟩] 34 ∧ Blk y4 (g + 1) (⟨st, qu, ch, none, 0, 0, 0, none, 0, 0, ⟨#[]⟩, ⟨#[]⟩⟩ : Rep).cs 34 ∧ Below g w y4 ∧ g + 2 ≤ y4.heap.size from by
    rw [← hy4]
    obtain ⟨q1, q2, q3, q4⟩ := unhide HY1
    exact ⟨q1.other _ _ (by show g + 1 ≠ g; omega), q2.set 2 (.int .i64 ch), q3.setCell (by show g ≤ g + 1; omega) _, by simpa using q4⟩)
  go_wp2_with fail
  (try rw [hy4])
  (try rw [l3])
  refine (unhide HV _).mono ?_
  rintro e x5 ⟨p, c, rfl, hOL, hbL⟩
  have HX5 := hide (show Blk x5 g #[.int .i64 0, .int .i64 0, .int .i64 0, .slice none 0 0, .int .i64 0, .slice none 0 0, .string ⟨#[]⟩, .string ⟨#[]⟩] 34 ∧ Blk x5 (g + 1) (⟨st, qu, ch, none, 0, 0, 0, none, 0, 0, ⟨#[]⟩, ⟨#[]⟩⟩ : Rep).cs 34 ∧ Below g w x5 ∧ g + 2 ≤ x5.heap.size from by
    obtain ⟨q1, q2, q3, q4⟩ := unhide HY2
    exact ⟨q1.below hbL q1.lt, q2.below hbL q2.lt, q3.trans (hbL.mono (by omega)), Nat.le_trans q4 hbL.size⟩)
  have HOL := hide (hOL.base (N' := g + 2) (unhide HY2).2.2.2)
  clear hOL hbL
  have cf2 : x5.cell? ⟨g + 1, 3, none⟩ = some (.slice none 0 0) := by rw [(unhide HX5).2.1.cell]; rfl
  have ff2 : x5.frozen? ⟨g + 1, 3, none⟩ = false := (unhide HX5).2.1.frozen 3
  obtain ⟨y5, hy5⟩ : ∃ Z, x5.setCell ⟨g + 1, 3, none⟩ (.slice p V.length c) = Z := ⟨_, rfl⟩
  have HY3 := hide (show Blk y5 g #[.int .i64 0, .int .i64 0, .int .i64 0, .slice none 0 0, .int .i64 0, .slice none 0 0, .string ⟨#[]⟩, .string ⟨#[]⟩] 34 ∧ Blk y5 (g + 1) (⟨st, qu, ch, p, V.length, c, 0, none, 0, 0, ⟨#[]⟩, ⟨#[]⟩⟩ : Rep).cs 34 ∧ Below g w y5 ∧ g + 2 ≤ y5.heap.size from by
    rw [← hy5]
    obtain ⟨q1, q2, q3, q4⟩ := unhide HX5
    exact ⟨q1.other _ _ (by show g + 1 ≠ g; omega), q2.set 3 (.slice p V.length c), q3.setCell (by show g ≤ g + 1; omega) _, by simpa using q4⟩)
  have HOL9 := hide (show OwnL y5 (g + 2) p V.length c V from by rw [← hy5]; exact (unhide HOL).only ((Only.refl _ _).setCell (P := fun q => q = g + 1) _ _ (fun _ => rfl)) (fun q hq _ e => by omega))
  have BT := blk_setRow (cells := (⟨st, qu, ch, p, V.length, c, 0, none, 0, 0, ⟨#[]⟩, ⟨#[]⟩⟩ : Rep).cs) (unhide HY3).1
  have HL0 := hide (iload_blk 34 _ BT Tryz.underlying34 rfl size_rep)
  have HRG := hide (show y5.rangeAt (g + 1) 0 (⟨st, qu, ch, p, V.length, c, 0, none, 0, 0, ⟨#[]⟩, ⟨#[]⟩⟩ : Rep).cl from blk_range (unhide HY3).2.1)
  have HZ := hide (unhide HY3).1
  have HO := hide (Rep.one (⟨st, qu, ch, p, V.length, c, 0, none, 0, 0, ⟨#[]⟩, ⟨#[]⟩⟩ : Rep))
  have HF := hide (show Below g w (y5.setRow g (⟨st, qu, ch, p, V.length, c, 0, none, 0, 0, ⟨#[]⟩, ⟨#[]⟩⟩ : Rep).cs) from below_setRow (unhide HY3).2.2.1 (Nat.le_refl _) _)
  have hon : Only (fun q => q = g) y5 (y5.setRow g (⟨st, qu, ch, p, V.length, c, 0, none, 0, 0, ⟨#[]⟩, ⟨#[]⟩⟩ : Rep).cs) := only_setRow (P := fun j => j = g) g (⟨st, qu, ch, p, V.length, c, 0, none, 0, 0, ⟨#[]⟩, ⟨#[]⟩⟩ : Rep).cs rfl
  have HG := hide (show RM st g (⟨st, qu, ch, p, V.length, c, 0, none, 0, 0, ⟨#[]⟩, ⟨#[]⟩⟩ : Rep) ⟨qu, ch, 0, ⟨#[]⟩, ⟨#[]⟩, V, []⟩ (y5.setRow g (⟨st, qu, ch, p, V.length, c, 0, none, 0, 0, ⟨#[]⟩, ⟨#[]⟩⟩ : Rep).cs) from ⟨rfl, rfl, rfl, rfl, rfl, rfl, (OwnL.only (unhide HOL9) hon (fun q hq _ e => by omega)).base (by omega), OwnL.nil _ _⟩)
  clear BT hon
  go_wp2_with (first | refine wpList_load_mid rfl 34 (.tmp 7) rfl (g + 1) 0 rfl (⟨st, qu, ch, p, V.length, c, 0, none, 0, 0, ⟨#[]⟩, ⟨#[]⟩⟩ : Rep).cl _ (unhide HRG) Tryz.underlying34 rfl size_rep ?_ | refine wpList_store_row rfl 34 (.tmp 6) (.tmp 66) rfl g (⟨st, qu, ch, p, V.length, c, 0, none, 0, 0, ⟨#[]⟩, ⟨#[]⟩⟩ : Rep).cs rfl rfl 34 #[.int .i64 0, .int .i64 0, .int .i64 0, .slice none 0 0, .int .i64 0, .slice none 0 0, .string ⟨#[]⟩, .string ⟨#[]⟩] (unhide HZ) size_rep rfl (unhide HO) ?_)
  (try simp only [Exit.inBlock, Exit.then])
  refine bodyPost_ret (results_cell rfl _ _ _ ⟨g, 0, none⟩ rfl _ (unhide HL0)) rfl ?_
  exact ⟨_, rfl, unhide HG, unhide HF⟩
end Go.Proofs.YtclgkgaobjcifaaGreatDoor
