import Derived.Test.YtpcmifmgkccfnaaGreatDoorMv09
namespace Go.Proofs.YtpcmifmgkccfnaaGreatDoor
open Go.RowKit
set_option maxRecDepth 100000
set_option maxRecDepth 100000 in
set_option maxHeartbeats 2000000 in
theorem parseRec_c (th : Bool) (m q c n : Nat) (f : Nat → Nat × Nat) (hm : ((m : Int) == 1) = th) (hm1 : m ≤ 1) (hq : q ≤ 65535) (hc : c ≤ 65535) (hn : n ≤ 8) (hf : ∀ k, (f k).1 ≤ 99 ∧ (f k).2 ≤ 1023) (tx : ByteArray) (htx : tx = strOfNums (numB (m : Int) 1 ++ (numB (q : Int) 4 ++ (numB (c : Int) 4 ++ (numB (n : Int) 1 ++ vT f 0 8))))) (hR : ∀ w, Calls Tryz.prog 168 #[.agg (rC th q c n f).toArray] w fun e w' => e = .returned (.bool true) ∧ Below w.heap.size w w') (w : World) (hE : ETy w) : Calls Tryz.prog 129 #[.string tx] w fun e w' => e = .returned (.tuple #[.agg (rC th q c n f).toArray, .bool true]) ∧ Below w.heap.size w w' := by
  obtain ⟨g, hg⟩ : ∃ g, w.heap.size = g := ⟨_, rfl⟩
  have HTX := hide htx
  have HBY := hide (And.intro (vT_bytes f) (vT_len f))
  have HQ := hide (And.intro hm1 (And.intro hq (And.intro hc (And.intro hn hf))))
  have HR := hide hR
  have HEW := hide (fun W (h : Below g w W) => hE.below h (by rw [← hg]; exact hE.lt))
  obtain ⟨x2, hx2⟩ : ∃ q, w.alloc (.cells #[.bool false, .int .i64 0, .int .i64 0, .int .i64 0, .int .i64 0, .int .i64 0, .int .i64 0, .int .i64 0, .int .i64 0, .int .i64 0, .int .i64 0, .int .i64 0, .int .i64 0, .int .i64 0, .int .i64 0, .int .i64 0, .int .i64 0, .int .i64 0, .int .i64 0, .int .i64 0] 88) = q := ⟨_, rfl⟩
  have BZ : Blk x2 g #[.bool false, .int .i64 0, .int .i64 0, .int .i64 0, .int .i64 0, .int .i64 0, .int .i64 0, .int .i64 0, .int .i64 0, .int .i64 0, .int .i64 0, .int .i64 0, .int .i64 0, .int .i64 0, .int .i64 0, .int .i64 0, .int .i64 0, .int .i64 0, .int .i64 0, .int .i64 0] 88 := by rw [← hx2, ← hg]; exact Blk.new w _ _
  have hb : Below g w x2 := by rw [← hx2, ← hg]; exact (Below.refl _ w).alloc (Nat.le_refl _) _
  have hs2 : x2.heap.size = g + 1 := by rw [← hx2, ← hg]; simp
  have X2 := hide (And.intro BZ (And.intro hb hs2))
  clear htx hR hE BZ hb hs2 hm1 hq hc hn hf
  rw [hg]
  go_enter Tryz.func129, Tryz.ntmps129
  go_wp2_with fail
  clear hx2
  refine (newReader_any tx _).mono ?_
  rintro e x3 ⟨rfl, hR3, hb3, hs3⟩
  obtain ⟨BZ, hb, hs2⟩ := unhide X2
  rw [hs2] at hR3 hs3 ⊢
  have BZ3 := BZ.below hb3 BZ.lt
  have hbw3 : Below g w x3 := hb.trans (hb3.mono (by omega))
  rw [unhide HTX] at hR3
  have HN := hide (rnumK hR3 (unhide HEW x3 hbw3) (by decide) (by decide) (fits1n m (by have := (unhide HQ).1; omega)) (by have := (unhide HQ).1; omega) (bytes_app (numB_bytes _ _) (bytes_app (numB_bytes _ _) (bytes_app (numB_bytes _ _) ((unhide HBY).1 8 0)))) (by decide) (by simp only [List.length_append, numB_len, (unhide HBY).2]; decide) 1 rfl 1 rfl)
  have X3 := hide (And.intro BZ3 (And.intro hbw3 hs3))
  clear BZ hb hs2 hR3 hb3 hs3 BZ3 hbw3 X2 HTX
  go_wp2_with fail
  refine (unhide HN).mono ?_
  rintro e x4 ⟨rfl, hR4, hO4⟩
  obtain ⟨BZ3, hbw3, hs3⟩ := unhide X3
  have BZ4 := BZ3.only hO4 (by omega)
  have hbw4 := hbw3.trans (hO4.below (B := g) (by omega) (fun x hx => by omega))
  have hs4 : x4.heap.size = g + 2 ∨ True := .inr trivial
  obtain ⟨h6, hh6⟩ : ∃ q, x4.heap.size = q := ⟨_, rfl⟩
  have hh2 : g + 2 ≤ h6 := by rw [← hh6]; have := hO4.size; omega
  have hyl := rC_len th 0 0 0 (fun _ => (0, 0))
  have HE0 := hide (rC_zero th)
  have HYO := hide (rC_one th 0 0 0 (fun _ => (0, 0)))
  have HQ1 := hide (And.intro (show (rC th 0 0 0 (fun _ => (0, 0))).toArray.setIfInBounds 1 (.int .i64 (q : Int)) = (rC th q 0 0 (fun _ => (0, 0))).toArray from rfl) (And.intro (show (rC th q 0 0 (fun _ => (0, 0))).toArray.setIfInBounds 2 (.int .i64 (c : Int)) = (rC th q c 0 (fun _ => (0, 0))).toArray from rfl) (show (rC th q c 0 (fun _ => (0, 0))).toArray.setIfInBounds 3 (.int .i64 (n : Int)) = (rC th q c n (cutV f 0)).toArray by rw [cutV_0]; rfl)))
  have HC1 := hide (And.intro (show (rC th 0 0 0 (fun _ => (0, 0))).toArray[1]? = some (.int .i64 0) from rfl) (And.intro (show (rC th q 0 0 (fun _ => (0, 0))).toArray[2]? = some (.int .i64 0) from rfl) (show (rC th q c 0 (fun _ => (0, 0))).toArray[3]? = some (.int .i64 0) from rfl)))
  generalize rC th 0 0 0 (fun _ => (0, 0)) = ys at *
  obtain ⟨x5, hx5⟩ : ∃ q, x4.alloc (.cells #[.bool false, .int .i64 0, .int .i64 0, .int .i64 0, .int .i64 0, .int .i64 0, .int .i64 0, .int .i64 0, .int .i64 0, .int .i64 0, .int .i64 0, .int .i64 0, .int .i64 0, .int .i64 0, .int .i64 0, .int .i64 0, .int .i64 0, .int .i64 0, .int .i64 0, .int .i64 0] 88) = q := ⟨_, rfl⟩
  have BY : Blk x5 h6 #[.bool false, .int .i64 0, .int .i64 0, .int .i64 0, .int .i64 0, .int .i64 0, .int .i64 0, .int .i64 0, .int .i64 0, .int .i64 0, .int .i64 0, .int .i64 0, .int .i64 0, .int .i64 0, .int .i64 0, .int .i64 0, .int .i64 0, .int .i64 0, .int .i64 0, .int .i64 0] 88 := by rw [← hx5, ← hh6]; exact Blk.new x4 _ _
  have BZ5 : Blk x5 g #[.bool false, .int .i64 0, .int .i64 0, .int .i64 0, .int .i64 0, .int .i64 0, .int .i64 0, .int .i64 0, .int .i64 0, .int .i64 0, .int .i64 0, .int .i64 0, .int .i64 0, .int .i64 0, .int .i64 0, .int .i64 0, .int .i64 0, .int .i64 0, .int .i64 0, .int .i64 0] 88 := by rw [← hx5]; exact BZ4.alloc _
  have hR5 : Rds x5 (g + 1) ⟨strOfNums (numB (q : Int) 4 ++ (numB (c : Int) 4 ++ (numB (n : Int) 1 ++ vT f 0 8))), 1, 0⟩ := by rw [← hx5]; exact Blk.alloc hR4 _
  have hbw5 : Below g w x5 := by rw [← hx5]; exact hbw4.alloc (by omega) _
  have TH := hide (blk_there BY ys.toArray.size (by simp [hyl]))
  have B6 := setCells_all BY ys (by simp [hyl])
  have BZ6 := blk_cells_other ys 0 BZ5 h6 (by omega)
  have hR6 := blk_cells_other ys 0 hR5 h6 (by omega)
  have hbw6 := below_setCells (b := h6) (by omega) ys 0 hbw5
  have HYL := hide hyl
  obtain ⟨x6, hx6⟩ : ∃ q, x5.setCells h6 0 ys = q := ⟨_, rfl⟩
  rw [hx6] at B6 BZ6 hR6 hbw6
  have hm' := hm
  have HN6 := hide (rnumK hR6 (unhide HEW x6 hbw6) (by decide) (by decide) (fits4n q (by have := (unhide HQ).2.1; omega)) (by have := (unhide HQ).2.1; omega) (bytes_app (numB_bytes _ _) (bytes_app (numB_bytes _ _) ((unhide HBY).1 8 0))) (by decide) (by simp only [List.length_append, numB_len, (unhide HBY).2]; decide) 4 rfl 5 rfl)
  have X6 := hide (And.intro BZ6 (And.intro B6 (And.intro hbw6 hh2)))
  clear BZ3 hbw3 hs3 BZ4 hbw4 hs4 hR4 hO4 BY BZ5 hR5 hbw5 hyl B6 BZ6 hR6 hbw6 X3 HN
  go_wp2_with (refine wpList_store_mid rfl 88 (.tmp 6) (.tmp 16) rfl h6 0 ys.toArray rfl (by rw [unhide HE0]; rfl) (unhide TH) (by rw [sizeRec]; simp [unhide HYL]) (unhide HYO) ?_)
  clear hx5 TH HE0 HYO HYL hx6 hh6
  refine (unhide HN6).mono ?_
  rintro e x7 ⟨rfl, hR7, hO7⟩
  obtain ⟨BZ6, B6, hbw6, hh2⟩ := unhide X6
  have B7 := B6.only hO7 (by omega)
  have BZ7 := BZ6.only hO7 (by omega)
  have hbw7 := hbw6.trans (hO7.below (B := g) (by have := BZ6.lt; omega) (fun x hx => by omega))
  have c1 : x7.cell? ⟨h6, 1, none⟩ = some (.int .i64 0) := by rw [B7.cell]; exact (unhide HC1).1
  have f1 := B7.frozen 1
  obtain ⟨x8, hx8⟩ : ∃ xx, x7.setCell ⟨h6, 1, none⟩ (.int .i64 (q : Int)) = xx := ⟨_, rfl⟩
  have B8 : Blk x8 h6 (rC th q 0 0 (fun _ => (0, 0))).toArray 88 := by rw [← hx8, ← (unhide HQ1).1]; exact B7.set _ _
  have BZ8 : Blk x8 g #[.bool false, .int .i64 0, .int .i64 0, .int .i64 0, .int .i64 0, .int .i64 0, .int .i64 0, .int .i64 0, .int .i64 0, .int .i64 0, .int .i64 0, .int .i64 0, .int .i64 0, .int .i64 0, .int .i64 0, .int .i64 0, .int .i64 0, .int .i64 0, .int .i64 0, .int .i64 0] 88 := by rw [← hx8]; exact BZ7.other _ _ (by show h6 ≠ g; omega)
  have hR8 : Rds x8 (g + 1) ⟨strOfNums (numB (c : Int) 4 ++ (numB (n : Int) 1 ++ vT f 0 8)), 5, 0⟩ := by rw [← hx8]; exact Blk.other hR7 _ _ (by show h6 ≠ g + 1; omega)
  have hbw8 : Below g w x8 := by rw [← hx8]; exact hbw7.setCell (by show g ≤ h6; omega) _
  have HN8 := hide (rnumK hR8 (unhide HEW x8 hbw8) (by decide) (by decide) (fits4n c (by have := (unhide HQ).2.2.1; omega)) (by have := (unhide HQ).2.2.1; omega) (bytes_app (numB_bytes _ _) ((unhide HBY).1 8 0)) (by decide) (by simp only [List.length_append, numB_len, (unhide HBY).2]; decide) 4 rfl 9 rfl)
  have X8 := hide (And.intro BZ8 (And.intro B8 (And.intro hbw8 hh2)))
  clear BZ6 B6 hbw6 hh2 B7 BZ7 hbw7 hR7 hO7 B8 BZ8 hR8 hbw8 X6 HN6
  go_wp2_with fail
  clear hx8 c1 f1
  refine (unhide HN8).mono ?_
  rintro e x9 ⟨rfl, hR9, hO9⟩
  obtain ⟨BZ8, B8, hbw8, hh2⟩ := unhide X8
  have B9 := B8.only hO9 (by omega)
  have BZ9 := BZ8.only hO9 (by omega)
  have hbw9 := hbw8.trans (hO9.below (B := g) (by have := BZ8.lt; omega) (fun x hx => by omega))
  have c2 : x9.cell? ⟨h6, 2, none⟩ = some (.int .i64 0) := by rw [B9.cell]; exact (unhide HC1).2.1
  have f2 := B9.frozen 2
  obtain ⟨x10, hx10⟩ : ∃ xx, x9.setCell ⟨h6, 2, none⟩ (.int .i64 (c : Int)) = xx := ⟨_, rfl⟩
  have B10 : Blk x10 h6 (rC th q c 0 (fun _ => (0, 0))).toArray 88 := by rw [← hx10, ← (unhide HQ1).2.1]; exact B9.set _ _
  have BZ10 : Blk x10 g #[.bool false, .int .i64 0, .int .i64 0, .int .i64 0, .int .i64 0, .int .i64 0, .int .i64 0, .int .i64 0, .int .i64 0, .int .i64 0, .int .i64 0, .int .i64 0, .int .i64 0, .int .i64 0, .int .i64 0, .int .i64 0, .int .i64 0, .int .i64 0, .int .i64 0, .int .i64 0] 88 := by rw [← hx10]; exact BZ9.other _ _ (by show h6 ≠ g; omega)
  have hR10 : Rds x10 (g + 1) ⟨strOfNums (numB (n : Int) 1 ++ vT f 0 8), 9, 0⟩ := by rw [← hx10]; exact Blk.other hR9 _ _ (by show h6 ≠ g + 1; omega)
  have hbw10 : Below g w x10 := by rw [← hx10]; exact hbw9.setCell (by show g ≤ h6; omega) _
  have HN10 := hide (rnumK hR10 (unhide HEW x10 hbw10) (by decide) (by decide) (fits1n n (by have := (unhide HQ).2.2.2.1; omega)) (by have := (unhide HQ).2.2.2.1; omega) ((unhide HBY).1 8 0) (by decide) (by simp only [(unhide HBY).2]; decide) 1 rfl 10 rfl)
  have X10 := hide (And.intro BZ10 (And.intro B10 (And.intro hbw10 hh2)))
  clear BZ8 B8 hbw8 hh2 B9 BZ9 hbw9 hR9 hO9 B10 BZ10 hR10 hbw10 X8 HN8
  go_wp2_with fail
  clear hx10 c2 f2
  refine (unhide HN10).mono ?_
  rintro e x11 ⟨rfl, hR11, hO11⟩
  obtain ⟨BZ10, B10, hbw10, hh2⟩ := unhide X10
  have B11 := B10.only hO11 (by omega)
  have BZ11 := BZ10.only hO11 (by omega)
  have hbw11 := hbw10.trans (hO11.below (B := g) (by have := BZ10.lt; omega) (fun x hx => by omega))
  have c3 : x11.cell? ⟨h6, 3, none⟩ = some (.int .i64 0) := by rw [B11.cell]; exact (unhide HC1).2.2
  have f3 := B11.frozen 3
  obtain ⟨x12, hx12⟩ : ∃ xx, x11.setCell ⟨h6, 3, none⟩ (.int .i64 (n : Int)) = xx := ⟨_, rfl⟩
  have B12 : Blk x12 h6 (rC th q c n (cutV f 0)).toArray 88 := by rw [← hx12, ← (unhide HQ1).2.2]; exact B11.set _ _
  have BZ12 : Blk x12 g #[.bool false, .int .i64 0, .int .i64 0, .int .i64 0, .int .i64 0, .int .i64 0, .int .i64 0, .int .i64 0, .int .i64 0, .int .i64 0, .int .i64 0, .int .i64 0, .int .i64 0, .int .i64 0, .int .i64 0, .int .i64 0, .int .i64 0, .int .i64 0, .int .i64 0, .int .i64 0] 88 := by rw [← hx12]; exact BZ11.other _ _ (by show h6 ≠ g; omega)
  have hR12 : Rds x12 (g + 1) ⟨strOfNums (vT f 0 8), 10, 0⟩ := by rw [← hx12]; exact Blk.other hR11 _ _ (by show h6 ≠ g + 1; omega)
  have hbw12 : Below g w x12 := by rw [← hx12]; exact hbw11.setCell (by show g ≤ h6; omega) _
  have HI := hide (And.intro BZ12 (And.intro B12 (And.intro hR12 hbw12)))
  have HH2 := hide hh2
  clear BZ10 B10 hbw10 B11 BZ11 hbw11 hR11 hO11 B12 BZ12 hR12 hbw12 X10 HN10 HQ1 HC1 hh2
  go_wp2
  clear hx12 c3 f3
  go_loopw [26, 7] (fun i j wr => ∃ k : Nat, k ≤ 8 ∧ i = .int .i64 (k : Int) ∧ Blk wr g #[.bool false, .int .i64 0, .int .i64 0, .int .i64 0, .int .i64 0, .int .i64 0, .int .i64 0, .int .i64 0, .int .i64 0, .int .i64 0, .int .i64 0, .int .i64 0, .int .i64 0, .int .i64 0, .int .i64 0, .int .i64 0, .int .i64 0, .int .i64 0, .int .i64 0, .int .i64 0] 88 ∧ Blk wr h6 (rC th q c n (cutV f k)).toArray 88 ∧ Rds wr (g + 1) ⟨strOfNums (vT f k (8 - k)), 10 + 5 * (k : Int), 0⟩ ∧ Below g w wr) (fun i _ _ => 8 - (intOf i).toNat)
  case atStart => exact ⟨0, by omega, rfl, (unhide HI).1, (unhide HI).2.1, (unhide HI).2.2.1, (unhide HI).2.2.2⟩
  case round =>
    obtain ⟨k, hk, rfl, hI⟩ := hrel
    by_cases hkn : k < 8
    · have hkn' : (k : Int) < 8 := by omega
      have hk0 : (0 : Int) ≤ (k : Int) := by omega
      obtain ⟨I1, I2, I3, I4⟩ := hI
      have I5 := unhide HEW wr I4
      rw [vT_step f k hkn] at I3
      have HN := hide (rnumK I3 I5 (by decide) (by decide) (fits1n _ (by have := ((unhide HQ).2.2.2.2 k).1; omega)) (by have := ((unhide HQ).2.2.2.2 k).1; omega) (bytes_app (numB_bytes _ _) ((unhide HBY).1 _ _)) (by omega) (by simp only [List.length_append, numB_len, (unhide HBY).2]; omega) 1 rfl (11 + 5 * (k : Int)) (by omega))
      have HI5 := hide (And.intro I1 (And.intro I2 I4))
      clear I1 I2 I3 I4 I5
      go_wp2_with fail
      refine (unhide HN).mono ?_
      rintro e y1 ⟨rfl, hR1, hO1⟩
      obtain ⟨I1, I2, I4⟩ := unhide HI5
      have hh2 := unhide HH2
      have J1 := I1.only hO1 (by omega)
      have J2 := I2.only hO1 (by omega)
      have J4 := I4.trans (hO1.below (B := g) (by have := I1.lt; omega) (fun x hx => by omega))
      have d1 : y1.cell? ⟨h6, 4 + k * 2, none⟩ = some (.int .i64 ((cutV f k k).1 : Int)) := by rw [J2.cell]; exact (rC_at _ _ _ _ _ k hkn).1
      have df1 := J2.frozen (4 + k * 2)
      obtain ⟨y2, hy2⟩ : ∃ xx, y1.setCell ⟨h6, 4 + k * 2, none⟩ (.int .i64 ((f k).1 : Int)) = xx := ⟨_, rfl⟩
      have L1 : Blk y2 g #[.bool false, .int .i64 0, .int .i64 0, .int .i64 0, .int .i64 0, .int .i64 0, .int .i64 0, .int .i64 0, .int .i64 0, .int .i64 0, .int .i64 0, .int .i64 0, .int .i64 0, .int .i64 0, .int .i64 0, .int .i64 0, .int .i64 0, .int .i64 0, .int .i64 0, .int .i64 0] 88 := by rw [← hy2]; exact J1.other _ _ (by show h6 ≠ g; omega)
      have L2 : Blk y2 h6 (rC th q c n (ups (cutV f k) k ((f k).1, (cutV f k k).2))).toArray 88 := by rw [← hy2, ← rC_set1 _ _ _ _ _ k hkn]; exact J2.set _ _
      have L3 : Rds y2 (g + 1) ⟨strOfNums (numB ((f k).2 : Int) 4 ++ vT f (k + 1) (8 - (k + 1))), 11 + 5 * (k : Int), 0⟩ := by rw [← hy2]; exact Blk.other hR1 _ _ (by show h6 ≠ g + 1; omega)
      have L4 : Below g w y2 := by rw [← hy2]; exact J4.setCell (by show g ≤ h6; omega) _
      have HN2 := hide (rnumK L3 (unhide HEW y2 L4) (by decide) (by decide) (fits4n _ (by have := ((unhide HQ).2.2.2.2 k).2; omega)) (by have := ((unhide HQ).2.2.2.2 k).2; omega) ((unhide HBY).1 _ _) (by omega) (by simp only [(unhide HBY).2]; omega) 4 rfl (10 + 5 * ((k + 1 : Nat) : Int)) (by omega))
      have HI6 := hide (And.intro L1 (And.intro L2 L4))
      clear I1 I2 I4 J1 J2 J4 hR1 hO1 L1 L2 L3 L4 HI5 HN hh2
      generalize hcv : ((cutV f k k).1 : Int) = cv at *
      clear hcv
      go_wp2_with fail
      clear hy2 d1 df1
      refine (unhide HN2).mono ?_
      rintro e y3 ⟨rfl, hR3, hO3⟩
      obtain ⟨L1, L2, L4⟩ := unhide HI6
      have hh2 := unhide HH2
      have J1 := L1.only hO3 (by omega)
      have J2 := L2.only hO3 (by omega)
      have J4 := L4.trans (hO3.below (B := g) (by have := L1.lt; omega) (fun x hx => by omega))
      have d2 : y3.cell? ⟨h6, 4 + k * 2 + 1, none⟩ = some (.int .i64 ((ups (cutV f k) k ((f k).1, (cutV f k k).2) k).2 : Int)) := by rw [J2.cell]; exact (rC_at _ _ _ _ _ k hkn).2
      have df2 := J2.frozen (4 + k * 2 + 1)
      have HF := hide (show Blk (y3.setCell ⟨h6, 4 + k * 2 + 1, none⟩ (.int .i64 ((f k).2 : Int))) g #[.bool false, .int .i64 0, .int .i64 0, .int .i64 0, .int .i64 0, .int .i64 0, .int .i64 0, .int .i64 0, .int .i64 0, .int .i64 0, .int .i64 0, .int .i64 0, .int .i64 0, .int .i64 0, .int .i64 0, .int .i64 0, .int .i64 0, .int .i64 0, .int .i64 0, .int .i64 0] 88 ∧ Blk (y3.setCell ⟨h6, 4 + k * 2 + 1, none⟩ (.int .i64 ((f k).2 : Int))) h6 (rC th q c n (cutV f (k + 1))).toArray 88 ∧ Rds (y3.setCell ⟨h6, 4 + k * 2 + 1, none⟩ (.int .i64 ((f k).2 : Int))) (g + 1) ⟨strOfNums (vT f (k + 1) (8 - (k + 1))), 10 + 5 * ((k + 1 : Nat) : Int), 0⟩ ∧ Below g w (y3.setCell ⟨h6, 4 + k * 2 + 1, none⟩ (.int .i64 ((f k).2 : Int))) from
        ⟨J1.other _ _ (by show h6 ≠ g; omega), by have := J2.set (4 + k * 2 + 1) (.int .i64 ((f k).2 : Int)); rwa [rC_set2 _ _ _ _ _ k hkn, ups_same, ups_ups, show ((f k).1, (f k).2) = f k from rfl, cutV_succ] at this, Blk.other hR3 _ _ (by show h6 ≠ g + 1; omega), J4.setCell (by show g ≤ h6; omega) _⟩)
      clear L1 L2 L4 J1 J2 J4 hR3 hO3 HI6 HN2 hh2
      generalize ((ups (cutV f k) k ((f k).1, (cutV f k k).2) k).2 : Int) = cw at *
      go_wp2
      go_roundw
      case rel => exact ⟨k + 1, by omega, by go_num, (unhide HF).1, (unhide HF).2.1, (unhide HF).2.2.1, (unhide HF).2.2.2⟩
      case measure => simp [intOf]; omega
    · have hke : k = 8 := by omega
      have hkn' : ¬ (k : Int) < 8 := by omega
      obtain ⟨I1, I2, I3, I4⟩ := hI
      have I2' : Blk wr h6 (rC th q c n f).toArray 88 := by rw [hke, rC_cut] at I2; exact I2
      have HD := hide (rdone_any wr (g + 1) _ _ _ I3)
      rw [show doneE (strOfNums (vT f k (8 - k))) 0 = 0 by rw [hke, doneE, if_neg (by rw [strOfNums_size]; simp [vT])]] at HD
      have hzl := rC_len th q c n f
      have hzo := rC_one th q c n f
      obtain ⟨zs, hzs⟩ : ∃ xx, rC th q c n f = xx := ⟨_, rfl⟩
      rw [hzs] at I2' hzl hzo
      have HR2 := hide (show ∀ W, Calls Tryz.prog 168 #[.agg zs.toArray] W fun e w' => e = .returned (.bool true) ∧ Below W.heap.size W w' from fun W => by rw [← hzs]; exact unhide HR W)
      have HZS := hide hzs
      have HZL := hide hzl
      have HZO := hide hzo
      have X := hide (And.intro I1 (And.intro I2' I4))
      have hmk : decide ((1 : Int) < (m : Int)) = false := by have := (unhide HQ).1; simp; omega
      clear I1 I2 I3 I4 I2' hzl hzo hzs hke HI HR
      go_wp2_with fail
      refine (unhide HD).mono ?_
      rintro e y1 ⟨rfl, hb1⟩
      obtain ⟨I1, I2, I4⟩ := unhide X
      have hlt1 := I1.lt
      have J1 := I1.below hb1 I1.lt
      have J2 := I2.below hb1 I2.lt
      have J4 := I4.trans (hb1.mono (by omega))
      have R1 := hide (blk_range J2)
      have Y := hide (And.intro J1 (And.intro J2 J4))
      clear I1 I2 I4 J1 J2 J4 hb1 HD X hlt1
      go_wp2_with (refine wpList_load_midG (by rfl) 88 (.tmp 6) rfl h6 0 rfl _ _ (unhide R1) Tryz.underlying88 rfl (by rw [sizeRec, unhide HZL]) ?_)
      refine (unhide HR2 _).mono ?_
      rintro e y2 ⟨rfl, hb2⟩
      obtain ⟨I1, I2, I4⟩ := unhide Y
      have hlt1 := I1.lt
      have J1 := I1.below hb2 I1.lt
      have J2 := I2.below hb2 I2.lt
      have J4 := I4.trans (hb2.mono (by omega))
      have R2 := hide (blk_range J2)
      have TH := hide (blk_there J1 zs.toArray.size (by simp [unhide HZL]))
      have B4 := setCells_all J1 zs (by simp [unhide HZL])
      have HLD := hide (iload_blk 88 _ B4 Tryz.underlying88 rfl (by rw [sizeRec]; simp [unhide HZL]))
      have HB4 := hide (below_setCells (b := g) (Nat.le_refl _) zs 0 J4)
      clear I1 I2 I4 J1 J2 J4 hb2 Y R1 B4 HR2 hlt1
      go_wp2_with (first | refine wpList_load_mid rfl 88 (.tmp 6) rfl h6 0 rfl _ _ (unhide R2) Tryz.underlying88 rfl (by rw [sizeRec, unhide HZL]) ?_ | refine wpList_store_mid rfl 88 (.tmp 2) (.tmp 59) rfl g 0 zs.toArray rfl rfl (unhide TH) (by rw [sizeRec]; simp [unhide HZL]) (unhide HZO) ?_)
      exact bodyPost_ret (v := .tuple #[.agg zs.toArray, .bool true]) (results_cell2 (p := 2) (q := 3) (ty := 88) rfl _ _ _ ⟨g, 0, none⟩ rfl _ (unhide HLD)) rfl ⟨by rw [unhide HZS], unhide HB4⟩
theorem parseRec_any (r : Rc) (h : ROk r) (w : World) (hE : ETy w) : Calls Tryz.prog 129 #[.string (bdR r)] w fun e w' => e = .returned (.tuple #[.agg (rV r).toArray, .bool true]) ∧ Below w.heap.size w w' :=
  parseRec_c r.th (mkR r) r.q r.c r.v.length r.at (by unfold mkR; cases r.th <;> rfl) (mkR_le r) h.q (by have := h.c; have := h.q; omega) h.n h.at8 (bdR r) rfl (fun W => recRight_ok r h W) w hE
set_option maxRecDepth 100000 in
set_option maxHeartbeats 2000000 in
theorem recordOf_any (k : Nat) (hk : k ≤ 8) (r : Rc) (h : ROk r) (w : World) (hE : ETy w) : Calls Tryz.prog 74 #[.int .i64 (k : Int), .string (pgR k r)] w fun e w' => e = .returned (.tuple #[.agg (rV r).toArray, .bool true]) ∧ Below w.heap.size w w' := by
  obtain ⟨g, hg⟩ : ∃ g, w.heap.size = g := ⟨_, rfl⟩
  obtain ⟨p1, p2, p3, p4⟩ := pgR_parse k r hk
  have hts := pgR_size k r hk
  have HPR := hide (fun W (q : ETy W) => parseRec_any r h W q)
  have HPS := hide (fun W (q : ETy W) => parse_any rep_ok (pgR k r) (by rw [hts]; decide) W q)
  have HEW := hide (fun W (h : Below g w W) => hE.below h (by rw [← hg]; exact hE.lt))
  have HPP := hide (And.intro p1 (And.intro p2 (And.intro p3 p4)))
  have hyl := rV_len r
  have hyo := rV_one r
  generalize pgR k r = tx at *
  generalize bdR r = bd at *
  generalize rV r = ys at *
  obtain ⟨x2, hx2⟩ : ∃ xx, w.alloc (.cells #[.bool false, .int .i64 0, .int .i64 0, .int .i64 0, .int .i64 0, .int .i64 0, .int .i64 0, .int .i64 0, .int .i64 0, .int .i64 0, .int .i64 0, .int .i64 0, .int .i64 0, .int .i64 0, .int .i64 0, .int .i64 0, .int .i64 0, .int .i64 0, .int .i64 0, .int .i64 0] 88) = xx := ⟨_, rfl⟩
  have BZ : Blk x2 g #[.bool false, .int .i64 0, .int .i64 0, .int .i64 0, .int .i64 0, .int .i64 0, .int .i64 0, .int .i64 0, .int .i64 0, .int .i64 0, .int .i64 0, .int .i64 0, .int .i64 0, .int .i64 0, .int .i64 0, .int .i64 0, .int .i64 0, .int .i64 0, .int .i64 0, .int .i64 0] 88 := by rw [← hx2, ← hg]; exact Blk.new w _ _
  have hb : Below g w x2 := by rw [← hx2, ← hg]; exact (Below.refl _ w).alloc (Nat.le_refl _) _
  have X2 := hide (And.intro BZ hb)
  have HYL := hide hyl
  have HYO := hide hyo
  clear BZ hb p1 p2 p3 p4 hts hE h hyl hyo
  rw [hg]
  go_enter Tryz.func74, Tryz.ntmps74
  go_wp2_with fail
  clear hx2
  refine (unhide HPS _ (unhide HEW _ (unhide X2).2)).mono ?_
  rintro e x3 ⟨hpp, hb3⟩
  rcases hpp with ⟨-, rfl⟩ | ⟨hno, -⟩
  · rw [(unhide HPP).2.1, (unhide HPP).2.2.1, (unhide HPP).2.2.2]
    obtain ⟨BZ, hb⟩ := unhide X2
    have BZ3 := BZ.below hb3 BZ.lt
    have hlt := BZ.lt
    have hb3' := hb.trans (hb3.mono (by omega))
    obtain ⟨g4, hg4⟩ : ∃ xx, x3.heap.size = xx := ⟨_, rfl⟩
    obtain ⟨x4, hx4⟩ : ∃ xx, x3.alloc (.cells #[.int .i64 5, .int .i64 (k : Int), .string bd] 140) = xx := ⟨_, rfl⟩
    have B4 : Blk x4 g4 #[.int .i64 5, .int .i64 (k : Int), .string bd] 140 := by rw [← hx4, ← hg4]; exact Blk.new x3 _ _
    have BZ4 : Blk x4 g #[.bool false, .int .i64 0, .int .i64 0, .int .i64 0, .int .i64 0, .int .i64 0, .int .i64 0, .int .i64 0, .int .i64 0, .int .i64 0, .int .i64 0, .int .i64 0, .int .i64 0, .int .i64 0, .int .i64 0, .int .i64 0, .int .i64 0, .int .i64 0, .int .i64 0, .int .i64 0] 88 := by rw [← hx4]; exact BZ3.alloc _
    have hb4 : Below g w x4 := by rw [← hx4]; exact hb3'.alloc (by have := BZ3.lt; omega) _
    have a0 : x4.cell? ⟨g4, 0, none⟩ = some (.int .i64 5) := B4.cell 0
    have a1 : x4.cell? ⟨g4, 1, none⟩ = some (.int .i64 (k : Int)) := B4.cell 1
    have a2 : x4.cell? ⟨g4, 2, none⟩ = some (.string bd) := B4.cell 2
    have HP4 := hide (unhide HPR x4 (unhide HEW x4 hb4))
    have X4 := hide (And.intro BZ4 hb4)
    clear BZ hb BZ3 hlt hb3' hb3 B4 BZ4 hb4 X2 HPS HPP
    go_wp2_with fail
    refine (unhide HP4).mono ?_
    rintro e x5 ⟨rfl, hb5⟩
    obtain ⟨BZ4, hb4⟩ := unhide X4
    have hlt := BZ4.lt
    have BZ5 := BZ4.below hb5 BZ4.lt
    have hb5' := hb4.trans (hb5.mono (by omega))
    have TH := hide (blk_there BZ5 ys.toArray.size (by simp [unhide HYL]))
    have B6 := setCells_all BZ5 ys (by simp [unhide HYL])
    have HLD := hide (iload_blk 88 _ B6 Tryz.underlying88 rfl (by rw [sizeRec]; simp [unhide HYL]))
    have HB6 := hide (below_setCells (b := g) (Nat.le_refl _) ys 0 hb5')
    clear BZ4 hb4 hlt BZ5 hb5' hb5 B6 X4 HP4
    go_wp2_with (refine wpList_store_mid rfl 88 (.tmp 4) (.tmp 30) rfl g 0 ys.toArray rfl rfl (unhide TH) (by rw [sizeRec]; simp [unhide HYL]) (unhide HYO) ?_)
    exact bodyPost_ret (v := .tuple #[.agg ys.toArray, .bool true]) (results_cell2 (p := 4) (q := 5) (ty := 88) rfl _ _ _ ⟨g, 0, none⟩ rfl _ (unhide HLD)) rfl ⟨rfl, unhide HB6⟩
  · exact absurd (unhide HPP).1 hno
end Go.Proofs.YtpcmifmgkccfnaaGreatDoor
