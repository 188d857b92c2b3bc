import Derived.Test.YtiellebdliifdaaGreatDoorMt31
import Derived.Deep.AppendLies
namespace Go.Proofs.YtiellebdliifdaaGreatDoor
open Go.RowKit Go.Maps Go.Sort Go.Shelf
def V0 : Nat → Vol := fun _ => Vol.new 0 0
def Tb (i : Nat) : Nat → Bool := fun x => decide (x < i)
theorem Tb_0 : (fun _ => false : Nat → Bool) = Tb 0 := by funext x; simp [Tb]
theorem Tb_lea (i n : Nat) (h : i < n) : Lea (Tb i) n i := ⟨h, by simp [Tb], fun j hj => by simp [Tb, hj]⟩
theorem Tb_flp (i : Nat) : flp (Tb i) i = Tb (i + 1) := by
 funext x
 unfold flp Tb
 by_cases e : x = i
 ·subst e; simp
 ·rw [if_neg e]
  by_cases h : x < i
  ·rw [decide_eq_true h, decide_eq_true (by omega)]
  ·rw [decide_eq_false h, decide_eq_false (by omega)]
set_option maxRecDepth 100000 in
set_option maxHeartbeats 2000000 in
theorem known10_any (w : World) (hE : ETy w) : Calls Tryz.prog 4 #[] w fun e w' => e = .returned (.bool true) ∧ Below w.heap.size w w' := by
 obtain ⟨gb, hgb⟩ : ∃ q, w.heap.size = q := ⟨_, rfl⟩
 obtain ⟨x1, hx1⟩ : ∃ q, w.alloc (.cells #[.pointer none, .pointer none, .pointer none, .pointer none, .pointer none] 30) = q := ⟨_, rfl⟩
 have B1 : Blk x1 gb #[.pointer none, .pointer none, .pointer none, .pointer none, .pointer none] 30 := by rw [← hx1, ← hgb]; exact Blk.new w _ _
 have hb1 : Below w.heap.size w x1 := by rw [← hx1]; exact (Below.refl _ w).alloc (Nat.le_refl _) _
 have HMD := hide (made_any (w0 := w) (w := x1) (n := 20) (kp := 4) (Z := fun _ => False) hb1 hE (by decide) (by decide) (by decide) (by rw [hgb]; exact Nat.le_refl _) B1 (fun x q => q.elim))
 simp only [Int.cast_ofNat_Int] at HMD
 have HEN := hide (fun W => entry_any 3 ⟨by decide, by decide⟩ W)
 have HDS := hide (And.intro (eD_size 3) (eW_size 3))
 generalize eD 3 = ed at *
 generalize eW 3 = ew at *
 clear B1 hb1 hE
 go_enter Tryz.func4, Tryz.ntmps4
 go_wp2_with fail
 refine (unhide HMD).mono ?_
 rintro e x2 ⟨rfl, b, hOp⟩
 obtain ⟨jb, pb, mb, sb, L, A, n0, T, V2, hT, -, hA⟩ := hOp.st (m := 0) (V := V0) (fun L A n0 T hR => by rw [hR.1]; exact VS.empty L 20 V0)
 rw [hT] at V2
 obtain ⟨c0, c1, c2, c3⟩ := V2.c
 have HCN := hide (V2.create_none 1 5 (by decide) (by decide) (by decide))
 simp only [Int.cast_ofNat_Int] at HCN
 clear V2 hOp HMD hx1 hT hA
 go_wp2_with fail
 refine (unhide HCN).mono ?_
 rintro e x3 ⟨rfl, V3, -⟩
 obtain ⟨c0, c1, c2, c3⟩ := V3.c
 have HBE := hide V3.begin
 clear V3 HCN
 go_wp2_with fail
 refine (unhide HBE).mono ?_
 rintro e x4 ⟨rfl, V4, -⟩
 obtain ⟨c0, c1, c2, c3⟩ := V4.c
 have HCR := hide (V4.create (by decide) 1 5 (by decide) (by decide) (by decide) 0 ⟨by decide, rfl, fun i hi => absurd hi (by omega)⟩)
 simp only [Int.cast_ofNat_Int] at HCR
 clear V4 HBE
 go_wp2_with fail
 refine (unhide HCR).mono ?_
 rintro e x5 ⟨rfl, hV5, -⟩
 have hr5 : (ups V0 0 (Vol.new 0 (100 * 1 + 5)) 0).r = 0 := by rw [ups_same]; rfl
 have he5 : ∀ i, (ups V0 0 (Vol.new 0 (100 * 1 + 5)) 0).e i = none := fun i => by rw [ups_same]; rfl
 have hg5 : gro (ups V0 0 (Vol.new 0 (100 * 1 + 5)) 0) 7 = 1 := by rw [ups_same]; rfl
 have hl5 : ∃ p, Lea (flp (fun _ => false) 0) 20 p := by rw [Tb_0, Tb_flp]; exact ⟨1, Tb_lea 1 20 (by decide)⟩
 generalize ups V0 0 (Vol.new 0 (100 * 1 + 5)) = V5 at *
 obtain ⟨c0, c1, c2, c3⟩ := hV5.c
 have X5 := hide (show VSt w x5.drew b jb pb mb sb gb (fun _ => False) 20 4 (0 + 2) true L A n0 0 V0 (fun _ => false) (0 + 1) V5 (flp (fun _ => false) 0) from hV5.below ((Below.refl _ x5).drew))
 have HS5 := hide (show x5.cell? ⟨gb, 3, none⟩ = some (.pointer (some ⟨sb, 0, none⟩)) from c3)
 have HF5 := hide (And.intro hr5 (And.intro he5 (And.intro hg5 hl5)))
 clear hV5 HCR hr5 he5 hg5 hl5 c0 c1 c2
 go_wp2
 refine wp_region_held_drew (S := fun w' => w'.cell? ⟨gb, 3, none⟩ = some (.pointer (some ⟨sb, 0, none⟩))) (by kernel_rfl) (unhide HS5) ?_
 intro hS
 generalize x5.drew = x6 at *
 refine wpAnyH_takeD 0 (some 42) (.pointer (some ⟨gb, 0, none⟩)) rfl rfl (by kernel_rfl) (by kernel_rfl) (by kernel_rfl) (fun _ _ _ h => h) (Or.inl ⟨by rfl, fun w hSw => by have q1 : _ = _ := hSw; go_simp⟩) hS ?_
 simp only [Act.put, List.setIfInBounds_toArray, List.set_cons_zero, List.set_cons_succ]
 refine wpAnyH_takeD 1 (some 43) (.pointer (some ⟨gb, 0, none⟩)) rfl rfl (by kernel_rfl) (by kernel_rfl) (by kernel_rfl) (fun _ _ _ h => h) (Or.inl ⟨by rfl, fun w hSw => by have q1 : _ = _ := hSw; go_simp⟩) hS ?_
 simp only [Act.put, List.setIfInBounds_toArray, List.set_cons_zero, List.set_cons_succ]
 refine wpAnyH_takeD 2 (some 44) (.pointer (some ⟨gb, 3, none⟩)) rfl rfl (by kernel_rfl) (by kernel_rfl) (by kernel_rfl) (fun _ _ _ h => h) (Or.inl ⟨by rfl, fun w hSw => by have q1 : _ = _ := hSw; go_simp⟩) hS ?_
 simp only [Act.put, List.setIfInBounds_toArray, List.set_cons_zero, List.set_cons_succ]
 refine wpAnyH_takeD 3 (some 45) (.pointer (some ⟨sb, 0, none⟩)) rfl rfl (by kernel_rfl) (by kernel_rfl) (by kernel_rfl) (fun _ _ _ h => h) (Or.inl ⟨by rfl, fun w hSw => by have q1 : _ = _ := hSw; go_simp⟩) hS ?_
 simp only [Act.put, List.setIfInBounds_toArray, List.set_cons_zero, List.set_cons_succ]
 refine wpAnyH_takeD 4 (some 46) (.int .i64 0) rfl rfl (by kernel_rfl) (by kernel_rfl) (by kernel_rfl) (fun _ _ _ h => h) (Or.inl ⟨by rfl, fun w hSw => by have q1 : _ = _ := hSw; go_simp⟩) hS ?_
 simp only [Act.put, List.setIfInBounds_toArray, List.set_cons_zero, List.set_cons_succ]
 refine wpAnyH_ready (rs := [5]) (by kernel_rfl) (by simp) ?_
 refine AllReadyH.cons rfl (fun K hK => ?_) AllReadyH.nil
 simp only [List.getElem_toArray, List.getElem_cons_succ, List.getElem_cons_zero]
 go_simp
 refine (unhide HEN _).mono ?_
 rintro e y1 ⟨rfl, hb1⟩
 have X6 := hide ((unhide X5).below hb1)
 obtain ⟨-, -, -, c3'⟩ := (unhide X6).c
 clear hb1 X5
 refine hK.out _ _ c3' (fun hS => ?_)
 clear hK K
 refine wpAnyH_ready (rs := [6]) (by kernel_rfl) (by simp) ?_
 refine AllReadyH.cons rfl (fun K hK => ?_) AllReadyH.nil
 simp only [List.getElem_toArray, List.getElem_cons_succ, List.getElem_cons_zero]
 go_simp
 have HSE := (unhide X6).set (by decide) 0 (by decide) 7 (by decide) ed ew (unhide HDS).1 (unhide HDS).2 (fun _ => (unhide HF5).2.2.2)
 rw [(unhide HF5).1, (unhide HF5).2.2.1] at HSE
 simp only [Int.cast_ofNat_Int] at HSE
 refine HSE.mono ?_
 rintro e x7 ⟨rfl, ⟨V7, T7, hV7, hP7, -⟩, -⟩
 have HX7 := hide (And.intro hV7 (And.intro (show (V7 0).r = 0 from (hP7.1 0).trans (unhide HF5).1) (And.intro (show (V7 0).e 7 = some (ed, ew) from by rw [hP7.2 0 7]; rfl) (show (V7 0).e 8 = none from by rw [hP7.2 0 8]; exact (unhide HF5).2.1 8))))
 obtain ⟨-, -, -, c3''⟩ := hV7.c
 clear hV7 hP7 HSE X6 c3'
 refine hK.out _ _ c3'' (fun hS => ?_)
 clear hK K
 refine wpAnyH_takeD 7 (some 41) (.tuple #[.int .i64 1, .int .i64 0]) rfl rfl (by kernel_rfl) (by kernel_rfl) (by kernel_rfl) (fun _ _ _ h => h) (Or.inl ⟨by rfl, fun w hSw => by have q1 : _ = _ := hSw; go_simp⟩) hS ?_
 simp only [Act.put, List.setIfInBounds_toArray, List.set_cons_zero, List.set_cons_succ]
 refine wpAnyH_takeD 8 (some 49) (.int .i64 1) rfl rfl (by kernel_rfl) (by kernel_rfl) (by kernel_rfl) (fun _ _ _ h => h) (Or.inl ⟨by rfl, fun w hSw => by have q1 : _ = _ := hSw; go_simp⟩) hS ?_
 simp only [Act.put, List.setIfInBounds_toArray, List.set_cons_zero, List.set_cons_succ]
 refine wpAnyH_takeD 9 (some 50) (.int .i64 0) rfl rfl (by kernel_rfl) (by kernel_rfl) (by kernel_rfl) (fun _ _ _ h => h) (Or.inl ⟨by rfl, fun w hSw => by have q1 : _ = _ := hSw; go_simp⟩) hS ?_
 simp only [Act.put, List.setIfInBounds_toArray, List.set_cons_zero, List.set_cons_succ]
 refine wpAnyH_takeD 10 (some 8) (.int .i64 1) rfl rfl (by kernel_rfl) (by kernel_rfl) (by kernel_rfl) (fun _ _ _ h => h) (Or.inl ⟨by rfl, fun w hSw => by have q1 : _ = _ := hSw; go_simp⟩) hS ?_
 simp only [Act.put, List.setIfInBounds_toArray, List.set_cons_zero, List.set_cons_succ]
 refine wpAnyH_takeD 11 (some 9) (.int .i64 0) rfl rfl (by kernel_rfl) (by kernel_rfl) (by kernel_rfl) (fun _ _ _ h => h) (Or.inl ⟨by rfl, fun w hSw => by have q1 : _ = _ := hSw; go_simp⟩) hS ?_
 simp only [Act.put, List.setIfInBounds_toArray, List.set_cons_zero, List.set_cons_succ]
 refine wpAnyH_done (by kernel_rfl) ?_ _
 clear hS c3 HS5
 have HG7 := hide ((unhide HX7).1.get 0 (by decide) 7 (by decide))
 rw [(unhide HX7).2.1, (unhide HX7).2.2.1] at HG7
 simp only [show vtD (some (ed, ew)) = ed from rfl, show vtW (some (ed, ew)) = ew from rfl, show gErr (some (ed, ew)) = 0 from rfl, Int.cast_ofNat_Int] at HG7
 have c3 := c3''
 clear c3''
 go_wp2_with fail
 refine (unhide HG7).mono ?_
 rintro e x8 ⟨rfl, V8, -⟩
 obtain ⟨g9, hg9⟩ : ∃ q, x8.heap.size = q := ⟨_, rfl⟩
 obtain ⟨x9, hx9⟩ : ∃ q, x8.alloc (.cells #[.string ed, .string ew] 47) = q := ⟨_, rfl⟩
 have hb9 : Below x8.heap.size x8 x9 := by rw [← hx9]; exact (Below.refl _ x8).alloc (Nat.le_refl _) _
 have B9 : Blk x9 g9 #[.string ed, .string ew] 47 := by rw [← hx9, ← hg9]; exact Blk.new x8 _ _
 have V9 := V8.more (Y := fun x => x = g9) hb9 (fun x q => .inr ⟨by omega, by rw [q]; exact B9.lt⟩)
 obtain ⟨c0, c1, c2, c3⟩ := V9.c
 have HG8 := hide (V9.get 0 (by decide) 8 (by decide))
 rw [(unhide HX7).2.1, (unhide HX7).2.2.2] at HG8
 simp only [show vtD none = ⟨#[]⟩ from rfl, show vtW none = ⟨#[]⟩ from rfl, show gErr none = 103 from rfl, Int.cast_ofNat_Int] at HG8
 have X9 := hide (And.intro B9 V9)
 clear V8 hb9 B9 V9 HG7
 go_wp2_with fail
 refine (unhide HG8).mono ?_
 rintro e x10 ⟨rfl, V10, O10⟩
 have B10 := (unhide X9).1.only O10 (fun q => q rfl)
 obtain ⟨g11, hg11⟩ : ∃ q, x10.heap.size = q := ⟨_, rfl⟩
 obtain ⟨x11, hx11⟩ : ∃ q, x10.alloc (.cells #[.string ⟨#[]⟩, .string ⟨#[]⟩] 47) = q := ⟨_, rfl⟩
 have hb11 : Below x10.heap.size x10 x11 := by rw [← hx11]; exact (Below.refl _ x10).alloc (Nat.le_refl _) _
 have B11 := B10.below hb11 B10.lt
 have HBF := hide (show Below w.heap.size w x11.drew from (V10.bel.trans (hb11.mono V10.bel.size)).drew)
 have HS11 := hide B11
 have X11 := hide (show Blk x11.drew g9 #[.string ed, .string ew] 47 from B11)
 have HX11 := hide hx11
 clear V10 O10 B10 hb11 B11 HG8 X9 c0 c1 c2 c3 hx9 hx11
 go_wp2
 rw [unhide HX11]
 refine wp_region_held_drew (S := fun w' => Blk w' g9 #[.string ed, .string ew] 47) (by kernel_rfl) (unhide HS11) ?_
 intro hS
 generalize x11.drew = x12 at *
 refine wpAnyH_takeD 0 (some 69) (.int .i64 61) rfl rfl (by kernel_rfl) (by kernel_rfl) (by kernel_rfl) (fun _ _ _ h => h) (Or.inl ⟨by rfl, fun w hSw => by clear hSw; go_simp⟩) hS ?_
 simp only [Act.put, List.setIfInBounds_toArray, List.set_cons_zero, List.set_cons_succ]
 refine wpAnyH_takeD 1 (some 70) (.bool true) rfl rfl (by kernel_rfl) (by kernel_rfl) (by kernel_rfl) (fun _ _ _ h => h) (Or.inl ⟨by rfl, fun w hSw => by clear hSw; go_simp⟩) hS ?_
 simp only [Act.put, List.setIfInBounds_toArray, List.set_cons_zero, List.set_cons_succ]
 refine wpAnyH_takeD 2 (some 71) (.bool true) rfl rfl (by kernel_rfl) (by kernel_rfl) (by kernel_rfl) (fun _ _ _ h => h) (Or.inl ⟨by rfl, fun w hSw => by clear hSw; go_simp⟩) hS ?_
 simp only [Act.put, List.setIfInBounds_toArray, List.set_cons_zero, List.set_cons_succ]
 refine wpAnyH_takeD 3 (some 72) (.int .i64 0) rfl rfl (by kernel_rfl) (by kernel_rfl) (by kernel_rfl) (fun _ _ _ h => h) (Or.inl ⟨by rfl, fun w hSw => by clear hSw; go_simp⟩) hS ?_
 simp only [Act.put, List.setIfInBounds_toArray, List.set_cons_zero, List.set_cons_succ]
 refine wpAnyH_takeD 4 (some 73) (.bool true) rfl rfl (by kernel_rfl) (by kernel_rfl) (by kernel_rfl) (fun _ _ _ h => h) (Or.inl ⟨by rfl, fun w hSw => by clear hSw; go_simp⟩) hS ?_
 simp only [Act.put, List.setIfInBounds_toArray, List.set_cons_zero, List.set_cons_succ]
 refine wpAnyH_takeD 5 (some 74) (.bool true) rfl rfl (by kernel_rfl) (by kernel_rfl) (by kernel_rfl) (fun _ _ _ h => h) (Or.inl ⟨by rfl, fun w hSw => by clear hSw; go_simp⟩) hS ?_
 simp only [Act.put, List.setIfInBounds_toArray, List.set_cons_zero, List.set_cons_succ]
 refine wpAnyH_takeD 6 (some 75) (.bool true) rfl rfl (by kernel_rfl) (by kernel_rfl) (by kernel_rfl) (fun _ _ _ h => h) (Or.inl ⟨by rfl, fun w hSw => by clear hSw; go_simp⟩) hS ?_
 simp only [Act.put, List.setIfInBounds_toArray, List.set_cons_zero, List.set_cons_succ]
 refine wpAnyH_takeD 7 (some 76) (.int .i64 0) rfl rfl (by kernel_rfl) (by kernel_rfl) (by kernel_rfl) (fun _ _ _ h => h) (Or.inl ⟨by rfl, fun w hSw => by clear hSw; go_simp⟩) hS ?_
 simp only [Act.put, List.setIfInBounds_toArray, List.set_cons_zero, List.set_cons_succ]
 refine wpAnyH_takeD 8 (some 77) (.bool true) rfl rfl (by kernel_rfl) (by kernel_rfl) (by kernel_rfl) (fun _ _ _ h => h) (Or.inl ⟨by rfl, fun w hSw => by clear hSw; go_simp⟩) hS ?_
 simp only [Act.put, List.setIfInBounds_toArray, List.set_cons_zero, List.set_cons_succ]
 refine wpAnyH_takeD 9 (some 78) (.bool true) rfl rfl (by kernel_rfl) (by kernel_rfl) (by kernel_rfl) (fun _ _ _ h => h) (Or.inl ⟨by rfl, fun w hSw => by clear hSw; go_simp⟩) hS ?_
 simp only [Act.put, List.setIfInBounds_toArray, List.set_cons_zero, List.set_cons_succ]
 refine wpAnyH_takeD 10 (some 79) (.bool true) rfl rfl (by kernel_rfl) (by kernel_rfl) (by kernel_rfl) (fun _ _ _ h => h) (Or.inl ⟨by rfl, fun w hSw => by clear hSw; go_simp⟩) hS ?_
 simp only [Act.put, List.setIfInBounds_toArray, List.set_cons_zero, List.set_cons_succ]
 refine wpAnyH_takeD 11 (some 80) (.int .i64 0) rfl rfl (by kernel_rfl) (by kernel_rfl) (by kernel_rfl) (fun _ _ _ h => h) (Or.inl ⟨by rfl, fun w hSw => by clear hSw; go_simp⟩) hS ?_
 simp only [Act.put, List.setIfInBounds_toArray, List.set_cons_zero, List.set_cons_succ]
 refine wpAnyH_takeD 12 (some 81) (.bool true) rfl rfl (by kernel_rfl) (by kernel_rfl) (by kernel_rfl) (fun _ _ _ h => h) (Or.inl ⟨by rfl, fun w hSw => by clear hSw; go_simp⟩) hS ?_
 simp only [Act.put, List.setIfInBounds_toArray, List.set_cons_zero, List.set_cons_succ]
 refine wpAnyH_takeD 13 (some 82) (.bool true) rfl rfl (by kernel_rfl) (by kernel_rfl) (by kernel_rfl) (fun _ _ _ h => h) (Or.inl ⟨by rfl, fun w hSw => by clear hSw; go_simp⟩) hS ?_
 simp only [Act.put, List.setIfInBounds_toArray, List.set_cons_zero, List.set_cons_succ]
 refine wpAnyH_takeD 14 (some 83) (.bool true) rfl rfl (by kernel_rfl) (by kernel_rfl) (by kernel_rfl) (fun _ _ _ h => h) (Or.inl ⟨by rfl, fun w hSw => by clear hSw; go_simp⟩) hS ?_
 simp only [Act.put, List.setIfInBounds_toArray, List.set_cons_zero, List.set_cons_succ]
 refine wpAnyH_takeD 15 (some 84) (.int .i64 1) rfl rfl (by kernel_rfl) (by kernel_rfl) (by kernel_rfl) (fun _ _ _ h => h) (Or.inl ⟨by rfl, fun w hSw => by clear hSw; go_simp⟩) hS ?_
 simp only [Act.put, List.setIfInBounds_toArray, List.set_cons_zero, List.set_cons_succ]
 refine wpAnyH_takeD 16 (some 85) (.bool true) rfl rfl (by kernel_rfl) (by kernel_rfl) (by kernel_rfl) (fun _ _ _ h => h) (Or.inl ⟨by rfl, fun w hSw => by clear hSw; go_simp⟩) hS ?_
 simp only [Act.put, List.setIfInBounds_toArray, List.set_cons_zero, List.set_cons_succ]
 refine wpAnyH_takeD 17 (some 86) (.bool true) rfl rfl (by kernel_rfl) (by kernel_rfl) (by kernel_rfl) (fun _ _ _ h => h) (Or.inl ⟨by rfl, fun w hSw => by clear hSw; go_simp⟩) hS ?_
 simp only [Act.put, List.setIfInBounds_toArray, List.set_cons_zero, List.set_cons_succ]
 refine wpAnyH_takeD 18 (some 87) (.bool true) rfl rfl (by kernel_rfl) (by kernel_rfl) (by kernel_rfl) (fun _ _ _ h => h) (Or.inl ⟨by rfl, fun w hSw => by clear hSw; go_simp⟩) hS ?_
 simp only [Act.put, List.setIfInBounds_toArray, List.set_cons_zero, List.set_cons_succ]
 refine wpAnyH_takeD 19 (some 88) (.int .i64 0) rfl rfl (by kernel_rfl) (by kernel_rfl) (by kernel_rfl) (fun _ _ _ h => h) (Or.inl ⟨by rfl, fun w hSw => by clear hSw; go_simp⟩) hS ?_
 simp only [Act.put, List.setIfInBounds_toArray, List.set_cons_zero, List.set_cons_succ]
 refine wpAnyH_takeD 20 (some 89) (.bool true) rfl rfl (by kernel_rfl) (by kernel_rfl) (by kernel_rfl) (fun _ _ _ h => h) (Or.inl ⟨by rfl, fun w hSw => by clear hSw; go_simp⟩) hS ?_
 simp only [Act.put, List.setIfInBounds_toArray, List.set_cons_zero, List.set_cons_succ]
 refine wpAnyH_takeD 21 (some 90) (.bool true) rfl rfl (by kernel_rfl) (by kernel_rfl) (by kernel_rfl) (fun _ _ _ h => h) (Or.inl ⟨by rfl, fun w hSw => by clear hSw; go_simp⟩) hS ?_
 simp only [Act.put, List.setIfInBounds_toArray, List.set_cons_zero, List.set_cons_succ]
 refine wpAnyH_takeD 22 (some 91) (.bool true) rfl rfl (by kernel_rfl) (by kernel_rfl) (by kernel_rfl) (fun _ _ _ h => h) (Or.inl ⟨by rfl, fun w hSw => by clear hSw; go_simp⟩) hS ?_
 simp only [Act.put, List.setIfInBounds_toArray, List.set_cons_zero, List.set_cons_succ]
 refine wpAnyH_takeD 23 (some 92) (.agg #[.string ed, .string ew]) rfl rfl (by kernel_rfl) (by kernel_rfl) (by kernel_rfl) (fun _ _ _ h => h) (Or.inl ⟨by rfl, fun w hSw => by have a0 : w.cell? ⟨g9, 0, none⟩ = some (.string ed) := Blk.cell hSw 0; have a1 : w.cell? ⟨g9, 1, none⟩ = some (.string ew) := Blk.cell hSw 1; clear hSw; go_simp⟩) hS ?_
 simp only [Act.put, List.setIfInBounds_toArray, List.set_cons_zero, List.set_cons_succ]
 refine wpAnyH_ready (rs := [24]) (by kernel_rfl) (by simp) ?_
 refine AllReadyH.cons rfl (fun K hK => ?_) AllReadyH.nil
 simp only [List.getElem_toArray, List.getElem_cons_succ, List.getElem_cons_zero]
 go_simp
 refine (unhide HEN _).mono ?_
 rintro e y1 ⟨rfl, hb1⟩
 have HBG := hide ((unhide HBF).trans (hb1.mono (unhide HBF).size))
 have X12 := hide ((unhide X11).below hb1 (unhide X11).lt)
 clear hb1 X11 HBF
 refine hK.out _ _ (unhide X12) (fun hS => ?_)
 clear hK K
 refine wpAnyH_takeD 25 (some 94) (.bool true) rfl rfl (by kernel_rfl) (by kernel_rfl) (by kernel_rfl) (fun _ _ _ h => h) (Or.inl ⟨by rfl, fun w hSw => by clear hSw; go_simp⟩) hS ?_
 simp only [Act.put, List.setIfInBounds_toArray, List.set_cons_zero, List.set_cons_succ]
 refine wpAnyH_takeD 26 (some 95) (.bool true) rfl rfl (by kernel_rfl) (by kernel_rfl) (by kernel_rfl) (fun _ _ _ h => h) (Or.inl ⟨by rfl, fun w hSw => by clear hSw; go_simp⟩) hS ?_
 simp only [Act.put, List.setIfInBounds_toArray, List.set_cons_zero, List.set_cons_succ]
 refine wpAnyH_takeD 27 (some 96) (.bool true) rfl rfl (by kernel_rfl) (by kernel_rfl) (by kernel_rfl) (fun _ _ _ h => h) (Or.inl ⟨by rfl, fun w hSw => by clear hSw; go_simp⟩) hS ?_
 simp only [Act.put, List.setIfInBounds_toArray, List.set_cons_zero, List.set_cons_succ]
 refine wpAnyH_takeD 28 (some 97) (.int .i64 0) rfl rfl (by kernel_rfl) (by kernel_rfl) (by kernel_rfl) (fun _ _ _ h => h) (Or.inl ⟨by rfl, fun w hSw => by clear hSw; go_simp⟩) hS ?_
 simp only [Act.put, List.setIfInBounds_toArray, List.set_cons_zero, List.set_cons_succ]
 refine wpAnyH_takeD 29 (some 98) (.bool true) rfl rfl (by kernel_rfl) (by kernel_rfl) (by kernel_rfl) (fun _ _ _ h => h) (Or.inl ⟨by rfl, fun w hSw => by clear hSw; go_simp⟩) hS ?_
 simp only [Act.put, List.setIfInBounds_toArray, List.set_cons_zero, List.set_cons_succ]
 refine wpAnyH_takeD 30 (some 99) (.bool true) rfl rfl (by kernel_rfl) (by kernel_rfl) (by kernel_rfl) (fun _ _ _ h => h) (Or.inl ⟨by rfl, fun w hSw => by clear hSw; go_simp⟩) hS ?_
 simp only [Act.put, List.setIfInBounds_toArray, List.set_cons_zero, List.set_cons_succ]
 refine wpAnyH_takeD 31 (some 100) (.bool true) rfl rfl (by kernel_rfl) (by kernel_rfl) (by kernel_rfl) (fun _ _ _ h => h) (Or.inl ⟨by rfl, fun w hSw => by clear hSw; go_simp⟩) hS ?_
 simp only [Act.put, List.setIfInBounds_toArray, List.set_cons_zero, List.set_cons_succ]
 refine wpAnyH_takeD 32 (some 101) (.int .i64 103) rfl rfl (by kernel_rfl) (by kernel_rfl) (by kernel_rfl) (fun _ _ _ h => h) (Or.inl ⟨by rfl, fun w hSw => by clear hSw; go_simp⟩) hS ?_
 simp only [Act.put, List.setIfInBounds_toArray, List.set_cons_zero, List.set_cons_succ]
 refine wpAnyH_takeD 33 (some 102) (.bool true) rfl rfl (by kernel_rfl) (by kernel_rfl) (by kernel_rfl) (fun _ _ _ h => h) (Or.inl ⟨by rfl, fun w hSw => by clear hSw; go_simp⟩) hS ?_
 simp only [Act.put, List.setIfInBounds_toArray, List.set_cons_zero, List.set_cons_succ]
 refine wpAnyH_takeD 34 (some 103) (.bool true) rfl rfl (by kernel_rfl) (by kernel_rfl) (by kernel_rfl) (fun _ _ _ h => h) (Or.inl ⟨by rfl, fun w hSw => by clear hSw; go_simp⟩) hS ?_
 simp only [Act.put, List.setIfInBounds_toArray, List.set_cons_zero, List.set_cons_succ]
 refine wpAnyH_takeD 35 (some 0) (.bool true) rfl rfl (by kernel_rfl) (by kernel_rfl) (by kernel_rfl) (fun _ _ _ h => h) (Or.inl ⟨by rfl, fun w hSw => by clear hSw; go_simp⟩) hS ?_
 simp only [Act.put, List.setIfInBounds_toArray, List.set_cons_zero]
 refine wpAnyH_done (by kernel_rfl) ?_ _
 clear hS
 go_wp2
 go_ret
 exact ⟨rfl, unhide HBG⟩
end Go.Proofs.YtiellebdliifdaaGreatDoor
namespace Go.Proofs.YtiellebdliifdaaGreatDoor
open Go.RowKit Go.Maps Go.Sort Go.Shelf
theorem VSt.lts {w0 w : World} {b jb pb mb sb gb : Nat} {Z : Nat → Prop} {n kp q : Nat} {L : List ByteArray} {A : List (Nat × Nat)} {hn mw : Nat} {Vw : Nat → Vol} {Tw : Nat → Bool} {m : Nat} {V : Nat → Vol} {T : Nat → Bool} {op : Bool} (h : VSt w0 w b jb pb mb sb gb Z n kp q op L A hn mw Vw Tw m V T) : mb < w.heap.size ∧ sb < w.heap.size ∧ gb < w.heap.size := by
 obtain ⟨S, Mw, Mn, tb, h1, h2, h3, h4, h5⟩ := h
 exact ⟨h1.bg.pk.lt mb h1.bg.xm, h1.st.lt, h5.lt⟩
theorem VSt.grown {w0 w : World} {b jb pb mb sb gb : Nat} {Z : Nat → Prop} {n kp q : Nat} {L : List ByteArray} {A : List (Nat × Nat)} {hn mw : Nat} {Vw : Nat → Vol} {Tw : Nat → Bool} {m : Nat} {V : Nat → Vol} {T : Nat → Bool} {op : Bool} (h : VSt w0 w b jb pb mb sb gb Z n kp q op L A hn mw Vw Tw m V T) {w' : World} {P Y : Nat → Prop} (hO : Only P w w') (hP : ∀ x, P x → Z x ∧ w0.heap.size ≤ x ∧ x ≠ mb ∧ x ≠ sb ∧ x ≠ gb) (hy : ∀ x, Y x → Z x ∨ (w.heap.size ≤ x ∧ x < w'.heap.size)) : VSt w0 w' b jb pb mb sb gb Y n kp q op L A hn mw Vw Tw m V T := by
 obtain ⟨S, Mw, Mn, tb, h1, h2, h3, h4, h5⟩ := h
 refine ⟨S, Mw, Mn, tb, ⟨h1.bg.poke hO (fun x hx _ => .inr (.inr (hP x hx).1)) (fun x hx => (hP x hx).2.1) (fun x q => ?_) (.inl (.inl rfl)) (fun q => (hP mb q).2.2.1 rfl), h1.st.only hO (fun q => (hP sb q).2.2.2.1 rfl), .inl (.inr rfl), h1.n88⟩, h2, h3, h4, h5.only hO (fun q => (hP gb q).2.2.2.2 rfl)⟩
 rcases q with q | q | q
 ·exact .inl (.inl q)
 ·exact .inl (.inr (.inl q))
 ·exact (hy x q).imp_left (fun r => .inr (.inr r))
def VN : Nat → Nat → Vol
 | 0 => V0
 | i + 1 => ups (VN i) i (Vol.new i (100 * (1 + i) + i))
theorem VN_r : ∀ i j, j < i → (VN i j).r = j := fun i => by
 induction i with
 | zero => intro j hj; omega
 | succ i ih =>
  intro j hj
  by_cases e : j = i
  ·subst e; show (ups (VN j) j _ j).r = j; rw [ups_same]; rfl
  ·show (ups (VN i) i _ j).r = j; rw [ups_other _ _ e]; exact ih j (by omega)
theorem VN_e : ∀ i j b, (VN i j).e b = none := fun i => by
 induction i with
 | zero => intro j b; rfl
 | succ i ih =>
  intro j b
  by_cases e : j = i
  ·subst e; show (ups (VN j) j _ j).e b = none; rw [ups_same]; rfl
  ·show (ups (VN i) i _ j).e b = none; rw [ups_other _ _ e]; exact ih j b
def Zv (Z : Nat → Prop) (u : Value) (x : Nat) : Prop := Z x ∨ u.ownBlock = some x
def VLs (w0 w : World) (b jb pb mb sb gb : Nat) (Z : Nat → Prop) (n kp : Nat) (L : List ByteArray) (A : List (Nat × Nat)) (hn mw : Nat) (Vw : Nat → Vol) (Tw : Nat → Bool) (i : Nat) (u : Value) (wr : World) : Prop :=
 wr.ownsRow w.heap.size 3 1 u i ((List.range i).map (fun (j : Nat) => Value.int .i64 (j : Int))) ∧ VSt w0 wr b jb pb mb sb gb (Zv Z u) n kp (2 * i) true L A hn mw Vw Tw i (VN i) (Tb i) ∧ Only (fun x => ¬ Z x) w wr
theorem VLs.below {w0 w : World} {b jb pb mb sb gb : Nat} {Z : Nat → Prop} {n kp : Nat} {L : List ByteArray} {A : List (Nat × Nat)} {hn mw : Nat} {Vw : Nat → Vol} {Tw : Nat → Bool} {i : Nat} {u : Value} {wr : World} (h : VLs w0 w b jb pb mb sb gb Z n kp L A hn mw Vw Tw i u wr) {w' : World} (hb : Below wr.heap.size wr w') : VLs w0 w b jb pb mb sb gb Z n kp L A hn mw Vw Tw i u w' := by
 obtain ⟨h1, h2, h3⟩ := h
 exact ⟨owns_only h1 (Only.of_below (P := fun _ => False) hb) (fun _ _ q => q), h2.below hb, h3.trans (Only.of_below (P := fun x => ¬ Z x) hb) (fun _ _ q => q)⟩
theorem VLs.grow {w0 w : World} {b jb pb mb sb gb : Nat} {Z : Nat → Prop} {n kp : Nat} {L : List ByteArray} {A : List (Nat × Nat)} {hn mw : Nat} {Vw : Nat → Vol} {Tw : Nat → Bool} {i : Nat} {u : Value} {wr : World} {w1 w' : World} (hO : wr.ownsRow w.heap.size 3 1 u i ((List.range i).map (fun (j : Nat) => Value.int .i64 (j : Int)))) (h : VSt w0 wr b jb pb mb sb gb (Zv Z u) n kp (2 * i + 2) true L A hn mw Vw Tw (i + 1) (VN (i + 1)) (Tb (i + 1))) (h3 : Only (fun x => ¬ Z x) w wr) (hb : Below wr.heap.size wr w1) {g len cap : Nat} (ho : w'.ownsRow w.heap.size 3 1 (.slice (some ⟨g, 0, none⟩) len cap) (i + 1) (((List.range i).map (fun (j : Nat) => Value.int .i64 (j : Int))) ++ [.int .i64 (i : Int)])) (hg : w1.grownBy w' u.ownBlock) (hgg : u.ownBlock = some g ∨ g = w1.heap.size) (hgl : g < w'.heap.size) (hZ : ∀ x, Z x → x < w.heap.size) (hw : w0.heap.size ≤ w.heap.size) (hl : mb < w.heap.size ∧ sb < w.heap.size ∧ gb < w.heap.size) : VLs w0 w b jb pb mb sb gb Z n kp L A hn mw Vw Tw (i + 1) (.slice (some ⟨g, 0, none⟩) len cap) w' := by
 have hO1 : Only (fun q => u.ownBlock = some q) w1 w' := (Only.refl _ _).grown hg (fun q _ e => e)
 have hlo : ∀ x, u.ownBlock = some x → w.heap.size ≤ x := fun x hx => (hO.lt x hx).1
 unfold VLs
 rw [List.range_succ, List.map_append]
 refine ⟨ho, (h.below hb).grown hO1 (fun x hx => ⟨.inr hx, by have := hlo x hx; omega, by have := hlo x hx; omega, by have := hlo x hx; omega, by have := hlo x hx; omega⟩) (fun x hx => ?_), (h3.trans (Only.of_below (P := fun x => ¬ Z x) hb) (fun _ _ q => q)).trans hO1 (fun x hx q r => by have := hlo x q; have := hZ x r; omega)⟩
 rcases hx with q | q
 ·exact .inl (.inl q)
 ·have e : g = x := by simpa [Value.ownBlock] using q
  subst e
  rcases hgg with r | r
  ·exact .inl (.inr r)
  ·exact .inr ⟨by omega, hgl⟩
set_option maxRecDepth 100000 in
set_option maxHeartbeats 2000000 in
theorem volumes_any {w0 w : World} {b jb pb mb sb gb : Nat} {Z : Nat → Prop} {n kp : Nat} {L : List ByteArray} {A : List (Nat × Nat)} {hn mw : Nat} {Vw : Nat → Vol} {Tw : Nat → Bool} (h : VSt w0 w b jb pb mb sb gb Z n kp 0 false L A hn mw Vw Tw 0 V0 (Tb 0)) (nv : Nat) (hnv : nv ≤ 5) (hvn : nv ≤ n) (hZ : ∀ x, Z x → x < w.heap.size) (ha : A.length ≤ 1000000) : Calls Tryz.prog 6 #[.pointer (some ⟨gb, 0, none⟩), .int .i64 (nv : Int)] w fun e w' => ∃ v, e = .returned v ∧ w'.ownsRow w.heap.size 3 1 v nv ((List.range nv).map (fun (j : Nat) => Value.int .i64 (j : Int))) ∧ (∃ L' A', A'.length ≤ A.length + 38 ∧ VSt w0 w' b jb pb mb sb gb (Zv Z v) n kp 0 false L' A' ((hn + 1) % 4294967296) nv (VN nv) (Tb nv) nv (VN nv) (Tb nv)) ∧ Only (fun x => ¬ Z x) w w' := by
 obtain ⟨i0, hi, hz0, hz1, hz2⟩ := info_parts infoI3
 have HI := hide (And.intro hi (And.intro hz0 (And.intro hz1 hz2)))
 clear hi hz0 hz1 hz2
 obtain ⟨c0, c1, c2, c3⟩ := h.c
 have HBE := hide h.begin
 have HXX := hide (show (∀ x, Z x → x < w.heap.size) ∧ w0.heap.size ≤ w.heap.size ∧ mb < w.heap.size ∧ sb < w.heap.size ∧ gb < w.heap.size from ⟨hZ, h.bel.size, h.lts⟩)
 clear h hZ c0 c2 c3
 go_enter Tryz.func6, Tryz.ntmps6
 go_wp2_with fail
 refine (unhide HBE).mono ?_
 rintro e x1 ⟨rfl, V1, O1⟩
 have X0 := hide (show VLs w0 w b jb pb mb sb gb Z n kp L A hn mw Vw Tw 0 (.slice none 0 0) x1 from ⟨World.ownsRow_nil _ _ _ _, V1.less (fun x hx => by
  rcases hx with q | q
  ·exact q
  ·simp [Value.ownBlock] at q), O1⟩)
 clear V1 O1 HBE c1
 go_wp2
 go_loopw [6, 7] (fun u i wr => ∃ k : Nat, k ≤ nv ∧ i = .int .i64 (k : Int) ∧ VLs w0 w b jb pb mb sb gb Z n kp L A hn mw Vw Tw k u wr) (fun _ i _ => nv - (intOf i).toNat)
 case atStart => exact ⟨0, by omega, rfl, unhide X0⟩
 case round =>
  obtain ⟨k, hk, rfl, hI⟩ := hrel
  obtain ⟨wo, rfl⟩ : ∃ wo, wo = wr := ⟨_, rfl⟩
  clear X0
  obtain ⟨pv, cv, rfl, hcv⟩ := row_form hI.1
  obtain ⟨c0, c1, c2, c3⟩ := hI.2.1.c
  by_cases hkn : k < nv
  ·have hkn' : (k : Int) < (nv : Int) := by omega
   have HCR := hide (hI.2.1.create (by omega) (1 + k) k (by omega) (by omega) (by omega) k (Tb_lea k n (by omega)))
   rw [Tb_flp] at HCR
   rw [show (((1 + k : Nat) : Int)) = 1 + (k : Int) by omega] at HCR
   have HJ := hide hI
   clear hI hcv c0 c1 c2
   go_wp2_with fail
   refine (unhide HCR).mono ?_
   rintro e y1 ⟨rfl, hV1, O1⟩
   have HO1 := hide (show y1.ownsRow w.heap.size 3 1 (.slice pv k cv) k ((List.range k).map (fun (j : Nat) => Value.int .i64 (j : Int))) from owns_only (unhide HJ).1 O1 (fun x hx q => q (.inr hx)))
   have HRA := hide (show (y1.alloc (.cells #[.int .i64 (k : Int)] 3)).ownsRow w.heap.size 3 1 (.slice pv k cv) k ((List.range k).map (fun (j : Nat) => Value.int .i64 (j : Int))) from (unhide HO1).alloc _)
   have HV1 := hide (And.intro hV1 (show Only (fun x => ¬ Z x) w y1 from (unhide HJ).2.2.trans O1 (fun x _ q r => q (.inl r))))
   have hws1 : w.heap.size ≤ y1.heap.size := (unhide HV1).2.size
   clear hV1 O1 HJ HCR c3
   go_wp2_with (refine wpList_append_lies _ rfl (.tmp 34) (.tmp 36) 22 rfl w.heap.size 3 i0 (.int .i64 0) 1 8 Tryz.underlying22 (unhide HI).1 (unhide HI).2.1 (unhide HI).2.2.1 (unhide HI).2.2.2 rfl (by decide) _ k ((List.range k).map (fun (j : Nat) => Value.int .i64 (j : Int))) rfl (unhide HRA) ⟨y1.heap.size, 0, none⟩ 1 1 [.int .i64 (k : Int)] rfl rfl (fun q u hu => news_one y1 3 _ q u hu) (by simp [Value.oneCell']) (by decide) (by unfold maxLen; omega) (by omega) (by simp; omega) (y1.heap.size + 1) (by simp) ?_)
   intro g5 cap5 x5 ho5 hg5 hgg hgl
   have HRR := hide (show VLs w0 w b jb pb mb sb gb Z n kp L A hn mw Vw Tw (k + 1) (.slice (some ⟨g5, 0, none⟩) (k + 1) cap5) x5 from by
    refine VLs.grow (unhide HO1) (unhide HV1).1 (unhide HV1).2 ((Below.refl _ y1).alloc (Nat.le_refl _) (.cells #[.int .i64 (k : Int)] 3)) ho5 hg5 (by
      rcases hgg with q | q
      ·exact .inl q
      ·exact .inr (by rw [q]; simp)) hgl (unhide HXX).1 (unhide HXX).2.1 (unhide HXX).2.2)
   clear ho5 hg5 hgg hgl HRA HV1 HO1
   go_wp2
   go_roundw
   case rel => exact ⟨k + 1, by omega, by go_num, unhide HRR⟩
   case measure => simp [intOf]; omega
  ·obtain rfl : k = nv := by omega
   have hkn' : ¬ (k : Int) < (k : Int) := by omega
   have HCM := hide (hI.2.1.commit ha)
   have HJ := hide hI
   clear hI hcv c0 c2 c3
   go_wp2_with fail
   refine (unhide HCM).mono ?_
   rintro e y1 ⟨rfl, ⟨L', A', hA', hV'⟩, O1⟩
   have HR := hide (And.intro (show y1.ownsRow w.heap.size 3 1 (.slice pv k cv) k ((List.range k).map (fun (j : Nat) => Value.int .i64 (j : Int))) from owns_only (unhide HJ).1 O1 (fun x hx q => q (.inr hx))) (And.intro hA' (And.intro hV' (show Only (fun x => ¬ Z x) w y1 from (unhide HJ).2.2.trans O1 (fun x _ q r => q (.inl r))))))
   clear hA' hV' O1 HJ HCM
   go_wp2
   go_ret
   exact ⟨_, rfl, (unhide HR).1, ⟨L', A', (unhide HR).2.1, (unhide HR).2.2.1⟩, (unhide HR).2.2.2⟩
end Go.Proofs.YtiellebdliifdaaGreatDoor
