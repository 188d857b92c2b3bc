import Derived.Test.YtiellebdliifdaaGreatDoorMt37
import Derived.BigQuiet
import Derived.RangeFuncOwn
import Derived.Test.YtiellebdliifdaaGreatDoorMt34
import Derived.Test.YtiellebdliifdaaGreatDoorMt35
namespace Go.Proofs.YtiellebdliifdaaGreatDoor
open Go.RowKit Go.Maps Go.Sort Go.Shelf
set_option maxRecDepth 100000
theorem mapped_bad {w0 w : World} {b jb pb mb sb : Nat} {X : Nat → Prop} {n : Nat} {S : PS} {L : List ByteArray} {A : List (Nat × Nat)} {hn : Nat} {Mw Mn : List ByteArray} {T : Nat → Bool} (h : MG w0 w b jb pb mb sb X n S L A hn Mw Mn T) (hc : S.op = false) {m : Nat} {V : Nat → Vol} (hv : VS Mn n m T V) (r : Int) (hr : ∀ k, k < m → ((V k).r : Int) ≠ r) : Calls Tryz.prog 11 #[.pointer (some ⟨sb, 0, none⟩), .int .i64 r] w fun e w' => e = .returned (.tuple #[.int .i64 0, .int .i64 0, .int .i64 102]) ∧ MKept w0 w b jb pb mb sb X n S L A hn Mw Mn T w' := by
 have hzb := zeroB
 obtain ⟨zs, hz⟩ : ∃ q, ZT q := ⟨_, zt_ok⟩
 obtain ⟨bs, hbs⟩ : ∃ q, ZB q := ⟨_, zb_ok⟩
 have HZ := hide (And.intro hz hbs)
 have HRA := hide (readAll_bad h hc hz hbs hv r hr)
 clear hz hbs
 clear h hc hv hr
 go_enter Tryz.func11, Tryz.ntmps11
 go_wp2_with fail
 refine (unhide HRA).mono ?_
 rintro e x1 ⟨rfl, hK1⟩
 have X1 := hide hK1
 clear hK1 HRA
 obtain ⟨g7, hg7⟩ : ∃ q, x1.heap.size = q := ⟨_, rfl⟩
 obtain ⟨x2, hx2⟩ : ∃ q, x1.alloc (.cells #[.int .i64 0, .int .i64 0, .int .i64 0, .int .i64 0, .int .i64 0, .int .i64 0, .int .i64 0, .int .i64 0, .int .i64 0, .int .i64 0, .int .i64 0, .int .i64 0, .int .i64 0, .int .i64 0, .int .i64 0, .int .i64 0, .int .i64 0, .int .i64 0, .int .i64 0, .int .i64 0, .int .i64 0, .int .i64 0] 69) = q := ⟨_, rfl⟩
 obtain ⟨g8, hg8⟩ : ∃ q, x2.heap.size = q := ⟨_, rfl⟩
 obtain ⟨x3, hx3⟩ : ∃ q, x2.alloc (.cells z120 78) = q := ⟨_, rfl⟩
 have h78 : g7 < g8 := by rw [← hg8, ← hx2, ← hg7]; simp
 have B7 : Blk x3 g7 #[.int .i64 0, .int .i64 0, .int .i64 0, .int .i64 0, .int .i64 0, .int .i64 0, .int .i64 0, .int .i64 0, .int .i64 0, .int .i64 0, .int .i64 0, .int .i64 0, .int .i64 0, .int .i64 0, .int .i64 0, .int .i64 0, .int .i64 0, .int .i64 0, .int .i64 0, .int .i64 0, .int .i64 0, .int .i64 0] 69 := by rw [← hx3, ← hx2, ← hg7]; exact (Blk.new x1 _ _).alloc _
 have B8 : Blk x3 g8 z120 78 := by rw [← hx3, ← hg8]; exact Blk.new x2 _ _
 have T7 := hide (blk_there B7 zs.toArray.size (by simp [(unhide HZ).1.len]))
 obtain ⟨x4, hx4⟩ : ∃ q, x3.setCells g7 0 zs = q := ⟨_, rfl⟩
 have O4 : Only (fun x => x = g7) x3 x4 := by rw [← hx4]; exact only_cells g7 0 zs rfl
 have C8 := B8.only O4 (by omega)
 have T8 := hide (blk_there C8 bs.toArray.size (by simp [(unhide HZ).2.len]; rfl))
 obtain ⟨x5, hx5⟩ : ∃ q, x4.setCells g8 0 bs = q := ⟨_, rfl⟩
 have HBL5 := hide (show Below x1.heap.size x1 x5 from by
  have h1 : Below x1.heap.size x1 x3 := by rw [← hx3, ← hx2]; exact ((Below.refl _ x1).alloc (Nat.le_refl _) _).alloc (by simp) _
  rw [← hx5, ← hx4]
  exact below_setCells (by omega) _ _ (below_setCells (by omega) _ _ h1))
 clear B7 B8 O4 C8
 go_wp2_with (first | refine wpList_store_mid rfl 69 (.tmp 7) (.tmp 16) rfl g7 0 zs.toArray rfl rfl (unhide T7) (by rw [sizeTree]; simp [(unhide HZ).1.len]) (unhide HZ).1.one ?_ | ((try rw [List.toList_toArray]); (try rw [hx4]); refine wpList_store_mid rfl 78 (.tmp 8) (.tmp 17) rfl g8 0 bs.toArray rfl rfl (unhide T8) (by rw [sizeB]; simp [(unhide HZ).2.len]) (unhide HZ).2.one ?_) | rw [List.toList_toArray, hx5])
 exact bodyPost_ret (v := .tuple #[.int .i64 0, .int .i64 0, .int .i64 102]) (results_t3 (p := 4) (q := 5) (r := 6) rfl _ _ _) rfl ⟨rfl, (unhide X1).below (unhide HBL5)⟩
theorem isBlock_no (b : Int) (hb : b < 0) (w : World) : Calls Tryz.prog 38 #[.int .i64 b] w fun e w' => e = .returned (.bool false) ∧ w' = w := by
 have h1 : ¬ 0 ≤ b := by omega
 clear hb
 go_enter Tryz.func38, Tryz.ntmps38
 go_wp2
 go_ret
 exact ⟨rfl, rfl⟩
theorem get_block (v : Value) (r z : Int) (hz : z < 0) (w : World) : Calls Tryz.prog 15 #[v, .int .i64 r, .int .i64 z] w fun e w' => e = .returned (.tuple #[.agg #[.string ⟨#[]⟩, .string ⟨#[]⟩], .int .i64 100]) ∧ Below w.heap.size w w' := by
 obtain ⟨g, hg⟩ : ∃ q, w.heap.size = q := ⟨_, rfl⟩
 obtain ⟨x1, hx1⟩ : ∃ q, w.alloc (.cells #[.string ⟨#[]⟩, .string ⟨#[]⟩] 47) = q := ⟨_, rfl⟩
 have B1 : Blk x1 g #[.string ⟨#[]⟩, .string ⟨#[]⟩] 47 := by rw [← hx1, ← hg]; exact Blk.new w _ _
 have hb1 : Below w.heap.size w x1 := by rw [← hx1]; exact (Below.refl _ w).alloc (Nat.le_refl _) _
 have HIB := hide (fun W => isBlock_no z hz W)
 have q0 : x1.cell? ⟨g, 0, none⟩ = some (.string ⟨#[]⟩) := B1.cell 0
 have q1 : x1.cell? ⟨g, 1, none⟩ = some (.string ⟨#[]⟩) := B1.cell 1
 have p0 := B1.frozen 0
 have p1 := B1.frozen 1
 have B2 := (B1.set 0 (.string ⟨#[]⟩)).set 1 (.string ⟨#[]⟩)
 have HLD := hide (iload_blk 47 _ B2 Tryz.underlying47 rfl (by kernel_rfl))
 have HBL := hide (show Below w.heap.size w ((x1.setCell ⟨g, 0, none⟩ (.string ⟨#[]⟩)).setCell ⟨g, 1, none⟩ (.string ⟨#[]⟩)) from (hb1.setCell (p := ⟨g, 0, none⟩) (by show w.heap.size ≤ g; omega) _).setCell (p := ⟨g, 1, none⟩) (by show w.heap.size ≤ g; omega) _)
 clear B1 hb1 B2 hz
 go_enter Tryz.func15, Tryz.ntmps15
 go_wp2_with (go_at_call 38; refine (unhide HIB _).mono ?_; rintro e w' ⟨rfl, hw'⟩; subst w')
 exact bodyPost_ret (v := .tuple #[.agg #[.string ⟨#[]⟩, .string ⟨#[]⟩], .int .i64 100]) (results_cell2 (p := 6) (q := 7) (ty := 47) rfl _ _ _ ⟨g, 0, none⟩ rfl _ (unhide HLD)) rfl ⟨rfl, unhide HBL⟩
theorem grows_bad {w0 w : World} {b jb pb mb sb : Nat} {X : Nat → Prop} {n : Nat} {S : PS} {L : List ByteArray} {A : List (Nat × Nat)} {hn : Nat} {Mw Mn : List ByteArray} {T : Nat → Bool} (h : MG w0 w b jb pb mb sb X n S L A hn Mw Mn T) (hc : S.op = false) {m : Nat} {V : Nat → Vol} (hv : VS Mn n m T V) (r : Int) (hr : ∀ k, k < m → ((V k).r : Int) ≠ r) (b0 : Nat) (hb0 : b0 < 60) : Calls Tryz.prog 13 #[.pointer (some ⟨sb, 0, none⟩), .int .i64 r, .int .i64 (b0 : Int)] w fun e w' => e = .returned (.tuple #[.int .i64 0, .int .i64 102]) ∧ MKept w0 w b jb pb mb sb X n S L A hn Mw Mn T w' := by
 have HIB := hide (fun W => isBlock_ok b0 hb0 W)
 obtain ⟨zs, hz⟩ : ∃ q, ZT q := ⟨_, zt_ok⟩
 have HZ := hide (And.intro hz True.intro)
 have HFI := hide (sFind_bad h hc hz hv r hr)
 clear hz
 clear h hc hv hr
 go_enter Tryz.func13, Tryz.ntmps13
 go_wp2_with (go_at_call 38; refine (unhide HIB _).mono ?_; rintro e w' ⟨rfl, hw'⟩; subst w')
 refine (unhide HFI).mono ?_
 rintro e x2 ⟨rfl, hK2⟩
 obtain ⟨g3, hg3⟩ : ∃ q, x2.heap.size = q := ⟨_, rfl⟩
 obtain ⟨x3, hx3⟩ : ∃ q, x2.alloc (.cells #[.int .i64 0, .int .i64 0, .int .i64 0, .int .i64 0, .int .i64 0, .int .i64 0, .int .i64 0, .int .i64 0, .int .i64 0, .int .i64 0, .int .i64 0, .int .i64 0, .int .i64 0, .int .i64 0, .int .i64 0, .int .i64 0, .int .i64 0, .int .i64 0, .int .i64 0, .int .i64 0, .int .i64 0, .int .i64 0] 69) = q := ⟨_, rfl⟩
 have B3 : Blk x3 g3 #[.int .i64 0, .int .i64 0, .int .i64 0, .int .i64 0, .int .i64 0, .int .i64 0, .int .i64 0, .int .i64 0, .int .i64 0, .int .i64 0, .int .i64 0, .int .i64 0, .int .i64 0, .int .i64 0, .int .i64 0, .int .i64 0, .int .i64 0, .int .i64 0, .int .i64 0, .int .i64 0, .int .i64 0, .int .i64 0] 69 := by rw [← hx3, ← hg3]; exact Blk.new x2 _ _
 have hb3 : Below x2.heap.size x2 x3 := by rw [← hx3]; exact (Below.refl _ x2).alloc (Nat.le_refl _) _
 have TH := hide (blk_there B3 zs.toArray.size (by simp [(unhide HZ).1.len]))
 obtain ⟨x4, hx4⟩ : ∃ q, x3.setCells g3 0 zs = q := ⟨_, rfl⟩
 have hb4 : Below x2.heap.size x2 x4 := by rw [← hx4]; exact below_setCells (by omega) zs 0 hb3
 have HK := hide (hK2.below (show Below x2.heap.size x2 x4.drew from hb4.drew))
 clear hK2 B3 hb3 hb4 HFI
 go_wp2_with (refine wpList_store_mid rfl 69 (.tmp 8) (.tmp 17) rfl g3 0 zs.toArray rfl rfl (unhide TH) (by rw [sizeTree]; simp [(unhide HZ).1.len]) (unhide HZ).1.one ?_)
 clear TH hx3 hx4
 refine wp_region_held_drew (S := fun _ => True) (by kernel_rfl) trivial ?_
 intro hS
 generalize x4.drew = x5 at *
 refine wpAnyH_takeD 0 (some 19) (.int .i64 102) rfl rfl (by kernel_rfl) (by kernel_rfl) (by kernel_rfl) (fun _ _ _ h => h) (Or.inl ⟨by rfl, fun w hSw => by go_simp⟩) hS ?_
 simp only [Act.put, List.setIfInBounds_toArray, List.set_cons_zero, List.set_cons_succ]
 refine wpAnyH_takeD 1 (some 20) (.bool true) rfl rfl (by kernel_rfl) (by kernel_rfl) (by kernel_rfl) (fun _ _ _ h => h) (Or.inl ⟨by rfl, fun w hSw => by go_simp⟩) hS ?_
 simp only [Act.put, List.setIfInBounds_toArray, List.set_cons_zero, List.set_cons_succ]
 refine wpAnyH_takeD 2 (some 21) (.bool true) rfl rfl (by kernel_rfl) (by kernel_rfl) (by kernel_rfl) (fun _ _ _ h => h) (Or.inl ⟨by rfl, fun w hSw => by go_simp⟩) hS ?_
 simp only [Act.put, List.setIfInBounds_toArray, List.set_cons_zero, List.set_cons_succ]
 refine wpAnyH_takeD 3 (some 22) undef rfl rfl (by kernel_rfl) (by kernel_rfl) (by kernel_rfl) (fun _ _ _ h => h) (Or.inr ⟨by rfl, rfl⟩) hS ?_
 simp only [Act.put, List.setIfInBounds_toArray, List.set_cons_zero, List.set_cons_succ]
 refine wpAnyH_takeD 4 (some 23) undef rfl rfl (by kernel_rfl) (by kernel_rfl) (by kernel_rfl) (fun _ _ _ h => h) (Or.inr ⟨by rfl, rfl⟩) hS ?_
 simp only [Act.put, List.setIfInBounds_toArray, List.set_cons_zero, List.set_cons_succ]
 refine wpAnyH_takeD 5 (some 24) undef rfl rfl (by kernel_rfl) (by kernel_rfl) (by kernel_rfl) (fun _ _ _ h => h) (Or.inr ⟨by rfl, rfl⟩) hS ?_
 simp only [Act.put, List.setIfInBounds_toArray, List.set_cons_zero, List.set_cons_succ]
 refine wpAnyH_takeD 6 (some 25) undef rfl rfl (by kernel_rfl) (by kernel_rfl) (by kernel_rfl) (fun _ _ _ h => h) (Or.inr ⟨by rfl, rfl⟩) hS ?_
 simp only [Act.put, List.setIfInBounds_toArray, List.set_cons_zero, List.set_cons_succ]
 refine wpAnyH_takeD 7 (some 26) (.bool true) rfl rfl (by kernel_rfl) (by kernel_rfl) (by kernel_rfl) (fun _ _ _ h => h) (Or.inl ⟨by rfl, fun w hSw => by go_simp⟩) hS ?_
 simp only [Act.put, List.setIfInBounds_toArray, List.set_cons_zero, List.set_cons_succ]
 refine wpAnyH_done (by kernel_rfl) ?_ _
 go_wp2
 go_ret2
 exact ⟨rfl, unhide HK⟩
theorem each_any (p : Option Addr) (r : Int) (w : World) : Calls Tryz.prog 12 #[.pointer p, .int .i64 r] w fun e w' => e = .returned (.func (.func 37) #[] #[.pointer (some ⟨w.heap.size, 0, none⟩), .pointer (some ⟨w.heap.size + 1, 0, none⟩)]) ∧ w' = (w.alloc (.cells #[.pointer p] 28)).alloc (.cells #[.int .i64 r] 3) := by
 go_enter Tryz.func12, Tryz.ntmps12
 go_wp2
 go_ret
 exact ⟨by simp, rfl⟩
theorem each1_bad {w0 w : World} {b jb pb mb sb : Nat} {X : Nat → Prop} {n : Nat} {S : PS} {L : List ByteArray} {A : List (Nat × Nat)} {hn : Nat} {Mw Mn : List ByteArray} {T : Nat → Bool} (h : MG w0 w b jb pb mb sb X n S L A hn Mw Mn T) (hc : S.op = false) {m : Nat} {V : Nat → Vol} (hv : VS Mn n m T V) (r : Int) (hr : ∀ k, k < m → ((V k).r : Int) ≠ r) (yl g0 g1 : Nat) (c0 : w.cell? ⟨g0, 0, none⟩ = some (.pointer (some ⟨sb, 0, none⟩))) (c1 : w.cell? ⟨g1, 0, none⟩ = some (.int .i64 r)) : Calls Tryz.prog 37 #[.func (.yield yl) #[] #[], .pointer (some ⟨g0, 0, none⟩), .pointer (some ⟨g1, 0, none⟩)] w fun e w' => e = .returned (.tuple #[]) ∧ MKept w0 w b jb pb mb sb X n S L A hn Mw Mn T w' := by
 have hzb := zeroB
 obtain ⟨x0, hx0⟩ : ∃ q, w.alloc (.cells #[.func (.yield yl) #[] #[]] 85) = q := ⟨_, rfl⟩
 have hb0 : Below w.heap.size w x0 := by rw [← hx0]; exact (Below.refl _ w).alloc (Nat.le_refl _) _
 have d0 : x0.cell? ⟨g0, 0, none⟩ = some (.pointer (some ⟨sb, 0, none⟩)) := (hb0.cell (p := ⟨g0, 0, none⟩) (World.block_lt_of_cell? w _ c0)).trans c0
 have d1 : x0.cell? ⟨g1, 0, none⟩ = some (.int .i64 r) := (hb0.cell (p := ⟨g1, 0, none⟩) (World.block_lt_of_cell? w _ c1)).trans c1
 obtain ⟨zs, hz⟩ : ∃ q, ZT q := ⟨_, zt_ok⟩
 obtain ⟨bs, hbs⟩ : ∃ q, ZB q := ⟨_, zb_ok⟩
 have HZ := hide (And.intro hz hbs)
 have HRA := hide (readAll_bad (h.below hb0) hc hz hbs hv r hr)
 clear hz hbs
 have HB0 := hide hb0
 clear h hc hv hr c0 c1 hb0
 go_enter Tryz.func37, Tryz.ntmps37
 go_wp2_with fail
 refine (unhide HRA).mono ?_
 rintro e x1 ⟨rfl, S1, k1, k2, k3, k4⟩
 have X1 := hide (show MKept w0 w b jb pb mb sb X n S L A hn Mw Mn T x1 from ⟨S1, k1, k2, k3, (Only.of_below (P := fun x => ¬ X x) (unhide HB0)).trans k4 (fun _ _ q => q)⟩)
 clear k1 k2 k3 k4 HRA d0 d1 hx0
 obtain ⟨g7, hg7⟩ : ∃ q, x1.heap.size = q := ⟨_, rfl⟩
 obtain ⟨x2, hx2⟩ : ∃ q, x1.alloc (.cells #[.int .i64 0, .int .i64 0, .int .i64 0, .int .i64 0, .int .i64 0, .int .i64 0, .int .i64 0, .int .i64 0, .int .i64 0, .int .i64 0, .int .i64 0, .int .i64 0, .int .i64 0, .int .i64 0, .int .i64 0, .int .i64 0, .int .i64 0, .int .i64 0, .int .i64 0, .int .i64 0, .int .i64 0, .int .i64 0] 69) = q := ⟨_, rfl⟩
 obtain ⟨g8, hg8⟩ : ∃ q, x2.heap.size = q := ⟨_, rfl⟩
 obtain ⟨x3, hx3⟩ : ∃ q, x2.alloc (.cells z120 78) = q := ⟨_, rfl⟩
 have h78 : g7 < g8 := by rw [← hg8, ← hx2, ← hg7]; simp
 have B7 : Blk x3 g7 #[.int .i64 0, .int .i64 0, .int .i64 0, .int .i64 0, .int .i64 0, .int .i64 0, .int .i64 0, .int .i64 0, .int .i64 0, .int .i64 0, .int .i64 0, .int .i64 0, .int .i64 0, .int .i64 0, .int .i64 0, .int .i64 0, .int .i64 0, .int .i64 0, .int .i64 0, .int .i64 0, .int .i64 0, .int .i64 0] 69 := by rw [← hx3, ← hx2, ← hg7]; exact (Blk.new x1 _ _).alloc _
 have B8 : Blk x3 g8 z120 78 := by rw [← hx3, ← hg8]; exact Blk.new x2 _ _
 have T7 := hide (blk_there B7 zs.toArray.size (by simp [(unhide HZ).1.len]))
 obtain ⟨x4, hx4⟩ : ∃ q, x3.setCells g7 0 zs = q := ⟨_, rfl⟩
 have O4 : Only (fun x => x = g7) x3 x4 := by rw [← hx4]; exact only_cells g7 0 zs rfl
 have C8 := B8.only O4 (by omega)
 have T8 := hide (blk_there C8 bs.toArray.size (by simp [(unhide HZ).2.len]; rfl))
 obtain ⟨x5, hx5⟩ : ∃ q, x4.setCells g8 0 bs = q := ⟨_, rfl⟩
 have HBL5 := hide (show Below x1.heap.size x1 x5 from by
  have h1 : Below x1.heap.size x1 x3 := by rw [← hx3, ← hx2]; exact ((Below.refl _ x1).alloc (Nat.le_refl _) _).alloc (by simp) _
  rw [← hx5, ← hx4]
  exact below_setCells (by omega) _ _ (below_setCells (by omega) _ _ h1))
 clear B7 B8 O4 C8
 go_wp2_with (first | refine wpList_store_mid rfl 69 (.tmp 4) (.tmp 13) rfl g7 0 zs.toArray rfl rfl (unhide T7) (by rw [sizeTree]; simp [(unhide HZ).1.len]) (unhide HZ).1.one ?_ | ((try rw [List.toList_toArray]); (try rw [hx4]); refine wpList_store_mid rfl 78 (.tmp 5) (.tmp 14) rfl g8 0 bs.toArray rfl rfl (unhide T8) (by rw [sizeB]; simp [(unhide HZ).2.len]) (unhide HZ).2.one ?_) | rw [List.toList_toArray, hx5])
 exact bodyPost_ret (v := .tuple #[]) (by simp [results, Tryz.results37]) rfl ⟨rfl, (unhide X1).below (unhide HBL5)⟩
theorem wpIn_rangeFunc_none {F : Fence} {n : Nat} {P : Program} {g : Operand} {ps : Array Tmp} {assign body : Code} {Q : Exit → Act → World → Prop} {a : Act} {w : World} (hro : F.round = none) (h1 : 1 ≤ n) {gf : Nat} {lb : Array Value} (hg : a.eval g = .func (.func gf) #[] lb) (hFg : F.fn gf) (eg : ∀ args w, (callFunc gf args).run P w = .ok (.enter gf args) w)
  (C : ∀ (rec : Loop) (W1 : World), (w.alloc (.deferred (some []))).alloc (.loop rec) = W1 → CallsIn F (n - 1) P gf (#[.func (.yield (w.heap.size + 1)) #[] #[]] ++ lb) W1 fun e w3 => (∃ v, e = .returned v) ∧ w3.heap[w.heap.size + 1]? = some (.loop rec) ∧ Q .normal { a with defers := { target := .collected w.heap.size, args := #[] } :: a.defers } (w3.putObj (w.heap.size + 1) (.loop { rec with state := .exhausted }))) :
  (Code.rangeFunc g ps assign body).wpIn F n P Q a w := by
 refine wpIn_rangeFunc ?_
 intro fn hfn
 rw [hro]
 obtain ⟨rec, hrec⟩ : ∃ rec : Loop, rec = { state := .ready, pending := none, fn := fn, tmps := a.tmps, params := ps, assign := assign, body := body, defers := w.heap.size } := ⟨_, rfl⟩
 obtain ⟨W1, hW1⟩ : ∃ W1, (w.alloc (.deferred (some []))).alloc (.loop rec) = W1 := ⟨_, rfl⟩
 refine ⟨w.heap.size + 1, [{ target := .collected w.heap.size, args := #[] }], W1, { target := .fn (.func gf) lb, args := #[.func (.yield (w.heap.size + 1)) #[] #[]] }, W1, gf, #[.func (.yield (w.heap.size + 1)) #[] #[]] ++ lb, W1, ?_, ?_, ?_, ?_, fun _ => h1, ?_⟩
 ·rw [← hW1, hrec]; exact run_enterLoop_outer _ _ _ _ _
 ·simp only [resolve, hg]
  simp [go_sem]
 ·intro f' hf'
  simp [Target.leads] at hf'
  subst hf'
  exact hFg
 ·simp [invoke, go_sem, eg]
 ·refine (C rec W1 hW1).mono ?_
  rintro e w3 ⟨⟨v, rfl⟩, hl, hq⟩
  have he := run_endLoop (P := P) hl (by rw [hrec]; simp)
  refine ⟨_, _, he, ?_⟩
  have hp : rec.pending = none := by rw [hrec]
  rw [hp] at hq ⊢
  exact hq
end Go.Proofs.YtiellebdliifdaaGreatDoor
namespace Go.Proofs.YtiellebdliifdaaGreatDoor
open Go.RowKit Go.Shelf
def oDrop (O : Nat → Option (Nat × Nat)) (i : Nat) : Option (Nat × Nat) := match O i with
 | some (k + 1, a) => some (k, a)
 | some (0, _) => none
 | none => none
theorem oDrop_some {O : Nat → Option (Nat × Nat)} {i k a : Nat} (h : oDrop O i = some (k, a)) : O i = some (k + 1, a) := by
 unfold oDrop at h
 split at h
 ·rename_i k' a' ho
  cases h
  exact ho
 ·cases h
 ·cases h
theorem oDrop_of {O : Nat → Option (Nat × Nat)} {i k a : Nat} (h : O i = some (k + 1, a)) : oDrop O i = some (k, a) := by
 unfold oDrop
 rw [h]
theorem VS.drop {M : List ByteArray} {n m : Nat} {T : Nat → Bool} {V : Nat → Vol} (h : VS M n (m + 1) T V) (h0 : ∀ l, l < 20 → (V 0).lf l = 0) : VS M n m (flp T (V 0).r) (fun j => V (j + 1)) := by
 obtain ⟨O, h⟩ := h
 have q := h.ok 0 (by omega)
 refine ⟨oDrop O, fun k hk => ?_, fun i hi => ?_, fun i k hi ho => ?_, fun i k l hi ho => ?_⟩
 ·have r := h.ok (k + 1) (by omega)
  exact ⟨r.num, r.rn, oDrop_of r.ro, r.rp, r.ln, fun l hl hn => oDrop_of (r.lo l hl hn), r.lp, r.em, r.eo⟩
 ·unfold flp
  by_cases e : i = (V 0).r
  ·subst e
   rw [if_pos rfl, h.tk _ hi, q.ro]
   unfold oDrop
   rw [q.ro]
   rfl
  ·rw [if_neg e, h.tk i hi]
   cases ho : O i with
   | none => unfold oDrop; rw [ho]
   | some p =>
    obtain ⟨k, a⟩ := p
    cases k with
    | succ k => rw [oDrop_of ho]; rfl
    | zero =>
     exfalso
     cases a with
     | zero => exact e (h.or i 0 hi ho).2.symm
     | succ l =>
      obtain ⟨_, h2, h3⟩ := h.ol i 0 l hi ho
      rw [h0 l h2] at h3
      omega
 ·have := h.or i (k + 1) hi (oDrop_some ho)
  exact ⟨by omega, this.2⟩
 ·have := h.ol i (k + 1) l hi (oDrop_some ho)
  exact ⟨by omega, this.2.1, this.2.2⟩
theorem VS.bare {M : List ByteArray} {n m : Nat} {T : Nat → Bool} {V : Nat → Vol} (h : VS M n m T V) (k : Nat) (hk : k < m) (h0 : ∀ i, i < 60 → (V k).e i = none) : ∀ l, l < 20 → (V k).lf l = 0 := fun l hl => (h.em k hk l hl).2 (fun j hj => h0 _ (by omega))
end Go.Proofs.YtiellebdliifdaaGreatDoor
namespace Go.Proofs.YtiellebdliifdaaGreatDoor
open Go.RowKit Go.Maps Go.Sort Go.Shelf
theorem trC_bare (r num : Int) (lf : Nat → Nat) (h : ∀ l, l < 20 → lf l = 0) : trC r num lf = [.int .i64 r, .int .i64 num, .int .i64 0, .int .i64 0, .int .i64 0, .int .i64 0, .int .i64 0, .int .i64 0, .int .i64 0, .int .i64 0, .int .i64 0, .int .i64 0, .int .i64 0, .int .i64 0, .int .i64 0, .int .i64 0, .int .i64 0, .int .i64 0, .int .i64 0, .int .i64 0, .int .i64 0, .int .i64 0] := by
 apply List.ext_getElem?
 intro i
 by_cases hi : i < 22
 ·rcases (show i = 0 ∨ i = 1 ∨ 2 ≤ i by omega) with rfl | rfl | h2
  ·have := trC_0 r num lf; rw [List.getElem?_toArray] at this; rw [this]; rfl
  ·have := trC_1 r num lf; rw [List.getElem?_toArray] at this; rw [this]; rfl
  ·have := trC_at r num lf (i - 2) (by omega)
   rw [List.getElem?_toArray, show 2 + (i - 2) = i by omega, h (i - 2) (by omega)] at this
   rw [this]
   have hz : ∀ j, 2 ≤ j → j < 22 → ([.int .i64 r, .int .i64 num, .int .i64 0, .int .i64 0, .int .i64 0, .int .i64 0, .int .i64 0, .int .i64 0, .int .i64 0, .int .i64 0, .int .i64 0, .int .i64 0, .int .i64 0, .int .i64 0, .int .i64 0, .int .i64 0, .int .i64 0, .int .i64 0, .int .i64 0, .int .i64 0, .int .i64 0, .int .i64 0] : List Value)[j]? = some (.int .i64 ((0 : Nat) : Int)) := by
    intro j h1 h2
    have : j = 2 ∨ j = 3 ∨ j = 4 ∨ j = 5 ∨ j = 6 ∨ j = 7 ∨ j = 8 ∨ j = 9 ∨ j = 10 ∨ j = 11 ∨ j = 12 ∨ j = 13 ∨ j = 14 ∨ j = 15 ∨ j = 16 ∨ j = 17 ∨ j = 18 ∨ j = 19 ∨ j = 20 ∨ j = 21 := by omega
    rcases this with rfl | rfl | rfl | rfl | rfl | rfl | rfl | rfl | rfl | rfl | rfl | rfl | rfl | rfl | rfl | rfl | rfl | rfl | rfl | rfl <;> rfl
   exact (hz i h2 hi).symm
 ·rw [List.getElem?_eq_none (by rw [trC_len]; omega), List.getElem?_eq_none (by simp; omega)]
def z20 : Array Value := (List.replicate 20 (.int .i64 0)).toArray
theorem cells3 : Tryz.prog.cellsOf 3 = 1 := by kernel_rfl
theorem part3 (k : Nat) (hk : k < 20) (w : World) : (part 3 z20 (k * 1)).run Tryz.prog w = .ok (.int .i64 0) w := by
 have h : z20[k]? = some (.int .i64 0) := by
  rw [z20, List.getElem?_toArray, List.getElem?_replicate, if_pos hk]
 have hg : ∀ W, (isAgg 3).run Tryz.prog W = .ok false W := fun W => by kernel_rfl
 simp [part, hg, h]
theorem eq00 (w : World) : (Op.equalIn 9999 3 (.int .i64 0) (.int .i64 0)).run Tryz.prog w = .ok true w := by
 have := run_equalIn_int (P := Tryz.prog) w 9998 3 .i64 .i64 0 0 Tryz.underlying3
 exact this
theorem items20 (l : List Nat) (h : ∀ k ∈ l, k < 20) (w : World) : (Op.eqItems 9999 3 1 z20 z20 l).run Tryz.prog w = .ok true w := by
 induction l with
 | nil => simp [Op.eqItems]
 | cons k l ih =>
  have p := part3 k (h k (by simp)) w
  simp only [Op.eqItems, Sem.run_bind, p, Result.andThen_ok, eq00]
  simpa using ih (fun j hj => h j (by simp [hj]))
theorem eql20 (w : World) : (binOp .eql 67 (.agg #[.int .i64 0, .int .i64 0, .int .i64 0, .int .i64 0, .int .i64 0, .int .i64 0, .int .i64 0, .int .i64 0, .int .i64 0, .int .i64 0, .int .i64 0, .int .i64 0, .int .i64 0, .int .i64 0, .int .i64 0, .int .i64 0, .int .i64 0, .int .i64 0, .int .i64 0, .int .i64 0]) (.agg #[.int .i64 0, .int .i64 0, .int .i64 0, .int .i64 0, .int .i64 0, .int .i64 0, .int .i64 0, .int .i64 0, .int .i64 0, .int .i64 0, .int .i64 0, .int .i64 0, .int .i64 0, .int .i64 0, .int .i64 0, .int .i64 0, .int .i64 0, .int .i64 0, .int .i64 0, .int .i64 0])).run Tryz.prog w = .ok (.bool true) w := by
 obtain ⟨i0, hi⟩ : ∃ i, Tryz.prog.info? 3 = some i := by
  cases h : Tryz.prog.info? 3 with
  | none => have := infoI3; rw [h] at this; cases this
  | some i => exact ⟨i, rfl⟩
 rw [run_eql_struct, show (#[.int .i64 0, .int .i64 0, .int .i64 0, .int .i64 0, .int .i64 0, .int .i64 0, .int .i64 0, .int .i64 0, .int .i64 0, .int .i64 0, .int .i64 0, .int .i64 0, .int .i64 0, .int .i64 0, .int .i64 0, .int .i64 0, .int .i64 0, .int .i64 0, .int .i64 0, .int .i64 0] : Array Value) = z20 from rfl, run_equalIn_array w 9999 _ _ Tryz.underlying67 hi, cells3, items20 _ (fun k hk => List.mem_range.1 hk) w]
 rfl
set_option maxRecDepth 100000 in
set_option maxHeartbeats 2000000 in
theorem isBare_any (r num : Int) (lf : Nat → Nat) (h : ∀ l, l < 20 → lf l = 0) (w : World) : Calls Tryz.prog 27 #[.agg (trC r num lf).toArray] w fun e w' => e = .returned (.bool true) ∧ Below w.heap.size w w' := by
 obtain ⟨zs, hzs⟩ : ∃ q : List Value, q = [.int .i64 0, .int .i64 0, .int .i64 0, .int .i64 0, .int .i64 0, .int .i64 0, .int .i64 0, .int .i64 0, .int .i64 0, .int .i64 0, .int .i64 0, .int .i64 0, .int .i64 0, .int .i64 0, .int .i64 0, .int .i64 0, .int .i64 0, .int .i64 0, .int .i64 0, .int .i64 0] := ⟨_, rfl⟩
 have hx : trC r num lf = .int .i64 r :: .int .i64 num :: zs := by rw [hzs]; exact trC_bare r num lf h
 have heq : ∀ W, (binOp .eql 67 (.agg zs.toArray) (.agg #[.int .i64 0, .int .i64 0, .int .i64 0, .int .i64 0, .int .i64 0, .int .i64 0, .int .i64 0, .int .i64 0, .int .i64 0, .int .i64 0, .int .i64 0, .int .i64 0, .int .i64 0, .int .i64 0, .int .i64 0, .int .i64 0, .int .i64 0, .int .i64 0, .int .i64 0, .int .i64 0])).run Tryz.prog W = .ok (.bool true) W := fun W => by rw [hzs]; exact eql20 W
 have hzl : zs.length = 20 := by rw [hzs]; rfl
 have hxl := trC_len r num lf
 generalize trC r num lf = xs at *
 have hb : Below w.heap.size w (w.alloc (.cells xs.toArray 69)) := (Below.refl _ w).alloc (Nat.le_refl _) _
 have R := hide (show (w.alloc (.cells xs.toArray 69)).rangeAt w.heap.size 2 zs from fun j v hv => by
  rw [(Blk.new w 69 xs.toArray).cell, List.getElem?_toArray, hx, show 2 + j = j + 1 + 1 by omega]
  simpa using hv)
 have HS := hide (show (Tryz.prog.info? 67).map (·.size) = some zs.length from by rw [hzl]; kernel_rfl)
 clear hzs hx hzl hxl h
 go_enter Tryz.func27, Tryz.ntmps27
 go_wp2_with (refine wpList_load_mid rfl 67 (.tmp 3) rfl w.heap.size 2 rfl _ _ (unhide R) Tryz.underlying67 rfl (unhide HS) ?_)
 go_ret
 exact ⟨rfl, hb⟩
set_option maxRecDepth 100000 in
set_option maxHeartbeats 2000000 in
theorem sDestroy {w0 w : World} {b jb pb mb sb : Nat} {X : Nat → Prop} {n : Nat} {S : PS} {L : List ByteArray} {A : List (Nat × Nat)} {hn : Nat} {Mw Mn : List ByteArray} {T : Nat → Bool} (h : MG w0 w b jb pb mb sb X n S L A hn Mw Mn T) (ho : S.op = true) {m : Nat} {V : Nat → Vol} (hv : VS Mn n m T V) (k : Nat) (hk : k < m) (hz : ∀ l, l < 20 → (V k).lf l = 0) (hr : S.tx.length < 16) : Calls Tryz.prog 9 #[.pointer (some ⟨sb, 0, none⟩), .int .i64 ((V k).r : Int)] w fun e w' => e = .returned (.int .i64 0) ∧ MChg w0 w b jb pb mb sb X n S L A hn Mw 1 (flp T (V k).r) (Sec Mn) w' := by
 obtain ⟨u1, u2, u3, u4, u5⟩ := hv.root k hk
 have HFT := hide (sFtc_ok h ho hv k hk)
 have HIB := hide (fun W => isBare_any ((V k).r : Int) ((V k).num : Int) (V k).lf hz W)
 have hxl := trC_len ((V k).r : Int) ((V k).num : Int) (V k).lf
 have hxo := trC_one ((V k).r : Int) ((V k).num : Int) (V k).lf
 generalize trC ((V k).r : Int) ((V k).num : Int) (V k).lf = xs at *
 have HXL := hide hxl
 have HXO := hide hxo
 have HFR := hide (fun (Y : Nat → Prop) W S' (G : MG w0 W b jb pb mb sb Y n S' L A hn Mw Mn T) (o : S'.op = true) (l : S'.tx.length < 16) => sFree G o (V k).r u2 u3 l)
 have HO := hide (And.intro ho (And.intro hr (And.intro h.bg.xm h.xs)))
 clear h hv hxl hxo u1 u2 u3 u4 u5 hz
 go_enter Tryz.func9, Tryz.ntmps9
 go_wp2_with fail
 refine (unhide HFT).mono ?_
 rintro e x2 ⟨rfl, S2, k1, k2, k3, k4⟩
 obtain ⟨g2, hg2⟩ : ∃ q, x2.heap.size = q := ⟨_, rfl⟩
 obtain ⟨x3, hx3⟩ : ∃ q, x2.alloc (.cells #[.int .i64 0, .int .i64 0, .int .i64 0, .int .i64 0, .int .i64 0, .int .i64 0, .int .i64 0, .int .i64 0, .int .i64 0, .int .i64 0, .int .i64 0, .int .i64 0, .int .i64 0, .int .i64 0, .int .i64 0, .int .i64 0, .int .i64 0, .int .i64 0, .int .i64 0, .int .i64 0, .int .i64 0, .int .i64 0] 69) = q := ⟨_, rfl⟩
 have hb3 : Below x2.heap.size x2 x3 := by rw [← hx3]; exact (Below.refl _ x2).alloc (Nat.le_refl _) _
 have tB3 : Blk x3 g2 #[.int .i64 0, .int .i64 0, .int .i64 0, .int .i64 0, .int .i64 0, .int .i64 0, .int .i64 0, .int .i64 0, .int .i64 0, .int .i64 0, .int .i64 0, .int .i64 0, .int .i64 0, .int .i64 0, .int .i64 0, .int .i64 0, .int .i64 0, .int .i64 0, .int .i64 0, .int .i64 0, .int .i64 0, .int .i64 0] 69 := by rw [← hx3, ← hg2]; exact Blk.new x2 _ _
 have tG3 := k1.add _ hx3 hg2
 obtain ⟨tn1, tn2, tn3, tn4⟩ := k1.new hg2
 have tTH := hide (blk_there tB3 xs.toArray.size (by simp [unhide HXL]))
 obtain ⟨x4, hx4⟩ : ∃ q, x3.setCells g2 0 xs = q := ⟨_, rfl⟩
 have tB4 : Blk x4 g2 xs.toArray 69 := by rw [← hx4]; exact setCells_all tB3 xs (by simp [unhide HXL])
 have tO4 : Only (fun x => x = g2) x3 x4 := by rw [← hx4]; exact only_cells g2 0 xs rfl
 have tG4 := tG3.poke (.inr rfl) tn2 tn3 tn4 tO4
 have R4 := hide (blk_range tB4)
 have X4 := hide (And.intro tG4 (And.intro k2 (And.intro k3 (show Only (fun x => ¬ X x) w x4 from (k4.trans (Only.of_below (P := fun x => ¬ X x) hb3) (fun _ _ q => q)).trans tO4 (fun x _ q r => tn1 (by rw [← q]; exact r))))))
 clear k1 k2 k3 k4 hb3 tB3 tG3 tn1 tn2 tn3 tn4 tB4 tO4 tG4 HFT
 go_wp2_with (first | refine wpList_store_mid rfl 69 (.tmp 5) (.tmp 11) rfl g2 0 xs.toArray rfl rfl (unhide tTH) (by rw [sizeTree]; simp [unhide HXL]) (unhide HXO) ?_ | refine wpList_load_mid rfl 69 (.tmp 5) rfl g2 0 rfl _ _ (unhide R4) Tryz.underlying69 rfl (by rw [sizeTree, unhide HXL]) ?_)
 refine (unhide HIB _).mono ?_
 rintro e x5 ⟨rfl, hb5⟩
 obtain ⟨G4, k2, k3, O4⟩ := unhide X4
 have HF := hide (unhide HFR _ x5 _ (G4.below hb5) (k2.trans (unhide HO).1) (by rw [k3.1]; exact (unhide HO).2.1))
 have X5 := hide (And.intro k2 (And.intro k3 (show Only (fun x => ¬ X x) w x5 from O4.trans (Only.of_below (P := fun x => ¬ X x) hb5) (fun _ _ q => q))))
 clear G4 k2 k3 O4 hb5 X4 HIB HFR hx3 hx4 tTH R4
 go_wp2_with fail
 refine (unhide HF).mono ?_
 rintro e x6 ⟨rfl, S6, Mn6, j1, j2, j3, j4, j5, j6⟩
 obtain ⟨k2, k3, O5⟩ := unhide X5
 have FIN := hide (show MChg w0 w b jb pb mb sb X n S L A hn Mw 1 (flp T (V k).r) (Sec Mn) x6 from ⟨S6, Mn6, j1.less (fun _ q => .inl q) (unhide HO).2.2.1 (unhide HO).2.2.2, j2, j3.trans k3.2, by rw [← k3.1]; exact j4, j5, O5.trans j6 (fun _ _ q r => q (.inl r))⟩)
 clear j1 j2 j3 j4 j5 j6 k2 k3 O5 X5 HF
 go_wp2
 go_ret
 exact ⟨rfl, unhide FIN⟩
theorem VSt.destroy {w0 w : World} {b jb pb mb sb gb : Nat} {Z : Nat → Prop} {n kp q : Nat} {L : List ByteArray} {A : List (Nat × Nat)} {hn mw : Nat} {Vw : Nat → Vol} {Tw : Nat → Bool} {m : Nat} {V : Nat → Vol} {T : Nat → Bool} (h : VSt w0 w b jb pb mb sb gb Z n kp q true L A hn mw Vw Tw (m + 1) V T) (hq : q ≤ 10) (hz : ∀ i, i < 60 → (V 0).e i = none) : Calls Tryz.prog 9 #[.pointer (some ⟨sb, 0, none⟩), .int .i64 ((V 0).r : Int)] w fun e w' => e = .returned (.int .i64 0) ∧ VSt w0 w' b jb pb mb sb gb Z n kp (q + 1) true L A hn mw Vw Tw m (fun j => V (j + 1)) (flp T (V 0).r) ∧ Only (fun x => ¬ Z x) w w' := by
 obtain ⟨S, Mw, Mn, tb, h1, h2, h3, h4, h5⟩ := h
 have hl := h4.bare 0 (by omega) hz
 have hn88 := h1.n88
 refine (sDestroy h1 h2.1 h4 0 (by omega) hl (by omega)).mono ?_
 rintro e w' ⟨rfl, kk⟩
 exact ⟨rfl, VSt.chg ⟨h2.2.1, h2.2.2⟩ h3 h5 kk (fun N hN => (h4.drop hl).over (fun i hi => by rw [eqv_at hN i (by omega)]; rfl))⟩
end Go.Proofs.YtiellebdliifdaaGreatDoor
namespace Go.Proofs.YtiellebdliifdaaGreatDoor
open Go.RowKit Go.Maps Go.Sort Go.Shelf
set_option maxRecDepth 100000
theorem VSt.mapped {w0 w : World} {b jb pb mb sb gb : Nat} {Z : Nat → Prop} {n kp q : Nat} {L : List ByteArray} {A : List (Nat × Nat)} {hn mw : Nat} {Vw : Nat → Vol} {Tw : Nat → Bool} {m : Nat} {V : Nat → Vol} {T : Nat → Bool} (h : VSt w0 w b jb pb mb sb gb Z n kp q false L A hn mw Vw Tw m V T) (k : Nat) (hk : k < m) (r : Int) (hr : ((V k).r : Int) = r) : Calls Tryz.prog 11 #[.pointer (some ⟨sb, 0, none⟩), .int .i64 r] w fun e w' => (∃ x y : Int, e = .returned (.tuple #[.int .i64 x, .int .i64 y, .int .i64 0])) ∧ VSt w0 w' b jb pb mb sb gb Z n kp q false L A hn mw Vw Tw m V T ∧ Only (fun x => ¬ Z x) w w' := by
 subst hr
 obtain ⟨S, Mw, Mn, tb, h1, h2, h3, h4, h5⟩ := h
 refine (sMapped h1 h4 k hk).mono ?_
 rintro e w' ⟨rfl, kk⟩
 exact ⟨⟨_, _, rfl⟩, VSt.kept h2 h3 h4 h5 kk⟩
theorem VSt.mappedBad {w0 w : World} {b jb pb mb sb gb : Nat} {Z : Nat → Prop} {n kp q : Nat} {L : List ByteArray} {A : List (Nat × Nat)} {hn mw : Nat} {Vw : Nat → Vol} {Tw : Nat → Bool} {m : Nat} {V : Nat → Vol} {T : Nat → Bool} (h : VSt w0 w b jb pb mb sb gb Z n kp q false L A hn mw Vw Tw m V T) (r : Int) (hr : ∀ k, k < m → ((V k).r : Int) ≠ r) : Calls Tryz.prog 11 #[.pointer (some ⟨sb, 0, none⟩), .int .i64 r] w fun e w' => e = .returned (.tuple #[.int .i64 0, .int .i64 0, .int .i64 102]) ∧ VSt w0 w' b jb pb mb sb gb Z n kp q false L A hn mw Vw Tw m V T ∧ Only (fun x => ¬ Z x) w w' := by
 obtain ⟨S, Mw, Mn, tb, h1, h2, h3, h4, h5⟩ := h
 refine (mapped_bad h1 h2.1 h4 r hr).mono ?_
 rintro e w' ⟨rfl, kk⟩
 exact ⟨rfl, VSt.kept h2 h3 h4 h5 kk⟩
theorem VSt.growsBad {w0 w : World} {b jb pb mb sb gb : Nat} {Z : Nat → Prop} {n kp q : Nat} {L : List ByteArray} {A : List (Nat × Nat)} {hn mw : Nat} {Vw : Nat → Vol} {Tw : Nat → Bool} {m : Nat} {V : Nat → Vol} {T : Nat → Bool} (h : VSt w0 w b jb pb mb sb gb Z n kp q false L A hn mw Vw Tw m V T) (r : Int) (hr : ∀ k, k < m → ((V k).r : Int) ≠ r) (b0 : Nat) (hb0 : b0 < 60) : Calls Tryz.prog 13 #[.pointer (some ⟨sb, 0, none⟩), .int .i64 r, .int .i64 (b0 : Int)] w fun e w' => e = .returned (.tuple #[.int .i64 0, .int .i64 102]) ∧ VSt w0 w' b jb pb mb sb gb Z n kp q false L A hn mw Vw Tw m V T ∧ Only (fun x => ¬ Z x) w w' := by
 obtain ⟨S, Mw, Mn, tb, h1, h2, h3, h4, h5⟩ := h
 refine (grows_bad h1 h2.1 h4 r hr b0 hb0).mono ?_
 rintro e w' ⟨rfl, kk⟩
 exact ⟨rfl, VSt.kept h2 h3 h4 h5 kk⟩
theorem VSt.each1Bad {w0 w : World} {b jb pb mb sb gb : Nat} {Z : Nat → Prop} {n kp q : Nat} {L : List ByteArray} {A : List (Nat × Nat)} {hn mw : Nat} {Vw : Nat → Vol} {Tw : Nat → Bool} {m : Nat} {V : Nat → Vol} {T : Nat → Bool} (h : VSt w0 w b jb pb mb sb gb Z n kp q false L A hn mw Vw Tw m V T) (r : Int) (hr : ∀ k, k < m → ((V k).r : Int) ≠ r) (yl g0 g1 : Nat) (c0 : w.cell? ⟨g0, 0, none⟩ = some (.pointer (some ⟨sb, 0, none⟩))) (c1 : w.cell? ⟨g1, 0, none⟩ = some (.int .i64 r)) : Calls Tryz.prog 37 #[.func (.yield yl) #[] #[], .pointer (some ⟨g0, 0, none⟩), .pointer (some ⟨g1, 0, none⟩)] w fun e w' => e = .returned (.tuple #[]) ∧ VSt w0 w' b jb pb mb sb gb Z n kp q false L A hn mw Vw Tw m V T ∧ Only (fun x => ¬ Z x) w w' := by
 obtain ⟨S, Mw, Mn, tb, h1, h2, h3, h4, h5⟩ := h
 refine (each1_bad h1 h2.1 h4 r hr yl g0 g1 c0 c1).mono ?_
 rintro e w' ⟨rfl, kk⟩
 exact ⟨rfl, VSt.kept h2 h3 h4 h5 kk⟩
theorem TM_new1 {Z : Nat → Prop} {gr : Nat} {x : World} {cv base : Nat} (hr : x.ownsRow base 3 1 (.slice (some ⟨gr, 0, none⟩) 3 cv) 3 ((List.range 3).map (fun (j : Nat) => Value.int .i64 (j : Int)))) : TMm (x.alloc (.cells (mC 2 (fun _ _ => none)) 60)) Z gr 1 2 x.heap.size (fun _ _ => none) (x.alloc (.cells (mC 2 (fun _ _ => none)) 60)) := by
 refine ⟨Blk.new x _ _, fun j hj => ?_, Only.refl _ _⟩
 refine only_cell ((Only.refl (fun _ => False) x).alloc _) ?_ (fun q => q)
 rw [hr.cellAt (1 + j) (by omega)]
 have hj' : j = 0 ∨ j = 1 := by omega
 rcases hj' with rfl | rfl <;> rfl
theorem results_t1 {fn : Func} {p : Tmp} (h : fn.results = #[.tmp p]) (tmps : Array Value) (P : Program) (w : World) : (results fn tmps).run P w = .ok (tmps.getD p undef) w := by
 simp only [results, h]
 simp
theorem only_putObj (W : World) (l : Nat) (o : Obj) : Only (fun k => k = l) W (W.putObj l o) := (grown_only (grownBy_putObj' W l o)).mono (fun _ _ q => (Option.some.inj q).symm)
theorem fn_nil (f : Nat) (lb : Array Value) (w : World) : (binOp .eql 41 (.func (.func f) #[] lb) .nilFunc).run Tryz.prog w = .ok (.bool false) w := by kernel_rfl
structure SR (w : World) (gb sb gn : Nat) (W : World) : Prop where
 c3 : W.cell? ⟨gb, 3, none⟩ = some (.pointer (some ⟨sb, 0, none⟩))
 cn : W.cell? ⟨gn, 0, none⟩ = some (.int .i64 0)
 d : W.heap[gn + 3]? = some (.deferred (some []))
 bel : Below w.heap.size w W
theorem SR.dl {w : World} {gb sb gn : Nat} {W : World} (h : SR w gb sb gn W) : gn + 3 < W.heap.size := (Array.getElem?_eq_some_iff.1 h.d).1
theorem SR.only {w : World} {gb sb gn : Nat} {W W' : World} {P : Nat → Prop} (h : SR w gb sb gn W) (ho : Only P W W') (h1 : ¬ P gb) (h2 : ¬ P gn) (h3 : ¬ P (gn + 3)) (h4 : ∀ k, k < w.heap.size → ¬ P k) : SR w gb sb gn W' :=
 ⟨only_cell ho h.c3 h1, only_cell ho h.cn h2, (ho.2 _ h.dl h3).trans h.d, h.bel.trans (ho.below h.bel.size h4)⟩
theorem SR.below {w : World} {gb sb gn : Nat} {W W' : World} (h : SR w gb sb gn W) (hb : Below W.heap.size W W') : SR w gb sb gn W' := h.only (Only.of_below (P := fun _ => False) hb) (fun q => q) (fun q => q) (fun q => q) (fun _ _ q => q)
end Go.Proofs.YtiellebdliifdaaGreatDoor
