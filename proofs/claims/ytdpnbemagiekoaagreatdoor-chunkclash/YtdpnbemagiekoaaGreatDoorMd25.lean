import Derived.Test.YtdpnbemagiekoaaGreatDoorMd24
import Derived.Test.YtdpnbemagiekoaaGreatDoorMd17
namespace Go.Proofs.YtdpnbemagiekoaaGreatDoor
open Go.RowKit Go.Maps
/-- An index's memory at a place. -/
structure MM (w : World) (mb mo eb bm n : Nat) (T : Nat → En) : Prop where
  c0 : w.cell? ⟨mb, mo, none⟩ = some (.slice (some ⟨eb, 0, none⟩) n n)
  c1 : w.cell? ⟨mb, mo + 1, none⟩ = some (.map (some bm))
  er : ER w eb n T
  pm : PM w bm n T
  ne : mb ≠ eb
  nb : mb ≠ bm
  nx : eb ≠ bm
  lt : mb < w.heap.size
theorem MM.only {w w' : World} {mb mo eb bm n : Nat} {T : Nat → En} {P : Nat → Prop} (h : MM w mb mo eb bm n T) (ho : Only P w w') (h1 : ¬ P mb) (h2 : ¬ P eb) (h3 : ¬ P bm) : MM w' mb mo eb bm n T := by
  have e := ho.2 mb h.lt h1
  refine ⟨?_, ?_, h.er.only ho h2, h.pm.only ho h3, h.ne, h.nb, h.nx, Nat.lt_of_lt_of_le h.lt ho.size⟩
  · rw [World.cell?_of_block (a := ⟨mb, mo, none⟩) e]; exact h.c0
  · rw [World.cell?_of_block (a := ⟨mb, mo + 1, none⟩) e]; exact h.c1
theorem MM.below {w w' : World} {mb mo eb bm n : Nat} {T : Nat → En} (h : MM w mb mo eb bm n T) (hb : Below w.heap.size w w') : MM w' mb mo eb bm n T := h.only (Only.of_below (P := fun _ => False) hb) (fun q => q) (fun q => q) (fun q => q)
theorem ihas_any {w : World} {mb mo eb bm n : Nat} {T : Nat → En} (h : MM w mb mo eb bm n T) (z : Int) : Calls Tryz.prog 47 #[.pointer (some ⟨mb, mo, none⟩), .int .i64 z] w fun e w' => e = .returned (.bool (decide (0 ≤ z) && decide (z < (n : Int)))) ∧ w' = w := by
  have c0 := h.c0
  clear h
  by_cases h0 : 0 ≤ z
  · have hd : decide ((0 : Int) ≤ z) = true := by simpa using h0
    rw [hd, Bool.true_and]
    clear h0
    generalize hdz : decide (z < (n : Int)) = dz at *
    go_enter Tryz.func47, Tryz.ntmps47
    go_wp2
    go_ret
    exact ⟨rfl, rfl⟩
  · have hd : decide ((0 : Int) ≤ z) = false := by simpa using h0
    rw [hd, Bool.false_and]
    clear h0
    go_enter Tryz.func47, Tryz.ntmps47
    go_wp2
    go_ret
    exact ⟨rfl, rfl⟩
set_option maxRecDepth 100000 in
set_option maxHeartbeats 1000000 in
theorem ifind_gen {w : World} {mb mo eb bm n : Nat} {T : Nat → En} (h : MM w mb mo eb bm n T) (d : ByteArray) (hd : d.size = 32) (i : Int) (is : Bool)
    (hl : ∀ W, PM W bm n T → (Instr.lookup 92 (.map (some bm)) (.agg (kC d).toArray) true).run Tryz.prog W = .ok (.tuple #[.int .i64 i, .bool is]) W) :
    Calls Tryz.prog 45 #[.pointer (some ⟨mb, mo, none⟩), .agg (kC d).toArray] w fun e w' => e = .returned (.tuple #[.int .i64 i, .bool is]) ∧ Below w.heap.size w w' := by
  obtain ⟨x1, hx1⟩ : ∃ q, w.alloc (.cells (kC d).toArray 99) = q := ⟨_, rfl⟩
  obtain ⟨g, hg⟩ : ∃ g, w.heap.size = g := ⟨_, rfl⟩
  have B1 : Blk x1 g (kC d).toArray 99 := by rw [← hx1, ← hg]; exact Blk.new w _ _
  have hb1 : Below g w x1 := by rw [← hx1, ← hg]; exact (Below.refl _ w).alloc (Nat.le_refl _) _
  have M1 : MM x1 mb mo eb bm n T := h.below (by rw [hg]; exact hb1)
  have hr1 : x1.rangeAt g 0 (kC d) := fun j v hv => by rw [B1.cell, Nat.zero_add]; simpa using hv
  have hl1 := hl x1 M1.pm
  have c1 := M1.c1
  have HL := hide hl
  have HKL := hide (kC_len d hd)
  have HB := hide hb1
  have HPM := hide M1.pm
  have HX := hide hx1
  have HP0 := hide (show ∀ W, W.cell? ⟨mb, mo + 1, none⟩ = some (.map (some bm)) ∧ W.rangeAt g 0 (kC d) ∧ PM W bm n T → (Instr.lookup 92 (.map (some bm)) (.agg (kC d).toArray) true).run Tryz.prog W = .ok (.tuple #[.int .i64 i, .bool is]) W from fun W q => hl W q.2.2)
  clear hl hl1 hb1 B1 h hd
  rw [hg]
  go_enter Tryz.func45, Tryz.ntmps45
  go_wp2
  refine wp_region_held_drew (S := fun w' => w'.cell? ⟨mb, mo + 1, none⟩ = some (.map (some bm)) ∧ w'.rangeAt g 0 (kC d) ∧ PM w' bm n T) (by kernel_rfl) ⟨c1, hr1, M1.pm⟩ ?_
  intro hS
  refine wpAnyH_takeD 0 (some 9) (.pointer (some ⟨mb, mo, none⟩)) rfl rfl (by kernel_rfl) (by kernel_rfl) (by kernel_rfl) (fun _ _ _ h => h) (Or.inl ⟨by rfl, fun w hSw => by obtain ⟨q1, q2, q3⟩ := hSw; clear q2 q3; go_simp⟩) hS ?_
  simp only [Act.put, List.setIfInBounds_toArray, List.set_cons_zero, List.set_cons_succ]
  refine wpAnyH_takeD 1 (some 10) (.pointer (some ⟨mb, mo, none⟩)) rfl rfl (by kernel_rfl) (by kernel_rfl) (by kernel_rfl) (fun _ _ _ h => h) (Or.inl ⟨by rfl, fun w hSw => by obtain ⟨q1, q2, q3⟩ := hSw; clear q2 q3; go_simp⟩) hS ?_
  simp only [Act.put, List.setIfInBounds_toArray, List.set_cons_zero, List.set_cons_succ]
  refine wpAnyH_takeD 2 (some 11) (.pointer (some ⟨mb, mo + 1, none⟩)) rfl rfl (by kernel_rfl) (by kernel_rfl) (by kernel_rfl) (fun _ _ _ h => h) (Or.inl ⟨by rfl, fun w hSw => by obtain ⟨q1, q2, q3⟩ := hSw; clear q2 q3; go_simp⟩) hS ?_
  simp only [Act.put, List.setIfInBounds_toArray, List.set_cons_zero, List.set_cons_succ]
  refine wpAnyH_takeD 3 (some 12) (.map (some bm)) rfl rfl (by kernel_rfl) (by kernel_rfl) (by kernel_rfl) (fun _ _ _ h => h) (Or.inl ⟨by rfl, fun w hSw => by obtain ⟨q1, q2, q3⟩ := hSw; clear q2 q3; go_simp⟩) hS ?_
  simp only [Act.put, List.setIfInBounds_toArray, List.set_cons_zero, List.set_cons_succ]
  refine wpAnyH_takeD 4 (some 13) (.agg (kC d).toArray) rfl rfl (by kernel_rfl) (by kernel_rfl) (by kernel_rfl) (fun _ _ _ h => h) (yieldsIf_load_mid (by rfl) 99 (.tmp 3) rfl g 0 rfl _ _ (fun w h => h.2.1) Tryz.underlying99 rfl (by rw [sizeKey, unhide HKL])) hS ?_
  simp only [Act.put, List.setIfInBounds_toArray, List.set_cons_zero, List.set_cons_succ]
  refine wpAnyH_takeD 5 (some 14) (.tuple #[.int .i64 i, .bool is]) rfl rfl (by kernel_rfl) (by kernel_rfl) (by kernel_rfl) (fun _ _ _ h => h) (Or.inl ⟨by rfl, fun w hSw => by have q9 := unhide HP0 _ hSw; clear hSw; go_simp⟩) hS ?_
  simp only [Act.put, List.setIfInBounds_toArray, List.set_cons_zero, List.set_cons_succ]
  refine wpAnyH_takeD 6 (some 8) (.tuple #[.int .i64 i, .bool is]) rfl rfl (by kernel_rfl) (by kernel_rfl) (by kernel_rfl) (fun _ _ _ h => h) (Or.inl ⟨by rfl, fun w hSw => by obtain ⟨q1, q2, q3⟩ := hSw; clear q2 q3; go_simp⟩) hS ?_
  simp only [Act.put, List.setIfInBounds_toArray, List.set_cons_zero, List.set_cons_succ]
  refine wpAnyH_takeD 7 (some 15) (.int .i64 i) rfl rfl (by kernel_rfl) (by kernel_rfl) (by kernel_rfl) (fun _ _ _ h => h) (Or.inl ⟨by rfl, fun w hSw => by obtain ⟨q1, q2, q3⟩ := hSw; clear q2 q3; go_simp⟩) hS ?_
  simp only [Act.put, List.setIfInBounds_toArray, List.set_cons_zero, List.set_cons_succ]
  refine wpAnyH_takeD 8 (some 16) (.bool is) rfl rfl (by kernel_rfl) (by kernel_rfl) (by kernel_rfl) (fun _ _ _ h => h) (Or.inl ⟨by rfl, fun w hSw => by obtain ⟨q1, q2, q3⟩ := hSw; clear q2 q3; go_simp⟩) hS ?_
  simp only [Act.put, List.setIfInBounds_toArray, List.set_cons_zero, List.set_cons_succ]
  refine wpAnyH_takeD 9 (some 6) (.int .i64 i) rfl rfl (by kernel_rfl) (by kernel_rfl) (by kernel_rfl) (fun _ _ _ h => h) (Or.inl ⟨by rfl, fun w hSw => by obtain ⟨q1, q2, q3⟩ := hSw; clear q2 q3; go_simp⟩) hS ?_
  simp only [Act.put, List.setIfInBounds_toArray, List.set_cons_zero, List.set_cons_succ]
  refine wpAnyH_takeD 10 (some 7) (.bool is) rfl rfl (by kernel_rfl) (by kernel_rfl) (by kernel_rfl) (fun _ _ _ h => h) (Or.inl ⟨by rfl, fun w hSw => by obtain ⟨q1, q2, q3⟩ := hSw; clear q2 q3; go_simp⟩) hS ?_
  simp only [Act.put, List.setIfInBounds_toArray, List.set_cons_zero, List.set_cons_succ]
  refine wpAnyH_done (by kernel_rfl) ?_ _
  go_wp2
  go_ret2
  exact ⟨rfl, (unhide HB).drew⟩
set_option maxRecDepth 100000 in
set_option maxHeartbeats 2000000 in
theorem itell_any {w : World} {mb mo eb bm n : Nat} {T : Nat → En} (h : MM w mb mo eb bm n T) (hT : TOk n T) (i : Nat) (hi : i < n) (hn : n ≤ 1024) (d : ByteArray) (c : Nat) (hTi : T i = some (d, c)) :
    Calls Tryz.prog 134 #[.pointer (some ⟨mb, mo, none⟩), .int .i64 (i : Int)] w fun e w' => e = .returned (.agg #[.int .i64 (i : Int), .string d, .int .i64 (c : Int)]) ∧ Below w.heap.size w w' := by
  obtain ⟨x1, hx1⟩ : ∃ q, w.alloc (.cells #[.int .i64 0, .string ⟨#[]⟩, .int .i64 0] 40) = q := ⟨_, rfl⟩
  obtain ⟨g, hg⟩ : ∃ g, w.heap.size = g := ⟨_, rfl⟩
  have hb1 : Below g w x1 := by rw [← hx1, ← hg]; exact (Below.refl _ w).alloc (Nat.le_refl _) _
  have hs1 : x1.heap.size = g + 1 := by rw [← hx1, ← hg]; simp
  have G1 : Blk x1 g #[.int .i64 0, .string ⟨#[]⟩, .int .i64 0] 40 := by rw [← hx1, ← hg]; exact Blk.new w _ _
  have M1 : MM x1 mb mo eb bm n T := h.below (by rw [hg]; exact hb1)
  have c0 := M1.c0
  have HR := hide (M1.er.range i hi)
  rw [hTi] at HR
  have hd := (hT.ok i d c hTi).1
  have HEL := hide (eC_len d hd (c : Int))
  have HE1 := hide (all_oneCell_toArray (eC_one d (c : Int)))
  obtain ⟨x2, hx2⟩ : ∃ q, x1.alloc (.cells #[.int .u8 0, .int .u8 0, .int .u8 0, .int .u8 0, .int .u8 0, .int .u8 0, .int .u8 0, .int .u8 0, .int .u8 0, .int .u8 0, .int .u8 0, .int .u8 0, .int .u8 0, .int .u8 0, .int .u8 0, .int .u8 0, .int .u8 0, .int .u8 0, .int .u8 0, .int .u8 0, .int .u8 0, .int .u8 0, .int .u8 0, .int .u8 0, .int .u8 0, .int .u8 0, .int .u8 0, .int .u8 0, .int .u8 0, .int .u8 0, .int .u8 0, .int .u8 0, .int .i64 0] 104) = q := ⟨_, rfl⟩
  have BZ : Blk x2 (g + 1) #[.int .u8 0, .int .u8 0, .int .u8 0, .int .u8 0, .int .u8 0, .int .u8 0, .int .u8 0, .int .u8 0, .int .u8 0, .int .u8 0, .int .u8 0, .int .u8 0, .int .u8 0, .int .u8 0, .int .u8 0, .int .u8 0, .int .u8 0, .int .u8 0, .int .u8 0, .int .u8 0, .int .u8 0, .int .u8 0, .int .u8 0, .int .u8 0, .int .u8 0, .int .u8 0, .int .u8 0, .int .u8 0, .int .u8 0, .int .u8 0, .int .u8 0, .int .u8 0, .int .i64 0] 104 := by rw [← hx2, ← hs1]; exact Blk.new x1 _ _
  have HTZ := hide (blk_there BZ 33 rfl)
  obtain ⟨x3, hx3⟩ : ∃ q, x2.setCells (g + 1) 0 (eC d (c : Int)) = q := ⟨_, rfl⟩
  have B3 : Blk x3 (g + 1) (eC d (c : Int)).toArray 104 := by
    rw [← hx3]
    have := setCells_blk (eC d (c : Int)) [] [] BZ (#[.int .u8 0, .int .u8 0, .int .u8 0, .int .u8 0, .int .u8 0, .int .u8 0, .int .u8 0, .int .u8 0, .int .u8 0, .int .u8 0, .int .u8 0, .int .u8 0, .int .u8 0, .int .u8 0, .int .u8 0, .int .u8 0, .int .u8 0, .int .u8 0, .int .u8 0, .int .u8 0, .int .u8 0, .int .u8 0, .int .u8 0, .int .u8 0, .int .u8 0, .int .u8 0, .int .u8 0, .int .u8 0, .int .u8 0, .int .u8 0, .int .u8 0, .int .u8 0, .int .i64 0] : Array Value).toList (by rw [unhide HEL]; rfl) (by simp)
    simpa using this
  have G3 : Blk x3 g #[.int .i64 0, .string ⟨#[]⟩, .int .i64 0] 40 := by rw [← hx3, ← hx2]; exact blk_cells_other _ _ (G1.alloc _) (g + 1) (by omega)
  have L3 := hide (show Below g w x3 from by rw [← hx3, ← hx2]; exact below_setCells (by omega) _ _ (hb1.alloc (by omega) _))
  obtain ⟨f1, f2, f3, f4⟩ := blk_ent hd B3
  have q0 : x3.cell? ⟨g, 0, none⟩ = some (.int .i64 0) := G3.cell 0
  have q1 : x3.cell? ⟨g, 1, none⟩ = some (.string ⟨#[]⟩) := G3.cell 1
  have q2 : x3.cell? ⟨g, 2, none⟩ = some (.int .i64 0) := G3.cell 2
  have p0 := G3.frozen 0
  have p1 := G3.frozen 1
  have p2 := G3.frozen 2
  have HG3 := hide G3
  have HHD := hide (show (nums d).length = 32 by rw [nums_len, hd])
  have HIX := hide (And.intro hi hn)
  have i0 : (0 : Int) ≤ (i : Int) := by omega
  have i1 : (i : Int) < (n : Int) := by omega
  clear h hT hTi hb1 G1 M1 hd BZ B3 G3 f2 f4 hi
  have HS1 := hide hs1
  have HX3 := hide hx3
  have HX2 := hide hx2
  clear hs1 hx3 hx2
  rw [hg]
  go_enter Tryz.func134, Tryz.ntmps134
  go_wp2_with (first | refine wpList_load_mid rfl 104 (.tmp 11) rfl eb (i * 33) (by rfl) _ _ (unhide HR) Tryz.underlying104 rfl (by rw [sizeEnt]; exact congrArg some (unhide HEL).symm) ?_ | refine wpList_store_mid rfl 104 (.tmp 5) (.tmp 12) rfl (g + 1) 0 (eC d (c : Int)).toArray (by rw [← unhide HS1]; rfl) rfl (by rw [List.size_toArray, unhide HEL, unhide HX2]; exact unhide HTZ) (by rw [sizeEnt, List.size_toArray, unhide HEL]) (unhide HE1) ?_)
  rw [unhide HX2, unhide HX3, unhide HS1]
  refine wp_region_held_drew (S := fun w' => Arr w' (g + 1) 0 .u8 (nums d) ∧ w'.cell? ⟨g + 1, 32, none⟩ = some (.int .i64 (c : Int))) (by kernel_rfl) ⟨f1, f3⟩ ?_
  intro hS
  refine wpAnyH_takeD 0 (some 13) (.int .i64 (i : Int)) rfl rfl (by kernel_rfl) (by kernel_rfl) (by kernel_rfl) (fun _ _ _ h => h) (Or.inl ⟨by rfl, fun w hSw => by obtain ⟨q1, q2⟩ := hSw; clear q1; go_simp⟩) hS ?_
  simp only [Act.put, List.setIfInBounds_toArray, List.set_cons_zero, List.set_cons_succ]
  refine wpAnyH_takeD 1 (some 14) (.pointer (some ⟨g + 1, 0, none⟩)) rfl rfl (by kernel_rfl) (by kernel_rfl) (by kernel_rfl) (fun _ _ _ h => h) (Or.inl ⟨by rfl, fun w hSw => by obtain ⟨q1, q2⟩ := hSw; clear q1; go_simp⟩) hS ?_
  simp only [Act.put, List.setIfInBounds_toArray, List.set_cons_zero, List.set_cons_succ]
  refine wpAnyH_takeD 2 (some 15) (.slice (some ⟨g + 1, 0, none⟩) 32 32) rfl rfl (by kernel_rfl) (by kernel_rfl) (by kernel_rfl) (fun _ _ _ h => h) (Or.inl ⟨by rfl, fun w hSw => by obtain ⟨q1, q2⟩ := hSw; clear q1; go_simp⟩) hS ?_
  simp only [Act.put, List.setIfInBounds_toArray, List.set_cons_zero, List.set_cons_succ]
  refine wpAnyH_takeD 3 (some 16) (.string d) rfl rfl (by kernel_rfl) (by kernel_rfl) (by kernel_rfl) (fun _ _ _ h => h) (Or.inl ⟨by rfl, fun w hSw => by have q9 := run_convert_bytes_arg (P := Tryz.prog) w 119 5 Tryz.underlying119 Tryz.underlying5 (g + 1) 0 32 32 (nums d) (unhide HHD) (fun j hj => hSw.1.get j (by rw [unhide HHD]; exact hj)) 9 Tryz.underlying9; rw [strOfNums_nums] at q9; clear hSw; go_simp⟩) hS ?_
  simp only [Act.put, List.setIfInBounds_toArray, List.set_cons_zero, List.set_cons_succ]
  refine wpAnyH_takeD 4 (some 17) (.pointer (some ⟨g + 1, 32, none⟩)) rfl rfl (by kernel_rfl) (by kernel_rfl) (by kernel_rfl) (fun _ _ _ h => h) (Or.inl ⟨by rfl, fun w hSw => by obtain ⟨q1, q2⟩ := hSw; clear q1; go_simp⟩) hS ?_
  simp only [Act.put, List.setIfInBounds_toArray, List.set_cons_zero, List.set_cons_succ]
  refine wpAnyH_takeD 5 (some 18) (.int .i64 (c : Int)) rfl rfl (by kernel_rfl) (by kernel_rfl) (by kernel_rfl) (fun _ _ _ h => h) (Or.inl ⟨by rfl, fun w hSw => by obtain ⟨q1, q2⟩ := hSw; clear q1; go_simp⟩) hS ?_
  simp only [Act.put, List.setIfInBounds_toArray, List.set_cons_zero, List.set_cons_succ]
  refine wpAnyH_takeD 6 (some 19) (.agg #[.int .i64 (i : Int), .string d, .int .i64 (c : Int)]) rfl rfl (by kernel_rfl) (by kernel_rfl) (by kernel_rfl) (fun _ _ _ h => h) (Or.inl ⟨by rfl, fun w hSw => by obtain ⟨q1, q2⟩ := hSw; clear q1; go_simp⟩) hS ?_
  simp only [Act.put, List.setIfInBounds_toArray, List.set_cons_zero, List.set_cons_succ]
  refine wpAnyH_ready (rs := [7]) (by kernel_rfl) (by simp) ?_
  refine AllReadyH.cons rfl (fun K hK => ?_) AllReadyH.nil
  simp only [List.getElem_toArray, List.getElem_cons_succ, List.getElem_cons_zero]
  go_simp
  have G4 := ((((unhide HG3).set 0 (.int .i64 (i : Int))).set 1 (.string d)).set 2 (.int .i64 (c : Int)))
  have L4 := hide (((((unhide L3).setCell (p := ⟨g, 0, none⟩) (Nat.le_refl _) (.int .i64 (i : Int))).setCell (p := ⟨g, 1, none⟩) (Nat.le_refl _) (.string d)).setCell (p := ⟨g, 2, none⟩) (Nat.le_refl _) (.int .i64 (c : Int))).drew)
  have HG4 := hide G4
  have A4 := hide (((f1.other ⟨g, 0, none⟩ (.int .i64 (i : Int)) (.inl (by show g ≠ g + 1; omega))).other ⟨g, 1, none⟩ (.string d) (.inl (by show g ≠ g + 1; omega))).other ⟨g, 2, none⟩ (.int .i64 (c : Int)) (.inl (by show g ≠ g + 1; omega)))
  have C4 := hide (show (((x3.setCell ⟨g, 0, none⟩ (.int .i64 (i : Int))).setCell ⟨g, 1, none⟩ (.string d)).setCell ⟨g, 2, none⟩ (.int .i64 (c : Int))).cell? ⟨g + 1, 32, none⟩ = some (.int .i64 (c : Int)) from by
    rw [World.cell?_setCell_other _ _ _ _ (by simp), World.cell?_setCell_other _ _ _ _ (by simp), World.cell?_setCell_other _ _ _ _ (by simp)]; exact f3)
  clear G4 f1 f3 q0 q1 q2 p0 p1 p2
  refine hK.out _ _ ⟨(unhide A4), (unhide C4)⟩ (fun hS => ?_)
  clear hK K
  refine wpAnyH_done (by kernel_rfl) ?_ _
  clear hS
  go_wp2
  have hG4 : Blk ((((x3.setCell ⟨g, 0, none⟩ (.int .i64 (i : Int))).setCell ⟨g, 1, none⟩ (.string d)).setCell ⟨g, 2, none⟩ (.int .i64 (c : Int))).drew) g #[.int .i64 (i : Int), .string d, .int .i64 (c : Int)] 40 := unhide HG4
  have hld := iload_blk 40 _ hG4 Tryz.underlying40 rfl (by kernel_rfl)
  refine bodyPost_ret (v := .agg #[.int .i64 (i : Int), .string d, .int .i64 (c : Int)]) (results_cell rfl _ _ _ ⟨g, 0, none⟩ rfl _ hld) rfl ⟨rfl, unhide L4⟩
theorem infoEnt : (Tryz.prog.info? 104).map (fun i => (i.zero, i.size, i.bytes)) = some (some (.agg #[.int .u8 0, .int .u8 0, .int .u8 0, .int .u8 0, .int .u8 0, .int .u8 0, .int .u8 0, .int .u8 0, .int .u8 0, .int .u8 0, .int .u8 0, .int .u8 0, .int .u8 0, .int .u8 0, .int .u8 0, .int .u8 0, .int .u8 0, .int .u8 0, .int .u8 0, .int .u8 0, .int .u8 0, .int .u8 0, .int .u8 0, .int .u8 0, .int .u8 0, .int .u8 0, .int .u8 0, .int .u8 0, .int .u8 0, .int .u8 0, .int .u8 0, .int .u8 0, .int .i64 0]), 33, 40) := by kernel_rfl
theorem er_made (w : World) (n : Nat) : ER (w.alloc (.cells (madeCells (enC none).toArray (n * 33)) 104)) w.heap.size n (fun _ => none) := by
  have hz : (enC none).length = 33 := enC_len none (fun _ _ h => by cases h)
  refine ⟨(madeCells (enC none).toArray (n * 33)).toList, by rw [Array.toArray_toList]; exact Blk.new w _ _, by rw [Array.length_toList, size_madeCells]; omega, fun i hi => ?_⟩
  apply List.ext_getElem
  · rw [List.length_take, List.length_drop, Array.length_toList, size_madeCells, hz]
    omega
  · intro j h1 h2
    rw [hz] at h2
    rw [List.getElem_take, List.getElem_drop]
    simp only [madeCells, Array.getElem_toList, Array.getElem_map, Array.getElem_range]
    have e : (i * 33 + j) % (enC none).toArray.size = j := by
      rw [List.size_toArray, hz]
      omega
    rw [e]
    simp [hz, h2]
theorem imake (n : Nat) (hn : n ≤ 1024) (w : World) : (Instr.makeSlice 91 (.int .i64 (n : Int)) (.int .i64 (n : Int))).run Tryz.prog w = .ok (.slice (some ⟨w.heap.size, 0, none⟩) n n) (w.alloc (.cells (madeCells (enC none).toArray (n * 33)) 104)) := by
  have h := infoEnt
  cases hq : Tryz.prog.info? 104 with
  | none => rw [hq] at h; cases h
  | some i =>
    rw [hq] at h
    simp only [Option.map_some, Option.some.injEq, Prod.mk.injEq] at h
    obtain ⟨hz, hs, hbt⟩ := h
    have := run_makeSlice (P := Tryz.prog) w 91 104 i _ Tryz.underlying91 hq hz .i64 .i64 (n : Int) (n : Int) (by omega) (by omega) (by rw [hs, Int.toNat_natCast]; omega) (by rw [hbt]; omega) (by omega)
    rw [Int.toNat_natCast, hs] at this
    rw [this]
    have e : (Value.agg #[.int .u8 0, .int .u8 0, .int .u8 0, .int .u8 0, .int .u8 0, .int .u8 0, .int .u8 0, .int .u8 0, .int .u8 0, .int .u8 0, .int .u8 0, .int .u8 0, .int .u8 0, .int .u8 0, .int .u8 0, .int .u8 0, .int .u8 0, .int .u8 0, .int .u8 0, .int .u8 0, .int .u8 0, .int .u8 0, .int .u8 0, .int .u8 0, .int .u8 0, .int .u8 0, .int .u8 0, .int .u8 0, .int .u8 0, .int .u8 0, .int .u8 0, .int .u8 0, .int .i64 0]).cells = (enC none).toArray := by rw [enC_none]; rfl
    rw [e]
set_option maxRecDepth 100000 in
set_option maxHeartbeats 2000000 in
theorem newMemory_any (n : Nat) (hn : n ≤ 1024) (w : World) : Calls Tryz.prog 59 #[.int .i64 (n : Int)] w fun e w' => ∃ eb bm, e = .returned (.agg #[.slice (some ⟨eb, 0, none⟩) n n, .map (some bm)]) ∧ w.heap.size ≤ eb ∧ w.heap.size ≤ bm ∧ ER w' eb n (fun _ => none) ∧ PM w' bm n (fun _ => none) ∧ Below w.heap.size w w' := by
  have hmm := @run_makeMap Tryz.prog
  obtain ⟨x1, hx1⟩ : ∃ q, w.alloc (.cells #[.slice none 0 0, .map none] 94) = q := ⟨_, rfl⟩
  obtain ⟨g, hg⟩ : ∃ g, w.heap.size = g := ⟨_, rfl⟩
  have hb1 : Below g w x1 := by rw [← hx1, ← hg]; exact (Below.refl _ w).alloc (Nat.le_refl _) _
  have hs1 : x1.heap.size = g + 1 := by rw [← hx1, ← hg]; simp
  have G1 : Blk x1 g #[.slice none 0 0, .map none] 94 := by rw [← hx1, ← hg]; exact Blk.new w _ _
  obtain ⟨x2, hx2⟩ : ∃ q, x1.alloc (.cells (madeCells (enC none).toArray (n * 33)) 104) = q := ⟨_, rfl⟩
  have hmk := imake n hn x1
  rw [hx2, hs1] at hmk
  have E2 : ER x2 (g + 1) n (fun _ => none) := by rw [← hx2, ← hs1]; exact er_made x1 n
  have hs2 : x2.heap.size = g + 2 := by rw [← hx2]; simp [hs1]
  have G2 : Blk x2 g #[.slice none 0 0, .map none] 94 := by rw [← hx2]; exact G1.alloc _
  have hb2 : Below g w x2 := by rw [← hx2]; exact hb1.alloc (by omega) _
  have hmm2 := hmm 92 x2
  obtain ⟨x3, hx3⟩ : ∃ q, x2.alloc (.map #[] 0) = q := ⟨_, rfl⟩
  rw [hx3, hs2] at hmm2
  have G3 : Blk x3 g #[.slice none 0 0, .map none] 94 := by rw [← hx3]; exact G2.alloc _
  have E3 : ER x3 (g + 1) n (fun _ => none) := E2.below (by rw [← hx3]; exact (Below.refl _ _).alloc (Nat.le_refl _) _)
  have P3 : PM x3 (g + 2) n (fun _ => none) := by rw [← hx3, ← hs2]; exact PM.made x2 n
  have L3 : Below g w x3 := by rw [← hx3]; exact hb2.alloc (by omega) _
  have q0 : x3.cell? ⟨g, 0, none⟩ = some (.slice none 0 0) := G3.cell 0
  have q1 : x3.cell? ⟨g, 1, none⟩ = some (.map none) := G3.cell 1
  have p0 := G3.frozen 0
  have p1 := G3.frozen 1
  have HX := hide (And.intro G3 (And.intro E3 (And.intro P3 L3)))
  clear hb1 hs1 G1 E2 hs2 G2 hb2 G3 E3 P3 L3 hmm hx2 hx3
  rw [hg]
  go_enter Tryz.func59, Tryz.ntmps59
  go_wp2
  obtain ⟨G3, E3, P3, L3⟩ := unhide HX
  have G4 := (G3.set 0 (.slice (some ⟨g + 1, 0, none⟩) n n)).set 1 (.map (some (g + 2)))
  have hO : Only (fun k => k = g) x3 ((x3.setCell ⟨g, 0, none⟩ (.slice (some ⟨g + 1, 0, none⟩) n n)).setCell ⟨g, 1, none⟩ (.map (some (g + 2)))) := ((Only.refl (fun k => k = g) x3).setCell ⟨g, 0, none⟩ _ (fun _ => rfl)).setCell ⟨g, 1, none⟩ _ (fun _ => rfl)
  have hld := iload_blk 94 _ G4 Tryz.underlying94 rfl (by kernel_rfl)
  refine bodyPost_ret (v := .agg #[.slice (some ⟨g + 1, 0, none⟩) n n, .map (some (g + 2))]) (results_cell rfl _ _ _ ⟨g, 0, none⟩ rfl _ hld) rfl ⟨_, _, rfl, by omega, by omega, E3.only hO (by omega), P3.only hO (by omega), (L3.setCell (p := ⟨g, 0, none⟩) (Nat.le_refl _) _).setCell (p := ⟨g, 1, none⟩) (Nat.le_refl _) _⟩
end Go.Proofs.YtdpnbemagiekoaaGreatDoor
