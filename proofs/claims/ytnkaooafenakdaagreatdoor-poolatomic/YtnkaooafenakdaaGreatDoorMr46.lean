import Derived.Test.YtnkaooafenakdaaGreatDoorMr45
namespace Go.Proofs.YtnkaooafenakdaaGreatDoor
open Go.RowKit Go.Maps Go.Sort Go.Shelf
theorem only1 (x : World) (g o : Nat) (a : Value) : Only (fun z => z = g) x (x.setCell ⟨g, o, none⟩ a) := (Only.refl _ x).setCell ⟨g, o, none⟩ a (fun _ => rfl)
theorem only3 (x : World) (g : Nat) (a b c : Value) : Only (fun z => z = g) x (((x.setCell ⟨g, 0, none⟩ a).setCell ⟨g, 1, none⟩ b).setCell ⟨g, 2, none⟩ c) :=
  ((only1 x g 0 a).trans (only1 (x.setCell ⟨g, 0, none⟩ a) g 1 b) (fun _ _ q => q)).trans (only1 ((x.setCell ⟨g, 0, none⟩ a).setCell ⟨g, 1, none⟩ b) g 2 c) (fun _ _ q => q)
set_option maxRecDepth 100000 in
set_option maxHeartbeats 1000000 in
theorem stats_any (w : World) (base pb b jb : Nat) (op : Bool) (bw keep bv : Nat) (ov : Value) (hits mis : Int) (lost : Bool) (n : Nat) (xs : List Value) (hB : Blk w pb (Pcs b jb op bw keep bv ov hits mis lost) 96) (H : w.ownsRow base 3 1 ov n xs) :
    Calls Tryz.prog 22 #[.pointer (some ⟨pb, 0, none⟩)] w fun e w' => e = .returned (.agg #[.int .i64 hits, .int .i64 mis, .int .i64 (n : Int)]) ∧ Below w.heap.size w w' := by
  obtain ⟨x, hx⟩ : ∃ x, w.alloc (.cells #[.int .i64 0, .int .i64 0, .int .i64 0] 50) = x := ⟨_, rfl⟩
  have hb : Below w.heap.size w x := by rw [← hx]; exact (Below.refl _ w).alloc (Nat.le_refl _) _
  have hO : Only (fun _ => False) w x := Only.of_below hb
  have hS1 : Blk x pb (Pcs b jb op bw keep bv ov hits mis lost) 96 := hB.only hO (fun q => q)
  have hS2 := owns_only H hO (fun _ _ q => q)
  have hS3 : Blk x w.heap.size #[.int .i64 0, .int .i64 0, .int .i64 0] 50 := by rw [← hx]; exact Blk.new w _ _
  have HPB := hide (show pb < w.heap.size from hB.lt)
  have HOV := hide (fun z (hz : ov.ownBlock = some z) => (row_lt H hz).1)
  have HX := hide hx
  have HB := hide hb
  clear hx hb hO hB H
  go_enter Tryz.func22, Tryz.ntmps22
  go_wp2_with fail
  rw [unhide HX]
  have HGH := hide (show w.heap.size = w.heap.size from rfl)
  obtain ⟨gh, hgh⟩ : ∃ g, w.heap.size = g := ⟨_, rfl⟩
  rw [hgh]
  rw [hgh] at hS3
  have hS0 : Blk x.drew pb (Pcs b jb op bw keep bv ov hits mis lost) 96 ∧ x.drew.ownsRow base 3 1 ov n xs := ⟨hS1, hS2⟩
  refine wp_region_held_drew (S := fun w' => Blk w' pb (Pcs b jb op bw keep bv ov hits mis lost) 96 ∧ w'.ownsRow base 3 1 ov n xs) (by kernel_rfl) hS0 ?_
  intro hS
  have B3 : Blk x.drew gh #[.int .i64 0, .int .i64 0, .int .i64 0] 50 := hS3
  have HXD := hide (show Below w.heap.size w x.drew from (unhide HB).drew)
  clear hS0 hS1 hS2 hS3
  generalize x.drew = xd at hS B3 HXD ⊢
  refine wpAnyH_takeD 0 (some 3) (.pointer (some ⟨pb, 0, none⟩)) rfl rfl (by kernel_rfl) (by kernel_rfl) (by kernel_rfl) (fun _ _ _ h => h) (Or.inl ⟨by rfl, fun w hSw => by go_simp⟩) hS ?_
  simp only [Act.put, List.setIfInBounds_toArray, List.set_cons_zero, List.set_cons_succ]
  refine wpAnyH_takeD 1 (some 4) (.pointer (some ⟨pb, 0, none⟩)) rfl rfl (by kernel_rfl) (by kernel_rfl) (by kernel_rfl) (fun _ _ _ h => h) (Or.inl ⟨by rfl, fun w hSw => by go_simp⟩) hS ?_
  simp only [Act.put, List.setIfInBounds_toArray, List.set_cons_zero, List.set_cons_succ]
  refine wpAnyH_takeD 2 (some 5) (.pointer (some ⟨pb, 7, none⟩)) rfl rfl (by kernel_rfl) (by kernel_rfl) (by kernel_rfl) (fun _ _ _ h => h) (Or.inl ⟨by rfl, fun w hSw => by go_simp⟩) hS ?_
  simp only [Act.put, List.setIfInBounds_toArray, List.set_cons_zero, List.set_cons_succ]
  refine wpAnyH_takeD 3 (some 6) (.int .i64 hits) rfl rfl (by kernel_rfl) (by kernel_rfl) (by kernel_rfl) (fun _ _ _ h => h) (Or.inl ⟨by rfl, fun w hSw => by have hq : w.cell? ⟨pb, 7, none⟩ = some (.int .i64 hits) := hSw.1.cell 7; go_simp⟩) hS ?_
  simp only [Act.put, List.setIfInBounds_toArray, List.set_cons_zero, List.set_cons_succ]
  refine wpAnyH_takeD 4 (some 7) (.pointer (some ⟨pb, 0, none⟩)) rfl rfl (by kernel_rfl) (by kernel_rfl) (by kernel_rfl) (fun _ _ _ h => h) (Or.inl ⟨by rfl, fun w hSw => by go_simp⟩) hS ?_
  simp only [Act.put, List.setIfInBounds_toArray, List.set_cons_zero, List.set_cons_succ]
  refine wpAnyH_takeD 5 (some 8) (.pointer (some ⟨pb, 0, none⟩)) rfl rfl (by kernel_rfl) (by kernel_rfl) (by kernel_rfl) (fun _ _ _ h => h) (Or.inl ⟨by rfl, fun w hSw => by go_simp⟩) hS ?_
  simp only [Act.put, List.setIfInBounds_toArray, List.set_cons_zero, List.set_cons_succ]
  refine wpAnyH_takeD 6 (some 9) (.pointer (some ⟨pb, 8, none⟩)) rfl rfl (by kernel_rfl) (by kernel_rfl) (by kernel_rfl) (fun _ _ _ h => h) (Or.inl ⟨by rfl, fun w hSw => by go_simp⟩) hS ?_
  simp only [Act.put, List.setIfInBounds_toArray, List.set_cons_zero, List.set_cons_succ]
  refine wpAnyH_takeD 7 (some 10) (.int .i64 mis) rfl rfl (by kernel_rfl) (by kernel_rfl) (by kernel_rfl) (fun _ _ _ h => h) (Or.inl ⟨by rfl, fun w hSw => by have hq : w.cell? ⟨pb, 8, none⟩ = some (.int .i64 mis) := hSw.1.cell 8; go_simp⟩) hS ?_
  simp only [Act.put, List.setIfInBounds_toArray, List.set_cons_zero, List.set_cons_succ]
  refine wpAnyH_takeD 8 (some 11) (.pointer (some ⟨pb, 0, none⟩)) rfl rfl (by kernel_rfl) (by kernel_rfl) (by kernel_rfl) (fun _ _ _ h => h) (Or.inl ⟨by rfl, fun w hSw => by go_simp⟩) hS ?_
  simp only [Act.put, List.setIfInBounds_toArray, List.set_cons_zero, List.set_cons_succ]
  refine wpAnyH_takeD 9 (some 12) (.pointer (some ⟨pb, 0, none⟩)) rfl rfl (by kernel_rfl) (by kernel_rfl) (by kernel_rfl) (fun _ _ _ h => h) (Or.inl ⟨by rfl, fun w hSw => by go_simp⟩) hS ?_
  simp only [Act.put, List.setIfInBounds_toArray, List.set_cons_zero, List.set_cons_succ]
  refine wpAnyH_takeD 10 (some 13) (.pointer (some ⟨pb, 4, none⟩)) rfl rfl (by kernel_rfl) (by kernel_rfl) (by kernel_rfl) (fun _ _ _ h => h) (Or.inl ⟨by rfl, fun w hSw => by go_simp⟩) hS ?_
  simp only [Act.put, List.setIfInBounds_toArray, List.set_cons_zero, List.set_cons_succ]
  refine wpAnyH_ready (rs := [11]) (by kernel_rfl) (by simp) ?_
  refine AllReadyH.cons rfl (fun K hK => ?_) AllReadyH.nil
  simp only [List.getElem_toArray, List.getElem_cons_succ, List.getElem_cons_zero]
  go_simp
  refine (hcount_any _ base pb b jb op bw keep bv ov hits mis lost n xs hS.1 hS.2).mono ?_
  rintro e w1 ⟨rfl, hw1⟩
  subst w1
  refine hK.out _ _ hS (fun hS => ?_)
  clear hK K
  refine wpAnyH_takeD 12 (some 15) (.agg #[.int .i64 hits, .int .i64 mis, .int .i64 (n : Int)]) rfl rfl (by kernel_rfl) (by kernel_rfl) (by kernel_rfl) (fun _ _ _ h => h) (Or.inl ⟨by rfl, fun w hSw => by go_simp⟩) hS ?_
  simp only [Act.put, List.setIfInBounds_toArray, List.set_cons_zero, List.set_cons_succ]
  have c0 : xd.cell? ⟨gh, 0, none⟩ = some (.int .i64 0) := B3.cell 0
  have c1 : xd.cell? ⟨gh, 1, none⟩ = some (.int .i64 0) := B3.cell 1
  have c2 : xd.cell? ⟨gh, 2, none⟩ = some (.int .i64 0) := B3.cell 2
  have f0 := B3.frozen 0
  have f1 := B3.frozen 1
  have f2 := B3.frozen 2
  obtain ⟨y, hy⟩ : ∃ y, ((xd.setCell ⟨gh, 0, none⟩ (.int .i64 hits)).setCell ⟨gh, 1, none⟩ (.int .i64 mis)).setCell ⟨gh, 2, none⟩ (.int .i64 (n : Int)) = y := ⟨_, rfl⟩
  have By : Blk y gh #[.int .i64 hits, .int .i64 mis, .int .i64 (n : Int)] 50 := by rw [← hy]; exact ((B3.set 0 _).set 1 _).set 2 _
  have hOy : Only (fun z => z = gh) xd y := by rw [← hy]; exact only3 xd gh _ _ _
  have hSy : Blk y pb (Pcs b jb op bw keep bv ov hits mis lost) 96 ∧ y.ownsRow base 3 1 ov n xs := ⟨hS.1.only hOy (fun q => by have := unhide HPB; omega), owns_only hS.2 hOy (fun z hz q => by have := unhide HOV z hz; omega)⟩
  have HY := hide (And.intro By (And.intro hOy hy))
  clear B3 By hOy
  refine wpAnyH_ready (rs := [13]) (by kernel_rfl) (by simp) ?_
  refine AllReadyH.cons rfl (fun K hK => ?_) AllReadyH.nil
  simp only [List.getElem_toArray, List.getElem_cons_succ, List.getElem_cons_zero]
  go_simp
  refine hK.out _ _ hSy (fun hS => ?_)
  clear hK K
  refine wpAnyH_done (by kernel_rfl) ?_ _
  go_wp2
  have hld := load_blk 50 _ (unhide HY).1 Tryz.underlying50 rfl (by kernel_rfl)
  refine bodyPost_ret (v := .agg #[.int .i64 hits, .int .i64 mis, .int .i64 (n : Int)]) (results_cell rfl _ _ _ ⟨gh, 0, none⟩ rfl _ hld) rfl ⟨rfl, ?_⟩
  have hbw := unhide HXD
  rw [← hgh]
  exact hbw.trans ((unhide HY).2.1.below (by exact hbw.size) (fun z hz q => by omega))
end Go.Proofs.YtnkaooafenakdaaGreatDoor
