import Derived.Test.YtclgkgaobjcifaaGreatDoorMy02
namespace Go.Proofs.YtclgkgaobjcifaaGreatDoor
open Go.RowKit
set_option maxRecDepth 100000
theorem tab_cells {W : World} {g : Nat} {T : TypeId} (h : Blk W g tabC T) : W.cell? ⟨g, 0, none⟩ = some (.int .i64 1) ∧ W.cell? ⟨g, 1, none⟩ = some (.int .i64 1) ∧ W.cell? ⟨g, 2, none⟩ = some (.int .i64 8) ∧ W.cell? ⟨g, 3, none⟩ = some (.int .i64 2) ∧ W.cell? ⟨g, 4, none⟩ = some (.int .i64 0) ∧ W.cell? ⟨g, 5, none⟩ = some (.int .i64 65535) ∧ W.cell? ⟨g, 6, none⟩ = some (.int .i64 2) ∧ W.cell? ⟨g, 7, none⟩ = some (.int .i64 0) ∧ W.cell? ⟨g, 8, none⟩ = some (.int .i64 65535) ∧ W.cell? ⟨g, 9, none⟩ = some (.int .i64 1) ∧ W.cell? ⟨g, 10, none⟩ = some (.int .i64 1) ∧ W.cell? ⟨g, 11, none⟩ = some (.int .i64 99) ∧ W.cell? ⟨g, 12, none⟩ = some (.int .i64 1) ∧ W.cell? ⟨g, 13, none⟩ = some (.int .i64 0) ∧ W.cell? ⟨g, 14, none⟩ = some (.int .i64 255) ∧ W.cell? ⟨g, 15, none⟩ = some (.int .i64 4) ∧ W.cell? ⟨g, 16, none⟩ = some (.int .i64 0) ∧ W.cell? ⟨g, 17, none⟩ = some (.int .i64 4294967295) ∧ W.cell? ⟨g, 18, none⟩ = some (.int .i64 32) ∧ W.cell? ⟨g, 19, none⟩ = some (.int .i64 48) ∧ W.cell? ⟨g, 20, none⟩ = some (.int .i64 8) ∧ W.cell? ⟨g, 21, none⟩ = some (.int .i64 256) := by
  refine ⟨?_, ?_, ?_, ?_, ?_, ?_, ?_, ?_, ?_, ?_, ?_, ?_, ?_, ?_, ?_, ?_, ?_, ?_, ?_, ?_, ?_, ?_⟩ <;> (rw [h.cell]; rfl)
theorem tab_one : tabC.all (·.oneCell') = true := by simp [tabC, Value.oneCell']
theorem tab_cellsOf : Tryz.prog.cellsOf 138 = 22 := by kernel_rfl
theorem tab_bytesOf : Tryz.prog.bytesOf 138 = 184 := by kernel_rfl
theorem tab_byc : byteOfCell Tryz.prog Tryz.prog.depth 138 0 = some 0 := by kernel_rfl
theorem part_tab {W : World} {g : Nat} (h : Blk W g tabC 138) : (partAt ⟨g, 0, none⟩ 22 176).run Tryz.prog W = .ok ⟨g, 22, some 176⟩ W := by
  have hs : W.shape? g = some (138, 22) := by
    unfold World.shape?
    rw [show W.heap[g]? = _ from h]
    rfl
  have hv : ∀ o, (noView ⟨g, o, none⟩).run Tryz.prog W = .ok () W := by
    intro o
    simp [noView, viewAt, hs]
  have e1 : (byteOf ⟨g, 0, none⟩).run Tryz.prog W = .ok 0 W := by
    simp [byteOf, hv, hs, tab_cellsOf, tab_byc]
  have e2 : (byteOf ⟨g, 22, none⟩).run Tryz.prog W = .ok 184 W := by
    simp [byteOf, hv, hs, tab_cellsOf, tab_bytesOf, tab_byc]
  simp [partAt, e1, e2]
set_option maxHeartbeats 1000000 in
theorem rpf_3 (w : World) : Calls Tryz.prog 43 #[.int .i64 3] w fun e w' => ∃ v, e = .returned v ∧ FR w' v [fQuo, fCha, fVos] ∧ Below w.heap.size w w' := by
  go_enter Tryz.func43, Tryz.ntmps43
  go_wp2_with fail
  refine (allFields_any _).mono ?_
  rintro e x1 ⟨rfl, hb1⟩
  obtain ⟨g, hg⟩ : ∃ g, x1.heap.size = g := ⟨_, rfl⟩
  obtain ⟨x2, hx2⟩ : ∃ q, x1.alloc (.cells #[.int .i64 0, .int .i64 0, .int .i64 0, .int .i64 0, .int .i64 0, .int .i64 0, .int .i64 0, .int .i64 0, .int .i64 0, .int .i64 0, .int .i64 0, .int .i64 0, .int .i64 0, .int .i64 0, .int .i64 0, .int .i64 0, .int .i64 0, .int .i64 0, .int .i64 0, .int .i64 0, .int .i64 0, .int .i64 0] 138) = q := ⟨_, rfl⟩
  have BZ : Blk x2 g #[.int .i64 0, .int .i64 0, .int .i64 0, .int .i64 0, .int .i64 0, .int .i64 0, .int .i64 0, .int .i64 0, .int .i64 0, .int .i64 0, .int .i64 0, .int .i64 0, .int .i64 0, .int .i64 0, .int .i64 0, .int .i64 0, .int .i64 0, .int .i64 0, .int .i64 0, .int .i64 0, .int .i64 0, .int .i64 0] 138 := by rw [← hx2, ← hg]; exact Blk.new x1 _ _
  have hb2 : Below w.heap.size w x2 := by rw [← hx2]; exact hb1.alloc hb1.size _
  have hgw : w.heap.size ≤ g := by rw [← hg]; exact hb1.size
  have HZ := hide BZ
  have hb3 := below_setRow hb2 hgw tabC
  have BT : Blk (x2.setRow g tabC) g tabC 138 := blk_setRow BZ
  have hs3 : w.heap.size ≤ (x2.setRow g tabC).heap.size := hb3.size
  obtain ⟨c0, c1, c2, c3, c4, c5, c6, c7, c8, c9, c10, c11, c12, c13, c14, c15, c16, c17, c18, c19, c20, c21⟩ := tab_cells BT
  have hpt := part_tab BT
  obtain ⟨x3, hx3⟩ : ∃ q, x2.setRow g tabC = q := ⟨_, rfl⟩
  rw [hx3] at c0 c1 c2 c3 c4 c5 c6 c7 c8 c9 c10 c11 c12 c13 c14 c15 c16 c17 c18 c19 c20 c21 hb3 hs3 hpt
  have HB := hide hb3
  have HS := hide hs3
  have HO := hide tab_one
  clear hb1 hb2 hb3 BZ BT hgw hs3
  go_wp2_with (refine wpList_store_row rfl 138 (.tmp 3) (.tmp 4) rfl g tabC rfl rfl 138 #[.int .i64 0, .int .i64 0, .int .i64 0, .int .i64 0, .int .i64 0, .int .i64 0, .int .i64 0, .int .i64 0, .int .i64 0, .int .i64 0, .int .i64 0, .int .i64 0, .int .i64 0, .int .i64 0, .int .i64 0, .int .i64 0, .int .i64 0, .int .i64 0, .int .i64 0, .int .i64 0, .int .i64 0, .int .i64 0] (unhide HZ) sizeTab rfl (unhide HO) ?_)
  all_goals (try go_wp2)
  go_ret
  refine ⟨_, rfl, ?_, ?_⟩
  · exact .inr ⟨_, rfl, Blk.new _ _ _⟩
  · exact (unhide HB).alloc (unhide HS) _
set_option maxHeartbeats 1000000 in
theorem rpf_6 (w : World) : Calls Tryz.prog 43 #[.int .i64 6] w fun e w' => ∃ v, e = .returned v ∧ FR w' v [fVos] ∧ Below w.heap.size w w' := by
  go_enter Tryz.func43, Tryz.ntmps43
  go_wp2_with fail
  refine (allFields_any _).mono ?_
  rintro e x1 ⟨rfl, hb1⟩
  obtain ⟨g, hg⟩ : ∃ g, x1.heap.size = g := ⟨_, rfl⟩
  obtain ⟨x2, hx2⟩ : ∃ q, x1.alloc (.cells #[.int .i64 0, .int .i64 0, .int .i64 0, .int .i64 0, .int .i64 0, .int .i64 0, .int .i64 0, .int .i64 0, .int .i64 0, .int .i64 0, .int .i64 0, .int .i64 0, .int .i64 0, .int .i64 0, .int .i64 0, .int .i64 0, .int .i64 0, .int .i64 0, .int .i64 0, .int .i64 0, .int .i64 0, .int .i64 0] 138) = q := ⟨_, rfl⟩
  have BZ : Blk x2 g #[.int .i64 0, .int .i64 0, .int .i64 0, .int .i64 0, .int .i64 0, .int .i64 0, .int .i64 0, .int .i64 0, .int .i64 0, .int .i64 0, .int .i64 0, .int .i64 0, .int .i64 0, .int .i64 0, .int .i64 0, .int .i64 0, .int .i64 0, .int .i64 0, .int .i64 0, .int .i64 0, .int .i64 0, .int .i64 0] 138 := by rw [← hx2, ← hg]; exact Blk.new x1 _ _
  have hb2 : Below w.heap.size w x2 := by rw [← hx2]; exact hb1.alloc hb1.size _
  have hgw : w.heap.size ≤ g := by rw [← hg]; exact hb1.size
  have HZ := hide BZ
  have hb3 := below_setRow hb2 hgw tabC
  have BT : Blk (x2.setRow g tabC) g tabC 138 := blk_setRow BZ
  have hs3 : w.heap.size ≤ (x2.setRow g tabC).heap.size := hb3.size
  obtain ⟨c0, c1, c2, c3, c4, c5, c6, c7, c8, c9, c10, c11, c12, c13, c14, c15, c16, c17, c18, c19, c20, c21⟩ := tab_cells BT
  have hpt := part_tab BT
  obtain ⟨x3, hx3⟩ : ∃ q, x2.setRow g tabC = q := ⟨_, rfl⟩
  rw [hx3] at c0 c1 c2 c3 c4 c5 c6 c7 c8 c9 c10 c11 c12 c13 c14 c15 c16 c17 c18 c19 c20 c21 hb3 hs3 hpt
  have HB := hide hb3
  have HS := hide hs3
  have HO := hide tab_one
  clear hb1 hb2 hb3 BZ BT hgw hs3
  go_wp2_with (refine wpList_store_row rfl 138 (.tmp 3) (.tmp 4) rfl g tabC rfl rfl 138 #[.int .i64 0, .int .i64 0, .int .i64 0, .int .i64 0, .int .i64 0, .int .i64 0, .int .i64 0, .int .i64 0, .int .i64 0, .int .i64 0, .int .i64 0, .int .i64 0, .int .i64 0, .int .i64 0, .int .i64 0, .int .i64 0, .int .i64 0, .int .i64 0, .int .i64 0, .int .i64 0, .int .i64 0, .int .i64 0] (unhide HZ) sizeTab rfl (unhide HO) ?_)
  all_goals (try go_wp2)
  go_ret
  refine ⟨_, rfl, ?_, ?_⟩
  · exact .inr ⟨_, rfl, Blk.new _ _ _⟩
  · exact (unhide HB).alloc (unhide HS) _
set_option maxHeartbeats 1000000 in
theorem rpf_7 (w : World) : Calls Tryz.prog 43 #[.int .i64 7] w fun e w' => ∃ v, e = .returned v ∧ FR w' v [fQuo, fCha] ∧ Below w.heap.size w w' := by
  go_enter Tryz.func43, Tryz.ntmps43
  go_wp2_with fail
  refine (allFields_any _).mono ?_
  rintro e x1 ⟨rfl, hb1⟩
  obtain ⟨g, hg⟩ : ∃ g, x1.heap.size = g := ⟨_, rfl⟩
  obtain ⟨x2, hx2⟩ : ∃ q, x1.alloc (.cells #[.int .i64 0, .int .i64 0, .int .i64 0, .int .i64 0, .int .i64 0, .int .i64 0, .int .i64 0, .int .i64 0, .int .i64 0, .int .i64 0, .int .i64 0, .int .i64 0, .int .i64 0, .int .i64 0, .int .i64 0, .int .i64 0, .int .i64 0, .int .i64 0, .int .i64 0, .int .i64 0, .int .i64 0, .int .i64 0] 138) = q := ⟨_, rfl⟩
  have BZ : Blk x2 g #[.int .i64 0, .int .i64 0, .int .i64 0, .int .i64 0, .int .i64 0, .int .i64 0, .int .i64 0, .int .i64 0, .int .i64 0, .int .i64 0, .int .i64 0, .int .i64 0, .int .i64 0, .int .i64 0, .int .i64 0, .int .i64 0, .int .i64 0, .int .i64 0, .int .i64 0, .int .i64 0, .int .i64 0, .int .i64 0] 138 := by rw [← hx2, ← hg]; exact Blk.new x1 _ _
  have hb2 : Below w.heap.size w x2 := by rw [← hx2]; exact hb1.alloc hb1.size _
  have hgw : w.heap.size ≤ g := by rw [← hg]; exact hb1.size
  have HZ := hide BZ
  have hb3 := below_setRow hb2 hgw tabC
  have BT : Blk (x2.setRow g tabC) g tabC 138 := blk_setRow BZ
  have hs3 : w.heap.size ≤ (x2.setRow g tabC).heap.size := hb3.size
  obtain ⟨c0, c1, c2, c3, c4, c5, c6, c7, c8, c9, c10, c11, c12, c13, c14, c15, c16, c17, c18, c19, c20, c21⟩ := tab_cells BT
  have hpt := part_tab BT
  obtain ⟨x3, hx3⟩ : ∃ q, x2.setRow g tabC = q := ⟨_, rfl⟩
  rw [hx3] at c0 c1 c2 c3 c4 c5 c6 c7 c8 c9 c10 c11 c12 c13 c14 c15 c16 c17 c18 c19 c20 c21 hb3 hs3 hpt
  have HB := hide hb3
  have HS := hide hs3
  have HO := hide tab_one
  clear hb1 hb2 hb3 BZ BT hgw hs3
  go_wp2_with (refine wpList_store_row rfl 138 (.tmp 3) (.tmp 4) rfl g tabC rfl rfl 138 #[.int .i64 0, .int .i64 0, .int .i64 0, .int .i64 0, .int .i64 0, .int .i64 0, .int .i64 0, .int .i64 0, .int .i64 0, .int .i64 0, .int .i64 0, .int .i64 0, .int .i64 0, .int .i64 0, .int .i64 0, .int .i64 0, .int .i64 0, .int .i64 0, .int .i64 0, .int .i64 0, .int .i64 0, .int .i64 0] (unhide HZ) sizeTab rfl (unhide HO) ?_)
  all_goals (try go_wp2)
  go_ret
  refine ⟨_, rfl, ?_, ?_⟩
  · exact .inr ⟨_, rfl, Blk.new _ _ _⟩
  · exact (unhide HB).alloc (unhide HS) _
set_option maxHeartbeats 1000000 in
theorem rpf_8 (w : World) : Calls Tryz.prog 43 #[.int .i64 8] w fun e w' => ∃ v, e = .returned v ∧ FR w' v [fNon, fPla] ∧ Below w.heap.size w w' := by
  go_enter Tryz.func43, Tryz.ntmps43
  go_wp2_with fail
  refine (allFields_any _).mono ?_
  rintro e x1 ⟨rfl, hb1⟩
  obtain ⟨g, hg⟩ : ∃ g, x1.heap.size = g := ⟨_, rfl⟩
  obtain ⟨x2, hx2⟩ : ∃ q, x1.alloc (.cells #[.int .i64 0, .int .i64 0, .int .i64 0, .int .i64 0, .int .i64 0, .int .i64 0, .int .i64 0, .int .i64 0, .int .i64 0, .int .i64 0, .int .i64 0, .int .i64 0, .int .i64 0, .int .i64 0, .int .i64 0, .int .i64 0, .int .i64 0, .int .i64 0, .int .i64 0, .int .i64 0, .int .i64 0, .int .i64 0] 138) = q := ⟨_, rfl⟩
  have BZ : Blk x2 g #[.int .i64 0, .int .i64 0, .int .i64 0, .int .i64 0, .int .i64 0, .int .i64 0, .int .i64 0, .int .i64 0, .int .i64 0, .int .i64 0, .int .i64 0, .int .i64 0, .int .i64 0, .int .i64 0, .int .i64 0, .int .i64 0, .int .i64 0, .int .i64 0, .int .i64 0, .int .i64 0, .int .i64 0, .int .i64 0] 138 := by rw [← hx2, ← hg]; exact Blk.new x1 _ _
  have hb2 : Below w.heap.size w x2 := by rw [← hx2]; exact hb1.alloc hb1.size _
  have hgw : w.heap.size ≤ g := by rw [← hg]; exact hb1.size
  have HZ := hide BZ
  have hb3 := below_setRow hb2 hgw tabC
  have BT : Blk (x2.setRow g tabC) g tabC 138 := blk_setRow BZ
  have hs3 : w.heap.size ≤ (x2.setRow g tabC).heap.size := hb3.size
  obtain ⟨c0, c1, c2, c3, c4, c5, c6, c7, c8, c9, c10, c11, c12, c13, c14, c15, c16, c17, c18, c19, c20, c21⟩ := tab_cells BT
  have hpt := part_tab BT
  obtain ⟨x3, hx3⟩ : ∃ q, x2.setRow g tabC = q := ⟨_, rfl⟩
  rw [hx3] at c0 c1 c2 c3 c4 c5 c6 c7 c8 c9 c10 c11 c12 c13 c14 c15 c16 c17 c18 c19 c20 c21 hb3 hs3 hpt
  have HB := hide hb3
  have HS := hide hs3
  have HO := hide tab_one
  clear hb1 hb2 hb3 BZ BT hgw hs3
  go_wp2_with (refine wpList_store_row rfl 138 (.tmp 3) (.tmp 4) rfl g tabC rfl rfl 138 #[.int .i64 0, .int .i64 0, .int .i64 0, .int .i64 0, .int .i64 0, .int .i64 0, .int .i64 0, .int .i64 0, .int .i64 0, .int .i64 0, .int .i64 0, .int .i64 0, .int .i64 0, .int .i64 0, .int .i64 0, .int .i64 0, .int .i64 0, .int .i64 0, .int .i64 0, .int .i64 0, .int .i64 0, .int .i64 0] (unhide HZ) sizeTab rfl (unhide HO) ?_)
  all_goals (try go_wp2)
  go_ret
  refine ⟨_, rfl, ?_, ?_⟩
  · exact .inr ⟨_, rfl, Blk.new _ _ _⟩
  · exact (unhide HB).alloc (unhide HS) _
set_option maxHeartbeats 1000000 in
theorem rpf_11 (w : World) : Calls Tryz.prog 43 #[.int .i64 11] w fun e w' => ∃ v, e = .returned v ∧ FR w' v [fWra, fDat] ∧ Below w.heap.size w w' := by
  go_enter Tryz.func43, Tryz.ntmps43
  go_wp2_with fail
  refine (allFields_any _).mono ?_
  rintro e x1 ⟨rfl, hb1⟩
  obtain ⟨g, hg⟩ : ∃ g, x1.heap.size = g := ⟨_, rfl⟩
  obtain ⟨x2, hx2⟩ : ∃ q, x1.alloc (.cells #[.int .i64 0, .int .i64 0, .int .i64 0, .int .i64 0, .int .i64 0, .int .i64 0, .int .i64 0, .int .i64 0, .int .i64 0, .int .i64 0, .int .i64 0, .int .i64 0, .int .i64 0, .int .i64 0, .int .i64 0, .int .i64 0, .int .i64 0, .int .i64 0, .int .i64 0, .int .i64 0, .int .i64 0, .int .i64 0] 138) = q := ⟨_, rfl⟩
  have BZ : Blk x2 g #[.int .i64 0, .int .i64 0, .int .i64 0, .int .i64 0, .int .i64 0, .int .i64 0, .int .i64 0, .int .i64 0, .int .i64 0, .int .i64 0, .int .i64 0, .int .i64 0, .int .i64 0, .int .i64 0, .int .i64 0, .int .i64 0, .int .i64 0, .int .i64 0, .int .i64 0, .int .i64 0, .int .i64 0, .int .i64 0] 138 := by rw [← hx2, ← hg]; exact Blk.new x1 _ _
  have hb2 : Below w.heap.size w x2 := by rw [← hx2]; exact hb1.alloc hb1.size _
  have hgw : w.heap.size ≤ g := by rw [← hg]; exact hb1.size
  have HZ := hide BZ
  have hb3 := below_setRow hb2 hgw tabC
  have BT : Blk (x2.setRow g tabC) g tabC 138 := blk_setRow BZ
  have hs3 : w.heap.size ≤ (x2.setRow g tabC).heap.size := hb3.size
  obtain ⟨c0, c1, c2, c3, c4, c5, c6, c7, c8, c9, c10, c11, c12, c13, c14, c15, c16, c17, c18, c19, c20, c21⟩ := tab_cells BT
  have hpt := part_tab BT
  obtain ⟨x3, hx3⟩ : ∃ q, x2.setRow g tabC = q := ⟨_, rfl⟩
  rw [hx3] at c0 c1 c2 c3 c4 c5 c6 c7 c8 c9 c10 c11 c12 c13 c14 c15 c16 c17 c18 c19 c20 c21 hb3 hs3 hpt
  have HB := hide hb3
  have HS := hide hs3
  have HO := hide tab_one
  clear hb1 hb2 hb3 BZ BT hgw hs3
  go_wp2_with (refine wpList_store_row rfl 138 (.tmp 3) (.tmp 4) rfl g tabC rfl rfl 138 #[.int .i64 0, .int .i64 0, .int .i64 0, .int .i64 0, .int .i64 0, .int .i64 0, .int .i64 0, .int .i64 0, .int .i64 0, .int .i64 0, .int .i64 0, .int .i64 0, .int .i64 0, .int .i64 0, .int .i64 0, .int .i64 0, .int .i64 0, .int .i64 0, .int .i64 0, .int .i64 0, .int .i64 0, .int .i64 0] (unhide HZ) sizeTab rfl (unhide HO) ?_)
  all_goals (try go_wp2)
  go_ret
  refine ⟨_, rfl, ?_, ?_⟩
  · exact .inr ⟨_, rfl, Blk.new _ _ _⟩
  · exact (unhide HB).alloc (unhide HS) _
set_option maxHeartbeats 1000000 in
theorem rpf_o (k : Int) (h3 : (k == 3) = false) (h6 : (k == 6) = false) (h7 : (k == 7) = false) (h8 : (k == 8) = false) (h11 : (k == 11) = false) (w : World) : Calls Tryz.prog 43 #[.int .i64 k] w fun e w' => ∃ v, e = .returned v ∧ FR w' v [] ∧ Below w.heap.size w w' := by
  go_enter Tryz.func43, Tryz.ntmps43
  go_wp2_with fail
  refine (allFields_any _).mono ?_
  rintro e x1 ⟨rfl, hb1⟩
  obtain ⟨g, hg⟩ : ∃ g, x1.heap.size = g := ⟨_, rfl⟩
  obtain ⟨x2, hx2⟩ : ∃ q, x1.alloc (.cells #[.int .i64 0, .int .i64 0, .int .i64 0, .int .i64 0, .int .i64 0, .int .i64 0, .int .i64 0, .int .i64 0, .int .i64 0, .int .i64 0, .int .i64 0, .int .i64 0, .int .i64 0, .int .i64 0, .int .i64 0, .int .i64 0, .int .i64 0, .int .i64 0, .int .i64 0, .int .i64 0, .int .i64 0, .int .i64 0] 138) = q := ⟨_, rfl⟩
  have BZ : Blk x2 g #[.int .i64 0, .int .i64 0, .int .i64 0, .int .i64 0, .int .i64 0, .int .i64 0, .int .i64 0, .int .i64 0, .int .i64 0, .int .i64 0, .int .i64 0, .int .i64 0, .int .i64 0, .int .i64 0, .int .i64 0, .int .i64 0, .int .i64 0, .int .i64 0, .int .i64 0, .int .i64 0, .int .i64 0, .int .i64 0] 138 := by rw [← hx2, ← hg]; exact Blk.new x1 _ _
  have hb2 : Below w.heap.size w x2 := by rw [← hx2]; exact hb1.alloc hb1.size _
  have hgw : w.heap.size ≤ g := by rw [← hg]; exact hb1.size
  have HZ := hide BZ
  have hb3 := below_setRow hb2 hgw tabC
  have BT : Blk (x2.setRow g tabC) g tabC 138 := blk_setRow BZ
  have hs3 : w.heap.size ≤ (x2.setRow g tabC).heap.size := hb3.size
  obtain ⟨c0, c1, c2, c3, c4, c5, c6, c7, c8, c9, c10, c11, c12, c13, c14, c15, c16, c17, c18, c19, c20, c21⟩ := tab_cells BT
  have hpt := part_tab BT
  obtain ⟨x3, hx3⟩ : ∃ q, x2.setRow g tabC = q := ⟨_, rfl⟩
  rw [hx3] at c0 c1 c2 c3 c4 c5 c6 c7 c8 c9 c10 c11 c12 c13 c14 c15 c16 c17 c18 c19 c20 c21 hb3 hs3 hpt
  have HB := hide hb3
  have HS := hide hs3
  have HO := hide tab_one
  clear hb1 hb2 hb3 BZ BT hgw hs3
  go_wp2_with (refine wpList_store_row rfl 138 (.tmp 3) (.tmp 4) rfl g tabC rfl rfl 138 #[.int .i64 0, .int .i64 0, .int .i64 0, .int .i64 0, .int .i64 0, .int .i64 0, .int .i64 0, .int .i64 0, .int .i64 0, .int .i64 0, .int .i64 0, .int .i64 0, .int .i64 0, .int .i64 0, .int .i64 0, .int .i64 0, .int .i64 0, .int .i64 0, .int .i64 0, .int .i64 0, .int .i64 0, .int .i64 0] (unhide HZ) sizeTab rfl (unhide HO) ?_)
  all_goals (try go_wp2)
  go_ret
  refine ⟨_, rfl, ?_, ?_⟩
  · exact .inl ⟨rfl, rfl⟩
  · exact unhide HB
theorem rpf_any (k : Int) (w : World) : Calls Tryz.prog 43 #[.int .i64 k] w fun e w' => ∃ v, e = .returned v ∧ FR w' v (rpF k) ∧ Below w.heap.size w w' := by
  by_cases h3 : k = 3
  · subst h3; exact rpf_3 w
  by_cases h6 : k = 6
  · subst h6; exact rpf_6 w
  by_cases h7 : k = 7
  · subst h7; exact rpf_7 w
  by_cases h8 : k = 8
  · subst h8; exact rpf_8 w
  by_cases h11 : k = 11
  · subst h11; exact rpf_11 w
  have e : rpF k = [] := by unfold rpF; simp [h3, h6, h7, h8, h11]
  rw [e]
  exact rpf_o k (by simpa using h3) (by simpa using h6) (by simpa using h7) (by simpa using h8) (by simpa using h11) w
set_option maxHeartbeats 1000000 in
theorem rqf_1 (w : World) : Calls Tryz.prog 41 #[.int .i64 1] w fun e w' => ∃ v, e = .returned v ∧ FR w' v [fTen, fQuo] ∧ Below w.heap.size w w' := by
  go_enter Tryz.func41, Tryz.ntmps41
  go_wp2_with fail
  refine (allFields_any _).mono ?_
  rintro e x1 ⟨rfl, hb1⟩
  obtain ⟨g, hg⟩ : ∃ g, x1.heap.size = g := ⟨_, rfl⟩
  obtain ⟨x2, hx2⟩ : ∃ q, x1.alloc (.cells #[.int .i64 0, .int .i64 0, .int .i64 0, .int .i64 0, .int .i64 0, .int .i64 0, .int .i64 0, .int .i64 0, .int .i64 0, .int .i64 0, .int .i64 0, .int .i64 0, .int .i64 0, .int .i64 0, .int .i64 0, .int .i64 0, .int .i64 0, .int .i64 0, .int .i64 0, .int .i64 0, .int .i64 0, .int .i64 0] 138) = q := ⟨_, rfl⟩
  have BZ : Blk x2 g #[.int .i64 0, .int .i64 0, .int .i64 0, .int .i64 0, .int .i64 0, .int .i64 0, .int .i64 0, .int .i64 0, .int .i64 0, .int .i64 0, .int .i64 0, .int .i64 0, .int .i64 0, .int .i64 0, .int .i64 0, .int .i64 0, .int .i64 0, .int .i64 0, .int .i64 0, .int .i64 0, .int .i64 0, .int .i64 0] 138 := by rw [← hx2, ← hg]; exact Blk.new x1 _ _
  have hb2 : Below w.heap.size w x2 := by rw [← hx2]; exact hb1.alloc hb1.size _
  have hgw : w.heap.size ≤ g := by rw [← hg]; exact hb1.size
  have HZ := hide BZ
  have hb3 := below_setRow hb2 hgw tabC
  have BT : Blk (x2.setRow g tabC) g tabC 138 := blk_setRow BZ
  have hs3 : w.heap.size ≤ (x2.setRow g tabC).heap.size := hb3.size
  obtain ⟨c0, c1, c2, c3, c4, c5, c6, c7, c8, c9, c10, c11, c12, c13, c14, c15, c16, c17, c18, c19, c20, c21⟩ := tab_cells BT
  have hpt := part_tab BT
  obtain ⟨x3, hx3⟩ : ∃ q, x2.setRow g tabC = q := ⟨_, rfl⟩
  rw [hx3] at c0 c1 c2 c3 c4 c5 c6 c7 c8 c9 c10 c11 c12 c13 c14 c15 c16 c17 c18 c19 c20 c21 hb3 hs3 hpt
  have HB := hide hb3
  have HS := hide hs3
  have HO := hide tab_one
  clear hb1 hb2 hb3 BZ BT hgw hs3
  go_wp2_with (refine wpList_store_row rfl 138 (.tmp 3) (.tmp 4) rfl g tabC rfl rfl 138 #[.int .i64 0, .int .i64 0, .int .i64 0, .int .i64 0, .int .i64 0, .int .i64 0, .int .i64 0, .int .i64 0, .int .i64 0, .int .i64 0, .int .i64 0, .int .i64 0, .int .i64 0, .int .i64 0, .int .i64 0, .int .i64 0, .int .i64 0, .int .i64 0, .int .i64 0, .int .i64 0, .int .i64 0, .int .i64 0] (unhide HZ) sizeTab rfl (unhide HO) ?_)
  all_goals (try go_wp2)
  go_ret
  refine ⟨_, rfl, ?_, ?_⟩
  · exact .inr ⟨_, rfl, Blk.new _ _ _⟩
  · exact (unhide HB).alloc (unhide HS) _
set_option maxHeartbeats 1000000 in
theorem rqf_2 (w : World) : Calls Tryz.prog 41 #[.int .i64 2] w fun e w' => ∃ v, e = .returned v ∧ FR w' v [fTen] ∧ Below w.heap.size w w' := by
  go_enter Tryz.func41, Tryz.ntmps41
  go_wp2_with fail
  refine (allFields_any _).mono ?_
  rintro e x1 ⟨rfl, hb1⟩
  obtain ⟨g, hg⟩ : ∃ g, x1.heap.size = g := ⟨_, rfl⟩
  obtain ⟨x2, hx2⟩ : ∃ q, x1.alloc (.cells #[.int .i64 0, .int .i64 0, .int .i64 0, .int .i64 0, .int .i64 0, .int .i64 0, .int .i64 0, .int .i64 0, .int .i64 0, .int .i64 0, .int .i64 0, .int .i64 0, .int .i64 0, .int .i64 0, .int .i64 0, .int .i64 0, .int .i64 0, .int .i64 0, .int .i64 0, .int .i64 0, .int .i64 0, .int .i64 0] 138) = q := ⟨_, rfl⟩
  have BZ : Blk x2 g #[.int .i64 0, .int .i64 0, .int .i64 0, .int .i64 0, .int .i64 0, .int .i64 0, .int .i64 0, .int .i64 0, .int .i64 0, .int .i64 0, .int .i64 0, .int .i64 0, .int .i64 0, .int .i64 0, .int .i64 0, .int .i64 0, .int .i64 0, .int .i64 0, .int .i64 0, .int .i64 0, .int .i64 0, .int .i64 0] 138 := by rw [← hx2, ← hg]; exact Blk.new x1 _ _
  have hb2 : Below w.heap.size w x2 := by rw [← hx2]; exact hb1.alloc hb1.size _
  have hgw : w.heap.size ≤ g := by rw [← hg]; exact hb1.size
  have HZ := hide BZ
  have hb3 := below_setRow hb2 hgw tabC
  have BT : Blk (x2.setRow g tabC) g tabC 138 := blk_setRow BZ
  have hs3 : w.heap.size ≤ (x2.setRow g tabC).heap.size := hb3.size
  obtain ⟨c0, c1, c2, c3, c4, c5, c6, c7, c8, c9, c10, c11, c12, c13, c14, c15, c16, c17, c18, c19, c20, c21⟩ := tab_cells BT
  have hpt := part_tab BT
  obtain ⟨x3, hx3⟩ : ∃ q, x2.setRow g tabC = q := ⟨_, rfl⟩
  rw [hx3] at c0 c1 c2 c3 c4 c5 c6 c7 c8 c9 c10 c11 c12 c13 c14 c15 c16 c17 c18 c19 c20 c21 hb3 hs3 hpt
  have HB := hide hb3
  have HS := hide hs3
  have HO := hide tab_one
  clear hb1 hb2 hb3 BZ BT hgw hs3
  go_wp2_with (refine wpList_store_row rfl 138 (.tmp 3) (.tmp 4) rfl g tabC rfl rfl 138 #[.int .i64 0, .int .i64 0, .int .i64 0, .int .i64 0, .int .i64 0, .int .i64 0, .int .i64 0, .int .i64 0, .int .i64 0, .int .i64 0, .int .i64 0, .int .i64 0, .int .i64 0, .int .i64 0, .int .i64 0, .int .i64 0, .int .i64 0, .int .i64 0, .int .i64 0, .int .i64 0, .int .i64 0, .int .i64 0] (unhide HZ) sizeTab rfl (unhide HO) ?_)
  all_goals (try go_wp2)
  go_ret
  refine ⟨_, rfl, ?_, ?_⟩
  · exact .inr ⟨_, rfl, Blk.new _ _ _⟩
  · exact (unhide HB).alloc (unhide HS) _
set_option maxHeartbeats 1000000 in
theorem rqf_3 (w : World) : Calls Tryz.prog 41 #[.int .i64 3] w fun e w' => ∃ v, e = .returned v ∧ FR w' v [fTen] ∧ Below w.heap.size w w' := by
  go_enter Tryz.func41, Tryz.ntmps41
  go_wp2_with fail
  refine (allFields_any _).mono ?_
  rintro e x1 ⟨rfl, hb1⟩
  obtain ⟨g, hg⟩ : ∃ g, x1.heap.size = g := ⟨_, rfl⟩
  obtain ⟨x2, hx2⟩ : ∃ q, x1.alloc (.cells #[.int .i64 0, .int .i64 0, .int .i64 0, .int .i64 0, .int .i64 0, .int .i64 0, .int .i64 0, .int .i64 0, .int .i64 0, .int .i64 0, .int .i64 0, .int .i64 0, .int .i64 0, .int .i64 0, .int .i64 0, .int .i64 0, .int .i64 0, .int .i64 0, .int .i64 0, .int .i64 0, .int .i64 0, .int .i64 0] 138) = q := ⟨_, rfl⟩
  have BZ : Blk x2 g #[.int .i64 0, .int .i64 0, .int .i64 0, .int .i64 0, .int .i64 0, .int .i64 0, .int .i64 0, .int .i64 0, .int .i64 0, .int .i64 0, .int .i64 0, .int .i64 0, .int .i64 0, .int .i64 0, .int .i64 0, .int .i64 0, .int .i64 0, .int .i64 0, .int .i64 0, .int .i64 0, .int .i64 0, .int .i64 0] 138 := by rw [← hx2, ← hg]; exact Blk.new x1 _ _
  have hb2 : Below w.heap.size w x2 := by rw [← hx2]; exact hb1.alloc hb1.size _
  have hgw : w.heap.size ≤ g := by rw [← hg]; exact hb1.size
  have HZ := hide BZ
  have hb3 := below_setRow hb2 hgw tabC
  have BT : Blk (x2.setRow g tabC) g tabC 138 := blk_setRow BZ
  have hs3 : w.heap.size ≤ (x2.setRow g tabC).heap.size := hb3.size
  obtain ⟨c0, c1, c2, c3, c4, c5, c6, c7, c8, c9, c10, c11, c12, c13, c14, c15, c16, c17, c18, c19, c20, c21⟩ := tab_cells BT
  have hpt := part_tab BT
  obtain ⟨x3, hx3⟩ : ∃ q, x2.setRow g tabC = q := ⟨_, rfl⟩
  rw [hx3] at c0 c1 c2 c3 c4 c5 c6 c7 c8 c9 c10 c11 c12 c13 c14 c15 c16 c17 c18 c19 c20 c21 hb3 hs3 hpt
  have HB := hide hb3
  have HS := hide hs3
  have HO := hide tab_one
  clear hb1 hb2 hb3 BZ BT hgw hs3
  go_wp2_with (refine wpList_store_row rfl 138 (.tmp 3) (.tmp 4) rfl g tabC rfl rfl 138 #[.int .i64 0, .int .i64 0, .int .i64 0, .int .i64 0, .int .i64 0, .int .i64 0, .int .i64 0, .int .i64 0, .int .i64 0, .int .i64 0, .int .i64 0, .int .i64 0, .int .i64 0, .int .i64 0, .int .i64 0, .int .i64 0, .int .i64 0, .int .i64 0, .int .i64 0, .int .i64 0, .int .i64 0, .int .i64 0] (unhide HZ) sizeTab rfl (unhide HO) ?_)
  all_goals (try go_wp2)
  go_ret
  refine ⟨_, rfl, ?_, ?_⟩
  · exact .inr ⟨_, rfl, Blk.new _ _ _⟩
  · exact (unhide HB).alloc (unhide HS) _
set_option maxHeartbeats 1000000 in
theorem rqf_4 (w : World) : Calls Tryz.prog 41 #[.int .i64 4] w fun e w' => ∃ v, e = .returned v ∧ FR w' v [fVol] ∧ Below w.heap.size w w' := by
  go_enter Tryz.func41, Tryz.ntmps41
  go_wp2_with fail
  refine (allFields_any _).mono ?_
  rintro e x1 ⟨rfl, hb1⟩
  obtain ⟨g, hg⟩ : ∃ g, x1.heap.size = g := ⟨_, rfl⟩
  obtain ⟨x2, hx2⟩ : ∃ q, x1.alloc (.cells #[.int .i64 0, .int .i64 0, .int .i64 0, .int .i64 0, .int .i64 0, .int .i64 0, .int .i64 0, .int .i64 0, .int .i64 0, .int .i64 0, .int .i64 0, .int .i64 0, .int .i64 0, .int .i64 0, .int .i64 0, .int .i64 0, .int .i64 0, .int .i64 0, .int .i64 0, .int .i64 0, .int .i64 0, .int .i64 0] 138) = q := ⟨_, rfl⟩
  have BZ : Blk x2 g #[.int .i64 0, .int .i64 0, .int .i64 0, .int .i64 0, .int .i64 0, .int .i64 0, .int .i64 0, .int .i64 0, .int .i64 0, .int .i64 0, .int .i64 0, .int .i64 0, .int .i64 0, .int .i64 0, .int .i64 0, .int .i64 0, .int .i64 0, .int .i64 0, .int .i64 0, .int .i64 0, .int .i64 0, .int .i64 0] 138 := by rw [← hx2, ← hg]; exact Blk.new x1 _ _
  have hb2 : Below w.heap.size w x2 := by rw [← hx2]; exact hb1.alloc hb1.size _
  have hgw : w.heap.size ≤ g := by rw [← hg]; exact hb1.size
  have HZ := hide BZ
  have hb3 := below_setRow hb2 hgw tabC
  have BT : Blk (x2.setRow g tabC) g tabC 138 := blk_setRow BZ
  have hs3 : w.heap.size ≤ (x2.setRow g tabC).heap.size := hb3.size
  obtain ⟨c0, c1, c2, c3, c4, c5, c6, c7, c8, c9, c10, c11, c12, c13, c14, c15, c16, c17, c18, c19, c20, c21⟩ := tab_cells BT
  have hpt := part_tab BT
  obtain ⟨x3, hx3⟩ : ∃ q, x2.setRow g tabC = q := ⟨_, rfl⟩
  rw [hx3] at c0 c1 c2 c3 c4 c5 c6 c7 c8 c9 c10 c11 c12 c13 c14 c15 c16 c17 c18 c19 c20 c21 hb3 hs3 hpt
  have HB := hide hb3
  have HS := hide hs3
  have HO := hide tab_one
  clear hb1 hb2 hb3 BZ BT hgw hs3
  go_wp2_with (refine wpList_store_row rfl 138 (.tmp 3) (.tmp 4) rfl g tabC rfl rfl 138 #[.int .i64 0, .int .i64 0, .int .i64 0, .int .i64 0, .int .i64 0, .int .i64 0, .int .i64 0, .int .i64 0, .int .i64 0, .int .i64 0, .int .i64 0, .int .i64 0, .int .i64 0, .int .i64 0, .int .i64 0, .int .i64 0, .int .i64 0, .int .i64 0, .int .i64 0, .int .i64 0, .int .i64 0, .int .i64 0] (unhide HZ) sizeTab rfl (unhide HO) ?_)
  all_goals (try go_wp2)
  go_ret
  refine ⟨_, rfl, ?_, ?_⟩
  · exact .inr ⟨_, rfl, Blk.new _ _ _⟩
  · exact (unhide HB).alloc (unhide HS) _
set_option maxHeartbeats 1000000 in
theorem rqf_5 (w : World) : Calls Tryz.prog 41 #[.int .i64 5] w fun e w' => ∃ v, e = .returned v ∧ FR w' v [fVol] ∧ Below w.heap.size w w' := by
  go_enter Tryz.func41, Tryz.ntmps41
  go_wp2_with fail
  refine (allFields_any _).mono ?_
  rintro e x1 ⟨rfl, hb1⟩
  obtain ⟨g, hg⟩ : ∃ g, x1.heap.size = g := ⟨_, rfl⟩
  obtain ⟨x2, hx2⟩ : ∃ q, x1.alloc (.cells #[.int .i64 0, .int .i64 0, .int .i64 0, .int .i64 0, .int .i64 0, .int .i64 0, .int .i64 0, .int .i64 0, .int .i64 0, .int .i64 0, .int .i64 0, .int .i64 0, .int .i64 0, .int .i64 0, .int .i64 0, .int .i64 0, .int .i64 0, .int .i64 0, .int .i64 0, .int .i64 0, .int .i64 0, .int .i64 0] 138) = q := ⟨_, rfl⟩
  have BZ : Blk x2 g #[.int .i64 0, .int .i64 0, .int .i64 0, .int .i64 0, .int .i64 0, .int .i64 0, .int .i64 0, .int .i64 0, .int .i64 0, .int .i64 0, .int .i64 0, .int .i64 0, .int .i64 0, .int .i64 0, .int .i64 0, .int .i64 0, .int .i64 0, .int .i64 0, .int .i64 0, .int .i64 0, .int .i64 0, .int .i64 0] 138 := by rw [← hx2, ← hg]; exact Blk.new x1 _ _
  have hb2 : Below w.heap.size w x2 := by rw [← hx2]; exact hb1.alloc hb1.size _
  have hgw : w.heap.size ≤ g := by rw [← hg]; exact hb1.size
  have HZ := hide BZ
  have hb3 := below_setRow hb2 hgw tabC
  have BT : Blk (x2.setRow g tabC) g tabC 138 := blk_setRow BZ
  have hs3 : w.heap.size ≤ (x2.setRow g tabC).heap.size := hb3.size
  obtain ⟨c0, c1, c2, c3, c4, c5, c6, c7, c8, c9, c10, c11, c12, c13, c14, c15, c16, c17, c18, c19, c20, c21⟩ := tab_cells BT
  have hpt := part_tab BT
  obtain ⟨x3, hx3⟩ : ∃ q, x2.setRow g tabC = q := ⟨_, rfl⟩
  rw [hx3] at c0 c1 c2 c3 c4 c5 c6 c7 c8 c9 c10 c11 c12 c13 c14 c15 c16 c17 c18 c19 c20 c21 hb3 hs3 hpt
  have HB := hide hb3
  have HS := hide hs3
  have HO := hide tab_one
  clear hb1 hb2 hb3 BZ BT hgw hs3
  go_wp2_with (refine wpList_store_row rfl 138 (.tmp 3) (.tmp 4) rfl g tabC rfl rfl 138 #[.int .i64 0, .int .i64 0, .int .i64 0, .int .i64 0, .int .i64 0, .int .i64 0, .int .i64 0, .int .i64 0, .int .i64 0, .int .i64 0, .int .i64 0, .int .i64 0, .int .i64 0, .int .i64 0, .int .i64 0, .int .i64 0, .int .i64 0, .int .i64 0, .int .i64 0, .int .i64 0, .int .i64 0, .int .i64 0] (unhide HZ) sizeTab rfl (unhide HO) ?_)
  all_goals (try go_wp2)
  go_ret
  refine ⟨_, rfl, ?_, ?_⟩
  · exact .inr ⟨_, rfl, Blk.new _ _ _⟩
  · exact (unhide HB).alloc (unhide HS) _
set_option maxHeartbeats 1000000 in
theorem rqf_8 (w : World) : Calls Tryz.prog 41 #[.int .i64 8] w fun e w' => ∃ v, e = .returned v ∧ FR w' v [fVol, fBlo, fDig, fWra] ∧ Below w.heap.size w w' := by
  go_enter Tryz.func41, Tryz.ntmps41
  go_wp2_with fail
  refine (allFields_any _).mono ?_
  rintro e x1 ⟨rfl, hb1⟩
  obtain ⟨g, hg⟩ : ∃ g, x1.heap.size = g := ⟨_, rfl⟩
  obtain ⟨x2, hx2⟩ : ∃ q, x1.alloc (.cells #[.int .i64 0, .int .i64 0, .int .i64 0, .int .i64 0, .int .i64 0, .int .i64 0, .int .i64 0, .int .i64 0, .int .i64 0, .int .i64 0, .int .i64 0, .int .i64 0, .int .i64 0, .int .i64 0, .int .i64 0, .int .i64 0, .int .i64 0, .int .i64 0, .int .i64 0, .int .i64 0, .int .i64 0, .int .i64 0] 138) = q := ⟨_, rfl⟩
  have BZ : Blk x2 g #[.int .i64 0, .int .i64 0, .int .i64 0, .int .i64 0, .int .i64 0, .int .i64 0, .int .i64 0, .int .i64 0, .int .i64 0, .int .i64 0, .int .i64 0, .int .i64 0, .int .i64 0, .int .i64 0, .int .i64 0, .int .i64 0, .int .i64 0, .int .i64 0, .int .i64 0, .int .i64 0, .int .i64 0, .int .i64 0] 138 := by rw [← hx2, ← hg]; exact Blk.new x1 _ _
  have hb2 : Below w.heap.size w x2 := by rw [← hx2]; exact hb1.alloc hb1.size _
  have hgw : w.heap.size ≤ g := by rw [← hg]; exact hb1.size
  have HZ := hide BZ
  have hb3 := below_setRow hb2 hgw tabC
  have BT : Blk (x2.setRow g tabC) g tabC 138 := blk_setRow BZ
  have hs3 : w.heap.size ≤ (x2.setRow g tabC).heap.size := hb3.size
  obtain ⟨c0, c1, c2, c3, c4, c5, c6, c7, c8, c9, c10, c11, c12, c13, c14, c15, c16, c17, c18, c19, c20, c21⟩ := tab_cells BT
  have hpt := part_tab BT
  obtain ⟨x3, hx3⟩ : ∃ q, x2.setRow g tabC = q := ⟨_, rfl⟩
  rw [hx3] at c0 c1 c2 c3 c4 c5 c6 c7 c8 c9 c10 c11 c12 c13 c14 c15 c16 c17 c18 c19 c20 c21 hb3 hs3 hpt
  have HB := hide hb3
  have HS := hide hs3
  have HO := hide tab_one
  clear hb1 hb2 hb3 BZ BT hgw hs3
  go_wp2_with (refine wpList_store_row rfl 138 (.tmp 3) (.tmp 4) rfl g tabC rfl rfl 138 #[.int .i64 0, .int .i64 0, .int .i64 0, .int .i64 0, .int .i64 0, .int .i64 0, .int .i64 0, .int .i64 0, .int .i64 0, .int .i64 0, .int .i64 0, .int .i64 0, .int .i64 0, .int .i64 0, .int .i64 0, .int .i64 0, .int .i64 0, .int .i64 0, .int .i64 0, .int .i64 0, .int .i64 0, .int .i64 0] (unhide HZ) sizeTab rfl (unhide HO) ?_)
  all_goals (try go_wp2)
  go_ret
  refine ⟨_, rfl, ?_, ?_⟩
  · exact .inr ⟨_, rfl, Blk.new _ _ _⟩
  · exact (unhide HB).alloc (unhide HS) _
set_option maxHeartbeats 1000000 in
theorem rqf_9 (w : World) : Calls Tryz.prog 41 #[.int .i64 9] w fun e w' => ∃ v, e = .returned v ∧ FR w' v [fNon, fSam] ∧ Below w.heap.size w w' := by
  go_enter Tryz.func41, Tryz.ntmps41
  go_wp2_with fail
  refine (allFields_any _).mono ?_
  rintro e x1 ⟨rfl, hb1⟩
  obtain ⟨g, hg⟩ : ∃ g, x1.heap.size = g := ⟨_, rfl⟩
  obtain ⟨x2, hx2⟩ : ∃ q, x1.alloc (.cells #[.int .i64 0, .int .i64 0, .int .i64 0, .int .i64 0, .int .i64 0, .int .i64 0, .int .i64 0, .int .i64 0, .int .i64 0, .int .i64 0, .int .i64 0, .int .i64 0, .int .i64 0, .int .i64 0, .int .i64 0, .int .i64 0, .int .i64 0, .int .i64 0, .int .i64 0, .int .i64 0, .int .i64 0, .int .i64 0] 138) = q := ⟨_, rfl⟩
  have BZ : Blk x2 g #[.int .i64 0, .int .i64 0, .int .i64 0, .int .i64 0, .int .i64 0, .int .i64 0, .int .i64 0, .int .i64 0, .int .i64 0, .int .i64 0, .int .i64 0, .int .i64 0, .int .i64 0, .int .i64 0, .int .i64 0, .int .i64 0, .int .i64 0, .int .i64 0, .int .i64 0, .int .i64 0, .int .i64 0, .int .i64 0] 138 := by rw [← hx2, ← hg]; exact Blk.new x1 _ _
  have hb2 : Below w.heap.size w x2 := by rw [← hx2]; exact hb1.alloc hb1.size _
  have hgw : w.heap.size ≤ g := by rw [← hg]; exact hb1.size
  have HZ := hide BZ
  have hb3 := below_setRow hb2 hgw tabC
  have BT : Blk (x2.setRow g tabC) g tabC 138 := blk_setRow BZ
  have hs3 : w.heap.size ≤ (x2.setRow g tabC).heap.size := hb3.size
  obtain ⟨c0, c1, c2, c3, c4, c5, c6, c7, c8, c9, c10, c11, c12, c13, c14, c15, c16, c17, c18, c19, c20, c21⟩ := tab_cells BT
  have hpt := part_tab BT
  obtain ⟨x3, hx3⟩ : ∃ q, x2.setRow g tabC = q := ⟨_, rfl⟩
  rw [hx3] at c0 c1 c2 c3 c4 c5 c6 c7 c8 c9 c10 c11 c12 c13 c14 c15 c16 c17 c18 c19 c20 c21 hb3 hs3 hpt
  have HB := hide hb3
  have HS := hide hs3
  have HO := hide tab_one
  clear hb1 hb2 hb3 BZ BT hgw hs3
  go_wp2_with (refine wpList_store_row rfl 138 (.tmp 3) (.tmp 4) rfl g tabC rfl rfl 138 #[.int .i64 0, .int .i64 0, .int .i64 0, .int .i64 0, .int .i64 0, .int .i64 0, .int .i64 0, .int .i64 0, .int .i64 0, .int .i64 0, .int .i64 0, .int .i64 0, .int .i64 0, .int .i64 0, .int .i64 0, .int .i64 0, .int .i64 0, .int .i64 0, .int .i64 0, .int .i64 0, .int .i64 0, .int .i64 0] (unhide HZ) sizeTab rfl (unhide HO) ?_)
  all_goals (try go_wp2)
  go_ret
  refine ⟨_, rfl, ?_, ?_⟩
  · exact .inr ⟨_, rfl, Blk.new _ _ _⟩
  · exact (unhide HB).alloc (unhide HS) _
set_option maxHeartbeats 1000000 in
theorem rqf_10 (w : World) : Calls Tryz.prog 41 #[.int .i64 10] w fun e w' => ∃ v, e = .returned v ∧ FR w' v [fVol, fBlo, fWra, fDat] ∧ Below w.heap.size w w' := by
  go_enter Tryz.func41, Tryz.ntmps41
  go_wp2_with fail
  refine (allFields_any _).mono ?_
  rintro e x1 ⟨rfl, hb1⟩
  obtain ⟨g, hg⟩ : ∃ g, x1.heap.size = g := ⟨_, rfl⟩
  obtain ⟨x2, hx2⟩ : ∃ q, x1.alloc (.cells #[.int .i64 0, .int .i64 0, .int .i64 0, .int .i64 0, .int .i64 0, .int .i64 0, .int .i64 0, .int .i64 0, .int .i64 0, .int .i64 0, .int .i64 0, .int .i64 0, .int .i64 0, .int .i64 0, .int .i64 0, .int .i64 0, .int .i64 0, .int .i64 0, .int .i64 0, .int .i64 0, .int .i64 0, .int .i64 0] 138) = q := ⟨_, rfl⟩
  have BZ : Blk x2 g #[.int .i64 0, .int .i64 0, .int .i64 0, .int .i64 0, .int .i64 0, .int .i64 0, .int .i64 0, .int .i64 0, .int .i64 0, .int .i64 0, .int .i64 0, .int .i64 0, .int .i64 0, .int .i64 0, .int .i64 0, .int .i64 0, .int .i64 0, .int .i64 0, .int .i64 0, .int .i64 0, .int .i64 0, .int .i64 0] 138 := by rw [← hx2, ← hg]; exact Blk.new x1 _ _
  have hb2 : Below w.heap.size w x2 := by rw [← hx2]; exact hb1.alloc hb1.size _
  have hgw : w.heap.size ≤ g := by rw [← hg]; exact hb1.size
  have HZ := hide BZ
  have hb3 := below_setRow hb2 hgw tabC
  have BT : Blk (x2.setRow g tabC) g tabC 138 := blk_setRow BZ
  have hs3 : w.heap.size ≤ (x2.setRow g tabC).heap.size := hb3.size
  obtain ⟨c0, c1, c2, c3, c4, c5, c6, c7, c8, c9, c10, c11, c12, c13, c14, c15, c16, c17, c18, c19, c20, c21⟩ := tab_cells BT
  have hpt := part_tab BT
  obtain ⟨x3, hx3⟩ : ∃ q, x2.setRow g tabC = q := ⟨_, rfl⟩
  rw [hx3] at c0 c1 c2 c3 c4 c5 c6 c7 c8 c9 c10 c11 c12 c13 c14 c15 c16 c17 c18 c19 c20 c21 hb3 hs3 hpt
  have HB := hide hb3
  have HS := hide hs3
  have HO := hide tab_one
  clear hb1 hb2 hb3 BZ BT hgw hs3
  go_wp2_with (refine wpList_store_row rfl 138 (.tmp 3) (.tmp 4) rfl g tabC rfl rfl 138 #[.int .i64 0, .int .i64 0, .int .i64 0, .int .i64 0, .int .i64 0, .int .i64 0, .int .i64 0, .int .i64 0, .int .i64 0, .int .i64 0, .int .i64 0, .int .i64 0, .int .i64 0, .int .i64 0, .int .i64 0, .int .i64 0, .int .i64 0, .int .i64 0, .int .i64 0, .int .i64 0, .int .i64 0, .int .i64 0] (unhide HZ) sizeTab rfl (unhide HO) ?_)
  all_goals (try go_wp2)
  go_ret
  refine ⟨_, rfl, ?_, ?_⟩
  · exact .inr ⟨_, rfl, Blk.new _ _ _⟩
  · exact (unhide HB).alloc (unhide HS) _
set_option maxHeartbeats 1000000 in
theorem rqf_11 (w : World) : Calls Tryz.prog 41 #[.int .i64 11] w fun e w' => ∃ v, e = .returned v ∧ FR w' v [fVol, fBlo] ∧ Below w.heap.size w w' := by
  go_enter Tryz.func41, Tryz.ntmps41
  go_wp2_with fail
  refine (allFields_any _).mono ?_
  rintro e x1 ⟨rfl, hb1⟩
  obtain ⟨g, hg⟩ : ∃ g, x1.heap.size = g := ⟨_, rfl⟩
  obtain ⟨x2, hx2⟩ : ∃ q, x1.alloc (.cells #[.int .i64 0, .int .i64 0, .int .i64 0, .int .i64 0, .int .i64 0, .int .i64 0, .int .i64 0, .int .i64 0, .int .i64 0, .int .i64 0, .int .i64 0, .int .i64 0, .int .i64 0, .int .i64 0, .int .i64 0, .int .i64 0, .int .i64 0, .int .i64 0, .int .i64 0, .int .i64 0, .int .i64 0, .int .i64 0] 138) = q := ⟨_, rfl⟩
  have BZ : Blk x2 g #[.int .i64 0, .int .i64 0, .int .i64 0, .int .i64 0, .int .i64 0, .int .i64 0, .int .i64 0, .int .i64 0, .int .i64 0, .int .i64 0, .int .i64 0, .int .i64 0, .int .i64 0, .int .i64 0, .int .i64 0, .int .i64 0, .int .i64 0, .int .i64 0, .int .i64 0, .int .i64 0, .int .i64 0, .int .i64 0] 138 := by rw [← hx2, ← hg]; exact Blk.new x1 _ _
  have hb2 : Below w.heap.size w x2 := by rw [← hx2]; exact hb1.alloc hb1.size _
  have hgw : w.heap.size ≤ g := by rw [← hg]; exact hb1.size
  have HZ := hide BZ
  have hb3 := below_setRow hb2 hgw tabC
  have BT : Blk (x2.setRow g tabC) g tabC 138 := blk_setRow BZ
  have hs3 : w.heap.size ≤ (x2.setRow g tabC).heap.size := hb3.size
  obtain ⟨c0, c1, c2, c3, c4, c5, c6, c7, c8, c9, c10, c11, c12, c13, c14, c15, c16, c17, c18, c19, c20, c21⟩ := tab_cells BT
  have hpt := part_tab BT
  obtain ⟨x3, hx3⟩ : ∃ q, x2.setRow g tabC = q := ⟨_, rfl⟩
  rw [hx3] at c0 c1 c2 c3 c4 c5 c6 c7 c8 c9 c10 c11 c12 c13 c14 c15 c16 c17 c18 c19 c20 c21 hb3 hs3 hpt
  have HB := hide hb3
  have HS := hide hs3
  have HO := hide tab_one
  clear hb1 hb2 hb3 BZ BT hgw hs3
  go_wp2_with (refine wpList_store_row rfl 138 (.tmp 3) (.tmp 4) rfl g tabC rfl rfl 138 #[.int .i64 0, .int .i64 0, .int .i64 0, .int .i64 0, .int .i64 0, .int .i64 0, .int .i64 0, .int .i64 0, .int .i64 0, .int .i64 0, .int .i64 0, .int .i64 0, .int .i64 0, .int .i64 0, .int .i64 0, .int .i64 0, .int .i64 0, .int .i64 0, .int .i64 0, .int .i64 0, .int .i64 0, .int .i64 0] (unhide HZ) sizeTab rfl (unhide HO) ?_)
  all_goals (try go_wp2)
  go_ret
  refine ⟨_, rfl, ?_, ?_⟩
  · exact .inr ⟨_, rfl, Blk.new _ _ _⟩
  · exact (unhide HB).alloc (unhide HS) _
set_option maxHeartbeats 1000000 in
theorem rqf_12 (w : World) : Calls Tryz.prog 41 #[.int .i64 12] w fun e w' => ∃ v, e = .returned v ∧ FR w' v [fVol, fBlo] ∧ Below w.heap.size w w' := by
  go_enter Tryz.func41, Tryz.ntmps41
  go_wp2_with fail
  refine (allFields_any _).mono ?_
  rintro e x1 ⟨rfl, hb1⟩
  obtain ⟨g, hg⟩ : ∃ g, x1.heap.size = g := ⟨_, rfl⟩
  obtain ⟨x2, hx2⟩ : ∃ q, x1.alloc (.cells #[.int .i64 0, .int .i64 0, .int .i64 0, .int .i64 0, .int .i64 0, .int .i64 0, .int .i64 0, .int .i64 0, .int .i64 0, .int .i64 0, .int .i64 0, .int .i64 0, .int .i64 0, .int .i64 0, .int .i64 0, .int .i64 0, .int .i64 0, .int .i64 0, .int .i64 0, .int .i64 0, .int .i64 0, .int .i64 0] 138) = q := ⟨_, rfl⟩
  have BZ : Blk x2 g #[.int .i64 0, .int .i64 0, .int .i64 0, .int .i64 0, .int .i64 0, .int .i64 0, .int .i64 0, .int .i64 0, .int .i64 0, .int .i64 0, .int .i64 0, .int .i64 0, .int .i64 0, .int .i64 0, .int .i64 0, .int .i64 0, .int .i64 0, .int .i64 0, .int .i64 0, .int .i64 0, .int .i64 0, .int .i64 0] 138 := by rw [← hx2, ← hg]; exact Blk.new x1 _ _
  have hb2 : Below w.heap.size w x2 := by rw [← hx2]; exact hb1.alloc hb1.size _
  have hgw : w.heap.size ≤ g := by rw [← hg]; exact hb1.size
  have HZ := hide BZ
  have hb3 := below_setRow hb2 hgw tabC
  have BT : Blk (x2.setRow g tabC) g tabC 138 := blk_setRow BZ
  have hs3 : w.heap.size ≤ (x2.setRow g tabC).heap.size := hb3.size
  obtain ⟨c0, c1, c2, c3, c4, c5, c6, c7, c8, c9, c10, c11, c12, c13, c14, c15, c16, c17, c18, c19, c20, c21⟩ := tab_cells BT
  have hpt := part_tab BT
  obtain ⟨x3, hx3⟩ : ∃ q, x2.setRow g tabC = q := ⟨_, rfl⟩
  rw [hx3] at c0 c1 c2 c3 c4 c5 c6 c7 c8 c9 c10 c11 c12 c13 c14 c15 c16 c17 c18 c19 c20 c21 hb3 hs3 hpt
  have HB := hide hb3
  have HS := hide hs3
  have HO := hide tab_one
  clear hb1 hb2 hb3 BZ BT hgw hs3
  go_wp2_with (refine wpList_store_row rfl 138 (.tmp 3) (.tmp 4) rfl g tabC rfl rfl 138 #[.int .i64 0, .int .i64 0, .int .i64 0, .int .i64 0, .int .i64 0, .int .i64 0, .int .i64 0, .int .i64 0, .int .i64 0, .int .i64 0, .int .i64 0, .int .i64 0, .int .i64 0, .int .i64 0, .int .i64 0, .int .i64 0, .int .i64 0, .int .i64 0, .int .i64 0, .int .i64 0, .int .i64 0, .int .i64 0] (unhide HZ) sizeTab rfl (unhide HO) ?_)
  all_goals (try go_wp2)
  go_ret
  refine ⟨_, rfl, ?_, ?_⟩
  · exact .inr ⟨_, rfl, Blk.new _ _ _⟩
  · exact (unhide HB).alloc (unhide HS) _
set_option maxHeartbeats 1000000 in
theorem rqf_o (k : Int) (h1 : (k == 1) = false) (h2 : (k == 2) = false) (h3 : (k == 3) = false) (h4 : (k == 4) = false) (h5 : (k == 5) = false) (h8 : (k == 8) = false) (h9 : (k == 9) = false) (h10 : (k == 10) = false) (h11 : (k == 11) = false) (h12 : (k == 12) = false) (w : World) : Calls Tryz.prog 41 #[.int .i64 k] w fun e w' => ∃ v, e = .returned v ∧ FR w' v [] ∧ Below w.heap.size w w' := by
  go_enter Tryz.func41, Tryz.ntmps41
  go_wp2_with fail
  refine (allFields_any _).mono ?_
  rintro e x1 ⟨rfl, hb1⟩
  obtain ⟨g, hg⟩ : ∃ g, x1.heap.size = g := ⟨_, rfl⟩
  obtain ⟨x2, hx2⟩ : ∃ q, x1.alloc (.cells #[.int .i64 0, .int .i64 0, .int .i64 0, .int .i64 0, .int .i64 0, .int .i64 0, .int .i64 0, .int .i64 0, .int .i64 0, .int .i64 0, .int .i64 0, .int .i64 0, .int .i64 0, .int .i64 0, .int .i64 0, .int .i64 0, .int .i64 0, .int .i64 0, .int .i64 0, .int .i64 0, .int .i64 0, .int .i64 0] 138) = q := ⟨_, rfl⟩
  have BZ : Blk x2 g #[.int .i64 0, .int .i64 0, .int .i64 0, .int .i64 0, .int .i64 0, .int .i64 0, .int .i64 0, .int .i64 0, .int .i64 0, .int .i64 0, .int .i64 0, .int .i64 0, .int .i64 0, .int .i64 0, .int .i64 0, .int .i64 0, .int .i64 0, .int .i64 0, .int .i64 0, .int .i64 0, .int .i64 0, .int .i64 0] 138 := by rw [← hx2, ← hg]; exact Blk.new x1 _ _
  have hb2 : Below w.heap.size w x2 := by rw [← hx2]; exact hb1.alloc hb1.size _
  have hgw : w.heap.size ≤ g := by rw [← hg]; exact hb1.size
  have HZ := hide BZ
  have hb3 := below_setRow hb2 hgw tabC
  have BT : Blk (x2.setRow g tabC) g tabC 138 := blk_setRow BZ
  have hs3 : w.heap.size ≤ (x2.setRow g tabC).heap.size := hb3.size
  obtain ⟨c0, c1, c2, c3, c4, c5, c6, c7, c8, c9, c10, c11, c12, c13, c14, c15, c16, c17, c18, c19, c20, c21⟩ := tab_cells BT
  have hpt := part_tab BT
  obtain ⟨x3, hx3⟩ : ∃ q, x2.setRow g tabC = q := ⟨_, rfl⟩
  rw [hx3] at c0 c1 c2 c3 c4 c5 c6 c7 c8 c9 c10 c11 c12 c13 c14 c15 c16 c17 c18 c19 c20 c21 hb3 hs3 hpt
  have HB := hide hb3
  have HS := hide hs3
  have HO := hide tab_one
  clear hb1 hb2 hb3 BZ BT hgw hs3
  go_wp2_with (refine wpList_store_row rfl 138 (.tmp 3) (.tmp 4) rfl g tabC rfl rfl 138 #[.int .i64 0, .int .i64 0, .int .i64 0, .int .i64 0, .int .i64 0, .int .i64 0, .int .i64 0, .int .i64 0, .int .i64 0, .int .i64 0, .int .i64 0, .int .i64 0, .int .i64 0, .int .i64 0, .int .i64 0, .int .i64 0, .int .i64 0, .int .i64 0, .int .i64 0, .int .i64 0, .int .i64 0, .int .i64 0] (unhide HZ) sizeTab rfl (unhide HO) ?_)
  all_goals (try go_wp2)
  go_ret
  refine ⟨_, rfl, ?_, ?_⟩
  · exact .inl ⟨rfl, rfl⟩
  · exact unhide HB
theorem rqf_any (k : Int) (w : World) : Calls Tryz.prog 41 #[.int .i64 k] w fun e w' => ∃ v, e = .returned v ∧ FR w' v (rqF k) ∧ Below w.heap.size w w' := by
  by_cases h1 : k = 1
  · subst h1; exact rqf_1 w
  by_cases h2 : k = 2
  · subst h2; exact rqf_2 w
  by_cases h3 : k = 3
  · subst h3; exact rqf_3 w
  by_cases h4 : k = 4
  · subst h4; exact rqf_4 w
  by_cases h5 : k = 5
  · subst h5; exact rqf_5 w
  by_cases h8 : k = 8
  · subst h8; exact rqf_8 w
  by_cases h9 : k = 9
  · subst h9; exact rqf_9 w
  by_cases h10 : k = 10
  · subst h10; exact rqf_10 w
  by_cases h11 : k = 11
  · subst h11; exact rqf_11 w
  by_cases h12 : k = 12
  · subst h12; exact rqf_12 w
  have e : rqF k = [] := by unfold rqF; simp [h1, h2, h3, h4, h5, h8, h9, h10, h11, h12]
  rw [e]
  exact rqf_o k (by simpa using h1) (by simpa using h2) (by simpa using h3) (by simpa using h4) (by simpa using h5) (by simpa using h8) (by simpa using h9) (by simpa using h10) (by simpa using h11) (by simpa using h12) w
end Go.Proofs.YtclgkgaobjcifaaGreatDoor
