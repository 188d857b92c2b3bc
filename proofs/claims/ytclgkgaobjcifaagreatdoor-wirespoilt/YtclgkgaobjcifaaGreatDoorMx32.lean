import Derived.Test.YtclgkgaobjcifaaGreatDoorMx31
namespace Go.Proofs.YtclgkgaobjcifaaGreatDoor
open Go.RowKit
set_option maxRecDepth 100000
theorem nb_size (n : Int) (k : Nat) : (strOfNums (numB n k)).size = k := by rw [strOfNums_size, numB_len]
set_option maxHeartbeats 4000000 in
theorem fields_1 (te qu : Nat) (vo bl no : Int) (di wr sa da : ByteArray) (hte : te ≤ 4294967295) (hqu : qu ≤ 4294967295) (w : World) : Calls Tryz.prog 54 #[.agg #[.int .i64 1, .int .i64 (te : Int), .int .i64 (qu : Int), .int .i64 vo, .int .i64 bl, .int .i64 no, .string di, .string wr, .string sa, .string da]] w fun e w' => e = .returned (.string ((strOfNums (numB (te : Int) 1)) ++ strOfNums (numB (qu : Int) 2))) ∧ Below w.heap.size w w' := by
  obtain ⟨g, hg⟩ : ∃ g, w.heap.size = g := ⟨_, rfl⟩
  obtain ⟨x2, hx2⟩ : ∃ Z, w.alloc (.cells #[.int .i64 1, .int .i64 (te : Int), .int .i64 (qu : Int), .int .i64 vo, .int .i64 bl, .int .i64 no, .string di, .string wr, .string sa, .string da] 29) = Z := ⟨_, rfl⟩
  have B : Blk x2 g #[.int .i64 1, .int .i64 (te : Int), .int .i64 (qu : Int), .int .i64 vo, .int .i64 bl, .int .i64 no, .string di, .string wr, .string sa, .string da] 29 := by rw [← hx2, ← hg]; exact Blk.new w _ _
  have hb : Below g w x2 := by rw [← hx2, ← hg]; exact (Below.refl _ w).alloc (Nat.le_refl _) _
  obtain ⟨d0, d1, d2, d3, d4, d5, d6, d7, d8, d9⟩ := req_cells B
  have HS0 := hide B
  have HSW := hide (show ∀ W, Below x2.heap.size x2 W → Blk W g #[.int .i64 1, .int .i64 (te : Int), .int .i64 (qu : Int), .int .i64 vo, .int .i64 bl, .int .i64 no, .string di, .string wr, .string sa, .string da] 29 from fun W hW => B.below hW B.lt)
  have HB2 := hide (And.intro hb (Nat.le_of_lt B.lt))
  have HNte := hide (fun W => rnum_of te 1 (by omega) (by decide) W)
  have zNte := nb_size (te : Int) 1
  have HNqu := hide (fun W => rnum_of qu 2 (by omega) (by decide) W)
  have zNqu := nb_size (qu : Int) 2
  generalize strOfNums (numB (te : Int) 1) = Nte at *
  generalize strOfNums (numB (qu : Int) 2) = Nqu at *
  have y1 : ¬ 9223372036854775807 < Nte.size + Nqu.size := by omega
  obtain ⟨A1, hA1⟩ : ∃ Z, Nte ++ Nqu = Z := ⟨_, rfl⟩
  have zA1 : A1.size = Nte.size + Nqu.size := by rw [← hA1, ByteArray.size_append]
  rw [hA1]
  clear zA1 zNqu zNte
  clear B hb
  rw [hg]
  go_enter Tryz.func54, Tryz.ntmps54
  go_wp2
  refine wp_region_held_drew (S := fun w' => Blk w' g #[.int .i64 1, .int .i64 (te : Int), .int .i64 (qu : Int), .int .i64 vo, .int .i64 bl, .int .i64 no, .string di, .string wr, .string sa, .string da] 29) (by kernel_rfl) (unhide HS0) ?_
  intro hS
  refine wpAnyH_takeD 0 (some 7) (.pointer (some ⟨g, 1, none⟩)) rfl rfl (by kernel_rfl) (by kernel_rfl) (by kernel_rfl) (fun _ _ _ h => h) (Or.inl ⟨by rfl, fun w hSw => by obtain ⟨q0, q1, q2, q3, q4, q5, q6, q7, q8, q9⟩ := req_cells hSw; clear hSw; go_simp⟩) hS ?_
  simp only [Act.put, List.setIfInBounds_toArray, List.set_cons_zero, List.set_cons_succ]
  refine wpAnyH_takeD 1 (some 8) (.int .i64 (te : Int)) rfl rfl (by kernel_rfl) (by kernel_rfl) (by kernel_rfl) (fun _ _ _ h => h) (Or.inl ⟨by rfl, fun w hSw => by obtain ⟨q0, q1, q2, q3, q4, q5, q6, q7, q8, q9⟩ := req_cells hSw; clear hSw; go_simp⟩) hS ?_
  simp only [Act.put, List.setIfInBounds_toArray, List.set_cons_zero, List.set_cons_succ]
  refine wpAnyH_takeD 3 (some 10) (.pointer (some ⟨g, 2, none⟩)) rfl rfl (by kernel_rfl) (by kernel_rfl) (by kernel_rfl) (fun _ _ _ h => h) (Or.inl ⟨by rfl, fun w hSw => by obtain ⟨q0, q1, q2, q3, q4, q5, q6, q7, q8, q9⟩ := req_cells hSw; clear hSw; go_simp⟩) hS ?_
  simp only [Act.put, List.setIfInBounds_toArray, List.set_cons_zero, List.set_cons_succ]
  refine wpAnyH_takeD 4 (some 11) (.int .i64 (qu : Int)) rfl rfl (by kernel_rfl) (by kernel_rfl) (by kernel_rfl) (fun _ _ _ h => h) (Or.inl ⟨by rfl, fun w hSw => by obtain ⟨q0, q1, q2, q3, q4, q5, q6, q7, q8, q9⟩ := req_cells hSw; clear hSw; go_simp⟩) hS ?_
  simp only [Act.put, List.setIfInBounds_toArray, List.set_cons_zero, List.set_cons_succ]
  refine wpAnyH_ready (rs := [2]) (by kernel_rfl) (by simp) ?_
  refine AllReadyH.cons rfl (fun K hK => ?_) AllReadyH.nil
  simp only [List.getElem_toArray, List.getElem_cons_succ, List.getElem_cons_zero]
  go_simp
  refine (unhide HNte _).mono ?_
  rintro e xNte ⟨rfl, hbA⟩
  have HPNte := hide (show Below x2.heap.size x2 xNte from ((Below.refl _ x2).drew).trans hbA)
  have HSNte := hide (unhide HSW xNte (unhide HPNte))
  clear hbA
  refine hK.out _ _ (unhide HSNte) (fun hS => ?_)
  clear hK K
  refine wpAnyH_ready (rs := [5]) (by kernel_rfl) (by simp) ?_
  refine AllReadyH.cons rfl (fun K hK => ?_) AllReadyH.nil
  simp only [List.getElem_toArray, List.getElem_cons_succ, List.getElem_cons_zero]
  go_simp
  refine (unhide HNqu _).mono ?_
  rintro e xNqu ⟨rfl, hbA⟩
  have HPNqu := hide (show Below x2.heap.size x2 xNqu from (unhide HPNte).trans (hbA.mono (unhide HPNte).size))
  have HSNqu := hide (unhide HSW xNqu (unhide HPNqu))
  clear hbA
  refine hK.out _ _ (unhide HSNqu) (fun hS => ?_)
  clear hK K
  refine wpAnyH_takeD 6 (some 13) (.string A1) rfl rfl (by kernel_rfl) (by kernel_rfl) (by kernel_rfl) (fun _ _ _ h => h) (Or.inl ⟨by rfl, fun w hSw => by obtain ⟨q0, q1, q2, q3, q4, q5, q6, q7, q8, q9⟩ := req_cells hSw; clear hSw; go_simp⟩) hS ?_
  simp only [Act.put, List.setIfInBounds_toArray, List.set_cons_zero, List.set_cons_succ]
  refine wpAnyH_takeD 7 (some 2) (.string A1) rfl rfl (by kernel_rfl) (by kernel_rfl) (by kernel_rfl) (fun _ _ _ h => h) (Or.inl ⟨by rfl, fun w hSw => by obtain ⟨q0, q1, q2, q3, q4, q5, q6, q7, q8, q9⟩ := req_cells hSw; clear hSw; go_simp⟩) hS ?_
  simp only [Act.put, List.setIfInBounds_toArray, List.set_cons_zero, List.set_cons_succ]
  refine wpAnyH_done (by kernel_rfl) ?_ _
  go_wp2
  go_ret
  exact ⟨rfl, (unhide HB2).1.trans ((unhide HPNqu).mono (unhide HB2).2)⟩
set_option maxHeartbeats 4000000 in
theorem fields_2 (te : Nat) (qu vo bl no : Int) (di wr sa da : ByteArray) (hte : te ≤ 4294967295) (w : World) : Calls Tryz.prog 54 #[.agg #[.int .i64 2, .int .i64 (te : Int), .int .i64 qu, .int .i64 vo, .int .i64 bl, .int .i64 no, .string di, .string wr, .string sa, .string da]] w fun e w' => e = .returned (.string (strOfNums (numB (te : Int) 1))) ∧ Below w.heap.size w w' := by
  obtain ⟨g, hg⟩ : ∃ g, w.heap.size = g := ⟨_, rfl⟩
  obtain ⟨x2, hx2⟩ : ∃ Z, w.alloc (.cells #[.int .i64 2, .int .i64 (te : Int), .int .i64 qu, .int .i64 vo, .int .i64 bl, .int .i64 no, .string di, .string wr, .string sa, .string da] 29) = Z := ⟨_, rfl⟩
  have B : Blk x2 g #[.int .i64 2, .int .i64 (te : Int), .int .i64 qu, .int .i64 vo, .int .i64 bl, .int .i64 no, .string di, .string wr, .string sa, .string da] 29 := by rw [← hx2, ← hg]; exact Blk.new w _ _
  have hb : Below g w x2 := by rw [← hx2, ← hg]; exact (Below.refl _ w).alloc (Nat.le_refl _) _
  obtain ⟨d0, d1, d2, d3, d4, d5, d6, d7, d8, d9⟩ := req_cells B
  have HS0 := hide B
  have HSW := hide (show ∀ W, Below x2.heap.size x2 W → Blk W g #[.int .i64 2, .int .i64 (te : Int), .int .i64 qu, .int .i64 vo, .int .i64 bl, .int .i64 no, .string di, .string wr, .string sa, .string da] 29 from fun W hW => B.below hW B.lt)
  have HB2 := hide (And.intro hb (Nat.le_of_lt B.lt))
  have HNte := hide (fun W => rnum_of te 1 (by omega) (by decide) W)
  have zNte := nb_size (te : Int) 1
  generalize strOfNums (numB (te : Int) 1) = Nte at *
  clear zNte
  clear B hb
  rw [hg]
  go_enter Tryz.func54, Tryz.ntmps54
  go_wp2_with fail
  refine (unhide HNte _).mono ?_
  rintro e xA ⟨rfl, hbA⟩
  have HA := hide (show Below g w xA from (unhide HB2).1.trans (hbA.mono (unhide HB2).2))
  clear hbA
  go_wp2
  go_ret
  exact ⟨rfl, unhide HA⟩
set_option maxHeartbeats 4000000 in
theorem fields_3 (te : Nat) (qu vo bl no : Int) (di wr sa da : ByteArray) (hte : te ≤ 4294967295) (w : World) : Calls Tryz.prog 54 #[.agg #[.int .i64 3, .int .i64 (te : Int), .int .i64 qu, .int .i64 vo, .int .i64 bl, .int .i64 no, .string di, .string wr, .string sa, .string da]] w fun e w' => e = .returned (.string (strOfNums (numB (te : Int) 1))) ∧ Below w.heap.size w w' := by
  obtain ⟨g, hg⟩ : ∃ g, w.heap.size = g := ⟨_, rfl⟩
  obtain ⟨x2, hx2⟩ : ∃ Z, w.alloc (.cells #[.int .i64 3, .int .i64 (te : Int), .int .i64 qu, .int .i64 vo, .int .i64 bl, .int .i64 no, .string di, .string wr, .string sa, .string da] 29) = Z := ⟨_, rfl⟩
  have B : Blk x2 g #[.int .i64 3, .int .i64 (te : Int), .int .i64 qu, .int .i64 vo, .int .i64 bl, .int .i64 no, .string di, .string wr, .string sa, .string da] 29 := by rw [← hx2, ← hg]; exact Blk.new w _ _
  have hb : Below g w x2 := by rw [← hx2, ← hg]; exact (Below.refl _ w).alloc (Nat.le_refl _) _
  obtain ⟨d0, d1, d2, d3, d4, d5, d6, d7, d8, d9⟩ := req_cells B
  have HS0 := hide B
  have HSW := hide (show ∀ W, Below x2.heap.size x2 W → Blk W g #[.int .i64 3, .int .i64 (te : Int), .int .i64 qu, .int .i64 vo, .int .i64 bl, .int .i64 no, .string di, .string wr, .string sa, .string da] 29 from fun W hW => B.below hW B.lt)
  have HB2 := hide (And.intro hb (Nat.le_of_lt B.lt))
  have HNte := hide (fun W => rnum_of te 1 (by omega) (by decide) W)
  have zNte := nb_size (te : Int) 1
  generalize strOfNums (numB (te : Int) 1) = Nte at *
  clear zNte
  clear B hb
  rw [hg]
  go_enter Tryz.func54, Tryz.ntmps54
  go_wp2_with fail
  refine (unhide HNte _).mono ?_
  rintro e xA ⟨rfl, hbA⟩
  have HA := hide (show Below g w xA from (unhide HB2).1.trans (hbA.mono (unhide HB2).2))
  clear hbA
  go_wp2
  go_ret
  exact ⟨rfl, unhide HA⟩
set_option maxHeartbeats 4000000 in
theorem fields_4 (vo : Nat) (te qu bl no : Int) (di wr sa da : ByteArray) (hvo : vo ≤ 4294967295) (w : World) : Calls Tryz.prog 54 #[.agg #[.int .i64 4, .int .i64 te, .int .i64 qu, .int .i64 (vo : Int), .int .i64 bl, .int .i64 no, .string di, .string wr, .string sa, .string da]] w fun e w' => e = .returned (.string (strOfNums (numB (vo : Int) 1))) ∧ Below w.heap.size w w' := by
  obtain ⟨g, hg⟩ : ∃ g, w.heap.size = g := ⟨_, rfl⟩
  obtain ⟨x2, hx2⟩ : ∃ Z, w.alloc (.cells #[.int .i64 4, .int .i64 te, .int .i64 qu, .int .i64 (vo : Int), .int .i64 bl, .int .i64 no, .string di, .string wr, .string sa, .string da] 29) = Z := ⟨_, rfl⟩
  have B : Blk x2 g #[.int .i64 4, .int .i64 te, .int .i64 qu, .int .i64 (vo : Int), .int .i64 bl, .int .i64 no, .string di, .string wr, .string sa, .string da] 29 := by rw [← hx2, ← hg]; exact Blk.new w _ _
  have hb : Below g w x2 := by rw [← hx2, ← hg]; exact (Below.refl _ w).alloc (Nat.le_refl _) _
  obtain ⟨d0, d1, d2, d3, d4, d5, d6, d7, d8, d9⟩ := req_cells B
  have HS0 := hide B
  have HSW := hide (show ∀ W, Below x2.heap.size x2 W → Blk W g #[.int .i64 4, .int .i64 te, .int .i64 qu, .int .i64 (vo : Int), .int .i64 bl, .int .i64 no, .string di, .string wr, .string sa, .string da] 29 from fun W hW => B.below hW B.lt)
  have HB2 := hide (And.intro hb (Nat.le_of_lt B.lt))
  have HNvo := hide (fun W => rnum_of vo 1 (by omega) (by decide) W)
  have zNvo := nb_size (vo : Int) 1
  generalize strOfNums (numB (vo : Int) 1) = Nvo at *
  clear zNvo
  clear B hb
  rw [hg]
  go_enter Tryz.func54, Tryz.ntmps54
  go_wp2_with fail
  refine (unhide HNvo _).mono ?_
  rintro e xA ⟨rfl, hbA⟩
  have HA := hide (show Below g w xA from (unhide HB2).1.trans (hbA.mono (unhide HB2).2))
  clear hbA
  go_wp2
  go_ret
  exact ⟨rfl, unhide HA⟩
set_option maxHeartbeats 4000000 in
theorem fields_5 (vo : Nat) (te qu bl no : Int) (di wr sa da : ByteArray) (hvo : vo ≤ 4294967295) (w : World) : Calls Tryz.prog 54 #[.agg #[.int .i64 5, .int .i64 te, .int .i64 qu, .int .i64 (vo : Int), .int .i64 bl, .int .i64 no, .string di, .string wr, .string sa, .string da]] w fun e w' => e = .returned (.string (strOfNums (numB (vo : Int) 1))) ∧ Below w.heap.size w w' := by
  obtain ⟨g, hg⟩ : ∃ g, w.heap.size = g := ⟨_, rfl⟩
  obtain ⟨x2, hx2⟩ : ∃ Z, w.alloc (.cells #[.int .i64 5, .int .i64 te, .int .i64 qu, .int .i64 (vo : Int), .int .i64 bl, .int .i64 no, .string di, .string wr, .string sa, .string da] 29) = Z := ⟨_, rfl⟩
  have B : Blk x2 g #[.int .i64 5, .int .i64 te, .int .i64 qu, .int .i64 (vo : Int), .int .i64 bl, .int .i64 no, .string di, .string wr, .string sa, .string da] 29 := by rw [← hx2, ← hg]; exact Blk.new w _ _
  have hb : Below g w x2 := by rw [← hx2, ← hg]; exact (Below.refl _ w).alloc (Nat.le_refl _) _
  obtain ⟨d0, d1, d2, d3, d4, d5, d6, d7, d8, d9⟩ := req_cells B
  have HS0 := hide B
  have HSW := hide (show ∀ W, Below x2.heap.size x2 W → Blk W g #[.int .i64 5, .int .i64 te, .int .i64 qu, .int .i64 (vo : Int), .int .i64 bl, .int .i64 no, .string di, .string wr, .string sa, .string da] 29 from fun W hW => B.below hW B.lt)
  have HB2 := hide (And.intro hb (Nat.le_of_lt B.lt))
  have HNvo := hide (fun W => rnum_of vo 1 (by omega) (by decide) W)
  have zNvo := nb_size (vo : Int) 1
  generalize strOfNums (numB (vo : Int) 1) = Nvo at *
  clear zNvo
  clear B hb
  rw [hg]
  go_enter Tryz.func54, Tryz.ntmps54
  go_wp2_with fail
  refine (unhide HNvo _).mono ?_
  rintro e xA ⟨rfl, hbA⟩
  have HA := hide (show Below g w xA from (unhide HB2).1.trans (hbA.mono (unhide HB2).2))
  clear hbA
  go_wp2
  go_ret
  exact ⟨rfl, unhide HA⟩
set_option maxHeartbeats 4000000 in
theorem fields_6 (te qu vo bl no : Int) (di wr sa da : ByteArray) (w : World) : Calls Tryz.prog 54 #[.agg #[.int .i64 6, .int .i64 te, .int .i64 qu, .int .i64 vo, .int .i64 bl, .int .i64 no, .string di, .string wr, .string sa, .string da]] w fun e w' => e = .returned (.string ⟨#[]⟩) ∧ Below w.heap.size w w' := by
  obtain ⟨g, hg⟩ : ∃ g, w.heap.size = g := ⟨_, rfl⟩
  obtain ⟨x2, hx2⟩ : ∃ Z, w.alloc (.cells #[.int .i64 6, .int .i64 te, .int .i64 qu, .int .i64 vo, .int .i64 bl, .int .i64 no, .string di, .string wr, .string sa, .string da] 29) = Z := ⟨_, rfl⟩
  have B : Blk x2 g #[.int .i64 6, .int .i64 te, .int .i64 qu, .int .i64 vo, .int .i64 bl, .int .i64 no, .string di, .string wr, .string sa, .string da] 29 := by rw [← hx2, ← hg]; exact Blk.new w _ _
  have hb : Below g w x2 := by rw [← hx2, ← hg]; exact (Below.refl _ w).alloc (Nat.le_refl _) _
  obtain ⟨d0, d1, d2, d3, d4, d5, d6, d7, d8, d9⟩ := req_cells B
  have HS0 := hide B
  have HSW := hide (show ∀ W, Below x2.heap.size x2 W → Blk W g #[.int .i64 6, .int .i64 te, .int .i64 qu, .int .i64 vo, .int .i64 bl, .int .i64 no, .string di, .string wr, .string sa, .string da] 29 from fun W hW => B.below hW B.lt)
  have HB2 := hide (And.intro hb (Nat.le_of_lt B.lt))
  clear B hb
  rw [hg]
  go_enter Tryz.func54, Tryz.ntmps54
  go_wp2
  go_ret
  exact ⟨rfl, (unhide HB2).1⟩
set_option maxHeartbeats 4000000 in
theorem fields_7 (te qu vo bl no : Int) (di wr sa da : ByteArray) (w : World) : Calls Tryz.prog 54 #[.agg #[.int .i64 7, .int .i64 te, .int .i64 qu, .int .i64 vo, .int .i64 bl, .int .i64 no, .string di, .string wr, .string sa, .string da]] w fun e w' => e = .returned (.string ⟨#[]⟩) ∧ Below w.heap.size w w' := by
  obtain ⟨g, hg⟩ : ∃ g, w.heap.size = g := ⟨_, rfl⟩
  obtain ⟨x2, hx2⟩ : ∃ Z, w.alloc (.cells #[.int .i64 7, .int .i64 te, .int .i64 qu, .int .i64 vo, .int .i64 bl, .int .i64 no, .string di, .string wr, .string sa, .string da] 29) = Z := ⟨_, rfl⟩
  have B : Blk x2 g #[.int .i64 7, .int .i64 te, .int .i64 qu, .int .i64 vo, .int .i64 bl, .int .i64 no, .string di, .string wr, .string sa, .string da] 29 := by rw [← hx2, ← hg]; exact Blk.new w _ _
  have hb : Below g w x2 := by rw [← hx2, ← hg]; exact (Below.refl _ w).alloc (Nat.le_refl _) _
  obtain ⟨d0, d1, d2, d3, d4, d5, d6, d7, d8, d9⟩ := req_cells B
  have HS0 := hide B
  have HSW := hide (show ∀ W, Below x2.heap.size x2 W → Blk W g #[.int .i64 7, .int .i64 te, .int .i64 qu, .int .i64 vo, .int .i64 bl, .int .i64 no, .string di, .string wr, .string sa, .string da] 29 from fun W hW => B.below hW B.lt)
  have HB2 := hide (And.intro hb (Nat.le_of_lt B.lt))
  clear B hb
  rw [hg]
  go_enter Tryz.func54, Tryz.ntmps54
  go_wp2
  go_ret
  exact ⟨rfl, (unhide HB2).1⟩
set_option maxHeartbeats 4000000 in
theorem fields_8 (vo bl : Nat) (te qu no : Int) (di wr sa da : ByteArray) (hvo : vo ≤ 4294967295) (hbl : bl ≤ 4294967295) (hdi : di.size ≤ 256) (hwr : wr.size ≤ 256) (w : World) : Calls Tryz.prog 54 #[.agg #[.int .i64 8, .int .i64 te, .int .i64 qu, .int .i64 (vo : Int), .int .i64 (bl : Int), .int .i64 no, .string di, .string wr, .string sa, .string da]] w fun e w' => e = .returned (.string ((((strOfNums (numB (vo : Int) 1)) ++ strOfNums (numB (bl : Int) 1)) ++ di) ++ wr)) ∧ Below w.heap.size w w' := by
  obtain ⟨g, hg⟩ : ∃ g, w.heap.size = g := ⟨_, rfl⟩
  obtain ⟨x2, hx2⟩ : ∃ Z, w.alloc (.cells #[.int .i64 8, .int .i64 te, .int .i64 qu, .int .i64 (vo : Int), .int .i64 (bl : Int), .int .i64 no, .string di, .string wr, .string sa, .string da] 29) = Z := ⟨_, rfl⟩
  have B : Blk x2 g #[.int .i64 8, .int .i64 te, .int .i64 qu, .int .i64 (vo : Int), .int .i64 (bl : Int), .int .i64 no, .string di, .string wr, .string sa, .string da] 29 := by rw [← hx2, ← hg]; exact Blk.new w _ _
  have hb : Below g w x2 := by rw [← hx2, ← hg]; exact (Below.refl _ w).alloc (Nat.le_refl _) _
  obtain ⟨d0, d1, d2, d3, d4, d5, d6, d7, d8, d9⟩ := req_cells B
  have HS0 := hide B
  have HSW := hide (show ∀ W, Below x2.heap.size x2 W → Blk W g #[.int .i64 8, .int .i64 te, .int .i64 qu, .int .i64 (vo : Int), .int .i64 (bl : Int), .int .i64 no, .string di, .string wr, .string sa, .string da] 29 from fun W hW => B.below hW B.lt)
  have HB2 := hide (And.intro hb (Nat.le_of_lt B.lt))
  have HNvo := hide (fun W => rnum_of vo 1 (by omega) (by decide) W)
  have zNvo := nb_size (vo : Int) 1
  have HNbl := hide (fun W => rnum_of bl 1 (by omega) (by decide) W)
  have zNbl := nb_size (bl : Int) 1
  generalize strOfNums (numB (vo : Int) 1) = Nvo at *
  generalize strOfNums (numB (bl : Int) 1) = Nbl at *
  have y1 : ¬ 9223372036854775807 < Nvo.size + Nbl.size := by omega
  obtain ⟨A1, hA1⟩ : ∃ Z, Nvo ++ Nbl = Z := ⟨_, rfl⟩
  have zA1 : A1.size = Nvo.size + Nbl.size := by rw [← hA1, ByteArray.size_append]
  rw [hA1]
  have y2 : ¬ 9223372036854775807 < A1.size + di.size := by omega
  obtain ⟨A2, hA2⟩ : ∃ Z, A1 ++ di = Z := ⟨_, rfl⟩
  have zA2 : A2.size = A1.size + di.size := by rw [← hA2, ByteArray.size_append]
  rw [hA2]
  have y3 : ¬ 9223372036854775807 < A2.size + wr.size := by omega
  obtain ⟨A3, hA3⟩ : ∃ Z, A2 ++ wr = Z := ⟨_, rfl⟩
  have zA3 : A3.size = A2.size + wr.size := by rw [← hA3, ByteArray.size_append]
  rw [hA3]
  clear zA3 zA2 zA1 zNbl zNvo
  clear B hb
  rw [hg]
  go_enter Tryz.func54, Tryz.ntmps54
  go_wp2
  refine wp_region_held_drew (S := fun w' => Blk w' g #[.int .i64 8, .int .i64 te, .int .i64 qu, .int .i64 (vo : Int), .int .i64 (bl : Int), .int .i64 no, .string di, .string wr, .string sa, .string da] 29) (by kernel_rfl) (unhide HS0) ?_
  intro hS
  refine wpAnyH_takeD 0 (some 28) (.pointer (some ⟨g, 3, none⟩)) rfl rfl (by kernel_rfl) (by kernel_rfl) (by kernel_rfl) (fun _ _ _ h => h) (Or.inl ⟨by rfl, fun w hSw => by obtain ⟨q0, q1, q2, q3, q4, q5, q6, q7, q8, q9⟩ := req_cells hSw; clear hSw; go_simp⟩) hS ?_
  simp only [Act.put, List.setIfInBounds_toArray, List.set_cons_zero, List.set_cons_succ]
  refine wpAnyH_takeD 1 (some 29) (.int .i64 (vo : Int)) rfl rfl (by kernel_rfl) (by kernel_rfl) (by kernel_rfl) (fun _ _ _ h => h) (Or.inl ⟨by rfl, fun w hSw => by obtain ⟨q0, q1, q2, q3, q4, q5, q6, q7, q8, q9⟩ := req_cells hSw; clear hSw; go_simp⟩) hS ?_
  simp only [Act.put, List.setIfInBounds_toArray, List.set_cons_zero, List.set_cons_succ]
  refine wpAnyH_takeD 3 (some 31) (.pointer (some ⟨g, 4, none⟩)) rfl rfl (by kernel_rfl) (by kernel_rfl) (by kernel_rfl) (fun _ _ _ h => h) (Or.inl ⟨by rfl, fun w hSw => by obtain ⟨q0, q1, q2, q3, q4, q5, q6, q7, q8, q9⟩ := req_cells hSw; clear hSw; go_simp⟩) hS ?_
  simp only [Act.put, List.setIfInBounds_toArray, List.set_cons_zero, List.set_cons_succ]
  refine wpAnyH_takeD 4 (some 32) (.int .i64 (bl : Int)) rfl rfl (by kernel_rfl) (by kernel_rfl) (by kernel_rfl) (fun _ _ _ h => h) (Or.inl ⟨by rfl, fun w hSw => by obtain ⟨q0, q1, q2, q3, q4, q5, q6, q7, q8, q9⟩ := req_cells hSw; clear hSw; go_simp⟩) hS ?_
  simp only [Act.put, List.setIfInBounds_toArray, List.set_cons_zero, List.set_cons_succ]
  refine wpAnyH_takeD 7 (some 35) (.pointer (some ⟨g, 6, none⟩)) rfl rfl (by kernel_rfl) (by kernel_rfl) (by kernel_rfl) (fun _ _ _ h => h) (Or.inl ⟨by rfl, fun w hSw => by obtain ⟨q0, q1, q2, q3, q4, q5, q6, q7, q8, q9⟩ := req_cells hSw; clear hSw; go_simp⟩) hS ?_
  simp only [Act.put, List.setIfInBounds_toArray, List.set_cons_zero, List.set_cons_succ]
  refine wpAnyH_takeD 8 (some 36) (.string di) rfl rfl (by kernel_rfl) (by kernel_rfl) (by kernel_rfl) (fun _ _ _ h => h) (Or.inl ⟨by rfl, fun w hSw => by obtain ⟨q0, q1, q2, q3, q4, q5, q6, q7, q8, q9⟩ := req_cells hSw; clear hSw; go_simp⟩) hS ?_
  simp only [Act.put, List.setIfInBounds_toArray, List.set_cons_zero, List.set_cons_succ]
  refine wpAnyH_takeD 10 (some 38) (.pointer (some ⟨g, 7, none⟩)) rfl rfl (by kernel_rfl) (by kernel_rfl) (by kernel_rfl) (fun _ _ _ h => h) (Or.inl ⟨by rfl, fun w hSw => by obtain ⟨q0, q1, q2, q3, q4, q5, q6, q7, q8, q9⟩ := req_cells hSw; clear hSw; go_simp⟩) hS ?_
  simp only [Act.put, List.setIfInBounds_toArray, List.set_cons_zero, List.set_cons_succ]
  refine wpAnyH_takeD 11 (some 39) (.string wr) rfl rfl (by kernel_rfl) (by kernel_rfl) (by kernel_rfl) (fun _ _ _ h => h) (Or.inl ⟨by rfl, fun w hSw => by obtain ⟨q0, q1, q2, q3, q4, q5, q6, q7, q8, q9⟩ := req_cells hSw; clear hSw; go_simp⟩) hS ?_
  simp only [Act.put, List.setIfInBounds_toArray, List.set_cons_zero, List.set_cons_succ]
  refine wpAnyH_ready (rs := [2]) (by kernel_rfl) (by simp) ?_
  refine AllReadyH.cons rfl (fun K hK => ?_) AllReadyH.nil
  simp only [List.getElem_toArray, List.getElem_cons_succ, List.getElem_cons_zero]
  go_simp
  refine (unhide HNvo _).mono ?_
  rintro e xNvo ⟨rfl, hbA⟩
  have HPNvo := hide (show Below x2.heap.size x2 xNvo from ((Below.refl _ x2).drew).trans hbA)
  have HSNvo := hide (unhide HSW xNvo (unhide HPNvo))
  clear hbA
  refine hK.out _ _ (unhide HSNvo) (fun hS => ?_)
  clear hK K
  refine wpAnyH_ready (rs := [5]) (by kernel_rfl) (by simp) ?_
  refine AllReadyH.cons rfl (fun K hK => ?_) AllReadyH.nil
  simp only [List.getElem_toArray, List.getElem_cons_succ, List.getElem_cons_zero]
  go_simp
  refine (unhide HNbl _).mono ?_
  rintro e xNbl ⟨rfl, hbA⟩
  have HPNbl := hide (show Below x2.heap.size x2 xNbl from (unhide HPNvo).trans (hbA.mono (unhide HPNvo).size))
  have HSNbl := hide (unhide HSW xNbl (unhide HPNbl))
  clear hbA
  refine hK.out _ _ (unhide HSNbl) (fun hS => ?_)
  clear hK K
  refine wpAnyH_takeD 6 (some 34) (.string A1) rfl rfl (by kernel_rfl) (by kernel_rfl) (by kernel_rfl) (fun _ _ _ h => h) (Or.inl ⟨by rfl, fun w hSw => by obtain ⟨q0, q1, q2, q3, q4, q5, q6, q7, q8, q9⟩ := req_cells hSw; clear hSw; go_simp⟩) hS ?_
  simp only [Act.put, List.setIfInBounds_toArray, List.set_cons_zero, List.set_cons_succ]
  refine wpAnyH_takeD 9 (some 37) (.string A2) rfl rfl (by kernel_rfl) (by kernel_rfl) (by kernel_rfl) (fun _ _ _ h => h) (Or.inl ⟨by rfl, fun w hSw => by obtain ⟨q0, q1, q2, q3, q4, q5, q6, q7, q8, q9⟩ := req_cells hSw; clear hSw; go_simp⟩) hS ?_
  simp only [Act.put, List.setIfInBounds_toArray, List.set_cons_zero, List.set_cons_succ]
  refine wpAnyH_takeD 12 (some 40) (.string A3) rfl rfl (by kernel_rfl) (by kernel_rfl) (by kernel_rfl) (fun _ _ _ h => h) (Or.inl ⟨by rfl, fun w hSw => by obtain ⟨q0, q1, q2, q3, q4, q5, q6, q7, q8, q9⟩ := req_cells hSw; clear hSw; go_simp⟩) hS ?_
  simp only [Act.put, List.setIfInBounds_toArray, List.set_cons_zero, List.set_cons_succ]
  refine wpAnyH_takeD 13 (some 2) (.string A3) rfl rfl (by kernel_rfl) (by kernel_rfl) (by kernel_rfl) (fun _ _ _ h => h) (Or.inl ⟨by rfl, fun w hSw => by obtain ⟨q0, q1, q2, q3, q4, q5, q6, q7, q8, q9⟩ := req_cells hSw; clear hSw; go_simp⟩) hS ?_
  simp only [Act.put, List.setIfInBounds_toArray, List.set_cons_zero, List.set_cons_succ]
  refine wpAnyH_done (by kernel_rfl) ?_ _
  go_wp2
  go_ret
  exact ⟨rfl, (unhide HB2).1.trans ((unhide HPNbl).mono (unhide HB2).2)⟩
set_option maxHeartbeats 4000000 in
theorem fields_9 (no : Nat) (te qu vo bl : Int) (di wr sa da : ByteArray) (hno : no ≤ 4294967295) (hsa : sa.size ≤ 256) (w : World) : Calls Tryz.prog 54 #[.agg #[.int .i64 9, .int .i64 te, .int .i64 qu, .int .i64 vo, .int .i64 bl, .int .i64 (no : Int), .string di, .string wr, .string sa, .string da]] w fun e w' => e = .returned (.string ((strOfNums (numB (no : Int) 4)) ++ sa)) ∧ Below w.heap.size w w' := by
  obtain ⟨g, hg⟩ : ∃ g, w.heap.size = g := ⟨_, rfl⟩
  obtain ⟨x2, hx2⟩ : ∃ Z, w.alloc (.cells #[.int .i64 9, .int .i64 te, .int .i64 qu, .int .i64 vo, .int .i64 bl, .int .i64 (no : Int), .string di, .string wr, .string sa, .string da] 29) = Z := ⟨_, rfl⟩
  have B : Blk x2 g #[.int .i64 9, .int .i64 te, .int .i64 qu, .int .i64 vo, .int .i64 bl, .int .i64 (no : Int), .string di, .string wr, .string sa, .string da] 29 := by rw [← hx2, ← hg]; exact Blk.new w _ _
  have hb : Below g w x2 := by rw [← hx2, ← hg]; exact (Below.refl _ w).alloc (Nat.le_refl _) _
  obtain ⟨d0, d1, d2, d3, d4, d5, d6, d7, d8, d9⟩ := req_cells B
  have HS0 := hide B
  have HSW := hide (show ∀ W, Below x2.heap.size x2 W → Blk W g #[.int .i64 9, .int .i64 te, .int .i64 qu, .int .i64 vo, .int .i64 bl, .int .i64 (no : Int), .string di, .string wr, .string sa, .string da] 29 from fun W hW => B.below hW B.lt)
  have HB2 := hide (And.intro hb (Nat.le_of_lt B.lt))
  have HNno := hide (fun W => rnum_of no 4 (by omega) (by decide) W)
  have zNno := nb_size (no : Int) 4
  generalize strOfNums (numB (no : Int) 4) = Nno at *
  have y1 : ¬ 9223372036854775807 < Nno.size + sa.size := by omega
  obtain ⟨A1, hA1⟩ : ∃ Z, Nno ++ sa = Z := ⟨_, rfl⟩
  have zA1 : A1.size = Nno.size + sa.size := by rw [← hA1, ByteArray.size_append]
  rw [hA1]
  clear zA1 zNno
  clear B hb
  rw [hg]
  go_enter Tryz.func54, Tryz.ntmps54
  go_wp2
  refine wp_region_held_drew (S := fun w' => Blk w' g #[.int .i64 9, .int .i64 te, .int .i64 qu, .int .i64 vo, .int .i64 bl, .int .i64 (no : Int), .string di, .string wr, .string sa, .string da] 29) (by kernel_rfl) (unhide HS0) ?_
  intro hS
  refine wpAnyH_takeD 0 (some 43) (.pointer (some ⟨g, 5, none⟩)) rfl rfl (by kernel_rfl) (by kernel_rfl) (by kernel_rfl) (fun _ _ _ h => h) (Or.inl ⟨by rfl, fun w hSw => by obtain ⟨q0, q1, q2, q3, q4, q5, q6, q7, q8, q9⟩ := req_cells hSw; clear hSw; go_simp⟩) hS ?_
  simp only [Act.put, List.setIfInBounds_toArray, List.set_cons_zero, List.set_cons_succ]
  refine wpAnyH_takeD 1 (some 44) (.int .i64 (no : Int)) rfl rfl (by kernel_rfl) (by kernel_rfl) (by kernel_rfl) (fun _ _ _ h => h) (Or.inl ⟨by rfl, fun w hSw => by obtain ⟨q0, q1, q2, q3, q4, q5, q6, q7, q8, q9⟩ := req_cells hSw; clear hSw; go_simp⟩) hS ?_
  simp only [Act.put, List.setIfInBounds_toArray, List.set_cons_zero, List.set_cons_succ]
  refine wpAnyH_takeD 3 (some 46) (.pointer (some ⟨g, 8, none⟩)) rfl rfl (by kernel_rfl) (by kernel_rfl) (by kernel_rfl) (fun _ _ _ h => h) (Or.inl ⟨by rfl, fun w hSw => by obtain ⟨q0, q1, q2, q3, q4, q5, q6, q7, q8, q9⟩ := req_cells hSw; clear hSw; go_simp⟩) hS ?_
  simp only [Act.put, List.setIfInBounds_toArray, List.set_cons_zero, List.set_cons_succ]
  refine wpAnyH_takeD 4 (some 47) (.string sa) rfl rfl (by kernel_rfl) (by kernel_rfl) (by kernel_rfl) (fun _ _ _ h => h) (Or.inl ⟨by rfl, fun w hSw => by obtain ⟨q0, q1, q2, q3, q4, q5, q6, q7, q8, q9⟩ := req_cells hSw; clear hSw; go_simp⟩) hS ?_
  simp only [Act.put, List.setIfInBounds_toArray, List.set_cons_zero, List.set_cons_succ]
  refine wpAnyH_ready (rs := [2]) (by kernel_rfl) (by simp) ?_
  refine AllReadyH.cons rfl (fun K hK => ?_) AllReadyH.nil
  simp only [List.getElem_toArray, List.getElem_cons_succ, List.getElem_cons_zero]
  go_simp
  refine (unhide HNno _).mono ?_
  rintro e xNno ⟨rfl, hbA⟩
  have HPNno := hide (show Below x2.heap.size x2 xNno from ((Below.refl _ x2).drew).trans hbA)
  have HSNno := hide (unhide HSW xNno (unhide HPNno))
  clear hbA
  refine hK.out _ _ (unhide HSNno) (fun hS => ?_)
  clear hK K
  refine wpAnyH_takeD 5 (some 48) (.string A1) rfl rfl (by kernel_rfl) (by kernel_rfl) (by kernel_rfl) (fun _ _ _ h => h) (Or.inl ⟨by rfl, fun w hSw => by obtain ⟨q0, q1, q2, q3, q4, q5, q6, q7, q8, q9⟩ := req_cells hSw; clear hSw; go_simp⟩) hS ?_
  simp only [Act.put, List.setIfInBounds_toArray, List.set_cons_zero, List.set_cons_succ]
  refine wpAnyH_takeD 6 (some 2) (.string A1) rfl rfl (by kernel_rfl) (by kernel_rfl) (by kernel_rfl) (fun _ _ _ h => h) (Or.inl ⟨by rfl, fun w hSw => by obtain ⟨q0, q1, q2, q3, q4, q5, q6, q7, q8, q9⟩ := req_cells hSw; clear hSw; go_simp⟩) hS ?_
  simp only [Act.put, List.setIfInBounds_toArray, List.set_cons_zero, List.set_cons_succ]
  refine wpAnyH_done (by kernel_rfl) ?_ _
  go_wp2
  go_ret
  exact ⟨rfl, (unhide HB2).1.trans ((unhide HPNno).mono (unhide HB2).2)⟩
set_option maxHeartbeats 4000000 in
theorem fields_10 (vo bl : Nat) (te qu no : Int) (di wr sa da : ByteArray) (hvo : vo ≤ 4294967295) (hbl : bl ≤ 4294967295) (hwr : wr.size ≤ 256) (hda : da.size ≤ 256) (w : World) : Calls Tryz.prog 54 #[.agg #[.int .i64 10, .int .i64 te, .int .i64 qu, .int .i64 (vo : Int), .int .i64 (bl : Int), .int .i64 no, .string di, .string wr, .string sa, .string da]] w fun e w' => e = .returned (.string ((((strOfNums (numB (vo : Int) 1)) ++ strOfNums (numB (bl : Int) 1)) ++ wr) ++ da)) ∧ Below w.heap.size w w' := by
  obtain ⟨g, hg⟩ : ∃ g, w.heap.size = g := ⟨_, rfl⟩
  obtain ⟨x2, hx2⟩ : ∃ Z, w.alloc (.cells #[.int .i64 10, .int .i64 te, .int .i64 qu, .int .i64 (vo : Int), .int .i64 (bl : Int), .int .i64 no, .string di, .string wr, .string sa, .string da] 29) = Z := ⟨_, rfl⟩
  have B : Blk x2 g #[.int .i64 10, .int .i64 te, .int .i64 qu, .int .i64 (vo : Int), .int .i64 (bl : Int), .int .i64 no, .string di, .string wr, .string sa, .string da] 29 := by rw [← hx2, ← hg]; exact Blk.new w _ _
  have hb : Below g w x2 := by rw [← hx2, ← hg]; exact (Below.refl _ w).alloc (Nat.le_refl _) _
  obtain ⟨d0, d1, d2, d3, d4, d5, d6, d7, d8, d9⟩ := req_cells B
  have HS0 := hide B
  have HSW := hide (show ∀ W, Below x2.heap.size x2 W → Blk W g #[.int .i64 10, .int .i64 te, .int .i64 qu, .int .i64 (vo : Int), .int .i64 (bl : Int), .int .i64 no, .string di, .string wr, .string sa, .string da] 29 from fun W hW => B.below hW B.lt)
  have HB2 := hide (And.intro hb (Nat.le_of_lt B.lt))
  have HNvo := hide (fun W => rnum_of vo 1 (by omega) (by decide) W)
  have zNvo := nb_size (vo : Int) 1
  have HNbl := hide (fun W => rnum_of bl 1 (by omega) (by decide) W)
  have zNbl := nb_size (bl : Int) 1
  generalize strOfNums (numB (vo : Int) 1) = Nvo at *
  generalize strOfNums (numB (bl : Int) 1) = Nbl at *
  have y1 : ¬ 9223372036854775807 < Nvo.size + Nbl.size := by omega
  obtain ⟨A1, hA1⟩ : ∃ Z, Nvo ++ Nbl = Z := ⟨_, rfl⟩
  have zA1 : A1.size = Nvo.size + Nbl.size := by rw [← hA1, ByteArray.size_append]
  rw [hA1]
  have y2 : ¬ 9223372036854775807 < A1.size + wr.size := by omega
  obtain ⟨A2, hA2⟩ : ∃ Z, A1 ++ wr = Z := ⟨_, rfl⟩
  have zA2 : A2.size = A1.size + wr.size := by rw [← hA2, ByteArray.size_append]
  rw [hA2]
  have y3 : ¬ 9223372036854775807 < A2.size + da.size := by omega
  obtain ⟨A3, hA3⟩ : ∃ Z, A2 ++ da = Z := ⟨_, rfl⟩
  have zA3 : A3.size = A2.size + da.size := by rw [← hA3, ByteArray.size_append]
  rw [hA3]
  clear zA3 zA2 zA1 zNbl zNvo
  clear B hb
  rw [hg]
  go_enter Tryz.func54, Tryz.ntmps54
  go_wp2
  refine wp_region_held_drew (S := fun w' => Blk w' g #[.int .i64 10, .int .i64 te, .int .i64 qu, .int .i64 (vo : Int), .int .i64 (bl : Int), .int .i64 no, .string di, .string wr, .string sa, .string da] 29) (by kernel_rfl) (unhide HS0) ?_
  intro hS
  refine wpAnyH_takeD 0 (some 51) (.pointer (some ⟨g, 3, none⟩)) rfl rfl (by kernel_rfl) (by kernel_rfl) (by kernel_rfl) (fun _ _ _ h => h) (Or.inl ⟨by rfl, fun w hSw => by obtain ⟨q0, q1, q2, q3, q4, q5, q6, q7, q8, q9⟩ := req_cells hSw; clear hSw; go_simp⟩) hS ?_
  simp only [Act.put, List.setIfInBounds_toArray, List.set_cons_zero, List.set_cons_succ]
  refine wpAnyH_takeD 1 (some 52) (.int .i64 (vo : Int)) rfl rfl (by kernel_rfl) (by kernel_rfl) (by kernel_rfl) (fun _ _ _ h => h) (Or.inl ⟨by rfl, fun w hSw => by obtain ⟨q0, q1, q2, q3, q4, q5, q6, q7, q8, q9⟩ := req_cells hSw; clear hSw; go_simp⟩) hS ?_
  simp only [Act.put, List.setIfInBounds_toArray, List.set_cons_zero, List.set_cons_succ]
  refine wpAnyH_takeD 3 (some 54) (.pointer (some ⟨g, 4, none⟩)) rfl rfl (by kernel_rfl) (by kernel_rfl) (by kernel_rfl) (fun _ _ _ h => h) (Or.inl ⟨by rfl, fun w hSw => by obtain ⟨q0, q1, q2, q3, q4, q5, q6, q7, q8, q9⟩ := req_cells hSw; clear hSw; go_simp⟩) hS ?_
  simp only [Act.put, List.setIfInBounds_toArray, List.set_cons_zero, List.set_cons_succ]
  refine wpAnyH_takeD 4 (some 55) (.int .i64 (bl : Int)) rfl rfl (by kernel_rfl) (by kernel_rfl) (by kernel_rfl) (fun _ _ _ h => h) (Or.inl ⟨by rfl, fun w hSw => by obtain ⟨q0, q1, q2, q3, q4, q5, q6, q7, q8, q9⟩ := req_cells hSw; clear hSw; go_simp⟩) hS ?_
  simp only [Act.put, List.setIfInBounds_toArray, List.set_cons_zero, List.set_cons_succ]
  refine wpAnyH_takeD 7 (some 58) (.pointer (some ⟨g, 7, none⟩)) rfl rfl (by kernel_rfl) (by kernel_rfl) (by kernel_rfl) (fun _ _ _ h => h) (Or.inl ⟨by rfl, fun w hSw => by obtain ⟨q0, q1, q2, q3, q4, q5, q6, q7, q8, q9⟩ := req_cells hSw; clear hSw; go_simp⟩) hS ?_
  simp only [Act.put, List.setIfInBounds_toArray, List.set_cons_zero, List.set_cons_succ]
  refine wpAnyH_takeD 8 (some 59) (.string wr) rfl rfl (by kernel_rfl) (by kernel_rfl) (by kernel_rfl) (fun _ _ _ h => h) (Or.inl ⟨by rfl, fun w hSw => by obtain ⟨q0, q1, q2, q3, q4, q5, q6, q7, q8, q9⟩ := req_cells hSw; clear hSw; go_simp⟩) hS ?_
  simp only [Act.put, List.setIfInBounds_toArray, List.set_cons_zero, List.set_cons_succ]
  refine wpAnyH_takeD 10 (some 61) (.pointer (some ⟨g, 9, none⟩)) rfl rfl (by kernel_rfl) (by kernel_rfl) (by kernel_rfl) (fun _ _ _ h => h) (Or.inl ⟨by rfl, fun w hSw => by obtain ⟨q0, q1, q2, q3, q4, q5, q6, q7, q8, q9⟩ := req_cells hSw; clear hSw; go_simp⟩) hS ?_
  simp only [Act.put, List.setIfInBounds_toArray, List.set_cons_zero, List.set_cons_succ]
  refine wpAnyH_takeD 11 (some 62) (.string da) rfl rfl (by kernel_rfl) (by kernel_rfl) (by kernel_rfl) (fun _ _ _ h => h) (Or.inl ⟨by rfl, fun w hSw => by obtain ⟨q0, q1, q2, q3, q4, q5, q6, q7, q8, q9⟩ := req_cells hSw; clear hSw; go_simp⟩) hS ?_
  simp only [Act.put, List.setIfInBounds_toArray, List.set_cons_zero, List.set_cons_succ]
  refine wpAnyH_ready (rs := [2]) (by kernel_rfl) (by simp) ?_
  refine AllReadyH.cons rfl (fun K hK => ?_) AllReadyH.nil
  simp only [List.getElem_toArray, List.getElem_cons_succ, List.getElem_cons_zero]
  go_simp
  refine (unhide HNvo _).mono ?_
  rintro e xNvo ⟨rfl, hbA⟩
  have HPNvo := hide (show Below x2.heap.size x2 xNvo from ((Below.refl _ x2).drew).trans hbA)
  have HSNvo := hide (unhide HSW xNvo (unhide HPNvo))
  clear hbA
  refine hK.out _ _ (unhide HSNvo) (fun hS => ?_)
  clear hK K
  refine wpAnyH_ready (rs := [5]) (by kernel_rfl) (by simp) ?_
  refine AllReadyH.cons rfl (fun K hK => ?_) AllReadyH.nil
  simp only [List.getElem_toArray, List.getElem_cons_succ, List.getElem_cons_zero]
  go_simp
  refine (unhide HNbl _).mono ?_
  rintro e xNbl ⟨rfl, hbA⟩
  have HPNbl := hide (show Below x2.heap.size x2 xNbl from (unhide HPNvo).trans (hbA.mono (unhide HPNvo).size))
  have HSNbl := hide (unhide HSW xNbl (unhide HPNbl))
  clear hbA
  refine hK.out _ _ (unhide HSNbl) (fun hS => ?_)
  clear hK K
  refine wpAnyH_takeD 6 (some 57) (.string A1) rfl rfl (by kernel_rfl) (by kernel_rfl) (by kernel_rfl) (fun _ _ _ h => h) (Or.inl ⟨by rfl, fun w hSw => by obtain ⟨q0, q1, q2, q3, q4, q5, q6, q7, q8, q9⟩ := req_cells hSw; clear hSw; go_simp⟩) hS ?_
  simp only [Act.put, List.setIfInBounds_toArray, List.set_cons_zero, List.set_cons_succ]
  refine wpAnyH_takeD 9 (some 60) (.string A2) rfl rfl (by kernel_rfl) (by kernel_rfl) (by kernel_rfl) (fun _ _ _ h => h) (Or.inl ⟨by rfl, fun w hSw => by obtain ⟨q0, q1, q2, q3, q4, q5, q6, q7, q8, q9⟩ := req_cells hSw; clear hSw; go_simp⟩) hS ?_
  simp only [Act.put, List.setIfInBounds_toArray, List.set_cons_zero, List.set_cons_succ]
  refine wpAnyH_takeD 12 (some 63) (.string A3) rfl rfl (by kernel_rfl) (by kernel_rfl) (by kernel_rfl) (fun _ _ _ h => h) (Or.inl ⟨by rfl, fun w hSw => by obtain ⟨q0, q1, q2, q3, q4, q5, q6, q7, q8, q9⟩ := req_cells hSw; clear hSw; go_simp⟩) hS ?_
  simp only [Act.put, List.setIfInBounds_toArray, List.set_cons_zero, List.set_cons_succ]
  refine wpAnyH_takeD 13 (some 2) (.string A3) rfl rfl (by kernel_rfl) (by kernel_rfl) (by kernel_rfl) (fun _ _ _ h => h) (Or.inl ⟨by rfl, fun w hSw => by obtain ⟨q0, q1, q2, q3, q4, q5, q6, q7, q8, q9⟩ := req_cells hSw; clear hSw; go_simp⟩) hS ?_
  simp only [Act.put, List.setIfInBounds_toArray, List.set_cons_zero, List.set_cons_succ]
  refine wpAnyH_done (by kernel_rfl) ?_ _
  go_wp2
  go_ret
  exact ⟨rfl, (unhide HB2).1.trans ((unhide HPNbl).mono (unhide HB2).2)⟩
set_option maxHeartbeats 4000000 in
theorem fields_11 (vo bl : Nat) (te qu no : Int) (di wr sa da : ByteArray) (hvo : vo ≤ 4294967295) (hbl : bl ≤ 4294967295) (w : World) : Calls Tryz.prog 54 #[.agg #[.int .i64 11, .int .i64 te, .int .i64 qu, .int .i64 (vo : Int), .int .i64 (bl : Int), .int .i64 no, .string di, .string wr, .string sa, .string da]] w fun e w' => e = .returned (.string ((strOfNums (numB (vo : Int) 1)) ++ strOfNums (numB (bl : Int) 1))) ∧ Below w.heap.size w w' := by
  obtain ⟨g, hg⟩ : ∃ g, w.heap.size = g := ⟨_, rfl⟩
  obtain ⟨x2, hx2⟩ : ∃ Z, w.alloc (.cells #[.int .i64 11, .int .i64 te, .int .i64 qu, .int .i64 (vo : Int), .int .i64 (bl : Int), .int .i64 no, .string di, .string wr, .string sa, .string da] 29) = Z := ⟨_, rfl⟩
  have B : Blk x2 g #[.int .i64 11, .int .i64 te, .int .i64 qu, .int .i64 (vo : Int), .int .i64 (bl : Int), .int .i64 no, .string di, .string wr, .string sa, .string da] 29 := by rw [← hx2, ← hg]; exact Blk.new w _ _
  have hb : Below g w x2 := by rw [← hx2, ← hg]; exact (Below.refl _ w).alloc (Nat.le_refl _) _
  obtain ⟨d0, d1, d2, d3, d4, d5, d6, d7, d8, d9⟩ := req_cells B
  have HS0 := hide B
  have HSW := hide (show ∀ W, Below x2.heap.size x2 W → Blk W g #[.int .i64 11, .int .i64 te, .int .i64 qu, .int .i64 (vo : Int), .int .i64 (bl : Int), .int .i64 no, .string di, .string wr, .string sa, .string da] 29 from fun W hW => B.below hW B.lt)
  have HB2 := hide (And.intro hb (Nat.le_of_lt B.lt))
  have HNvo := hide (fun W => rnum_of vo 1 (by omega) (by decide) W)
  have zNvo := nb_size (vo : Int) 1
  have HNbl := hide (fun W => rnum_of bl 1 (by omega) (by decide) W)
  have zNbl := nb_size (bl : Int) 1
  generalize strOfNums (numB (vo : Int) 1) = Nvo at *
  generalize strOfNums (numB (bl : Int) 1) = Nbl at *
  have y1 : ¬ 9223372036854775807 < Nvo.size + Nbl.size := by omega
  obtain ⟨A1, hA1⟩ : ∃ Z, Nvo ++ Nbl = Z := ⟨_, rfl⟩
  have zA1 : A1.size = Nvo.size + Nbl.size := by rw [← hA1, ByteArray.size_append]
  rw [hA1]
  clear zA1 zNbl zNvo
  clear B hb
  rw [hg]
  go_enter Tryz.func54, Tryz.ntmps54
  go_wp2
  refine wp_region_held_drew (S := fun w' => Blk w' g #[.int .i64 11, .int .i64 te, .int .i64 qu, .int .i64 (vo : Int), .int .i64 (bl : Int), .int .i64 no, .string di, .string wr, .string sa, .string da] 29) (by kernel_rfl) (unhide HS0) ?_
  intro hS
  refine wpAnyH_takeD 0 (some 67) (.pointer (some ⟨g, 3, none⟩)) rfl rfl (by kernel_rfl) (by kernel_rfl) (by kernel_rfl) (fun _ _ _ h => h) (Or.inl ⟨by rfl, fun w hSw => by obtain ⟨q0, q1, q2, q3, q4, q5, q6, q7, q8, q9⟩ := req_cells hSw; clear hSw; go_simp⟩) hS ?_
  simp only [Act.put, List.setIfInBounds_toArray, List.set_cons_zero, List.set_cons_succ]
  refine wpAnyH_takeD 1 (some 68) (.int .i64 (vo : Int)) rfl rfl (by kernel_rfl) (by kernel_rfl) (by kernel_rfl) (fun _ _ _ h => h) (Or.inl ⟨by rfl, fun w hSw => by obtain ⟨q0, q1, q2, q3, q4, q5, q6, q7, q8, q9⟩ := req_cells hSw; clear hSw; go_simp⟩) hS ?_
  simp only [Act.put, List.setIfInBounds_toArray, List.set_cons_zero, List.set_cons_succ]
  refine wpAnyH_takeD 3 (some 70) (.pointer (some ⟨g, 4, none⟩)) rfl rfl (by kernel_rfl) (by kernel_rfl) (by kernel_rfl) (fun _ _ _ h => h) (Or.inl ⟨by rfl, fun w hSw => by obtain ⟨q0, q1, q2, q3, q4, q5, q6, q7, q8, q9⟩ := req_cells hSw; clear hSw; go_simp⟩) hS ?_
  simp only [Act.put, List.setIfInBounds_toArray, List.set_cons_zero, List.set_cons_succ]
  refine wpAnyH_takeD 4 (some 71) (.int .i64 (bl : Int)) rfl rfl (by kernel_rfl) (by kernel_rfl) (by kernel_rfl) (fun _ _ _ h => h) (Or.inl ⟨by rfl, fun w hSw => by obtain ⟨q0, q1, q2, q3, q4, q5, q6, q7, q8, q9⟩ := req_cells hSw; clear hSw; go_simp⟩) hS ?_
  simp only [Act.put, List.setIfInBounds_toArray, List.set_cons_zero, List.set_cons_succ]
  refine wpAnyH_ready (rs := [2]) (by kernel_rfl) (by simp) ?_
  refine AllReadyH.cons rfl (fun K hK => ?_) AllReadyH.nil
  simp only [List.getElem_toArray, List.getElem_cons_succ, List.getElem_cons_zero]
  go_simp
  refine (unhide HNvo _).mono ?_
  rintro e xNvo ⟨rfl, hbA⟩
  have HPNvo := hide (show Below x2.heap.size x2 xNvo from ((Below.refl _ x2).drew).trans hbA)
  have HSNvo := hide (unhide HSW xNvo (unhide HPNvo))
  clear hbA
  refine hK.out _ _ (unhide HSNvo) (fun hS => ?_)
  clear hK K
  refine wpAnyH_ready (rs := [5]) (by kernel_rfl) (by simp) ?_
  refine AllReadyH.cons rfl (fun K hK => ?_) AllReadyH.nil
  simp only [List.getElem_toArray, List.getElem_cons_succ, List.getElem_cons_zero]
  go_simp
  refine (unhide HNbl _).mono ?_
  rintro e xNbl ⟨rfl, hbA⟩
  have HPNbl := hide (show Below x2.heap.size x2 xNbl from (unhide HPNvo).trans (hbA.mono (unhide HPNvo).size))
  have HSNbl := hide (unhide HSW xNbl (unhide HPNbl))
  clear hbA
  refine hK.out _ _ (unhide HSNbl) (fun hS => ?_)
  clear hK K
  refine wpAnyH_takeD 6 (some 73) (.string A1) rfl rfl (by kernel_rfl) (by kernel_rfl) (by kernel_rfl) (fun _ _ _ h => h) (Or.inl ⟨by rfl, fun w hSw => by obtain ⟨q0, q1, q2, q3, q4, q5, q6, q7, q8, q9⟩ := req_cells hSw; clear hSw; go_simp⟩) hS ?_
  simp only [Act.put, List.setIfInBounds_toArray, List.set_cons_zero, List.set_cons_succ]
  refine wpAnyH_takeD 7 (some 2) (.string A1) rfl rfl (by kernel_rfl) (by kernel_rfl) (by kernel_rfl) (fun _ _ _ h => h) (Or.inl ⟨by rfl, fun w hSw => by obtain ⟨q0, q1, q2, q3, q4, q5, q6, q7, q8, q9⟩ := req_cells hSw; clear hSw; go_simp⟩) hS ?_
  simp only [Act.put, List.setIfInBounds_toArray, List.set_cons_zero, List.set_cons_succ]
  refine wpAnyH_done (by kernel_rfl) ?_ _
  go_wp2
  go_ret
  exact ⟨rfl, (unhide HB2).1.trans ((unhide HPNbl).mono (unhide HB2).2)⟩
set_option maxHeartbeats 4000000 in
theorem fields_12 (vo bl : Nat) (te qu no : Int) (di wr sa da : ByteArray) (hvo : vo ≤ 4294967295) (hbl : bl ≤ 4294967295) (w : World) : Calls Tryz.prog 54 #[.agg #[.int .i64 12, .int .i64 te, .int .i64 qu, .int .i64 (vo : Int), .int .i64 (bl : Int), .int .i64 no, .string di, .string wr, .string sa, .string da]] w fun e w' => e = .returned (.string ((strOfNums (numB (vo : Int) 1)) ++ strOfNums (numB (bl : Int) 1))) ∧ Below w.heap.size w w' := by
  obtain ⟨g, hg⟩ : ∃ g, w.heap.size = g := ⟨_, rfl⟩
  obtain ⟨x2, hx2⟩ : ∃ Z, w.alloc (.cells #[.int .i64 12, .int .i64 te, .int .i64 qu, .int .i64 (vo : Int), .int .i64 (bl : Int), .int .i64 no, .string di, .string wr, .string sa, .string da] 29) = Z := ⟨_, rfl⟩
  have B : Blk x2 g #[.int .i64 12, .int .i64 te, .int .i64 qu, .int .i64 (vo : Int), .int .i64 (bl : Int), .int .i64 no, .string di, .string wr, .string sa, .string da] 29 := by rw [← hx2, ← hg]; exact Blk.new w _ _
  have hb : Below g w x2 := by rw [← hx2, ← hg]; exact (Below.refl _ w).alloc (Nat.le_refl _) _
  obtain ⟨d0, d1, d2, d3, d4, d5, d6, d7, d8, d9⟩ := req_cells B
  have HS0 := hide B
  have HSW := hide (show ∀ W, Below x2.heap.size x2 W → Blk W g #[.int .i64 12, .int .i64 te, .int .i64 qu, .int .i64 (vo : Int), .int .i64 (bl : Int), .int .i64 no, .string di, .string wr, .string sa, .string da] 29 from fun W hW => B.below hW B.lt)
  have HB2 := hide (And.intro hb (Nat.le_of_lt B.lt))
  have HNvo := hide (fun W => rnum_of vo 1 (by omega) (by decide) W)
  have zNvo := nb_size (vo : Int) 1
  have HNbl := hide (fun W => rnum_of bl 1 (by omega) (by decide) W)
  have zNbl := nb_size (bl : Int) 1
  generalize strOfNums (numB (vo : Int) 1) = Nvo at *
  generalize strOfNums (numB (bl : Int) 1) = Nbl at *
  have y1 : ¬ 9223372036854775807 < Nvo.size + Nbl.size := by omega
  obtain ⟨A1, hA1⟩ : ∃ Z, Nvo ++ Nbl = Z := ⟨_, rfl⟩
  have zA1 : A1.size = Nvo.size + Nbl.size := by rw [← hA1, ByteArray.size_append]
  rw [hA1]
  clear zA1 zNbl zNvo
  clear B hb
  rw [hg]
  go_enter Tryz.func54, Tryz.ntmps54
  go_wp2
  refine wp_region_held_drew (S := fun w' => Blk w' g #[.int .i64 12, .int .i64 te, .int .i64 qu, .int .i64 (vo : Int), .int .i64 (bl : Int), .int .i64 no, .string di, .string wr, .string sa, .string da] 29) (by kernel_rfl) (unhide HS0) ?_
  intro hS
  refine wpAnyH_takeD 0 (some 67) (.pointer (some ⟨g, 3, none⟩)) rfl rfl (by kernel_rfl) (by kernel_rfl) (by kernel_rfl) (fun _ _ _ h => h) (Or.inl ⟨by rfl, fun w hSw => by obtain ⟨q0, q1, q2, q3, q4, q5, q6, q7, q8, q9⟩ := req_cells hSw; clear hSw; go_simp⟩) hS ?_
  simp only [Act.put, List.setIfInBounds_toArray, List.set_cons_zero, List.set_cons_succ]
  refine wpAnyH_takeD 1 (some 68) (.int .i64 (vo : Int)) rfl rfl (by kernel_rfl) (by kernel_rfl) (by kernel_rfl) (fun _ _ _ h => h) (Or.inl ⟨by rfl, fun w hSw => by obtain ⟨q0, q1, q2, q3, q4, q5, q6, q7, q8, q9⟩ := req_cells hSw; clear hSw; go_simp⟩) hS ?_
  simp only [Act.put, List.setIfInBounds_toArray, List.set_cons_zero, List.set_cons_succ]
  refine wpAnyH_takeD 3 (some 70) (.pointer (some ⟨g, 4, none⟩)) rfl rfl (by kernel_rfl) (by kernel_rfl) (by kernel_rfl) (fun _ _ _ h => h) (Or.inl ⟨by rfl, fun w hSw => by obtain ⟨q0, q1, q2, q3, q4, q5, q6, q7, q8, q9⟩ := req_cells hSw; clear hSw; go_simp⟩) hS ?_
  simp only [Act.put, List.setIfInBounds_toArray, List.set_cons_zero, List.set_cons_succ]
  refine wpAnyH_takeD 4 (some 71) (.int .i64 (bl : Int)) rfl rfl (by kernel_rfl) (by kernel_rfl) (by kernel_rfl) (fun _ _ _ h => h) (Or.inl ⟨by rfl, fun w hSw => by obtain ⟨q0, q1, q2, q3, q4, q5, q6, q7, q8, q9⟩ := req_cells hSw; clear hSw; go_simp⟩) hS ?_
  simp only [Act.put, List.setIfInBounds_toArray, List.set_cons_zero, List.set_cons_succ]
  refine wpAnyH_ready (rs := [2]) (by kernel_rfl) (by simp) ?_
  refine AllReadyH.cons rfl (fun K hK => ?_) AllReadyH.nil
  simp only [List.getElem_toArray, List.getElem_cons_succ, List.getElem_cons_zero]
  go_simp
  refine (unhide HNvo _).mono ?_
  rintro e xNvo ⟨rfl, hbA⟩
  have HPNvo := hide (show Below x2.heap.size x2 xNvo from ((Below.refl _ x2).drew).trans hbA)
  have HSNvo := hide (unhide HSW xNvo (unhide HPNvo))
  clear hbA
  refine hK.out _ _ (unhide HSNvo) (fun hS => ?_)
  clear hK K
  refine wpAnyH_ready (rs := [5]) (by kernel_rfl) (by simp) ?_
  refine AllReadyH.cons rfl (fun K hK => ?_) AllReadyH.nil
  simp only [List.getElem_toArray, List.getElem_cons_succ, List.getElem_cons_zero]
  go_simp
  refine (unhide HNbl _).mono ?_
  rintro e xNbl ⟨rfl, hbA⟩
  have HPNbl := hide (show Below x2.heap.size x2 xNbl from (unhide HPNvo).trans (hbA.mono (unhide HPNvo).size))
  have HSNbl := hide (unhide HSW xNbl (unhide HPNbl))
  clear hbA
  refine hK.out _ _ (unhide HSNbl) (fun hS => ?_)
  clear hK K
  refine wpAnyH_takeD 6 (some 73) (.string A1) rfl rfl (by kernel_rfl) (by kernel_rfl) (by kernel_rfl) (fun _ _ _ h => h) (Or.inl ⟨by rfl, fun w hSw => by obtain ⟨q0, q1, q2, q3, q4, q5, q6, q7, q8, q9⟩ := req_cells hSw; clear hSw; go_simp⟩) hS ?_
  simp only [Act.put, List.setIfInBounds_toArray, List.set_cons_zero, List.set_cons_succ]
  refine wpAnyH_takeD 7 (some 2) (.string A1) rfl rfl (by kernel_rfl) (by kernel_rfl) (by kernel_rfl) (fun _ _ _ h => h) (Or.inl ⟨by rfl, fun w hSw => by obtain ⟨q0, q1, q2, q3, q4, q5, q6, q7, q8, q9⟩ := req_cells hSw; clear hSw; go_simp⟩) hS ?_
  simp only [Act.put, List.setIfInBounds_toArray, List.set_cons_zero, List.set_cons_succ]
  refine wpAnyH_done (by kernel_rfl) ?_ _
  go_wp2
  go_ret
  exact ⟨rfl, (unhide HB2).1.trans ((unhide HPNbl).mono (unhide HB2).2)⟩
end Go.Proofs.YtclgkgaobjcifaaGreatDoor
