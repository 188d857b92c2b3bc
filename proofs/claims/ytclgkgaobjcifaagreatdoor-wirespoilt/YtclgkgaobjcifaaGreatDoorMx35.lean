import Derived.Test.YtclgkgaobjcifaaGreatDoorMx34
namespace Go.Proofs.YtclgkgaobjcifaaGreatDoor
open Go.RowKit
set_option maxRecDepth 100000
theorem tk_any (k : Int) (h : 1 ≤ k ∧ k ≤ 12) (s : ByteArray) (hs : s.size = 5 + szF (rqF k)) : tqB k s = mayQ (tkQ k (s.extract 1 (s.size - 4))) ∧ (tqB k s = true → tqR k s = tkQ k (s.extract 1 (s.size - 4))) := by
  rcases kinds12 h with rfl | rfl | rfl | rfl | rfl | rfl | rfl | rfl | rfl | rfl | rfl | rfl
  · exact tk_1 s hs
  · exact tk_2 s hs
  · exact tk_3 s hs
  · exact tk_4 s hs
  · exact tk_5 s hs
  · exact tk_6 s hs
  · exact tk_7 s hs
  · exact tk_8 s hs
  · exact tk_9 s hs
  · exact tk_10 s hs
  · exact tk_11 s hs
  · exact tk_12 s hs
theorem nil_app (s : ByteArray) : (⟨#[]⟩ : ByteArray) ++ s = s := by
  apply ByteArray.ext
  simp
theorem tkQ_kd (k : Int) (h : 1 ≤ k ∧ k ≤ 12) (s : ByteArray) : (tkQ k s).kd = k := by
  rcases kinds12 h with rfl | rfl | rfl | rfl | rfl | rfl | rfl | rfl | rfl | rfl | rfl | rfl <;> rfl
set_option maxHeartbeats 4000000 in
theorem rdec_none (s : ByteArray) (h : s.size = 0) (w : World) : Calls Tryz.prog 26 #[.string s] w fun e w' => e = .returned (.tuple #[.agg (Req.bare 0).cs, .int .i64 120]) ∧ Below w.heap.size w w' := by
  have hse : s = ⟨#[]⟩ := by
    obtain ⟨⟨l⟩⟩ := s
    have : l = [] := List.eq_nil_of_length_eq_zero h
    subst this
    rfl
  have he := empty_eq s hse
  obtain ⟨g, hg⟩ : ∃ g, w.heap.size = g := ⟨_, rfl⟩
  obtain ⟨y, hy⟩ : ∃ Z, w.alloc (.cells #[.int .i64 0, .int .i64 0, .int .i64 0, .int .i64 0, .int .i64 0, .int .i64 0, .string ⟨#[]⟩, .string ⟨#[]⟩, .string ⟨#[]⟩, .string ⟨#[]⟩] 29) = Z := ⟨_, rfl⟩
  have BY : Blk y g #[.int .i64 0, .int .i64 0, .int .i64 0, .int .i64 0, .int .i64 0, .int .i64 0, .string ⟨#[]⟩, .string ⟨#[]⟩, .string ⟨#[]⟩, .string ⟨#[]⟩] 29 := by rw [← hy, ← hg]; exact Blk.new w _ _
  have hby : Below g w y := by rw [← hy, ← hg]; exact (Below.refl _ w).alloc (Nat.le_refl _) _
  have BT := blk_setRow (cells := (Req.bare 0).cs) BY
  have HL := hide (iload_blk 29 _ BT Tryz.underlying29 rfl size_req)
  have HZ := hide BY
  have HBN := hide built_none
  have HO := hide (Req.one (Req.bare 0))
  have HF2 := hide (show Below g w (y.setRow g (Req.bare 0).cs) from below_setRow hby (Nat.le_refl _) _)
  clear BT BY hby h hse
  go_enter Tryz.func26, Tryz.ntmps26
  go_wp2_with (first | refine wpList_buildAs rfl 29 #[] rfl _ rfl (Req.bare 0).cs (unhide HBN) ?_ | refine wpList_store_row rfl 29 (.tmp 2) (.tmp 20) rfl g (Req.bare 0).cs rfl rfl 29 #[.int .i64 0, .int .i64 0, .int .i64 0, .int .i64 0, .int .i64 0, .int .i64 0, .string ⟨#[]⟩, .string ⟨#[]⟩, .string ⟨#[]⟩, .string ⟨#[]⟩] (unhide HZ) size_req rfl (unhide HO) ?_)
  (try simp only [Exit.inBlock, Exit.then])
  refine bodyPost_ret (v := .tuple #[.agg (Req.bare 0).cs, .int .i64 120]) (results_cell2 (p := 2) (q := 3) (ty := 29) rfl _ _ _ ⟨g, 0, none⟩ rfl _ (unhide HL)) rfl ?_
  exact ⟨rfl, by rw [hg]; exact unhide HF2⟩
set_option maxHeartbeats 4000000 in
theorem rdec_kind (s : ByteArray) (h : 0 < s.size) (hk : ¬ (1 ≤ kdS s ∧ kdS s ≤ 12)) (w : World) : Calls Tryz.prog 26 #[.string s] w fun e w' => e = .returned (.tuple #[.agg (Req.bare 0).cs, .int .i64 120]) ∧ Below w.heap.size w w' := by
  have he : s.toList.isEmpty = false := empty_ne (fun e => by rw [e] at h; exact absurd h (by decide))
  have hix : ∀ W, (Instr.index 9 (.string s) (.int .i64 0)).run Tryz.prog W = .ok (.int .u8 (kdS s)) W := fun W => index_str s 0 h W
  generalize kdS s = kd at *
  obtain ⟨g, hg⟩ : ∃ g, w.heap.size = g := ⟨_, rfl⟩
  obtain ⟨y, hy⟩ : ∃ Z, w.alloc (.cells #[.int .i64 0, .int .i64 0, .int .i64 0, .int .i64 0, .int .i64 0, .int .i64 0, .string ⟨#[]⟩, .string ⟨#[]⟩, .string ⟨#[]⟩, .string ⟨#[]⟩] 29) = Z := ⟨_, rfl⟩
  have BY : Blk y g #[.int .i64 0, .int .i64 0, .int .i64 0, .int .i64 0, .int .i64 0, .int .i64 0, .string ⟨#[]⟩, .string ⟨#[]⟩, .string ⟨#[]⟩, .string ⟨#[]⟩] 29 := by rw [← hy, ← hg]; exact Blk.new w _ _
  have hby : Below g w y := by rw [← hy, ← hg]; exact (Below.refl _ w).alloc (Nat.le_refl _) _
  have BT := blk_setRow (cells := (Req.bare 0).cs) BY
  have HL := hide (iload_blk 29 _ BT Tryz.underlying29 rfl size_req)
  have HZ := hide BY
  have HBN := hide built_none
  have HO := hide (Req.one (Req.bare 0))
  have HF2 := hide (show Below g w (y.setRow g (Req.bare 0).cs) from below_setRow hby (Nat.le_refl _) _)
  clear BT BY hby h
  by_cases h0 : kd < 1
  · have h1 : decide (kd < 1) = true := by simpa using h0
    clear hk h0
    go_enter Tryz.func26, Tryz.ntmps26
    go_wp2_with (first | refine wpList_buildAs rfl 29 #[] rfl _ rfl (Req.bare 0).cs (unhide HBN) ?_ | refine wpList_store_row rfl 29 (.tmp 2) (.tmp 20) rfl g (Req.bare 0).cs rfl rfl 29 #[.int .i64 0, .int .i64 0, .int .i64 0, .int .i64 0, .int .i64 0, .int .i64 0, .string ⟨#[]⟩, .string ⟨#[]⟩, .string ⟨#[]⟩, .string ⟨#[]⟩] (unhide HZ) size_req rfl (unhide HO) ?_)
    (try simp only [Exit.inBlock, Exit.then])
    refine bodyPost_ret (v := .tuple #[.agg (Req.bare 0).cs, .int .i64 120]) (results_cell2 (p := 2) (q := 3) (ty := 29) rfl _ _ _ ⟨g, 0, none⟩ rfl _ (unhide HL)) rfl ?_
    exact ⟨rfl, by rw [hg]; exact unhide HF2⟩
  · have h1 : decide (kd < 1) = false := by simpa using h0
    have h2 : decide (kd > 12) = true := by simp; omega
    clear hk h0
    go_enter Tryz.func26, Tryz.ntmps26
    go_wp2_with (first | refine wpList_buildAs rfl 29 #[] rfl _ rfl (Req.bare 0).cs (unhide HBN) ?_ | refine wpList_store_row rfl 29 (.tmp 2) (.tmp 20) rfl g (Req.bare 0).cs rfl rfl 29 #[.int .i64 0, .int .i64 0, .int .i64 0, .int .i64 0, .int .i64 0, .int .i64 0, .string ⟨#[]⟩, .string ⟨#[]⟩, .string ⟨#[]⟩, .string ⟨#[]⟩] (unhide HZ) size_req rfl (unhide HO) ?_)
    (try simp only [Exit.inBlock, Exit.then])
    refine bodyPost_ret (v := .tuple #[.agg (Req.bare 0).cs, .int .i64 120]) (results_cell2 (p := 2) (q := 3) (ty := 29) rfl _ _ _ ⟨g, 0, none⟩ rfl _ (unhide HL)) rfl ?_
    exact ⟨rfl, by rw [hg]; exact unhide HF2⟩
set_option maxHeartbeats 4000000 in
theorem rdec_form (s : ByteArray) (hs : s.size ≤ 140737488351232) (h : 0 < s.size) (hk : 1 ≤ kdS s ∧ kdS s ≤ 12) (hn : ¬ s.size = 5 + szF (rqF (kdS s))) (w : World) : Calls Tryz.prog 26 #[.string s] w fun e w' => e = .returned (.tuple #[.agg (Req.bare 0).cs, .int .i64 121]) ∧ Below w.heap.size w w' := by
  have he : s.toList.isEmpty = false := empty_ne (fun e => by rw [e] at h; exact absurd h (by decide))
  have hix : ∀ W, (Instr.index 9 (.string s) (.int .i64 0)).run Tryz.prog W = .ok (.int .u8 (kdS s)) W := fun W => index_str s 0 h W
  have h1 : decide (kdS s < 1) = false := by simp; omega
  have h2 : decide (kdS s > 12) = false := by simp; omega
  have hw : wrap64 (kdS s) = kdS s := wrap64_eq _ (by omega) (by omega)
  have HSI := hide (fun W => rsize_any (kdS s) hk W)
  have hsz := szF_le (rqF (kdS s)) (fun f hf => (rqF_all (kdS s) f hf).isF)
  have hrl := rqF_len (kdS s)
  generalize szF (rqF (kdS s)) = Z at *
  generalize kdS s = kd at *
  have hM : IntKind.i64.wrap (1 + (Z : Int)) = ((1 + Z : Nat) : Int) := by rw [wrapI_eq _ (by omega) (by omega)]; omega
  have hn4 : wrap64 ((s.size : Int) - 4) = (s.size : Int) - 4 := wrap64_eq _ (by omega) (by omega)
  have hne : ((s.size : Int) - 4 != ((1 + Z : Nat) : Int)) = true := by
    simp
    omega
  generalize (1 + Z : Nat) = M at *
  obtain ⟨g, hg⟩ : ∃ g, w.heap.size = g := ⟨_, rfl⟩
  obtain ⟨y, hy⟩ : ∃ Z, w.alloc (.cells #[.int .i64 0, .int .i64 0, .int .i64 0, .int .i64 0, .int .i64 0, .int .i64 0, .string ⟨#[]⟩, .string ⟨#[]⟩, .string ⟨#[]⟩, .string ⟨#[]⟩] 29) = Z := ⟨_, rfl⟩
  have BY : Blk y g #[.int .i64 0, .int .i64 0, .int .i64 0, .int .i64 0, .int .i64 0, .int .i64 0, .string ⟨#[]⟩, .string ⟨#[]⟩, .string ⟨#[]⟩, .string ⟨#[]⟩] 29 := by rw [← hy, ← hg]; exact Blk.new w _ _
  have hby : Below g w y := by rw [← hy, ← hg]; exact (Below.refl _ w).alloc (Nat.le_refl _) _
  have HY := hide (And.intro BY hby)
  clear BY hby hk hsz hrl hn h
  go_enter Tryz.func26, Tryz.ntmps26
  go_wp2
  refine wp_region_held_drew (S := fun _ => True) (by kernel_rfl) trivial ?_
  intro hS
  refine wpAnyH_takeD 0 (some 27) (.int .i64 ((s.size : Int) - 4)) rfl rfl (by kernel_rfl) (by kernel_rfl) (by kernel_rfl) (fun _ _ _ h => h) (Or.inl ⟨by rfl, fun w hSw => by clear hSw; go_simp⟩) hS ?_
  simp only [Act.put, List.setIfInBounds_toArray, List.set_cons_zero, List.set_cons_succ]
  refine wpAnyH_takeD 1 (some 28) (.int .i64 kd) rfl rfl (by kernel_rfl) (by kernel_rfl) (by kernel_rfl) (fun _ _ _ h => h) (Or.inl ⟨by rfl, fun w hSw => by clear hSw; go_simp⟩) hS ?_
  simp only [Act.put, List.setIfInBounds_toArray, List.set_cons_zero, List.set_cons_succ]
  refine wpAnyH_ready (rs := [2]) (by kernel_rfl) (by simp) ?_
  refine AllReadyH.cons rfl (fun K hK => ?_) AllReadyH.nil
  simp only [List.getElem_toArray, List.getElem_cons_succ, List.getElem_cons_zero]
  go_simp
  refine (unhide HSI _).mono ?_
  rintro e xA ⟨rfl, hbA⟩
  have HPA := hide (show Below y.heap.size y xA from ((Below.refl _ y).drew).trans hbA)
  clear hbA
  refine hK.out _ _ trivial (fun hS => ?_)
  clear hK K
  refine wpAnyH_takeD 3 (some 30) (.int .i64 (M : Int)) rfl rfl (by kernel_rfl) (by kernel_rfl) (by kernel_rfl) (fun _ _ _ h => h) (Or.inl ⟨by rfl, fun w hSw => by clear hSw; go_simp⟩) hS ?_
  simp only [Act.put, List.setIfInBounds_toArray, List.set_cons_zero, List.set_cons_succ]
  refine wpAnyH_takeD 4 (some 31) (.bool true) rfl rfl (by kernel_rfl) (by kernel_rfl) (by kernel_rfl) (fun _ _ _ h => h) (Or.inl ⟨by rfl, fun w hSw => by clear hSw; go_simp⟩) hS ?_
  simp only [Act.put, List.setIfInBounds_toArray, List.set_cons_zero, List.set_cons_succ]
  refine wpAnyH_takeD 5 (some 32) (.bool true) rfl rfl (by kernel_rfl) (by kernel_rfl) (by kernel_rfl) (fun _ _ _ h => h) (Or.inl ⟨by rfl, fun w hSw => by clear hSw; go_simp⟩) hS ?_
  simp only [Act.put, List.setIfInBounds_toArray, List.set_cons_zero, List.set_cons_succ]
  refine wpAnyH_takeD 6 (some 33) undef rfl rfl (by kernel_rfl) (by kernel_rfl) (by kernel_rfl) (fun _ _ _ h => h) (Or.inr ⟨by rfl, rfl⟩) hS ?_
  simp only [Act.put, List.setIfInBounds_toArray, List.set_cons_zero, List.set_cons_succ]
  refine wpAnyH_takeD 7 (some 34) undef rfl rfl (by kernel_rfl) (by kernel_rfl) (by kernel_rfl) (fun _ _ _ h => h) (Or.inr ⟨by rfl, rfl⟩) hS ?_
  simp only [Act.put, List.setIfInBounds_toArray, List.set_cons_zero, List.set_cons_succ]
  refine wpAnyH_takeD 8 (some 35) undef rfl rfl (by kernel_rfl) (by kernel_rfl) (by kernel_rfl) (fun _ _ _ h => h) (Or.inr ⟨by rfl, rfl⟩) hS ?_
  simp only [Act.put, List.setIfInBounds_toArray, List.set_cons_zero, List.set_cons_succ]
  refine wpAnyH_takeD 9 (some 36) undef rfl rfl (by kernel_rfl) (by kernel_rfl) (by kernel_rfl) (fun _ _ _ h => h) (Or.inr ⟨by rfl, rfl⟩) hS ?_
  simp only [Act.put, List.setIfInBounds_toArray, List.set_cons_zero, List.set_cons_succ]
  refine wpAnyH_takeD 10 (some 37) undef rfl rfl (by kernel_rfl) (by kernel_rfl) (by kernel_rfl) (fun _ _ _ h => h) (Or.inr ⟨by rfl, rfl⟩) hS ?_
  simp only [Act.put, List.setIfInBounds_toArray, List.set_cons_zero, List.set_cons_succ]
  refine wpAnyH_takeD 11 (some 38) undef rfl rfl (by kernel_rfl) (by kernel_rfl) (by kernel_rfl) (fun _ _ _ h => h) (Or.inr ⟨by rfl, rfl⟩) hS ?_
  simp only [Act.put, List.setIfInBounds_toArray, List.set_cons_zero, List.set_cons_succ]
  refine wpAnyH_takeD 12 (some 39) undef rfl rfl (by kernel_rfl) (by kernel_rfl) (by kernel_rfl) (fun _ _ _ h => h) (Or.inr ⟨by rfl, rfl⟩) hS ?_
  simp only [Act.put, List.setIfInBounds_toArray, List.set_cons_zero, List.set_cons_succ]
  refine wpAnyH_takeD 13 (some 40) undef rfl rfl (by kernel_rfl) (by kernel_rfl) (by kernel_rfl) (fun _ _ _ h => h) (Or.inr ⟨by rfl, rfl⟩) hS ?_
  simp only [Act.put, List.setIfInBounds_toArray, List.set_cons_zero, List.set_cons_succ]
  refine wpAnyH_takeD 14 (some 41) undef rfl rfl (by kernel_rfl) (by kernel_rfl) (by kernel_rfl) (fun _ _ _ h => h) (Or.inr ⟨by rfl, rfl⟩) hS ?_
  simp only [Act.put, List.setIfInBounds_toArray, List.set_cons_zero, List.set_cons_succ]
  refine wpAnyH_takeD 15 (some 42) (.bool true) rfl rfl (by kernel_rfl) (by kernel_rfl) (by kernel_rfl) (fun _ _ _ h => h) (Or.inl ⟨by rfl, fun w hSw => by clear hSw; go_simp⟩) hS ?_
  simp only [Act.put, List.setIfInBounds_toArray, List.set_cons_zero, List.set_cons_succ]
  refine wpAnyH_done (by kernel_rfl) ?_ _
  obtain ⟨BY, hby⟩ := unhide HY
  have B5 := BY.below (unhide HPA) BY.lt
  have hbw5 : Below g w xA := hby.trans ((unhide HPA).mono (by have := BY.lt; omega))
  have BT := blk_setRow (cells := (Req.bare 0).cs) B5
  have HL := hide (iload_blk 29 _ BT Tryz.underlying29 rfl size_req)
  have HZ := hide B5
  have HBN := hide built_none
  have HO := hide (Req.one (Req.bare 0))
  have HF2 := hide (show Below g w (xA.setRow g (Req.bare 0).cs) from below_setRow hbw5 (Nat.le_refl _) _)
  clear BT BY hby B5 hbw5
  go_wp2_with (first | refine wpList_buildAs rfl 29 #[] rfl _ rfl (Req.bare 0).cs (unhide HBN) ?_ | refine wpList_store_row rfl 29 (.tmp 2) (.tmp 43) rfl g (Req.bare 0).cs rfl rfl 29 #[.int .i64 0, .int .i64 0, .int .i64 0, .int .i64 0, .int .i64 0, .int .i64 0, .string ⟨#[]⟩, .string ⟨#[]⟩, .string ⟨#[]⟩, .string ⟨#[]⟩] (unhide HZ) size_req rfl (unhide HO) ?_)
  (try simp only [Exit.inBlock, Exit.then])
  refine bodyPost_ret (v := .tuple #[.agg (Req.bare 0).cs, .int .i64 121]) (results_cell2 (p := 2) (q := 3) (ty := 29) rfl _ _ _ ⟨g, 0, none⟩ rfl _ (unhide HL)) rfl ?_
  exact ⟨rfl, by rw [hg]; exact unhide HF2⟩
set_option maxHeartbeats 8000000 in
theorem rdec_rest (s : ByteArray) (h : 0 < s.size) (hk : 1 ≤ kdS s ∧ kdS s ≤ 12) (hn : s.size = 5 + szF (rqF (kdS s))) (w : World) : Calls Tryz.prog 26 #[.string s] w fun e w' => e = .returned (.tuple #[.agg (decR s).cs, .int .i64 (decE s)]) ∧ Below w.heap.size w w' := by
  have he : s.toList.isEmpty = false := empty_ne (fun e => by rw [e] at h; exact absurd h (by decide))
  have hix : ∀ W, (Instr.index 9 (.string s) (.int .i64 0)).run Tryz.prog W = .ok (.int .u8 (kdS s)) W := fun W => index_str s 0 h W
  have h1 : decide (kdS s < 1) = false := by simp; omega
  have h2 : decide (kdS s > 12) = false := by simp; omega
  have hw : wrap64 (kdS s) = kdS s := wrap64_eq _ (by omega) (by omega)
  have HSI := hide (fun W => rsize_any (kdS s) hk W)
  have hsz := szF_le (rqF (kdS s)) (fun f hf => (rqF_all (kdS s) f hf).isF)
  have hrl := rqF_len (kdS s)
  have hko : kdO s := ⟨h, hk⟩
  obtain ⟨t1, t2⟩ := tk_any (kdS s) hk s hn
  obtain ⟨E, hE⟩ : ∃ E, s.size = E + 4 := ⟨1 + szF (rqF (kdS s)), by omega⟩
  have hE1 : (1 : Int) ≤ (E : Int) := by omega
  have hE4 : s.size - 4 = E := by omega
  have hZE : 1 + szF (rqF (kdS s)) = E := by omega
  have hTK := fun W => taken_any (kdS s) hk (s.extract 1 E) (by simp; omega) W
  rw [hE4] at t1 t2
  have hMA := fun W => may_any (tkQ (kdS s) (s.extract 1 E)) (by rw [tkQ_kd _ hk]; exact hk) W
  have hfr : frB s (rqF (kdS s)) ⟨#[]⟩ = ckB ⟨#[]⟩ s := by rw [frB, if_pos hn]
  have hdr : decR s = (if ckB ⟨#[]⟩ s = true then (if tqB (kdS s) s = true then tqR (kdS s) s else Req.bare 0) else Req.bare 0) := by rw [decR, if_pos hko, hfr]
  have hde : decE s = (if ckB ⟨#[]⟩ s = true then (if tqB (kdS s) s = true then 0 else 122) else 121) := by rw [decE, if_pos hko, hfr]
  have hck : ckB ⟨#[]⟩ s = ((strOfNums (le4 (chkN (nums (s.extract 0 E))))).toList == (s.extract E s.size).toList) := by rw [ckB, nil_app, hE4]
  have HCK := hide (fun W => rcheck_any (s.extract 0 E) (by simp; omega) W)
  have HLO := hide (fun W => low4_any (chkN (nums (s.extract 0 E))) (chkN_lt _) W)
  obtain ⟨TQ, hTQ⟩ : ∃ Z, tkQ (kdS s) (s.extract 1 E) = Z := ⟨_, rfl⟩
  rw [hTQ] at t1 t2 hTK hMA
  have HTK := hide hTK
  have HMA := hide hMA
  have HDR := hide (And.intro hdr (And.intro hde (And.intro hck (And.intro t1 t2))))
  generalize decR s = DR at *
  generalize decE s = DE at *
  generalize ckB ⟨#[]⟩ s = CB at *
  generalize tqB (kdS s) s = TB at *
  generalize tqR (kdS s) s = TR at *
  generalize mayQ TQ = MB at *
  generalize szF (rqF (kdS s)) = Z at *
  generalize kdS s = kd at *
  generalize chkN (nums (s.extract 0 E)) = C at *
  generalize strOfNums (le4 C) = K4 at *
  obtain ⟨A1, hA1⟩ : ∃ Z, s.extract 0 E = Z := ⟨_, rfl⟩
  obtain ⟨A3, hA3⟩ : ∃ Z, s.extract E (E + 4) = Z := ⟨_, rfl⟩
  obtain ⟨A5, hA5⟩ : ∃ Z, s.extract 1 E = Z := ⟨_, rfl⟩
  rw [hA1] at HCK
  rw [hA5] at HTK
  rw [hE, hA3] at HDR
  have hM : IntKind.i64.wrap (1 + (Z : Int)) = (E : Int) := by rw [wrapI_eq _ (by omega) (by omega)]; omega
  have hwE : wrap64 (E : Int) = (E : Int) := wrap64_eq _ (by omega) (by omega)
  have hle : (E : Int) ≤ (E : Int) + 4 := Int.le_add_of_nonneg_right (by decide)
  have hle2 : E ≤ E + 4 := Nat.le_add_right _ _
  obtain ⟨D, hD⟩ : ∃ Z, (A3.toList != K4.toList) = Z := ⟨_, rfl⟩
  have hD2 : (A3.toList == K4.toList) = !D := by rw [← hD, show (A3.toList != K4.toList) = !(A3.toList == K4.toList) from rfl, Bool.not_not]
  have HDC := hide (show D = !CB by
    have h := (unhide HDR).2.2.1
    rw [h, ← hD, show (A3.toList != K4.toList) = !(A3.toList == K4.toList) from rfl, Bool.beq_comm])
  obtain ⟨g, hg⟩ : ∃ g, w.heap.size = g := ⟨_, rfl⟩
  obtain ⟨y, hy⟩ : ∃ Z, w.alloc (.cells #[.int .i64 0, .int .i64 0, .int .i64 0, .int .i64 0, .int .i64 0, .int .i64 0, .string ⟨#[]⟩, .string ⟨#[]⟩, .string ⟨#[]⟩, .string ⟨#[]⟩] 29) = Z := ⟨_, rfl⟩
  have BY : Blk y g #[.int .i64 0, .int .i64 0, .int .i64 0, .int .i64 0, .int .i64 0, .int .i64 0, .string ⟨#[]⟩, .string ⟨#[]⟩, .string ⟨#[]⟩, .string ⟨#[]⟩] 29 := by rw [← hy, ← hg]; exact Blk.new w _ _
  have hby : Below g w y := by rw [← hy, ← hg]; exact (Below.refl _ w).alloc (Nat.le_refl _) _
  have HY := hide (And.intro BY hby)
  clear BY hby hk hsz hrl hn h hko hfr hdr hde hck t1 t2 hTK hMA hTQ hE4 hZE
  go_enter Tryz.func26, Tryz.ntmps26
  go_wp2
  refine wp_region_held_drew (S := fun _ => True) (by kernel_rfl) trivial ?_
  intro hS
  refine wpAnyH_takeD 0 (some 27) (.int .i64 (E : Int)) rfl rfl (by kernel_rfl) (by kernel_rfl) (by kernel_rfl) (fun _ _ _ h => h) (Or.inl ⟨by rfl, fun w hSw => by clear hSw; go_simp; try omega⟩) hS ?_
  simp only [Act.put, List.setIfInBounds_toArray, List.set_cons_zero, List.set_cons_succ]
  refine wpAnyH_takeD 1 (some 28) (.int .i64 kd) rfl rfl (by kernel_rfl) (by kernel_rfl) (by kernel_rfl) (fun _ _ _ h => h) (Or.inl ⟨by rfl, fun w hSw => by clear hSw; go_simp; try omega⟩) hS ?_
  simp only [Act.put, List.setIfInBounds_toArray, List.set_cons_zero, List.set_cons_succ]
  refine wpAnyH_ready (rs := [2]) (by kernel_rfl) (by simp) ?_
  refine AllReadyH.cons rfl (fun K hK => ?_) AllReadyH.nil
  simp only [List.getElem_toArray, List.getElem_cons_succ, List.getElem_cons_zero]
  go_simp
  refine (unhide HSI _).mono ?_
  rintro e xA ⟨rfl, hbA⟩
  have HPA := hide (show Below y.heap.size y xA from ((Below.refl _ y).drew).trans hbA)
  clear hbA
  refine hK.out _ _ trivial (fun hS => ?_)
  clear hK K
  refine wpAnyH_takeD 3 (some 30) (.int .i64 (E : Int)) rfl rfl (by kernel_rfl) (by kernel_rfl) (by kernel_rfl) (fun _ _ _ h => h) (Or.inl ⟨by rfl, fun w hSw => by clear hSw; go_simp; try omega⟩) hS ?_
  simp only [Act.put, List.setIfInBounds_toArray, List.set_cons_zero, List.set_cons_succ]
  refine wpAnyH_takeD 4 (some 31) (.bool false) rfl rfl (by kernel_rfl) (by kernel_rfl) (by kernel_rfl) (fun _ _ _ h => h) (Or.inl ⟨by rfl, fun w hSw => by clear hSw; go_simp; try omega⟩) hS ?_
  simp only [Act.put, List.setIfInBounds_toArray, List.set_cons_zero, List.set_cons_succ]
  refine wpAnyH_takeD 5 (some 32) (.bool false) rfl rfl (by kernel_rfl) (by kernel_rfl) (by kernel_rfl) (fun _ _ _ h => h) (Or.inl ⟨by rfl, fun w hSw => by clear hSw; go_simp; try omega⟩) hS ?_
  simp only [Act.put, List.setIfInBounds_toArray, List.set_cons_zero, List.set_cons_succ]
  refine wpAnyH_takeD 6 (some 33) (.string s) rfl rfl (by kernel_rfl) (by kernel_rfl) (by kernel_rfl) (fun _ _ _ h => h) (Or.inl ⟨by rfl, fun w hSw => by clear hSw; go_simp; try omega⟩) hS ?_
  simp only [Act.put, List.setIfInBounds_toArray, List.set_cons_zero, List.set_cons_succ]
  refine wpAnyH_takeD 7 (some 34) (.int .i64 (E : Int)) rfl rfl (by kernel_rfl) (by kernel_rfl) (by kernel_rfl) (fun _ _ _ h => h) (Or.inl ⟨by rfl, fun w hSw => by clear hSw; go_simp; try omega⟩) hS ?_
  simp only [Act.put, List.setIfInBounds_toArray, List.set_cons_zero, List.set_cons_succ]
  refine wpAnyH_takeD 8 (some 35) (.string A3) rfl rfl (by kernel_rfl) (by kernel_rfl) (by kernel_rfl) (fun _ _ _ h => h) (Or.inl ⟨by rfl, fun w hSw => by clear hSw; go_simp; try omega⟩) hS ?_
  simp only [Act.put, List.setIfInBounds_toArray, List.set_cons_zero, List.set_cons_succ]
  refine wpAnyH_takeD 9 (some 36) (.string s) rfl rfl (by kernel_rfl) (by kernel_rfl) (by kernel_rfl) (fun _ _ _ h => h) (Or.inl ⟨by rfl, fun w hSw => by clear hSw; go_simp; try omega⟩) hS ?_
  simp only [Act.put, List.setIfInBounds_toArray, List.set_cons_zero, List.set_cons_succ]
  refine wpAnyH_takeD 10 (some 37) (.int .i64 (E : Int)) rfl rfl (by kernel_rfl) (by kernel_rfl) (by kernel_rfl) (fun _ _ _ h => h) (Or.inl ⟨by rfl, fun w hSw => by clear hSw; go_simp; try omega⟩) hS ?_
  simp only [Act.put, List.setIfInBounds_toArray, List.set_cons_zero, List.set_cons_succ]
  refine wpAnyH_takeD 11 (some 38) (.string A1) rfl rfl (by kernel_rfl) (by kernel_rfl) (by kernel_rfl) (fun _ _ _ h => h) (Or.inl ⟨by rfl, fun w hSw => by clear hSw; go_simp; try omega⟩) hS ?_
  simp only [Act.put, List.setIfInBounds_toArray, List.set_cons_zero, List.set_cons_succ]
  refine wpAnyH_ready (rs := [12]) (by kernel_rfl) (by simp) ?_
  refine AllReadyH.cons rfl (fun K hK => ?_) AllReadyH.nil
  simp only [List.getElem_toArray, List.getElem_cons_succ, List.getElem_cons_zero]
  go_simp
  refine (unhide HCK _).mono ?_
  rintro e xB ⟨rfl, hbA⟩
  subst xB
  refine hK.out _ _ trivial (fun hS => ?_)
  clear hK K
  refine wpAnyH_ready (rs := [13]) (by kernel_rfl) (by simp) ?_
  refine AllReadyH.cons rfl (fun K hK => ?_) AllReadyH.nil
  simp only [List.getElem_toArray, List.getElem_cons_succ, List.getElem_cons_zero]
  go_simp
  refine (unhide HLO _).mono ?_
  rintro e xD ⟨rfl, hbA⟩
  have HPD := hide (show Below y.heap.size y xD from (unhide HPA).trans (hbA.mono (unhide HPA).size))
  clear hbA
  refine hK.out _ _ trivial (fun hS => ?_)
  clear hK K
  refine wpAnyH_takeD 14 (some 41) (.bool D) rfl rfl (by kernel_rfl) (by kernel_rfl) (by kernel_rfl) (fun _ _ _ h => h) (Or.inl ⟨by rfl, fun w hSw => by clear hSw; go_simp; try omega⟩) hS ?_
  simp only [Act.put, List.setIfInBounds_toArray, List.set_cons_zero, List.set_cons_succ]
  refine wpAnyH_takeD 15 (some 42) (.bool D) rfl rfl (by kernel_rfl) (by kernel_rfl) (by kernel_rfl) (fun _ _ _ h => h) (Or.inl ⟨by rfl, fun w hSw => by clear hSw; go_simp; try omega⟩) hS ?_
  simp only [Act.put, List.setIfInBounds_toArray, List.set_cons_zero, List.set_cons_succ]
  refine wpAnyH_done (by kernel_rfl) ?_ _
  obtain ⟨BY, hby⟩ := unhide HY
  have B5 := BY.below (unhide HPD) BY.lt
  have hbw5 : Below g w xD := hby.trans ((unhide HPD).mono (by have := BY.lt; omega))
  have hdc := unhide HDC
  cases CB with
  | false =>
    obtain rfl : D = true := hdc
    have HD := hide (show DR = Req.bare 0 ∧ DE = 121 from ⟨(unhide HDR).1, (unhide HDR).2.1⟩)
    have BT := blk_setRow (cells := (Req.bare 0).cs) B5
    have HL := hide (iload_blk 29 _ BT Tryz.underlying29 rfl size_req)
    have HZ := hide B5
    have HBN := hide built_none
    have HO := hide (Req.one (Req.bare 0))
    have HF2 := hide (show Below g w (xD.setRow g (Req.bare 0).cs) from below_setRow hbw5 (Nat.le_refl _) _)
    clear BT BY hby B5 hbw5
    go_wp2_with (first | refine wpList_buildAs rfl 29 #[] rfl _ rfl (Req.bare 0).cs (unhide HBN) ?_ | refine wpList_store_row rfl 29 (.tmp 2) (.tmp 43) rfl g (Req.bare 0).cs rfl rfl 29 #[.int .i64 0, .int .i64 0, .int .i64 0, .int .i64 0, .int .i64 0, .int .i64 0, .string ⟨#[]⟩, .string ⟨#[]⟩, .string ⟨#[]⟩, .string ⟨#[]⟩] (unhide HZ) size_req rfl (unhide HO) ?_)
    (try simp only [Exit.inBlock, Exit.then])
    refine bodyPost_ret (v := .tuple #[.agg (Req.bare 0).cs, .int .i64 121]) (results_cell2 (p := 2) (q := 3) (ty := 29) rfl _ _ _ ⟨g, 0, none⟩ rfl _ (unhide HL)) rfl ?_
    exact ⟨by rw [(unhide HD).1, (unhide HD).2], by rw [hg]; exact unhide HF2⟩
  | true =>
    obtain rfl : D = false := hdc
    have HD := hide (show DR = (if TB = true then TR else Req.bare 0) ∧ DE = (if TB = true then 0 else 122) ∧ TB = MB ∧ (TB = true → TR = TQ) from ⟨(unhide HDR).1, (unhide HDR).2.1, (unhide HDR).2.2.2.1, (unhide HDR).2.2.2.2⟩)
    have H5 := hide (And.intro B5 hbw5)
    clear BY hby B5 hbw5 HDR HDC HY
    go_wp2_with fail
    refine (unhide HTK _).mono ?_
    rintro e x5 ⟨rfl, hO5⟩
    obtain ⟨B4, hbw4⟩ := unhide H5
    have B5 := B4.below hO5 B4.lt
    have hg4 := B4.lt
    have hbw5 : Below g w x5 := hbw4.trans (hO5.mono (by omega))
    obtain ⟨h, hh⟩ : ∃ h, x5.heap.size = h := ⟨_, rfl⟩
    obtain ⟨y6, hy6⟩ : ∃ Z, x5.alloc (.cells #[.int .i64 0, .int .i64 0, .int .i64 0, .int .i64 0, .int .i64 0, .int .i64 0, .string ⟨#[]⟩, .string ⟨#[]⟩, .string ⟨#[]⟩, .string ⟨#[]⟩] 29) = Z := ⟨_, rfl⟩
    have BN6 : Blk y6 h #[.int .i64 0, .int .i64 0, .int .i64 0, .int .i64 0, .int .i64 0, .int .i64 0, .string ⟨#[]⟩, .string ⟨#[]⟩, .string ⟨#[]⟩, .string ⟨#[]⟩] 29 := by rw [← hy6, ← hh]; exact Blk.new x5 _ _
    have hb6 : Below h x5 y6 := by rw [← hy6, ← hh]; exact (Below.refl _ x5).alloc (Nat.le_refl _) _
    have hg5 : g < h := by rw [← hh]; exact B5.lt
    have B6 := B5.below hb6 hg5
    have HZN := hide BN6
    have HON := hide (Req.one TQ)
    have BN7 : Blk (y6.setRow h TQ.cs) h TQ.cs 29 := blk_setRow BN6
    have B7 : Blk (y6.setRow h TQ.cs) g #[.int .i64 0, .int .i64 0, .int .i64 0, .int .i64 0, .int .i64 0, .int .i64 0, .string ⟨#[]⟩, .string ⟨#[]⟩, .string ⟨#[]⟩, .string ⟨#[]⟩] 29 := blk_setRow_other B6 (by omega)
    have hbw7 : Below g w (y6.setRow h TQ.cs) := below_setRow (hbw5.trans (hb6.mono (by omega))) (by omega) _
    obtain ⟨x7, hx7⟩ : ∃ Z, y6.setRow h TQ.cs = Z := ⟨_, rfl⟩
    rw [hx7] at BN7 B7 hbw7
    have HRT := hide (show x7.rangeAt h 0 TQ.cl from blk_range BN7)
    have HRT2 := hide (show (y6.setRow h TQ.cs).rangeAt h 0 TQ.cl by rw [hx7]; exact unhide HRT)
    have HMA7 := hide (unhide HMA x7)
    have H7 := hide (And.intro B7 (And.intro BN7 hbw7))
    clear B4 hbw4 B5 hbw5 BN6 hb6 B6 BN7 hO5 H5 B7 hbw7
    go_wp2_with (first | refine wpList_store_row rfl 29 (.tmp 6) (.tmp 48) rfl h TQ.cs rfl rfl 29 #[.int .i64 0, .int .i64 0, .int .i64 0, .int .i64 0, .int .i64 0, .int .i64 0, .string ⟨#[]⟩, .string ⟨#[]⟩, .string ⟨#[]⟩, .string ⟨#[]⟩] (unhide HZN) size_req rfl (unhide HON) ?_ | refine wpList_load_mid rfl 29 (.tmp 6) rfl h 0 rfl TQ.cl _ (unhide HRT2) Tryz.underlying29 rfl size_req ?_ | refine wpList_load_mid rfl 29 (.tmp 6) rfl h 0 rfl TQ.cl _ (unhide HRT) Tryz.underlying29 rfl size_req ?_)
    (try rw [hx7])
    refine (unhide HMA7).mono ?_
    rintro e x8 ⟨rfl, hb8⟩
    obtain ⟨B7, BN7, hbw7⟩ := unhide H7
    have B8 := B7.below hb8 B7.lt
    have BN8 := BN7.below hb8 BN7.lt
    have hbw8 : Below g w x8 := hbw7.trans (hb8.mono (by have := B7.lt; omega))
    have HR8 := hide (show x8.rangeAt h 0 TQ.cl from blk_range BN8)
    obtain ⟨q1, q2, q3, q4⟩ := unhide HD
    clear B7 BN7 hbw7 BN8 hb8 H7 HMA7 HRT HZN HD
    subst q3
    cases TB with
    | false =>
      have HD2 := hide (show DR = Req.bare 0 ∧ DE = 122 from ⟨q1, q2⟩)
      have BT := blk_setRow (cells := (Req.bare 0).cs) B8
      have HL := hide (iload_blk 29 _ BT Tryz.underlying29 rfl size_req)
      have HZ := hide B8
      have HBN := hide built_none
      have HO := hide (Req.one (Req.bare 0))
      have HF2 := hide (show Below g w (x8.setRow g (Req.bare 0).cs) from below_setRow hbw8 (Nat.le_refl _) _)
      clear BT B8 hbw8 q1 q2 q4
      go_wp2_with (first | refine wpList_buildAs rfl 29 #[] rfl _ rfl (Req.bare 0).cs (unhide HBN) ?_ | refine wpList_store_row rfl 29 (.tmp 2) (.tmp 53) rfl g (Req.bare 0).cs rfl rfl 29 #[.int .i64 0, .int .i64 0, .int .i64 0, .int .i64 0, .int .i64 0, .int .i64 0, .string ⟨#[]⟩, .string ⟨#[]⟩, .string ⟨#[]⟩, .string ⟨#[]⟩] (unhide HZ) size_req rfl (unhide HO) ?_)
      (try simp only [Exit.inBlock, Exit.then])
      refine bodyPost_ret (v := .tuple #[.agg (Req.bare 0).cs, .int .i64 122]) (results_cell2 (p := 2) (q := 3) (ty := 29) rfl _ _ _ ⟨g, 0, none⟩ rfl _ (unhide HL)) rfl ?_
      exact ⟨by rw [(unhide HD2).1, (unhide HD2).2], by rw [hg]; exact unhide HF2⟩
    | true =>
      have HD2 := hide (show DR = TQ ∧ DE = 0 from ⟨q1.trans (q4 rfl), q2⟩)
      have BT := blk_setRow (cells := TQ.cs) B8
      have HL := hide (iload_blk 29 _ BT Tryz.underlying29 rfl size_req)
      have HZ := hide B8
      have HF2 := hide (show Below g w (x8.setRow g TQ.cs) from below_setRow hbw8 (Nat.le_refl _) _)
      clear BT B8 hbw8 q1 q2 q4
      go_wp2_with (first | refine wpList_load_mid rfl 29 (.tmp 6) rfl h 0 rfl TQ.cl _ (unhide HR8) Tryz.underlying29 rfl size_req ?_ | refine wpList_store_row rfl 29 (.tmp 2) (.tmp 54) rfl g TQ.cs rfl rfl 29 #[.int .i64 0, .int .i64 0, .int .i64 0, .int .i64 0, .int .i64 0, .int .i64 0, .string ⟨#[]⟩, .string ⟨#[]⟩, .string ⟨#[]⟩, .string ⟨#[]⟩] (unhide HZ) size_req rfl (unhide HON) ?_)
      (try simp only [Exit.inBlock, Exit.then])
      refine bodyPost_ret (v := .tuple #[.agg TQ.cs, .int .i64 0]) (results_cell2 (p := 2) (q := 3) (ty := 29) rfl _ _ _ ⟨g, 0, none⟩ rfl _ (unhide HL)) rfl ?_
      exact ⟨by rw [(unhide HD2).1, (unhide HD2).2], by rw [hg]; exact unhide HF2⟩
theorem rdecode_any (s : ByteArray) (hs : s.size ≤ 140737488351232) (w : World) : Calls Tryz.prog 26 #[.string s] w fun e w' => e = .returned (.tuple #[.agg (decR s).cs, .int .i64 (decE s)]) ∧ Below w.heap.size w w' := by
  by_cases h : 0 < s.size
  · by_cases hk : 1 ≤ kdS s ∧ kdS s ≤ 12
    · by_cases hn : s.size = 5 + szF (rqF (kdS s))
      · exact rdec_rest s h hk hn w
      · have hko : kdO s := ⟨h, hk⟩
        have hf : ¬ frB s (rqF (kdS s)) ⟨#[]⟩ = true := by rw [frB, if_neg hn]; decide
        rw [decR, decE, if_pos hko, if_pos hko, if_neg hf, if_neg hf]
        exact rdec_form s hs h hk hn w
    · have hn : ¬ kdO s := fun q => hk q.2
      rw [decR, decE, if_neg hn, if_neg hn]
      exact rdec_kind s h hk w
  · have hn : ¬ kdO s := fun q => h q.1
    rw [decR, decE, if_neg hn, if_neg hn]
    exact rdec_none s (by omega) w
end Go.Proofs.YtclgkgaobjcifaaGreatDoor
