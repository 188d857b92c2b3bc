import Derived.Test.YtclgkgaobjcifaaGreatDoorMx23
import Derived.Test.YtclgkgaobjcifaaGreatDoorMx27
import Derived.Test.YtclgkgaobjcifaaGreatDoorMx08
import Derived.Deep.DeepCutAuto
namespace Go.Proofs.YtclgkgaobjcifaaGreatDoor
open Go.RowKit
set_option maxRecDepth 100000
theorem RM.says {st : Int} {N : Nat} {r : Rep} {a : PR} {w : World} (h : RM st N r a w) : Says st r a := ⟨h.st, h.qu, h.ch, h.no, h.wr, h.da, h.v.1, h.p.1⟩
/-- what the document reads is what the program reads -/
theorem dec_case (k : Nat) (hk : k ≤ 12) (s : ByteArray) (hfr : frB s (rpF (k : Int)) (strOfNums [(k : Int)]) = true) (st : Int) (hst : (nums s).getD 0 0 = st) (O : Option PR) (hO : (if 0 ≤ st ∧ st ≤ 13 then drO (k : Int) st s else none) = O) (TP : PR) (hTP : toldP (k : Int) st s = TP) (r : Rep) (hS : Says st r TP) :
    (O = some TP ∧ (0 ≤ st ∧ st ≤ 13) ∧ lyB (k : Int) r TP.V TP.Pl = true ∧ frmB k r TP.V TP.Pl = s) ∨ (O = none ∧ ((0 ≤ st ∧ st ≤ 13) → lyB (k : Int) r TP.V TP.Pl = true → frmB k r TP.V TP.Pl ≠ s)) := by
  cases O with
  | none => exact .inr ⟨rfl, fun h1 h2 => dec_no k hk s st hst hO r TP.V TP.Pl (by rw [hS.st]; exact h1) hS.vm.symm hS.pm.symm h2⟩
  | some a =>
    by_cases h13 : 0 ≤ st ∧ st ≤ 13
    · rw [if_pos h13] at hO
      obtain ⟨e1, e2⟩ := dec_yes k hk s hfr st hst a hO
      have ea : a = TP := e1.symm.trans hTP
      subst ea
      obtain ⟨t1, t2⟩ := e2 r hS
      exact .inl ⟨rfl, h13, t1, t2⟩
    · rw [if_neg h13] at hO
      exact absurd hO (by simp)
set_option maxHeartbeats 4000000 in
theorem rdecR_kind (kd : Int) (h : ¬ (0 ≤ kd ∧ kd ≤ 12)) (s : ByteArray) (w : World) : Calls Tryz.prog 21 #[.int .i64 kd, .string s] w fun e w' => e = .returned (.tuple #[.agg (Rep.bare 0).cs, .int .i64 120]) ∧ Below w.heap.size w w' := by
  obtain ⟨g, hg⟩ : ∃ g, w.heap.size = g := ⟨_, rfl⟩
  obtain ⟨y, hy⟩ : ∃ Z, w.alloc (.cells #[.int .i64 0, .int .i64 0, .int .i64 0, .slice none 0 0, .int .i64 0, .slice none 0 0, .string ⟨#[]⟩, .string ⟨#[]⟩] 34) = Z := ⟨_, rfl⟩
  have BY : Blk y g #[.int .i64 0, .int .i64 0, .int .i64 0, .slice none 0 0, .int .i64 0, .slice none 0 0, .string ⟨#[]⟩, .string ⟨#[]⟩] 34 := by rw [← hy, ← hg]; exact Blk.new w _ _
  have hby : Below g w y := by rw [← hy, ← hg]; exact (Below.refl _ w).alloc (Nat.le_refl _) _
  have BT := blk_setRow (cells := (Rep.bare 0).cs) BY
  have HL := hide (iload_blk 34 _ BT Tryz.underlying34 rfl size_rep)
  have HZ := hide BY
  have HBN := hide built_norep
  have HO := hide (Rep.one (Rep.bare 0))
  have HF2 := hide (show Below g w (y.setRow g (Rep.bare 0).cs) from below_setRow hby (Nat.le_refl _) _)
  rw [hg]
  clear BT BY hby
  by_cases h0 : kd < 0
  · have h1 : decide (kd < 0) = true := by simpa using h0
    clear h h0
    go_enter Tryz.func21, Tryz.ntmps21
    go_wp2_with (first | refine wpList_buildAs rfl 34 #[] rfl _ rfl (Rep.bare 0).cs (unhide HBN) ?_ | refine wpList_store_row rfl 34 (.tmp 4) (.tmp 16) rfl g (Rep.bare 0).cs rfl rfl 34 #[.int .i64 0, .int .i64 0, .int .i64 0, .slice none 0 0, .int .i64 0, .slice none 0 0, .string ⟨#[]⟩, .string ⟨#[]⟩] (unhide HZ) size_rep rfl (unhide HO) ?_)
    (try simp only [Exit.inBlock, Exit.then])
    refine bodyPost_ret (v := .tuple #[.agg (Rep.bare 0).cs, .int .i64 120]) (results_cell2 (p := 4) (q := 5) (ty := 34) rfl _ _ _ ⟨g, 0, none⟩ rfl _ (unhide HL)) rfl ?_
    exact ⟨rfl, unhide HF2⟩
  · have h1 : decide (kd < 0) = false := by simpa using h0
    have h2 : decide (kd > 12) = true := by simp; omega
    clear h h0
    go_enter Tryz.func21, Tryz.ntmps21
    go_wp2_with (first | refine wpList_buildAs rfl 34 #[] rfl _ rfl (Rep.bare 0).cs (unhide HBN) ?_ | refine wpList_store_row rfl 34 (.tmp 4) (.tmp 16) rfl g (Rep.bare 0).cs rfl rfl 34 #[.int .i64 0, .int .i64 0, .int .i64 0, .slice none 0 0, .int .i64 0, .slice none 0 0, .string ⟨#[]⟩, .string ⟨#[]⟩] (unhide HZ) size_rep rfl (unhide HO) ?_)
    (try simp only [Exit.inBlock, Exit.then])
    refine bodyPost_ret (v := .tuple #[.agg (Rep.bare 0).cs, .int .i64 120]) (results_cell2 (p := 4) (q := 5) (ty := 34) rfl _ _ _ ⟨g, 0, none⟩ rfl _ (unhide HL)) rfl ?_
    exact ⟨rfl, unhide HF2⟩
set_option maxHeartbeats 4000000 in
theorem rdecR_form (k : Nat) (hk : k ≤ 12) (s : ByteArray) (hs : s.size ≤ 150000000000000) (hn : ¬ s.size = 5 + szF (rpF (k : Int))) (w : World) : Calls Tryz.prog 21 #[.int .i64 (k : Int), .string s] w fun e w' => e = .returned (.tuple #[.agg (Rep.bare 0).cs, .int .i64 121]) ∧ Below w.heap.size w w' := by
  have h2 : ¬ (12 : Int) < (k : Int) := by omega
  have h2' : decide ((k : Int) > 12) = false := decide_eq_false h2
  have HSI := hide (fun W => room_any (k : Int) ⟨by omega, by omega⟩ W)
  have hsz := szP_le (k : Int)
  generalize szF (rpF (k : Int)) = Z at *
  have hM : IntKind.i64.wrap (1 + (Z : Int)) = ((1 + Z : Nat) : Int) := by rw [wrapI_eq _ (by omega) (by omega)]; omega
  have hn4 : wrap64 ((s.size : Int) - 4) = (s.size : Int) - 4 := wrap64_eq _ (by omega) (by omega)
  have hne : ((s.size : Int) - 4 != ((1 + Z : Nat) : Int)) = true := by
    simp
    omega
  generalize (1 + Z : Nat) = M at *
  obtain ⟨g, hg⟩ : ∃ g, w.heap.size = g := ⟨_, rfl⟩
  obtain ⟨y, hy⟩ : ∃ Z, w.alloc (.cells #[.int .i64 0, .int .i64 0, .int .i64 0, .slice none 0 0, .int .i64 0, .slice none 0 0, .string ⟨#[]⟩, .string ⟨#[]⟩] 34) = Z := ⟨_, rfl⟩
  have BY : Blk y g #[.int .i64 0, .int .i64 0, .int .i64 0, .slice none 0 0, .int .i64 0, .slice none 0 0, .string ⟨#[]⟩, .string ⟨#[]⟩] 34 := by rw [← hy, ← hg]; exact Blk.new w _ _
  have hby : Below g w y := by rw [← hy, ← hg]; exact (Below.refl _ w).alloc (Nat.le_refl _) _
  have HY := hide (And.intro BY hby)
  clear BY hby hsz hn
  rw [hg]
  go_enter Tryz.func21, Tryz.ntmps21
  go_wp2
  refine wp_region_held_drew (S := fun _ => True) (by kernel_rfl) trivial ?_
  intro hS
  refine wpAnyH_takeD 0 (some 20) (.int .i64 ((s.size : Int) - 4)) rfl rfl (by kernel_rfl) (by kernel_rfl) (by kernel_rfl) (fun _ _ _ h => h) (Or.inl ⟨by rfl, fun w hSw => by clear hSw; go_simp⟩) hS ?_
  simp only [Act.put, List.setIfInBounds_toArray, List.set_cons_zero, List.set_cons_succ]
  refine wpAnyH_takeD 1 (some 21) (.int .i64 (k : Int)) rfl rfl (by kernel_rfl) (by kernel_rfl) (by kernel_rfl) (fun _ _ _ h => h) (Or.inl ⟨by rfl, fun w hSw => by clear hSw; go_simp⟩) hS ?_
  simp only [Act.put, List.setIfInBounds_toArray, List.set_cons_zero, List.set_cons_succ]
  refine wpAnyH_ready (rs := [2]) (by kernel_rfl) (by simp) ?_
  refine AllReadyH.cons rfl (fun K hK => ?_) AllReadyH.nil
  simp only [List.getElem_toArray, List.getElem_cons_succ, List.getElem_cons_zero]
  go_simp
  refine (unhide HSI _).mono ?_
  rintro e xA ⟨rfl, hbA⟩
  have HPA := hide (show Below y.heap.size y xA from ((Below.refl _ y).drew).trans hbA)
  clear hbA
  refine hK.out _ _ trivial (fun hS => ?_)
  clear hK K
  refine wpAnyH_takeD 3 (some 23) (.int .i64 (M : Int)) rfl rfl (by kernel_rfl) (by kernel_rfl) (by kernel_rfl) (fun _ _ _ h => h) (Or.inl ⟨by rfl, fun w hSw => by clear hSw; go_simp⟩) hS ?_
  simp only [Act.put, List.setIfInBounds_toArray, List.set_cons_zero, List.set_cons_succ]
  refine wpAnyH_takeD 4 (some 24) (.bool true) rfl rfl (by kernel_rfl) (by kernel_rfl) (by kernel_rfl) (fun _ _ _ h => h) (Or.inl ⟨by rfl, fun w hSw => by clear hSw; go_simp⟩) hS ?_
  simp only [Act.put, List.setIfInBounds_toArray, List.set_cons_zero, List.set_cons_succ]
  refine wpAnyH_takeD 5 (some 25) (.bool true) rfl rfl (by kernel_rfl) (by kernel_rfl) (by kernel_rfl) (fun _ _ _ h => h) (Or.inl ⟨by rfl, fun w hSw => by clear hSw; go_simp⟩) hS ?_
  simp only [Act.put, List.setIfInBounds_toArray, List.set_cons_zero, List.set_cons_succ]
  refine wpAnyH_takeD 6 (some 26) undef rfl rfl (by kernel_rfl) (by kernel_rfl) (by kernel_rfl) (fun _ _ _ h => h) (Or.inr ⟨by rfl, rfl⟩) hS ?_
  simp only [Act.put, List.setIfInBounds_toArray, List.set_cons_zero, List.set_cons_succ]
  refine wpAnyH_takeD 7 (some 27) undef rfl rfl (by kernel_rfl) (by kernel_rfl) (by kernel_rfl) (fun _ _ _ h => h) (Or.inr ⟨by rfl, rfl⟩) hS ?_
  simp only [Act.put, List.setIfInBounds_toArray, List.set_cons_zero, List.set_cons_succ]
  refine wpAnyH_takeD 8 (some 28) undef rfl rfl (by kernel_rfl) (by kernel_rfl) (by kernel_rfl) (fun _ _ _ h => h) (Or.inr ⟨by rfl, rfl⟩) hS ?_
  simp only [Act.put, List.setIfInBounds_toArray, List.set_cons_zero, List.set_cons_succ]
  refine wpAnyH_takeD 9 (some 29) undef rfl rfl (by kernel_rfl) (by kernel_rfl) (by kernel_rfl) (fun _ _ _ h => h) (Or.inr ⟨by rfl, rfl⟩) hS ?_
  simp only [Act.put, List.setIfInBounds_toArray, List.set_cons_zero, List.set_cons_succ]
  refine wpAnyH_takeD 10 (some 30) undef rfl rfl (by kernel_rfl) (by kernel_rfl) (by kernel_rfl) (fun _ _ _ h => h) (Or.inr ⟨by rfl, rfl⟩) hS ?_
  simp only [Act.put, List.setIfInBounds_toArray, List.set_cons_zero, List.set_cons_succ]
  refine wpAnyH_takeD 11 (some 31) undef rfl rfl (by kernel_rfl) (by kernel_rfl) (by kernel_rfl) (fun _ _ _ h => h) (Or.inr ⟨by rfl, rfl⟩) hS ?_
  simp only [Act.put, List.setIfInBounds_toArray, List.set_cons_zero, List.set_cons_succ]
  refine wpAnyH_takeD 12 (some 32) undef rfl rfl (by kernel_rfl) (by kernel_rfl) (by kernel_rfl) (fun _ _ _ h => h) (Or.inr ⟨by rfl, rfl⟩) hS ?_
  simp only [Act.put, List.setIfInBounds_toArray, List.set_cons_zero, List.set_cons_succ]
  refine wpAnyH_takeD 13 (some 33) undef rfl rfl (by kernel_rfl) (by kernel_rfl) (by kernel_rfl) (fun _ _ _ h => h) (Or.inr ⟨by rfl, rfl⟩) hS ?_
  simp only [Act.put, List.setIfInBounds_toArray, List.set_cons_zero, List.set_cons_succ]
  refine wpAnyH_takeD 14 (some 34) undef rfl rfl (by kernel_rfl) (by kernel_rfl) (by kernel_rfl) (fun _ _ _ h => h) (Or.inr ⟨by rfl, rfl⟩) hS ?_
  simp only [Act.put, List.setIfInBounds_toArray, List.set_cons_zero, List.set_cons_succ]
  refine wpAnyH_takeD 15 (some 35) undef rfl rfl (by kernel_rfl) (by kernel_rfl) (by kernel_rfl) (fun _ _ _ h => h) (Or.inr ⟨by rfl, rfl⟩) hS ?_
  simp only [Act.put, List.setIfInBounds_toArray, List.set_cons_zero, List.set_cons_succ]
  refine wpAnyH_takeD 16 (some 36) undef rfl rfl (by kernel_rfl) (by kernel_rfl) (by kernel_rfl) (fun _ _ _ h => h) (Or.inr ⟨by rfl, rfl⟩) hS ?_
  simp only [Act.put, List.setIfInBounds_toArray, List.set_cons_zero, List.set_cons_succ]
  refine wpAnyH_takeD 17 (some 37) undef rfl rfl (by kernel_rfl) (by kernel_rfl) (by kernel_rfl) (fun _ _ _ h => h) (Or.inr ⟨by rfl, rfl⟩) hS ?_
  simp only [Act.put, List.setIfInBounds_toArray, List.set_cons_zero, List.set_cons_succ]
  refine wpAnyH_takeD 18 (some 38) (.bool true) rfl rfl (by kernel_rfl) (by kernel_rfl) (by kernel_rfl) (fun _ _ _ h => h) (Or.inl ⟨by rfl, fun w hSw => by clear hSw; go_simp⟩) hS ?_
  simp only [Act.put, List.setIfInBounds_toArray, List.set_cons_zero, List.set_cons_succ]
  refine wpAnyH_done (by kernel_rfl) ?_ _
  obtain ⟨BY, hby⟩ := unhide HY
  have B5 := BY.below (unhide HPA) BY.lt
  have hbw5 : Below g w xA := hby.trans ((unhide HPA).mono (by have := BY.lt; omega))
  have BT := blk_setRow (cells := (Rep.bare 0).cs) B5
  have HL := hide (iload_blk 34 _ BT Tryz.underlying34 rfl size_rep)
  have HZ := hide B5
  have HBN := hide built_norep
  have HO := hide (Rep.one (Rep.bare 0))
  have HF2 := hide (show Below g w (xA.setRow g (Rep.bare 0).cs) from below_setRow hbw5 (Nat.le_refl _) _)
  clear BT BY hby B5 hbw5
  go_wp2_with (first | refine wpList_buildAs rfl 34 #[] rfl _ rfl (Rep.bare 0).cs (unhide HBN) ?_ | refine wpList_store_row rfl 34 (.tmp 4) (.tmp 39) rfl g (Rep.bare 0).cs rfl rfl 34 #[.int .i64 0, .int .i64 0, .int .i64 0, .slice none 0 0, .int .i64 0, .slice none 0 0, .string ⟨#[]⟩, .string ⟨#[]⟩] (unhide HZ) size_rep rfl (unhide HO) ?_)
  (try simp only [Exit.inBlock, Exit.then])
  refine bodyPost_ret (v := .tuple #[.agg (Rep.bare 0).cs, .int .i64 121]) (results_cell2 (p := 4) (q := 5) (ty := 34) rfl _ _ _ ⟨g, 0, none⟩ rfl _ (unhide HL)) rfl ?_
  exact ⟨rfl, unhide HF2⟩
set_option maxHeartbeats 8000000 in
theorem rdecR_rest (k : Nat) (hk : k ≤ 12) (s : ByteArray) (hn : s.size = 5 + szF (rpF (k : Int))) (w : World) : Calls Tryz.prog 21 #[.int .i64 (k : Int), .string s] w fun e w' => DaQ (frB s (rpF (k : Int)) (strOfNums [(k : Int)])) (if 0 ≤ (nums s).getD 0 0 ∧ (nums s).getD 0 0 ≤ 13 then drO (k : Int) ((nums s).getD 0 0) s else none) ((nums s).getD 0 0) w.heap.size w e w' := by
  obtain ⟨g, hg⟩ : ∃ g, w.heap.size = g := ⟨_, rfl⟩
  obtain ⟨y, hy⟩ : ∃ Z, w.alloc (.cells #[.int .i64 0, .int .i64 0, .int .i64 0, .slice none 0 0, .int .i64 0, .slice none 0 0, .string ⟨#[]⟩, .string ⟨#[]⟩] 34) = Z := ⟨_, rfl⟩
  have BY : Blk y g #[.int .i64 0, .int .i64 0, .int .i64 0, .slice none 0 0, .int .i64 0, .slice none 0 0, .string ⟨#[]⟩, .string ⟨#[]⟩] 34 := by rw [← hy, ← hg]; exact Blk.new w _ _
  have hby : Below g w y := by rw [← hy, ← hg]; exact (Below.refl _ w).alloc (Nat.le_refl _) _
  rw [hg]
  have h2 : ¬ (12 : Int) < (k : Int) := by omega
  have h2' : decide ((k : Int) > 12) = false := decide_eq_false h2
  have HSI := hide (fun W => room_any (k : Int) ⟨by omega, by omega⟩ W)
  have hsz := szP_le (k : Int)
  have hix : ∀ W, (Instr.index 9 (.string s) (.int .i64 0)).run Tryz.prog W = .ok (.int .u8 ((nums s).getD 0 0)) W := fun W => index_str s 0 (by omega) W
  have hby0 := nums_bytes s 0
  obtain ⟨st, hst⟩ : ∃ q, (nums s).getD 0 0 = q := ⟨_, rfl⟩
  rw [hst] at hix hby0 ⊢
  have hw : wrap64 st = st := wrap64_eq _ (by omega) (by omega)
  have hwi : IntKind.i64.wrap st = st := wrapI_eq _ (by omega) (by omega)
  obtain ⟨E, hE⟩ : ∃ E, s.size = E + 4 := ⟨1 + szF (rpF (k : Int)), by omega⟩
  have hE1 : (1 : Int) ≤ (E : Int) := by omega
  have hE4 : s.size - 4 = E := by omega
  have hZE : 1 + szF (rpF (k : Int)) = E := by omega
  have HTK := hide (fun W => told_all k hk st s hn E hZE.symm W)
  have HNK := hide (fun W => rnum_of k 1 (by omega) (by decide) W)
  rw [show strOfNums (numB (k : Int) 1) = strOfNums [(k : Int)] by rw [numB1 _ (by omega) (by omega)]] at HNK
  obtain ⟨O, hO⟩ : ∃ Z, (if 0 ≤ st ∧ st ≤ 13 then drO (k : Int) st s else none) = Z := ⟨_, rfl⟩
  rw [hO]
  have hfr : frB s (rpF (k : Int)) (strOfNums [(k : Int)]) = ckB (strOfNums [(k : Int)]) s := by rw [frB, if_pos hn]
  rw [hfr]
  obtain ⟨TP, hTP⟩ : ∃ Z, toldP (k : Int) st s = Z := ⟨_, rfl⟩
  have htl := toldP_len (k : Int) st s
  rw [hTP] at HTK htl
  have HCA := hide (fun (q : ckB (strOfNums [(k : Int)]) s = true) r hS => dec_case k hk s (by rw [hfr]; exact q) st hst O hO TP hTP r hS)
  have HEN := hide (fun (r : Rep) W (hM : RM st (g + 1) r TP W) => And.intro (renc_ok k hk r TP.V TP.Pl hM.v.1.symm hM.p.1.symm ⟨by rw [hM.v.1]; omega, by rw [hM.p.1]; omega⟩) (renc_no k hk r TP.V TP.Pl hM.v.1.symm hM.p.1.symm ⟨by rw [hM.v.1]; omega, by rw [hM.p.1]; omega⟩))
  have hck : ckB (strOfNums [(k : Int)]) s = ((strOfNums (le4 (chkN (nums (strOfNums [(k : Int)] ++ s.extract 0 E))))).toList == (s.extract E s.size).toList) := by rw [ckB, hE4]
  have hk1 : (strOfNums [(k : Int)]).size = 1 := by rw [strOfNums_size]; rfl
  have ha1 : (s.extract 0 E).size = E := by rw [ByteArray.size_extract]; omega
  have HCK := hide (fun W => rcheck_any (strOfNums [(k : Int)] ++ s.extract 0 E) (by rw [ByteArray.size_append]; omega) W)
  have HLO := hide (fun W => low4_any (chkN (nums (strOfNums [(k : Int)] ++ s.extract 0 E))) (chkN_lt _) W)
  generalize ckB (strOfNums [(k : Int)]) s = CB at *
  generalize szF (rpF (k : Int)) = Z at *
  obtain ⟨K1, hK1⟩ : ∃ Z, strOfNums [(k : Int)] = Z := ⟨_, rfl⟩
  obtain ⟨A1, hA1⟩ : ∃ Z, s.extract 0 E = Z := ⟨_, rfl⟩
  obtain ⟨A3, hA3⟩ : ∃ Z, s.extract E (E + 4) = Z := ⟨_, rfl⟩
  obtain ⟨A5, hA5⟩ : ∃ Z, s.extract 1 E = Z := ⟨_, rfl⟩
  rw [hK1, hA1] at HCK HLO hck
  rw [hK1] at HNK hk1
  rw [hA1] at ha1
  rw [hA5] at HTK
  rw [hE, hA3] at hck
  have y1 : ¬ 9223372036854775807 < K1.size + A1.size := by omega
  obtain ⟨A2, hA2⟩ : ∃ Z, K1 ++ A1 = Z := ⟨_, rfl⟩
  rw [hA2] at HCK HLO hck
  generalize chkN (nums A2) = C at *
  generalize strOfNums (le4 C) = K4 at *
  have hM : IntKind.i64.wrap (1 + (Z : Int)) = (E : Int) := by rw [wrapI_eq _ (by omega) (by omega)]; omega
  have hwE : wrap64 (E : Int) = (E : Int) := wrap64_eq _ (by omega) (by omega)
  have hle : (E : Int) ≤ (E : Int) + 4 := Int.le_add_of_nonneg_right (by decide)
  have hle2 : E ≤ E + 4 := Nat.le_add_right _ _
  obtain ⟨D, hD⟩ : ∃ Z, (A3.toList != K4.toList) = Z := ⟨_, rfl⟩
  have hD2 : (A3.toList == K4.toList) = !D := by rw [← hD, show (A3.toList != K4.toList) = !(A3.toList == K4.toList) from rfl, Bool.not_not]
  have HDC := hide (show D = !CB by
    rw [hck, ← hD, show (A3.toList != K4.toList) = !(A3.toList == K4.toList) from rfl, Bool.beq_comm])
  have HY := hide (And.intro BY hby)
  clear BY hby hsz hn hst hE4 hZE hO hfr hTP htl hck hk1 ha1 hK1 hby0
  go_enter Tryz.func21, Tryz.ntmps21
  go_wp2
  refine wp_region_held_drew (S := fun _ => True) (by kernel_rfl) trivial ?_
  intro hS
  refine wpAnyH_takeD 0 (some 20) (.int .i64 (E : Int)) rfl rfl (by kernel_rfl) (by kernel_rfl) (by kernel_rfl) (fun _ _ _ h => h) (Or.inl ⟨by rfl, fun w hSw => by clear hSw; go_simp; try omega⟩) hS ?_
  simp only [Act.put, List.setIfInBounds_toArray, List.set_cons_zero, List.set_cons_succ]
  refine wpAnyH_takeD 1 (some 21) (.int .i64 (k : Int)) rfl rfl (by kernel_rfl) (by kernel_rfl) (by kernel_rfl) (fun _ _ _ h => h) (Or.inl ⟨by rfl, fun w hSw => by clear hSw; go_simp; try omega⟩) hS ?_
  simp only [Act.put, List.setIfInBounds_toArray, List.set_cons_zero, List.set_cons_succ]
  refine wpAnyH_ready (rs := [2]) (by kernel_rfl) (by simp) ?_
  refine AllReadyH.cons rfl (fun K hK => ?_) AllReadyH.nil
  simp only [List.getElem_toArray, List.getElem_cons_succ, List.getElem_cons_zero]
  go_simp
  refine (unhide HSI _).mono ?_
  rintro e xA ⟨rfl, hbA⟩
  have HPA := hide (show Below y.heap.size y xA from ((Below.refl _ y).drew).trans hbA)
  clear hbA
  refine hK.out _ _ trivial (fun hS => ?_)
  clear hK K
  refine wpAnyH_takeD 3 (some 23) (.int .i64 (E : Int)) rfl rfl (by kernel_rfl) (by kernel_rfl) (by kernel_rfl) (fun _ _ _ h => h) (Or.inl ⟨by rfl, fun w hSw => by clear hSw; go_simp; try omega⟩) hS ?_
  simp only [Act.put, List.setIfInBounds_toArray, List.set_cons_zero, List.set_cons_succ]
  refine wpAnyH_takeD 4 (some 24) (.bool false) rfl rfl (by kernel_rfl) (by kernel_rfl) (by kernel_rfl) (fun _ _ _ h => h) (Or.inl ⟨by rfl, fun w hSw => by clear hSw; go_simp; try omega⟩) hS ?_
  simp only [Act.put, List.setIfInBounds_toArray, List.set_cons_zero, List.set_cons_succ]
  refine wpAnyH_takeD 5 (some 25) (.bool false) rfl rfl (by kernel_rfl) (by kernel_rfl) (by kernel_rfl) (fun _ _ _ h => h) (Or.inl ⟨by rfl, fun w hSw => by clear hSw; go_simp; try omega⟩) hS ?_
  simp only [Act.put, List.setIfInBounds_toArray, List.set_cons_zero, List.set_cons_succ]
  refine wpAnyH_takeD 6 (some 26) (.string s) rfl rfl (by kernel_rfl) (by kernel_rfl) (by kernel_rfl) (fun _ _ _ h => h) (Or.inl ⟨by rfl, fun w hSw => by clear hSw; go_simp; try omega⟩) hS ?_
  simp only [Act.put, List.setIfInBounds_toArray, List.set_cons_zero, List.set_cons_succ]
  refine wpAnyH_takeD 7 (some 27) (.int .i64 (E : Int)) rfl rfl (by kernel_rfl) (by kernel_rfl) (by kernel_rfl) (fun _ _ _ h => h) (Or.inl ⟨by rfl, fun w hSw => by clear hSw; go_simp; try omega⟩) hS ?_
  simp only [Act.put, List.setIfInBounds_toArray, List.set_cons_zero, List.set_cons_succ]
  refine wpAnyH_takeD 8 (some 28) (.string A3) rfl rfl (by kernel_rfl) (by kernel_rfl) (by kernel_rfl) (fun _ _ _ h => h) (Or.inl ⟨by rfl, fun w hSw => by clear hSw; go_simp; try omega⟩) hS ?_
  simp only [Act.put, List.setIfInBounds_toArray, List.set_cons_zero, List.set_cons_succ]
  refine wpAnyH_takeD 9 (some 29) (.int .i64 (k : Int)) rfl rfl (by kernel_rfl) (by kernel_rfl) (by kernel_rfl) (fun _ _ _ h => h) (Or.inl ⟨by rfl, fun w hSw => by clear hSw; go_simp; try omega⟩) hS ?_
  simp only [Act.put, List.setIfInBounds_toArray, List.set_cons_zero, List.set_cons_succ]
  refine wpAnyH_takeD 11 (some 31) (.string s) rfl rfl (by kernel_rfl) (by kernel_rfl) (by kernel_rfl) (fun _ _ _ h => h) (Or.inl ⟨by rfl, fun w hSw => by clear hSw; go_simp; try omega⟩) hS ?_
  simp only [Act.put, List.setIfInBounds_toArray, List.set_cons_zero, List.set_cons_succ]
  refine wpAnyH_takeD 12 (some 32) (.int .i64 (E : Int)) rfl rfl (by kernel_rfl) (by kernel_rfl) (by kernel_rfl) (fun _ _ _ h => h) (Or.inl ⟨by rfl, fun w hSw => by clear hSw; go_simp; try omega⟩) hS ?_
  simp only [Act.put, List.setIfInBounds_toArray, List.set_cons_zero, List.set_cons_succ]
  refine wpAnyH_takeD 13 (some 33) (.string A1) rfl rfl (by kernel_rfl) (by kernel_rfl) (by kernel_rfl) (fun _ _ _ h => h) (Or.inl ⟨by rfl, fun w hSw => by clear hSw; go_simp; try omega⟩) hS ?_
  simp only [Act.put, List.setIfInBounds_toArray, List.set_cons_zero, List.set_cons_succ]
  refine wpAnyH_ready (rs := [10]) (by kernel_rfl) (by simp) ?_
  refine AllReadyH.cons rfl (fun K hK => ?_) AllReadyH.nil
  simp only [List.getElem_toArray, List.getElem_cons_succ, List.getElem_cons_zero]
  go_simp
  refine (unhide HNK _).mono ?_
  rintro e xB ⟨rfl, hbA⟩
  have HPB := hide (show Below y.heap.size y xB from (unhide HPA).trans (hbA.mono (unhide HPA).size))
  clear hbA
  refine hK.out _ _ trivial (fun hS => ?_)
  clear hK K
  refine wpAnyH_takeD 14 (some 34) (.string A2) rfl rfl (by kernel_rfl) (by kernel_rfl) (by kernel_rfl) (fun _ _ _ h => h) (Or.inl ⟨by rfl, fun w hSw => by clear hSw; go_simp; try omega⟩) hS ?_
  simp only [Act.put, List.setIfInBounds_toArray, List.set_cons_zero, List.set_cons_succ]
  refine wpAnyH_ready (rs := [15]) (by kernel_rfl) (by simp) ?_
  refine AllReadyH.cons rfl (fun K hK => ?_) AllReadyH.nil
  simp only [List.getElem_toArray, List.getElem_cons_succ, List.getElem_cons_zero]
  go_simp
  refine (unhide HCK _).mono ?_
  rintro e xC ⟨rfl, hbA⟩
  subst xC
  refine hK.out _ _ trivial (fun hS => ?_)
  clear hK K
  refine wpAnyH_ready (rs := [16]) (by kernel_rfl) (by simp) ?_
  refine AllReadyH.cons rfl (fun K hK => ?_) AllReadyH.nil
  simp only [List.getElem_toArray, List.getElem_cons_succ, List.getElem_cons_zero]
  go_simp
  refine (unhide HLO _).mono ?_
  rintro e xD ⟨rfl, hbA⟩
  have HPD := hide (show Below y.heap.size y xD from (unhide HPB).trans (hbA.mono (unhide HPB).size))
  clear hbA
  refine hK.out _ _ trivial (fun hS => ?_)
  clear hK K
  refine wpAnyH_takeD 17 (some 37) (.bool D) rfl rfl (by kernel_rfl) (by kernel_rfl) (by kernel_rfl) (fun _ _ _ h => h) (Or.inl ⟨by rfl, fun w hSw => by clear hSw; go_simp; try omega⟩) hS ?_
  simp only [Act.put, List.setIfInBounds_toArray, List.set_cons_zero, List.set_cons_succ]
  refine wpAnyH_takeD 18 (some 38) (.bool D) rfl rfl (by kernel_rfl) (by kernel_rfl) (by kernel_rfl) (fun _ _ _ h => h) (Or.inl ⟨by rfl, fun w hSw => by clear hSw; go_simp; try omega⟩) hS ?_
  simp only [Act.put, List.setIfInBounds_toArray, List.set_cons_zero, List.set_cons_succ]
  refine wpAnyH_done (by kernel_rfl) ?_ _
  obtain ⟨BY, hby⟩ := unhide HY
  have B5 := BY.below (unhide HPD) BY.lt
  have hbw5 : Below g w xD := hby.trans ((unhide HPD).mono (by have := BY.lt; omega))
  have hdc := unhide HDC
  cases CB with
  | false =>
    obtain rfl : D = true := hdc
    have BT := blk_setRow (cells := (Rep.bare 0).cs) B5
    have HL := hide (iload_blk 34 _ BT Tryz.underlying34 rfl size_rep)
    have HZ := hide B5
    have HBN := hide built_norep
    have HO := hide (Rep.one (Rep.bare 0))
    have HF2 := hide (show Below g w (xD.setRow g (Rep.bare 0).cs) from below_setRow hbw5 (Nat.le_refl _) _)
    clear BT BY hby B5 hbw5
    go_wp2_with (first | refine wpList_buildAs rfl 34 #[] rfl _ rfl (Rep.bare 0).cs (unhide HBN) ?_ | refine wpList_store_row rfl 34 (.tmp 4) (.tmp 39) rfl g (Rep.bare 0).cs rfl rfl 34 #[.int .i64 0, .int .i64 0, .int .i64 0, .slice none 0 0, .int .i64 0, .slice none 0 0, .string ⟨#[]⟩, .string ⟨#[]⟩] (unhide HZ) size_rep rfl (unhide HO) ?_)
    (try simp only [Exit.inBlock, Exit.then])
    refine bodyPost_ret (v := .tuple #[.agg (Rep.bare 0).cs, .int .i64 121]) (results_cell2 (p := 4) (q := 5) (ty := 34) rfl _ _ _ ⟨g, 0, none⟩ rfl _ (unhide HL)) rfl ?_
    exact DaQ.form (unhide HF2)
  | true =>
    obtain rfl : D = false := hdc
    have H5 := hide (show Blk xD g #[.int .i64 0, .int .i64 0, .int .i64 0, .slice none 0 0, .int .i64 0, .slice none 0 0, .string ⟨#[]⟩, .string ⟨#[]⟩] 34 ∧ Below g w xD ∧ g < xD.heap.size from ⟨B5, hbw5, B5.lt⟩)
    clear BY hby B5 hbw5 HDC HY
    go_upto_region 6 with fail
    go_cut [7] (fun s7 wx => ∃ (r : Rep) (h : Nat), s7 = .pointer (some ⟨h, 0, none⟩) ∧ Blk wx g #[.int .i64 0, .int .i64 0, .int .i64 0, .slice none 0 0, .int .i64 0, .slice none 0 0, .string ⟨#[]⟩, .string ⟨#[]⟩] 34 ∧ Blk wx h r.cs 34 ∧ RM st (g + 1) r TP wx ∧ Below g w wx ∧ g < h)
    case first =>
      refine wp_region_held_drew (S := fun _ => True) (by kernel_rfl) trivial ?_
      intro hS
      refine wpAnyH_takeD 0 (some 40) (.int .i64 (k : Int)) rfl rfl (by kernel_rfl) (by kernel_rfl) (by kernel_rfl) (fun _ _ _ h => h) (Or.inl ⟨by rfl, fun w hSw => by clear hSw; go_simp; try omega⟩) hS ?_
      simp only [Act.put, List.setIfInBounds_toArray, List.set_cons_zero, List.set_cons_succ]
      refine wpAnyH_takeD 1 (some 41) (.string s) rfl rfl (by kernel_rfl) (by kernel_rfl) (by kernel_rfl) (fun _ _ _ h => h) (Or.inl ⟨by rfl, fun w hSw => by clear hSw; go_simp; try omega⟩) hS ?_
      simp only [Act.put, List.setIfInBounds_toArray, List.set_cons_zero, List.set_cons_succ]
      refine wpAnyH_takeD 2 (some 42) (.int .u8 st) rfl rfl (by kernel_rfl) (by kernel_rfl) (by kernel_rfl) (fun _ _ _ h => h) (Or.inl ⟨by rfl, fun w hSw => by clear hSw; go_simp; try omega⟩) hS ?_
      simp only [Act.put, List.setIfInBounds_toArray, List.set_cons_zero, List.set_cons_succ]
      refine wpAnyH_takeD 3 (some 43) (.int .i64 st) rfl rfl (by kernel_rfl) (by kernel_rfl) (by kernel_rfl) (fun _ _ _ h => h) (Or.inl ⟨by rfl, fun w hSw => by clear hSw; go_simp; try omega⟩) hS ?_
      simp only [Act.put, List.setIfInBounds_toArray, List.set_cons_zero, List.set_cons_succ]
      refine wpAnyH_takeD 4 (some 44) (.string s) rfl rfl (by kernel_rfl) (by kernel_rfl) (by kernel_rfl) (fun _ _ _ h => h) (Or.inl ⟨by rfl, fun w hSw => by clear hSw; go_simp; try omega⟩) hS ?_
      simp only [Act.put, List.setIfInBounds_toArray, List.set_cons_zero, List.set_cons_succ]
      refine wpAnyH_takeD 5 (some 45) (.int .i64 (E : Int)) rfl rfl (by kernel_rfl) (by kernel_rfl) (by kernel_rfl) (fun _ _ _ h => h) (Or.inl ⟨by rfl, fun w hSw => by clear hSw; go_simp; try omega⟩) hS ?_
      simp only [Act.put, List.setIfInBounds_toArray, List.set_cons_zero, List.set_cons_succ]
      refine wpAnyH_takeD 6 (some 46) (.string A5) rfl rfl (by kernel_rfl) (by kernel_rfl) (by kernel_rfl) (fun _ _ _ h => h) (Or.inl ⟨by rfl, fun w hSw => by clear hSw; go_simp; try omega⟩) hS ?_
      simp only [Act.put, List.setIfInBounds_toArray, List.set_cons_zero, List.set_cons_succ]
      refine wpAnyH_ready (rs := [7, 8]) (by kernel_rfl) (by simp) ?_
      refine AllReadyH.cons rfl (fun K hK => ?_) (AllReadyH.cons rfl (fun K hK => ?_) AllReadyH.nil)
      · simp only [List.getElem_toArray, List.getElem_cons_succ, List.getElem_cons_zero]
        go_simp
        refine (unhide HTK _).mono ?_
        rintro e x5 ⟨r, rfl, hRM, hbA⟩
        obtain ⟨C5, hc5, hl5⟩ := unhide H5
        have hbA' : Below xD.heap.size xD x5 := ((Below.refl _ xD).drew).trans hbA
        have C6 := C5.below hbA' C5.lt
        have hc6 : Below g w x5 := hc5.trans (hbA'.mono (by omega))
        obtain ⟨h, hh⟩ : ∃ h, x5.heap.size = h := ⟨_, rfl⟩
        have hgh : g < h := by have := hbA'.size; omega
        obtain ⟨N1, N2, N3, N4⟩ := boxv x5 34 #[.int .i64 0, .int .i64 0, .int .i64 0, .slice none 0 0, .int .i64 0, .slice none 0 0, .string ⟨#[]⟩, .string ⟨#[]⟩] r.cs g w hc6 (by omega)
        rw [hh] at N1 N2 N4
        have HN := hide (show Blk (x5.alloc (.cells #[.int .i64 0, .int .i64 0, .int .i64 0, .slice none 0 0, .int .i64 0, .slice none 0 0, .string ⟨#[]⟩, .string ⟨#[]⟩] 34)) h #[.int .i64 0, .int .i64 0, .int .i64 0, .slice none 0 0, .int .i64 0, .slice none 0 0, .string ⟨#[]⟩, .string ⟨#[]⟩] 34 from N1)
        have HE9 := hide (show Blk ((x5.alloc (.cells #[.int .i64 0, .int .i64 0, .int .i64 0, .slice none 0 0, .int .i64 0, .slice none 0 0, .string ⟨#[]⟩, .string ⟨#[]⟩] 34)).setRow h r.cs) g #[.int .i64 0, .int .i64 0, .int .i64 0, .slice none 0 0, .int .i64 0, .slice none 0 0, .string ⟨#[]⟩, .string ⟨#[]⟩] 34 ∧ Blk ((x5.alloc (.cells #[.int .i64 0, .int .i64 0, .int .i64 0, .slice none 0 0, .int .i64 0, .slice none 0 0, .string ⟨#[]⟩, .string ⟨#[]⟩] 34)).setRow h r.cs) h r.cs 34 ∧ RM st (g + 1) r TP ((x5.alloc (.cells #[.int .i64 0, .int .i64 0, .int .i64 0, .slice none 0 0, .int .i64 0, .slice none 0 0, .string ⟨#[]⟩, .string ⟨#[]⟩] 34)).setRow h r.cs) ∧ Below g w ((x5.alloc (.cells #[.int .i64 0, .int .i64 0, .int .i64 0, .slice none 0 0, .int .i64 0, .slice none 0 0, .string ⟨#[]⟩, .string ⟨#[]⟩] 34)).setRow h r.cs) ∧ g < h from ⟨by rw [hh] at N3; exact C6.below N3 hgh, N2, by rw [hh] at N3; exact (hRM.base (show g + 1 ≤ xD.heap.size by omega)).below N3 (by omega), N4, hgh⟩)
        have HO1 := hide (Rep.one r)
        clear N1 N2 N3 N4 C5 hc5 hl5 hbA hbA' C6 hc6 hRM hgh
        refine hK.out _ _ trivial (fun hS => ?_)
        clear hK K
        refine wpAnyH_ready (rs := [8]) (by kernel_rfl) (by simp) ?_
        refine AllReadyH.cons rfl (fun K hK => ?_) AllReadyH.nil
        simp only [List.getElem_toArray, List.getElem_cons_succ, List.getElem_cons_zero]
        go_simp
        (try rw [hh])
        refine hK.out _ _ trivial (fun hS => ?_)
        clear hK K hh
        refine wpAnyH_ready (rs := [9]) (by kernel_rfl) (by simp) ?_
        refine AllReadyH.cons rfl (fun K hK => ?_) AllReadyH.nil
        simp only [List.getElem_toArray, List.getElem_cons_succ, List.getElem_cons_zero]
        rw [if_pos (by rfl)]
        refine wp_store_row 34 (.tmp 7) (.tmp 47) rfl h r.cs rfl rfl 34 #[.int .i64 0, .int .i64 0, .int .i64 0, .slice none 0 0, .int .i64 0, .slice none 0 0, .string ⟨#[]⟩, .string ⟨#[]⟩] (unhide HN) size_rep rfl (unhide HO1) ?_
        refine hK.out _ _ trivial (fun hS => ?_)
        clear hK K
        refine wpAnyH_done (by kernel_rfl) ?_ _
        (try go_wp2_with fail)
        go_meet
        exact ⟨r, h, rfl, unhide HE9⟩
      · simp only [List.getElem_toArray, List.getElem_cons_succ, List.getElem_cons_zero]
        go_simp
        obtain ⟨C5, hc5, hl5⟩ := unhide H5
        obtain ⟨h, hh⟩ : ∃ h, xD.heap.size = h := ⟨_, rfl⟩
        have N0 : Blk (xD.alloc (.cells #[.int .i64 0, .int .i64 0, .int .i64 0, .slice none 0 0, .int .i64 0, .slice none 0 0, .string ⟨#[]⟩, .string ⟨#[]⟩] 34)) xD.heap.size #[.int .i64 0, .int .i64 0, .int .i64 0, .slice none 0 0, .int .i64 0, .slice none 0 0, .string ⟨#[]⟩, .string ⟨#[]⟩] 34 := Blk.new xD _ _
        have N3 : Below xD.heap.size xD (xD.alloc (.cells #[.int .i64 0, .int .i64 0, .int .i64 0, .slice none 0 0, .int .i64 0, .slice none 0 0, .string ⟨#[]⟩, .string ⟨#[]⟩] 34)) := (Below.refl _ xD).alloc (Nat.le_refl _) _
        have hza : (xD.alloc (.cells #[.int .i64 0, .int .i64 0, .int .i64 0, .slice none 0 0, .int .i64 0, .slice none 0 0, .string ⟨#[]⟩, .string ⟨#[]⟩] 34)).heap.size = xD.heap.size + 1 := by simp
        obtain ⟨xE, hxE⟩ : ∃ X, (xD.alloc (.cells #[.int .i64 0, .int .i64 0, .int .i64 0, .slice none 0 0, .int .i64 0, .slice none 0 0, .string ⟨#[]⟩, .string ⟨#[]⟩] 34)).drew = X := ⟨_, rfl⟩
        have HXE := hide (show Blk xE h #[.int .i64 0, .int .i64 0, .int .i64 0, .slice none 0 0, .int .i64 0, .slice none 0 0, .string ⟨#[]⟩, .string ⟨#[]⟩] 34 ∧ Blk xE g #[.int .i64 0, .int .i64 0, .int .i64 0, .slice none 0 0, .int .i64 0, .slice none 0 0, .string ⟨#[]⟩, .string ⟨#[]⟩] 34 ∧ Below g w xE ∧ g < h ∧ xE.heap.size = h + 1 from by
          rw [← hxE, ← hh]
          exact ⟨N0, C5.below N3.drew C5.lt, hc5.trans (N3.drew.mono (by omega)), hl5, hza⟩)
        (try rw [hh])
        (try rw [show xD.drew.alloc (.cells #[.int .i64 0, .int .i64 0, .int .i64 0, .slice none 0 0, .int .i64 0, .slice none 0 0, .string ⟨#[]⟩, .string ⟨#[]⟩] 34) = xE from by rw [← hxE]; rfl])
        (try rw [hxE])
        clear N0 N3 hza hxE C5 hc5 hl5
        refine hK.out _ _ trivial (fun hS => ?_)
        clear hK K hh
        refine wpAnyH_ready (rs := [7]) (by kernel_rfl) (by simp) ?_
        refine AllReadyH.cons rfl (fun K hK => ?_) AllReadyH.nil
        simp only [List.getElem_toArray, List.getElem_cons_succ, List.getElem_cons_zero]
        go_simp
        refine (unhide HTK _).mono ?_
        rintro e x5 ⟨r, rfl, hRM, hbA⟩
        obtain ⟨C0, C5, hc5, hgh, hzE⟩ := unhide HXE
        have N1 := C0.below hbA C0.lt
        have C6 := C5.below hbA C5.lt
        have hc6 : Below g w x5 := hc5.trans (hbA.mono (by omega))
        have HN := hide N1
        have hon : Only (fun q => q = h) x5 (x5.setRow h r.cs) := only_setRow (P := fun j => j = h) h r.cs rfl
        have HE9 := hide (show Blk (x5.setRow h r.cs) g #[.int .i64 0, .int .i64 0, .int .i64 0, .slice none 0 0, .int .i64 0, .slice none 0 0, .string ⟨#[]⟩, .string ⟨#[]⟩] 34 ∧ Blk (x5.setRow h r.cs) h r.cs 34 ∧ RM st (g + 1) r TP (x5.setRow h r.cs) ∧ Below g w (x5.setRow h r.cs) ∧ g < h from ⟨blk_setRow_other C6 (by omega), blk_setRow N1, (hRM.only hon (fun q hq _ e => by omega)).base (by omega), below_setRow hc6 (by omega) _, hgh⟩)
        have HO1 := hide (Rep.one r)
        clear hon N1 C0 C5 hc5 hgh hzE C6 hc6 hRM hbA
        refine hK.out _ _ trivial (fun hS => ?_)
        clear hK K
        refine wpAnyH_ready (rs := [9]) (by kernel_rfl) (by simp) ?_
        refine AllReadyH.cons rfl (fun K hK => ?_) AllReadyH.nil
        simp only [List.getElem_toArray, List.getElem_cons_succ, List.getElem_cons_zero]
        rw [if_pos (by rfl)]
        refine wp_store_row 34 (.tmp 7) (.tmp 47) rfl h r.cs rfl rfl 34 #[.int .i64 0, .int .i64 0, .int .i64 0, .slice none 0 0, .int .i64 0, .slice none 0 0, .string ⟨#[]⟩, .string ⟨#[]⟩] (unhide HN) size_rep rfl (unhide HO1) ?_
        refine hK.out _ _ trivial (fun hS => ?_)
        clear hK K
        refine wpAnyH_done (by kernel_rfl) ?_ _
        (try go_wp2_with fail)
        go_meet
        exact ⟨r, h, rfl, unhide HE9⟩
    case rest =>
    obtain ⟨r, h, rfl, C6, N6, hRM, hc6, hgh⟩ := hcut
    have hrs := hRM.st
    have HCS := hide (unhide HCA rfl r hRM.says)
    have HRT := hide (show wc.rangeAt h 0 r.cl from blk_range N6)
    have HO1 := hide (Rep.one r)
    have HLV := hide (And.intro hRM.v.lst hRM.p.lst)
    have H6 := hide (show Blk wc g #[.int .i64 0, .int .i64 0, .int .i64 0, .slice none 0 0, .int .i64 0, .slice none 0 0, .string ⟨#[]⟩, .string ⟨#[]⟩] 34 ∧ Blk wc h r.cs 34 ∧ RM st (g + 1) r TP wc ∧ Below g w wc ∧ g < h from ⟨C6, N6, hRM, hc6, hgh⟩)
    clear C6 N6 hc6 hRM
    by_cases hG : (decide (0 ≤ r.st ∧ r.st ≤ 13) && lyB (k : Int) r TP.V TP.Pl) = true
    · have hG' := hG
      rw [Bool.and_eq_true, decide_eq_true_eq] at hG'
      have HE0 := hide ((unhide HEN r wc (unhide H6).2.2.1).1 hG'.1 hG'.2 wc (unhide HLV).1 (unhide HLV).2)
      obtain ⟨FR, hFR⟩ : ∃ Z, frmB k r TP.V TP.Pl = Z := ⟨_, rfl⟩
      rw [show strOfNums (eyL (k : Int) r TP.V TP.Pl) ++ strOfNums (le4 (chkN ((k : Int) :: eyL (k : Int) r TP.V TP.Pl))) = FR from hFR] at HE0
      rw [hrs] at hG'
      by_cases hEq : FR = s
      · have hx : (FR.toList == s.toList) = true := by rw [hEq]; exact beq_self_eq_true _
        have HOO := hide (show O = some TP from by
          rcases unhide HCS with ⟨q, _⟩ | ⟨_, q⟩
          · exact q
          · exact absurd (hFR.trans hEq) (q hG'.1 hG'.2))
        clear hG hG' hFR hEq HCS
        go_wp2_with (first | refine wpList_load_mid rfl 34 (.tmp 7) rfl h 0 rfl r.cl _ (unhide HRT) Tryz.underlying34 rfl size_rep ?_)
        refine (unhide HE0).mono ?_
        rintro e x8 ⟨rfl, hb8⟩
        obtain ⟨C6, N6, hRM, hc6, hgh'⟩ := unhide H6
        have B8 := C6.below hb8 C6.lt
        have N8 := N6.below hb8 N6.lt
        have hbw8 : Below g w x8 := hc6.trans (hb8.mono (by have := C6.lt; omega))
        have HR8 := hide (show x8.rangeAt h 0 r.cl from blk_range N8)
        have BT := blk_setRow (cells := r.cs) B8
        have HL := hide (iload_blk 34 _ BT Tryz.underlying34 rfl size_rep)
        have HZ := hide B8
        have HF2 := hide (show Below g w (x8.setRow g r.cs) from below_setRow hbw8 (Nat.le_refl _) _)
        have HRM := hide (show RM st (g + 1) r TP x8 from hRM.below hb8 (Nat.le_refl _))
        clear BT B8 hbw8 C6 N6 N8 hRM hc6 hb8 H6
        go_wp2_with (first | refine wpList_load_mid rfl 34 (.tmp 7) rfl h 0 rfl r.cl _ (unhide HR8) Tryz.underlying34 rfl size_rep ?_ | refine wpList_store_row rfl 34 (.tmp 4) (.tmp 62) rfl g r.cs rfl rfl 34 #[.int .i64 0, .int .i64 0, .int .i64 0, .slice none 0 0, .int .i64 0, .slice none 0 0, .string ⟨#[]⟩, .string ⟨#[]⟩] (unhide HZ) size_rep rfl (unhide HO1) ?_)
        (try simp only [Exit.inBlock, Exit.then])
        refine bodyPost_ret (v := .tuple #[.agg r.cs, .int .i64 0]) (results_cell2 (p := 4) (q := 5) (ty := 34) rfl _ _ _ ⟨g, 0, none⟩ rfl _ (unhide HL)) rfl ?_
        exact DaQ.yes ⟨TP, unhide HOO, (unhide HRM).only (only_setRow (P := fun j => j = g) g r.cs rfl) (fun q hq _ e => by omega) |>.base (Nat.le_succ g)⟩ (unhide HF2)
      · have hx : (FR.toList == s.toList) = false := str_ne hEq
        have HOO := hide (show O = none from by
          rcases unhide HCS with ⟨_, _, _, q⟩ | ⟨q, _⟩
          · exact absurd (hFR.symm.trans q) hEq
          · exact q)
        clear hG hG' hFR hEq HCS
        go_wp2_with (first | refine wpList_load_mid rfl 34 (.tmp 7) rfl h 0 rfl r.cl _ (unhide HRT) Tryz.underlying34 rfl size_rep ?_)
        refine (unhide HE0).mono ?_
        rintro e x8 ⟨rfl, hb8⟩
        obtain ⟨C6, N6, hRM, hc6, hgh'⟩ := unhide H6
        have B8 := C6.below hb8 C6.lt
        have hbw8 : Below g w x8 := hc6.trans (hb8.mono (by have := C6.lt; omega))
        have BT := blk_setRow (cells := (Rep.bare 0).cs) B8
        have HL := hide (iload_blk 34 _ BT Tryz.underlying34 rfl size_rep)
        have HZ := hide B8
        have HBN := hide built_norep
        have HO := hide (Rep.one (Rep.bare 0))
        have HF2 := hide (show Below g w (x8.setRow g (Rep.bare 0).cs) from below_setRow hbw8 (Nat.le_refl _) _)
        clear BT B8 hbw8 C6 N6 hRM hc6 hb8 H6
        go_wp2_with (first | refine wpList_buildAs rfl 34 #[] rfl _ rfl (Rep.bare 0).cs (unhide HBN) ?_ | refine wpList_store_row rfl 34 (.tmp 4) (.tmp 61) rfl g (Rep.bare 0).cs rfl rfl 34 #[.int .i64 0, .int .i64 0, .int .i64 0, .slice none 0 0, .int .i64 0, .slice none 0 0, .string ⟨#[]⟩, .string ⟨#[]⟩] (unhide HZ) size_rep rfl (unhide HO) ?_)
        (try simp only [Exit.inBlock, Exit.then])
        refine bodyPost_ret (v := .tuple #[.agg (Rep.bare 0).cs, .int .i64 122]) (results_cell2 (p := 4) (q := 5) (ty := 34) rfl _ _ _ ⟨g, 0, none⟩ rfl _ (unhide HL)) rfl ?_
        exact DaQ.no (unhide HOO) (unhide HF2)
    · have hG' : (decide (0 ≤ r.st ∧ r.st ≤ 13) && lyB (k : Int) r TP.V TP.Pl) = false := by simpa using hG
      have HE0 := hide ((unhide HEN r wc (unhide H6).2.2.1).2 hG' wc (unhide HLV).1 (unhide HLV).2)
      have HOO := hide (show O = none from by
        rcases unhide HCS with ⟨_, q1, q2, _⟩ | ⟨q, _⟩
        · exact absurd (by rw [Bool.and_eq_true, decide_eq_true_eq, hrs]; exact ⟨q1, q2⟩) hG
        · exact q)
      clear hG hG' HCS
      go_wp2_with (first | refine wpList_load_mid rfl 34 (.tmp 7) rfl h 0 rfl r.cl _ (unhide HRT) Tryz.underlying34 rfl size_rep ?_)
      refine (unhide HE0).mono ?_
      rintro e x8 ⟨rfl, hb8⟩
      obtain ⟨C6, N6, hRM, hc6, hgh'⟩ := unhide H6
      have B8 := C6.below hb8 C6.lt
      have hbw8 : Below g w x8 := hc6.trans (hb8.mono (by have := C6.lt; omega))
      have BT := blk_setRow (cells := (Rep.bare 0).cs) B8
      have HL := hide (iload_blk 34 _ BT Tryz.underlying34 rfl size_rep)
      have HZ := hide B8
      have HBN := hide built_norep
      have HO := hide (Rep.one (Rep.bare 0))
      have HF2 := hide (show Below g w (x8.setRow g (Rep.bare 0).cs) from below_setRow hbw8 (Nat.le_refl _) _)
      clear BT B8 hbw8 C6 N6 hRM hc6 hb8 H6
      go_wp2_with (first | refine wpList_buildAs rfl 34 #[] rfl _ rfl (Rep.bare 0).cs (unhide HBN) ?_ | refine wpList_store_row rfl 34 (.tmp 4) (.tmp 61) rfl g (Rep.bare 0).cs rfl rfl 34 #[.int .i64 0, .int .i64 0, .int .i64 0, .slice none 0 0, .int .i64 0, .slice none 0 0, .string ⟨#[]⟩, .string ⟨#[]⟩] (unhide HZ) size_rep rfl (unhide HO) ?_)
      (try simp only [Exit.inBlock, Exit.then])
      refine bodyPost_ret (v := .tuple #[.agg (Rep.bare 0).cs, .int .i64 122]) (results_cell2 (p := 4) (q := 5) (ty := 34) rfl _ _ _ ⟨g, 0, none⟩ rfl _ (unhide HL)) rfl ?_
      exact DaQ.no (unhide HOO) (unhide HF2)
theorem rdecR_any (k : Nat) (hk : k ≤ 12) (s : ByteArray) (hs : s.size ≤ 150000000000000) (w : World) : Calls Tryz.prog 21 #[.int .i64 (k : Int), .string s] w fun e w' => DaQ (frB s (rpF (k : Int)) (strOfNums [(k : Int)])) (if 0 ≤ (nums s).getD 0 0 ∧ (nums s).getD 0 0 ≤ 13 then drO (k : Int) ((nums s).getD 0 0) s else none) ((nums s).getD 0 0) w.heap.size w e w' := by
  by_cases hn : s.size = 5 + szF (rpF (k : Int))
  · exact rdecR_rest k hk s hn w
  · refine (rdecR_form k hk s hs hn w).mono ?_
    rintro e w' ⟨rfl, hb⟩
    rw [frB_size s _ _ hn]
    exact DaQ.form hb
end Go.Proofs.YtclgkgaobjcifaaGreatDoor
