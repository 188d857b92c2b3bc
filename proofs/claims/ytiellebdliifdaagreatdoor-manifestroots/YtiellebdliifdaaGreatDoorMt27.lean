import Derived.Test.YtiellebdliifdaaGreatDoorMt26
namespace Go.Proofs.YtiellebdliifdaaGreatDoor
open Go.RowKit Go.Maps Go.Sort Go.Shelf
set_option maxRecDepth 100000 in
set_option maxHeartbeats 2000000 in
theorem sSet_old {w0 w : World} {b jb pb mb sb : Nat} {X : Nat → Prop} {n : Nat} {S : PS} {L : List ByteArray} {A : List (Nat × Nat)} {hn : Nat} {Mw Mn : List ByteArray} {T : Nat → Bool} (h : MG w0 w b jb pb mb sb X n S L A hn Mw Mn T) (ho : S.op = true) {m : Nat} {V : Nat → Vol} (hv : VS Mn n m T V) (k : Nat) (hk : k < m) (b0 : Nat) (hb0 : b0 < 60) (d t : ByteArray) (hd : d.size = 32) (htt : t.size = 48) (hn0 : (V k).lf (b0 / 3) ≠ 0) (ht : S.tx.length < 14) : Calls Tryz.prog 17 #[.pointer (some ⟨sb, 0, none⟩), .int .i64 ((V k).r : Int), .int .i64 (b0 : Int), .agg #[.string d, .string t]] w fun e w' => e = .returned (.tuple #[.int .i64 0, .int .i64 0]) ∧ MChg w0 w b jb pb mb sb X n S L A hn Mw 1 T (ups (Sec Mn) (40 + ((V k).lf (b0 / 3) - 1)) (lfP (V k).num (b0 / 3) (ups ((V k).f (b0 / 3)) (b0 % 3) (some (d, t))))) w' := by
 have HIB := hide (fun W => isBlock_ok b0 hb0 W)
 have HLO := hide (fun W => leafOf_any b0 hb0 W)
 have HSO := hide (fun W => seatOf_any b0 hb0 W)
 have hl20 : b0 / 3 < 20 := by omega
 have hj3 : b0 % 3 < 3 := by omega
 have HFT := hide (fun (Y : Nat → Prop) W (G : MG w0 W b jb pb mb sb Y n S L A hn Mw Mn T) => sFtc_ok G ho hv k hk)
 have HRL := hide (fun (Y : Nat → Prop) W S' (G : MG w0 W b jb pb mb sb Y n S' L A hn Mw Mn T) => sReadLeaf_some G hv k hk (b0 / 3) hl20 hn0)
 obtain ⟨u1, u2, u3, u4, u5⟩ := hv.root k hk
 have hfo := hv.fo k hk (b0 / 3) hl20
 have hn88 := h.n88
 have hfu : ∀ j, j < 3 → EOk ((ups ((V k).f (b0 / 3)) (b0 % 3) (some (d, t))) j) := fun j hj => by
  by_cases e : j = b0 % 3
  ·subst e; rw [ups_same]; exact EOk.mk hd htt
  ·rw [ups_other _ _ e]; exact hfo j hj
 have HEN := hide (fun W => isEntry_ok d t hd htt W)
 have HHS := hide (fun W => tHas_any ((V k).r : Int) ((V k).num : Int) (V k).lf (b0 / 3) hl20 W)
 rw [show (((V k).lf (b0 / 3) : Int) != 0) = true by simp; omega] at HHS
 obtain ⟨v1, v2, v3, v4⟩ := hv.leaf k hk (b0 / 3) hl20 hn0
 have HPL := hide (fun W => tPlace_any ((V k).r : Int) ((V k).num : Int) (V k).lf (b0 / 3) hl20 ((V k).lf (b0 / 3) - 1) (by omega) (by omega) W)
 have HLP := hide (fun W => tLeafPage_any ((V k).r : Int) (V k).num u1 (V k).lf (b0 / 3) hl20 _ hfu W)
 have HWP := hide (fun (Y : Nat → Prop) W S' (G : MG w0 W b jb pb mb sb Y n S' L A hn Mw Mn T) ho' ht' => sWritePage G ho' ((V k).lf (b0 / 3) - 1) (by omega) 7 ((32 * (V k).num + b0 / 3 : Nat) : Int) (lfB (ups ((V k).f (b0 / 3)) (b0 % 3) (some (d, t)))) (lfP_err _ _ _ u1 hl20 hfu) ht')
 simp only [show makeB 7 ((32 * (V k).num + b0 / 3 : Nat) : Int) (lfB (ups ((V k).f (b0 / 3)) (b0 % 3) (some (d, t)))) = lfP (V k).num (b0 / 3) (ups ((V k).f (b0 / 3)) (b0 % 3) (some (d, t))) from rfl] at HWP
 generalize lfP (V k).num (b0 / 3) (ups ((V k).f (b0 / 3)) (b0 % 3) (some (d, t))) = t1 at *
 generalize lfB (ups ((V k).f (b0 / 3)) (b0 % 3) (some (d, t))) = bd1 at *
 generalize 32 * (V k).num + b0 / 3 = q at *
 have HZS := hide (lfC_set2 ((V k).f (b0 / 3)) (b0 % 3) hj3 (some (d, t)))
 have HZA := hide (lfC_at2 ((V k).f (b0 / 3)) (b0 % 3) hj3)
 have hyl := lfC_len (ups ((V k).f (b0 / 3)) (b0 % 3) (some (d, t)))
 have hzl := lfC_len ((V k).f (b0 / 3))
 have hzo := lfC_one ((V k).f (b0 / 3))
 have hxl := trC_len ((V k).r : Int) ((V k).num : Int) (V k).lf
 have hxo := trC_one ((V k).r : Int) ((V k).num : Int) (V k).lf
 simp only [show vtD (some (d, t)) = d from rfl, show vtW (some (d, t)) = t from rfl] at HZS
 generalize vtD ((V k).f (b0 / 3) (b0 % 3)) = od at *
 generalize vtW ((V k).f (b0 / 3) (b0 % 3)) = ot at *
 generalize lfC (ups ((V k).f (b0 / 3)) (b0 % 3) (some (d, t))) = ys at *
 generalize lfC ((V k).f (b0 / 3)) = zs at *
 generalize trC ((V k).r : Int) ((V k).num : Int) (V k).lf = xs at *
 generalize (V k).lf (b0 / 3) - 1 = p at *
 generalize (V k).r = r at *
 generalize b0 / 3 = l at *
 generalize b0 % 3 = j at *
 have HT := hide (And.intro ht ho)
 obtain ⟨g, hg⟩ : ∃ q, w.heap.size = q := ⟨_, rfl⟩
 obtain ⟨x1, hx1⟩ : ∃ q, w.alloc (.cells #[.string d, .string t] 47) = q := ⟨_, rfl⟩
 have G1 := h.add _ hx1 hg
 have B1 : Blk x1 g #[.string d, .string t] 47 := by rw [← hx1, ← hg]; exact Blk.new w _ _
 have hO1 : Only (fun x => ¬ X x) w x1 := by rw [← hx1]; exact (Only.refl _ w).alloc _
 have X0 := hide (And.intro h.bg.xm h.xs)
 have X1 := hide (And.intro G1 (And.intro B1 hO1))
 have a0 : x1.cell? ⟨g, 0, none⟩ = some (.string d) := B1.cell 0
 have a1 : x1.cell? ⟨g, 1, none⟩ = some (.string t) := B1.cell 1
 have HXL := hide hxl
 have HXO := hide hxo
 have HZL := hide hzl
 have HZO := hide hzo
 have HYL := hide hyl
 have HJ := hide hj3
 clear h hv ho ht hd htt hn0 hfo hfu u1 u2 u3 u4 u5 hn88 hyl hzl hzo hxl hxo hl20 hj3 G1 B1 hO1 v1 v2 v3 v4
 go_enter Tryz.func17, Tryz.ntmps17
 go_wp2_with (go_at_call 38; refine (unhide HIB _).mono ?_; rintro e w' ⟨rfl, hw'⟩; subst w')
 refine (unhide HEN _).mono ?_
 rintro e x1' ⟨rfl, hb1⟩
 have G1' := (unhide X1).1.below hb1
 have HFI := hide (unhide HFT _ x1' G1')
 have X1' := hide (And.intro ((unhide X1).2.1.below hb1 (unhide X1).2.1.lt) ((unhide X1).2.2.trans (Only.of_below (P := fun x => ¬ X x) hb1) (fun _ _ q => q)))
 clear hb1 G1' X1 HEN HFT a0 a1
 go_wp2_with fail
 refine (unhide HFI).mono ?_
 rintro e x2 ⟨rfl, S2, k1, k2, k3, k4⟩
 have B2 := (unhide X1').1.only k4 (fun q => q (.inr rfl))
 have O2 : Only (fun x => ¬ X x) w x2 := (unhide X1').2.trans k4 (fun _ _ q r => q (.inl r))
 obtain ⟨g2, hg2⟩ : ∃ q, x2.heap.size = q := ⟨_, rfl⟩
 obtain ⟨x3, hx3⟩ : ∃ q, x2.alloc (.cells #[.int .i64 0, .int .i64 0, .int .i64 0, .int .i64 0, .int .i64 0, .int .i64 0, .int .i64 0, .int .i64 0, .int .i64 0, .int .i64 0, .int .i64 0, .int .i64 0, .int .i64 0, .int .i64 0, .int .i64 0, .int .i64 0, .int .i64 0, .int .i64 0, .int .i64 0, .int .i64 0, .int .i64 0, .int .i64 0] 69) = q := ⟨_, rfl⟩
 have hb3 : Below x2.heap.size x2 x3 := by rw [← hx3]; exact (Below.refl _ x2).alloc (Nat.le_refl _) _
 have tB3 : Blk x3 g2 #[.int .i64 0, .int .i64 0, .int .i64 0, .int .i64 0, .int .i64 0, .int .i64 0, .int .i64 0, .int .i64 0, .int .i64 0, .int .i64 0, .int .i64 0, .int .i64 0, .int .i64 0, .int .i64 0, .int .i64 0, .int .i64 0, .int .i64 0, .int .i64 0, .int .i64 0, .int .i64 0, .int .i64 0, .int .i64 0] 69 := by rw [← hx3, ← hg2]; exact Blk.new x2 _ _
 have tG3 := k1.add _ hx3 hg2
 obtain ⟨tn1, tn2, tn3, tn4⟩ := k1.new hg2
 have tTH := hide (blk_there tB3 xs.toArray.size (by simp [unhide HXL]))
 obtain ⟨x4, hx4⟩ : ∃ q, x3.setCells g2 0 xs = q := ⟨_, rfl⟩
 have tB4 : Blk x4 g2 xs.toArray 69 := by rw [← hx4]; exact setCells_all tB3 xs (by simp [unhide HXL])
 have tO4 : Only (fun x => x = g2) x3 x4 := by rw [← hx4]; exact only_cells g2 0 xs rfl
 have tG4 := tG3.poke (.inr rfl) tn2 tn3 tn4 tO4
 have B4 : Blk x4 g #[.string d, .string t] 47 := by rw [← hx4]; exact blk_cells_other _ _ (by rw [← hx3]; exact B2.alloc _) _ (fun q => tn1 (.inr q))
 have O4 : Only (fun x => ¬ X x) w x4 := (O2.trans (Only.of_below (P := fun x => ¬ X x) hb3) (fun _ _ q => q)).trans tO4 (fun x _ q r => tn1 (by rw [← q]; exact .inl r))
 have R4 := hide (blk_range tB4)
 have HRD := hide (unhide HRL _ x4 S2 tG4)
 have X4 := hide (And.intro B4 (And.intro tB4 (And.intro O4 (And.intro k2 k3))))
 clear k1 k2 k3 k4 B2 O2 hb3 tB3 tG3 tn1 tn2 tn3 tn4 tO4 tB4 tG4 B4 O4 X1' HFI HRL
 go_wp2_with (first | (go_at_call 41; refine (unhide HLO _).mono ?_; rintro e w' ⟨rfl, hw'⟩; subst w') | refine wpList_store_mid rfl 69 (.tmp 10) (.tmp 24) rfl g2 0 xs.toArray rfl rfl (unhide tTH) (by rw [sizeTree]; simp [unhide HXL]) (unhide HXO) ?_ | refine wpList_load_mid rfl 69 (.tmp 10) rfl g2 0 rfl _ _ (unhide R4) Tryz.underlying69 rfl (by rw [sizeTree, unhide HXL]) ?_)
 refine (unhide HRD).mono ?_
 rintro e x5 ⟨rfl, S5, k1, k2, k3, k4⟩
 clear hx3 hx4 tTH R4
 obtain ⟨B4, tB4, O4, j1, j2⟩ := unhide X4
 obtain ⟨g3, hg3⟩ : ∃ q, x5.heap.size = q := ⟨_, rfl⟩
 obtain ⟨x6, hx6⟩ : ∃ q, x5.alloc (.cells #[.string ⟨#[]⟩, .string ⟨#[]⟩, .string ⟨#[]⟩, .string ⟨#[]⟩, .string ⟨#[]⟩, .string ⟨#[]⟩] 89) = q := ⟨_, rfl⟩
 have hb6 : Below x5.heap.size x5 x6 := by rw [← hx6]; exact (Below.refl _ x5).alloc (Nat.le_refl _) _
 have lB6 : Blk x6 g3 #[.string ⟨#[]⟩, .string ⟨#[]⟩, .string ⟨#[]⟩, .string ⟨#[]⟩, .string ⟨#[]⟩, .string ⟨#[]⟩] 89 := by rw [← hx6, ← hg3]; exact Blk.new x5 _ _
 have lG6 := k1.add _ hx6 hg3
 obtain ⟨ln1, ln2, ln3, ln4⟩ := k1.new hg3
 have lTH := hide (blk_there lB6 zs.toArray.size (by simp [unhide HZL]))
 obtain ⟨x7, hx7⟩ : ∃ q, x6.setCells g3 0 zs = q := ⟨_, rfl⟩
 have lB7 : Blk x7 g3 zs.toArray 89 := by rw [← hx7]; exact setCells_all lB6 zs (by simp [unhide HZL])
 have lO7 : Only (fun x => x = g3) x6 x7 := by rw [← hx7]; exact only_cells g3 0 zs rfl
 have lG7 := lG6.poke (.inr rfl) ln2 ln3 ln4 lO7
 have LN := hide (And.intro ln1 (And.intro ln2 (And.intro ln3 ln4)))
 have T5 := tB4.only k4 (fun q => q (.inr rfl))
 have T7 : Blk x7 g2 xs.toArray 69 := (T5.below hb6 T5.lt).only lO7 (fun q => ln1 (.inr q.symm))
 have O7 : Only (fun x => ¬ X x) w x7 := ((O4.trans k4 (fun _ _ q r => q (.inl (.inl r)))).trans (Only.of_below (P := fun x => ¬ X x) hb6) (fun _ _ q => q)).trans lO7 (fun x _ q r => ln1 (by rw [← q]; exact .inl (.inl r)))
 have B5 := B4.only k4 (fun q => q (.inl (.inr rfl)))
 have B7 : Blk x7 g #[.string d, .string t] 47 := (B5.below hb6 B5.lt).only lO7 (fun q => ln1 (.inl (.inr q.symm)))
 have HS7 := hide B7
 have X7 := hide (show Blk x7.drew g #[.string d, .string t] 47 ∧ Blk x7.drew g2 xs.toArray 69 ∧ Blk x7.drew g3 zs.toArray 89 ∧ MG w0 x7.drew b jb pb mb sb (fun x => (fun x => (fun x => X x ∨ x = g) x ∨ x = g2) x ∨ x = g3) n S5 L A hn Mw Mn T ∧ S5.op = S.op ∧ Tk S5 S ∧ Only (fun x => ¬ X x) w x7.drew from ⟨B7, T7, lB7, lG7.below ((Below.refl _ x7).drew), k2.trans j1, k3.trans j2, O7.drew⟩)
 have c0 : x7.drew.cell? ⟨g3, j * 2, none⟩ = some (.string od) := by rw [(unhide X7).2.2.1.cell]; exact (unhide HZA).1
 have c1 : x7.drew.cell? ⟨g3, j * 2 + 1, none⟩ = some (.string ot) := by rw [(unhide X7).2.2.1.cell]; exact (unhide HZA).2
 have f0 := (unhide X7).2.2.1.frozen (j * 2)
 have f1 := (unhide X7).2.2.1.frozen (j * 2 + 1)
 have hj0 : (0 : Int) ≤ (j : Int) := by omega
 have hj3 : (j : Int) < 3 := by have := unhide HJ; omega
 clear B5
 clear T5
 have TH := hide (And.intro lB7 lB7)
 clear k1 k2 k3 k4 j1 j2 B4 tB4 O4 lB6 lG6 ln1 ln2 ln3 ln4 lO7 HRD X4 hb6 TH
 go_wp2_with (refine wpList_store_mid rfl 89 (.tmp 13) (.tmp 36) rfl g3 0 zs.toArray rfl rfl (unhide lTH) (by rw [sizeLeaf]; simp [unhide HZL]) (unhide HZO) ?_)
 clear hx6 hx7 lTH lB7 lG7 B7 T7 O7
 refine wp_region_held_drew (S := fun w' => Blk w' g #[.string d, .string t] 47) (by kernel_rfl) (unhide HS7) ?_
 intro hS
 generalize x7.drew = x8 at *
 refine wpAnyH_takeD 0 (some 41) (.int .i64 (b0 : Int)) rfl rfl (by kernel_rfl) (by kernel_rfl) (by kernel_rfl) (fun _ _ _ h => h) (Or.inl ⟨by rfl, fun w hSw => by go_simp⟩) hS ?_
 simp only [Act.put, List.setIfInBounds_toArray, List.set_cons_zero, List.set_cons_succ]
 refine wpAnyH_takeD 2 (some 43) (.agg #[.string d, .string t]) rfl rfl (by kernel_rfl) (by kernel_rfl) (by kernel_rfl) (fun _ _ _ h => h) (Or.inl ⟨by rfl, fun w hSw => by have a0 : w.cell? ⟨g, 0, none⟩ = some (.string d) := Blk.cell hSw 0; have a1 : w.cell? ⟨g, 1, none⟩ = some (.string t) := Blk.cell hSw 1; go_simp⟩) hS ?_
 simp only [Act.put, List.setIfInBounds_toArray, List.set_cons_zero, List.set_cons_succ]
 refine wpAnyH_ready (rs := [1]) (by kernel_rfl) (by simp) ?_
 refine AllReadyH.cons rfl (fun K hK => ?_) AllReadyH.nil
 simp only [List.getElem_toArray, List.getElem_cons_succ, List.getElem_cons_zero]
 go_simp
 refine (unhide HSO _).mono ?_
 rintro e y1 ⟨rfl, hw1⟩
 subst y1
 refine hK.out _ _ (unhide X7).1 (fun hS => ?_)
 clear hK K
 refine wpAnyH_takeD 3 (some 44) (.pointer (some ⟨g3, j * 2, none⟩)) rfl rfl (by kernel_rfl) (by kernel_rfl) (by kernel_rfl) (fun _ _ _ h => h) (Or.inl ⟨by rfl, fun w hSw => by go_simp⟩) hS ?_
 simp only [Act.put, List.setIfInBounds_toArray, List.set_cons_zero, List.set_cons_succ]
 refine wpAnyH_ready (rs := [4]) (by kernel_rfl) (by simp) ?_
 refine AllReadyH.cons rfl (fun K hK => ?_) AllReadyH.nil
 simp only [List.getElem_toArray, List.getElem_cons_succ, List.getElem_cons_zero]
 go_simp
 obtain ⟨B8, T8, L8, G8, k2, k3, O8⟩ := unhide X7
 have L9 : Blk ((x8.setCell ⟨g3, j * 2, none⟩ (.string d)).setCell ⟨g3, j * 2 + 1, none⟩ (.string t)) g3 ys.toArray 89 := by have := (L8.set (j * 2) (.string d)).set (j * 2 + 1) (.string t); rwa [unhide HZS] at this
 have O9 := ((Only.refl (fun x => x = g3) x8).setCell ⟨g3, j * 2, none⟩ (.string d) (fun _ => rfl)).setCell ⟨g3, j * 2 + 1, none⟩ (.string t) (fun _ => rfl)
 obtain ⟨ln1, ln2, ln3, ln4⟩ := unhide LN
 have B9 := B8.only O9 (fun q => ln1 (.inl (.inr q.symm)))
 have T9 := T8.only O9 (fun q => ln1 (.inr q.symm))
 have X9 := hide (And.intro T9 (And.intro L9 (And.intro (G8.poke (.inr rfl) ln2 ln3 ln4 O9) (And.intro k2 (And.intro k3 (show Only (fun x => ¬ X x) w _ from O8.trans O9 (fun x _ q r => ln1 (by rw [← q]; exact .inl (.inl r)))))))))
 clear B8 T8 L8 G8 k2 k3 O8 L9 O9 T9 X7 ln1 ln2 ln3 ln4
 refine hK.out _ _ B9 (fun hS => ?_)
 clear hK K
 refine wpAnyH_done (by kernel_rfl) ?_ _
 clear hS HS7 B9 c0 c1 f0 f1
 generalize (x8.setCell ⟨g3, j * 2, none⟩ (.string d)).setCell ⟨g3, j * 2 + 1, none⟩ (.string t) = x9 at *
 have R9 := hide (blk_range (unhide X9).1)
 go_wp2_with (refine wpList_load_mid rfl 69 (.tmp 10) rfl g2 0 rfl _ _ (unhide R9) Tryz.underlying69 rfl (by rw [sizeTree, unhide HXL]) ?_)
 refine (unhide HHS _).mono ?_
 rintro e x10 ⟨rfl, hb10⟩
 obtain ⟨T9, L9, G9, k2, k3, O9⟩ := unhide X9
 have T10 := T9.below hb10 T9.lt
 have L10 := L9.below hb10 L9.lt
 have G10 := G9.below hb10
 have O10 : Only (fun x => ¬ X x) w x10 := O9.trans (Only.of_below (P := fun x => ¬ X x) hb10) (fun _ _ q => q)
 have HS10 := hide (And.intro T10 L10)
 have X10 := hide (show Blk x10.drew g2 xs.toArray 69 ∧ Blk x10.drew g3 ys.toArray 89 ∧ MG w0 x10.drew b jb pb mb sb (fun x => (fun x => (fun x => X x ∨ x = g) x ∨ x = g2) x ∨ x = g3) n S5 L A hn Mw Mn T ∧ S5.op = S.op ∧ Tk S5 S ∧ Only (fun x => ¬ X x) w x10.drew from ⟨T10, L10, G10.below ((Below.refl _ x10).drew), k2, k3, O10.drew⟩)
 clear T9 L9 G9 k2 k3 O9 T10 L10 G10 O10 hb10 X9 R9 HHS
 go_wp2
 refine wp_region_held_drew (S := fun w' => Blk w' g2 xs.toArray 69 ∧ Blk w' g3 ys.toArray 89) (by kernel_rfl) (unhide HS10) ?_
 intro hS
 generalize x10.drew = x12 at *
 refine wpAnyH_takeD 0 (some 48) (.pointer (some ⟨sb, 0, none⟩)) rfl rfl (by kernel_rfl) (by kernel_rfl) (by kernel_rfl) (fun _ _ _ h => h) (Or.inl ⟨by rfl, fun w hSw => by go_simp⟩) hS ?_
 simp only [Act.put, List.setIfInBounds_toArray, List.set_cons_zero, List.set_cons_succ]
 refine wpAnyH_takeD 1 (some 49) (.agg xs.toArray) rfl rfl (by kernel_rfl) (by kernel_rfl) (by kernel_rfl) (fun _ _ _ h => h) (yieldsIf_load_mid (by rfl) 69 (.tmp 10) rfl g2 0 rfl _ _ (fun w hSw => blk_range hSw.1) Tryz.underlying69 rfl (by rw [sizeTree, unhide HXL])) hS ?_
 simp only [Act.put, List.setIfInBounds_toArray, List.set_cons_zero, List.set_cons_succ]
 refine wpAnyH_takeD 2 (some 50) (.int .i64 (l : Int)) rfl rfl (by kernel_rfl) (by kernel_rfl) (by kernel_rfl) (fun _ _ _ h => h) (Or.inl ⟨by rfl, fun w hSw => by go_simp⟩) hS ?_
 simp only [Act.put, List.setIfInBounds_toArray, List.set_cons_zero, List.set_cons_succ]
 refine wpAnyH_takeD 4 (some 52) (.agg xs.toArray) rfl rfl (by kernel_rfl) (by kernel_rfl) (by kernel_rfl) (fun _ _ _ h => h) (yieldsIf_load_mid (by rfl) 69 (.tmp 10) rfl g2 0 rfl _ _ (fun w hSw => blk_range hSw.1) Tryz.underlying69 rfl (by rw [sizeTree, unhide HXL])) hS ?_
 simp only [Act.put, List.setIfInBounds_toArray, List.set_cons_zero, List.set_cons_succ]
 refine wpAnyH_takeD 5 (some 53) (.int .i64 (l : Int)) rfl rfl (by kernel_rfl) (by kernel_rfl) (by kernel_rfl) (fun _ _ _ h => h) (Or.inl ⟨by rfl, fun w hSw => by go_simp⟩) hS ?_
 simp only [Act.put, List.setIfInBounds_toArray, List.set_cons_zero, List.set_cons_succ]
 refine wpAnyH_takeD 6 (some 54) (.agg ys.toArray) rfl rfl (by kernel_rfl) (by kernel_rfl) (by kernel_rfl) (fun _ _ _ h => h) (yieldsIf_load_mid (by rfl) 89 (.tmp 13) rfl g3 0 rfl _ _ (fun w hSw => blk_range hSw.2) Tryz.underlying89 rfl (by rw [sizeLeaf, unhide HYL])) hS ?_
 simp only [Act.put, List.setIfInBounds_toArray, List.set_cons_zero, List.set_cons_succ]
 refine wpAnyH_ready (rs := [3]) (by kernel_rfl) (by simp) ?_
 refine AllReadyH.cons rfl (fun K hK => ?_) AllReadyH.nil
 simp only [List.getElem_toArray, List.getElem_cons_succ, List.getElem_cons_zero]
 go_simp
 refine (unhide HPL _).mono ?_
 rintro e y1 ⟨rfl, hb⟩
 obtain ⟨T1, L1, G1, k2, k3, O1⟩ := unhide X10
 have X11 := hide (And.intro (T1.below hb T1.lt) (And.intro (L1.below hb L1.lt) (And.intro (G1.below hb) (And.intro k2 (And.intro k3 (O1.trans (Only.of_below (P := fun x => ¬ X x) hb) (fun _ _ q => q)))))))
 clear T1 L1 G1 k2 k3 O1 hb X10
 refine hK.out _ _ ⟨(unhide X11).1, (unhide X11).2.1⟩ (fun hS => ?_)
 clear hK K
 refine wpAnyH_ready (rs := [7]) (by kernel_rfl) (by simp) ?_
 refine AllReadyH.cons rfl (fun K hK => ?_) AllReadyH.nil
 simp only [List.getElem_toArray, List.getElem_cons_succ, List.getElem_cons_zero]
 go_simp
 refine (unhide HLP _).mono ?_
 rintro e y2 ⟨rfl, hb⟩
 obtain ⟨T1, L1, G1, k2, k3, O1⟩ := unhide X11
 have X12 := hide (And.intro (T1.below hb T1.lt) (And.intro (L1.below hb L1.lt) (And.intro (G1.below hb) (And.intro k2 (And.intro k3 (O1.trans (Only.of_below (P := fun x => ¬ X x) hb) (fun _ _ q => q)))))))
 clear T1 L1 G1 k2 k3 O1 hb X11
 refine hK.out _ _ ⟨(unhide X12).1, (unhide X12).2.1⟩ (fun hS => ?_)
 clear hK K
 refine wpAnyH_ready (rs := [8]) (by kernel_rfl) (by simp) ?_
 refine AllReadyH.cons rfl (fun K hK => ?_) AllReadyH.nil
 simp only [List.getElem_toArray, List.getElem_cons_succ, List.getElem_cons_zero]
 go_simp
 obtain ⟨T1, L1, G1, k2, k3, O1⟩ := unhide X12
 refine (unhide HWP _ y2 S5 G1 (k2.trans (unhide HT).2) (by rw [k3.1]; have := (unhide HT).1; omega)).mono ?_
 rintro e y3 ⟨rfl, hC⟩
 have HF := hide (show MChg w0 w b jb pb mb sb X n S L A hn Mw 1 T (ups (Sec Mn) (40 + p) t1) y3 from by
  have hC' := hC.less (Y := X) O1 (fun _ q => .inl (.inl (.inl q))) (unhide X0).1 (unhide X0).2
  obtain ⟨S1, M1, h1, h2, h3, h4, h5, h6⟩ := hC'
  exact ⟨S1, M1, h1, h2, h3.trans k3.2, by rw [k3.1] at h4; exact h4, h5, h6⟩)
 obtain ⟨S13, M13, j1, j2, j3, j4, j5, j6⟩ := hC
 have T13 := T1.only j6 (fun q => q (.inl (.inr rfl)))
 have L13 := L1.only j6 (fun q => q (.inr rfl))
 clear T1 L1 G1 k2 k3 O1 j1 j2 j3 j4 j5 j6 X12
 refine hK.out _ _ ⟨T13, L13⟩ (fun hS => ?_)
 clear hK K
 refine wpAnyH_takeD 9 (some 8) (.int .i64 0) rfl rfl (by kernel_rfl) (by kernel_rfl) (by kernel_rfl) (fun _ _ _ h => h) (Or.inl ⟨by rfl, fun w hSw => by go_simp⟩) hS ?_
 simp only [Act.put, List.setIfInBounds_toArray, List.set_cons_zero, List.set_cons_succ]
 refine wpAnyH_takeD 10 (some 9) (.int .i64 0) rfl rfl (by kernel_rfl) (by kernel_rfl) (by kernel_rfl) (fun _ _ _ h => h) (Or.inl ⟨by rfl, fun w hSw => by go_simp⟩) hS ?_
 simp only [Act.put, List.setIfInBounds_toArray, List.set_cons_zero, List.set_cons_succ]
 refine wpAnyH_done (by kernel_rfl) ?_ _
 clear hS HS10
 go_wp2
 go_ret2
 exact ⟨rfl, unhide HF⟩
set_option maxRecDepth 100000 in
set_option maxHeartbeats 2000000 in
theorem sSet_new {w0 w : World} {b jb pb mb sb : Nat} {X : Nat → Prop} {n : Nat} {S : PS} {L : List ByteArray} {A : List (Nat × Nat)} {hn : Nat} {Mw Mn : List ByteArray} {T : Nat → Bool} (h : MG w0 w b jb pb mb sb X n S L A hn Mw Mn T) (ho : S.op = true) {m : Nat} {V : Nat → Vol} (hv : VS Mn n m T V) (k : Nat) (hk : k < m) (b0 : Nat) (hb0 : b0 < 60) (d t : ByteArray) (hd : d.size = 32) (htt : t.size = 48) (hn0 : (V k).lf (b0 / 3) = 0) (p : Nat) (hla : Lea T n p) (ht : S.tx.length < 14) : Calls Tryz.prog 17 #[.pointer (some ⟨sb, 0, none⟩), .int .i64 ((V k).r : Int), .int .i64 (b0 : Int), .agg #[.string d, .string t]] w fun e w' => e = .returned (.tuple #[.int .i64 1, .int .i64 0]) ∧ MChg w0 w b jb pb mb sb X n S L A hn Mw 3 (flp T p) (ups (ups (Sec Mn) (40 + p) (lfP (V k).num (b0 / 3) (ups ((V k).f (b0 / 3)) (b0 % 3) (some (d, t))))) (40 + (V k).r) (rtP (V k).num (ups (V k).lf (b0 / 3) (p + 1)))) w' := by
 have HIB := hide (fun W => isBlock_ok b0 hb0 W)
 have HLO := hide (fun W => leafOf_any b0 hb0 W)
 have HSO := hide (fun W => seatOf_any b0 hb0 W)
 have hl20 : b0 / 3 < 20 := by omega
 have hj3 : b0 % 3 < 3 := by omega
 have HFT := hide (fun (Y : Nat → Prop) W (G : MG w0 W b jb pb mb sb Y n S L A hn Mw Mn T) => sFtc_ok G ho hv k hk)
 have HRL := hide (fun (Y : Nat → Prop) W S' (G : MG w0 W b jb pb mb sb Y n S' L A hn Mw Mn T) => sReadLeaf_none G hv k hk (b0 / 3) hl20 hn0)
 obtain ⟨u1, u2, u3, u4, u5⟩ := hv.root k hk
 have hfo := hv.fo k hk (b0 / 3) hl20
 have hn88 := h.n88
 have hfu : ∀ j, j < 3 → EOk ((ups ((V k).f (b0 / 3)) (b0 % 3) (some (d, t))) j) := fun j hj => by
  by_cases e : j = b0 % 3
  ·subst e; rw [ups_same]; exact EOk.mk hd htt
  ·rw [ups_other _ _ e]; exact hfo j hj
 have HEN := hide (fun W => isEntry_ok d t hd htt W)
 have HHS := hide (fun W => tHas_any ((V k).r : Int) ((V k).num : Int) (V k).lf (b0 / 3) hl20 W)
 rw [show (((V k).lf (b0 / 3) : Int) != 0) = false by rw [hn0]; rfl] at HHS
 have HGR := hide (fun (Y : Nat → Prop) W S' (G : MG w0 W b jb pb mb sb Y n S' L A hn Mw Mn T) ho' ht' => sGrow G ho' p hla (V k).r (V k).num (by omega) u1 (V k).lf (fun i hi => by have := u5 i hi; omega) (b0 / 3) hl20 _ hfu ht')
 generalize lfP (V k).num (b0 / 3) (ups ((V k).f (b0 / 3)) (b0 % 3) (some (d, t))) = t1 at *
 generalize rtP (V k).num (ups (V k).lf (b0 / 3) (p + 1)) = t2 at *
 have HZS := hide (lfC_set2 ((V k).f (b0 / 3)) (b0 % 3) hj3 (some (d, t)))
 have HZA := hide (lfC_at2 ((V k).f (b0 / 3)) (b0 % 3) hj3)
 have hyl := lfC_len (ups ((V k).f (b0 / 3)) (b0 % 3) (some (d, t)))
 have hzl := lfC_len ((V k).f (b0 / 3))
 have hzo := lfC_one ((V k).f (b0 / 3))
 have hxl := trC_len ((V k).r : Int) ((V k).num : Int) (V k).lf
 have hxo := trC_one ((V k).r : Int) ((V k).num : Int) (V k).lf
 simp only [show vtD (some (d, t)) = d from rfl, show vtW (some (d, t)) = t from rfl] at HZS
 generalize vtD ((V k).f (b0 / 3) (b0 % 3)) = od at *
 generalize vtW ((V k).f (b0 / 3) (b0 % 3)) = ot at *
 generalize lfC (ups ((V k).f (b0 / 3)) (b0 % 3) (some (d, t))) = ys at *
 generalize lfC ((V k).f (b0 / 3)) = zs at *
 generalize trC ((V k).r : Int) ((V k).num : Int) (V k).lf = xs at *
 generalize (V k).r = r at *
 generalize b0 / 3 = l at *
 generalize b0 % 3 = j at *
 have HT := hide (And.intro ht ho)
 obtain ⟨g, hg⟩ : ∃ q, w.heap.size = q := ⟨_, rfl⟩
 obtain ⟨x1, hx1⟩ : ∃ q, w.alloc (.cells #[.string d, .string t] 47) = q := ⟨_, rfl⟩
 have G1 := h.add _ hx1 hg
 have B1 : Blk x1 g #[.string d, .string t] 47 := by rw [← hx1, ← hg]; exact Blk.new w _ _
 have hO1 : Only (fun x => ¬ X x) w x1 := by rw [← hx1]; exact (Only.refl _ w).alloc _
 have X0 := hide (And.intro h.bg.xm h.xs)
 have X1 := hide (And.intro G1 (And.intro B1 hO1))
 have a0 : x1.cell? ⟨g, 0, none⟩ = some (.string d) := B1.cell 0
 have a1 : x1.cell? ⟨g, 1, none⟩ = some (.string t) := B1.cell 1
 have HXL := hide hxl
 have HXO := hide hxo
 have HZL := hide hzl
 have HZO := hide hzo
 have HYL := hide hyl
 have HJ := hide hj3
 clear h hv ho ht hd htt hn0 hfo hfu u1 u2 u3 u4 u5 hn88 hyl hzl hzo hxl hxo hl20 hj3 G1 B1 hO1 hla
 go_enter Tryz.func17, Tryz.ntmps17
 go_wp2_with (go_at_call 38; refine (unhide HIB _).mono ?_; rintro e w' ⟨rfl, hw'⟩; subst w')
 refine (unhide HEN _).mono ?_
 rintro e x1' ⟨rfl, hb1⟩
 have G1' := (unhide X1).1.below hb1
 have HFI := hide (unhide HFT _ x1' G1')
 have X1' := hide (And.intro ((unhide X1).2.1.below hb1 (unhide X1).2.1.lt) ((unhide X1).2.2.trans (Only.of_below (P := fun x => ¬ X x) hb1) (fun _ _ q => q)))
 clear hb1 G1' X1 HEN HFT a0 a1
 go_wp2_with fail
 refine (unhide HFI).mono ?_
 rintro e x2 ⟨rfl, S2, k1, k2, k3, k4⟩
 have B2 := (unhide X1').1.only k4 (fun q => q (.inr rfl))
 have O2 : Only (fun x => ¬ X x) w x2 := (unhide X1').2.trans k4 (fun _ _ q r => q (.inl r))
 obtain ⟨g2, hg2⟩ : ∃ q, x2.heap.size = q := ⟨_, rfl⟩
 obtain ⟨x3, hx3⟩ : ∃ q, x2.alloc (.cells #[.int .i64 0, .int .i64 0, .int .i64 0, .int .i64 0, .int .i64 0, .int .i64 0, .int .i64 0, .int .i64 0, .int .i64 0, .int .i64 0, .int .i64 0, .int .i64 0, .int .i64 0, .int .i64 0, .int .i64 0, .int .i64 0, .int .i64 0, .int .i64 0, .int .i64 0, .int .i64 0, .int .i64 0, .int .i64 0] 69) = q := ⟨_, rfl⟩
 have hb3 : Below x2.heap.size x2 x3 := by rw [← hx3]; exact (Below.refl _ x2).alloc (Nat.le_refl _) _
 have tB3 : Blk x3 g2 #[.int .i64 0, .int .i64 0, .int .i64 0, .int .i64 0, .int .i64 0, .int .i64 0, .int .i64 0, .int .i64 0, .int .i64 0, .int .i64 0, .int .i64 0, .int .i64 0, .int .i64 0, .int .i64 0, .int .i64 0, .int .i64 0, .int .i64 0, .int .i64 0, .int .i64 0, .int .i64 0, .int .i64 0, .int .i64 0] 69 := by rw [← hx3, ← hg2]; exact Blk.new x2 _ _
 have tG3 := k1.add _ hx3 hg2
 obtain ⟨tn1, tn2, tn3, tn4⟩ := k1.new hg2
 have tTH := hide (blk_there tB3 xs.toArray.size (by simp [unhide HXL]))
 obtain ⟨x4, hx4⟩ : ∃ q, x3.setCells g2 0 xs = q := ⟨_, rfl⟩
 have tB4 : Blk x4 g2 xs.toArray 69 := by rw [← hx4]; exact setCells_all tB3 xs (by simp [unhide HXL])
 have tO4 : Only (fun x => x = g2) x3 x4 := by rw [← hx4]; exact only_cells g2 0 xs rfl
 have tG4 := tG3.poke (.inr rfl) tn2 tn3 tn4 tO4
 have B4 : Blk x4 g #[.string d, .string t] 47 := by rw [← hx4]; exact blk_cells_other _ _ (by rw [← hx3]; exact B2.alloc _) _ (fun q => tn1 (.inr q))
 have O4 : Only (fun x => ¬ X x) w x4 := (O2.trans (Only.of_below (P := fun x => ¬ X x) hb3) (fun _ _ q => q)).trans tO4 (fun x _ q r => tn1 (by rw [← q]; exact .inl r))
 have R4 := hide (blk_range tB4)
 have HRD := hide (unhide HRL _ x4 S2 tG4)
 have X4 := hide (And.intro B4 (And.intro tB4 (And.intro O4 (And.intro k2 k3))))
 clear k1 k2 k3 k4 B2 O2 hb3 tB3 tG3 tn1 tn2 tn3 tn4 tO4 tB4 tG4 B4 O4 X1' HFI HRL
 go_wp2_with (first | (go_at_call 41; refine (unhide HLO _).mono ?_; rintro e w' ⟨rfl, hw'⟩; subst w') | refine wpList_store_mid rfl 69 (.tmp 10) (.tmp 24) rfl g2 0 xs.toArray rfl rfl (unhide tTH) (by rw [sizeTree]; simp [unhide HXL]) (unhide HXO) ?_ | refine wpList_load_mid rfl 69 (.tmp 10) rfl g2 0 rfl _ _ (unhide R4) Tryz.underlying69 rfl (by rw [sizeTree, unhide HXL]) ?_)
 refine (unhide HRD).mono ?_
 rintro e x5 ⟨rfl, S5, k1, k2, k3, k4⟩
 clear hx3 hx4 tTH R4
 obtain ⟨B4, tB4, O4, j1, j2⟩ := unhide X4
 obtain ⟨g3, hg3⟩ : ∃ q, x5.heap.size = q := ⟨_, rfl⟩
 obtain ⟨x6, hx6⟩ : ∃ q, x5.alloc (.cells #[.string ⟨#[]⟩, .string ⟨#[]⟩, .string ⟨#[]⟩, .string ⟨#[]⟩, .string ⟨#[]⟩, .string ⟨#[]⟩] 89) = q := ⟨_, rfl⟩
 have hb6 : Below x5.heap.size x5 x6 := by rw [← hx6]; exact (Below.refl _ x5).alloc (Nat.le_refl _) _
 have lB6 : Blk x6 g3 #[.string ⟨#[]⟩, .string ⟨#[]⟩, .string ⟨#[]⟩, .string ⟨#[]⟩, .string ⟨#[]⟩, .string ⟨#[]⟩] 89 := by rw [← hx6, ← hg3]; exact Blk.new x5 _ _
 have lG6 := k1.add _ hx6 hg3
 obtain ⟨ln1, ln2, ln3, ln4⟩ := k1.new hg3
 have lTH := hide (blk_there lB6 zs.toArray.size (by simp [unhide HZL]))
 obtain ⟨x7, hx7⟩ : ∃ q, x6.setCells g3 0 zs = q := ⟨_, rfl⟩
 have lB7 : Blk x7 g3 zs.toArray 89 := by rw [← hx7]; exact setCells_all lB6 zs (by simp [unhide HZL])
 have lO7 : Only (fun x => x = g3) x6 x7 := by rw [← hx7]; exact only_cells g3 0 zs rfl
 have lG7 := lG6.poke (.inr rfl) ln2 ln3 ln4 lO7
 have LN := hide (And.intro ln1 (And.intro ln2 (And.intro ln3 ln4)))
 have T5 := tB4.only k4 (fun q => q (.inr rfl))
 have T7 : Blk x7 g2 xs.toArray 69 := (T5.below hb6 T5.lt).only lO7 (fun q => ln1 (.inr q.symm))
 have O7 : Only (fun x => ¬ X x) w x7 := ((O4.trans k4 (fun _ _ q r => q (.inl (.inl r)))).trans (Only.of_below (P := fun x => ¬ X x) hb6) (fun _ _ q => q)).trans lO7 (fun x _ q r => ln1 (by rw [← q]; exact .inl (.inl r)))
 have B5 := B4.only k4 (fun q => q (.inl (.inr rfl)))
 have B7 : Blk x7 g #[.string d, .string t] 47 := (B5.below hb6 B5.lt).only lO7 (fun q => ln1 (.inl (.inr q.symm)))
 have HS7 := hide B7
 have X7 := hide (show Blk x7.drew g #[.string d, .string t] 47 ∧ Blk x7.drew g2 xs.toArray 69 ∧ Blk x7.drew g3 zs.toArray 89 ∧ MG w0 x7.drew b jb pb mb sb (fun x => (fun x => (fun x => X x ∨ x = g) x ∨ x = g2) x ∨ x = g3) n S5 L A hn Mw Mn T ∧ S5.op = S.op ∧ Tk S5 S ∧ Only (fun x => ¬ X x) w x7.drew from ⟨B7, T7, lB7, lG7.below ((Below.refl _ x7).drew), k2.trans j1, k3.trans j2, O7.drew⟩)
 have c0 : x7.drew.cell? ⟨g3, j * 2, none⟩ = some (.string od) := by rw [(unhide X7).2.2.1.cell]; exact (unhide HZA).1
 have c1 : x7.drew.cell? ⟨g3, j * 2 + 1, none⟩ = some (.string ot) := by rw [(unhide X7).2.2.1.cell]; exact (unhide HZA).2
 have f0 := (unhide X7).2.2.1.frozen (j * 2)
 have f1 := (unhide X7).2.2.1.frozen (j * 2 + 1)
 have hj0 : (0 : Int) ≤ (j : Int) := by omega
 have hj3 : (j : Int) < 3 := by have := unhide HJ; omega
 clear B5
 clear T5
 have TH := hide (And.intro lB7 lB7)
 clear k1 k2 k3 k4 j1 j2 B4 tB4 O4 lB6 lG6 ln1 ln2 ln3 ln4 lO7 HRD X4 hb6 TH
 go_wp2_with (refine wpList_store_mid rfl 89 (.tmp 13) (.tmp 36) rfl g3 0 zs.toArray rfl rfl (unhide lTH) (by rw [sizeLeaf]; simp [unhide HZL]) (unhide HZO) ?_)
 clear hx6 hx7 lTH lB7 lG7 B7 T7 O7
 refine wp_region_held_drew (S := fun w' => Blk w' g #[.string d, .string t] 47) (by kernel_rfl) (unhide HS7) ?_
 intro hS
 generalize x7.drew = x8 at *
 refine wpAnyH_takeD 0 (some 41) (.int .i64 (b0 : Int)) rfl rfl (by kernel_rfl) (by kernel_rfl) (by kernel_rfl) (fun _ _ _ h => h) (Or.inl ⟨by rfl, fun w hSw => by go_simp⟩) hS ?_
 simp only [Act.put, List.setIfInBounds_toArray, List.set_cons_zero, List.set_cons_succ]
 refine wpAnyH_takeD 2 (some 43) (.agg #[.string d, .string t]) rfl rfl (by kernel_rfl) (by kernel_rfl) (by kernel_rfl) (fun _ _ _ h => h) (Or.inl ⟨by rfl, fun w hSw => by have a0 : w.cell? ⟨g, 0, none⟩ = some (.string d) := Blk.cell hSw 0; have a1 : w.cell? ⟨g, 1, none⟩ = some (.string t) := Blk.cell hSw 1; go_simp⟩) hS ?_
 simp only [Act.put, List.setIfInBounds_toArray, List.set_cons_zero, List.set_cons_succ]
 refine wpAnyH_ready (rs := [1]) (by kernel_rfl) (by simp) ?_
 refine AllReadyH.cons rfl (fun K hK => ?_) AllReadyH.nil
 simp only [List.getElem_toArray, List.getElem_cons_succ, List.getElem_cons_zero]
 go_simp
 refine (unhide HSO _).mono ?_
 rintro e y1 ⟨rfl, hw1⟩
 subst y1
 refine hK.out _ _ (unhide X7).1 (fun hS => ?_)
 clear hK K
 refine wpAnyH_takeD 3 (some 44) (.pointer (some ⟨g3, j * 2, none⟩)) rfl rfl (by kernel_rfl) (by kernel_rfl) (by kernel_rfl) (fun _ _ _ h => h) (Or.inl ⟨by rfl, fun w hSw => by go_simp⟩) hS ?_
 simp only [Act.put, List.setIfInBounds_toArray, List.set_cons_zero, List.set_cons_succ]
 refine wpAnyH_ready (rs := [4]) (by kernel_rfl) (by simp) ?_
 refine AllReadyH.cons rfl (fun K hK => ?_) AllReadyH.nil
 simp only [List.getElem_toArray, List.getElem_cons_succ, List.getElem_cons_zero]
 go_simp
 obtain ⟨B8, T8, L8, G8, k2, k3, O8⟩ := unhide X7
 have L9 : Blk ((x8.setCell ⟨g3, j * 2, none⟩ (.string d)).setCell ⟨g3, j * 2 + 1, none⟩ (.string t)) g3 ys.toArray 89 := by have := (L8.set (j * 2) (.string d)).set (j * 2 + 1) (.string t); rwa [unhide HZS] at this
 have O9 := ((Only.refl (fun x => x = g3) x8).setCell ⟨g3, j * 2, none⟩ (.string d) (fun _ => rfl)).setCell ⟨g3, j * 2 + 1, none⟩ (.string t) (fun _ => rfl)
 obtain ⟨ln1, ln2, ln3, ln4⟩ := unhide LN
 have B9 := B8.only O9 (fun q => ln1 (.inl (.inr q.symm)))
 have T9 := T8.only O9 (fun q => ln1 (.inr q.symm))
 have X9 := hide (And.intro T9 (And.intro L9 (And.intro (G8.poke (.inr rfl) ln2 ln3 ln4 O9) (And.intro k2 (And.intro k3 (show Only (fun x => ¬ X x) w _ from O8.trans O9 (fun x _ q r => ln1 (by rw [← q]; exact .inl (.inl r)))))))))
 clear B8 T8 L8 G8 k2 k3 O8 L9 O9 T9 X7 ln1 ln2 ln3 ln4
 refine hK.out _ _ B9 (fun hS => ?_)
 clear hK K
 refine wpAnyH_done (by kernel_rfl) ?_ _
 clear hS HS7 B9 c0 c1 f0 f1
 generalize (x8.setCell ⟨g3, j * 2, none⟩ (.string d)).setCell ⟨g3, j * 2 + 1, none⟩ (.string t) = x9 at *
 have R9 := hide (blk_range (unhide X9).1)
 go_wp2_with (refine wpList_load_mid rfl 69 (.tmp 10) rfl g2 0 rfl _ _ (unhide R9) Tryz.underlying69 rfl (by rw [sizeTree, unhide HXL]) ?_)
 refine (unhide HHS _).mono ?_
 rintro e x10 ⟨rfl, hb10⟩
 obtain ⟨T9, L9, G9, k2, k3, O9⟩ := unhide X9
 have T10 := T9.below hb10 T9.lt
 have L10 := L9.below hb10 L9.lt
 have G10 := G9.below hb10
 have O10 : Only (fun x => ¬ X x) w x10 := O9.trans (Only.of_below (P := fun x => ¬ X x) hb10) (fun _ _ q => q)
 have R10 := hide (blk_range T10)
 have L10' := hide (blk_range L10)
 have HG := hide (unhide HGR _ x10 S5 G10 (k2.trans (unhide HT).2) (by rw [k3.1]; exact (unhide HT).1))
 have X10 := hide (And.intro k3 O10)
 clear T9 L9 G9 k2 k3 O9 T10 L10 G10 O10 hb10 X9 R9 HHS HGR
 go_wp2_with (first | refine wpList_load_mid rfl 69 (.tmp 10) rfl g2 0 rfl _ _ (unhide R10) Tryz.underlying69 rfl (by rw [sizeTree, unhide HXL]) ?_ | refine wpList_load_mid rfl 89 (.tmp 13) rfl g3 0 rfl _ _ (unhide L10') Tryz.underlying89 rfl (by rw [sizeLeaf, unhide HYL]) ?_)
 refine (unhide HG).mono ?_
 rintro e x11 ⟨rfl, hC⟩
 have HF := hide (show MChg w0 w b jb pb mb sb X n S L A hn Mw 3 (flp T p) (ups (ups (Sec Mn) (40 + p) t1) (40 + r) t2) x11 from by
  have hC' := hC.less (Y := X) (unhide X10).2 (fun _ q => .inl (.inl (.inl q))) (unhide X0).1 (unhide X0).2
  obtain ⟨S1, M1, h1, h2, h3, h4, h5, h6⟩ := hC'
  exact ⟨S1, M1, h1, h2, h3.trans (unhide X10).1.2, by rw [(unhide X10).1.1] at h4; exact h4, h5, h6⟩)
 clear hC HG X10
 go_wp2
 go_ret2
 exact ⟨rfl, unhide HF⟩
end Go.Proofs.YtiellebdliifdaaGreatDoor
