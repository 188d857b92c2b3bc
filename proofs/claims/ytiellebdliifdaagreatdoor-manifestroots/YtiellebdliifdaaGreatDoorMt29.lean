import Derived.Test.YtiellebdliifdaaGreatDoorMt28
import Derived.Deep.DeepCutAuto
import Derived.Test.YtiellebdliifdaaGreatDoorMt23
import Derived.Test.YtiellebdliifdaaGreatDoorMt22
import Derived.Test.YtiellebdliifdaaGreatDoorMt18
namespace Go.Proofs.YtiellebdliifdaaGreatDoor
open Go.RowKit Go.Maps Go.Sort Go.Shelf
def gErr (e : Ent) : Int := if e.isSome then 0 else 103
theorem alloc_in {w0 w : World} {b jb pb mb sb : Nat} {Y : Nat → Prop} {n : Nat} {S : PS} {L : List ByteArray} {A : List (Nat × Nat)} {hn : Nat} {Mw Mn : List ByteArray} {T : Nat → Bool} {g g2 : Nat} {xs : List Value} (h : MG w0 w b jb pb mb sb Y n S L A hn Mw Mn T) (hg : Blk w g #[.string ⟨#[]⟩, .string ⟨#[]⟩] 47) (h2 : Blk w g2 xs.toArray 69) {w' : World} (e : w.alloc (.cells #[.string ⟨#[]⟩, .string ⟨#[]⟩, .string ⟨#[]⟩, .string ⟨#[]⟩, .string ⟨#[]⟩, .string ⟨#[]⟩] 89) = w') {gl : Nat} (hl : w.heap.size = gl) : Blk w' gl #[.string ⟨#[]⟩, .string ⟨#[]⟩, .string ⟨#[]⟩, .string ⟨#[]⟩, .string ⟨#[]⟩, .string ⟨#[]⟩] 89 ∧ Blk w' g #[.string ⟨#[]⟩, .string ⟨#[]⟩] 47 ∧ Blk w' g2 xs.toArray 69 ∧ gl ≠ g ∧ gl ≠ g2 ∧ MG w0 w' b jb pb mb sb (fun x => Y x ∨ x = gl) n S L A hn Mw Mn T ∧ Below w.heap.size w w' ∧ (¬ Y gl ∧ w0.heap.size ≤ gl ∧ gl ≠ mb ∧ gl ≠ sb) := by
 have G := h.add _ e hl
 have N := h.new hl
 subst e hl
 exact ⟨Blk.new w _ _, hg.alloc _, h2.alloc _, (Nat.ne_of_lt hg.lt).symm, (Nat.ne_of_lt h2.lt).symm, G, (Below.refl _ w).alloc (Nat.le_refl _) _, N⟩
set_option maxRecDepth 100000 in
set_option maxHeartbeats 2000000 in
theorem sGet {w0 w : World} {b jb pb mb sb : Nat} {X : Nat → Prop} {n : Nat} {S : PS} {L : List ByteArray} {A : List (Nat × Nat)} {hn : Nat} {Mw Mn : List ByteArray} {T : Nat → Bool} (h : MG w0 w b jb pb mb sb X n S L A hn Mw Mn T) {m : Nat} {V : Nat → Vol} (hv : VS Mn n m T V) (k : Nat) (hk : k < m) (b0 : Nat) (hb0 : b0 < 60) : Calls Tryz.prog 15 #[.pointer (some ⟨sb, 0, none⟩), .int .i64 ((V k).r : Int), .int .i64 (b0 : Int)] w fun e w' => e = .returned (.tuple #[.agg #[.string (vtD ((V k).e b0)), .string (vtW ((V k).e b0))], .int .i64 (gErr ((V k).e b0))]) ∧ MKept w0 w b jb pb mb sb X n S L A hn Mw Mn T w' := by
 have HIB := hide (fun W => isBlock_ok b0 hb0 W)
 have HLO := hide (fun W => leafOf_any b0 hb0 W)
 have HSO := hide (fun W => seatOf_any b0 hb0 W)
 have hl20 : b0 / 3 < 20 := by omega
 have hj3 : b0 % 3 < 3 := by omega
 have hfo := hv.fo k hk (b0 / 3) hl20
 have HFI := hide (fun (Y : Nat → Prop) W (G : MG w0 W b jb pb mb sb Y n S L A hn Mw Mn T) => sFind_ok G hv k hk)
 have HRL : Hid (∀ (Y : Nat → Prop) W S' (G : MG w0 W b jb pb mb sb Y n S' L A hn Mw Mn T), Calls Tryz.prog 42 #[.pointer (some ⟨sb, 0, none⟩), .agg (trC ((V k).r : Int) ((V k).num : Int) (V k).lf).toArray, .int .i64 ((b0 / 3 : Nat) : Int)] W fun e w' => e = .returned (.tuple #[.agg (lfC ((V k).f (b0 / 3))).toArray, .int .i64 0]) ∧ MKept w0 W b jb pb mb sb Y n S' L A hn Mw Mn T w') := fun Y W S' G => by
  by_cases e : (V k).lf (b0 / 3) = 0
  ·exact sReadLeaf_none G hv k hk (b0 / 3) hl20 e
  ·exact sReadLeaf_some G hv k hk (b0 / 3) hl20 e
 have HE := hide (show (V k).f (b0 / 3) (b0 % 3) = (V k).e b0 from by show (V k).e (3 * (b0 / 3) + b0 % 3) = _; rw [div3])
 have HZA := hide (lfC_at2 ((V k).f (b0 / 3)) (b0 % 3) hj3)
 have HM := hide (fun W => isMapped_any ((V k).f (b0 / 3) (b0 % 3)) (hfo _ hj3) W)
 rw [unhide HE] at HZA HM
 have hzl := lfC_len ((V k).f (b0 / 3))
 have hzo := lfC_one ((V k).f (b0 / 3))
 have hxl := trC_len ((V k).r : Int) ((V k).num : Int) (V k).lf
 have hxo := trC_one ((V k).r : Int) ((V k).num : Int) (V k).lf
 generalize lfC ((V k).f (b0 / 3)) = zs at *
 generalize trC ((V k).r : Int) ((V k).num : Int) (V k).lf = xs at *
 generalize (V k).r = r at *
 generalize b0 / 3 = l at *
 generalize b0 % 3 = j at *
 have HDW := hide (show (V k).e b0 = none → vtD ((V k).e b0) = ⟨#[]⟩ ∧ vtW ((V k).e b0) = ⟨#[]⟩ from fun q => by rw [q]; exact ⟨rfl, rfl⟩)
 have HER := hide (show gErr ((V k).e b0) = if ((V k).e b0).isSome then 0 else 103 from rfl)
 have HNS := hide (show ((V k).e b0).isSome = false → (V k).e b0 = none from fun q => Option.not_isSome_iff_eq_none.1 (by rw [q]; decide))
 generalize gErr ((V k).e b0) = er at *
 generalize vtD ((V k).e b0) = od at *
 generalize vtW ((V k).e b0) = ot at *
 obtain ⟨z, hz⟩ : ∃ q : Bool, ((V k).e b0).isSome = q := ⟨_, rfl⟩
 rw [hz] at HM HER HNS
 generalize (V k).e b0 = ent at *
 clear hz
 obtain ⟨g, hg⟩ : ∃ q, w.heap.size = q := ⟨_, rfl⟩
 obtain ⟨x1, hx1⟩ : ∃ q, w.alloc (.cells #[.string ⟨#[]⟩, .string ⟨#[]⟩] 47) = q := ⟨_, rfl⟩
 have G1 := h.add _ hx1 hg
 have B1 : Blk x1 g #[.string ⟨#[]⟩, .string ⟨#[]⟩] 47 := by rw [← hx1, ← hg]; exact Blk.new w _ _
 have hO1 : Only (fun x => ¬ X x) w x1 := by rw [← hx1]; exact (Only.refl _ w).alloc _
 obtain ⟨n1, n2, n3, n4⟩ := h.new hg
 have X0 := hide (And.intro h.bg.xm (And.intro h.xs (And.intro n1 (And.intro n2 (And.intro n3 n4)))))
 have HF := hide (unhide HFI _ x1 G1)
 have X1 := hide (And.intro B1 hO1)
 have HXL := hide hxl
 have HXO := hide hxo
 have HZL := hide hzl
 have HZO := hide hzo
 have HJ := hide hj3
 clear h hv hfo hzl hzo hxl hxo hl20 hj3 G1 B1 hO1 HFI n1 n2 n3 n4
 go_enter Tryz.func15, Tryz.ntmps15
 go_wp2_with (go_at_call 38; refine (unhide HIB _).mono ?_; rintro e w' ⟨rfl, hw'⟩; subst w')
 refine (unhide HF).mono ?_
 rintro e x2 ⟨rfl, S2, k1, k2, k3, k4⟩
 have B2 := (unhide X1).1.only k4 (fun q => q (.inr rfl))
 have O2 : Only (fun x => ¬ X x) w x2 := (unhide X1).2.trans k4 (fun _ _ q r => q (.inl r))
 obtain ⟨g2, hg2⟩ : ∃ q, x2.heap.size = q := ⟨_, rfl⟩
 obtain ⟨x3, hx3⟩ : ∃ q, x2.alloc (.cells #[.int .i64 0, .int .i64 0, .int .i64 0, .int .i64 0, .int .i64 0, .int .i64 0, .int .i64 0, .int .i64 0, .int .i64 0, .int .i64 0, .int .i64 0, .int .i64 0, .int .i64 0, .int .i64 0, .int .i64 0, .int .i64 0, .int .i64 0, .int .i64 0, .int .i64 0, .int .i64 0, .int .i64 0, .int .i64 0] 69) = q := ⟨_, rfl⟩
 have hb3 : Below x2.heap.size x2 x3 := by rw [← hx3]; exact (Below.refl _ x2).alloc (Nat.le_refl _) _
 have tB3 : Blk x3 g2 #[.int .i64 0, .int .i64 0, .int .i64 0, .int .i64 0, .int .i64 0, .int .i64 0, .int .i64 0, .int .i64 0, .int .i64 0, .int .i64 0, .int .i64 0, .int .i64 0, .int .i64 0, .int .i64 0, .int .i64 0, .int .i64 0, .int .i64 0, .int .i64 0, .int .i64 0, .int .i64 0, .int .i64 0, .int .i64 0] 69 := by rw [← hx3, ← hg2]; exact Blk.new x2 _ _
 have tG3 := k1.add _ hx3 hg2
 obtain ⟨tn1, tn2, tn3, tn4⟩ := k1.new hg2
 have tTH := hide (blk_there tB3 xs.toArray.size (by simp [unhide HXL]))
 obtain ⟨x4, hx4⟩ : ∃ q, x3.setCells g2 0 xs = q := ⟨_, rfl⟩
 have tB4 : Blk x4 g2 xs.toArray 69 := by rw [← hx4]; exact setCells_all tB3 xs (by simp [unhide HXL])
 have tO4 : Only (fun x => x = g2) x3 x4 := by rw [← hx4]; exact only_cells g2 0 xs rfl
 have tG4 := tG3.poke (.inr rfl) tn2 tn3 tn4 tO4
 have B4 : Blk x4 g #[.string ⟨#[]⟩, .string ⟨#[]⟩] 47 := by rw [← hx4]; exact blk_cells_other _ _ (by rw [← hx3]; exact B2.alloc _) _ (fun q => tn1 (.inr q))
 have O4 : Only (fun x => ¬ X x) w x4 := (O2.trans (Only.of_below (P := fun x => ¬ X x) hb3) (fun _ _ q => q)).trans tO4 (fun x _ q r => tn1 (by rw [← q]; exact .inl r))
 have HS4 := hide tB4
 have X4 := hide (show Blk x4.drew g #[.string ⟨#[]⟩, .string ⟨#[]⟩] 47 ∧ Blk x4.drew g2 xs.toArray 69 ∧ MG w0 x4.drew b jb pb mb sb (fun x => (fun x => X x ∨ x = g) x ∨ x = g2) n S2 L A hn Mw Mn T ∧ S2.op = S.op ∧ Tk S2 S ∧ Only (fun x => ¬ X x) w x4.drew from ⟨B4, tB4, tG4.below ((Below.refl _ x4).drew), k2, k3, O4.drew⟩)
 obtain ⟨R, hR⟩ : ∃ R : Nat → World → Prop, R = fun gl wx => Blk wx gl zs.toArray 89 ∧ Blk wx g #[.string ⟨#[]⟩, .string ⟨#[]⟩] 47 ∧ gl ≠ g ∧ ∃ S', MG w0 wx b jb pb mb sb (fun x => X x ∨ x = g) n S' L A hn Mw Mn T ∧ S'.op = S.op ∧ Tk S' S ∧ Only (fun x => ¬ X x) w wx := ⟨_, rfl⟩
 have HR := hide hR
 have HR' := hide (show ∀ gl wx, (fun gl wx => Blk wx gl zs.toArray 89 ∧ Blk wx g #[.string ⟨#[]⟩, .string ⟨#[]⟩] 47 ∧ gl ≠ g ∧ ∃ S', MG w0 wx b jb pb mb sb (fun x => X x ∨ x = g) n S' L A hn Mw Mn T ∧ S'.op = S.op ∧ Tk S' S ∧ Only (fun x => ¬ X x) w wx) gl wx → R gl wx from fun gl wx q => by rw [hR]; exact q)
 clear hR k1 k2 k3 k4 B2 O2 hb3 tB3 tG3 tn1 tn2 tn3 tn4 tO4 tB4 tG4 B4 O4 X1 HF
 go_wp2_with (refine wpList_store_mid rfl 69 (.tmp 8) (.tmp 20) rfl g2 0 xs.toArray rfl rfl (unhide tTH) (by rw [sizeTree]; simp [unhide HXL]) (unhide HXO) ?_)
 clear hx3 hx4 tTH
 go_cut [10, 9] (fun q e wx => e = .int .i64 0 ∧ ∃ gl, q = .pointer (some ⟨gl, 0, none⟩) ∧ R gl wx)
 case first =>
  refine wp_region_held_drew (S := fun w' => Blk w' g2 xs.toArray 69) (by kernel_rfl) (unhide HS4) ?_
  intro hS
  generalize x4.drew = x5 at *
  refine wpAnyH_takeD 0 (some 27) (.pointer (some ⟨sb, 0, none⟩)) rfl rfl (by kernel_rfl) (by kernel_rfl) (by kernel_rfl) (fun _ _ _ h => h) (Or.inl ⟨by rfl, fun w hSw => by go_simp⟩) hS ?_
  simp only [Act.put, List.setIfInBounds_toArray, List.set_cons_zero, List.set_cons_succ]
  refine wpAnyH_takeD 1 (some 28) (.agg xs.toArray) rfl rfl (by kernel_rfl) (by kernel_rfl) (by kernel_rfl) (fun _ _ _ h => h) (yieldsIf_load_mid (by rfl) 69 (.tmp 8) rfl g2 0 rfl _ _ (fun w hSw => blk_range hSw) Tryz.underlying69 rfl (by rw [sizeTree, unhide HXL])) hS ?_
  simp only [Act.put, List.setIfInBounds_toArray, List.set_cons_zero, List.set_cons_succ]
  refine wpAnyH_takeD 2 (some 29) (.int .i64 (b0 : Int)) rfl rfl (by kernel_rfl) (by kernel_rfl) (by kernel_rfl) (fun _ _ _ h => h) (Or.inl ⟨by rfl, fun w hSw => by go_simp⟩) hS ?_
  simp only [Act.put, List.setIfInBounds_toArray, List.set_cons_zero, List.set_cons_succ]
  refine wpAnyH_ready (rs := [3, 8]) (by kernel_rfl) (by simp) ?_
  refine AllReadyH.cons rfl (fun K hK => ?_) (AllReadyH.cons rfl (fun K hK => ?_) AllReadyH.nil)
  all_goals simp only [List.getElem_toArray, List.getElem_cons_succ, List.getElem_cons_zero]
  ·go_simp
   refine (unhide HLO _).mono ?_
   rintro e y1 ⟨rfl, hw1⟩
   subst y1
   refine hK.out _ _ (unhide X4).2.1 (fun hS => ?_)
   clear hK K
   refine wpAnyH_ready (rs := [4, 8]) (by kernel_rfl) (by simp) ?_
   refine AllReadyH.cons rfl (fun K hK => ?_) (AllReadyH.cons rfl (fun K hK => ?_) AllReadyH.nil)
   all_goals simp only [List.getElem_toArray, List.getElem_cons_succ, List.getElem_cons_zero]
   ·go_simp
    refine (unhide HRL _ x5 _ (unhide X4).2.2.1).mono ?_
    rintro e y2 ⟨rfl, S3, k1, k2, k3, k4⟩
    obtain ⟨c1, c2, c3, c4, c5, c6⟩ := unhide X4
    have X6 := hide (And.intro (c1.only k4 (fun q => q (.inl (.inr rfl)))) (And.intro (c2.only k4 (fun q => q (.inr rfl))) (And.intro k1 (And.intro (k2.trans c4) (And.intro (k3.trans c5) (show Only (fun x => ¬ X x) w y2 from c6.trans k4 (fun _ _ q r => q (.inl (.inl r)))))))))
    clear k1 k2 k3 k4 c1 c2 c3 c4 c5 c6
    refine hK.out _ _ (unhide X6).2.1 (fun hS => ?_)
    clear hK K
    refine wpAnyH_takeD 5 (some 26) (.tuple #[.agg zs.toArray, .int .i64 0]) rfl rfl (by kernel_rfl) (by kernel_rfl) (by kernel_rfl) (fun _ _ _ h => h) (Or.inl ⟨by rfl, fun w hSw => by go_simp⟩) hS ?_
    simp only [Act.put, List.setIfInBounds_toArray, List.set_cons_zero, List.set_cons_succ]
    refine wpAnyH_takeD 6 (some 32) (.agg zs.toArray) rfl rfl (by kernel_rfl) (by kernel_rfl) (by kernel_rfl) (fun _ _ _ h => h) (Or.inl ⟨by rfl, fun w hSw => by go_simp⟩) hS ?_
    simp only [Act.put, List.setIfInBounds_toArray, List.set_cons_zero, List.set_cons_succ]
    refine wpAnyH_takeD 7 (some 33) (.int .i64 0) rfl rfl (by kernel_rfl) (by kernel_rfl) (by kernel_rfl) (fun _ _ _ h => h) (Or.inl ⟨by rfl, fun w hSw => by go_simp⟩) hS ?_
    simp only [Act.put, List.setIfInBounds_toArray, List.set_cons_zero, List.set_cons_succ]
    refine wpAnyH_ready (rs := [8]) (by kernel_rfl) (by simp) ?_
    refine AllReadyH.cons rfl (fun K hK => ?_) AllReadyH.nil
    simp only [List.getElem_toArray, List.getElem_cons_succ, List.getElem_cons_zero]
    go_simp
    obtain ⟨gl, hgl⟩ : ∃ q, y2.heap.size = q := ⟨_, rfl⟩
    obtain ⟨xa, hxa⟩ : ∃ q, y2.alloc (.cells #[.string ⟨#[]⟩, .string ⟨#[]⟩, .string ⟨#[]⟩, .string ⟨#[]⟩, .string ⟨#[]⟩, .string ⟨#[]⟩] 89) = q := ⟨_, rfl⟩
    rw [hgl, hxa]
    have X7 := hide (alloc_in (unhide X6).2.2.1 (unhide X6).1 (unhide X6).2.1 hxa hgl)
    refine hK.out _ _ (unhide X7).2.2.1 (fun hS => ?_)
    clear hK K
    refine wpAnyH_ready (rs := [9]) (by kernel_rfl) (by simp) ?_
    refine AllReadyH.cons rfl (fun K hK => ?_) AllReadyH.nil
    simp only [List.getElem_toArray, List.getElem_cons_succ, List.getElem_cons_zero]
    rw [if_pos (by rfl)]
    refine wp_store_mid 89 (.tmp 10) (.tmp 32) rfl gl 0 zs.toArray rfl rfl (blk_there (unhide X7).1 zs.toArray.size (by simp [unhide HZL])) (by rw [sizeLeaf]; simp [unhide HZL]) (unhide HZO) ?_
    rw [List.toList_toArray]
    refine hK.out _ _ (Blk.only (unhide X7).2.2.1 (only_cells (w := xa) gl 0 zs (P := fun x => x = gl) rfl) (fun q => (unhide X7).2.2.2.2.1 q.symm)) (fun hS => ?_)
    clear hK K
    refine wpAnyH_takeD 10 (some 9) (.int .i64 0) rfl rfl (by kernel_rfl) (by kernel_rfl) (by kernel_rfl) (fun _ _ _ h => h) (Or.inl ⟨by rfl, fun w hSw => by go_simp⟩) hS ?_
    simp only [Act.put, List.setIfInBounds_toArray, List.set_cons_zero, List.set_cons_succ]
    refine wpAnyH_done (by kernel_rfl) ?_ _
    clear hS
    go_wp2_with fail
    go_meet
    refine ⟨rfl, gl, rfl, unhide HR' _ _ ?_⟩
    obtain ⟨a1, a2, a3, a4, a5, a6, a7, a8, a9, a10, a11⟩ := unhide X7
    obtain ⟨c1, c2, c3, c4, c5, c6⟩ := unhide X6
    have O := only_cells (w := xa) gl 0 zs (P := fun x => x = gl) rfl
    exact ⟨setCells_all a1 zs (by simp [unhide HZL]), a2.only O (fun q => a4 q.symm), a4, S3, (a6.poke (.inr rfl) a9 a10 a11 O).less (fun _ q => .inl (.inl q)) (.inl (unhide X0).1) (.inl (unhide X0).2.1), c4, c5, (c6.trans (Only.of_below (P := fun x => ¬ X x) a7) (fun _ _ q => q)).trans O (fun x _ q r => a8 (by rw [← q]; exact .inl (.inl r)))⟩
   ·go_simp
    obtain ⟨gl, hgl⟩ : ∃ q, x5.heap.size = q := ⟨_, rfl⟩
    obtain ⟨xa, hxa⟩ : ∃ q, x5.alloc (.cells #[.string ⟨#[]⟩, .string ⟨#[]⟩, .string ⟨#[]⟩, .string ⟨#[]⟩, .string ⟨#[]⟩, .string ⟨#[]⟩] 89) = q := ⟨_, rfl⟩
    rw [hgl, hxa]
    have X7 := hide (alloc_in (unhide X4).2.2.1 (unhide X4).1 (unhide X4).2.1 hxa hgl)
    refine hK.out _ _ (unhide X7).2.2.1 (fun hS => ?_)
    clear hK K
    refine wpAnyH_ready (rs := [4]) (by kernel_rfl) (by simp) ?_
    refine AllReadyH.cons rfl (fun K hK => ?_) AllReadyH.nil
    simp only [List.getElem_toArray, List.getElem_cons_succ, List.getElem_cons_zero]
    go_simp
    refine (unhide HRL _ xa _ (unhide X7).2.2.2.2.2.1).mono ?_
    rintro e y2 ⟨rfl, S3, k1, k2, k3, k4⟩
    obtain ⟨a1, a2, a3, a4, a5, a6, a7, a8, a9, a10, a11⟩ := unhide X7
    obtain ⟨c1, c2, c3, c4, c5, c6⟩ := unhide X4
    have X8 := hide (And.intro (a1.only k4 (fun q => q (.inr rfl))) (And.intro (a2.only k4 (fun q => q (.inl (.inl (.inr rfl))))) (And.intro (a3.only k4 (fun q => q (.inl (.inr rfl)))) (And.intro k1 (And.intro (k2.trans c4) (And.intro (k3.trans c5) (show Only (fun x => ¬ X x) w y2 from (c6.trans (Only.of_below (P := fun x => ¬ X x) a7) (fun _ _ q => q)).trans k4 (fun _ _ q r => q (.inl (.inl (.inl r)))))))))))
    clear k1 k2 k3 k4 c1 c2 c3 c4 c5 c6 a1 a2 a3 a6 a7
    refine hK.out _ _ (unhide X8).2.2.1 (fun hS => ?_)
    clear hK K
    refine wpAnyH_takeD 5 (some 26) (.tuple #[.agg zs.toArray, .int .i64 0]) rfl rfl (by kernel_rfl) (by kernel_rfl) (by kernel_rfl) (fun _ _ _ h => h) (Or.inl ⟨by rfl, fun w hSw => by go_simp⟩) hS ?_
    simp only [Act.put, List.setIfInBounds_toArray, List.set_cons_zero, List.set_cons_succ]
    refine wpAnyH_takeD 6 (some 32) (.agg zs.toArray) rfl rfl (by kernel_rfl) (by kernel_rfl) (by kernel_rfl) (fun _ _ _ h => h) (Or.inl ⟨by rfl, fun w hSw => by go_simp⟩) hS ?_
    simp only [Act.put, List.setIfInBounds_toArray, List.set_cons_zero, List.set_cons_succ]
    refine wpAnyH_takeD 7 (some 33) (.int .i64 0) rfl rfl (by kernel_rfl) (by kernel_rfl) (by kernel_rfl) (fun _ _ _ h => h) (Or.inl ⟨by rfl, fun w hSw => by go_simp⟩) hS ?_
    simp only [Act.put, List.setIfInBounds_toArray, List.set_cons_zero, List.set_cons_succ]
    refine wpAnyH_ready (rs := [9]) (by kernel_rfl) (by simp) ?_
    refine AllReadyH.cons rfl (fun K hK => ?_) AllReadyH.nil
    simp only [List.getElem_toArray, List.getElem_cons_succ, List.getElem_cons_zero]
    rw [if_pos (by rfl)]
    refine wp_store_mid 89 (.tmp 10) (.tmp 32) rfl gl 0 zs.toArray rfl rfl (blk_there (unhide X8).1 zs.toArray.size (by simp [unhide HZL])) (by rw [sizeLeaf]; simp [unhide HZL]) (unhide HZO) ?_
    rw [List.toList_toArray]
    refine hK.out _ _ (Blk.only (unhide X8).2.2.1 (only_cells (w := y2) gl 0 zs (P := fun x => x = gl) rfl) (fun q => a5 q.symm)) (fun hS => ?_)
    clear hK K
    refine wpAnyH_takeD 10 (some 9) (.int .i64 0) rfl rfl (by kernel_rfl) (by kernel_rfl) (by kernel_rfl) (fun _ _ _ h => h) (Or.inl ⟨by rfl, fun w hSw => by go_simp⟩) hS ?_
    simp only [Act.put, List.setIfInBounds_toArray, List.set_cons_zero, List.set_cons_succ]
    refine wpAnyH_done (by kernel_rfl) ?_ _
    clear hS
    go_wp2_with fail
    go_meet
    refine ⟨rfl, gl, rfl, unhide HR' _ _ ?_⟩
    obtain ⟨b1, b2, b3, b4, b5, b6, b7⟩ := unhide X8
    have O := only_cells (w := y2) gl 0 zs (P := fun x => x = gl) rfl
    exact ⟨setCells_all b1 zs (by simp [unhide HZL]), b2.only O (fun q => a4 q.symm), a4, S3, (b4.poke (.inr rfl) a9 a10 a11 O).less (fun _ q => .inl (.inl q)) (.inl (unhide X0).1) (.inl (unhide X0).2.1), b5, b6, b7.trans O (fun x _ q r => a8 (by rw [← q]; exact .inl (.inl r)))⟩
  ·go_simp
   obtain ⟨gl, hgl⟩ : ∃ q, x5.heap.size = q := ⟨_, rfl⟩
   obtain ⟨xa, hxa⟩ : ∃ q, x5.alloc (.cells #[.string ⟨#[]⟩, .string ⟨#[]⟩, .string ⟨#[]⟩, .string ⟨#[]⟩, .string ⟨#[]⟩, .string ⟨#[]⟩] 89) = q := ⟨_, rfl⟩
   rw [hgl, hxa]
   have X7 := hide (alloc_in (unhide X4).2.2.1 (unhide X4).1 (unhide X4).2.1 hxa hgl)
   refine hK.out _ _ (unhide X7).2.2.1 (fun hS => ?_)
   clear hK K
   refine wpAnyH_ready (rs := [3]) (by kernel_rfl) (by simp) ?_
   refine AllReadyH.cons rfl (fun K hK => ?_) AllReadyH.nil
   simp only [List.getElem_toArray, List.getElem_cons_succ, List.getElem_cons_zero]
   go_simp
   refine (unhide HLO _).mono ?_
   rintro e y1 ⟨rfl, hw1⟩
   subst y1
   refine hK.out _ _ (unhide X7).2.2.1 (fun hS => ?_)
   clear hK K
   refine wpAnyH_ready (rs := [4]) (by kernel_rfl) (by simp) ?_
   refine AllReadyH.cons rfl (fun K hK => ?_) AllReadyH.nil
   simp only [List.getElem_toArray, List.getElem_cons_succ, List.getElem_cons_zero]
   go_simp
   refine (unhide HRL _ xa _ (unhide X7).2.2.2.2.2.1).mono ?_
   rintro e y2 ⟨rfl, S3, k1, k2, k3, k4⟩
   obtain ⟨a1, a2, a3, a4, a5, a6, a7, a8, a9, a10, a11⟩ := unhide X7
   obtain ⟨c1, c2, c3, c4, c5, c6⟩ := unhide X4
   have X8 := hide (And.intro (a1.only k4 (fun q => q (.inr rfl))) (And.intro (a2.only k4 (fun q => q (.inl (.inl (.inr rfl))))) (And.intro (a3.only k4 (fun q => q (.inl (.inr rfl)))) (And.intro k1 (And.intro (k2.trans c4) (And.intro (k3.trans c5) (show Only (fun x => ¬ X x) w y2 from (c6.trans (Only.of_below (P := fun x => ¬ X x) a7) (fun _ _ q => q)).trans k4 (fun _ _ q r => q (.inl (.inl (.inl r)))))))))))
   clear k1 k2 k3 k4 c1 c2 c3 c4 c5 c6 a1 a2 a3 a6 a7
   refine hK.out _ _ (unhide X8).2.2.1 (fun hS => ?_)
   clear hK K
   refine wpAnyH_takeD 5 (some 26) (.tuple #[.agg zs.toArray, .int .i64 0]) rfl rfl (by kernel_rfl) (by kernel_rfl) (by kernel_rfl) (fun _ _ _ h => h) (Or.inl ⟨by rfl, fun w hSw => by go_simp⟩) hS ?_
   simp only [Act.put, List.setIfInBounds_toArray, List.set_cons_zero, List.set_cons_succ]
   refine wpAnyH_takeD 6 (some 32) (.agg zs.toArray) rfl rfl (by kernel_rfl) (by kernel_rfl) (by kernel_rfl) (fun _ _ _ h => h) (Or.inl ⟨by rfl, fun w hSw => by go_simp⟩) hS ?_
   simp only [Act.put, List.setIfInBounds_toArray, List.set_cons_zero, List.set_cons_succ]
   refine wpAnyH_takeD 7 (some 33) (.int .i64 0) rfl rfl (by kernel_rfl) (by kernel_rfl) (by kernel_rfl) (fun _ _ _ h => h) (Or.inl ⟨by rfl, fun w hSw => by go_simp⟩) hS ?_
   simp only [Act.put, List.setIfInBounds_toArray, List.set_cons_zero, List.set_cons_succ]
   refine wpAnyH_ready (rs := [9]) (by kernel_rfl) (by simp) ?_
   refine AllReadyH.cons rfl (fun K hK => ?_) AllReadyH.nil
   simp only [List.getElem_toArray, List.getElem_cons_succ, List.getElem_cons_zero]
   rw [if_pos (by rfl)]
   refine wp_store_mid 89 (.tmp 10) (.tmp 32) rfl gl 0 zs.toArray rfl rfl (blk_there (unhide X8).1 zs.toArray.size (by simp [unhide HZL])) (by rw [sizeLeaf]; simp [unhide HZL]) (unhide HZO) ?_
   rw [List.toList_toArray]
   refine hK.out _ _ (Blk.only (unhide X8).2.2.1 (only_cells (w := y2) gl 0 zs (P := fun x => x = gl) rfl) (fun q => a5 q.symm)) (fun hS => ?_)
   clear hK K
   refine wpAnyH_takeD 10 (some 9) (.int .i64 0) rfl rfl (by kernel_rfl) (by kernel_rfl) (by kernel_rfl) (fun _ _ _ h => h) (Or.inl ⟨by rfl, fun w hSw => by go_simp⟩) hS ?_
   simp only [Act.put, List.setIfInBounds_toArray, List.set_cons_zero, List.set_cons_succ]
   refine wpAnyH_done (by kernel_rfl) ?_ _
   clear hS
   go_wp2_with fail
   go_meet
   refine ⟨rfl, gl, rfl, unhide HR' _ _ ?_⟩
   obtain ⟨b1, b2, b3, b4, b5, b6, b7⟩ := unhide X8
   have O := only_cells (w := y2) gl 0 zs (P := fun x => x = gl) rfl
   exact ⟨setCells_all b1 zs (by simp [unhide HZL]), b2.only O (fun q => a4 q.symm), a4, S3, (b4.poke (.inr rfl) a9 a10 a11 O).less (fun _ q => .inl (.inl q)) (.inl (unhide X0).1) (.inl (unhide X0).2.1), b5, b6, b7.trans O (fun x _ q r => a8 (by rw [← q]; exact .inl (.inl r)))⟩
 case rest =>
 obtain ⟨rfl, gl, rfl, hRR⟩ := hcut
 rw [unhide HR] at hRR
 obtain ⟨L5, B5, hgl, S3, G5, k2, k3, O5⟩ := hRR
 have hj0 : (0 : Int) ≤ (j : Int) := by omega
 have hj3 : (j : Int) < 3 := by have := unhide HJ; omega
 have c0 : wc.cell? ⟨gl, j * 2, none⟩ = some (.string od) := by rw [L5.cell]; exact (unhide HZA).1
 have c1 : wc.cell? ⟨gl, j * 2 + 1, none⟩ = some (.string ot) := by rw [L5.cell]; exact (unhide HZA).2
 obtain ⟨g6, hg6⟩ : ∃ q, wc.heap.size = q := ⟨_, rfl⟩
 obtain ⟨x6, hx6⟩ : ∃ q, wc.alloc (.cells #[.string od, .string ot] 47) = q := ⟨_, rfl⟩
 have hb6 : Below wc.heap.size wc x6 := by rw [← hx6]; exact (Below.refl _ wc).alloc (Nat.le_refl _) _
 have E6 : Blk x6 g6 #[.string od, .string ot] 47 := by rw [← hx6, ← hg6]; exact Blk.new wc _ _
 have B6 := B5.below hb6 B5.lt
 have a0 : x6.cell? ⟨g6, 0, none⟩ = some (.string od) := E6.cell 0
 have a1 : x6.cell? ⟨g6, 1, none⟩ = some (.string ot) := E6.cell 1
 have hne6 : g ≠ g6 := by rw [← hg6]; exact Nat.ne_of_lt B5.lt
 have X6 := hide (And.intro B6 (And.intro E6 (And.intro (G5.below hb6) (And.intro k2 (And.intro k3 (O5.trans (Only.of_below (P := fun x => ¬ X x) hb6) (fun _ _ q => q)))))))
 clear L5 B5 G5 k2 k3 O5 hb6 E6 B6 HR HR' X4 HS4 HRL
 go_wp2_with (go_at_call 43; refine (unhide HSO _).mono ?_; rintro e w' ⟨rfl, hw'⟩; subst w')
 refine (unhide HM _).mono ?_
 rintro e x7 ⟨rfl, hb7⟩
 obtain ⟨B6, E6, G6, k2, k3, O6⟩ := unhide X6
 have B7 := B6.below hb7 B6.lt
 have E7 := E6.below hb7 E6.lt
 have e0 : x7.cell? ⟨g6, 0, none⟩ = some (.string od) := E7.cell 0
 have e1 : x7.cell? ⟨g6, 1, none⟩ = some (.string ot) := E7.cell 1
 have q0 : x7.cell? ⟨g, 0, none⟩ = some (.string ⟨#[]⟩) := B7.cell 0
 have q1 : x7.cell? ⟨g, 1, none⟩ = some (.string ⟨#[]⟩) := B7.cell 1
 have p0 := B7.frozen 0
 have p1 := B7.frozen 1
 have G7 := G6.below hb7
 have O7 : Only (fun x => ¬ X x) w x7 := O6.trans (Only.of_below (P := fun x => ¬ X x) hb7) (fun _ _ q => q)
 have KK : Hid (∀ d t : ByteArray, (loadVar 47 ⟨g, 0, none⟩).run Tryz.prog ((x7.setCell ⟨g, 0, none⟩ (.string d)).setCell ⟨g, 1, none⟩ (.string t)) = .ok (.agg #[.string d, .string t]) ((x7.setCell ⟨g, 0, none⟩ (.string d)).setCell ⟨g, 1, none⟩ (.string t)) ∧ MKept w0 w b jb pb mb sb X n S L A hn Mw Mn T ((x7.setCell ⟨g, 0, none⟩ (.string d)).setCell ⟨g, 1, none⟩ (.string t))) := fun d t => by
  have B8 := (B7.set 0 (.string d)).set 1 (.string t)
  have O8 := ((Only.refl (fun x => x = g) x7).setCell ⟨g, 0, none⟩ (.string d) (fun _ => rfl)).setCell ⟨g, 1, none⟩ (.string t) (fun _ => rfl)
  obtain ⟨m1, m2, n1, n2, n3, n4⟩ := unhide X0
  exact ⟨iload_blk 47 _ B8 Tryz.underlying47 rfl (by kernel_rfl), S3, (G7.poke (.inr rfl) n2 n3 n4 O8).less (fun _ q => .inl q) m1 m2, k2, k3, O7.trans O8 (fun x _ q => by rw [q]; exact n1)⟩
 clear B6 E6 G6 k2 k3 O6 B7 E7 G7 O7 hb7 X6 HM a0 a1 c0 c1 hx6
 cases z with
 | true =>
  have HE1 := hide (show er = 0 from unhide HER)
  go_wp2
  exact bodyPost_ret (v := .tuple #[.agg #[.string od, .string ot], .int .i64 0]) (results_cell2 (p := 6) (q := 7) (ty := 47) rfl _ _ _ ⟨g, 0, none⟩ rfl _ (unhide KK od ot).1) rfl ⟨by rw [unhide HE1], (unhide KK od ot).2⟩
 | false =>
  have HE1 := hide (show er = 103 from unhide HER)
  have HO1 := hide (unhide HDW (unhide HNS rfl))
  go_wp2
  exact bodyPost_ret (v := .tuple #[.agg #[.string ⟨#[]⟩, .string ⟨#[]⟩], .int .i64 103]) (results_cell2 (p := 6) (q := 7) (ty := 47) rfl _ _ _ ⟨g, 0, none⟩ rfl _ (unhide KK ⟨#[]⟩ ⟨#[]⟩).1) rfl ⟨by rw [unhide HE1, (unhide HO1).1, (unhide HO1).2], (unhide KK ⟨#[]⟩ ⟨#[]⟩).2⟩
end Go.Proofs.YtiellebdliifdaaGreatDoor
namespace Go.Proofs.YtiellebdliifdaaGreatDoor
open Go.RowKit Go.Maps Go.Sort Go.Shelf
def zb : ByteArray := strOfNums (List.replicate 32 0)
theorem zb_size : zb.size = 32 := by rw [zb, strOfNums_size, List.length_replicate]
theorem zb_bit (i : Nat) : bitB zb i = false := by
 have hb : Bytes (List.replicate 32 0) := fun j => by
  rw [List.getD_eq_getElem?_getD, List.getElem?_replicate]
  split <;> simp
 have h : byN zb (i % 256 / 8) = 0 := by
  unfold byN zb
  rw [nums_strOfNums _ hb, List.getD_eq_getElem?_getD, List.getElem?_replicate]
  split <;> rfl
 unfold bitB
 rw [h]
 exact Nat.zero_testBit _
def pgZ (m : Nat) : List ByteArray := (List.range m).map fun k => pgT k zb
theorem pgZ_len (m : Nat) : (pgZ m).length = m := by simp [pgZ]
theorem pgZ_succ (m : Nat) : strs (pgZ (m + 1)) = strs (pgZ m) ++ [.string (pgT m zb)] := by simp [pgZ, strs, List.range_succ]
theorem pgZ_at (m k : Nat) (h : k < m) : (pgZ m).getD k ByteArray.empty = pgT k zb := by simp [pgZ, List.getD_eq_getElem?_getD, h]
def InI (w : World) (m : Nat) (u : Value) (wr : World) : Prop := wr.ownsRow w.heap.size 9 1 u m (strs (pgZ m)) ∧ Below w.heap.size w wr
set_option maxRecDepth 100000 in
set_option maxHeartbeats 2000000 in
theorem minitial_any (n : Nat) (hn1 : 1 ≤ n) (hn2 : n ≤ 1024) (w : World) : Calls Tryz.prog 20 #[.int .i64 (n : Int)] w fun e w' => ∃ v, e = .returned (.tuple #[v, .int .i64 0]) ∧ InI w (pgs n) v w' := by
 obtain ⟨i0, hi, hz0, hz1, hz2⟩ := info_parts infoS
 have HI := hide (And.intro hi (And.intro hz0 (And.intro hz1 hz2)))
 clear hi hz0 hz1 hz2
 have HCN := hide (fun W => isCount_any (n : Int) W)
 rw [decide_eq_true (show (1 : Int) ≤ (n : Int) by omega), decide_eq_true (show (n : Int) ≤ 1024 by omega)] at HCN
 have HPO := hide (fun W => pagesOf_any n hn2 W)
 have h4 := pgs_le hn2
 have HRP := hide (fun W => rep_ok 32 W (by decide))
 have HZB := hide (show strOfNums (List.replicate 32 0) = zb from rfl)
 obtain ⟨Z, hZ⟩ : ∃ Z, strOfNums (List.replicate 32 0) = Z := ⟨_, rfl⟩
 rw [hZ] at HRP HZB
 clear hZ
 simp only [Int.cast_ofNat_Int] at HRP
 generalize pgs n = P0 at *
 go_enter Tryz.func20, Tryz.ntmps20
 go_wp2_with (first | (go_at_call 60; refine (unhide HCN _).mono ?_; rintro e w' ⟨rfl, hw'⟩; subst w') | (go_at_call 61; refine (unhide HPO _).mono ?_; rintro e w' ⟨rfl, hw'⟩; subst w'))
 go_loopw [4, 11] (fun u i wr => ∃ k : Nat, k ≤ P0 ∧ i = .int .i64 (k : Int) ∧ InI w k u wr) (fun _ i _ => P0 - (intOf i).toNat)
 case atStart => exact ⟨0, by omega, rfl, World.ownsRow_nil _ _ _ _, Below.refl _ _⟩
 case round =>
  obtain ⟨k, hk, rfl, hR, hB⟩ := hrel
  obtain ⟨wo, rfl⟩ : ∃ wo, wo = wr := ⟨_, rfl⟩
  obtain ⟨pv, cv, rfl, hcv⟩ := row_form hR
  by_cases hkn : k < P0
  ·have hkn' : (k : Int) < (P0 : Int) := by omega
   have HR := hide hR
   have HB := hide hB
   clear hR hB hcv
   go_wp2_with fail
   refine (unhide HRP _).mono ?_
   rintro e y1 ⟨rfl, hb1⟩
   have HSE := hide (sectorOf_any k Z y1)
   have HB1 := hide hb1
   obtain ⟨t, ht⟩ : ∃ t, pgT k Z = t := ⟨_, rfl⟩
   rw [ht] at HSE
   have HT := hide (show pgT k zb = t from by rw [← ht, unhide HZB])
   clear hb1 ht
   go_wp2_with fail
   refine (unhide HSE).mono ?_
   rintro e y2 ⟨rfl, hb2⟩
   have hB2 : Below wo.heap.size wo y2 := (unhide HB1).trans (hb2.mono (unhide HB1).size)
   have HRA := hide (show (y2.alloc (.cells #[.string t] 9)).ownsRow w.heap.size 9 1 (.slice pv k cv) k (strs (pgZ k)) from (owns_only (unhide HR) (Only.of_below (P := fun _ => False) hB2) (fun _ _ q => q)).alloc _)
   have HXB := hide ((unhide HB).trans ((hB2.alloc hB2.size (.cells #[.string t] 9)).mono (unhide HB).size))
   clear hb2 hB2 HSE HB1
   go_wp2_with (refine wpList_append_own _ rfl (.tmp 14) (.tmp 18) 55 rfl w.heap.size 9 i0 (.string ⟨#[]⟩) 1 16 Tryz.underlying55 (unhide HI).1 (unhide HI).2.1 (unhide HI).2.2.1 (unhide HI).2.2.2 rfl (by decide) _ k (strs (pgZ k)) rfl (unhide HRA) ⟨y2.heap.size, 0, none⟩ 1 1 [.string t] rfl rfl (fun q u hu => news_one y2 9 _ q u hu) (by simp [Value.oneCell']) (by unfold maxLen; omega) (by omega) (unhide HXB).size ?_)
   intro v5 x5 ho5 hg5 _
   have HRR := hide (show InI w (k + 1) v5 x5 from ⟨by rw [pgZ_succ, unhide HT]; exact ho5, (unhide HXB).grown hg5 (unhide HXB).size (fun q hq => ((unhide HRA).lt q hq).1)⟩)
   clear ho5 hg5 HRA HXB HT
   go_wp2
   go_roundw
   case rel => exact ⟨k + 1, by omega, by go_num, unhide HRR⟩
   case measure => simp [intOf]; omega
  ·have hke : k = P0 := by omega
   have hkn' : ¬ (k : Int) < (P0 : Int) := by omega
   subst hke
   have HF := hide (show InI w k (.slice pv k cv) wo from ⟨hR, hB⟩)
   clear hR hB hcv
   go_wp2
   go_ret2
   exact ⟨_, rfl, unhide HF⟩
def prN (a : Nat) (l : List ByteArray) (m : Nat) : List (Nat × ByteArray) := (List.range m).map fun i => (a + i, l.getD i ByteArray.empty)
theorem prN_succ (a : Nat) (l : List ByteArray) (m : Nat) : prN a l (m + 1) = prN a l m ++ [(a + m, l.getD m ByteArray.empty)] := by simp [prN, List.range_succ]
theorem prN_len (a : Nat) (l : List ByteArray) (m : Nat) : (prN a l m).length = m := by simp [prN]
def prA (a m : Nat) : List (Nat × Nat) := (List.range m).map fun i => (0, a + i)
theorem prA_len (a m : Nat) : (prA a m).length = m := by simp [prA]
theorem prA_succ (a m : Nat) : prA a (m + 1) = prA a m ++ [(0, a + m)] := by simp [prA, List.range_succ]
def layS (a : Nat) (l : List ByteArray) (m : Nat) : DSt := ⟨L0, layP L0 (prN a l m), prN a l m, A0 ++ prA a m, 0, false⟩
def ldL (a : Nat) (l : List ByteArray) : List ByteArray := layP L0 (prN a l l.length)
def ldA (a : Nat) (l : List ByteArray) : List (Nat × Nat) := A0 ++ prA a l.length ++ [(1, 0)]
theorem layS_write (a : Nat) (l : List ByteArray) (m : Nat) (h : a + m < 128) (ht : (l.getD m ByteArray.empty).size = 256) : writeE (layS a l m) ((a + m : Nat) : Int) (l.getD m ByteArray.empty) = 0 ∧ writeS (layS a l m) ((a + m : Nat) : Int) (l.getD m ByteArray.empty) = layS a l (m + 1) := by
 obtain ⟨h1, h2⟩ := writeA (s := layS a l m) ⟨rfl, rfl⟩ (a + m) (by show a + m < L0.length; rw [L0_len]; exact h) _ ht
 refine ⟨h1, ?_⟩
 rw [h2]
 unfold layS
 simp only
 rw [prN_succ, prA_succ, layP_app, List.append_assoc]
 rfl
theorem layS_flush (a : Nat) (l : List ByteArray) : flushE (layS a l l.length) = 0 ∧ flushS (layS a l l.length) = rs (ldL a l) (ldA a l) := by
 obtain ⟨h1, h2⟩ := flushA (s := layS a l l.length) ⟨rfl, rfl⟩
 exact ⟨h1, by rw [h2]; rfl⟩
end Go.Proofs.YtiellebdliifdaaGreatDoor
namespace Go.Proofs.YtiellebdliifdaaGreatDoor
open Go.RowKit Go.Maps Go.Sort Go.Shelf
set_option maxRecDepth 100000 in
set_option maxHeartbeats 2000000 in
theorem stray_ok {w : World} {mb pb a n : Nat} (h : MB w mb pb a n) (hn : n ≤ 1024) (k : Nat) (hk : k < pgs n) (T : Nat → Bool) (bd s : ByteArray) (hp : Pg n T k bd s) : Calls Tryz.prog 120 #[.pointer (some ⟨mb, 0, none⟩), .int .i64 (k : Int), .string bd] w fun e w' => e = .returned (.bool false) ∧ Below w.heap.size w w' := by
 have h4 := pgs_le hn
 have hpg : pgs n = (n + 255) / 256 := rfl
 have HPI := hide (placesIn_any h hn k hk)
 have HFO := hide (fun W => firstOf_any k (by omega) W)
 have hbit : ∀ i, i < 256 - pin n k → bitB bd (256 * k + pin n k + i) = false := fun i hi => by
  rw [Nat.add_assoc, bitB_page, hp.2.2 _ (by unfold pin at *; omega), decide_eq_false (by unfold pin at *; omega)]
  rfl
 have HBT := hide hbit
 have hbd := hp.1
 have hpn2 : pin n k ≤ 256 := by unfold pin; omega
 obtain ⟨pn, hpn⟩ : ∃ q, pin n k = q := ⟨_, rfl⟩
 rw [hpn] at HPI HBT hpn2
 have hkk : k ≤ 4 := by omega
 clear h hp hpg h4 hk hbit hpn
 go_enter Tryz.func120, Tryz.ntmps120
 go_wp2_with fail
 refine (unhide HPI).mono ?_
 rintro e x1 ⟨rfl, hb1⟩
 have HB1 := hide hb1
 have e0 : (256 : Int) - (pn : Int) = ((256 - pn : Nat) : Int) := by omega
 have hr : 256 - pn ≤ 256 := by omega
 obtain ⟨R, hR⟩ : ∃ q, 256 - pn = q := ⟨_, rfl⟩
 rw [hR] at e0 hr HBT
 clear hb1 HPI
 go_wp2
 go_loopw [14] (fun i wr => ∃ j : Nat, j ≤ R ∧ i = .int .i64 (j : Int) ∧ Below w.heap.size w wr) (fun i _ => R - (intOf i).toNat)
 case atStart => exact ⟨0, by omega, rfl, unhide HB1⟩
 case round =>
  obtain ⟨j, hj, rfl, hB⟩ := hrel
  obtain ⟨wo, rfl⟩ : ∃ wo, wo = wr := ⟨_, rfl⟩
  by_cases hjn : j < R
  ·have hjn' : (j : Int) < (R : Int) := by omega
   have HTK := hide (fun W => isTaken_any bd hbd (256 * k + pn + j) (by omega) W)
   rw [unhide HBT j hjn] at HTK
   have e1 : ((256 * k : Nat) : Int) + (pn : Int) = ((256 * k + pn : Nat) : Int) := by omega
   have e2 : ((256 * k + pn : Nat) : Int) + (j : Int) = ((256 * k + pn + j : Nat) : Int) := by omega
   have q1 : 256 * k + pn + j < 10000 := by omega
   have q2 : 256 * k + pn < 10000 := by omega
   have q3 : 256 * k < 10000 := by omega
   have HB := hide hB
   clear hB
   generalize 256 * k + pn + j = m3 at *
   generalize 256 * k + pn = m2 at *
   generalize 256 * k = m1 at *
   go_wp2_with (first | (go_at_call 151; refine (unhide HFO _).mono ?_; rintro e w' ⟨rfl, hw'⟩; subst w') | (go_at_call 125; refine (unhide HTK _).mono ?_; rintro e y1 ⟨rfl, hb3⟩))
   go_roundw
   case rel => exact ⟨j + 1, by omega, by go_num, (unhide HB).trans (hb3.mono (unhide HB).size)⟩
   case measure => simp [intOf]; omega
  ·have hjn' : ¬ (j : Int) < (R : Int) := by omega
   have HB := hide hB
   clear hB
   go_wp2
   go_ret
   exact ⟨rfl, unhide HB⟩
def Opened (w0 w : World) (b jb pb : Nat) (X : Nat → Prop) (a n : Nat) (S : PS) (L : List ByteArray) (A : List (Nat × Nat)) (hn : Nat) (Mw Mn : List ByteArray) (T : Nat → Bool) (mb : Nat) (w' : World) : Prop :=
 w.heap.size ≤ mb ∧ ∃ S', BG w0 w' b jb pb mb (fun x => X x ∨ x = mb) a n S' L A hn Mw Mn T ∧ S'.op = S.op ∧ Tk S' S ∧ Only (fun x => ¬ X x) w w'
set_option maxRecDepth 100000 in
set_option maxHeartbeats 4000000 in
theorem mopen_ok {w0 w : World} {b jb pb : Nat} {X : Nat → Prop} {a n : Nat} {S : PS} {L : List ByteArray} {A : List (Nat × Nat)} {hn : Nat} {Mw Mn : List ByteArray} {T : Nat → Bool} (K : PK w0 w b jb pb S X) (hg : ETy w0) (hs : Seen S L A hn Mw Mn) (hm : MS Mn a n T) (h19 : 19 ≤ a) (h128 : a + pgs n ≤ 128) (hn1 : 1 ≤ n) (hn2 : n ≤ 1024) :
  Calls Tryz.prog 74 #[.pointer (some ⟨pb, 0, none⟩), .int .i64 (a : Int), .int .i64 (n : Int)] w fun e w' => ∃ mb, e = .returned (.tuple #[.pointer (some ⟨mb, 0, none⟩), .int .i64 0]) ∧ Opened w0 w b jb pb X a n S L A hn Mw Mn T mb w' := by
 have h4 := pgs_le hn2
 have HCN := hide (fun W => isCount_any (n : Int) W)
 rw [decide_eq_true (show (1 : Int) ≤ (n : Int) by omega), decide_eq_true (show (n : Int) ≤ 1024 by omega)] at HCN
 have HPO := hide (fun W => pagesOf_any n hn2 W)
 have HSZ := hide (show Calls Tryz.prog 118 #[.pointer (some ⟨pb, 0, none⟩)] w fun e w' => e = .returned (.int .i64 128) ∧ w' = w from by
  obtain ⟨bw, bv, ov, Ki⟩ := K
  have := Ki.size
  rw [hs.rst.s, show ((rs L A).last.length : Int) = 128 from by show ((L.length : Nat) : Int) = 128; rw [hs.len]; rfl] at this
  exact this)
 have ha0 : decide ((a : Int) < 0) = false := decide_eq_false (by omega)
 have ha1 : decide ((128 : Int) - (pgs n : Int) < (a : Int)) = false := decide_eq_false (by omega)
 have HM0 := hide (show ∀ W mb, Below w.heap.size w W → MB W mb pb a n → mb = w.heap.size → mb < W.heap.size → Kept w0 w b jb pb mb (fun x => X x ∨ x = mb) a n S L A hn Mw Mn T W from fun W mb hb hM hmb hlt => by
  refine ⟨S, ⟨K.more hb (fun x hx => ?_), hM, .inr rfl, hg, hs, hm, h19, h128, hn1, hn2⟩, rfl, Tk.refl _, Only.of_below hb⟩
  rcases hx with q | q
  ·exact .inl q
  ·rw [q]; exact .inr ⟨by omega, hlt⟩)
 have HXL := hide (show ∀ x, X x → x < w.heap.size from fun x hx => K.lt x hx)
 have hpq : pgs n ≤ 4 := h4
 have HP0 := hide (show ∀ k, k < pgs n → k < pgs n from fun _ q => q)
 obtain ⟨P0, hP0⟩ : ∃ q, pgs n = q := ⟨_, rfl⟩
 rw [hP0] at HPO ha1 hpq
 have HPE := hide hP0
 clear K hs hm hg h4 h128 hP0 HP0 hn1 h19
 go_enter Tryz.func74, Tryz.ntmps74
 go_wp2_with (first | (go_at_call 60; refine (unhide HCN _).mono ?_; rintro e w' ⟨rfl, hw'⟩; subst w') | (go_at_call 61; refine (unhide HPO _).mono ?_; rintro e w' ⟨rfl, hw'⟩; subst w') | (go_at_call 118; refine (unhide HSZ).mono ?_; rintro e w' ⟨rfl, hw'⟩; subst w'))
 obtain ⟨mb, hmb⟩ : ∃ q, w.heap.size = q := ⟨_, rfl⟩
 obtain ⟨x1, hx1⟩ : ∃ q, w.alloc (.cells #[.pointer (some ⟨pb, 0, none⟩), .int .i64 (a : Int), .int .i64 (n : Int)] 177) = q := ⟨_, rfl⟩
 rw [hx1, hmb]
 have X1 := hide (unhide HM0 x1 mb (by rw [← hx1]; exact (Below.refl _ _).alloc (Nat.le_refl _) _) (by rw [← hx1, ← hmb]; exact Blk.new w _ _) hmb.symm (by rw [← hx1, ← hmb]; simp))
 have HMB := hide hmb
 clear hx1 hmb HM0 ha0 ha1
 go_loopw [10, 11, 39] (fun _ _ i wr => ∃ k : Nat, k ≤ P0 ∧ i = .int .i64 (k : Int) ∧ Kept w0 w b jb pb mb (fun x => X x ∨ x = mb) a n S L A hn Mw Mn T wr) (fun _ _ i _ => P0 - (intOf i).toNat)
 case atStart => exact ⟨0, by omega, rfl, unhide X1⟩
 case round =>
  obtain ⟨k, hk, rfl, hI⟩ := hrel
  obtain ⟨wo, rfl⟩ : ∃ wo, wo = wr := ⟨_, rfl⟩
  clear X1
  by_cases hkn : k < P0
  ·have hkn' : (k : Int) < (P0 : Int) := by omega
   obtain ⟨bd, hpg', hc⟩ := hI.read k (by rw [unhide HPE]; exact hkn)
   have HCR := hide hc
   have HPG := hide hpg'
   clear hI hc hpg'
   go_wp2_with fail
   refine (unhide HCR).mono ?_
   rintro e y1 ⟨rfl, hI1⟩
   have HST := hide (stray_ok hI1.mb hn2 k (by rw [unhide HPE]; exact hkn) T bd _ (unhide HPG))
   have HI1 := hide hI1
   clear hI1 HCR HPG
   go_wp2_with (go_at_call 120; refine (unhide HST).mono ?_; rintro e y2 ⟨rfl, hb2⟩)
   go_roundw
   case rel => exact ⟨k + 1, by omega, by go_num, (unhide HI1).below hb2⟩
   case measure => simp [intOf]; omega
  ·have hkn' : ¬ (k : Int) < (P0 : Int) := by omega
   have HI := hide hI
   clear hI
   go_wp2
   go_ret2
   obtain ⟨S', k1, k2, k3, k4⟩ := unhide HI
   refine ⟨mb, rfl, by rw [unhide HMB]; exact Nat.le_refl _, S', k1, k2, k3, k4.widen (fun x hx q r => q (.inl r))⟩
end Go.Proofs.YtiellebdliifdaaGreatDoor
namespace Go.Proofs.YtiellebdliifdaaGreatDoor
open Go.RowKit Go.Maps Go.Sort Go.Shelf
theorem DF.less {w0 w : World} {b : Nat} {s : DSt} {X Y : Nat → Prop} (h : DF w0 w b s X) (hy : ∀ x, Y x → X x) : DF w0 w b s Y := by
 obtain ⟨v, h1, h2, h3, h4⟩ := h
 exact ⟨v, h1, h2, h3, fun x hx => h4 x (hy x hx)⟩
end Go.Proofs.YtiellebdliifdaaGreatDoor
namespace Go.Proofs.YtiellebdliifdaaGreatDoor
open Go.RowKit Go.Maps Go.Sort Go.Shelf
theorem pr_pair (a : Nat) (l : List ByteArray) (m : Nat) : (prN a l m).Pairwise (fun x y => x.1 ≠ y.1) := by
 unfold prN
 refine List.pairwise_map.2 ((List.nodup_range (n := m)).imp (fun h => ?_))
 simp only
 omega
theorem ld_at (a : Nat) (l : List ByteArray) (h : a + l.length ≤ 128) (k : Nat) (hk : k < l.length) : (ldL a l).getD (a + k) ByteArray.empty = l.getD k ByteArray.empty :=
 layP_in _ _ _ _ (pr_pair a l _) (List.mem_map.2 ⟨k, List.mem_range.2 hk, rfl⟩) (by rw [L0_len]; omega)
theorem ld_head (a : Nat) (l : List ByteArray) (h : 19 ≤ a) : (ldL a l).getD 1 ByteArray.empty = headB 0 [] := by
 unfold ldL
 rw [layP_skip _ _ _ (fun p hp => by
  obtain ⟨i, _, rfl⟩ := List.mem_map.1 hp
  simp only
  omega)]
 exact head0
theorem ld_len (a : Nat) (l : List ByteArray) : (ldL a l).length = 128 := by unfold ldL; rw [layP_len, L0_len]
theorem ld_size (a : Nat) (l : List ByteArray) (hz : ∀ i, i < l.length → (l.getD i ByteArray.empty).size = 256) : ∀ t ∈ ldL a l, t.size = 256 :=
 layP_size _ _ L0_size (fun p hp => by
  obtain ⟨i, hi, rfl⟩ := List.mem_map.1 hp
  exact hz i (List.mem_range.1 hi))
theorem ldA_len (a : Nat) (l : List ByteArray) : (ldA a l).length = l.length + 3 := by
 unfold ldA
 rw [List.length_append, List.length_append, prA_len]
 show 2 + l.length + 1 = _
 omega
theorem ms_zero (a n : Nat) (_hn : n ≤ 1024) (h : a + pgs n ≤ 128) : MS (ldL a (pgZ (pgs n))) a n (fun _ => false) := fun k hk => by
 refine ⟨zb, zb_size, ?_, fun j _ => by rw [zb_bit]; simp⟩
 rw [ld_at a _ (by rw [pgZ_len]; exact h) k (by rw [pgZ_len]; exact hk), pgZ_at _ _ hk]
end Go.Proofs.YtiellebdliifdaaGreatDoor
namespace Go.Proofs.YtiellebdliifdaaGreatDoor
open Go.RowKit Go.Maps Go.Sort Go.Shelf
end Go.Proofs.YtiellebdliifdaaGreatDoor
