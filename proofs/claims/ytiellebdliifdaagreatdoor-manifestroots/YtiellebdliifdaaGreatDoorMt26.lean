import Derived.Test.YtiellebdliifdaaGreatDoorMt25
import Derived.ChangeKeysEq
namespace Go.Proofs.YtiellebdliifdaaGreatDoor
open Go.RowKit Go.Maps Go.Sort Go.Shelf
def F0 : Nat → Ent := fun _ => none
theorem lfC_0 : (lfC F0).toArray = #[.string ⟨#[]⟩, .string ⟨#[]⟩, .string ⟨#[]⟩, .string ⟨#[]⟩, .string ⟨#[]⟩, .string ⟨#[]⟩] := rfl
theorem lfC_congr (f g : Nat → Ent) (h : ∀ j, j < 3 → f j = g j) : lfC f = lfC g := by
 unfold lfC
 rw [h 0 (by omega), h 1 (by omega), h 2 (by omega)]
set_option maxRecDepth 100000 in
set_option maxHeartbeats 2000000 in
theorem sReadLeaf_none {w0 w : World} {b jb pb mb sb : Nat} {X : Nat → Prop} {n : Nat} {S : PS} {L : List ByteArray} {A : List (Nat × Nat)} {hn : Nat} {Mw Mn : List ByteArray} {T : Nat → Bool} (h : MG w0 w b jb pb mb sb X n S L A hn Mw Mn T) {m : Nat} {V : Nat → Vol} (hv : VS Mn n m T V) (k : Nat) (hk : k < m) (l : Nat) (hl : l < 20) (hn0 : (V k).lf l = 0) : Calls Tryz.prog 42 #[.pointer (some ⟨sb, 0, none⟩), .agg (trC ((V k).r : Int) ((V k).num : Int) (V k).lf).toArray, .int .i64 (l : Int)] w fun e w' => e = .returned (.tuple #[.agg (lfC ((V k).f l)).toArray, .int .i64 0]) ∧ MKept w0 w b jb pb mb sb X n S L A hn Mw Mn T w' := by
 have HHS := hide (fun W => tHas_any ((V k).r : Int) ((V k).num : Int) (V k).lf l hl W)
 have hxl := trC_len ((V k).r : Int) ((V k).num : Int) (V k).lf
 rw [hn0] at HHS
 have HLE := hide (show lfC ((V k).f l) = lfC F0 from lfC_congr _ _ (fun j hj => ((hv.em k hk l hl).1 hn0) j hj))
 have HE0 := hide lfC_0
 have hyl := lfC_len F0
 have hyo := lfC_one F0
 rw [unhide HLE]
 generalize lfC F0 = ys at *
 generalize trC ((V k).r : Int) ((V k).num : Int) (V k).lf = xs at *
 obtain ⟨g, hg⟩ : ∃ q, w.heap.size = q := ⟨_, rfl⟩
 obtain ⟨x1, hx1⟩ : ∃ q, w.alloc (.cells xs.toArray 69) = q := ⟨_, rfl⟩
 have G1 := h.add _ hx1 hg
 have B1 : Blk x1 g xs.toArray 69 := by rw [← hx1, ← hg]; exact Blk.new w _ _
 obtain ⟨n1, n2, n3, n4⟩ := h.new hg
 obtain ⟨g1, hg1⟩ : ∃ q, x1.heap.size = q := ⟨_, rfl⟩
 obtain ⟨x2, hx2⟩ : ∃ q, x1.alloc (.cells #[.string ⟨#[]⟩, .string ⟨#[]⟩, .string ⟨#[]⟩, .string ⟨#[]⟩, .string ⟨#[]⟩, .string ⟨#[]⟩] 89) = q := ⟨_, rfl⟩
 have G2 := G1.add _ hx2 hg1
 have Ba : Blk x2 g xs.toArray 69 := by rw [← hx2]; exact B1.alloc _
 have Bb : Blk x2 g1 #[.string ⟨#[]⟩, .string ⟨#[]⟩, .string ⟨#[]⟩, .string ⟨#[]⟩, .string ⟨#[]⟩, .string ⟨#[]⟩] 89 := by rw [← hx2, ← hg1]; exact Blk.new x1 _ _
 obtain ⟨m1, m2, m3, m4⟩ := G1.new hg1
 have hO2 : Only (fun x => ¬ X x) w x2 := by rw [← hx2, ← hx1]; exact ((Only.refl _ w).alloc _).alloc _
 have hgg : g ≠ g1 := fun q => m1 (.inr q.symm)
 have R1 := hide (blk_range Ba)
 have HXL := hide hxl
 have HYL := hide hyl
 have HYO := hide hyo
 have X1 := hide (And.intro n1 (And.intro n2 (And.intro n3 (And.intro n4 (And.intro m1 (And.intro m2 (And.intro m3 (And.intro m4 (And.intro h.bg.xm (And.intro h.xs hgg))))))))))
 have X2 := hide (And.intro G2 (And.intro Ba (And.intro Bb hO2)))
 clear G1 B1 n1 n2 n3 n4 G2 Ba Bb m1 m2 m3 m4 hO2 hgg h hv hn0 hxl hyl hyo
 go_enter Tryz.func42, Tryz.ntmps42
 go_wp2_with (refine wpList_load_mid rfl 69 (.tmp 4) rfl g 0 rfl _ _ (unhide R1) Tryz.underlying69 rfl (by rw [sizeTree, unhide HXL]) ?_)
 refine (unhide HHS _).mono ?_
 rintro e x5 ⟨rfl, hb5⟩
 obtain ⟨G2, Ba, Bb, hO2⟩ := unhide X2
 have B5 := Bb.below hb5 Bb.lt
 have TH := hide (blk_there B5 ys.toArray.size (by simp [unhide HYL]))
 have B6 := setCells_all B5 ys (by simp [unhide HYL])
 have HLD := hide (iload_blk 89 _ B6 Tryz.underlying89 rfl (by rw [sizeLeaf]; simp [unhide HYL]))
 have O6 : Only (fun x => x = g1) x5 (x5.setCells g1 0 ys) := only_cells g1 0 ys rfl
 obtain ⟨n1, n2, n3, n4, m1, m2, m3, m4, hm, hs, hgg⟩ := unhide X1
 have HF := hide (show MKept w0 w b jb pb mb sb X n S L A hn Mw Mn T (x5.setCells g1 0 ys) from ⟨S, ((G2.below hb5).poke (.inr rfl) m2 m3 m4 O6).less (fun _ q => .inl (.inl q)) hm hs, rfl, Tk.refl _, (hO2.trans (Only.of_below (P := fun x => ¬ X x) hb5) (fun _ _ q => q)).trans O6 (fun x _ q r => m1 (by rw [← q]; exact .inl r))⟩)
 clear G2 Ba Bb hO2 hb5 B5 B6 O6 n1 n2 n3 n4 m1 m2 m3 m4 hm hs hgg X1 X2 HHS
 rw [show ((((0 : Nat) : Int)) != 0) = false from rfl]
 go_wp2_with (refine wpList_store_mid rfl 89 (.tmp 6) (.tmp 14) rfl g1 0 ys.toArray rfl (by rw [unhide HE0]; rfl) (unhide TH) (by rw [sizeLeaf]; simp [unhide HYL]) (unhide HYO) ?_)
 exact bodyPost_ret (v := .tuple #[.agg ys.toArray, .int .i64 0]) (results_cell2 (p := 6) (q := 7) (ty := 89) rfl _ _ _ ⟨g1, 0, none⟩ rfl _ (unhide HLD)) rfl ⟨rfl, unhide HF⟩
set_option maxRecDepth 100000 in
set_option maxHeartbeats 2000000 in
theorem sReadLeaf_some {w0 w : World} {b jb pb mb sb : Nat} {X : Nat → Prop} {n : Nat} {S : PS} {L : List ByteArray} {A : List (Nat × Nat)} {hn : Nat} {Mw Mn : List ByteArray} {T : Nat → Bool} (h : MG w0 w b jb pb mb sb X n S L A hn Mw Mn T) {m : Nat} {V : Nat → Vol} (hv : VS Mn n m T V) (k : Nat) (hk : k < m) (l : Nat) (hl : l < 20) (hn0 : (V k).lf l ≠ 0) : Calls Tryz.prog 42 #[.pointer (some ⟨sb, 0, none⟩), .agg (trC ((V k).r : Int) ((V k).num : Int) (V k).lf).toArray, .int .i64 (l : Int)] w fun e w' => e = .returned (.tuple #[.agg (lfC ((V k).f l)).toArray, .int .i64 0]) ∧ MKept w0 w b jb pb mb sb X n S L A hn Mw Mn T w' := by
 have HHS := hide (fun W => tHas_any ((V k).r : Int) ((V k).num : Int) (V k).lf l hl W)
 have hxl := trC_len ((V k).r : Int) ((V k).num : Int) (V k).lf
 rw [show (((V k).lf l : Int) != 0) = true by simp; omega] at HHS
 obtain ⟨v1, v2, v3, v4⟩ := hv.leaf k hk l hl hn0
 obtain ⟨u1, u2, u3, u4, u5⟩ := hv.root k hk
 have hn88 := h.n88
 have hfo := hv.fo k hk l hl
 have HPL := hide (fun W => tPlace_any ((V k).r : Int) ((V k).num : Int) (V k).lf l hl ((V k).lf l - 1) (by omega) (by omega) W)
 have HRP := hide (fun (Y : Nat → Prop) W S' (G : MG w0 W b jb pb mb sb Y n S' L A hn Mw Mn T) => sReadPage_ok G ((V k).lf l - 1) (by omega) 7 241 _ v4 ⟨(lfP_parse _ _ _ u1 hl hfo).1, (lfP_parse _ _ _ u1 hl hfo).2.1, by rw [(lfP_parse _ _ _ u1 hl hfo).2.2.2]; exact lfB_size _ hfo⟩)
 simp only [(lfP_parse (V k).num l ((V k).f l) u1 hl hfo).2.2.1, (lfP_parse (V k).num l ((V k).f l) u1 hl hfo).2.2.2] at HRP
 have HLN := hide (fun W => tNumber_any ((V k).r : Int) (V k).num u1 (V k).lf l hl W)
 have HPT := hide (fun W hE => parseLeaf_any ((V k).f l) hfo W hE)
 have hyl := lfC_len ((V k).f l)
 have hyo := lfC_one ((V k).f l)
 generalize lfC ((V k).f l) = ys at *
 generalize lfB ((V k).f l) = bd at *
 generalize 32 * (V k).num + l = nm at *
 generalize (V k).lf l - 1 = p at *
 generalize trC ((V k).r : Int) ((V k).num : Int) (V k).lf = xs at *
 obtain ⟨g, hg⟩ : ∃ q, w.heap.size = q := ⟨_, rfl⟩
 obtain ⟨x1, hx1⟩ : ∃ q, w.alloc (.cells xs.toArray 69) = q := ⟨_, rfl⟩
 have G1 := h.add _ hx1 hg
 have B1 : Blk x1 g xs.toArray 69 := by rw [← hx1, ← hg]; exact Blk.new w _ _
 obtain ⟨n1, n2, n3, n4⟩ := h.new hg
 obtain ⟨g1, hg1⟩ : ∃ q, x1.heap.size = q := ⟨_, rfl⟩
 obtain ⟨x2, hx2⟩ : ∃ q, x1.alloc (.cells #[.string ⟨#[]⟩, .string ⟨#[]⟩, .string ⟨#[]⟩, .string ⟨#[]⟩, .string ⟨#[]⟩, .string ⟨#[]⟩] 89) = q := ⟨_, rfl⟩
 have G2 := G1.add _ hx2 hg1
 have Ba : Blk x2 g xs.toArray 69 := by rw [← hx2]; exact B1.alloc _
 have Bb : Blk x2 g1 #[.string ⟨#[]⟩, .string ⟨#[]⟩, .string ⟨#[]⟩, .string ⟨#[]⟩, .string ⟨#[]⟩, .string ⟨#[]⟩] 89 := by rw [← hx2, ← hg1]; exact Blk.new x1 _ _
 obtain ⟨m1, m2, m3, m4⟩ := G1.new hg1
 have hO2 : Only (fun x => ¬ X x) w x2 := by rw [← hx2, ← hx1]; exact ((Only.refl _ w).alloc _).alloc _
 have hgg : g ≠ g1 := fun q => m1 (.inr q.symm)
 have R1 := hide (blk_range Ba)
 have HXL := hide hxl
 have HYL := hide hyl
 have HYO := hide hyo
 have X1 := hide (And.intro n1 (And.intro n2 (And.intro n3 (And.intro n4 (And.intro m1 (And.intro m2 (And.intro m3 (And.intro m4 (And.intro h.bg.xm (And.intro h.xs hgg))))))))))
 have X2 := hide (And.intro G2 (And.intro Ba (And.intro Bb hO2)))
 clear G1 B1 n1 n2 n3 n4 G2 Ba Bb m1 m2 m3 m4 hO2 hgg h hv hn0 hxl hyl hyo v1 v2 v3 v4 u1 u2 u3 u4 u5 hn88 hfo
 go_enter Tryz.func42, Tryz.ntmps42
 go_wp2_with (refine wpList_load_mid rfl 69 (.tmp 4) rfl g 0 rfl _ _ (unhide R1) Tryz.underlying69 rfl (by rw [sizeTree, unhide HXL]) ?_)
 refine (unhide HHS _).mono ?_
 rintro e x3 ⟨rfl, hb3⟩
 obtain ⟨G2, Ba, Bb, hO2⟩ := unhide X2
 have Ba3 := Ba.below hb3 Ba.lt
 have R3 := hide (blk_range Ba3)
 have X3 := hide (And.intro (G2.below hb3) (And.intro Ba3 (And.intro (Bb.below hb3 Bb.lt) (hO2.trans (Only.of_below (P := fun x => ¬ X x) hb3) (fun _ _ q => q)))))
 clear G2 Ba Bb hO2 hb3 Ba3 X2 R1 HHS
 go_wp2_with (refine wpList_load_mid rfl 69 (.tmp 4) rfl g 0 rfl _ _ (unhide R3) Tryz.underlying69 rfl (by rw [sizeTree, unhide HXL]) ?_)
 refine (unhide HPL _).mono ?_
 rintro e x4 ⟨rfl, hb4⟩
 obtain ⟨G3, Ba, Bb, hO3⟩ := unhide X3
 have G4 := G3.below hb4
 have HR := hide (unhide HRP _ x4 _ G4)
 have X4 := hide (And.intro (Ba.below hb4 Ba.lt) (And.intro (Bb.below hb4 Bb.lt) (hO3.trans (Only.of_below (P := fun x => ¬ X x) hb4) (fun _ _ q => q))))
 clear G3 Ba Bb hO3 G4 hb4 X3 R3 HPL HRP
 go_wp2_with fail
 refine (unhide HR).mono ?_
 rintro e x5 ⟨rfl, S5, k1, k2, k3, k4⟩
 obtain ⟨Ba, Bb, hO4⟩ := unhide X4
 have Ba5 := Ba.only k4 (fun q => q (.inl (.inr rfl)))
 have Bb5 := Bb.only k4 (fun q => q (.inr rfl))
 have hO5 : Only (fun x => ¬ X x) w x5 := hO4.trans k4 (fun _ _ q r => q (.inl (.inl r)))
 obtain ⟨g6, hg6⟩ : ∃ q, x5.heap.size = q := ⟨_, rfl⟩
 obtain ⟨x6, hx6⟩ : ∃ q, x5.alloc (.cells #[.int .i64 7, .int .i64 (nm : Int), .string bd] 95) = q := ⟨_, rfl⟩
 have hb6 : Below x5.heap.size x5 x6 := by rw [← hx6]; exact (Below.refl _ x5).alloc (Nat.le_refl _) _
 have B6 : Blk x6 g6 #[.int .i64 7, .int .i64 (nm : Int), .string bd] 95 := by rw [← hx6, ← hg6]; exact Blk.new x5 _ _
 have Ba6 := Ba5.below hb6 Ba5.lt
 have HS6 := hide (And.intro Ba6 B6)
 have X6 := hide (show Blk x6.drew g xs.toArray 69 ∧ Blk x6.drew g1 #[.string ⟨#[]⟩, .string ⟨#[]⟩, .string ⟨#[]⟩, .string ⟨#[]⟩, .string ⟨#[]⟩, .string ⟨#[]⟩] 89 ∧ Blk x6.drew g6 #[.int .i64 7, .int .i64 (nm : Int), .string bd] 95 ∧ MG w0 x6.drew b jb pb mb sb (fun x => (fun x => X x ∨ x = g) x ∨ x = g1) n S5 L A hn Mw Mn T ∧ S5.op = S.op ∧ Tk S5 S ∧ Only (fun x => ¬ X x) w x6.drew from ⟨Ba6, Bb5.below hb6.drew Bb5.lt, B6, (k1.below hb6).below ((Below.refl _ x6).drew), k2, k3, (hO5.trans (Only.of_below (P := fun x => ¬ X x) hb6) (fun _ _ q => q)).drew⟩)
 clear k1 k2 k3 k4 Ba Bb hO4 Ba5 Bb5 hO5 hb6 B6 Ba6 X4 HR
 go_wp2
 refine wp_region_held_drew (S := fun w' => Blk w' g xs.toArray 69 ∧ Blk w' g6 #[.int .i64 7, .int .i64 (nm : Int), .string bd] 95) (by kernel_rfl) (unhide HS6) ?_
 intro hS
 generalize x6.drew = x7 at *
 refine wpAnyH_takeD 0 (some 27) (.pointer (some ⟨g6, 1, none⟩)) rfl rfl (by kernel_rfl) (by kernel_rfl) (by kernel_rfl) (fun _ _ _ h => h) (Or.inl ⟨by rfl, fun w hSw => by have a1 : w.cell? ⟨g6, 1, none⟩ = some (.int .i64 (nm : Int)) := Blk.cell hSw.2 1; go_simp⟩) hS ?_
 simp only [Act.put, List.setIfInBounds_toArray, List.set_cons_zero, List.set_cons_succ]
 refine wpAnyH_takeD 1 (some 28) (.int .i64 (nm : Int)) rfl rfl (by kernel_rfl) (by kernel_rfl) (by kernel_rfl) (fun _ _ _ h => h) (Or.inl ⟨by rfl, fun w hSw => by have a1 : w.cell? ⟨g6, 1, none⟩ = some (.int .i64 (nm : Int)) := Blk.cell hSw.2 1; go_simp⟩) hS ?_
 simp only [Act.put, List.setIfInBounds_toArray, List.set_cons_zero, List.set_cons_succ]
 refine wpAnyH_takeD 2 (some 29) (.agg xs.toArray) rfl rfl (by kernel_rfl) (by kernel_rfl) (by kernel_rfl) (fun _ _ _ h => h) (yieldsIf_load_mid (by rfl) 69 (.tmp 4) rfl g 0 rfl _ _ (fun w hSw => blk_range hSw.1) Tryz.underlying69 rfl (by rw [sizeTree, unhide HXL])) hS ?_
 simp only [Act.put, List.setIfInBounds_toArray, List.set_cons_zero, List.set_cons_succ]
 refine wpAnyH_takeD 3 (some 30) (.int .i64 (l : Int)) rfl rfl (by kernel_rfl) (by kernel_rfl) (by kernel_rfl) (fun _ _ _ h => h) (Or.inl ⟨by rfl, fun w hSw => by have a1 : w.cell? ⟨g6, 1, none⟩ = some (.int .i64 (nm : Int)) := Blk.cell hSw.2 1; go_simp⟩) hS ?_
 simp only [Act.put, List.setIfInBounds_toArray, List.set_cons_zero, List.set_cons_succ]
 refine wpAnyH_ready (rs := [4]) (by kernel_rfl) (by simp) ?_
 refine AllReadyH.cons rfl (fun K hK => ?_) AllReadyH.nil
 simp only [List.getElem_toArray, List.getElem_cons_succ, List.getElem_cons_zero]
 go_simp
 refine (unhide HLN _).mono ?_
 rintro e y1 ⟨rfl, hb1⟩
 obtain ⟨Ba, Bb, B6, G6, k2, k3, hO6⟩ := unhide X6
 have X7 := hide (And.intro (Ba.below hb1 Ba.lt) (And.intro (Bb.below hb1 Bb.lt) (And.intro (B6.below hb1 B6.lt) (And.intro (G6.below hb1) (And.intro k2 (And.intro k3 (hO6.trans (Only.of_below (P := fun x => ¬ X x) hb1) (fun _ _ q => q))))))))
 clear Ba Bb B6 G6 k2 k3 hO6 hb1 X6
 refine hK.out _ _ ⟨(unhide X7).1, (unhide X7).2.2.1⟩ (fun hS => ?_)
 clear hK K
 refine wpAnyH_takeD 5 (some 32) (.bool false) rfl rfl (by kernel_rfl) (by kernel_rfl) (by kernel_rfl) (fun _ _ _ h => h) (Or.inl ⟨by rfl, fun w hSw => by have a1 : w.cell? ⟨g6, 1, none⟩ = some (.int .i64 (nm : Int)) := Blk.cell hSw.2 1; go_simp⟩) hS ?_
 simp only [Act.put, List.setIfInBounds_toArray, List.set_cons_zero, List.set_cons_succ]
 refine wpAnyH_done (by kernel_rfl) ?_ _
 clear hS HS6
 have a2 : y1.cell? ⟨g6, 2, none⟩ = some (.string bd) := (unhide X7).2.2.1.cell 2
 have HP := hide (unhide HPT y1 (unhide X7).2.2.2.1.ety)
 go_wp2_with fail
 refine (unhide HP).mono ?_
 rintro e x5' ⟨rfl, hb5⟩
 obtain ⟨Ba, Bb, B6, G6, k2, k3, hO6⟩ := unhide X7
 have B5 := Bb.below hb5 Bb.lt
 have TH := hide (blk_there B5 ys.toArray.size (by simp [unhide HYL]))
 have B7 := setCells_all B5 ys (by simp [unhide HYL])
 have HLD := hide (iload_blk 89 _ B7 Tryz.underlying89 rfl (by rw [sizeLeaf]; simp [unhide HYL]))
 have O7 : Only (fun x => x = g1) x5' (x5'.setCells g1 0 ys) := only_cells g1 0 ys rfl
 obtain ⟨n1, n2, n3, n4, m1, m2, m3, m4, hm, hs, hgg⟩ := unhide X1
 have HF := hide (show MKept w0 w b jb pb mb sb X n S L A hn Mw Mn T (x5'.setCells g1 0 ys) from ⟨S5, ((G6.below hb5).poke (.inr rfl) m2 m3 m4 O7).less (fun _ q => .inl (.inl q)) hm hs, k2, k3, (hO6.trans (Only.of_below (P := fun x => ¬ X x) hb5) (fun _ _ q => q)).trans O7 (fun x _ q r => m1 (by rw [← q]; exact .inl r))⟩)
 clear Ba Bb B6 G6 k2 k3 hO6 hb5 B5 B7 O7 n1 n2 n3 n4 m1 m2 m3 m4 hm hs hgg X1 X7 HP a2
 go_wp2_with (refine wpList_store_mid rfl 89 (.tmp 6) (.tmp 36) rfl g1 0 ys.toArray rfl rfl (unhide TH) (by rw [sizeLeaf]; simp [unhide HYL]) (unhide HYO) ?_)
 exact bodyPost_ret (v := .tuple #[.agg ys.toArray, .int .i64 0]) (results_cell2 (p := 6) (q := 7) (ty := 89) rfl _ _ _ ⟨g1, 0, none⟩ rfl _ (unhide HLD)) rfl ⟨rfl, unhide HF⟩
end Go.Proofs.YtiellebdliifdaaGreatDoor
namespace Go.Proofs.YtiellebdliifdaaGreatDoor
open Go.RowKit Go.Maps Go.Sort Go.Shelf
theorem ups_le {lf : Nat → Nat} {q : Nat} (h : ∀ l, l < 20 → lf l ≤ q) (l x : Nat) (hx : x ≤ q) : ∀ i, i < 20 → ups lf l x i ≤ q := fun i hi => by
 by_cases e : i = l
 ·subst e; rw [ups_same]; exact hx
 ·rw [ups_other _ _ e]; exact h i hi
set_option maxRecDepth 100000 in
set_option maxHeartbeats 2000000 in
theorem sGrow {w0 w : World} {b jb pb mb sb : Nat} {X : Nat → Prop} {n : Nat} {S : PS} {L : List ByteArray} {A : List (Nat × Nat)} {hn : Nat} {Mw Mn : List ByteArray} {T : Nat → Bool} (h : MG w0 w b jb pb mb sb X n S L A hn Mw Mn T) (ho : S.op = true) (p : Nat) (hl : Lea T n p) (r num : Nat) (hr : r < 88) (hnum : num ≤ 1000000) (lf : Nat → Nat) (hlf : ∀ i, i < 20 → lf i ≤ 1000) (l : Nat) (hl20 : l < 20) (f : Nat → Ent) (hf : ∀ j, j < 3 → EOk (f j)) (ht : S.tx.length < 14) : Calls Tryz.prog 55 #[.pointer (some ⟨sb, 0, none⟩), .agg (trC (r : Int) (num : Int) lf).toArray, .int .i64 (l : Int), .agg (lfC f).toArray] w fun e w' => e = .returned (.tuple #[.int .i64 1, .int .i64 0]) ∧ MChg w0 w b jb pb mb sb X n S L A hn Mw 3 (flp T p) (ups (ups (Sec Mn) (40 + p) (lfP num l f)) (40 + r) (rtP num (ups lf l (p + 1)))) w' := by
 have hp88 : p < 88 := by have := hl.1; have := h.n88; omega
 have HLP := hide (fun W => tLeafPage_any (r : Int) num hnum lf l hl20 f hf W)
 have HLA := hide (fun (Y : Nat → Prop) W (G : MG w0 W b jb pb mb sb Y n S L A hn Mw Mn T) => sLay G ho p hl 7 ((32 * num + l : Nat) : Int) (lfB f) (lfP_err num l f hnum hl20 hf) (by omega))
 have HWI := hide (fun W => tWith_any (r : Int) (num : Int) lf l hl20 p (by omega) W)
 have HPA := hide (fun W => tPage_any (r : Int) num (ups lf l (p + 1)) (ups_le hlf l (p + 1) (by omega)) W)
 have HWP := hide (fun (Y : Nat → Prop) W S' M' (G : MG w0 W b jb pb mb sb Y n S' L A hn Mw M' (flp T p)) ho' ht' => sWritePage G ho' r hr 6 (num : Int) (rtB (ups lf l (p + 1))) (rtP_err num _ hnum) ht')
 simp only [show makeB 7 ((32 * num + l : Nat) : Int) (lfB f) = lfP num l f from rfl] at HLA
 simp only [show makeB 6 (num : Int) (rtB (ups lf l (p + 1))) = rtP num (ups lf l (p + 1)) from rfl] at HWP
 have hxl := trC_len (r : Int) (num : Int) lf
 have hx0 := trC_0 (r : Int) (num : Int) lf
 have hzl := lfC_len f
 generalize lfP num l f = t1 at *
 generalize rtP num (ups lf l (p + 1)) = t2 at *
 generalize rtB (ups lf l (p + 1)) = bd2 at *
 generalize lfB f = bd1 at *
 generalize 32 * num + l = q at *
 generalize trC (r : Int) (num : Int) (ups lf l (p + 1)) = ys at *
 generalize trC (r : Int) (num : Int) lf = xs at *
 generalize lfC f = zs at *
 obtain ⟨g, hg⟩ : ∃ q, w.heap.size = q := ⟨_, rfl⟩
 obtain ⟨x1, hx1⟩ : ∃ q, w.alloc (.cells xs.toArray 69) = q := ⟨_, rfl⟩
 have G1 := h.add _ hx1 hg
 have B1 : Blk x1 g xs.toArray 69 := by rw [← hx1, ← hg]; exact Blk.new w _ _
 obtain ⟨n1, n2, n3, n4⟩ := h.new hg
 obtain ⟨g1, hg1⟩ : ∃ q, x1.heap.size = q := ⟨_, rfl⟩
 obtain ⟨x2, hx2⟩ : ∃ q, x1.alloc (.cells zs.toArray 89) = q := ⟨_, rfl⟩
 have G2 := G1.add _ hx2 hg1
 have Ba : Blk x2 g xs.toArray 69 := by rw [← hx2]; exact B1.alloc _
 have Bb : Blk x2 g1 zs.toArray 89 := by rw [← hx2, ← hg1]; exact Blk.new x1 _ _
 obtain ⟨m1, m2, m3, m4⟩ := G1.new hg1
 have hO2 : Only (fun x => ¬ X x) w x2 := by rw [← hx2, ← hx1]; exact ((Only.refl _ w).alloc _).alloc _
 have hgg : g ≠ g1 := fun q => m1 (.inr q.symm)
 have R1 := hide (blk_range Ba)
 have R2 := hide (blk_range Bb)
 have HXL := hide hxl
 have HZL := hide hzl
 have HX0 := hide hx0
 have HT := hide ht
 have X1 := hide (And.intro h.bg.xm h.xs)
 have X2 := hide (And.intro G2 (And.intro Ba hO2))
 clear G1 B1 n1 n2 n3 n4 G2 Ba Bb m1 m2 m3 m4 hO2 hgg h ho hl hr hnum hlf hf ht hxl hx0 hzl
 go_enter Tryz.func55, Tryz.ntmps55
 go_wp2_with (first | refine wpList_load_mid rfl 69 (.tmp 5) rfl g 0 rfl _ _ (unhide R1) Tryz.underlying69 rfl (by rw [sizeTree, unhide HXL]) ?_ | refine wpList_load_mid rfl 89 (.tmp 7) rfl g1 0 rfl _ _ (unhide R2) Tryz.underlying89 rfl (by rw [sizeLeaf, unhide HZL]) ?_)
 refine (unhide HLP _).mono ?_
 rintro e x3 ⟨rfl, hb3⟩
 obtain ⟨G2, Ba, hO2⟩ := unhide X2
 have HA := hide (unhide HLA _ x3 (G2.below hb3))
 have X3 := hide (And.intro (Ba.below hb3 Ba.lt) (hO2.trans (Only.of_below (P := fun x => ¬ X x) hb3) (fun _ _ q => q)))
 clear G2 Ba hO2 hb3 X2 R1 R2 HLP HLA
 go_wp2_with fail
 refine (unhide HA).mono ?_
 rintro e x4 ⟨rfl, S4, M4, k1, k2, k3, k4, k5, k6⟩
 have Ba4 := (unhide X3).1.only k6 (fun q => q (.inl (.inr rfl)))
 have HS4 := hide Ba4
 have X4 := hide (show Blk x4.drew g xs.toArray 69 ∧ MG w0 x4.drew b jb pb mb sb (fun x => (fun x => X x ∨ x = g) x ∨ x = g1) n S4 L A hn Mw M4 (flp T p) ∧ S4.op = true ∧ S4.keep = S.keep ∧ S4.tx.length ≤ S.tx.length + 2 ∧ Eqv (Sec M4) (ups (Sec Mn) (40 + p) t1) ∧ Only (fun x => ¬ X x) w x4.drew from ⟨Ba4, k1.below ((Below.refl _ x4).drew), k2, k3, k4, k5, ((unhide X3).2.trans k6 (fun _ _ q r => q (.inl (.inl r)))).drew⟩)
 clear k1 k2 k3 k4 k5 k6 Ba4 X3 HA
 go_wp2
 refine wp_region_held_drew (S := fun w' => Blk w' g xs.toArray 69) (by kernel_rfl) (unhide HS4) ?_
 intro hS
 generalize x4.drew = x5 at *
 refine wpAnyH_takeD 0 (some 24) (.pointer (some ⟨sb, 0, none⟩)) rfl rfl (by kernel_rfl) (by kernel_rfl) (by kernel_rfl) (fun _ _ _ h => h) (Or.inl ⟨by rfl, fun w hSw => by have a1 : w.cell? ⟨g, 0, none⟩ = some (.int .i64 (r : Int)) := (Blk.cell hSw 0).trans (unhide HX0); go_simp⟩) hS ?_
 simp only [Act.put, List.setIfInBounds_toArray, List.set_cons_zero, List.set_cons_succ]
 refine wpAnyH_takeD 1 (some 25) (.pointer (some ⟨g, 0, none⟩)) rfl rfl (by kernel_rfl) (by kernel_rfl) (by kernel_rfl) (fun _ _ _ h => h) (Or.inl ⟨by rfl, fun w hSw => by have a1 : w.cell? ⟨g, 0, none⟩ = some (.int .i64 (r : Int)) := (Blk.cell hSw 0).trans (unhide HX0); go_simp⟩) hS ?_
 simp only [Act.put, List.setIfInBounds_toArray, List.set_cons_zero, List.set_cons_succ]
 refine wpAnyH_takeD 2 (some 26) (.int .i64 (r : Int)) rfl rfl (by kernel_rfl) (by kernel_rfl) (by kernel_rfl) (fun _ _ _ h => h) (Or.inl ⟨by rfl, fun w hSw => by have a1 : w.cell? ⟨g, 0, none⟩ = some (.int .i64 (r : Int)) := (Blk.cell hSw 0).trans (unhide HX0); go_simp⟩) hS ?_
 simp only [Act.put, List.setIfInBounds_toArray, List.set_cons_zero, List.set_cons_succ]
 refine wpAnyH_takeD 3 (some 27) (.agg xs.toArray) rfl rfl (by kernel_rfl) (by kernel_rfl) (by kernel_rfl) (fun _ _ _ h => h) (yieldsIf_load_mid (by rfl) 69 (.tmp 5) rfl g 0 rfl _ _ (fun w hSw => blk_range hSw) Tryz.underlying69 rfl (by rw [sizeTree, unhide HXL])) hS ?_
 simp only [Act.put, List.setIfInBounds_toArray, List.set_cons_zero, List.set_cons_succ]
 refine wpAnyH_takeD 4 (some 28) (.int .i64 (l : Int)) rfl rfl (by kernel_rfl) (by kernel_rfl) (by kernel_rfl) (fun _ _ _ h => h) (Or.inl ⟨by rfl, fun w hSw => by have a1 : w.cell? ⟨g, 0, none⟩ = some (.int .i64 (r : Int)) := (Blk.cell hSw 0).trans (unhide HX0); go_simp⟩) hS ?_
 simp only [Act.put, List.setIfInBounds_toArray, List.set_cons_zero, List.set_cons_succ]
 refine wpAnyH_takeD 5 (some 29) (.int .i64 (p : Int)) rfl rfl (by kernel_rfl) (by kernel_rfl) (by kernel_rfl) (fun _ _ _ h => h) (Or.inl ⟨by rfl, fun w hSw => by have a1 : w.cell? ⟨g, 0, none⟩ = some (.int .i64 (r : Int)) := (Blk.cell hSw 0).trans (unhide HX0); go_simp⟩) hS ?_
 simp only [Act.put, List.setIfInBounds_toArray, List.set_cons_zero, List.set_cons_succ]
 refine wpAnyH_ready (rs := [6]) (by kernel_rfl) (by simp) ?_
 refine AllReadyH.cons rfl (fun K hK => ?_) AllReadyH.nil
 simp only [List.getElem_toArray, List.getElem_cons_succ, List.getElem_cons_zero]
 go_simp
 refine (unhide HWI _).mono ?_
 rintro e y1 ⟨rfl, hb⟩
 obtain ⟨Ba, G, k2, k3, k4, k5, O⟩ := unhide X4
 have X5 := hide (And.intro (Ba.below hb Ba.lt) (And.intro (G.below hb) (And.intro k2 (And.intro k3 (And.intro k4 (And.intro k5 (O.trans (Only.of_below (P := fun x => ¬ X x) hb) (fun _ _ q => q))))))))
 clear Ba G k2 k3 k4 k5 O hb X4
 refine hK.out _ _ (unhide X5).1 (fun hS => ?_)
 clear hK K
 refine wpAnyH_ready (rs := [7]) (by kernel_rfl) (by simp) ?_
 refine AllReadyH.cons rfl (fun K hK => ?_) AllReadyH.nil
 simp only [List.getElem_toArray, List.getElem_cons_succ, List.getElem_cons_zero]
 go_simp
 refine (unhide HPA _).mono ?_
 rintro e y2 ⟨rfl, hb⟩
 obtain ⟨Ba, G, k2, k3, k4, k5, O⟩ := unhide X5
 have X6 := hide (And.intro (Ba.below hb Ba.lt) (And.intro (G.below hb) (And.intro k2 (And.intro k3 (And.intro k4 (And.intro k5 (O.trans (Only.of_below (P := fun x => ¬ X x) hb) (fun _ _ q => q))))))))
 clear Ba G k2 k3 k4 k5 O hb X5
 refine hK.out _ _ (unhide X6).1 (fun hS => ?_)
 clear hK K
 refine wpAnyH_ready (rs := [8]) (by kernel_rfl) (by simp) ?_
 refine AllReadyH.cons rfl (fun K hK => ?_) AllReadyH.nil
 simp only [List.getElem_toArray, List.getElem_cons_succ, List.getElem_cons_zero]
 go_simp
 obtain ⟨Ba, G, k2, k3, k4, k5, O⟩ := unhide X6
 refine (unhide HWP _ y2 S4 M4 G k2 (by have := unhide HT; omega)).mono ?_
 rintro e y3 ⟨rfl, S7, M7, j1, j2, j3, j4, j5, j6⟩
 have Ba7 := Ba.only j6 (fun q => q (.inl (.inr rfl)))
 have HF := hide (show MChg w0 w b jb pb mb sb X n S L A hn Mw 3 (flp T p) (ups (ups (Sec Mn) (40 + p) t1) (40 + r) t2) y3 from ⟨S7, M7, j1.less (fun _ q => .inl (.inl q)) (unhide X1).1 (unhide X1).2, j2, j3.trans k3, by omega, j5.trans (k5.ups (40 + r) t2), O.trans j6 (fun _ _ q r => q (.inl (.inl r)))⟩)
 clear Ba G k2 k3 k4 k5 O j1 j2 j3 j4 j5 j6 X6
 refine hK.out _ _ Ba7 (fun hS => ?_)
 clear hK K
 refine wpAnyH_takeD 9 (some 11) (.int .i64 0) rfl rfl (by kernel_rfl) (by kernel_rfl) (by kernel_rfl) (fun _ _ _ h => h) (Or.inl ⟨by rfl, fun w hSw => by have a1 : w.cell? ⟨g, 0, none⟩ = some (.int .i64 (r : Int)) := (Blk.cell hSw 0).trans (unhide HX0); go_simp⟩) hS ?_
 simp only [Act.put, List.setIfInBounds_toArray, List.set_cons_zero, List.set_cons_succ]
 refine wpAnyH_done (by kernel_rfl) ?_ _
 clear hS HS4 Ba7
 go_wp2
 go_ret2
 exact ⟨rfl, unhide HF⟩
set_option maxRecDepth 100000 in
set_option maxHeartbeats 2000000 in
theorem sShrink {w0 w : World} {b jb pb mb sb : Nat} {X : Nat → Prop} {n : Nat} {S : PS} {L : List ByteArray} {A : List (Nat × Nat)} {hn : Nat} {Mw Mn : List ByteArray} {T : Nat → Bool} (h : MG w0 w b jb pb mb sb X n S L A hn Mw Mn T) (ho : S.op = true) (p : Nat) (hp : p < n) (hT : T p = true) (r num : Nat) (hr : r < 88) (hnum : num ≤ 1000000) (lf : Nat → Nat) (hlf : ∀ i, i < 20 → lf i ≤ 1000) (l : Nat) (hl20 : l < 20) (hlp : lf l = p + 1) (ht : S.tx.length < 14) : Calls Tryz.prog 76 #[.pointer (some ⟨sb, 0, none⟩), .agg (trC (r : Int) (num : Int) lf).toArray, .int .i64 (l : Int)] w fun e w' => e = .returned (.tuple #[.int .i64 1, .int .i64 0]) ∧ MChg w0 w b jb pb mb sb X n S L A hn Mw 2 (flp T p) (ups (Sec Mn) (40 + r) (rtP num (ups lf l 0))) w' := by
 have hp88 : p < 88 := by have := h.n88; omega
 have HPL := hide (fun W => tPlace_any (r : Int) (num : Int) lf l hl20 p hlp (by omega) W)
 have HLA := hide (fun (Y : Nat → Prop) W (G : MG w0 W b jb pb mb sb Y n S L A hn Mw Mn T) => sFree G ho p hp hT (by omega))
 have HWI := hide (fun W => tWithout_any (r : Int) (num : Int) lf l hl20 W)
 have HPA := hide (fun W => tPage_any (r : Int) num (ups lf l 0) (ups_le hlf l 0 (by omega)) W)
 have HWP := hide (fun (Y : Nat → Prop) W S' M' (G : MG w0 W b jb pb mb sb Y n S' L A hn Mw M' (flp T p)) ho' ht' => sWritePage G ho' r hr 6 (num : Int) (rtB (ups lf l 0)) (rtP_err num _ hnum) ht')
 simp only [show makeB 6 (num : Int) (rtB (ups lf l 0)) = rtP num (ups lf l 0) from rfl] at HWP
 have hxl := trC_len (r : Int) (num : Int) lf
 have hx0 := trC_0 (r : Int) (num : Int) lf
 generalize rtP num (ups lf l 0) = t2 at *
 generalize rtB (ups lf l 0) = bd2 at *
 generalize trC (r : Int) (num : Int) (ups lf l 0) = ys at *
 generalize trC (r : Int) (num : Int) lf = xs at *
 obtain ⟨g, hg⟩ : ∃ q, w.heap.size = q := ⟨_, rfl⟩
 obtain ⟨x1, hx1⟩ : ∃ q, w.alloc (.cells xs.toArray 69) = q := ⟨_, rfl⟩
 have G1 := h.add _ hx1 hg
 have B1 : Blk x1 g xs.toArray 69 := by rw [← hx1, ← hg]; exact Blk.new w _ _
 have hO1 : Only (fun x => ¬ X x) w x1 := by rw [← hx1]; exact (Only.refl _ w).alloc _
 obtain ⟨n1, n2, n3, n4⟩ := h.new hg
 have R1 := hide (blk_range B1)
 have HXL := hide hxl
 have HX0 := hide hx0
 have HT := hide ht
 have X1 := hide (And.intro h.bg.xm h.xs)
 have X2 := hide (And.intro G1 (And.intro B1 hO1))
 clear G1 B1 hO1 n1 n2 n3 n4 h ho hr hnum hlf hlp hT ht hxl hx0
 go_enter Tryz.func76, Tryz.ntmps76
 go_wp2_with (refine wpList_load_mid rfl 69 (.tmp 4) rfl g 0 rfl _ _ (unhide R1) Tryz.underlying69 rfl (by rw [sizeTree, unhide HXL]) ?_)
 refine (unhide HPL _).mono ?_
 rintro e x3 ⟨rfl, hb3⟩
 obtain ⟨G2, Ba, hO2⟩ := unhide X2
 have HA := hide (unhide HLA _ x3 (G2.below hb3))
 have X3 := hide (And.intro (Ba.below hb3 Ba.lt) (hO2.trans (Only.of_below (P := fun x => ¬ X x) hb3) (fun _ _ q => q)))
 clear G2 Ba hO2 hb3 X2 R1 HPL HLA
 go_wp2_with fail
 refine (unhide HA).mono ?_
 rintro e x4 ⟨rfl, S4, M4, k1, k2, k3, k4, k5, k6⟩
 have Ba4 := (unhide X3).1.only k6 (fun q => q (.inr rfl))
 have HS4 := hide Ba4
 have X4 := hide (show Blk x4.drew g xs.toArray 69 ∧ MG w0 x4.drew b jb pb mb sb (fun x => X x ∨ x = g) n S4 L A hn Mw M4 (flp T p) ∧ S4.op = true ∧ S4.keep = S.keep ∧ S4.tx.length ≤ S.tx.length + 1 ∧ Eqv (Sec M4) (Sec Mn) ∧ Only (fun x => ¬ X x) w x4.drew from ⟨Ba4, k1.below ((Below.refl _ x4).drew), k2, k3, k4, k5, ((unhide X3).2.trans k6 (fun _ _ q r => q (.inl r))).drew⟩)
 clear k1 k2 k3 k4 k5 k6 Ba4 X3 HA
 go_wp2
 refine wp_region_held_drew (S := fun w' => Blk w' g xs.toArray 69) (by kernel_rfl) (unhide HS4) ?_
 intro hS
 generalize x4.drew = x5 at *
 refine wpAnyH_takeD 0 (some 18) (.pointer (some ⟨sb, 0, none⟩)) rfl rfl (by kernel_rfl) (by kernel_rfl) (by kernel_rfl) (fun _ _ _ h => h) (Or.inl ⟨by rfl, fun w hSw => by have a1 : w.cell? ⟨g, 0, none⟩ = some (.int .i64 (r : Int)) := (Blk.cell hSw 0).trans (unhide HX0); go_simp⟩) hS ?_
 simp only [Act.put, List.setIfInBounds_toArray, List.set_cons_zero, List.set_cons_succ]
 refine wpAnyH_takeD 1 (some 19) (.pointer (some ⟨g, 0, none⟩)) rfl rfl (by kernel_rfl) (by kernel_rfl) (by kernel_rfl) (fun _ _ _ h => h) (Or.inl ⟨by rfl, fun w hSw => by have a1 : w.cell? ⟨g, 0, none⟩ = some (.int .i64 (r : Int)) := (Blk.cell hSw 0).trans (unhide HX0); go_simp⟩) hS ?_
 simp only [Act.put, List.setIfInBounds_toArray, List.set_cons_zero, List.set_cons_succ]
 refine wpAnyH_takeD 2 (some 20) (.int .i64 (r : Int)) rfl rfl (by kernel_rfl) (by kernel_rfl) (by kernel_rfl) (fun _ _ _ h => h) (Or.inl ⟨by rfl, fun w hSw => by have a1 : w.cell? ⟨g, 0, none⟩ = some (.int .i64 (r : Int)) := (Blk.cell hSw 0).trans (unhide HX0); go_simp⟩) hS ?_
 simp only [Act.put, List.setIfInBounds_toArray, List.set_cons_zero, List.set_cons_succ]
 refine wpAnyH_takeD 3 (some 21) (.agg xs.toArray) rfl rfl (by kernel_rfl) (by kernel_rfl) (by kernel_rfl) (fun _ _ _ h => h) (yieldsIf_load_mid (by rfl) 69 (.tmp 4) rfl g 0 rfl _ _ (fun w hSw => blk_range hSw) Tryz.underlying69 rfl (by rw [sizeTree, unhide HXL])) hS ?_
 simp only [Act.put, List.setIfInBounds_toArray, List.set_cons_zero, List.set_cons_succ]
 refine wpAnyH_takeD 4 (some 22) (.int .i64 (l : Int)) rfl rfl (by kernel_rfl) (by kernel_rfl) (by kernel_rfl) (fun _ _ _ h => h) (Or.inl ⟨by rfl, fun w hSw => by have a1 : w.cell? ⟨g, 0, none⟩ = some (.int .i64 (r : Int)) := (Blk.cell hSw 0).trans (unhide HX0); go_simp⟩) hS ?_
 simp only [Act.put, List.setIfInBounds_toArray, List.set_cons_zero, List.set_cons_succ]
 refine wpAnyH_ready (rs := [5]) (by kernel_rfl) (by simp) ?_
 refine AllReadyH.cons rfl (fun K hK => ?_) AllReadyH.nil
 simp only [List.getElem_toArray, List.getElem_cons_succ, List.getElem_cons_zero]
 go_simp
 refine (unhide HWI _).mono ?_
 rintro e y1 ⟨rfl, hb⟩
 obtain ⟨Ba, G, k2, k3, k4, k5, O⟩ := unhide X4
 have X5 := hide (And.intro (Ba.below hb Ba.lt) (And.intro (G.below hb) (And.intro k2 (And.intro k3 (And.intro k4 (And.intro k5 (O.trans (Only.of_below (P := fun x => ¬ X x) hb) (fun _ _ q => q))))))))
 clear Ba G k2 k3 k4 k5 O hb X4
 refine hK.out _ _ (unhide X5).1 (fun hS => ?_)
 clear hK K
 refine wpAnyH_ready (rs := [6]) (by kernel_rfl) (by simp) ?_
 refine AllReadyH.cons rfl (fun K hK => ?_) AllReadyH.nil
 simp only [List.getElem_toArray, List.getElem_cons_succ, List.getElem_cons_zero]
 go_simp
 refine (unhide HPA _).mono ?_
 rintro e y2 ⟨rfl, hb⟩
 obtain ⟨Ba, G, k2, k3, k4, k5, O⟩ := unhide X5
 have X6 := hide (And.intro (Ba.below hb Ba.lt) (And.intro (G.below hb) (And.intro k2 (And.intro k3 (And.intro k4 (And.intro k5 (O.trans (Only.of_below (P := fun x => ¬ X x) hb) (fun _ _ q => q))))))))
 clear Ba G k2 k3 k4 k5 O hb X5
 refine hK.out _ _ (unhide X6).1 (fun hS => ?_)
 clear hK K
 refine wpAnyH_ready (rs := [7]) (by kernel_rfl) (by simp) ?_
 refine AllReadyH.cons rfl (fun K hK => ?_) AllReadyH.nil
 simp only [List.getElem_toArray, List.getElem_cons_succ, List.getElem_cons_zero]
 go_simp
 obtain ⟨Ba, G, k2, k3, k4, k5, O⟩ := unhide X6
 refine (unhide HWP _ y2 S4 M4 G k2 (by have := unhide HT; omega)).mono ?_
 rintro e y3 ⟨rfl, S7, M7, j1, j2, j3, j4, j5, j6⟩
 have Ba7 := Ba.only j6 (fun q => q (.inr rfl))
 have HF := hide (show MChg w0 w b jb pb mb sb X n S L A hn Mw 2 (flp T p) (ups (Sec Mn) (40 + r) t2) y3 from ⟨S7, M7, j1.less (fun _ q => .inl q) (unhide X1).1 (unhide X1).2, j2, j3.trans k3, by omega, j5.trans (k5.ups (40 + r) t2), O.trans j6 (fun _ _ q r => q (.inl r))⟩)
 clear Ba G k2 k3 k4 k5 O j1 j2 j3 j4 j5 j6 X6
 refine hK.out _ _ Ba7 (fun hS => ?_)
 clear hK K
 refine wpAnyH_takeD 8 (some 9) (.int .i64 0) rfl rfl (by kernel_rfl) (by kernel_rfl) (by kernel_rfl) (fun _ _ _ h => h) (Or.inl ⟨by rfl, fun w hSw => by have a1 : w.cell? ⟨g, 0, none⟩ = some (.int .i64 (r : Int)) := (Blk.cell hSw 0).trans (unhide HX0); go_simp⟩) hS ?_
 simp only [Act.put, List.setIfInBounds_toArray, List.set_cons_zero, List.set_cons_succ]
 refine wpAnyH_done (by kernel_rfl) ?_ _
 clear hS HS4 Ba7
 go_wp2
 go_ret2
 exact ⟨rfl, unhide HF⟩
end Go.Proofs.YtiellebdliifdaaGreatDoor
namespace Go.Proofs.YtiellebdliifdaaGreatDoor
open Go.RowKit Go.Maps Go.Sort Go.Shelf
theorem fieldsEn : Tryz.prog.underlying 47 = some (.struct (Tryz.prog.fieldsOf 47)) := by kernel_rfl
theorem stoodEn : Tryz.prog.stoodInHeld 47 = false := by kernel_rfl
theorem cellsEn : Tryz.prog.cellsOf 47 = 2 := by kernel_rfl
theorem list_ne {d : ByteArray} (h : d.size = 32) : ¬ d.toList = [] := fun q => by
 rw [ByteArray.toList_eq] at q
 have := congrArg List.length q
 rw [show d.data.toList.length = d.size from rfl, h] at this
 cases this
theorem eqEn_any (e : Ent) (he : EOk e) (n : Nat) (w : World) : (Op.equalIn (n + 2) 47 (.agg #[.string (vtD e), .string (vtW e)]) (.agg #[.string ⟨#[]⟩, .string ⟨#[]⟩])).run Tryz.prog w = .ok (!e.isSome) w := by
 rw [run_equalIn_agg w (n + 1) 47 _ _ fieldsEn stoodEn]
 cases e with
 | none => kernel_rfl
 | some p =>
  have h1 := list_ne (he p.1 p.2 rfl).1
  simp [go_sem, h1, vtD, vtW, Tryz.underlying47, Tryz.underlying9]
theorem part_leaf (f : Nat → Ent) (k : Nat) (hk : k < 3) (w : World) : (part 47 (lfC f).toArray (k * 2)).run Tryz.prog w = .ok (.agg #[.string (vtD (f k)), .string (vtW (f k))]) w := by
 rcases (show k = 0 ∨ k = 1 ∨ k = 2 by omega) with rfl | rfl | rfl <;> kernel_rfl
theorem neq_leaf (f : Nat → Ent) (hf : ∀ j, j < 3 → EOk (f j)) (w : World) : (binOp .neq 89 (.agg (lfC f).toArray) (.agg (lfC F0).toArray)).run Tryz.prog w = .ok (.bool ((f 0).isSome || ((f 1).isSome || (f 2).isSome))) w := by
 obtain ⟨i0, hi⟩ : ∃ i, Tryz.prog.info? 47 = some i := by
  cases h : Tryz.prog.info? 47 with
  | none => have := sizeEntr; rw [h] at this; cases this
  | some i => exact ⟨i, rfl⟩
 have e0 := eqEn_any (f 0) (hf 0 (by omega)) 9997 w
 have e1 := eqEn_any (f 1) (hf 1 (by omega)) 9997 w
 have e2 := eqEn_any (f 2) (hf 2 (by omega)) 9997 w
 have p0 := part_leaf f 0 (by omega) w
 have p1 := part_leaf f 1 (by omega) w
 have p2 := part_leaf f 2 (by omega) w
 have q0 := part_leaf F0 0 (by omega) w
 have q1 := part_leaf F0 1 (by omega) w
 have q2 := part_leaf F0 2 (by omega) w
 rw [show vtD (F0 0) = ⟨#[]⟩ from rfl, show vtW (F0 0) = ⟨#[]⟩ from rfl] at q0
 rw [show vtD (F0 1) = ⟨#[]⟩ from rfl, show vtW (F0 1) = ⟨#[]⟩ from rfl] at q1
 rw [show vtD (F0 2) = ⟨#[]⟩ from rfl, show vtW (F0 2) = ⟨#[]⟩ from rfl] at q2
 simp only [Nat.reduceMul, Nat.reduceAdd] at p0 p1 p2 q0 q1 q2 e0 e1 e2
 rw [run_neq_struct, run_equalIn_array w 9999 _ _ Tryz.underlying89 hi, cellsEn]
 show (((Op.eqItems 9999 47 2 (lfC f).toArray (lfC F0).toArray [0, 1, 2]).run Tryz.prog w).andThen _) = _
 simp only [Op.eqItems, Sem.run_bind, Nat.reduceMul, p0, q0, e0, Result.andThen_ok]
 cases (f 0).isSome
 ·simp only [Bool.not_false, Bool.not_true, Bool.false_eq_true, if_false, Sem.run_bind, p1, q1, e1, Result.andThen_ok, Bool.false_or]
  cases (f 1).isSome
  ·simp only [Bool.not_false, Bool.not_true, Bool.false_eq_true, if_false, Sem.run_bind, p2, q2, e2, Result.andThen_ok, Bool.false_or]
   cases (f 2).isSome <;> simp
  ·simp
 ·simp
end Go.Proofs.YtiellebdliifdaaGreatDoor
namespace Go.Proofs.YtiellebdliifdaaGreatDoor
open Go.RowKit Go.Maps Go.Sort Go.Shelf
set_option maxRecDepth 100000 in
set_option maxHeartbeats 2000000 in
theorem sCreate_none {w0 w : World} {b jb pb mb sb : Nat} {X : Nat → Prop} {n : Nat} {S : PS} {L : List ByteArray} {A : List (Nat × Nat)} {hn : Nat} {Mw Mn : List ByteArray} {T : Nat → Bool} (h : MG w0 w b jb pb mb sb X n S L A hn Mw Mn T) (ho : S.op = false) (a v : Nat) (ha1 : 1 ≤ a) (ha8 : a ≤ 8) (hv9 : v ≤ 99) : Calls Tryz.prog 16 #[.pointer (some ⟨sb, 0, none⟩), .int .i64 (a : Int), .int .i64 (v : Int)] w fun e w' => e = .returned (.tuple #[.int .i64 0, .int .i64 61]) ∧ MG w0 w' b jb pb mb sb X n S L A hn Mw Mn T ∧ Only (fun x => ¬ X x) w w' := by
 have HT1 := hide (fun W => isTenant_ok a ha1 ha8 W)
 have HV1 := hide (fun W => isVolume_ok v hv9 W)
 have HC := hide (sChange_any h)
 rw [ho] at HC
 clear h ho
 go_enter Tryz.func16, Tryz.ntmps16
 go_wp2_with (first | (go_at_call 45; refine (unhide HT1 _).mono ?_; rintro e w' ⟨rfl, hw'⟩; subst w') | (go_at_call 46; refine (unhide HV1 _).mono ?_; rintro e w' ⟨rfl, hw'⟩; subst w'))
 refine (unhide HC).mono ?_
 rintro e x2 ⟨rfl, G2, hO2⟩
 have HG := hide (And.intro G2 hO2)
 clear G2 hO2 HC
 go_wp2
 go_ret2
 exact ⟨rfl, unhide HG⟩
set_option maxRecDepth 100000 in
set_option maxHeartbeats 2000000 in
theorem sCreate {w0 w : World} {b jb pb mb sb : Nat} {X : Nat → Prop} {n : Nat} {S : PS} {L : List ByteArray} {A : List (Nat × Nat)} {hn : Nat} {Mw Mn : List ByteArray} {T : Nat → Bool} (h : MG w0 w b jb pb mb sb X n S L A hn Mw Mn T) (ho : S.op = true) (a v : Nat) (ha1 : 1 ≤ a) (ha8 : a ≤ 8) (hv9 : v ≤ 99) (p : Nat) (hl : Lea T n p) (ht : S.tx.length < 14) : Calls Tryz.prog 16 #[.pointer (some ⟨sb, 0, none⟩), .int .i64 (a : Int), .int .i64 (v : Int)] w fun e w' => e = .returned (.tuple #[.int .i64 (p : Int), .int .i64 0]) ∧ MChg w0 w b jb pb mb sb X n S L A hn Mw 2 (flp T p) (ups (Sec Mn) (40 + p) (rtP (100 * a + v) (fun _ => 0))) w' := by
 have HT1 := hide (fun W => isTenant_ok a ha1 ha8 W)
 have HV1 := hide (fun W => isVolume_ok v hv9 W)
 have HC := hide (sChange_any h)
 rw [ho] at HC
 have HNT := hide (fun W => newTree_any a v ha8 hv9 W)
 have hq : 100 * a + v ≤ 1000 := by omega
 have HPA := hide (fun W => tPage_any 0 (100 * a + v) Lf0 (fun _ _ => Nat.zero_le _) W)
 have HLA := hide (fun W (G : MG w0 W b jb pb mb sb X n S L A hn Mw Mn T) => sLay G ho p hl 6 ((100 * a + v : Nat) : Int) (rtB Lf0) (rtP_err _ Lf0 (by omega)) (by omega))
 simp only [show makeB 6 ((100 * a + v : Nat) : Int) (rtB Lf0) = rtP (100 * a + v) (fun _ => 0) from rfl] at HLA
 generalize rtP (100 * a + v) (fun _ => 0) = tp at *
 generalize rtB Lf0 = bd at *
 generalize trC 0 ((100 * a + v : Nat) : Int) Lf0 = xs at *
 generalize 100 * a + v = q at *
 clear h ho hl ht
 go_enter Tryz.func16, Tryz.ntmps16
 go_wp2_with (first | (go_at_call 45; refine (unhide HT1 _).mono ?_; rintro e w' ⟨rfl, hw'⟩; subst w') | (go_at_call 46; refine (unhide HV1 _).mono ?_; rintro e w' ⟨rfl, hw'⟩; subst w'))
 refine (unhide HC).mono ?_
 rintro e x2 ⟨rfl, G2, hO2⟩
 have X2 := hide (And.intro G2 hO2)
 clear G2 hO2 HC
 go_wp2_with fail
 refine (unhide HNT _).mono ?_
 rintro e x3 ⟨rfl, hb3⟩
 have X3 := hide (And.intro ((unhide X2).1.below hb3) ((unhide X2).2.trans (Only.of_below (P := fun x => ¬ X x) hb3) (fun _ _ q => q)))
 clear hb3 X2 HNT
 go_wp2_with fail
 refine (unhide HPA _).mono ?_
 rintro e x4 ⟨rfl, hb4⟩
 have HL := hide (unhide HLA x4 ((unhide X3).1.below hb4))
 have X4 := hide ((unhide X3).2.trans (Only.of_below (P := fun x => ¬ X x) hb4) (fun _ _ q => q))
 have X5 := hide (And.intro (unhide X3).1.bg.xm (unhide X3).1.xs)
 clear hb4 X3 HPA HLA
 go_wp2_with fail
 refine (unhide HL).mono ?_
 rintro e x5 ⟨rfl, hC⟩
 have HF := hide (hC.less (Y := X) (unhide X4) (fun _ q => q) (unhide X5).1 (unhide X5).2)
 clear hC HL
 go_wp2
 go_ret2
 exact ⟨rfl, unhide HF⟩
end Go.Proofs.YtiellebdliifdaaGreatDoor
