import Derived.Test.YtjlgbafcpoakmaaGreatDoorMf22
namespace Go.Proofs.YtjlgbafcpoakmaaGreatDoor
open Go.RowKit Go.Maps Go.Sort Go.Shelf
/-- A sector is a page of this kind, with so many bytes. -/
def PgK (t : ByteArray) (kind : Int) (z : Nat) : Prop := prOk t ∧ pkd t = kind ∧ (pbd t).size = z
set_option maxRecDepth 100000 in
set_option maxHeartbeats 2000000 in
theorem sReadPage_ok {w0 w : World} {b jb pb mb sb : Nat} {X : Nat → Prop} {n : Nat} {S : PS} {L : List ByteArray} {A : List (Nat × Nat)} {hn : Nat} {Mw Mn : List ByteArray} {T : Nat → Bool} (h : MG w0 w b jb pb mb sb X n S L A hn Mw Mn T) (i : Nat) (hi : i < 88) (kind : Int) (z : Nat) (t : ByteArray) (ht : Mn.getD (40 + i) ByteArray.empty = t) (hp : PgK t kind z) : Calls Tryz.prog 121 #[.pointer (some ⟨sb, 0, none⟩), .int .i64 (i : Int), .int .i64 kind, .int .i64 (z : Int)] w fun e w' => e = .returned (.tuple #[.agg #[.int .i64 kind, .int .i64 (pnm t), .string (pbd t)], .int .i64 0]) ∧ MKept w0 w b jb pb mb sb X n S L A hn Mw Mn T w' := by
  obtain ⟨g, hg⟩ : ∃ q, w.heap.size = q := ⟨_, rfl⟩
  obtain ⟨x1, hx1⟩ : ∃ q, w.alloc (.cells #[.int .i64 0, .int .i64 0, .string ⟨#[]⟩] 111) = q := ⟨_, rfl⟩
  have G1 := h.add _ hx1 hg
  have B1 : Blk x1 g #[.int .i64 0, .int .i64 0, .string ⟨#[]⟩] 111 := by rw [← hx1, ← hg]; exact Blk.new w _ _
  have hO1 : Only (fun x => ¬ X x) w x1 := by rw [← hx1]; exact (Only.refl _ w).alloc _
  obtain ⟨n1, n2, n3, n4⟩ := h.new hg
  have G1d := G1.below ((Below.refl _ x1).drew)
  obtain ⟨r1, r2, r3, r4, r5⟩ := G1.bg.seen.read (40 + i) (by omega) (by omega)
  have HRD := hide (pread_any G1d.bg.pk ((40 + i : Nat) : Int) (readT_rest G1.bg.seen.rst (40 + i) (by rw [G1.bg.seen.len]; omega) G1.bg.seen.siz))
  rw [r1, r2, ht] at HRD
  have hts : t.size = 256 := by
    exact (prOk_size _ hp.1).1
  have HNX := hide (show ∀ W, PK w0 W b jb pb (readP S ((40 + i : Nat) : Int)).2.2 (fun x => X x ∨ x = g) → Only (fun x => ¬ (fun x => X x ∨ x = g) x) x1.drew W → MG w0 W b jb pb mb sb (fun x => X x ∨ x = g) n (readP S ((40 + i : Nat) : Int)).2.2 L A hn Mw Mn T ∧ Tk (readP S ((40 + i : Nat) : Int)).2.2 S from fun W K O => ⟨G1d.of (G1d.bg.next K O r3 G1d.bg.ms) O, r5, (read_rest G1.bg.seen.rst (40 + i) (by rw [G1.bg.seen.len]; omega)).2.2.2.2⟩)
  have HR4 := hide r4
  obtain ⟨c0, c1, c2⟩ := G1.c
  have X1 := hide (And.intro B1 (And.intro hO1 (And.intro n1 (And.intro n2 (And.intro n3 (And.intro n4 (And.intro h.bg.xm h.xs)))))))
  have HP := hide hp
  have HTS := hide hts
  have e1 : (40 : Int) + (i : Int) = ((40 + i : Nat) : Int) := by omega
  have hq : 40 + i ≤ 1000 := by omega
  have hwq : IntKind.i64.wrap ((40 + i : Nat) : Int) = ((40 + i : Nat) : Int) := wrapI_eq _ (by omega) (by omega)
  generalize (readP S ((40 + i : Nat) : Int)).2.2 = S2 at *
  generalize 40 + i = ak at *
  clear G1 B1 hO1 n1 n2 n3 n4 G1d r1 r2 r3 r4 r5 h hp hts
  go_enter Tryz.func121, Tryz.ntmps121
  go_wp2
  refine wp_region_held_drew (S := fun w' => w'.cell? ⟨sb, 0, none⟩ = some (.pointer (some ⟨pb, 0, none⟩)) ∧ w'.cell? ⟨sb, 2, none⟩ = some (.int .i64 40)) (by kernel_rfl) ⟨c0, c2⟩ ?_
  intro hS
  refine wpAnyH_takeD 0 (some 14) (.pointer (some ⟨sb, 0, none⟩)) rfl rfl (by kernel_rfl) (by kernel_rfl) (by kernel_rfl) (fun _ _ _ h => h) (Or.inl ⟨by rfl, fun w hSw => by obtain ⟨q1, q2⟩ := hSw; go_simp⟩) hS ?_
  simp only [Act.put, List.setIfInBounds_toArray, List.set_cons_zero, List.set_cons_succ]
  refine wpAnyH_takeD 1 (some 15) (.pointer (some ⟨sb, 0, none⟩)) rfl rfl (by kernel_rfl) (by kernel_rfl) (by kernel_rfl) (fun _ _ _ h => h) (Or.inl ⟨by rfl, fun w hSw => by obtain ⟨q1, q2⟩ := hSw; go_simp⟩) hS ?_
  simp only [Act.put, List.setIfInBounds_toArray, List.set_cons_zero, List.set_cons_succ]
  refine wpAnyH_takeD 2 (some 16) (.pointer (some ⟨sb, 0, none⟩)) rfl rfl (by kernel_rfl) (by kernel_rfl) (by kernel_rfl) (fun _ _ _ h => h) (Or.inl ⟨by rfl, fun w hSw => by obtain ⟨q1, q2⟩ := hSw; go_simp⟩) hS ?_
  simp only [Act.put, List.setIfInBounds_toArray, List.set_cons_zero, List.set_cons_succ]
  refine wpAnyH_takeD 3 (some 17) (.pointer (some ⟨pb, 0, none⟩)) rfl rfl (by kernel_rfl) (by kernel_rfl) (by kernel_rfl) (fun _ _ _ h => h) (Or.inl ⟨by rfl, fun w hSw => by obtain ⟨q1, q2⟩ := hSw; go_simp⟩) hS ?_
  simp only [Act.put, List.setIfInBounds_toArray, List.set_cons_zero, List.set_cons_succ]
  refine wpAnyH_takeD 4 (some 18) (.pointer (some ⟨sb, 0, none⟩)) rfl rfl (by kernel_rfl) (by kernel_rfl) (by kernel_rfl) (fun _ _ _ h => h) (Or.inl ⟨by rfl, fun w hSw => by obtain ⟨q1, q2⟩ := hSw; go_simp⟩) hS ?_
  simp only [Act.put, List.setIfInBounds_toArray, List.set_cons_zero, List.set_cons_succ]
  refine wpAnyH_takeD 5 (some 19) (.pointer (some ⟨sb, 0, none⟩)) rfl rfl (by kernel_rfl) (by kernel_rfl) (by kernel_rfl) (fun _ _ _ h => h) (Or.inl ⟨by rfl, fun w hSw => by obtain ⟨q1, q2⟩ := hSw; go_simp⟩) hS ?_
  simp only [Act.put, List.setIfInBounds_toArray, List.set_cons_zero, List.set_cons_succ]
  refine wpAnyH_takeD 6 (some 20) (.pointer (some ⟨sb, 2, none⟩)) rfl rfl (by kernel_rfl) (by kernel_rfl) (by kernel_rfl) (fun _ _ _ h => h) (Or.inl ⟨by rfl, fun w hSw => by obtain ⟨q1, q2⟩ := hSw; go_simp⟩) hS ?_
  simp only [Act.put, List.setIfInBounds_toArray, List.set_cons_zero, List.set_cons_succ]
  refine wpAnyH_takeD 7 (some 21) (.int .i64 40) rfl rfl (by kernel_rfl) (by kernel_rfl) (by kernel_rfl) (fun _ _ _ h => h) (Or.inl ⟨by rfl, fun w hSw => by obtain ⟨q1, q2⟩ := hSw; go_simp⟩) hS ?_
  simp only [Act.put, List.setIfInBounds_toArray, List.set_cons_zero, List.set_cons_succ]
  refine wpAnyH_takeD 8 (some 22) (.int .i64 (i : Int)) rfl rfl (by kernel_rfl) (by kernel_rfl) (by kernel_rfl) (fun _ _ _ h => h) (Or.inl ⟨by rfl, fun w hSw => by obtain ⟨q1, q2⟩ := hSw; go_simp⟩) hS ?_
  simp only [Act.put, List.setIfInBounds_toArray, List.set_cons_zero, List.set_cons_succ]
  refine wpAnyH_takeD 9 (some 23) (.int .i64 (ak : Int)) rfl rfl (by kernel_rfl) (by kernel_rfl) (by kernel_rfl) (fun _ _ _ h => h) (Or.inl ⟨by rfl, fun w hSw => by obtain ⟨q1, q2⟩ := hSw; go_simp⟩) hS ?_
  simp only [Act.put, List.setIfInBounds_toArray, List.set_cons_zero, List.set_cons_succ]
  refine wpAnyH_ready (rs := [10]) (by kernel_rfl) (by simp) ?_
  refine AllReadyH.cons rfl (fun K hK => ?_) AllReadyH.nil
  simp only [List.getElem_toArray, List.getElem_cons_succ, List.getElem_cons_zero]
  go_simp
  refine (unhide HRD).mono ?_
  rintro e x2 ⟨rfl, K2, hO2⟩
  obtain ⟨G2, k2⟩ := unhide HNX x2 K2 hO2
  obtain ⟨d0, d1, d2⟩ := G2.c
  have B2 : Blk x2 g #[.int .i64 0, .int .i64 0, .string ⟨#[]⟩] 111 := Blk.only (show Blk x1.drew g #[.int .i64 0, .int .i64 0, .string ⟨#[]⟩] 111 from (unhide X1).1) hO2 (fun q => q (.inr rfl))
  have hO12 : Only (fun x => ¬ X x) w x2 := (unhide X1).2.1.trans ((Only.of_below (P := fun x => ¬ X x) ((Below.refl _ x1).drew)).trans hO2 (fun _ _ q r => q (.inl r))) (fun _ _ q => q)
  have X2 := hide (And.intro G2 (And.intro k2 (And.intro B2 hO12)))
  clear K2 hO2 G2 k2 B2 hO12 HRD HNX
  refine hK.out _ _ ⟨d0, d2⟩ (fun hS => ?_)
  clear hK K
  refine wpAnyH_takeD 11 (some 13) (.tuple #[.string t, .int .i64 0]) rfl rfl (by kernel_rfl) (by kernel_rfl) (by kernel_rfl) (fun _ _ _ h => h) (Or.inl ⟨by rfl, fun w hSw => by obtain ⟨q1, q2⟩ := hSw; go_simp⟩) hS ?_
  simp only [Act.put, List.setIfInBounds_toArray, List.set_cons_zero, List.set_cons_succ]
  refine wpAnyH_takeD 12 (some 25) (.string t) rfl rfl (by kernel_rfl) (by kernel_rfl) (by kernel_rfl) (fun _ _ _ h => h) (Or.inl ⟨by rfl, fun w hSw => by obtain ⟨q1, q2⟩ := hSw; go_simp⟩) hS ?_
  simp only [Act.put, List.setIfInBounds_toArray, List.set_cons_zero, List.set_cons_succ]
  refine wpAnyH_takeD 13 (some 26) (.int .i64 0) rfl rfl (by kernel_rfl) (by kernel_rfl) (by kernel_rfl) (fun _ _ _ h => h) (Or.inl ⟨by rfl, fun w hSw => by obtain ⟨q1, q2⟩ := hSw; go_simp⟩) hS ?_
  simp only [Act.put, List.setIfInBounds_toArray, List.set_cons_zero, List.set_cons_succ]
  refine wpAnyH_takeD 14 (some 10) (.string t) rfl rfl (by kernel_rfl) (by kernel_rfl) (by kernel_rfl) (fun _ _ _ h => h) (Or.inl ⟨by rfl, fun w hSw => by obtain ⟨q1, q2⟩ := hSw; go_simp⟩) hS ?_
  simp only [Act.put, List.setIfInBounds_toArray, List.set_cons_zero, List.set_cons_succ]
  refine wpAnyH_takeD 15 (some 11) (.int .i64 0) rfl rfl (by kernel_rfl) (by kernel_rfl) (by kernel_rfl) (fun _ _ _ h => h) (Or.inl ⟨by rfl, fun w hSw => by obtain ⟨q1, q2⟩ := hSw; go_simp⟩) hS ?_
  simp only [Act.put, List.setIfInBounds_toArray, List.set_cons_zero, List.set_cons_succ]
  refine wpAnyH_done (by kernel_rfl) ?_ _
  clear hS c0 c1 c2 d0 d1 d2
  have HPS := hide (parse_any rep_ok t (by rw [unhide HTS]; decide) x2 (unhide X2).1.ety)
  obtain ⟨kd, hkd⟩ : ∃ q, pkd t = q := ⟨_, rfl⟩
  obtain ⟨nm, hnm⟩ : ∃ q, pnm t = q := ⟨_, rfl⟩
  obtain ⟨bd, hbd⟩ : ∃ q, pbd t = q := ⟨_, rfl⟩
  obtain ⟨p1, p2, p3⟩ := unhide HP
  rw [hbd] at p3
  rw [hkd] at p2
  subst p2
  have HPO := hide p1
  have HNB := hide (And.intro hnm hbd)
  have hz : ((bd.size : Int) != (z : Int)) = false := by rw [p3]; simp
  have HKD := hide hkd
  clear p1 p3 hkd hnm hbd
  go_wp2_with fail
  refine (unhide HPS).mono ?_
  rintro e x3 ⟨hpp, hb3⟩
  rcases hpp with ⟨-, rfl⟩ | ⟨hno, -⟩
  · rw [unhide HKD, (unhide HNB).1, (unhide HNB).2]
    obtain ⟨G2, k2, B2, hO2⟩ := unhide X2
    obtain ⟨g4, hg4⟩ : ∃ q, x3.heap.size = q := ⟨_, rfl⟩
    obtain ⟨x4, hx4⟩ : ∃ q, x3.alloc (.cells #[.int .i64 kd, .int .i64 nm, .string bd] 111) = q := ⟨_, rfl⟩
    have hb4 : Below x3.heap.size x3 x4 := by rw [← hx4]; exact (Below.refl _ x3).alloc (Nat.le_refl _) _
    have B4 : Blk x4 g4 #[.int .i64 kd, .int .i64 nm, .string bd] 111 := by rw [← hx4, ← hg4]; exact Blk.new x3 _ _
    have B3 := B2.below hb3 B2.lt
    have Bg : Blk x4 g #[.int .i64 0, .int .i64 0, .string ⟨#[]⟩] 111 := B3.below hb4 B3.lt
    have hne : g ≠ g4 := by rw [← hg4]; exact Nat.ne_of_lt B3.lt
    have G4 := (G2.below hb3).below hb4
    have hO4 : Only (fun x => ¬ X x) w x4 := (hO2.trans (Only.of_below (P := fun x => ¬ X x) hb3) (fun _ _ q => q)).trans (Only.of_below (P := fun x => ¬ X x) hb4) (fun _ _ q => q)
    have a0 : x4.cell? ⟨g4, 0, none⟩ = some (.int .i64 kd) := B4.cell 0
    have a1 : x4.cell? ⟨g4, 1, none⟩ = some (.int .i64 nm) := B4.cell 1
    have a2 : x4.cell? ⟨g4, 2, none⟩ = some (.string bd) := B4.cell 2
    have q0 : x4.cell? ⟨g, 0, none⟩ = some (.int .i64 0) := Bg.cell 0
    have q1 : x4.cell? ⟨g, 1, none⟩ = some (.int .i64 0) := Bg.cell 1
    have q2 : x4.cell? ⟨g, 2, none⟩ = some (.string ⟨#[]⟩) := Bg.cell 2
    have p0 := Bg.frozen 0
    have p1 := Bg.frozen 1
    have p2 := Bg.frozen 2
    have B6 := ((Bg.set 0 (.int .i64 kd)).set 1 (.int .i64 nm)).set 2 (.string bd)
    have O6 := (((Only.refl (fun x => x = g) x4).setCell ⟨g, 0, none⟩ (.int .i64 kd) (fun _ => rfl)).setCell ⟨g, 1, none⟩ (.int .i64 nm) (fun _ => rfl)).setCell ⟨g, 2, none⟩ (.string bd) (fun _ => rfl)
    have HLD := hide (load_page _ g kd nm bd B6)
    obtain ⟨-, -, n1, n2, n3, n4, hm, hs⟩ := unhide X1
    have HF := hide (show MKept w0 w b jb pb mb sb X n S L A hn Mw Mn T (((x4.setCell ⟨g, 0, none⟩ (.int .i64 kd)).setCell ⟨g, 1, none⟩ (.int .i64 nm)).setCell ⟨g, 2, none⟩ (.string bd)) from ⟨S2, (G4.poke (.inr rfl) n2 n3 n4 O6).less (fun _ q => .inl q) hm hs, unhide HR4, k2, hO4.trans O6 (fun x _ q => by rw [q]; exact n1)⟩)
    clear G2 k2 B2 hO2 B4 B3 Bg G4 hO4 B6 O6 hb3 hb4 n1 n2 n3 n4 hm hs X1 X2 HPS
    go_wp2
    exact bodyPost_ret (v := .tuple #[.agg #[.int .i64 kd, .int .i64 nm, .string bd], .int .i64 0]) (results_cell2 (p := 8) (q := 9) (ty := 111) rfl _ _ _ ⟨g, 0, none⟩ rfl _ (unhide HLD)) rfl ⟨by rw [(unhide HNB).1, (unhide HNB).2], unhide HF⟩
  · exact absurd (unhide HPO) hno
end Go.Proofs.YtjlgbafcpoakmaaGreatDoor

namespace Go.Proofs.YtjlgbafcpoakmaaGreatDoor
open Go.RowKit Go.Maps Go.Sort Go.Shelf
set_option maxRecDepth 100000 in
set_option maxHeartbeats 2000000 in
theorem sFind_ok {w0 w : World} {b jb pb mb sb : Nat} {X : Nat → Prop} {n : Nat} {S : PS} {L : List ByteArray} {A : List (Nat × Nat)} {hn : Nat} {Mw Mn : List ByteArray} {T : Nat → Bool} (h : MG w0 w b jb pb mb sb X n S L A hn Mw Mn T) {m : Nat} {V : Nat → Vol} (hv : VS Mn n m T V) (k : Nat) (hk : k < m) : Calls Tryz.prog 45 #[.pointer (some ⟨sb, 0, none⟩), .int .i64 ((V k).r : Int)] w fun e w' => e = .returned (.tuple #[.agg (trC ((V k).r : Int) ((V k).num : Int) (V k).lf).toArray, .int .i64 0]) ∧ MKept w0 w b jb pb mb sb X n S L A hn Mw Mn T w' := by
  obtain ⟨g, hg⟩ : ∃ q, w.heap.size = q := ⟨_, rfl⟩
  obtain ⟨x1, hx1⟩ : ∃ q, w.alloc (.cells #[.int .i64 0, .int .i64 0, .int .i64 0, .int .i64 0, .int .i64 0, .int .i64 0, .int .i64 0, .int .i64 0, .int .i64 0, .int .i64 0, .int .i64 0, .int .i64 0, .int .i64 0, .int .i64 0, .int .i64 0, .int .i64 0, .int .i64 0, .int .i64 0, .int .i64 0, .int .i64 0, .int .i64 0, .int .i64 0] 94) = q := ⟨_, rfl⟩
  have G1 := h.add _ hx1 hg
  have B1 : Blk x1 g #[.int .i64 0, .int .i64 0, .int .i64 0, .int .i64 0, .int .i64 0, .int .i64 0, .int .i64 0, .int .i64 0, .int .i64 0, .int .i64 0, .int .i64 0, .int .i64 0, .int .i64 0, .int .i64 0, .int .i64 0, .int .i64 0, .int .i64 0, .int .i64 0, .int .i64 0, .int .i64 0, .int .i64 0, .int .i64 0] 94 := by rw [← hx1, ← hg]; exact Blk.new w _ _
  have hO1 : Only (fun x => ¬ X x) w x1 := by rw [← hx1]; exact (Only.refl _ w).alloc _
  obtain ⟨n1, n2, n3, n4⟩ := h.new hg
  obtain ⟨v1, v2, v3, v4, v5⟩ := hv.root k hk
  have hn88 := h.n88
  have HW := hide (sWhole_any G1)
  have HU := hide (mused_any G1.bg (V k).r v2)
  rw [v3] at HU
  have HRP := hide (fun W S' (G : MG w0 W b jb pb mb sb (fun x => X x ∨ x = g) n S' L A hn Mw Mn T) => sReadPage_ok G (V k).r (by omega) 6 40 _ v4 ⟨(rtP_parse _ _ v1).1, (rtP_parse _ _ v1).2.1, by rw [(rtP_parse _ _ v1).2.2.2]; exact rtB_size _⟩)
  simp only [(rtP_parse (V k).num (V k).lf v1).2.2.1, (rtP_parse (V k).num (V k).lf v1).2.2.2] at HRP
  have HPT := hide (fun W hE => parseTree_any ((V k).r : Int) 6 (V k).num v1 (V k).lf (fun l hl => by have := v5 l hl; omega) W hE)
  have hyl := trC_len ((V k).r : Int) ((V k).num : Int) (V k).lf
  have hyo := trC_one ((V k).r : Int) ((V k).num : Int) (V k).lf
  generalize trC ((V k).r : Int) ((V k).num : Int) (V k).lf = ys at *
  generalize rtB (V k).lf = bd at *
  obtain ⟨r, hr⟩ : ∃ q, (V k).r = q := ⟨_, rfl⟩
  obtain ⟨nm, hnm⟩ : ∃ q, (V k).num = q := ⟨_, rfl⟩
  rw [hr] at HU HRP HPT ⊢
  rw [hnm] at HRP HPT
  obtain ⟨c0, c1, c2⟩ := G1.c
  have X1 := hide (And.intro G1 (And.intro B1 (And.intro hO1 (And.intro n1 (And.intro n2 (And.intro n3 (And.intro n4 (And.intro h.bg.xm h.xs))))))))
  have HYL := hide hyl
  have HYO := hide hyo
  clear G1 B1 hO1 n1 n2 n3 n4 h hv v1 v2 v3 v4 v5 hn88 hr hnm hyl hyo
  go_enter Tryz.func45, Tryz.ntmps45
  go_wp2_with (go_at_call 118; refine (unhide HW).mono ?_; rintro e w' ⟨rfl, hw'⟩; subst w')
  refine (unhide HU).mono ?_
  rintro e x2 ⟨rfl, hK2⟩
  obtain ⟨S2, k1, k2, k3, k4⟩ := MKept.of (unhide X1).1 hK2
  have B2 := (unhide X1).2.1.only k4 (fun q => q (.inr rfl))
  have HR := hide (unhide HRP x2 S2 k1)
  have X2 := hide (And.intro k2 (And.intro k3 (And.intro B2 ((unhide X1).2.2.1.trans k4 (fun _ _ q r => q (.inl r))))))
  clear hK2 k1 k2 k3 k4 B2 HU HW HRP c0 c1 c2
  go_wp2_with fail
  refine (unhide HR).mono ?_
  rintro e x3 ⟨rfl, S3, k1, k2, k3, k4⟩
  obtain ⟨j1, j2, B2, O2⟩ := unhide X2
  have B3 := B2.only k4 (fun q => q (.inr rfl))
  have O3 : Only (fun x => ¬ X x) w x3 := O2.trans k4 (fun _ _ q r => q (.inl r))
  obtain ⟨g4, hg4⟩ : ∃ q, x3.heap.size = q := ⟨_, rfl⟩
  obtain ⟨x4, hx4⟩ : ∃ q, x3.alloc (.cells #[.int .i64 6, .int .i64 (nm : Int), .string bd] 111) = q := ⟨_, rfl⟩
  have hb4 : Below x3.heap.size x3 x4 := by rw [← hx4]; exact (Below.refl _ x3).alloc (Nat.le_refl _) _
  have B4 : Blk x4 g4 #[.int .i64 6, .int .i64 (nm : Int), .string bd] 111 := by rw [← hx4, ← hg4]; exact Blk.new x3 _ _
  have a0 : x4.cell? ⟨g4, 0, none⟩ = some (.int .i64 6) := B4.cell 0
  have a1 : x4.cell? ⟨g4, 1, none⟩ = some (.int .i64 (nm : Int)) := B4.cell 1
  have a2 : x4.cell? ⟨g4, 2, none⟩ = some (.string bd) := B4.cell 2
  have G4 := k1.below hb4
  have HP := hide (unhide HPT x4 G4.ety)
  have X4 := hide (And.intro G4 (And.intro (k2.trans j1) (And.intro (k3.trans j2) (And.intro (B3.below hb4 B3.lt) (O3.trans (Only.of_below (P := fun x => ¬ X x) hb4) (fun _ _ q => q))))))
  clear k1 k2 k3 k4 j1 j2 B2 O2 B3 O3 hb4 B4 G4 HR X2 HPT
  go_wp2_with fail
  refine (unhide HP).mono ?_
  rintro e x5 ⟨rfl, hb5⟩
  obtain ⟨G4, k2, k3, B4, O4⟩ := unhide X4
  have B5 := B4.below hb5 B4.lt
  have TH := hide (blk_there B5 ys.toArray.size (by simp [unhide HYL]))
  have B6 := setCells_all B5 ys (by simp [unhide HYL])
  have HLD := hide (iload_blk 94 _ B6 Tryz.underlying94 rfl (by rw [sizeTree]; simp [unhide HYL]))
  have O6 : Only (fun x => x = g) x5 (x5.setCells g 0 ys) := only_cells g 0 ys rfl
  obtain ⟨-, -, -, n1, n2, n3, n4, hm, hs⟩ := unhide X1
  have HF := hide (show MKept w0 w b jb pb mb sb X n S L A hn Mw Mn T (x5.setCells g 0 ys) from ⟨S3, ((G4.below hb5).poke (.inr rfl) n2 n3 n4 O6).less (fun _ q => .inl q) hm hs, k2, k3, (O4.trans (Only.of_below (P := fun x => ¬ X x) hb5) (fun _ _ q => q)).trans O6 (fun x _ q => by rw [q]; exact n1)⟩)
  clear G4 k2 k3 B4 O4 B5 hb5 B6 O6 n1 n2 n3 n4 hm hs X1 X4 HP a0 a1 a2
  go_wp2_with (refine wpList_store_mid rfl 94 (.tmp 4) (.tmp 42) rfl g 0 ys.toArray rfl rfl (unhide TH) (by rw [sizeTree]; simp [unhide HYL]) (unhide HYO) ?_)
  exact bodyPost_ret (v := .tuple #[.agg ys.toArray, .int .i64 0]) (results_cell2 (p := 4) (q := 5) (ty := 94) rfl _ _ _ ⟨g, 0, none⟩ rfl _ (unhide HLD)) rfl ⟨rfl, unhide HF⟩
set_option maxRecDepth 100000 in
set_option maxHeartbeats 2000000 in
theorem sFtc_ok {w0 w : World} {b jb pb mb sb : Nat} {X : Nat → Prop} {n : Nat} {S : PS} {L : List ByteArray} {A : List (Nat × Nat)} {hn : Nat} {Mw Mn : List ByteArray} {T : Nat → Bool} (h : MG w0 w b jb pb mb sb X n S L A hn Mw Mn T) (ho : S.op = true) {m : Nat} {V : Nat → Vol} (hv : VS Mn n m T V) (k : Nat) (hk : k < m) : Calls Tryz.prog 49 #[.pointer (some ⟨sb, 0, none⟩), .int .i64 ((V k).r : Int)] w fun e w' => e = .returned (.tuple #[.agg (trC ((V k).r : Int) ((V k).num : Int) (V k).lf).toArray, .int .i64 0]) ∧ MKept w0 w b jb pb mb sb X n S L A hn Mw Mn T w' := by
  obtain ⟨g, hg⟩ : ∃ q, w.heap.size = q := ⟨_, rfl⟩
  obtain ⟨x1, hx1⟩ : ∃ q, w.alloc (.cells #[.int .i64 0, .int .i64 0, .int .i64 0, .int .i64 0, .int .i64 0, .int .i64 0, .int .i64 0, .int .i64 0, .int .i64 0, .int .i64 0, .int .i64 0, .int .i64 0, .int .i64 0, .int .i64 0, .int .i64 0, .int .i64 0, .int .i64 0, .int .i64 0, .int .i64 0, .int .i64 0, .int .i64 0, .int .i64 0] 94) = q := ⟨_, rfl⟩
  have G1 := h.add _ hx1 hg
  have B1 : Blk x1 g #[.int .i64 0, .int .i64 0, .int .i64 0, .int .i64 0, .int .i64 0, .int .i64 0, .int .i64 0, .int .i64 0, .int .i64 0, .int .i64 0, .int .i64 0, .int .i64 0, .int .i64 0, .int .i64 0, .int .i64 0, .int .i64 0, .int .i64 0, .int .i64 0, .int .i64 0, .int .i64 0, .int .i64 0, .int .i64 0] 94 := by rw [← hx1, ← hg]; exact Blk.new w _ _
  have hO1 : Only (fun x => ¬ X x) w x1 := by rw [← hx1]; exact (Only.refl _ w).alloc _
  obtain ⟨n1, n2, n3, n4⟩ := h.new hg
  have HC := hide (sChange_any G1)
  rw [ho] at HC
  have HFI := hide (fun W (G : MG w0 W b jb pb mb sb (fun x => X x ∨ x = g) n S L A hn Mw Mn T) => sFind_ok G hv k hk)
  have hyl := trC_len ((V k).r : Int) ((V k).num : Int) (V k).lf
  have hyo := trC_one ((V k).r : Int) ((V k).num : Int) (V k).lf
  generalize trC ((V k).r : Int) ((V k).num : Int) (V k).lf = ys at *
  generalize (V k).r = r at *
  have X1 := hide (And.intro B1 (And.intro hO1 (And.intro n1 (And.intro n2 (And.intro n3 (And.intro n4 (And.intro h.bg.xm h.xs)))))))
  have HYL := hide hyl
  have HYO := hide hyo
  clear G1 B1 hO1 n1 n2 n3 n4 h hv hyl hyo ho
  go_enter Tryz.func49, Tryz.ntmps49
  go_wp2_with fail
  refine (unhide HC).mono ?_
  rintro e x2 ⟨rfl, G2, hO2⟩
  have B2 := (unhide X1).1.only hO2 (fun q => q (.inr rfl))
  have HF := hide (unhide HFI x2 G2)
  have X2 := hide (And.intro B2 ((unhide X1).2.1.trans hO2 (fun _ _ q r => q (.inl r))))
  clear G2 hO2 B2 HC HFI
  go_wp2_with fail
  refine (unhide HF).mono ?_
  rintro e x5 ⟨rfl, S3, k1, k2, k3, k4⟩
  have B5 := (unhide X2).1.only k4 (fun q => q (.inr rfl))
  have TH := hide (blk_there B5 ys.toArray.size (by simp [unhide HYL]))
  have B6 := setCells_all B5 ys (by simp [unhide HYL])
  have HLD := hide (iload_blk 94 _ B6 Tryz.underlying94 rfl (by rw [sizeTree]; simp [unhide HYL]))
  have O6 : Only (fun x => x = g) x5 (x5.setCells g 0 ys) := only_cells g 0 ys rfl
  obtain ⟨-, -, n1, n2, n3, n4, hm, hs⟩ := unhide X1
  have HF2 := hide (show MKept w0 w b jb pb mb sb X n S L A hn Mw Mn T (x5.setCells g 0 ys) from ⟨S3, (k1.poke (.inr rfl) n2 n3 n4 O6).less (fun _ q => .inl q) hm hs, k2, k3, ((unhide X2).2.trans k4 (fun _ _ q r => q (.inl r))).trans O6 (fun x _ q => by rw [q]; exact n1)⟩)
  clear k1 k2 k3 k4 B5 B6 O6 n1 n2 n3 n4 hm hs X1 X2 HF
  go_wp2_with (refine wpList_store_mid rfl 94 (.tmp 4) (.tmp 13) rfl g 0 ys.toArray rfl rfl (unhide TH) (by rw [sizeTree]; simp [unhide HYL]) (unhide HYO) ?_)
  exact bodyPost_ret (v := .tuple #[.agg ys.toArray, .int .i64 0]) (results_cell2 (p := 4) (q := 5) (ty := 94) rfl _ _ _ ⟨g, 0, none⟩ rfl _ (unhide HLD)) rfl ⟨rfl, unhide HF2⟩
end Go.Proofs.YtjlgbafcpoakmaaGreatDoor

namespace Go.Proofs.YtjlgbafcpoakmaaGreatDoor
open Go.RowKit Go.Maps Go.Sort Go.Shelf
theorem MG.write {w0 w : World} {b jb pb mb sb : Nat} {X : Nat → Prop} {n : Nat} {S : PS} {L : List ByteArray} {A : List (Nat × Nat)} {hn : Nat} {Mw Mn : List ByteArray} {T : Nat → Bool} (h : MG w0 w b jb pb mb sb X n S L A hn Mw Mn T) (ho : S.op = true) (i : Nat) (hi : i < 88) (t : ByteArray) (ht : t.size = 256) (hr : S.tx.length < 16) : Calls Tryz.prog 126 #[.pointer (some ⟨pb, 0, none⟩), .int .i64 ((40 + i : Nat) : Int), .string t] w fun e w' => e = .returned (.int .i64 0) ∧ MChg w0 w b jb pb mb sb X n S L A hn Mw 1 T (ups (Sec Mn) (40 + i) t) w' := by
  obtain ⟨r1, r2, r3, r4⟩ := h.bg.seen.write h.bg.srt ho (40 + i) (by omega) (by omega) t ht (room_of hr _)
  have hc := pwrite_any h.bg.pk ((40 + i : Nat) : Int) t (by omega)
  rw [r1] at hc
  refine hc.mono ?_
  rintro e w' ⟨rfl, K, hO⟩
  have hl := h.bg.seen.ln
  refine ⟨rfl, _, _, h.of (h.bg.next K hO r2 (ms_19 h.bg.ms h.n88 (by rw [getD_set _ _ _ _ (by omega), if_neg (by omega)]))) hO, r3, (write_rest h.bg.seen.rst _ _).2.2, by rw [r4]; exact put_le h.bg.srt _ _, fun k _ _ => ?_, hO⟩
  show (Mn.set (40 + i) t).getD k ByteArray.empty = _
  rw [getD_set _ _ _ _ (by omega)]
  rfl
theorem MG.turned {w0 w : World} {b jb pb mb sb : Nat} {X : Nat → Prop} {n : Nat} {S : PS} {L : List ByteArray} {A : List (Nat × Nat)} {hn : Nat} {Mw Mn : List ByteArray} {T : Nat → Bool} (h : MG w0 w b jb pb mb sb X n S L A hn Mw Mn T) (p : Nat) (hp : p < n) {w' : World} (k : Turned w0 w b jb pb mb X 19 n S L A hn Mw T p w') : MChg w0 w b jb pb mb sb X n S L A hn Mw 1 (flp T p) (Sec Mn) w' := by
  obtain ⟨S', Mn', k1, k2, ⟨⟨t, _, k3⟩, k5⟩, k4⟩ := k
  have e19 : 19 + p / 256 = 19 := by have := h.n88; omega
  rw [e19] at k3
  refine ⟨S', Mn', h.of k1 k4, k2, k5, by rw [k3]; exact put_le h.bg.srt _ _, fun k h1 h2 => ?_, k4⟩
  show Mn'.getD k ByteArray.empty = Mn.getD k ByteArray.empty
  rw [h.bg.seen.now k (by omega) h2, k1.seen.now k (by omega) h2, k3, at_put h.bg.srt, if_neg (by omega)]
theorem MG.alloc {w0 w : World} {b jb pb mb sb : Nat} {X : Nat → Prop} {n : Nat} {S : PS} {L : List ByteArray} {A : List (Nat × Nat)} {hn : Nat} {Mw Mn : List ByteArray} {T : Nat → Bool} (h : MG w0 w b jb pb mb sb X n S L A hn Mw Mn T) (ho : S.op = true) (p : Nat) (hl : Lea T n p) (hr : S.tx.length < 16) : Calls Tryz.prog 157 #[.pointer (some ⟨mb, 0, none⟩)] w fun e w' => e = .returned (.tuple #[.int .i64 (p : Int), .int .i64 0]) ∧ MChg w0 w b jb pb mb sb X n S L A hn Mw 1 (flp T p) (Sec Mn) w' := by
  refine (malloc_ok h.bg ho p hl (room_of hr _)).mono ?_
  rintro e w' ⟨rfl, k⟩
  exact ⟨rfl, h.turned p hl.1 k⟩
theorem MG.free {w0 w : World} {b jb pb mb sb : Nat} {X : Nat → Prop} {n : Nat} {S : PS} {L : List ByteArray} {A : List (Nat × Nat)} {hn : Nat} {Mw Mn : List ByteArray} {T : Nat → Bool} (h : MG w0 w b jb pb mb sb X n S L A hn Mw Mn T) (ho : S.op = true) (i : Nat) (hi : i < n) (hT : T i = true) (hr : S.tx.length < 16) : Calls Tryz.prog 130 #[.pointer (some ⟨mb, 0, none⟩), .int .i64 (i : Int)] w fun e w' => e = .returned (.int .i64 0) ∧ MChg w0 w b jb pb mb sb X n S L A hn Mw 1 (flp T i) (Sec Mn) w' := by
  refine (mfree_ok h.bg ho i hi hT (room_of hr _)).mono ?_
  rintro e w' ⟨rfl, k⟩
  exact ⟨rfl, h.turned i hi k⟩
/-- From a narrower world and a wider fence. -/
theorem MChg.less {w0 w : World} {b jb pb mb sb : Nat} {X : Nat → Prop} {n : Nat} {S : PS} {L : List ByteArray} {A : List (Nat × Nat)} {hn : Nat} {Mw : List ByteArray} {d : Nat} {T1 : Nat → Bool} {Z : Nat → ByteArray} {Y : Nat → Prop} {wz w1 : World} (h : MChg w0 w b jb pb mb sb X n S L A hn Mw d T1 Z w1) (ho : Only (fun x => ¬ Y x) wz w) (hy : ∀ x, Y x → X x) (hm : Y mb) (hs : Y sb) : MChg w0 wz b jb pb mb sb Y n S L A hn Mw d T1 Z w1 := by
  obtain ⟨S1, M1, h1, h2, h3, h4, h5, h6⟩ := h
  exact ⟨S1, M1, h1.less hy hm hs, h2, h3, h4, h5, ho.trans h6 (fun x _ q r => q (hy x r))⟩
set_option maxRecDepth 100000 in
set_option maxHeartbeats 2000000 in
theorem sWritePage {w0 w : World} {b jb pb mb sb : Nat} {X : Nat → Prop} {n : Nat} {S : PS} {L : List ByteArray} {A : List (Nat × Nat)} {hn : Nat} {Mw Mn : List ByteArray} {T : Nat → Bool} (h : MG w0 w b jb pb mb sb X n S L A hn Mw Mn T) (ho : S.op = true) (i : Nat) (hi : i < 88) (kind num : Int) (bd : ByteArray) (hE : errM kind num bd.size = 0) (hr : S.tx.length < 16) : Calls Tryz.prog 52 #[.pointer (some ⟨sb, 0, none⟩), .int .i64 (i : Int), .agg #[.int .i64 kind, .int .i64 num, .string bd]] w fun e w' => e = .returned (.int .i64 0) ∧ MChg w0 w b jb pb mb sb X n S L A hn Mw 1 T (ups (Sec Mn) (40 + i) (makeB kind num bd)) w' := by
  obtain ⟨g, hg⟩ : ∃ q, w.heap.size = q := ⟨_, rfl⟩
  obtain ⟨x1, hx1⟩ : ∃ q, w.alloc (.cells #[.int .i64 kind, .int .i64 num, .string bd] 111) = q := ⟨_, rfl⟩
  have G1 := h.add _ hx1 hg
  have B1 : Blk x1 g #[.int .i64 kind, .int .i64 num, .string bd] 111 := by rw [← hx1, ← hg]; exact Blk.new w _ _
  have hO1 : Only (fun x => ¬ X x) w x1 := by rw [← hx1]; exact (Only.refl _ w).alloc _
  obtain ⟨n1, n2, n3, n4⟩ := h.new hg
  have HMK := hide (fun W => make_any rep_ok kind num bd W)
  rw [hE] at HMK
  have hts : (makeB kind num bd).size = 256 := (prOk_size _ (make_parse kind num bd hE).1).1
  have HWR := hide (fun W (G : MG w0 W b jb pb mb sb (fun x => X x ∨ x = g) n S L A hn Mw Mn T) => G.write ho i hi (makeB kind num bd) hts hr)
  generalize makeB kind num bd = tx at *
  have a0 : x1.cell? ⟨g, 0, none⟩ = some (.int .i64 kind) := B1.cell 0
  have a1 : x1.cell? ⟨g, 1, none⟩ = some (.int .i64 num) := B1.cell 1
  have a2 : x1.cell? ⟨g, 2, none⟩ = some (.string bd) := B1.cell 2
  have X1 := hide (And.intro G1 (And.intro hO1 (And.intro h.bg.xm h.xs)))
  have e1 : (40 : Int) + (i : Int) = ((40 + i : Nat) : Int) := by omega
  have hq : 40 + i ≤ 1000 := by omega
  have hwq : IntKind.i64.wrap ((40 + i : Nat) : Int) = ((40 + i : Nat) : Int) := wrapI_eq _ (by omega) (by omega)
  generalize 40 + i = ak at *
  clear G1 B1 hO1 n1 n2 n3 n4 h hE hts ho hr
  go_enter Tryz.func52, Tryz.ntmps52
  go_wp2_with fail
  refine (unhide HMK _).mono ?_
  rintro e x2 ⟨rfl, hb2⟩
  have G2 := (unhide X1).1.below hb2
  obtain ⟨c0, c1, c2⟩ := G2.c
  have G2d := G2.below ((Below.refl _ x2).drew)
  have HW := hide (unhide HWR x2.drew G2d)
  have X2 := hide ((unhide X1).2.1.trans ((Only.of_below (P := fun x => ¬ X x) hb2).trans (Only.of_below (P := fun x => ¬ X x) ((Below.refl _ x2).drew)) (fun _ _ q => q)) (fun _ _ q => q))
  clear G2 G2d hb2 HMK HWR a0 a1 a2
  go_wp2
  refine wp_region_held_drew (S := fun w' => w'.cell? ⟨sb, 0, none⟩ = some (.pointer (some ⟨pb, 0, none⟩)) ∧ w'.cell? ⟨sb, 2, none⟩ = some (.int .i64 40)) (by kernel_rfl) ⟨c0, c2⟩ ?_
  intro hS
  refine wpAnyH_takeD 0 (some 14) (.pointer (some ⟨sb, 0, none⟩)) rfl rfl (by kernel_rfl) (by kernel_rfl) (by kernel_rfl) (fun _ _ _ h => h) (Or.inl ⟨by rfl, fun w hSw => by obtain ⟨q1, q2⟩ := hSw; go_simp⟩) hS ?_
  simp only [Act.put, List.setIfInBounds_toArray, List.set_cons_zero, List.set_cons_succ]
  refine wpAnyH_takeD 1 (some 15) (.pointer (some ⟨sb, 0, none⟩)) rfl rfl (by kernel_rfl) (by kernel_rfl) (by kernel_rfl) (fun _ _ _ h => h) (Or.inl ⟨by rfl, fun w hSw => by obtain ⟨q1, q2⟩ := hSw; go_simp⟩) hS ?_
  simp only [Act.put, List.setIfInBounds_toArray, List.set_cons_zero, List.set_cons_succ]
  refine wpAnyH_takeD 2 (some 16) (.pointer (some ⟨sb, 0, none⟩)) rfl rfl (by kernel_rfl) (by kernel_rfl) (by kernel_rfl) (fun _ _ _ h => h) (Or.inl ⟨by rfl, fun w hSw => by obtain ⟨q1, q2⟩ := hSw; go_simp⟩) hS ?_
  simp only [Act.put, List.setIfInBounds_toArray, List.set_cons_zero, List.set_cons_succ]
  refine wpAnyH_takeD 3 (some 17) (.pointer (some ⟨pb, 0, none⟩)) rfl rfl (by kernel_rfl) (by kernel_rfl) (by kernel_rfl) (fun _ _ _ h => h) (Or.inl ⟨by rfl, fun w hSw => by obtain ⟨q1, q2⟩ := hSw; go_simp⟩) hS ?_
  simp only [Act.put, List.setIfInBounds_toArray, List.set_cons_zero, List.set_cons_succ]
  refine wpAnyH_takeD 4 (some 18) (.pointer (some ⟨sb, 0, none⟩)) rfl rfl (by kernel_rfl) (by kernel_rfl) (by kernel_rfl) (fun _ _ _ h => h) (Or.inl ⟨by rfl, fun w hSw => by obtain ⟨q1, q2⟩ := hSw; go_simp⟩) hS ?_
  simp only [Act.put, List.setIfInBounds_toArray, List.set_cons_zero, List.set_cons_succ]
  refine wpAnyH_takeD 5 (some 19) (.pointer (some ⟨sb, 0, none⟩)) rfl rfl (by kernel_rfl) (by kernel_rfl) (by kernel_rfl) (fun _ _ _ h => h) (Or.inl ⟨by rfl, fun w hSw => by obtain ⟨q1, q2⟩ := hSw; go_simp⟩) hS ?_
  simp only [Act.put, List.setIfInBounds_toArray, List.set_cons_zero, List.set_cons_succ]
  refine wpAnyH_takeD 6 (some 20) (.pointer (some ⟨sb, 2, none⟩)) rfl rfl (by kernel_rfl) (by kernel_rfl) (by kernel_rfl) (fun _ _ _ h => h) (Or.inl ⟨by rfl, fun w hSw => by obtain ⟨q1, q2⟩ := hSw; go_simp⟩) hS ?_
  simp only [Act.put, List.setIfInBounds_toArray, List.set_cons_zero, List.set_cons_succ]
  refine wpAnyH_takeD 7 (some 21) (.int .i64 40) rfl rfl (by kernel_rfl) (by kernel_rfl) (by kernel_rfl) (fun _ _ _ h => h) (Or.inl ⟨by rfl, fun w hSw => by obtain ⟨q1, q2⟩ := hSw; go_simp⟩) hS ?_
  simp only [Act.put, List.setIfInBounds_toArray, List.set_cons_zero, List.set_cons_succ]
  refine wpAnyH_takeD 8 (some 22) (.int .i64 (i : Int)) rfl rfl (by kernel_rfl) (by kernel_rfl) (by kernel_rfl) (fun _ _ _ h => h) (Or.inl ⟨by rfl, fun w hSw => by obtain ⟨q1, q2⟩ := hSw; go_simp⟩) hS ?_
  simp only [Act.put, List.setIfInBounds_toArray, List.set_cons_zero, List.set_cons_succ]
  refine wpAnyH_takeD 9 (some 23) (.int .i64 (ak : Int)) rfl rfl (by kernel_rfl) (by kernel_rfl) (by kernel_rfl) (fun _ _ _ h => h) (Or.inl ⟨by rfl, fun w hSw => by obtain ⟨q1, q2⟩ := hSw; go_simp⟩) hS ?_
  simp only [Act.put, List.setIfInBounds_toArray, List.set_cons_zero, List.set_cons_succ]
  refine wpAnyH_takeD 10 (some 24) (.string tx) rfl rfl (by kernel_rfl) (by kernel_rfl) (by kernel_rfl) (fun _ _ _ h => h) (Or.inl ⟨by rfl, fun w hSw => by obtain ⟨q1, q2⟩ := hSw; go_simp⟩) hS ?_
  simp only [Act.put, List.setIfInBounds_toArray, List.set_cons_zero, List.set_cons_succ]
  refine wpAnyH_ready (rs := [11]) (by kernel_rfl) (by simp) ?_
  refine AllReadyH.cons rfl (fun K hK => ?_) AllReadyH.nil
  simp only [List.getElem_toArray, List.getElem_cons_succ, List.getElem_cons_zero]
  go_simp
  refine (unhide HW).mono ?_
  rintro e x3 ⟨rfl, hC⟩
  have HF := hide (hC.less (Y := X) (unhide X2) (fun _ q => .inl q) (unhide X1).2.2.1 (unhide X1).2.2.2)
  obtain ⟨S3, M3, k1, -⟩ := hC
  obtain ⟨d0, d1, d2⟩ := k1.c
  clear k1 HW X2
  refine hK.out _ _ ⟨d0, d2⟩ (fun hS => ?_)
  clear hK K
  refine wpAnyH_takeD 12 (some 6) (.int .i64 0) rfl rfl (by kernel_rfl) (by kernel_rfl) (by kernel_rfl) (fun _ _ _ h => h) (Or.inl ⟨by rfl, fun w hSw => by obtain ⟨q1, q2⟩ := hSw; go_simp⟩) hS ?_
  simp only [Act.put, List.setIfInBounds_toArray, List.set_cons_zero, List.set_cons_succ]
  refine wpAnyH_done (by kernel_rfl) ?_ _
  clear hS c0 c1 c2 d0 d1 d2
  go_wp2
  go_ret
  exact ⟨rfl, unhide HF⟩
set_option maxRecDepth 100000 in
set_option maxHeartbeats 2000000 in
theorem sLay {w0 w : World} {b jb pb mb sb : Nat} {X : Nat → Prop} {n : Nat} {S : PS} {L : List ByteArray} {A : List (Nat × Nat)} {hn : Nat} {Mw Mn : List ByteArray} {T : Nat → Bool} (h : MG w0 w b jb pb mb sb X n S L A hn Mw Mn T) (ho : S.op = true) (p : Nat) (hl : Lea T n p) (kind num : Int) (bd : ByteArray) (hE : errM kind num bd.size = 0) (hr : S.tx.length < 15) : Calls Tryz.prog 91 #[.pointer (some ⟨sb, 0, none⟩), .agg #[.int .i64 kind, .int .i64 num, .string bd]] w fun e w' => e = .returned (.tuple #[.int .i64 (p : Int), .int .i64 0]) ∧ MChg w0 w b jb pb mb sb X n S L A hn Mw 2 (flp T p) (ups (Sec Mn) (40 + p) (makeB kind num bd)) w' := by
  obtain ⟨g, hg⟩ : ∃ q, w.heap.size = q := ⟨_, rfl⟩
  obtain ⟨x1, hx1⟩ : ∃ q, w.alloc (.cells #[.int .i64 kind, .int .i64 num, .string bd] 111) = q := ⟨_, rfl⟩
  have G1 := h.add _ hx1 hg
  have B1 : Blk x1 g #[.int .i64 kind, .int .i64 num, .string bd] 111 := by rw [← hx1, ← hg]; exact Blk.new w _ _
  have hO1 : Only (fun x => ¬ X x) w x1 := by rw [← hx1]; exact (Only.refl _ w).alloc _
  obtain ⟨n1, n2, n3, n4⟩ := h.new hg
  have HMK := hide (fun W => make_any rep_ok kind num bd W)
  rw [hE] at HMK
  have hts : (makeB kind num bd).size = 256 := (prOk_size _ (make_parse kind num bd hE).1).1
  have hp : p < 88 := by have := hl.1; have := h.n88; omega
  have HAL := hide (fun W (G : MG w0 W b jb pb mb sb (fun x => X x ∨ x = g) n S L A hn Mw Mn T) => G.alloc ho p hl (by omega))
  have HWR := hide (fun W S' Mn' (G : MG w0 W b jb pb mb sb (fun x => X x ∨ x = g) n S' L A hn Mw Mn' (flp T p)) ho' hr' => G.write ho' p hp (makeB kind num bd) hts hr')
  have HR := hide hr
  generalize makeB kind num bd = tx at *
  have a0 : x1.cell? ⟨g, 0, none⟩ = some (.int .i64 kind) := B1.cell 0
  have a1 : x1.cell? ⟨g, 1, none⟩ = some (.int .i64 num) := B1.cell 1
  have a2 : x1.cell? ⟨g, 2, none⟩ = some (.string bd) := B1.cell 2
  have X1 := hide (And.intro G1 (And.intro hO1 (And.intro h.bg.xm h.xs)))
  have e1 : (40 : Int) + (p : Int) = ((40 + p : Nat) : Int) := by omega
  have hq : 40 + p ≤ 1000 := by omega
  have hwq : IntKind.i64.wrap ((40 + p : Nat) : Int) = ((40 + p : Nat) : Int) := wrapI_eq _ (by omega) (by omega)
  generalize 40 + p = ak at *
  clear G1 B1 hO1 n1 n2 n3 n4 h hE hts ho hr hl
  go_enter Tryz.func91, Tryz.ntmps91
  go_wp2_with fail
  refine (unhide HMK _).mono ?_
  rintro e x2 ⟨rfl, hb2⟩
  have G2 := (unhide X1).1.below hb2
  obtain ⟨c0, c1, c2⟩ := G2.c
  have HA := hide (unhide HAL x2 G2)
  have X2 := hide ((unhide X1).2.1.trans (Only.of_below (P := fun x => ¬ X x) hb2) (fun _ _ q => q))
  clear G2 hb2 HMK HAL a0 a1 a2
  go_wp2_with fail
  refine (unhide HA).mono ?_
  rintro e x3 ⟨rfl, hC3⟩
  have HC3 := hide hC3
  obtain ⟨S3, M3, k1, k2, k3, k4, k5, k6⟩ := hC3
  obtain ⟨d0, d1, d2⟩ := k1.c
  have G3d := k1.below ((Below.refl _ x3).drew)
  have HW := hide (unhide HWR x3.drew S3 M3 G3d k2 (by have := unhide HR; omega))
  have X3 := hide (And.intro k3 (And.intro k4 (And.intro k5 (k6.trans (Only.of_below (P := fun x => ¬ (fun x => X x ∨ x = g) x) ((Below.refl _ x3).drew)) (fun _ _ q => q)))))
  clear k1 k2 k3 k4 k5 k6 G3d HA HWR c0 c1 c2
  go_wp2
  refine wp_region_held_drew (S := fun w' => w'.cell? ⟨sb, 0, none⟩ = some (.pointer (some ⟨pb, 0, none⟩)) ∧ w'.cell? ⟨sb, 2, none⟩ = some (.int .i64 40)) (by kernel_rfl) ⟨d0, d2⟩ ?_
  intro hS
  refine wpAnyH_takeD 0 (some 28) (.pointer (some ⟨sb, 0, none⟩)) rfl rfl (by kernel_rfl) (by kernel_rfl) (by kernel_rfl) (fun _ _ _ h => h) (Or.inl ⟨by rfl, fun w hSw => by obtain ⟨q1, q2⟩ := hSw; go_simp⟩) hS ?_
  simp only [Act.put, List.setIfInBounds_toArray, List.set_cons_zero, List.set_cons_succ]
  refine wpAnyH_takeD 1 (some 29) (.pointer (some ⟨sb, 0, none⟩)) rfl rfl (by kernel_rfl) (by kernel_rfl) (by kernel_rfl) (fun _ _ _ h => h) (Or.inl ⟨by rfl, fun w hSw => by obtain ⟨q1, q2⟩ := hSw; go_simp⟩) hS ?_
  simp only [Act.put, List.setIfInBounds_toArray, List.set_cons_zero, List.set_cons_succ]
  refine wpAnyH_takeD 2 (some 30) (.pointer (some ⟨sb, 0, none⟩)) rfl rfl (by kernel_rfl) (by kernel_rfl) (by kernel_rfl) (fun _ _ _ h => h) (Or.inl ⟨by rfl, fun w hSw => by obtain ⟨q1, q2⟩ := hSw; go_simp⟩) hS ?_
  simp only [Act.put, List.setIfInBounds_toArray, List.set_cons_zero, List.set_cons_succ]
  refine wpAnyH_takeD 3 (some 31) (.pointer (some ⟨pb, 0, none⟩)) rfl rfl (by kernel_rfl) (by kernel_rfl) (by kernel_rfl) (fun _ _ _ h => h) (Or.inl ⟨by rfl, fun w hSw => by obtain ⟨q1, q2⟩ := hSw; go_simp⟩) hS ?_
  simp only [Act.put, List.setIfInBounds_toArray, List.set_cons_zero, List.set_cons_succ]
  refine wpAnyH_takeD 4 (some 32) (.pointer (some ⟨sb, 0, none⟩)) rfl rfl (by kernel_rfl) (by kernel_rfl) (by kernel_rfl) (fun _ _ _ h => h) (Or.inl ⟨by rfl, fun w hSw => by obtain ⟨q1, q2⟩ := hSw; go_simp⟩) hS ?_
  simp only [Act.put, List.setIfInBounds_toArray, List.set_cons_zero, List.set_cons_succ]
  refine wpAnyH_takeD 5 (some 33) (.pointer (some ⟨sb, 0, none⟩)) rfl rfl (by kernel_rfl) (by kernel_rfl) (by kernel_rfl) (fun _ _ _ h => h) (Or.inl ⟨by rfl, fun w hSw => by obtain ⟨q1, q2⟩ := hSw; go_simp⟩) hS ?_
  simp only [Act.put, List.setIfInBounds_toArray, List.set_cons_zero, List.set_cons_succ]
  refine wpAnyH_takeD 6 (some 34) (.pointer (some ⟨sb, 2, none⟩)) rfl rfl (by kernel_rfl) (by kernel_rfl) (by kernel_rfl) (fun _ _ _ h => h) (Or.inl ⟨by rfl, fun w hSw => by obtain ⟨q1, q2⟩ := hSw; go_simp⟩) hS ?_
  simp only [Act.put, List.setIfInBounds_toArray, List.set_cons_zero, List.set_cons_succ]
  refine wpAnyH_takeD 7 (some 35) (.int .i64 40) rfl rfl (by kernel_rfl) (by kernel_rfl) (by kernel_rfl) (fun _ _ _ h => h) (Or.inl ⟨by rfl, fun w hSw => by obtain ⟨q1, q2⟩ := hSw; go_simp⟩) hS ?_
  simp only [Act.put, List.setIfInBounds_toArray, List.set_cons_zero, List.set_cons_succ]
  refine wpAnyH_takeD 8 (some 36) (.int .i64 (p : Int)) rfl rfl (by kernel_rfl) (by kernel_rfl) (by kernel_rfl) (fun _ _ _ h => h) (Or.inl ⟨by rfl, fun w hSw => by obtain ⟨q1, q2⟩ := hSw; go_simp⟩) hS ?_
  simp only [Act.put, List.setIfInBounds_toArray, List.set_cons_zero, List.set_cons_succ]
  refine wpAnyH_takeD 9 (some 37) (.int .i64 (ak : Int)) rfl rfl (by kernel_rfl) (by kernel_rfl) (by kernel_rfl) (fun _ _ _ h => h) (Or.inl ⟨by rfl, fun w hSw => by obtain ⟨q1, q2⟩ := hSw; go_simp⟩) hS ?_
  simp only [Act.put, List.setIfInBounds_toArray, List.set_cons_zero, List.set_cons_succ]
  refine wpAnyH_takeD 10 (some 38) (.string tx) rfl rfl (by kernel_rfl) (by kernel_rfl) (by kernel_rfl) (fun _ _ _ h => h) (Or.inl ⟨by rfl, fun w hSw => by obtain ⟨q1, q2⟩ := hSw; go_simp⟩) hS ?_
  simp only [Act.put, List.setIfInBounds_toArray, List.set_cons_zero, List.set_cons_succ]
  refine wpAnyH_ready (rs := [11]) (by kernel_rfl) (by simp) ?_
  refine AllReadyH.cons rfl (fun K hK => ?_) AllReadyH.nil
  simp only [List.getElem_toArray, List.getElem_cons_succ, List.getElem_cons_zero]
  go_simp
  refine (unhide HW).mono ?_
  rintro e x4 ⟨rfl, S4, M4, j1, j2, j3, j4, j5, j6⟩
  obtain ⟨k3, k4, k5, k6⟩ := unhide X3
  have HF := hide (show MChg w0 w b jb pb mb sb X n S L A hn Mw 2 (flp T p) (ups (Sec Mn) ak tx) x4 from ⟨S4, M4, j1.less (fun _ q => .inl q) (unhide X1).2.2.1 (unhide X1).2.2.2, j2, j3.trans k3, by omega, j5.trans (k5.ups ak tx), (unhide X2).trans (k6.trans j6 (fun _ _ q => q)) (fun _ _ q r => q (.inl r))⟩)
  obtain ⟨d0, d1, d2⟩ := j1.c
  clear k3 k4 k5 k6 j1 j2 j3 j4 j5 j6 HW X2 X3 HC3
  refine hK.out _ _ ⟨d0, d2⟩ (fun hS => ?_)
  clear hK K
  refine wpAnyH_takeD 12 (some 7) (.int .i64 0) rfl rfl (by kernel_rfl) (by kernel_rfl) (by kernel_rfl) (fun _ _ _ h => h) (Or.inl ⟨by rfl, fun w hSw => by obtain ⟨q1, q2⟩ := hSw; go_simp⟩) hS ?_
  simp only [Act.put, List.setIfInBounds_toArray, List.set_cons_zero, List.set_cons_succ]
  refine wpAnyH_done (by kernel_rfl) ?_ _
  clear hS
  go_wp2
  go_ret2
  exact ⟨rfl, unhide HF⟩
set_option maxRecDepth 100000 in
set_option maxHeartbeats 2000000 in
theorem sFree {w0 w : World} {b jb pb mb sb : Nat} {X : Nat → Prop} {n : Nat} {S : PS} {L : List ByteArray} {A : List (Nat × Nat)} {hn : Nat} {Mw Mn : List ByteArray} {T : Nat → Bool} (h : MG w0 w b jb pb mb sb X n S L A hn Mw Mn T) (ho : S.op = true) (i : Nat) (hi : i < n) (hT : T i = true) (hr : S.tx.length < 16) : Calls Tryz.prog 60 #[.pointer (some ⟨sb, 0, none⟩), .int .i64 (i : Int)] w fun e w' => e = .returned (.int .i64 0) ∧ MChg w0 w b jb pb mb sb X n S L A hn Mw 1 (flp T i) (Sec Mn) w' := by
  have HFR := hide (h.free ho i hi hT hr)
  obtain ⟨c0, c1, c2⟩ := h.c
  clear h ho hT hr
  go_enter Tryz.func60, Tryz.ntmps60
  go_wp2_with fail
  refine (unhide HFR).mono ?_
  rintro e x2 ⟨rfl, hC⟩
  have HC := hide hC
  clear hC HFR c0 c1 c2
  go_wp2_with fail
  refine (answerOf_ok _).mono ?_
  rintro e x3 ⟨rfl, hw⟩
  subst x3
  go_wp2
  go_ret
  exact ⟨rfl, unhide HC⟩
end Go.Proofs.YtjlgbafcpoakmaaGreatDoor
