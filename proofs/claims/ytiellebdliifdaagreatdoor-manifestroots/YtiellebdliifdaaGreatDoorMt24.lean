import Derived.Test.YtiellebdliifdaaGreatDoorMt23
namespace Go.Proofs.YtiellebdliifdaaGreatDoor
open Go.RowKit Go.Maps Go.Sort Go.Shelf
def PgK (t : ByteArray) (kind : Int) (z : Nat) : Prop := prOk t ∧ pkd t = kind ∧ (pbd t).size = z
set_option maxRecDepth 100000 in
set_option maxHeartbeats 2000000 in
theorem sReadPage_ok {w0 w : World} {b jb pb mb sb : Nat} {X : Nat → Prop} {n : Nat} {S : PS} {L : List ByteArray} {A : List (Nat × Nat)} {hn : Nat} {Mw Mn : List ByteArray} {T : Nat → Bool} (h : MG w0 w b jb pb mb sb X n S L A hn Mw Mn T) (i : Nat) (hi : i < 88) (kind : Int) (z : Nat) (t : ByteArray) (ht : Mn.getD (40 + i) ByteArray.empty = t) (hp : PgK t kind z) : Calls Tryz.prog 94 #[.pointer (some ⟨sb, 0, none⟩), .int .i64 (i : Int), .int .i64 kind, .int .i64 (z : Int)] w fun e w' => e = .returned (.tuple #[.agg #[.int .i64 kind, .int .i64 (pnm t), .string (pbd t)], .int .i64 0]) ∧ MKept w0 w b jb pb mb sb X n S L A hn Mw Mn T w' := by
 obtain ⟨g, hg⟩ : ∃ q, w.heap.size = q := ⟨_, rfl⟩
 obtain ⟨x1, hx1⟩ : ∃ q, w.alloc (.cells #[.int .i64 0, .int .i64 0, .string ⟨#[]⟩] 95) = q := ⟨_, rfl⟩
 have G1 := h.add _ hx1 hg
 have B1 : Blk x1 g #[.int .i64 0, .int .i64 0, .string ⟨#[]⟩] 95 := by rw [← hx1, ← hg]; exact Blk.new w _ _
 have hO1 : Only (fun x => ¬ X x) w x1 := by rw [← hx1]; exact (Only.refl _ w).alloc _
 obtain ⟨n1, n2, n3, n4⟩ := h.new hg
 have G1d := G1.below ((Below.refl _ x1).drew)
 obtain ⟨r1, r2, r3, r4, r5⟩ := G1.bg.seen.read (40 + i) (by omega) (by omega)
 have HRD := hide (pread_any G1d.bg.pk ((40 + i : Nat) : Int) (readT_rest G1.bg.seen.rst (40 + i) (by rw [G1.bg.seen.len]; omega) G1.bg.seen.siz))
 rw [r1, r2, ht] at HRD
 have hts : t.size = 256 := by
  exact (prOk_size _ hp.1).1
 have HNX := hide (show ∀ W, PK w0 W b jb pb (readP S ((40 + i : Nat) : Int)).2.2 (fun x => X x ∨ x = g) → Only (fun x => ¬ (fun x => X x ∨ x = g) x) x1.drew W → MG w0 W b jb pb mb sb (fun x => X x ∨ x = g) n (readP S ((40 + i : Nat) : Int)).2.2 L A hn Mw Mn T ∧ Tk (readP S ((40 + i : Nat) : Int)).2.2 S from fun W K O => ⟨G1d.of (G1d.bg.next K O r3 G1d.bg.ms) O, r5, (read_rest G1.bg.seen.rst (40 + i) (by rw [G1.bg.seen.len]; omega)).2.2.2.2⟩)
 have HR4 := hide r4
 obtain ⟨c0, c1, c2⟩ := G1.c
 have X1 := hide (And.intro B1 (And.intro hO1 (And.intro n1 (And.intro n2 (And.intro n3 (And.intro n4 (And.intro h.bg.xm h.xs)))))))
 have HP := hide hp
 have HTS := hide hts
 have e1 : (40 : Int) + (i : Int) = ((40 + i : Nat) : Int) := by omega
 have hq : 40 + i ≤ 1000 := by omega
 have hwq : IntKind.i64.wrap ((40 + i : Nat) : Int) = ((40 + i : Nat) : Int) := wrapI_eq _ (by omega) (by omega)
 generalize (readP S ((40 + i : Nat) : Int)).2.2 = S2 at *
 generalize 40 + i = ak at *
 clear G1 B1 hO1 n1 n2 n3 n4 G1d r1 r2 r3 r4 r5 h hp hts
 go_enter Tryz.func94, Tryz.ntmps94
 go_wp2
 refine wp_region_held_drew (S := fun w' => w'.cell? ⟨sb, 0, none⟩ = some (.pointer (some ⟨pb, 0, none⟩)) ∧ w'.cell? ⟨sb, 2, none⟩ = some (.int .i64 40)) (by kernel_rfl) ⟨c0, c2⟩ ?_
 intro hS
 refine wpAnyH_takeD 0 (some 14) (.pointer (some ⟨sb, 0, none⟩)) rfl rfl (by kernel_rfl) (by kernel_rfl) (by kernel_rfl) (fun _ _ _ h => h) (Or.inl ⟨by rfl, fun w hSw => by obtain ⟨q1, q2⟩ := hSw; go_simp⟩) hS ?_
 simp only [Act.put, List.setIfInBounds_toArray, List.set_cons_zero, List.set_cons_succ]
 refine wpAnyH_takeD 1 (some 15) (.pointer (some ⟨sb, 0, none⟩)) rfl rfl (by kernel_rfl) (by kernel_rfl) (by kernel_rfl) (fun _ _ _ h => h) (Or.inl ⟨by rfl, fun w hSw => by obtain ⟨q1, q2⟩ := hSw; go_simp⟩) hS ?_
 simp only [Act.put, List.setIfInBounds_toArray, List.set_cons_zero, List.set_cons_succ]
 refine wpAnyH_takeD 2 (some 16) (.pointer (some ⟨sb, 0, none⟩)) rfl rfl (by kernel_rfl) (by kernel_rfl) (by kernel_rfl) (fun _ _ _ h => h) (Or.inl ⟨by rfl, fun w hSw => by obtain ⟨q1, q2⟩ := hSw; go_simp⟩) hS ?_
 simp only [Act.put, List.setIfInBounds_toArray, List.set_cons_zero, List.set_cons_succ]
 refine wpAnyH_takeD 3 (some 17) (.pointer (some ⟨pb, 0, none⟩)) rfl rfl (by kernel_rfl) (by kernel_rfl) (by kernel_rfl) (fun _ _ _ h => h) (Or.inl ⟨by rfl, fun w hSw => by obtain ⟨q1, q2⟩ := hSw; go_simp⟩) hS ?_
 simp only [Act.put, List.setIfInBounds_toArray, List.set_cons_zero, List.set_cons_succ]
 refine wpAnyH_takeD 4 (some 18) (.pointer (some ⟨sb, 0, none⟩)) rfl rfl (by kernel_rfl) (by kernel_rfl) (by kernel_rfl) (fun _ _ _ h => h) (Or.inl ⟨by rfl, fun w hSw => by obtain ⟨q1, q2⟩ := hSw; go_simp⟩) hS ?_
 simp only [Act.put, List.setIfInBounds_toArray, List.set_cons_zero, List.set_cons_succ]
 refine wpAnyH_takeD 5 (some 19) (.pointer (some ⟨sb, 0, none⟩)) rfl rfl (by kernel_rfl) (by kernel_rfl) (by kernel_rfl) (fun _ _ _ h => h) (Or.inl ⟨by rfl, fun w hSw => by obtain ⟨q1, q2⟩ := hSw; go_simp⟩) hS ?_
 simp only [Act.put, List.setIfInBounds_toArray, List.set_cons_zero, List.set_cons_succ]
 refine wpAnyH_takeD 6 (some 20) (.pointer (some ⟨sb, 2, none⟩)) rfl rfl (by kernel_rfl) (by kernel_rfl) (by kernel_rfl) (fun _ _ _ h => h) (Or.inl ⟨by rfl, fun w hSw => by obtain ⟨q1, q2⟩ := hSw; go_simp⟩) hS ?_
 simp only [Act.put, List.setIfInBounds_toArray, List.set_cons_zero, List.set_cons_succ]
 refine wpAnyH_takeD 7 (some 21) (.int .i64 40) rfl rfl (by kernel_rfl) (by kernel_rfl) (by kernel_rfl) (fun _ _ _ h => h) (Or.inl ⟨by rfl, fun w hSw => by obtain ⟨q1, q2⟩ := hSw; go_simp⟩) hS ?_
 simp only [Act.put, List.setIfInBounds_toArray, List.set_cons_zero, List.set_cons_succ]
 refine wpAnyH_takeD 8 (some 22) (.int .i64 (i : Int)) rfl rfl (by kernel_rfl) (by kernel_rfl) (by kernel_rfl) (fun _ _ _ h => h) (Or.inl ⟨by rfl, fun w hSw => by obtain ⟨q1, q2⟩ := hSw; go_simp⟩) hS ?_
 simp only [Act.put, List.setIfInBounds_toArray, List.set_cons_zero, List.set_cons_succ]
 refine wpAnyH_takeD 9 (some 23) (.int .i64 (ak : Int)) rfl rfl (by kernel_rfl) (by kernel_rfl) (by kernel_rfl) (fun _ _ _ h => h) (Or.inl ⟨by rfl, fun w hSw => by obtain ⟨q1, q2⟩ := hSw; go_simp⟩) hS ?_
 simp only [Act.put, List.setIfInBounds_toArray, List.set_cons_zero, List.set_cons_succ]
 refine wpAnyH_ready (rs := [10]) (by kernel_rfl) (by simp) ?_
 refine AllReadyH.cons rfl (fun K hK => ?_) AllReadyH.nil
 simp only [List.getElem_toArray, List.getElem_cons_succ, List.getElem_cons_zero]
 go_simp
 refine (unhide HRD).mono ?_
 rintro e x2 ⟨rfl, K2, hO2⟩
 obtain ⟨G2, k2⟩ := unhide HNX x2 K2 hO2
 obtain ⟨d0, d1, d2⟩ := G2.c
 have B2 : Blk x2 g #[.int .i64 0, .int .i64 0, .string ⟨#[]⟩] 95 := Blk.only (show Blk x1.drew g #[.int .i64 0, .int .i64 0, .string ⟨#[]⟩] 95 from (unhide X1).1) hO2 (fun q => q (.inr rfl))
 have hO12 : Only (fun x => ¬ X x) w x2 := (unhide X1).2.1.trans ((Only.of_below (P := fun x => ¬ X x) ((Below.refl _ x1).drew)).trans hO2 (fun _ _ q r => q (.inl r))) (fun _ _ q => q)
 have X2 := hide (And.intro G2 (And.intro k2 (And.intro B2 hO12)))
 clear K2 hO2 G2 k2 B2 hO12 HRD HNX
 refine hK.out _ _ ⟨d0, d2⟩ (fun hS => ?_)
 clear hK K
 refine wpAnyH_takeD 11 (some 13) (.tuple #[.string t, .int .i64 0]) rfl rfl (by kernel_rfl) (by kernel_rfl) (by kernel_rfl) (fun _ _ _ h => h) (Or.inl ⟨by rfl, fun w hSw => by obtain ⟨q1, q2⟩ := hSw; go_simp⟩) hS ?_
 simp only [Act.put, List.setIfInBounds_toArray, List.set_cons_zero, List.set_cons_succ]
 refine wpAnyH_takeD 12 (some 25) (.string t) rfl rfl (by kernel_rfl) (by kernel_rfl) (by kernel_rfl) (fun _ _ _ h => h) (Or.inl ⟨by rfl, fun w hSw => by obtain ⟨q1, q2⟩ := hSw; go_simp⟩) hS ?_
 simp only [Act.put, List.setIfInBounds_toArray, List.set_cons_zero, List.set_cons_succ]
 refine wpAnyH_takeD 13 (some 26) (.int .i64 0) rfl rfl (by kernel_rfl) (by kernel_rfl) (by kernel_rfl) (fun _ _ _ h => h) (Or.inl ⟨by rfl, fun w hSw => by obtain ⟨q1, q2⟩ := hSw; go_simp⟩) hS ?_
 simp only [Act.put, List.setIfInBounds_toArray, List.set_cons_zero, List.set_cons_succ]
 refine wpAnyH_takeD 14 (some 10) (.string t) rfl rfl (by kernel_rfl) (by kernel_rfl) (by kernel_rfl) (fun _ _ _ h => h) (Or.inl ⟨by rfl, fun w hSw => by obtain ⟨q1, q2⟩ := hSw; go_simp⟩) hS ?_
 simp only [Act.put, List.setIfInBounds_toArray, List.set_cons_zero, List.set_cons_succ]
 refine wpAnyH_takeD 15 (some 11) (.int .i64 0) rfl rfl (by kernel_rfl) (by kernel_rfl) (by kernel_rfl) (fun _ _ _ h => h) (Or.inl ⟨by rfl, fun w hSw => by obtain ⟨q1, q2⟩ := hSw; go_simp⟩) hS ?_
 simp only [Act.put, List.setIfInBounds_toArray, List.set_cons_zero, List.set_cons_succ]
 refine wpAnyH_done (by kernel_rfl) ?_ _
 clear hS c0 c1 c2 d0 d1 d2
 have HPS := hide (parse_any rep_ok t (by rw [unhide HTS]; decide) x2 (unhide X2).1.ety)
 obtain ⟨kd, hkd⟩ : ∃ q, pkd t = q := ⟨_, rfl⟩
 obtain ⟨nm, hnm⟩ : ∃ q, pnm t = q := ⟨_, rfl⟩
 obtain ⟨bd, hbd⟩ : ∃ q, pbd t = q := ⟨_, rfl⟩
 obtain ⟨p1, p2, p3⟩ := unhide HP
 rw [hbd] at p3
 rw [hkd] at p2
 subst p2
 have HPO := hide p1
 have HNB := hide (And.intro hnm hbd)
 have hz : ((bd.size : Int) != (z : Int)) = false := by rw [p3]; simp
 have HKD := hide hkd
 clear p1 p3 hkd hnm hbd
 go_wp2_with fail
 refine (unhide HPS).mono ?_
 rintro e x3 ⟨hpp, hb3⟩
 rcases hpp with ⟨-, rfl⟩ | ⟨hno, -⟩
 ·rw [unhide HKD, (unhide HNB).1, (unhide HNB).2]
  obtain ⟨G2, k2, B2, hO2⟩ := unhide X2
  obtain ⟨g4, hg4⟩ : ∃ q, x3.heap.size = q := ⟨_, rfl⟩
  obtain ⟨x4, hx4⟩ : ∃ q, x3.alloc (.cells #[.int .i64 kd, .int .i64 nm, .string bd] 95) = q := ⟨_, rfl⟩
  have hb4 : Below x3.heap.size x3 x4 := by rw [← hx4]; exact (Below.refl _ x3).alloc (Nat.le_refl _) _
  have B4 : Blk x4 g4 #[.int .i64 kd, .int .i64 nm, .string bd] 95 := by rw [← hx4, ← hg4]; exact Blk.new x3 _ _
  have B3 := B2.below hb3 B2.lt
  have Bg : Blk x4 g #[.int .i64 0, .int .i64 0, .string ⟨#[]⟩] 95 := B3.below hb4 B3.lt
  have hne : g ≠ g4 := by rw [← hg4]; exact Nat.ne_of_lt B3.lt
  have G4 := (G2.below hb3).below hb4
  have hO4 : Only (fun x => ¬ X x) w x4 := (hO2.trans (Only.of_below (P := fun x => ¬ X x) hb3) (fun _ _ q => q)).trans (Only.of_below (P := fun x => ¬ X x) hb4) (fun _ _ q => q)
  have a0 : x4.cell? ⟨g4, 0, none⟩ = some (.int .i64 kd) := B4.cell 0
  have a1 : x4.cell? ⟨g4, 1, none⟩ = some (.int .i64 nm) := B4.cell 1
  have a2 : x4.cell? ⟨g4, 2, none⟩ = some (.string bd) := B4.cell 2
  have q0 : x4.cell? ⟨g, 0, none⟩ = some (.int .i64 0) := Bg.cell 0
  have q1 : x4.cell? ⟨g, 1, none⟩ = some (.int .i64 0) := Bg.cell 1
  have q2 : x4.cell? ⟨g, 2, none⟩ = some (.string ⟨#[]⟩) := Bg.cell 2
  have p0 := Bg.frozen 0
  have p1 := Bg.frozen 1
  have p2 := Bg.frozen 2
  have B6 := ((Bg.set 0 (.int .i64 kd)).set 1 (.int .i64 nm)).set 2 (.string bd)
  have O6 := (((Only.refl (fun x => x = g) x4).setCell ⟨g, 0, none⟩ (.int .i64 kd) (fun _ => rfl)).setCell ⟨g, 1, none⟩ (.int .i64 nm) (fun _ => rfl)).setCell ⟨g, 2, none⟩ (.string bd) (fun _ => rfl)
  have HLD := hide (load_page _ g kd nm bd B6)
  obtain ⟨-, -, n1, n2, n3, n4, hm, hs⟩ := unhide X1
  have HF := hide (show MKept w0 w b jb pb mb sb X n S L A hn Mw Mn T (((x4.setCell ⟨g, 0, none⟩ (.int .i64 kd)).setCell ⟨g, 1, none⟩ (.int .i64 nm)).setCell ⟨g, 2, none⟩ (.string bd)) from ⟨S2, (G4.poke (.inr rfl) n2 n3 n4 O6).less (fun _ q => .inl q) hm hs, unhide HR4, k2, hO4.trans O6 (fun x _ q => by rw [q]; exact n1)⟩)
  clear G2 k2 B2 hO2 B4 B3 Bg G4 hO4 B6 O6 hb3 hb4 n1 n2 n3 n4 hm hs X1 X2 HPS
  go_wp2
  exact bodyPost_ret (v := .tuple #[.agg #[.int .i64 kd, .int .i64 nm, .string bd], .int .i64 0]) (results_cell2 (p := 8) (q := 9) (ty := 95) rfl _ _ _ ⟨g, 0, none⟩ rfl _ (unhide HLD)) rfl ⟨by rw [(unhide HNB).1, (unhide HNB).2], unhide HF⟩
 ·exact absurd (unhide HPO) hno
end Go.Proofs.YtiellebdliifdaaGreatDoor
namespace Go.Proofs.YtiellebdliifdaaGreatDoor
open Go.RowKit Go.Maps Go.Sort Go.Shelf
set_option maxRecDepth 100000 in
set_option maxHeartbeats 2000000 in
theorem sReadPage_bad {w0 w : World} {b jb pb mb sb : Nat} {X : Nat → Prop} {n : Nat} {S : PS} {L : List ByteArray} {A : List (Nat × Nat)} {hn : Nat} {Mw Mn : List ByteArray} {T : Nat → Bool} (h : MG w0 w b jb pb mb sb X n S L A hn Mw Mn T) (i : Nat) (hi : i < 88) (kind : Int) (z : Nat) (t : ByteArray) (ht : Mn.getD (40 + i) ByteArray.empty = t) (hts : t.size ≤ 9223372036854775807) (hp : ¬ PgK t kind z) : Calls Tryz.prog 94 #[.pointer (some ⟨sb, 0, none⟩), .int .i64 (i : Int), .int .i64 kind, .int .i64 (z : Int)] w fun e w' => e = .returned (.tuple #[.agg #[.int .i64 0, .int .i64 0, .string ⟨#[]⟩], .int .i64 102]) ∧ MKept w0 w b jb pb mb sb X n S L A hn Mw Mn T w' := by
 obtain ⟨g, hg⟩ : ∃ q, w.heap.size = q := ⟨_, rfl⟩
 obtain ⟨x1, hx1⟩ : ∃ q, w.alloc (.cells #[.int .i64 0, .int .i64 0, .string ⟨#[]⟩] 95) = q := ⟨_, rfl⟩
 have G1 := h.add _ hx1 hg
 have B1 : Blk x1 g #[.int .i64 0, .int .i64 0, .string ⟨#[]⟩] 95 := by rw [← hx1, ← hg]; exact Blk.new w _ _
 have hO1 : Only (fun x => ¬ X x) w x1 := by rw [← hx1]; exact (Only.refl _ w).alloc _
 obtain ⟨n1, n2, n3, n4⟩ := h.new hg
 have G1d := G1.below ((Below.refl _ x1).drew)
 obtain ⟨r1, r2, r3, r4, r5⟩ := G1.bg.seen.read (40 + i) (by omega) (by omega)
 have HRD := hide (pread_any G1d.bg.pk ((40 + i : Nat) : Int) (readT_rest G1.bg.seen.rst (40 + i) (by rw [G1.bg.seen.len]; omega) G1.bg.seen.siz))
 rw [r1, r2, ht] at HRD
 have HNX := hide (show ∀ W, PK w0 W b jb pb (readP S ((40 + i : Nat) : Int)).2.2 (fun x => X x ∨ x = g) → Only (fun x => ¬ (fun x => X x ∨ x = g) x) x1.drew W → MG w0 W b jb pb mb sb (fun x => X x ∨ x = g) n (readP S ((40 + i : Nat) : Int)).2.2 L A hn Mw Mn T ∧ Tk (readP S ((40 + i : Nat) : Int)).2.2 S from fun W K O => ⟨G1d.of (G1d.bg.next K O r3 G1d.bg.ms) O, r5, (read_rest G1.bg.seen.rst (40 + i) (by rw [G1.bg.seen.len]; omega)).2.2.2.2⟩)
 have HR4 := hide r4
 obtain ⟨c0, c1, c2⟩ := G1.c
 have X1 := hide (And.intro B1 (And.intro hO1 (And.intro n1 (And.intro n2 (And.intro n3 (And.intro n4 (And.intro h.bg.xm h.xs)))))))
 have HP := hide hp
 have HTS := hide hts
 have e1 : (40 : Int) + (i : Int) = ((40 + i : Nat) : Int) := by omega
 have hq : 40 + i ≤ 1000 := by omega
 have hwq : IntKind.i64.wrap ((40 + i : Nat) : Int) = ((40 + i : Nat) : Int) := wrapI_eq _ (by omega) (by omega)
 generalize (readP S ((40 + i : Nat) : Int)).2.2 = S2 at *
 generalize 40 + i = ak at *
 clear G1 B1 hO1 n1 n2 n3 n4 G1d r1 r2 r3 r4 r5 h hp hts
 go_enter Tryz.func94, Tryz.ntmps94
 go_wp2
 refine wp_region_held_drew (S := fun w' => w'.cell? ⟨sb, 0, none⟩ = some (.pointer (some ⟨pb, 0, none⟩)) ∧ w'.cell? ⟨sb, 2, none⟩ = some (.int .i64 40)) (by kernel_rfl) ⟨c0, c2⟩ ?_
 intro hS
 refine wpAnyH_takeD 0 (some 14) (.pointer (some ⟨sb, 0, none⟩)) rfl rfl (by kernel_rfl) (by kernel_rfl) (by kernel_rfl) (fun _ _ _ h => h) (Or.inl ⟨by rfl, fun w hSw => by obtain ⟨q1, q2⟩ := hSw; go_simp⟩) hS ?_
 simp only [Act.put, List.setIfInBounds_toArray, List.set_cons_zero, List.set_cons_succ]
 refine wpAnyH_takeD 1 (some 15) (.pointer (some ⟨sb, 0, none⟩)) rfl rfl (by kernel_rfl) (by kernel_rfl) (by kernel_rfl) (fun _ _ _ h => h) (Or.inl ⟨by rfl, fun w hSw => by obtain ⟨q1, q2⟩ := hSw; go_simp⟩) hS ?_
 simp only [Act.put, List.setIfInBounds_toArray, List.set_cons_zero, List.set_cons_succ]
 refine wpAnyH_takeD 2 (some 16) (.pointer (some ⟨sb, 0, none⟩)) rfl rfl (by kernel_rfl) (by kernel_rfl) (by kernel_rfl) (fun _ _ _ h => h) (Or.inl ⟨by rfl, fun w hSw => by obtain ⟨q1, q2⟩ := hSw; go_simp⟩) hS ?_
 simp only [Act.put, List.setIfInBounds_toArray, List.set_cons_zero, List.set_cons_succ]
 refine wpAnyH_takeD 3 (some 17) (.pointer (some ⟨pb, 0, none⟩)) rfl rfl (by kernel_rfl) (by kernel_rfl) (by kernel_rfl) (fun _ _ _ h => h) (Or.inl ⟨by rfl, fun w hSw => by obtain ⟨q1, q2⟩ := hSw; go_simp⟩) hS ?_
 simp only [Act.put, List.setIfInBounds_toArray, List.set_cons_zero, List.set_cons_succ]
 refine wpAnyH_takeD 4 (some 18) (.pointer (some ⟨sb, 0, none⟩)) rfl rfl (by kernel_rfl) (by kernel_rfl) (by kernel_rfl) (fun _ _ _ h => h) (Or.inl ⟨by rfl, fun w hSw => by obtain ⟨q1, q2⟩ := hSw; go_simp⟩) hS ?_
 simp only [Act.put, List.setIfInBounds_toArray, List.set_cons_zero, List.set_cons_succ]
 refine wpAnyH_takeD 5 (some 19) (.pointer (some ⟨sb, 0, none⟩)) rfl rfl (by kernel_rfl) (by kernel_rfl) (by kernel_rfl) (fun _ _ _ h => h) (Or.inl ⟨by rfl, fun w hSw => by obtain ⟨q1, q2⟩ := hSw; go_simp⟩) hS ?_
 simp only [Act.put, List.setIfInBounds_toArray, List.set_cons_zero, List.set_cons_succ]
 refine wpAnyH_takeD 6 (some 20) (.pointer (some ⟨sb, 2, none⟩)) rfl rfl (by kernel_rfl) (by kernel_rfl) (by kernel_rfl) (fun _ _ _ h => h) (Or.inl ⟨by rfl, fun w hSw => by obtain ⟨q1, q2⟩ := hSw; go_simp⟩) hS ?_
 simp only [Act.put, List.setIfInBounds_toArray, List.set_cons_zero, List.set_cons_succ]
 refine wpAnyH_takeD 7 (some 21) (.int .i64 40) rfl rfl (by kernel_rfl) (by kernel_rfl) (by kernel_rfl) (fun _ _ _ h => h) (Or.inl ⟨by rfl, fun w hSw => by obtain ⟨q1, q2⟩ := hSw; go_simp⟩) hS ?_
 simp only [Act.put, List.setIfInBounds_toArray, List.set_cons_zero, List.set_cons_succ]
 refine wpAnyH_takeD 8 (some 22) (.int .i64 (i : Int)) rfl rfl (by kernel_rfl) (by kernel_rfl) (by kernel_rfl) (fun _ _ _ h => h) (Or.inl ⟨by rfl, fun w hSw => by obtain ⟨q1, q2⟩ := hSw; go_simp⟩) hS ?_
 simp only [Act.put, List.setIfInBounds_toArray, List.set_cons_zero, List.set_cons_succ]
 refine wpAnyH_takeD 9 (some 23) (.int .i64 (ak : Int)) rfl rfl (by kernel_rfl) (by kernel_rfl) (by kernel_rfl) (fun _ _ _ h => h) (Or.inl ⟨by rfl, fun w hSw => by obtain ⟨q1, q2⟩ := hSw; go_simp⟩) hS ?_
 simp only [Act.put, List.setIfInBounds_toArray, List.set_cons_zero, List.set_cons_succ]
 refine wpAnyH_ready (rs := [10]) (by kernel_rfl) (by simp) ?_
 refine AllReadyH.cons rfl (fun K hK => ?_) AllReadyH.nil
 simp only [List.getElem_toArray, List.getElem_cons_succ, List.getElem_cons_zero]
 go_simp
 refine (unhide HRD).mono ?_
 rintro e x2 ⟨rfl, K2, hO2⟩
 obtain ⟨G2, k2⟩ := unhide HNX x2 K2 hO2
 obtain ⟨d0, d1, d2⟩ := G2.c
 have B2 : Blk x2 g #[.int .i64 0, .int .i64 0, .string ⟨#[]⟩] 95 := Blk.only (show Blk x1.drew g #[.int .i64 0, .int .i64 0, .string ⟨#[]⟩] 95 from (unhide X1).1) hO2 (fun q => q (.inr rfl))
 have hO12 : Only (fun x => ¬ X x) w x2 := (unhide X1).2.1.trans ((Only.of_below (P := fun x => ¬ X x) ((Below.refl _ x1).drew)).trans hO2 (fun _ _ q r => q (.inl r))) (fun _ _ q => q)
 have X2 := hide (And.intro G2 (And.intro k2 (And.intro B2 hO12)))
 clear K2 hO2 G2 k2 B2 hO12 HRD HNX
 refine hK.out _ _ ⟨d0, d2⟩ (fun hS => ?_)
 clear hK K
 refine wpAnyH_takeD 11 (some 13) (.tuple #[.string t, .int .i64 0]) rfl rfl (by kernel_rfl) (by kernel_rfl) (by kernel_rfl) (fun _ _ _ h => h) (Or.inl ⟨by rfl, fun w hSw => by obtain ⟨q1, q2⟩ := hSw; go_simp⟩) hS ?_
 simp only [Act.put, List.setIfInBounds_toArray, List.set_cons_zero, List.set_cons_succ]
 refine wpAnyH_takeD 12 (some 25) (.string t) rfl rfl (by kernel_rfl) (by kernel_rfl) (by kernel_rfl) (fun _ _ _ h => h) (Or.inl ⟨by rfl, fun w hSw => by obtain ⟨q1, q2⟩ := hSw; go_simp⟩) hS ?_
 simp only [Act.put, List.setIfInBounds_toArray, List.set_cons_zero, List.set_cons_succ]
 refine wpAnyH_takeD 13 (some 26) (.int .i64 0) rfl rfl (by kernel_rfl) (by kernel_rfl) (by kernel_rfl) (fun _ _ _ h => h) (Or.inl ⟨by rfl, fun w hSw => by obtain ⟨q1, q2⟩ := hSw; go_simp⟩) hS ?_
 simp only [Act.put, List.setIfInBounds_toArray, List.set_cons_zero, List.set_cons_succ]
 refine wpAnyH_takeD 14 (some 10) (.string t) rfl rfl (by kernel_rfl) (by kernel_rfl) (by kernel_rfl) (fun _ _ _ h => h) (Or.inl ⟨by rfl, fun w hSw => by obtain ⟨q1, q2⟩ := hSw; go_simp⟩) hS ?_
 simp only [Act.put, List.setIfInBounds_toArray, List.set_cons_zero, List.set_cons_succ]
 refine wpAnyH_takeD 15 (some 11) (.int .i64 0) rfl rfl (by kernel_rfl) (by kernel_rfl) (by kernel_rfl) (fun _ _ _ h => h) (Or.inl ⟨by rfl, fun w hSw => by obtain ⟨q1, q2⟩ := hSw; go_simp⟩) hS ?_
 simp only [Act.put, List.setIfInBounds_toArray, List.set_cons_zero, List.set_cons_succ]
 refine wpAnyH_done (by kernel_rfl) ?_ _
 clear hS c0 c1 c2 d0 d1 d2
 have HPS := hide (parse_any rep_ok t (unhide HTS) x2 (unhide X2).1.ety)
 obtain ⟨kd, hkd⟩ : ∃ q, pkd t = q := ⟨_, rfl⟩
 obtain ⟨nm, hnm⟩ : ∃ q, pnm t = q := ⟨_, rfl⟩
 obtain ⟨bd, hbd⟩ : ∃ q, pbd t = q := ⟨_, rfl⟩
 have HNB := hide (And.intro hkd (And.intro hnm hbd))
 clear hkd hnm hbd
 go_wp2_with fail
 refine (unhide HPS).mono ?_
 rintro e x3 ⟨hpp, hb3⟩
 obtain ⟨G2, k2, B2, hO2⟩ := unhide X2
 have B3 := B2.below hb3 B2.lt
 have G3 := G2.below hb3
 have hO3 : Only (fun x => ¬ X x) w x3 := hO2.trans (Only.of_below (P := fun x => ¬ X x) hb3) (fun _ _ q => q)
 have HTAIL := hide (show ∀ (kd nm : Int) (bd : ByteArray) (x4 : World), x3.alloc (.cells #[.int .i64 kd, .int .i64 nm, .string bd] 95) = x4 → Blk x4 g #[.int .i64 0, .int .i64 0, .string ⟨#[]⟩] 95 ∧ Blk x4 x3.heap.size #[.int .i64 kd, .int .i64 nm, .string bd] 95 ∧ (loadVar 95 ⟨g, 0, none⟩).run Tryz.prog (((x4.setCell ⟨g, 0, none⟩ (.int .i64 0)).setCell ⟨g, 1, none⟩ (.int .i64 0)).setCell ⟨g, 2, none⟩ (.string ⟨#[]⟩)) = .ok (.agg #[.int .i64 0, .int .i64 0, .string ⟨#[]⟩]) (((x4.setCell ⟨g, 0, none⟩ (.int .i64 0)).setCell ⟨g, 1, none⟩ (.int .i64 0)).setCell ⟨g, 2, none⟩ (.string ⟨#[]⟩)) ∧ MKept w0 w b jb pb mb sb X n S L A hn Mw Mn T (((x4.setCell ⟨g, 0, none⟩ (.int .i64 0)).setCell ⟨g, 1, none⟩ (.int .i64 0)).setCell ⟨g, 2, none⟩ (.string ⟨#[]⟩)) from by
  intro kd nm bd x4 e4
  have hb4 : Below x3.heap.size x3 x4 := by rw [← e4]; exact (Below.refl _ x3).alloc (Nat.le_refl _) _
  have Bg := B3.below hb4 B3.lt
  have hO4 := hO3.trans (Only.of_below (P := fun x => ¬ X x) hb4) (fun _ _ q => q)
  have B6 := ((Bg.set 0 (.int .i64 0)).set 1 (.int .i64 0)).set 2 (.string ⟨#[]⟩)
  have O6 := (((Only.refl (fun x => x = g) x4).setCell ⟨g, 0, none⟩ (.int .i64 0) (fun _ => rfl)).setCell ⟨g, 1, none⟩ (.int .i64 0) (fun _ => rfl)).setCell ⟨g, 2, none⟩ (.string ⟨#[]⟩) (fun _ => rfl)
  obtain ⟨-, -, n1, n2, n3, n4, hm, hs⟩ := unhide X1
  exact ⟨Bg, by rw [← e4]; exact Blk.new x3 _ _, load_page _ g 0 0 ⟨#[]⟩ B6, S2, ((G3.below hb4).poke (.inr rfl) n2 n3 n4 O6).less (fun _ q => .inl q) hm hs, unhide HR4, k2, hO4.trans O6 (fun x _ q => by rw [q]; exact n1)⟩)
 have hgx : g ≠ x3.heap.size := Nat.ne_of_lt B3.lt
 have HGX := hide hgx
 clear hgx G2 k2 B2 hO2 B3 G3 hO3 hb3 X1 X2 HPS HR4
 rcases hpp with ⟨hpo, rfl⟩ | ⟨hno, rfl⟩
 ·rw [(unhide HNB).1, (unhide HNB).2.1, (unhide HNB).2.2]
  have hkz : ¬ (kd = kind ∧ bd.size = z) := fun q => unhide HP ⟨hpo, (unhide HNB).1.trans q.1, by rw [(unhide HNB).2.2]; exact q.2⟩
  clear hpo
  obtain ⟨g4, hg4⟩ : ∃ q, x3.heap.size = q := ⟨_, rfl⟩
  obtain ⟨x4, hx4⟩ : ∃ q, x3.alloc (.cells #[.int .i64 kd, .int .i64 nm, .string bd] 95) = q := ⟨_, rfl⟩
  obtain ⟨Bg, B4, hld, hmk⟩ := unhide HTAIL kd nm bd x4 hx4
  rw [hg4] at B4
  have hne : g ≠ g4 := by rw [← hg4]; exact unhide HGX
  have a0 : x4.cell? ⟨g4, 0, none⟩ = some (.int .i64 kd) := B4.cell 0
  have a1 : x4.cell? ⟨g4, 1, none⟩ = some (.int .i64 nm) := B4.cell 1
  have a2 : x4.cell? ⟨g4, 2, none⟩ = some (.string bd) := B4.cell 2
  have q0 : x4.cell? ⟨g, 0, none⟩ = some (.int .i64 0) := Bg.cell 0
  have q1 : x4.cell? ⟨g, 1, none⟩ = some (.int .i64 0) := Bg.cell 1
  have q2 : x4.cell? ⟨g, 2, none⟩ = some (.string ⟨#[]⟩) := Bg.cell 2
  have p0 := Bg.frozen 0
  have p1 := Bg.frozen 1
  have p2 := Bg.frozen 2
  have HLD := hide hld
  have HF := hide hmk
  clear B4 Bg hld hmk HTAIL HGX HNB HP HTS
  by_cases hk : kd = kind
  ·subst hk
   have hz : ((bd.size : Int) != (z : Int)) = true := by
    have : bd.size ≠ z := fun q => hkz ⟨rfl, q⟩
    simp
    omega
   clear hkz
   go_wp2
   exact bodyPost_ret (v := .tuple #[.agg #[.int .i64 0, .int .i64 0, .string ⟨#[]⟩], .int .i64 102]) (results_cell2 (p := 8) (q := 9) (ty := 95) rfl _ _ _ ⟨g, 0, none⟩ rfl _ (unhide HLD)) rfl ⟨rfl, unhide HF⟩
  ·have hz : ((kd : Int) != kind) = true := by simp [hk]
   clear hkz hk
   go_wp2
   exact bodyPost_ret (v := .tuple #[.agg #[.int .i64 0, .int .i64 0, .string ⟨#[]⟩], .int .i64 102]) (results_cell2 (p := 8) (q := 9) (ty := 95) rfl _ _ _ ⟨g, 0, none⟩ rfl _ (unhide HLD)) rfl ⟨rfl, unhide HF⟩
 ·obtain ⟨g4, hg4⟩ : ∃ q, x3.heap.size = q := ⟨_, rfl⟩
  obtain ⟨Bg, B4, hld, hmk⟩ := unhide HTAIL 0 0 ⟨#[]⟩ _ rfl
  rw [hg4] at B4
  have hne : g ≠ g4 := by rw [← hg4]; exact unhide HGX
  have a0 : (x3.alloc (.cells #[.int .i64 0, .int .i64 0, .string ⟨#[]⟩] 95)).cell? ⟨g4, 0, none⟩ = some (.int .i64 0) := B4.cell 0
  have a1 : (x3.alloc (.cells #[.int .i64 0, .int .i64 0, .string ⟨#[]⟩] 95)).cell? ⟨g4, 1, none⟩ = some (.int .i64 0) := B4.cell 1
  have a2 : (x3.alloc (.cells #[.int .i64 0, .int .i64 0, .string ⟨#[]⟩] 95)).cell? ⟨g4, 2, none⟩ = some (.string ⟨#[]⟩) := B4.cell 2
  have q0 : (x3.alloc (.cells #[.int .i64 0, .int .i64 0, .string ⟨#[]⟩] 95)).cell? ⟨g, 0, none⟩ = some (.int .i64 0) := Bg.cell 0
  have q1 : (x3.alloc (.cells #[.int .i64 0, .int .i64 0, .string ⟨#[]⟩] 95)).cell? ⟨g, 1, none⟩ = some (.int .i64 0) := Bg.cell 1
  have q2 : (x3.alloc (.cells #[.int .i64 0, .int .i64 0, .string ⟨#[]⟩] 95)).cell? ⟨g, 2, none⟩ = some (.string ⟨#[]⟩) := Bg.cell 2
  have p0 := Bg.frozen 0
  have p1 := Bg.frozen 1
  have p2 := Bg.frozen 2
  have HLD := hide hld
  have HF := hide hmk
  clear B4 Bg hld hmk HTAIL HGX HNB HP HTS hno
  go_wp2
  exact bodyPost_ret (v := .tuple #[.agg #[.int .i64 0, .int .i64 0, .string ⟨#[]⟩], .int .i64 102]) (results_cell2 (p := 8) (q := 9) (ty := 95) rfl _ _ _ ⟨g, 0, none⟩ rfl _ (unhide HLD)) rfl ⟨rfl, unhide HF⟩
end Go.Proofs.YtiellebdliifdaaGreatDoor
namespace Go.Proofs.YtiellebdliifdaaGreatDoor
open Go.RowKit Go.Maps Go.Sort Go.Shelf
set_option maxRecDepth 100000 in
set_option maxHeartbeats 2000000 in
theorem sFind_ok {w0 w : World} {b jb pb mb sb : Nat} {X : Nat → Prop} {n : Nat} {S : PS} {L : List ByteArray} {A : List (Nat × Nat)} {hn : Nat} {Mw Mn : List ByteArray} {T : Nat → Bool} (h : MG w0 w b jb pb mb sb X n S L A hn Mw Mn T) {m : Nat} {V : Nat → Vol} (hv : VS Mn n m T V) (k : Nat) (hk : k < m) : Calls Tryz.prog 39 #[.pointer (some ⟨sb, 0, none⟩), .int .i64 ((V k).r : Int)] w fun e w' => e = .returned (.tuple #[.agg (trC ((V k).r : Int) ((V k).num : Int) (V k).lf).toArray, .int .i64 0]) ∧ MKept w0 w b jb pb mb sb X n S L A hn Mw Mn T w' := by
 obtain ⟨g, hg⟩ : ∃ q, w.heap.size = q := ⟨_, rfl⟩
 obtain ⟨x1, hx1⟩ : ∃ q, w.alloc (.cells #[.int .i64 0, .int .i64 0, .int .i64 0, .int .i64 0, .int .i64 0, .int .i64 0, .int .i64 0, .int .i64 0, .int .i64 0, .int .i64 0, .int .i64 0, .int .i64 0, .int .i64 0, .int .i64 0, .int .i64 0, .int .i64 0, .int .i64 0, .int .i64 0, .int .i64 0, .int .i64 0, .int .i64 0, .int .i64 0] 69) = q := ⟨_, rfl⟩
 have G1 := h.add _ hx1 hg
 have B1 : Blk x1 g #[.int .i64 0, .int .i64 0, .int .i64 0, .int .i64 0, .int .i64 0, .int .i64 0, .int .i64 0, .int .i64 0, .int .i64 0, .int .i64 0, .int .i64 0, .int .i64 0, .int .i64 0, .int .i64 0, .int .i64 0, .int .i64 0, .int .i64 0, .int .i64 0, .int .i64 0, .int .i64 0, .int .i64 0, .int .i64 0] 69 := by rw [← hx1, ← hg]; exact Blk.new w _ _
 have hO1 : Only (fun x => ¬ X x) w x1 := by rw [← hx1]; exact (Only.refl _ w).alloc _
 obtain ⟨n1, n2, n3, n4⟩ := h.new hg
 obtain ⟨v1, v2, v3, v4, v5⟩ := hv.root k hk
 have hn88 := h.n88
 have HW := hide (sWhole_any G1)
 have HU := hide (mused_any G1.bg (V k).r v2)
 rw [v3] at HU
 have HRP := hide (fun W S' (G : MG w0 W b jb pb mb sb (fun x => X x ∨ x = g) n S' L A hn Mw Mn T) => sReadPage_ok G (V k).r (by omega) 6 40 _ v4 ⟨(rtP_parse _ _ v1).1, (rtP_parse _ _ v1).2.1, by rw [(rtP_parse _ _ v1).2.2.2]; exact rtB_size _⟩)
 simp only [(rtP_parse (V k).num (V k).lf v1).2.2.1, (rtP_parse (V k).num (V k).lf v1).2.2.2] at HRP
 have HPT := hide (fun W hE => parseTree_any ((V k).r : Int) 6 (V k).num v1 (V k).lf (fun l hl => by have := v5 l hl; omega) W hE)
 have hyl := trC_len ((V k).r : Int) ((V k).num : Int) (V k).lf
 have hyo := trC_one ((V k).r : Int) ((V k).num : Int) (V k).lf
 generalize trC ((V k).r : Int) ((V k).num : Int) (V k).lf = ys at *
 generalize rtB (V k).lf = bd at *
 obtain ⟨r, hr⟩ : ∃ q, (V k).r = q := ⟨_, rfl⟩
 obtain ⟨nm, hnm⟩ : ∃ q, (V k).num = q := ⟨_, rfl⟩
 rw [hr] at HU HRP HPT ⊢
 rw [hnm] at HRP HPT
 obtain ⟨c0, c1, c2⟩ := G1.c
 have X1 := hide (And.intro G1 (And.intro B1 (And.intro hO1 (And.intro n1 (And.intro n2 (And.intro n3 (And.intro n4 (And.intro h.bg.xm h.xs))))))))
 have HYL := hide hyl
 have HYO := hide hyo
 clear G1 B1 hO1 n1 n2 n3 n4 h hv v1 v2 v3 v4 v5 hn88 hr hnm hyl hyo
 go_enter Tryz.func39, Tryz.ntmps39
 go_wp2_with (go_at_call 92; refine (unhide HW).mono ?_; rintro e w' ⟨rfl, hw'⟩; subst w')
 refine (unhide HU).mono ?_
 rintro e x2 ⟨rfl, hK2⟩
 obtain ⟨S2, k1, k2, k3, k4⟩ := MKept.of (unhide X1).1 hK2
 have B2 := (unhide X1).2.1.only k4 (fun q => q (.inr rfl))
 have HR := hide (unhide HRP x2 S2 k1)
 have X2 := hide (And.intro k2 (And.intro k3 (And.intro B2 ((unhide X1).2.2.1.trans k4 (fun _ _ q r => q (.inl r))))))
 clear hK2 k1 k2 k3 k4 B2 HU HW HRP c0 c1 c2
 go_wp2_with fail
 refine (unhide HR).mono ?_
 rintro e x3 ⟨rfl, S3, k1, k2, k3, k4⟩
 obtain ⟨j1, j2, B2, O2⟩ := unhide X2
 have B3 := B2.only k4 (fun q => q (.inr rfl))
 have O3 : Only (fun x => ¬ X x) w x3 := O2.trans k4 (fun _ _ q r => q (.inl r))
 obtain ⟨g4, hg4⟩ : ∃ q, x3.heap.size = q := ⟨_, rfl⟩
 obtain ⟨x4, hx4⟩ : ∃ q, x3.alloc (.cells #[.int .i64 6, .int .i64 (nm : Int), .string bd] 95) = q := ⟨_, rfl⟩
 have hb4 : Below x3.heap.size x3 x4 := by rw [← hx4]; exact (Below.refl _ x3).alloc (Nat.le_refl _) _
 have B4 : Blk x4 g4 #[.int .i64 6, .int .i64 (nm : Int), .string bd] 95 := by rw [← hx4, ← hg4]; exact Blk.new x3 _ _
 have a0 : x4.cell? ⟨g4, 0, none⟩ = some (.int .i64 6) := B4.cell 0
 have a1 : x4.cell? ⟨g4, 1, none⟩ = some (.int .i64 (nm : Int)) := B4.cell 1
 have a2 : x4.cell? ⟨g4, 2, none⟩ = some (.string bd) := B4.cell 2
 have G4 := k1.below hb4
 have HP := hide (unhide HPT x4 G4.ety)
 have X4 := hide (And.intro G4 (And.intro (k2.trans j1) (And.intro (k3.trans j2) (And.intro (B3.below hb4 B3.lt) (O3.trans (Only.of_below (P := fun x => ¬ X x) hb4) (fun _ _ q => q))))))
 clear k1 k2 k3 k4 j1 j2 B2 O2 B3 O3 hb4 B4 G4 HR X2 HPT
 go_wp2_with fail
 refine (unhide HP).mono ?_
 rintro e x5 ⟨rfl, hb5⟩
 obtain ⟨G4, k2, k3, B4, O4⟩ := unhide X4
 have B5 := B4.below hb5 B4.lt
 have TH := hide (blk_there B5 ys.toArray.size (by simp [unhide HYL]))
 have B6 := setCells_all B5 ys (by simp [unhide HYL])
 have HLD := hide (iload_blk 69 _ B6 Tryz.underlying69 rfl (by rw [sizeTree]; simp [unhide HYL]))
 have O6 : Only (fun x => x = g) x5 (x5.setCells g 0 ys) := only_cells g 0 ys rfl
 obtain ⟨-, -, -, n1, n2, n3, n4, hm, hs⟩ := unhide X1
 have HF := hide (show MKept w0 w b jb pb mb sb X n S L A hn Mw Mn T (x5.setCells g 0 ys) from ⟨S3, ((G4.below hb5).poke (.inr rfl) n2 n3 n4 O6).less (fun _ q => .inl q) hm hs, k2, k3, (O4.trans (Only.of_below (P := fun x => ¬ X x) hb5) (fun _ _ q => q)).trans O6 (fun x _ q => by rw [q]; exact n1)⟩)
 clear G4 k2 k3 B4 O4 B5 hb5 B6 O6 n1 n2 n3 n4 hm hs X1 X4 HP a0 a1 a2
 go_wp2_with (refine wpList_store_mid rfl 69 (.tmp 4) (.tmp 42) rfl g 0 ys.toArray rfl rfl (unhide TH) (by rw [sizeTree]; simp [unhide HYL]) (unhide HYO) ?_)
 exact bodyPost_ret (v := .tuple #[.agg ys.toArray, .int .i64 0]) (results_cell2 (p := 4) (q := 5) (ty := 69) rfl _ _ _ ⟨g, 0, none⟩ rfl _ (unhide HLD)) rfl ⟨rfl, unhide HF⟩
set_option maxRecDepth 100000 in
set_option maxHeartbeats 2000000 in
theorem sFtc_ok {w0 w : World} {b jb pb mb sb : Nat} {X : Nat → Prop} {n : Nat} {S : PS} {L : List ByteArray} {A : List (Nat × Nat)} {hn : Nat} {Mw Mn : List ByteArray} {T : Nat → Bool} (h : MG w0 w b jb pb mb sb X n S L A hn Mw Mn T) (ho : S.op = true) {m : Nat} {V : Nat → Vol} (hv : VS Mn n m T V) (k : Nat) (hk : k < m) : Calls Tryz.prog 26 #[.pointer (some ⟨sb, 0, none⟩), .int .i64 ((V k).r : Int)] w fun e w' => e = .returned (.tuple #[.agg (trC ((V k).r : Int) ((V k).num : Int) (V k).lf).toArray, .int .i64 0]) ∧ MKept w0 w b jb pb mb sb X n S L A hn Mw Mn T w' := by
 obtain ⟨g, hg⟩ : ∃ q, w.heap.size = q := ⟨_, rfl⟩
 obtain ⟨x1, hx1⟩ : ∃ q, w.alloc (.cells #[.int .i64 0, .int .i64 0, .int .i64 0, .int .i64 0, .int .i64 0, .int .i64 0, .int .i64 0, .int .i64 0, .int .i64 0, .int .i64 0, .int .i64 0, .int .i64 0, .int .i64 0, .int .i64 0, .int .i64 0, .int .i64 0, .int .i64 0, .int .i64 0, .int .i64 0, .int .i64 0, .int .i64 0, .int .i64 0] 69) = q := ⟨_, rfl⟩
 have G1 := h.add _ hx1 hg
 have B1 : Blk x1 g #[.int .i64 0, .int .i64 0, .int .i64 0, .int .i64 0, .int .i64 0, .int .i64 0, .int .i64 0, .int .i64 0, .int .i64 0, .int .i64 0, .int .i64 0, .int .i64 0, .int .i64 0, .int .i64 0, .int .i64 0, .int .i64 0, .int .i64 0, .int .i64 0, .int .i64 0, .int .i64 0, .int .i64 0, .int .i64 0] 69 := by rw [← hx1, ← hg]; exact Blk.new w _ _
 have hO1 : Only (fun x => ¬ X x) w x1 := by rw [← hx1]; exact (Only.refl _ w).alloc _
 obtain ⟨n1, n2, n3, n4⟩ := h.new hg
 have HC := hide (sChange_any G1)
 rw [ho] at HC
 have HFI := hide (fun W (G : MG w0 W b jb pb mb sb (fun x => X x ∨ x = g) n S L A hn Mw Mn T) => sFind_ok G hv k hk)
 have hyl := trC_len ((V k).r : Int) ((V k).num : Int) (V k).lf
 have hyo := trC_one ((V k).r : Int) ((V k).num : Int) (V k).lf
 generalize trC ((V k).r : Int) ((V k).num : Int) (V k).lf = ys at *
 generalize (V k).r = r at *
 have X1 := hide (And.intro B1 (And.intro hO1 (And.intro n1 (And.intro n2 (And.intro n3 (And.intro n4 (And.intro h.bg.xm h.xs)))))))
 have HYL := hide hyl
 have HYO := hide hyo
 clear G1 B1 hO1 n1 n2 n3 n4 h hv hyl hyo ho
 go_enter Tryz.func26, Tryz.ntmps26
 go_wp2_with fail
 refine (unhide HC).mono ?_
 rintro e x2 ⟨rfl, G2, hO2⟩
 have B2 := (unhide X1).1.only hO2 (fun q => q (.inr rfl))
 have HF := hide (unhide HFI x2 G2)
 have X2 := hide (And.intro B2 ((unhide X1).2.1.trans hO2 (fun _ _ q r => q (.inl r))))
 clear G2 hO2 B2 HC HFI
 go_wp2_with fail
 refine (unhide HF).mono ?_
 rintro e x5 ⟨rfl, S3, k1, k2, k3, k4⟩
 have B5 := (unhide X2).1.only k4 (fun q => q (.inr rfl))
 have TH := hide (blk_there B5 ys.toArray.size (by simp [unhide HYL]))
 have B6 := setCells_all B5 ys (by simp [unhide HYL])
 have HLD := hide (iload_blk 69 _ B6 Tryz.underlying69 rfl (by rw [sizeTree]; simp [unhide HYL]))
 have O6 : Only (fun x => x = g) x5 (x5.setCells g 0 ys) := only_cells g 0 ys rfl
 obtain ⟨-, -, n1, n2, n3, n4, hm, hs⟩ := unhide X1
 have HF2 := hide (show MKept w0 w b jb pb mb sb X n S L A hn Mw Mn T (x5.setCells g 0 ys) from ⟨S3, (k1.poke (.inr rfl) n2 n3 n4 O6).less (fun _ q => .inl q) hm hs, k2, k3, ((unhide X2).2.trans k4 (fun _ _ q r => q (.inl r))).trans O6 (fun x _ q => by rw [q]; exact n1)⟩)
 clear k1 k2 k3 k4 B5 B6 O6 n1 n2 n3 n4 hm hs X1 X2 HF
 go_wp2_with (refine wpList_store_mid rfl 69 (.tmp 4) (.tmp 13) rfl g 0 ys.toArray rfl rfl (unhide TH) (by rw [sizeTree]; simp [unhide HYL]) (unhide HYO) ?_)
 exact bodyPost_ret (v := .tuple #[.agg ys.toArray, .int .i64 0]) (results_cell2 (p := 4) (q := 5) (ty := 69) rfl _ _ _ ⟨g, 0, none⟩ rfl _ (unhide HLD)) rfl ⟨rfl, unhide HF2⟩
end Go.Proofs.YtiellebdliifdaaGreatDoor
