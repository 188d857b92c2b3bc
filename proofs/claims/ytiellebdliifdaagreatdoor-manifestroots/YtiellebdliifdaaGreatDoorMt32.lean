import Derived.Test.YtiellebdliifdaaGreatDoorMt31
import Derived.RangeFuncNested
import Derived.RangeFuncBound
import Derived.RangeFuncCalls
import Derived.RangeFuncLeaves
import Derived.Shelf.Abstract
import Derived.Shelf.RegionOpen
import Derived.WalkKit
import Derived.OwnWalkIn
import Derived.TacticsInMore
import Derived.LoopNIn
import Derived.LoopIn
namespace Go.Proofs.YtiellebdliifdaaGreatDoor
open Go.RowKit Go.Maps Go.Sort Go.Shelf
def MGm (bw bv : Nat) (w0 w : World) (b jb pb mb sb : Nat) (X : Nat → Prop) (n : Nat) (S : PS) (L : List ByteArray) (A : List (Nat × Nat)) (hn : Nat) (Mw Mn : List ByteArray) (T : Nat → Bool) : Prop := MG w0 w b jb pb mb sb X n S L A hn Mw Mn T ∧ Mps w pb bw bv
theorem MGm.bg {bw bv : Nat} {w0 w : World} {b jb pb mb sb : Nat} {X : Nat → Prop} {n : Nat} {S : PS} {L : List ByteArray} {A : List (Nat × Nat)} {hn : Nat} {Mw Mn : List ByteArray} {T : Nat → Bool} (h : MGm bw bv w0 w b jb pb mb sb X n S L A hn Mw Mn T) : BG w0 w b jb pb mb X 19 n S L A hn Mw Mn T := h.1.bg
theorem MGm.st {bw bv : Nat} {w0 w : World} {b jb pb mb sb : Nat} {X : Nat → Prop} {n : Nat} {S : PS} {L : List ByteArray} {A : List (Nat × Nat)} {hn : Nat} {Mw Mn : List ByteArray} {T : Nat → Bool} (h : MGm bw bv w0 w b jb pb mb sb X n S L A hn Mw Mn T) : Blk w sb (Scv pb mb) 129 := h.1.st
theorem MGm.xs {bw bv : Nat} {w0 w : World} {b jb pb mb sb : Nat} {X : Nat → Prop} {n : Nat} {S : PS} {L : List ByteArray} {A : List (Nat × Nat)} {hn : Nat} {Mw Mn : List ByteArray} {T : Nat → Bool} (h : MGm bw bv w0 w b jb pb mb sb X n S L A hn Mw Mn T) : X sb := h.1.xs
theorem MGm.n88 {bw bv : Nat} {w0 w : World} {b jb pb mb sb : Nat} {X : Nat → Prop} {n : Nat} {S : PS} {L : List ByteArray} {A : List (Nat × Nat)} {hn : Nat} {Mw Mn : List ByteArray} {T : Nat → Bool} (h : MGm bw bv w0 w b jb pb mb sb X n S L A hn Mw Mn T) : n ≤ 88 := h.1.n88
theorem MGm.ety {bw bv : Nat} {w0 w : World} {b jb pb mb sb : Nat} {X : Nat → Prop} {n : Nat} {S : PS} {L : List ByteArray} {A : List (Nat × Nat)} {hn : Nat} {Mw Mn : List ByteArray} {T : Nat → Bool} (h : MGm bw bv w0 w b jb pb mb sb X n S L A hn Mw Mn T) : ETy w := h.1.ety
theorem MGm.c {bw bv : Nat} {w0 w : World} {b jb pb mb sb : Nat} {X : Nat → Prop} {n : Nat} {S : PS} {L : List ByteArray} {A : List (Nat × Nat)} {hn : Nat} {Mw Mn : List ByteArray} {T : Nat → Bool} (h : MGm bw bv w0 w b jb pb mb sb X n S L A hn Mw Mn T) : w.cell? ⟨sb, 0, none⟩ = some (.pointer (some ⟨pb, 0, none⟩)) ∧ w.cell? ⟨sb, 1, none⟩ = some (.pointer (some ⟨mb, 0, none⟩)) ∧ w.cell? ⟨sb, 2, none⟩ = some (.int .i64 40) := h.1.c
theorem MGm.below {bw bv : Nat} {w0 w : World} {b jb pb mb sb : Nat} {X : Nat → Prop} {n : Nat} {S : PS} {L : List ByteArray} {A : List (Nat × Nat)} {hn : Nat} {Mw Mn : List ByteArray} {T : Nat → Bool} (h : MGm bw bv w0 w b jb pb mb sb X n S L A hn Mw Mn T) {w' : World} (hb : Below w.heap.size w w') : MGm bw bv w0 w' b jb pb mb sb X n S L A hn Mw Mn T := ⟨h.1.below hb, h.2.below hb⟩
theorem MGm.add {bw bv : Nat} {w0 w : World} {b jb pb mb sb : Nat} {X : Nat → Prop} {n : Nat} {S : PS} {L : List ByteArray} {A : List (Nat × Nat)} {hn : Nat} {Mw Mn : List ByteArray} {T : Nat → Bool} (h : MGm bw bv w0 w b jb pb mb sb X n S L A hn Mw Mn T) (o : Obj) {w' : World} (e : w.alloc o = w') {g : Nat} (hg : w.heap.size = g) : MGm bw bv w0 w' b jb pb mb sb (fun x => X x ∨ x = g) n S L A hn Mw Mn T := ⟨h.1.add o e hg, h.2.below (by rw [← e]; exact (Below.refl _ w).alloc (Nat.le_refl _) _)⟩
theorem MGm.less {bw bv : Nat} {w0 w : World} {b jb pb mb sb : Nat} {X : Nat → Prop} {n : Nat} {S : PS} {L : List ByteArray} {A : List (Nat × Nat)} {hn : Nat} {Mw Mn : List ByteArray} {T : Nat → Bool} (h : MGm bw bv w0 w b jb pb mb sb X n S L A hn Mw Mn T) {Y : Nat → Prop} (hy : ∀ x, Y x → X x) (hm : Y mb) (hs : Y sb) : MGm bw bv w0 w b jb pb mb sb Y n S L A hn Mw Mn T := ⟨h.1.less hy hm hs, h.2⟩
theorem MGm.poke {bw bv : Nat} {w0 w : World} {b jb pb mb sb : Nat} {X : Nat → Prop} {n : Nat} {S : PS} {L : List ByteArray} {A : List (Nat × Nat)} {hn : Nat} {Mw Mn : List ByteArray} {T : Nat → Bool} (h : MGm bw bv w0 w b jb pb mb sb X n S L A hn Mw Mn T) {g : Nat} (hg : X g) (hlo : w0.heap.size ≤ g) (h1 : g ≠ mb) (h2 : g ≠ sb) {w' : World} (ho : Only (fun x => x = g) w w') : MGm bw bv w0 w' b jb pb mb sb X n S L A hn Mw Mn T := ⟨h.1.poke hg hlo h1 h2 ho, h.2.only ho (fun q => h.1.npb (by rw [q]; exact hg))⟩
theorem MGm.new {bw bv : Nat} {w0 w : World} {b jb pb mb sb : Nat} {X : Nat → Prop} {n : Nat} {S : PS} {L : List ByteArray} {A : List (Nat × Nat)} {hn : Nat} {Mw Mn : List ByteArray} {T : Nat → Bool} (h : MGm bw bv w0 w b jb pb mb sb X n S L A hn Mw Mn T) {g : Nat} (hg : w.heap.size = g) : ¬ X g ∧ w0.heap.size ≤ g ∧ g ≠ mb ∧ g ≠ sb := h.1.new hg
def MKm (bw bv : Nat) (w0 w : World) (b jb pb mb sb : Nat) (X : Nat → Prop) (n : Nat) (S : PS) (L : List ByteArray) (A : List (Nat × Nat)) (hn : Nat) (Mw Mn : List ByteArray) (T : Nat → Bool) (w' : World) : Prop := ∃ S', MGm bw bv w0 w' b jb pb mb sb X n S' L A hn Mw Mn T ∧ S'.op = S.op ∧ Tk S' S ∧ Only (fun x => ¬ X x) w w'
set_option maxRecDepth 100000 in
set_option maxHeartbeats 2000000 in
theorem sReadPagem {bw bv : Nat} {w0 w : World} {b jb pb mb sb : Nat} {X : Nat → Prop} {n : Nat} {S : PS} {L : List ByteArray} {A : List (Nat × Nat)} {hn : Nat} {Mw Mn : List ByteArray} {T : Nat → Bool} (h : MGm bw bv w0 w b jb pb mb sb X n S L A hn Mw Mn T) (i : Nat) (hi : i < 88) (kind : Int) (z : Nat) (t : ByteArray) (ht : Mn.getD (40 + i) ByteArray.empty = t) (hp : PgK t kind z) : Calls Tryz.prog 94 #[.pointer (some ⟨sb, 0, none⟩), .int .i64 (i : Int), .int .i64 kind, .int .i64 (z : Int)] w fun e w' => e = .returned (.tuple #[.agg #[.int .i64 kind, .int .i64 (pnm t), .string (pbd t)], .int .i64 0]) ∧ MKm bw bv w0 w b jb pb mb sb X n S L A hn Mw Mn T w' := by
 obtain ⟨g, hg⟩ : ∃ q, w.heap.size = q := ⟨_, rfl⟩
 obtain ⟨x1, hx1⟩ : ∃ q, w.alloc (.cells #[.int .i64 0, .int .i64 0, .string ⟨#[]⟩] 95) = q := ⟨_, rfl⟩
 have G1 := h.add _ hx1 hg
 have B1 : Blk x1 g #[.int .i64 0, .int .i64 0, .string ⟨#[]⟩] 95 := by rw [← hx1, ← hg]; exact Blk.new w _ _
 have hO1 : Only (fun x => ¬ X x) w x1 := by rw [← hx1]; exact (Only.refl _ w).alloc _
 obtain ⟨n1, n2, n3, n4⟩ := h.new hg
 have G1d := G1.below ((Below.refl _ x1).drew)
 obtain ⟨r1, r2, r3, r4, r5⟩ := G1.bg.seen.read (40 + i) (by omega) (by omega)
 have HRD := hide (preadm G1d.bg.pk G1d.2 ((40 + i : Nat) : Int) (readT_rest G1.bg.seen.rst (40 + i) (by rw [G1.bg.seen.len]; omega) G1.bg.seen.siz))
 rw [r1, r2, ht] at HRD
 have hts : t.size = 256 := by
  exact (prOk_size _ hp.1).1
 have HNX := hide (show ∀ W, PK w0 W b jb pb (readP S ((40 + i : Nat) : Int)).2.2 (fun x => X x ∨ x = g) → Only (fun x => ¬ (fun x => X x ∨ x = g) x) x1.drew W → Mps W pb bw bv → MGm bw bv w0 W b jb pb mb sb (fun x => X x ∨ x = g) n (readP S ((40 + i : Nat) : Int)).2.2 L A hn Mw Mn T ∧ Tk (readP S ((40 + i : Nat) : Int)).2.2 S from fun W K O M => ⟨⟨G1d.1.of (G1d.bg.next K O r3 G1d.bg.ms) O, M⟩, r5, (read_rest G1.bg.seen.rst (40 + i) (by rw [G1.bg.seen.len]; omega)).2.2.2.2⟩)
 have HR4 := hide r4
 obtain ⟨c0, c1, c2⟩ := G1.c
 have X1 := hide (And.intro B1 (And.intro hO1 (And.intro n1 (And.intro n2 (And.intro n3 (And.intro n4 (And.intro h.bg.xm h.xs)))))))
 have HP := hide hp
 have HTS := hide hts
 have e1 : (40 : Int) + (i : Int) = ((40 + i : Nat) : Int) := by omega
 have hq : 40 + i ≤ 1000 := by omega
 have hwq : IntKind.i64.wrap ((40 + i : Nat) : Int) = ((40 + i : Nat) : Int) := wrapI_eq _ (by omega) (by omega)
 generalize (readP S ((40 + i : Nat) : Int)).2.2 = S2 at *
 generalize 40 + i = ak at *
 clear G1 B1 hO1 n1 n2 n3 n4 G1d r1 r2 r3 r4 r5 h hp hts
 go_enter Tryz.func94, Tryz.ntmps94
 go_wp2
 refine wp_region_held_drew (S := fun w' => w'.cell? ⟨sb, 0, none⟩ = some (.pointer (some ⟨pb, 0, none⟩)) ∧ w'.cell? ⟨sb, 2, none⟩ = some (.int .i64 40)) (by kernel_rfl) ⟨c0, c2⟩ ?_
 intro hS
 refine wpAnyH_takeD 0 (some 14) (.pointer (some ⟨sb, 0, none⟩)) rfl rfl (by kernel_rfl) (by kernel_rfl) (by kernel_rfl) (fun _ _ _ h => h) (Or.inl ⟨by rfl, fun w hSw => by obtain ⟨q1, q2⟩ := hSw; go_simp⟩) hS ?_
 simp only [Act.put, List.setIfInBounds_toArray, List.set_cons_zero, List.set_cons_succ]
 refine wpAnyH_takeD 1 (some 15) (.pointer (some ⟨sb, 0, none⟩)) rfl rfl (by kernel_rfl) (by kernel_rfl) (by kernel_rfl) (fun _ _ _ h => h) (Or.inl ⟨by rfl, fun w hSw => by obtain ⟨q1, q2⟩ := hSw; go_simp⟩) hS ?_
 simp only [Act.put, List.setIfInBounds_toArray, List.set_cons_zero, List.set_cons_succ]
 refine wpAnyH_takeD 2 (some 16) (.pointer (some ⟨sb, 0, none⟩)) rfl rfl (by kernel_rfl) (by kernel_rfl) (by kernel_rfl) (fun _ _ _ h => h) (Or.inl ⟨by rfl, fun w hSw => by obtain ⟨q1, q2⟩ := hSw; go_simp⟩) hS ?_
 simp only [Act.put, List.setIfInBounds_toArray, List.set_cons_zero, List.set_cons_succ]
 refine wpAnyH_takeD 3 (some 17) (.pointer (some ⟨pb, 0, none⟩)) rfl rfl (by kernel_rfl) (by kernel_rfl) (by kernel_rfl) (fun _ _ _ h => h) (Or.inl ⟨by rfl, fun w hSw => by obtain ⟨q1, q2⟩ := hSw; go_simp⟩) hS ?_
 simp only [Act.put, List.setIfInBounds_toArray, List.set_cons_zero, List.set_cons_succ]
 refine wpAnyH_takeD 4 (some 18) (.pointer (some ⟨sb, 0, none⟩)) rfl rfl (by kernel_rfl) (by kernel_rfl) (by kernel_rfl) (fun _ _ _ h => h) (Or.inl ⟨by rfl, fun w hSw => by obtain ⟨q1, q2⟩ := hSw; go_simp⟩) hS ?_
 simp only [Act.put, List.setIfInBounds_toArray, List.set_cons_zero, List.set_cons_succ]
 refine wpAnyH_takeD 5 (some 19) (.pointer (some ⟨sb, 0, none⟩)) rfl rfl (by kernel_rfl) (by kernel_rfl) (by kernel_rfl) (fun _ _ _ h => h) (Or.inl ⟨by rfl, fun w hSw => by obtain ⟨q1, q2⟩ := hSw; go_simp⟩) hS ?_
 simp only [Act.put, List.setIfInBounds_toArray, List.set_cons_zero, List.set_cons_succ]
 refine wpAnyH_takeD 6 (some 20) (.pointer (some ⟨sb, 2, none⟩)) rfl rfl (by kernel_rfl) (by kernel_rfl) (by kernel_rfl) (fun _ _ _ h => h) (Or.inl ⟨by rfl, fun w hSw => by obtain ⟨q1, q2⟩ := hSw; go_simp⟩) hS ?_
 simp only [Act.put, List.setIfInBounds_toArray, List.set_cons_zero, List.set_cons_succ]
 refine wpAnyH_takeD 7 (some 21) (.int .i64 40) rfl rfl (by kernel_rfl) (by kernel_rfl) (by kernel_rfl) (fun _ _ _ h => h) (Or.inl ⟨by rfl, fun w hSw => by obtain ⟨q1, q2⟩ := hSw; go_simp⟩) hS ?_
 simp only [Act.put, List.setIfInBounds_toArray, List.set_cons_zero, List.set_cons_succ]
 refine wpAnyH_takeD 8 (some 22) (.int .i64 (i : Int)) rfl rfl (by kernel_rfl) (by kernel_rfl) (by kernel_rfl) (fun _ _ _ h => h) (Or.inl ⟨by rfl, fun w hSw => by obtain ⟨q1, q2⟩ := hSw; go_simp⟩) hS ?_
 simp only [Act.put, List.setIfInBounds_toArray, List.set_cons_zero, List.set_cons_succ]
 refine wpAnyH_takeD 9 (some 23) (.int .i64 (ak : Int)) rfl rfl (by kernel_rfl) (by kernel_rfl) (by kernel_rfl) (fun _ _ _ h => h) (Or.inl ⟨by rfl, fun w hSw => by obtain ⟨q1, q2⟩ := hSw; go_simp⟩) hS ?_
 simp only [Act.put, List.setIfInBounds_toArray, List.set_cons_zero, List.set_cons_succ]
 refine wpAnyH_ready (rs := [10]) (by kernel_rfl) (by simp) ?_
 refine AllReadyH.cons rfl (fun K hK => ?_) AllReadyH.nil
 simp only [List.getElem_toArray, List.getElem_cons_succ, List.getElem_cons_zero]
 go_simp
 refine (unhide HRD).mono ?_
 rintro e x2 ⟨rfl, K2, hO2, M2⟩
 obtain ⟨G2, k2⟩ := unhide HNX x2 K2 hO2 M2
 obtain ⟨d0, d1, d2⟩ := G2.c
 have B2 : Blk x2 g #[.int .i64 0, .int .i64 0, .string ⟨#[]⟩] 95 := Blk.only (show Blk x1.drew g #[.int .i64 0, .int .i64 0, .string ⟨#[]⟩] 95 from (unhide X1).1) hO2 (fun q => q (.inr rfl))
 have hO12 : Only (fun x => ¬ X x) w x2 := (unhide X1).2.1.trans ((Only.of_below (P := fun x => ¬ X x) ((Below.refl _ x1).drew)).trans hO2 (fun _ _ q r => q (.inl r))) (fun _ _ q => q)
 have X2 := hide (And.intro G2 (And.intro k2 (And.intro B2 hO12)))
 clear K2 hO2 G2 k2 B2 hO12 HRD HNX
 refine hK.out _ _ ⟨d0, d2⟩ (fun hS => ?_)
 clear hK K
 refine wpAnyH_takeD 11 (some 13) (.tuple #[.string t, .int .i64 0]) rfl rfl (by kernel_rfl) (by kernel_rfl) (by kernel_rfl) (fun _ _ _ h => h) (Or.inl ⟨by rfl, fun w hSw => by obtain ⟨q1, q2⟩ := hSw; go_simp⟩) hS ?_
 simp only [Act.put, List.setIfInBounds_toArray, List.set_cons_zero, List.set_cons_succ]
 refine wpAnyH_takeD 12 (some 25) (.string t) rfl rfl (by kernel_rfl) (by kernel_rfl) (by kernel_rfl) (fun _ _ _ h => h) (Or.inl ⟨by rfl, fun w hSw => by obtain ⟨q1, q2⟩ := hSw; go_simp⟩) hS ?_
 simp only [Act.put, List.setIfInBounds_toArray, List.set_cons_zero, List.set_cons_succ]
 refine wpAnyH_takeD 13 (some 26) (.int .i64 0) rfl rfl (by kernel_rfl) (by kernel_rfl) (by kernel_rfl) (fun _ _ _ h => h) (Or.inl ⟨by rfl, fun w hSw => by obtain ⟨q1, q2⟩ := hSw; go_simp⟩) hS ?_
 simp only [Act.put, List.setIfInBounds_toArray, List.set_cons_zero, List.set_cons_succ]
 refine wpAnyH_takeD 14 (some 10) (.string t) rfl rfl (by kernel_rfl) (by kernel_rfl) (by kernel_rfl) (fun _ _ _ h => h) (Or.inl ⟨by rfl, fun w hSw => by obtain ⟨q1, q2⟩ := hSw; go_simp⟩) hS ?_
 simp only [Act.put, List.setIfInBounds_toArray, List.set_cons_zero, List.set_cons_succ]
 refine wpAnyH_takeD 15 (some 11) (.int .i64 0) rfl rfl (by kernel_rfl) (by kernel_rfl) (by kernel_rfl) (fun _ _ _ h => h) (Or.inl ⟨by rfl, fun w hSw => by obtain ⟨q1, q2⟩ := hSw; go_simp⟩) hS ?_
 simp only [Act.put, List.setIfInBounds_toArray, List.set_cons_zero, List.set_cons_succ]
 refine wpAnyH_done (by kernel_rfl) ?_ _
 clear hS c0 c1 c2 d0 d1 d2
 have HPS := hide (parse_any rep_ok t (by rw [unhide HTS]; decide) x2 (unhide X2).1.ety)
 obtain ⟨kd, hkd⟩ : ∃ q, pkd t = q := ⟨_, rfl⟩
 obtain ⟨nm, hnm⟩ : ∃ q, pnm t = q := ⟨_, rfl⟩
 obtain ⟨bd, hbd⟩ : ∃ q, pbd t = q := ⟨_, rfl⟩
 obtain ⟨p1, p2, p3⟩ := unhide HP
 rw [hbd] at p3
 rw [hkd] at p2
 subst p2
 have HPO := hide p1
 have HNB := hide (And.intro hnm hbd)
 have hz : ((bd.size : Int) != (z : Int)) = false := by rw [p3]; simp
 have HKD := hide hkd
 clear p1 p3 hkd hnm hbd
 go_wp2_with fail
 refine (unhide HPS).mono ?_
 rintro e x3 ⟨hpp, hb3⟩
 rcases hpp with ⟨-, rfl⟩ | ⟨hno, -⟩
 ·rw [unhide HKD, (unhide HNB).1, (unhide HNB).2]
  obtain ⟨G2, k2, B2, hO2⟩ := unhide X2
  obtain ⟨g4, hg4⟩ : ∃ q, x3.heap.size = q := ⟨_, rfl⟩
  obtain ⟨x4, hx4⟩ : ∃ q, x3.alloc (.cells #[.int .i64 kd, .int .i64 nm, .string bd] 95) = q := ⟨_, rfl⟩
  have hb4 : Below x3.heap.size x3 x4 := by rw [← hx4]; exact (Below.refl _ x3).alloc (Nat.le_refl _) _
  have B4 : Blk x4 g4 #[.int .i64 kd, .int .i64 nm, .string bd] 95 := by rw [← hx4, ← hg4]; exact Blk.new x3 _ _
  have B3 := B2.below hb3 B2.lt
  have Bg : Blk x4 g #[.int .i64 0, .int .i64 0, .string ⟨#[]⟩] 95 := B3.below hb4 B3.lt
  have hne : g ≠ g4 := by rw [← hg4]; exact Nat.ne_of_lt B3.lt
  have G4 := (G2.below hb3).below hb4
  have hO4 : Only (fun x => ¬ X x) w x4 := (hO2.trans (Only.of_below (P := fun x => ¬ X x) hb3) (fun _ _ q => q)).trans (Only.of_below (P := fun x => ¬ X x) hb4) (fun _ _ q => q)
  have a0 : x4.cell? ⟨g4, 0, none⟩ = some (.int .i64 kd) := B4.cell 0
  have a1 : x4.cell? ⟨g4, 1, none⟩ = some (.int .i64 nm) := B4.cell 1
  have a2 : x4.cell? ⟨g4, 2, none⟩ = some (.string bd) := B4.cell 2
  have q0 : x4.cell? ⟨g, 0, none⟩ = some (.int .i64 0) := Bg.cell 0
  have q1 : x4.cell? ⟨g, 1, none⟩ = some (.int .i64 0) := Bg.cell 1
  have q2 : x4.cell? ⟨g, 2, none⟩ = some (.string ⟨#[]⟩) := Bg.cell 2
  have p0 := Bg.frozen 0
  have p1 := Bg.frozen 1
  have p2 := Bg.frozen 2
  have B6 := ((Bg.set 0 (.int .i64 kd)).set 1 (.int .i64 nm)).set 2 (.string bd)
  have O6 := (((Only.refl (fun x => x = g) x4).setCell ⟨g, 0, none⟩ (.int .i64 kd) (fun _ => rfl)).setCell ⟨g, 1, none⟩ (.int .i64 nm) (fun _ => rfl)).setCell ⟨g, 2, none⟩ (.string bd) (fun _ => rfl)
  have HLD := hide (load_page _ g kd nm bd B6)
  obtain ⟨-, -, n1, n2, n3, n4, hm, hs⟩ := unhide X1
  have HF := hide (show MKm bw bv w0 w b jb pb mb sb X n S L A hn Mw Mn T (((x4.setCell ⟨g, 0, none⟩ (.int .i64 kd)).setCell ⟨g, 1, none⟩ (.int .i64 nm)).setCell ⟨g, 2, none⟩ (.string bd)) from ⟨S2, (G4.poke (.inr rfl) n2 n3 n4 O6).less (fun _ q => .inl q) hm hs, unhide HR4, k2, hO4.trans O6 (fun x _ q => by rw [q]; exact n1)⟩)
  clear G2 k2 B2 hO2 B4 B3 Bg G4 hO4 B6 O6 hb3 hb4 n1 n2 n3 n4 hm hs X1 X2 HPS
  go_wp2
  exact bodyPost_ret (v := .tuple #[.agg #[.int .i64 kd, .int .i64 nm, .string bd], .int .i64 0]) (results_cell2 (p := 8) (q := 9) (ty := 95) rfl _ _ _ ⟨g, 0, none⟩ rfl _ (unhide HLD)) rfl ⟨by rw [(unhide HNB).1, (unhide HNB).2], unhide HF⟩
 ·exact absurd (unhide HPO) hno
set_option maxRecDepth 100000 in
set_option maxHeartbeats 2000000 in
theorem sReadLeafm {bw bv : Nat} {w0 w : World} {b jb pb mb sb : Nat} {X : Nat → Prop} {n : Nat} {S : PS} {L : List ByteArray} {A : List (Nat × Nat)} {hn : Nat} {Mw Mn : List ByteArray} {T : Nat → Bool} (h : MGm bw bv w0 w b jb pb mb sb X n S L A hn Mw Mn T) {m : Nat} {V : Nat → Vol} (hv : VS Mn n m T V) (k : Nat) (hk : k < m) (l : Nat) (hl : l < 20) (hn0 : (V k).lf l ≠ 0) : Calls Tryz.prog 42 #[.pointer (some ⟨sb, 0, none⟩), .agg (trC ((V k).r : Int) ((V k).num : Int) (V k).lf).toArray, .int .i64 (l : Int)] w fun e w' => e = .returned (.tuple #[.agg (lfC ((V k).f l)).toArray, .int .i64 0]) ∧ MKm bw bv w0 w b jb pb mb sb X n S L A hn Mw Mn T w' := by
 have HHS := hide (fun W => tHas_any ((V k).r : Int) ((V k).num : Int) (V k).lf l hl W)
 have hxl := trC_len ((V k).r : Int) ((V k).num : Int) (V k).lf
 rw [show (((V k).lf l : Int) != 0) = true by simp; omega] at HHS
 obtain ⟨v1, v2, v3, v4⟩ := hv.leaf k hk l hl hn0
 obtain ⟨u1, u2, u3, u4, u5⟩ := hv.root k hk
 have hn88 := h.n88
 have hfo := hv.fo k hk l hl
 have HPL := hide (fun W => tPlace_any ((V k).r : Int) ((V k).num : Int) (V k).lf l hl ((V k).lf l - 1) (by omega) (by omega) W)
 have HRP := hide (fun (Y : Nat → Prop) W S' (G : MGm bw bv w0 W b jb pb mb sb Y n S' L A hn Mw Mn T) => sReadPagem G ((V k).lf l - 1) (by omega) 7 241 _ v4 ⟨(lfP_parse _ _ _ u1 hl hfo).1, (lfP_parse _ _ _ u1 hl hfo).2.1, by rw [(lfP_parse _ _ _ u1 hl hfo).2.2.2]; exact lfB_size _ hfo⟩)
 simp only [(lfP_parse (V k).num l ((V k).f l) u1 hl hfo).2.2.1, (lfP_parse (V k).num l ((V k).f l) u1 hl hfo).2.2.2] at HRP
 have HLN := hide (fun W => tNumber_any ((V k).r : Int) (V k).num u1 (V k).lf l hl W)
 have HPT := hide (fun W hE => parseLeaf_any ((V k).f l) hfo W hE)
 have hyl := lfC_len ((V k).f l)
 have hyo := lfC_one ((V k).f l)
 generalize lfC ((V k).f l) = ys at *
 generalize lfB ((V k).f l) = bd at *
 generalize 32 * (V k).num + l = nm at *
 generalize (V k).lf l - 1 = p at *
 generalize trC ((V k).r : Int) ((V k).num : Int) (V k).lf = xs at *
 obtain ⟨g, hg⟩ : ∃ q, w.heap.size = q := ⟨_, rfl⟩
 obtain ⟨x1, hx1⟩ : ∃ q, w.alloc (.cells xs.toArray 69) = q := ⟨_, rfl⟩
 have G1 := h.add _ hx1 hg
 have B1 : Blk x1 g xs.toArray 69 := by rw [← hx1, ← hg]; exact Blk.new w _ _
 obtain ⟨n1, n2, n3, n4⟩ := h.new hg
 obtain ⟨g1, hg1⟩ : ∃ q, x1.heap.size = q := ⟨_, rfl⟩
 obtain ⟨x2, hx2⟩ : ∃ q, x1.alloc (.cells #[.string ⟨#[]⟩, .string ⟨#[]⟩, .string ⟨#[]⟩, .string ⟨#[]⟩, .string ⟨#[]⟩, .string ⟨#[]⟩] 89) = q := ⟨_, rfl⟩
 have G2 := G1.add _ hx2 hg1
 have Ba : Blk x2 g xs.toArray 69 := by rw [← hx2]; exact B1.alloc _
 have Bb : Blk x2 g1 #[.string ⟨#[]⟩, .string ⟨#[]⟩, .string ⟨#[]⟩, .string ⟨#[]⟩, .string ⟨#[]⟩, .string ⟨#[]⟩] 89 := by rw [← hx2, ← hg1]; exact Blk.new x1 _ _
 obtain ⟨m1, m2, m3, m4⟩ := G1.new hg1
 have hO2 : Only (fun x => ¬ X x) w x2 := by rw [← hx2, ← hx1]; exact ((Only.refl _ w).alloc _).alloc _
 have hgg : g ≠ g1 := fun q => m1 (.inr q.symm)
 have R1 := hide (blk_range Ba)
 have HXL := hide hxl
 have HYL := hide hyl
 have HYO := hide hyo
 have X1 := hide (And.intro n1 (And.intro n2 (And.intro n3 (And.intro n4 (And.intro m1 (And.intro m2 (And.intro m3 (And.intro m4 (And.intro h.bg.xm (And.intro h.xs hgg))))))))))
 have X2 := hide (And.intro G2 (And.intro Ba (And.intro Bb hO2)))
 clear G1 B1 n1 n2 n3 n4 G2 Ba Bb m1 m2 m3 m4 hO2 hgg h hv hn0 hxl hyl hyo v1 v2 v3 v4 u1 u2 u3 u4 u5 hn88 hfo
 go_enter Tryz.func42, Tryz.ntmps42
 go_wp2_with (refine wpList_load_mid rfl 69 (.tmp 4) rfl g 0 rfl _ _ (unhide R1) Tryz.underlying69 rfl (by rw [sizeTree, unhide HXL]) ?_)
 refine (unhide HHS _).mono ?_
 rintro e x3 ⟨rfl, hb3⟩
 obtain ⟨G2, Ba, Bb, hO2⟩ := unhide X2
 have Ba3 := Ba.below hb3 Ba.lt
 have R3 := hide (blk_range Ba3)
 have X3 := hide (And.intro (G2.below hb3) (And.intro Ba3 (And.intro (Bb.below hb3 Bb.lt) (hO2.trans (Only.of_below (P := fun x => ¬ X x) hb3) (fun _ _ q => q)))))
 clear G2 Ba Bb hO2 hb3 Ba3 X2 R1 HHS
 go_wp2_with (refine wpList_load_mid rfl 69 (.tmp 4) rfl g 0 rfl _ _ (unhide R3) Tryz.underlying69 rfl (by rw [sizeTree, unhide HXL]) ?_)
 refine (unhide HPL _).mono ?_
 rintro e x4 ⟨rfl, hb4⟩
 obtain ⟨G3, Ba, Bb, hO3⟩ := unhide X3
 have G4 := G3.below hb4
 have HR := hide (unhide HRP _ x4 _ G4)
 have X4 := hide (And.intro (Ba.below hb4 Ba.lt) (And.intro (Bb.below hb4 Bb.lt) (hO3.trans (Only.of_below (P := fun x => ¬ X x) hb4) (fun _ _ q => q))))
 clear G3 Ba Bb hO3 G4 hb4 X3 R3 HPL HRP
 go_wp2_with fail
 refine (unhide HR).mono ?_
 rintro e x5 ⟨rfl, S5, k1, k2, k3, k4⟩
 obtain ⟨Ba, Bb, hO4⟩ := unhide X4
 have Ba5 := Ba.only k4 (fun q => q (.inl (.inr rfl)))
 have Bb5 := Bb.only k4 (fun q => q (.inr rfl))
 have hO5 : Only (fun x => ¬ X x) w x5 := hO4.trans k4 (fun _ _ q r => q (.inl (.inl r)))
 obtain ⟨g6, hg6⟩ : ∃ q, x5.heap.size = q := ⟨_, rfl⟩
 obtain ⟨x6, hx6⟩ : ∃ q, x5.alloc (.cells #[.int .i64 7, .int .i64 (nm : Int), .string bd] 95) = q := ⟨_, rfl⟩
 have hb6 : Below x5.heap.size x5 x6 := by rw [← hx6]; exact (Below.refl _ x5).alloc (Nat.le_refl _) _
 have B6 : Blk x6 g6 #[.int .i64 7, .int .i64 (nm : Int), .string bd] 95 := by rw [← hx6, ← hg6]; exact Blk.new x5 _ _
 have Ba6 := Ba5.below hb6 Ba5.lt
 have HS6 := hide (And.intro Ba6 B6)
 have X6 := hide (show Blk x6.drew g xs.toArray 69 ∧ Blk x6.drew g1 #[.string ⟨#[]⟩, .string ⟨#[]⟩, .string ⟨#[]⟩, .string ⟨#[]⟩, .string ⟨#[]⟩, .string ⟨#[]⟩] 89 ∧ Blk x6.drew g6 #[.int .i64 7, .int .i64 (nm : Int), .string bd] 95 ∧ MGm bw bv w0 x6.drew b jb pb mb sb (fun x => (fun x => X x ∨ x = g) x ∨ x = g1) n S5 L A hn Mw Mn T ∧ S5.op = S.op ∧ Tk S5 S ∧ Only (fun x => ¬ X x) w x6.drew from ⟨Ba6, Bb5.below hb6.drew Bb5.lt, B6, (k1.below hb6).below ((Below.refl _ x6).drew), k2, k3, (hO5.trans (Only.of_below (P := fun x => ¬ X x) hb6) (fun _ _ q => q)).drew⟩)
 clear k1 k2 k3 k4 Ba Bb hO4 Ba5 Bb5 hO5 hb6 B6 Ba6 X4 HR
 go_wp2
 refine wp_region_held_drew (S := fun w' => Blk w' g xs.toArray 69 ∧ Blk w' g6 #[.int .i64 7, .int .i64 (nm : Int), .string bd] 95) (by kernel_rfl) (unhide HS6) ?_
 intro hS
 generalize x6.drew = x7 at *
 refine wpAnyH_takeD 0 (some 27) (.pointer (some ⟨g6, 1, none⟩)) rfl rfl (by kernel_rfl) (by kernel_rfl) (by kernel_rfl) (fun _ _ _ h => h) (Or.inl ⟨by rfl, fun w hSw => by have a1 : w.cell? ⟨g6, 1, none⟩ = some (.int .i64 (nm : Int)) := Blk.cell hSw.2 1; go_simp⟩) hS ?_
 simp only [Act.put, List.setIfInBounds_toArray, List.set_cons_zero, List.set_cons_succ]
 refine wpAnyH_takeD 1 (some 28) (.int .i64 (nm : Int)) rfl rfl (by kernel_rfl) (by kernel_rfl) (by kernel_rfl) (fun _ _ _ h => h) (Or.inl ⟨by rfl, fun w hSw => by have a1 : w.cell? ⟨g6, 1, none⟩ = some (.int .i64 (nm : Int)) := Blk.cell hSw.2 1; go_simp⟩) hS ?_
 simp only [Act.put, List.setIfInBounds_toArray, List.set_cons_zero, List.set_cons_succ]
 refine wpAnyH_takeD 2 (some 29) (.agg xs.toArray) rfl rfl (by kernel_rfl) (by kernel_rfl) (by kernel_rfl) (fun _ _ _ h => h) (yieldsIf_load_mid (by rfl) 69 (.tmp 4) rfl g 0 rfl _ _ (fun w hSw => blk_range hSw.1) Tryz.underlying69 rfl (by rw [sizeTree, unhide HXL])) hS ?_
 simp only [Act.put, List.setIfInBounds_toArray, List.set_cons_zero, List.set_cons_succ]
 refine wpAnyH_takeD 3 (some 30) (.int .i64 (l : Int)) rfl rfl (by kernel_rfl) (by kernel_rfl) (by kernel_rfl) (fun _ _ _ h => h) (Or.inl ⟨by rfl, fun w hSw => by have a1 : w.cell? ⟨g6, 1, none⟩ = some (.int .i64 (nm : Int)) := Blk.cell hSw.2 1; go_simp⟩) hS ?_
 simp only [Act.put, List.setIfInBounds_toArray, List.set_cons_zero, List.set_cons_succ]
 refine wpAnyH_ready (rs := [4]) (by kernel_rfl) (by simp) ?_
 refine AllReadyH.cons rfl (fun K hK => ?_) AllReadyH.nil
 simp only [List.getElem_toArray, List.getElem_cons_succ, List.getElem_cons_zero]
 go_simp
 refine (unhide HLN _).mono ?_
 rintro e y1 ⟨rfl, hb1⟩
 obtain ⟨Ba, Bb, B6, G6, k2, k3, hO6⟩ := unhide X6
 have X7 := hide (And.intro (Ba.below hb1 Ba.lt) (And.intro (Bb.below hb1 Bb.lt) (And.intro (B6.below hb1 B6.lt) (And.intro (G6.below hb1) (And.intro k2 (And.intro k3 (hO6.trans (Only.of_below (P := fun x => ¬ X x) hb1) (fun _ _ q => q))))))))
 clear Ba Bb B6 G6 k2 k3 hO6 hb1 X6
 refine hK.out _ _ ⟨(unhide X7).1, (unhide X7).2.2.1⟩ (fun hS => ?_)
 clear hK K
 refine wpAnyH_takeD 5 (some 32) (.bool false) rfl rfl (by kernel_rfl) (by kernel_rfl) (by kernel_rfl) (fun _ _ _ h => h) (Or.inl ⟨by rfl, fun w hSw => by have a1 : w.cell? ⟨g6, 1, none⟩ = some (.int .i64 (nm : Int)) := Blk.cell hSw.2 1; go_simp⟩) hS ?_
 simp only [Act.put, List.setIfInBounds_toArray, List.set_cons_zero, List.set_cons_succ]
 refine wpAnyH_done (by kernel_rfl) ?_ _
 clear hS HS6
 have a2 : y1.cell? ⟨g6, 2, none⟩ = some (.string bd) := (unhide X7).2.2.1.cell 2
 have HP := hide (unhide HPT y1 (unhide X7).2.2.2.1.ety)
 go_wp2_with fail
 refine (unhide HP).mono ?_
 rintro e x5' ⟨rfl, hb5⟩
 obtain ⟨Ba, Bb, B6, G6, k2, k3, hO6⟩ := unhide X7
 have B5 := Bb.below hb5 Bb.lt
 have TH := hide (blk_there B5 ys.toArray.size (by simp [unhide HYL]))
 have B7 := setCells_all B5 ys (by simp [unhide HYL])
 have HLD := hide (iload_blk 89 _ B7 Tryz.underlying89 rfl (by rw [sizeLeaf]; simp [unhide HYL]))
 have O7 : Only (fun x => x = g1) x5' (x5'.setCells g1 0 ys) := only_cells g1 0 ys rfl
 obtain ⟨n1, n2, n3, n4, m1, m2, m3, m4, hm, hs, hgg⟩ := unhide X1
 have HF := hide (show MKm bw bv w0 w b jb pb mb sb X n S L A hn Mw Mn T (x5'.setCells g1 0 ys) from ⟨S5, ((G6.below hb5).poke (.inr rfl) m2 m3 m4 O7).less (fun _ q => .inl (.inl q)) hm hs, k2, k3, (hO6.trans (Only.of_below (P := fun x => ¬ X x) hb5) (fun _ _ q => q)).trans O7 (fun x _ q r => m1 (by rw [← q]; exact .inl r))⟩)
 clear Ba Bb B6 G6 k2 k3 hO6 hb5 B5 B7 O7 n1 n2 n3 n4 m1 m2 m3 m4 hm hs hgg X1 X7 HP a2
 go_wp2_with (refine wpList_store_mid rfl 89 (.tmp 6) (.tmp 36) rfl g1 0 ys.toArray rfl rfl (unhide TH) (by rw [sizeLeaf]; simp [unhide HYL]) (unhide HYO) ?_)
 exact bodyPost_ret (v := .tuple #[.agg ys.toArray, .int .i64 0]) (results_cell2 (p := 6) (q := 7) (ty := 89) rfl _ _ _ ⟨g1, 0, none⟩ rfl _ (unhide HLD)) rfl ⟨rfl, unhide HF⟩
end Go.Proofs.YtiellebdliifdaaGreatDoor
namespace Go.Proofs.YtiellebdliifdaaGreatDoor
open Go.RowKit Go.Shelf
attribute [local go_sem] Oper.semAt_some
def Kb (Bt : Nat) (W W' : World) : Prop := W'.heap[Bt]? = W.heap[Bt]? ∧ W.heap.size ≤ W'.heap.size
theorem kb_t {Bt : Nat} {A B C : World} (h : Kb Bt A B) (k : Kb Bt B C) : Kb Bt A C := ⟨k.1.trans h.1, Nat.le_trans h.2 k.2⟩
theorem kb_b {Bt : Nat} {w : World} (hB : Bt < w.heap.size) (W : World) (l : Nat) (o o' : Obj) (hl : w.heap.size ≤ l) (_ : W.heap[l]? = some o) (_ : o.isCells = false) (_ : o.isWalk = false) : Kb Bt W (W.putObj l o') :=
 ⟨World.putObj_heap_other (by omega), by simp⟩
theorem grown_bel {w w' : World} (h : Below w.heap.size w w') (row : Option Nat) : w.grownBy w' row := ⟨h.os, h.tape, h.output, h.size, fun k hk _ => h.block k hk⟩
theorem wpListIn_load_mid' {F : Fence} {n : Nat} {ops : Array Oper} {rest : List Oper} {op : Oper} {a : Act} {w : World} {Q : Exit → Act → World → Prop} (hgd : op.guard = none) (ty : TypeId) (x : Operand) (ho : op.op = .load ty x)
  (b o : Nat) (hx : a.eval x = .pointer (some ⟨b, o, none⟩)) (cs : List Value) (d : TypeDesc) (hc : w.rangeAt b o cs) (hu : Tryz.prog.underlying ty = some d) (hd : d.isRow = true) (hi : (Tryz.prog.info? ty).map (·.size) = some cs.length)
  (h : wpListIn F n Tryz.prog ops Q rest (a.put op.dst (.agg cs.toArray)) w) : wpListIn F n Tryz.prog ops Q (op :: rest) a w := by
 refine wpListIn_plain hgd fun K hK => ?_
 have hrun := run_loadAt_mid w b o ty cs d hc hu hd hi
 unfold Oper.wpIn
 refine ⟨?_, ?_⟩
 ·simp [Oper.about, ho]
 ·rw [Oper.semAt_plain F _ _ (by rw [ho]; intro c hc'; cases hc')]
  simp [execOp, ho, hx, hrun, Result.andThen]
  exact hK _ _ h
abbrev Lv (lf : Nat → Nat) := { l : Nat // l < 20 ∧ lf l ≠ 0 }
def thr (lf : Nat → Nat) (k : Nat) : List (Lv lf) := (List.range k).filterMap (fun l => if h : l < 20 ∧ lf l ≠ 0 then some ⟨l, h⟩ else none)
theorem thr_some {lf : Nat → Nat} {k : Nat} (h : k < 20 ∧ lf k ≠ 0) : thr lf (k + 1) = thr lf k ++ [⟨k, h⟩] := by
 rw [thr, List.range_succ, List.filterMap_append]
 simp only [List.filterMap_cons, List.filterMap_nil]
 rw [dif_pos h]
 rfl
theorem thr_none {lf : Nat → Nat} {k : Nat} (h : lf k = 0) : thr lf (k + 1) = thr lf k := by
 rw [thr, List.range_succ, List.filterMap_append]
 simp only [List.filterMap_cons, List.filterMap_nil]
 rw [dif_neg (fun q => q.2 h), List.append_nil]
 rfl
theorem thr_len (lf : Nat → Nat) (k : Nat) : (thr lf k).length ≤ k := by
 have := List.length_filterMap_le (fun l => if h : l < 20 ∧ lf l ≠ 0 then some (⟨l, h⟩ : Lv lf) else none) (List.range k)
 rw [List.length_range] at this
 exact this
set_option maxRecDepth 100000 in
set_option maxHeartbeats 1000000 in
theorem there1_in (n l Bt : Nat) (r num : Int) (lf : Nat → Nat) (J Jx : List (Lv lf) → World → Prop) (W : World) (hJa : AbidesFrom W.heap.size J)
  (hY : ∀ pre x W1, J pre W1 → pre.length < 20 → YieldAt Fence.wide (n - 1) Tryz.prog l #[.int .i64 (x.1 : Int)] W1 fun e W' =>
   (e = .returned (.bool true) ∧ J (pre ++ [x]) W' ∧ Kb Bt W1 W') ∨ (e = .returned (.bool false) ∧ Jx (pre ++ [x]) W'))
  (hB : Blk W Bt (trC r num lf).toArray 69) (h0 : J [] W) :
  CallsIn Fence.wide n Tryz.prog 91 #[.func (.yield l) #[] #[], .pointer (some ⟨Bt, 0, none⟩)] W fun e W' => (∃ v, e = .returned v) ∧
   ((∃ xs, xs = thr lf 20 ∧ J xs W') ∨ (∃ pre, (∃ k, pre = thr lf k) ∧ Jx pre W')) := by
 have HHS := hide (fun l (hl : l < 20) W => tHas_any r num lf l hl W)
 have hxl := trC_len r num lf
 generalize trC r num lf = xs at *
 refine callsIn_of_wp Tryz.func91 rfl trivial ?_ rfl
 simp only [Tryz.ntmps91, List.size_toArray, List.length_cons, List.length_nil, Nat.reduceAdd, Nat.reduceSub, Array.replicate_succ, Array.replicate_zero, List.push_toArray, List.append_toArray, List.nil_append, List.cons_append]
 gi_wp2
 gi_loopw [4] (fun i wr => ∃ k : Nat, k ≤ 20 ∧ i = .int .i64 (k : Int) ∧ J (thr lf k) wr ∧ Blk wr Bt xs.toArray 69 ∧ W.heap.size ≤ wr.heap.size) (fun i _ => 20 - (intOf i).toNat)
 case atStart => exact ⟨0, by omega, rfl, h0, hB, Nat.le_refl _⟩
 case round =>
  obtain ⟨k, hk, rfl, hJ, hB2, hsz⟩ := hrel
  obtain ⟨wo, rfl⟩ : ∃ wo, wo = wr := ⟨_, rfl⟩
  by_cases hlt : k < 20
  ·have hlt2 : (k : Int) < 20 := by omega
   have R := hide (blk_range hB2)
   have HHK := hide (unhide HHS k hlt)
   have HB2 := hide hB2
   have HJ := hide hJ
   clear hJ hB2
   gi_wp2_with (refine wpListIn_load_mid' rfl 69 (.tmp 1) rfl Bt 0 rfl _ _ (unhide R) Tryz.underlying69 rfl (by rw [sizeTree, hxl]) ?_)
   refine ⟨trivial, (fun h => by cases h), ?_⟩
   refine (callsIn_wide.2 (unhide HHK wo)).mono ?_
   rintro e w1 ⟨rfl, hb1⟩
   have hJ1 : J (thr lf k) w1 := hJa _ _ _ none (unhide HJ) (grown_bel hb1 none) (by simp)
   have HB1 := hide ((unhide HB2).below hb1 (unhide HB2).lt)
   have hs1 : W.heap.size ≤ w1.heap.size := Nat.le_trans hsz hb1.size
   clear HJ HB2 R HHK hb1
   by_cases hz : lf k = 0
   ·have hv : ((lf k : Int) != 0) = false := by rw [hz]; rfl
    rw [hv]
    have HJ1 := hide (show J (thr lf (k + 1)) w1 from by rw [thr_none hz]; exact hJ1)
    clear hJ1 hv
    gi_wp2
    refine ⟨fun _ h => (by cases h), ?_⟩
    gi_wp2
    go_roundw
    case rel => exact ⟨k + 1, by omega, by go_num, unhide HJ1, unhide HB1, hs1⟩
    case measure => simp [intOf]; omega
   ·have hv : ((lf k : Int) != 0) = true := by simp; omega
    rw [hv]
    obtain ⟨fn, tmps, assign, body, hy, hR⟩ := hY (thr lf k) ⟨k, hlt, hz⟩ w1 hJ1 (by have := thr_len lf k; omega)
    have HTS := hide (thr_some (lf := lf) ⟨hlt, hz⟩)
    clear hv hJ1
    dsimp only at hy
    gi_wp2
    refine ⟨(fun h => by cases h), hR.mono ?_⟩
    rintro e W3 (⟨rfl, hJ3, hk3⟩ | ⟨rfl, hJx3⟩)
    ·have HJ3 := hide (show J (thr lf (k + 1)) W3 from by rw [unhide HTS]; exact hJ3)
     have HB3 := hide ((unhide HB1).kept hk3.1)
     have hs3 : W.heap.size ≤ W3.heap.size := Nat.le_trans hs1 hk3.2
     clear hJ3 hk3 hR hy
     gi_wp2
     go_roundw
     case rel => exact ⟨k + 1, by omega, by go_num, unhide HJ3, unhide HB3, hs3⟩
     case measure => simp [intOf]; omega
    ·have HJX := hide (show Jx (thr lf (k + 1)) W3 from by rw [unhide HTS]; exact hJx3)
     clear hJx3 hR hy
     gi_wp2
     refine bodyPost_ret (results_none rfl _ _ _) rfl ?_
     exact ⟨⟨_, rfl⟩, .inr ⟨_, ⟨k + 1, rfl⟩, unhide HJX⟩⟩
  ·have hge : ¬ (k : Int) < 20 := by omega
   obtain rfl : k = 20 := by omega
   gi_wp2
   go_end0
   exact ⟨⟨_, rfl⟩, .inl hJ⟩
end Go.Proofs.YtiellebdliifdaaGreatDoor
namespace Go.Proofs.YtiellebdliifdaaGreatDoor
open Go.RowKit Go.Shelf
attribute [local go_sem] Oper.semAt_some
theorem there_any (xs : List Value) (w : World) :
  Calls Tryz.prog 36 #[.agg xs.toArray] w fun e w' => e = .returned (.func (.func 91) #[] #[.pointer (some ⟨w.heap.size, 0, none⟩)]) ∧ w' = w.alloc (.cells xs.toArray 69) := by
 go_enter Tryz.func36, Tryz.ntmps36
 go_wp2
 go_ret
 exact ⟨rfl, rfl⟩
theorem there_stops (n Bt : Nat) (r num : Int) (lf : Nat → Nat) (w : World) (hB : Blk w Bt (trC r num lf).toArray 69) :
  SeqStopsK Fence.wide n Tryz.prog 91 #[.pointer (some ⟨Bt, 0, none⟩)] (fun x : Lv lf => #[.int .i64 (x.1 : Int)]) (Kb Bt) (fun xs => xs = thr lf 20) (fun pre => ∃ k, pre = thr lf k) 20 w := fun l J Jx W hW hJa _ hY h0 =>
 there1_in n l Bt r num lf J Jx W hJa hY (hB.below hW hB.lt) h0
def bC (e : Nat → Ent) : List Value := (List.range 120).map (fun i => Value.string (if i % 2 = 0 then vtD (e (i / 2)) else vtW (e (i / 2))))
theorem bC_len (e : Nat → Ent) : (bC e).length = 120 := by simp [bC]
theorem bC_one (e : Nat → Ent) : ∀ v ∈ bC e, v.oneCell' = true := fun v hv => by
 obtain ⟨i, _, rfl⟩ := List.mem_map.1 hv
 rfl
theorem bC_get (e : Nat → Ent) (i : Nat) (hi : i < 120) : (bC e)[i]? = some (Value.string (if i % 2 = 0 then vtD (e (i / 2)) else vtW (e (i / 2)))) := by
 simp [bC, List.getElem?_range hi]
theorem bC_zero : bC (fun _ => none) = List.replicate 120 (.string ⟨#[]⟩) := by
 apply List.ext_getElem?
 intro i
 by_cases hi : i < 120
 ·rw [bC_get _ i hi, List.getElem?_replicate, if_pos hi]
  split <;> rfl
 ·rw [List.getElem?_eq_none (by rw [bC_len]; omega), List.getElem?_eq_none (by rw [List.length_replicate]; omega)]
def eP (e : Nat → Ent) (pre : List Nat) : Nat → Ent := fun i => if i / 3 ∈ pre then e i else none
theorem eP_nil (e : Nat → Ent) : eP e [] = fun _ => none := by funext i; simp [eP]
theorem bC_copy (e : Nat → Ent) (pre : List Nat) (l : Nat) (hl : l < 20) (f : Nat → Ent) (hf : ∀ j, j < 3 → f j = e (3 * l + j)) :
  (bC (eP e pre)).take (6 * l) ++ lfC f ++ (bC (eP e pre)).drop (6 * l + (lfC f).length) = bC (eP e (pre ++ [l])) := by
 have h6 := lfC_len f
 have hb := bC_len (eP e pre)
 rw [h6]
 apply List.ext_getElem?
 intro i
 by_cases hi : i < 120
 ·rw [bC_get _ i hi]
  by_cases h1 : i < 6 * l
  ·rw [List.append_assoc, List.getElem?_append_left (by rw [List.length_take, hb]; omega), List.getElem?_take, if_pos h1, bC_get _ i hi]
   have e1 : (i / 2) / 3 ≠ l := by omega
   simp only [eP, List.mem_append, List.mem_singleton, e1, or_false]
  ·by_cases h2 : i < 6 * l + 6
   ·rw [List.append_assoc, List.getElem?_append_right (by rw [List.length_take, hb]; omega), List.length_take, hb, List.getElem?_append_left (by rw [h6]; omega)]
    have e1 : (i / 2) / 3 = l := by omega
    have e2 : i - min (6 * l) 120 = i - 6 * l := by omega
    rw [e2]
    simp only [eP, List.mem_append, List.mem_singleton, e1, or_true, if_true]
    obtain ⟨a1, a2⟩ := lfC_at2 f ((i - 6 * l) / 2) (by omega)
    rw [hf _ (by omega), show 3 * l + (i - 6 * l) / 2 = i / 2 by omega] at a1 a2
    rw [List.getElem?_toArray] at a1 a2
    by_cases h3 : i % 2 = 0
    ·rw [if_pos h3, ← a1, show i - 6 * l = (i - 6 * l) / 2 * 2 by omega]
     congr 1
     omega
    ·rw [if_neg h3, ← a2]
     congr 1
     omega
   ·rw [List.getElem?_append_right (by rw [List.length_append, List.length_take, hb, h6]; omega), List.length_append, List.length_take, hb, h6, List.getElem?_drop, show 6 * l + 6 + (i - (min (6 * l) 120 + 6)) = i by omega, bC_get _ i hi]
    have e1 : (i / 2) / 3 ≠ l := by omega
    simp only [eP, List.mem_append, List.mem_singleton, e1, or_false]
 ·rw [List.getElem?_eq_none (by rw [List.length_append, List.length_append, List.length_take, List.length_drop, hb, h6]; omega), List.getElem?_eq_none (by rw [bC_len]; omega)]
theorem mem_thr {lf : Nat → Nat} {k l : Nat} (hl : l < k) (h : l < 20 ∧ lf l ≠ 0) : l ∈ (thr lf k).map (·.1) := by
 refine List.mem_map.2 ⟨⟨l, h⟩, List.mem_filterMap.2 ⟨l, List.mem_range.2 hl, ?_⟩, rfl⟩
 rw [dif_pos h]
theorem bC_all {v : Vol} (h : ∀ l, l < 20 → (v.lf l = 0 ↔ ∀ j, j < 3 → v.e (3 * l + j) = none)) : bC (eP v.e ((thr v.lf 20).map (·.1))) = bC v.e := by
 apply List.ext_getElem?
 intro i
 by_cases hi : i < 120
 ·rw [bC_get _ i hi, bC_get _ i hi]
  have e : eP v.e ((thr v.lf 20).map (·.1)) (i / 2) = v.e (i / 2) := by
   unfold eP
   by_cases q : v.lf ((i / 2) / 3) = 0
   ·have := (h ((i / 2) / 3) (by omega)).1 q ((i / 2) % 3) (by omega)
    rw [show 3 * (i / 2 / 3) + i / 2 % 3 = i / 2 by omega] at this
    rw [this]
    split <;> rfl
   ·rw [if_pos (mem_thr (by omega) ⟨by omega, q⟩)]
  rw [e]
 ·rw [List.getElem?_eq_none (by rw [bC_len]; omega), List.getElem?_eq_none (by rw [bC_len]; omega)]
end Go.Proofs.YtiellebdliifdaaGreatDoor
