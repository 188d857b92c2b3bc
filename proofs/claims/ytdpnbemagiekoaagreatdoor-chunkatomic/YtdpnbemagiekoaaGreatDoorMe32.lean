import Derived.Test.YtdpnbemagiekoaaGreatDoorMe31
import Derived.Test.YtdpnbemagiekoaaGreatDoorMe20
set_option maxHeartbeats 2000000
set_option maxRecDepth 100000
namespace Go.Proofs.YtdpnbemagiekoaaGreatDoor
open List renaming getElem_toArray -> lD, getElem_cons_succ -> lE, getElem_cons_zero -> lF
section
open Go.RowKit Go.Maps Go.Sort Go.Shelf
theorem CChg.from {w0 w x : World} {b jb pb xb eb bm mb sb : Nat} {Y : Nat -> Prop} {n : Nat} {S : PS} {L : List ByteArray} {A : List (Nat × Nat)} {hn : Nat} {Mw Mn : List ByteArray} {Q : List Nat} {T' U' : Nat -> En} {B' : Nat -> Bool} {R : List ByteArray -> Prop} {w' : World} (ho : Only (fun x => ¬ Y x) w x) (h : CChg w0 x b jb pb xb eb bm mb sb Y n S L A hn Mw Mn Q T' U' B' R w') : CChg w0 w b jb pb xb eb bm mb sb Y n S L A hn Mw Mn Q T' U' B' R w' := by
 obtain ⟨S', Mn', k1, k2, k3, k4, k5, k6, k7⟩ := h
 exact ⟨S', Mn', k1, k2, k3, k4, k5, k6, ho.trans k7 (fun _ _ q => q)⟩
theorem CChg.kept {w0 w x : World} {b jb pb xb eb bm mb sb : Nat} {Y : Nat -> Prop} {n : Nat} {S S1 : PS} {L : List ByteArray} {A : List (Nat × Nat)} {hn : Nat} {Mw Mn : List ByteArray} {Q : List Nat} {T' U' : Nat -> En} {B' : Nat -> Bool} {R : List ByteArray -> Prop} {w' : World} (ho : Only (fun x => ¬ Y x) w x) (ht : Tk S1 S) (h : CChg w0 x b jb pb xb eb bm mb sb Y n S1 L A hn Mw Mn Q T' U' B' R w') : CChg w0 w b jb pb xb eb bm mb sb Y n S L A hn Mw Mn Q T' U' B' R w' := by
 obtain ⟨S', Mn', k1, k2, k3, k4, k5, k6, k7⟩ := h
 exact ⟨S', Mn', k1, k2, k3.trans ht.2, by rw [<- ht.1]; exact k4, k5, k6, ho.trans k7 (fun _ _ q => q)⟩
theorem zN9 {S S1 : PS} (ht : Tk S1 S) (i : Int) : zAQ S1 i = zAQ S i := by unfold zAQ; rw [ht.1]
theorem zGV {w0 w : World} {b jb pb xb eb bm mb sb : Nat} {Y : Nat -> Prop} {n : Nat} {S : PS} {L : List ByteArray} {A : List (Nat × Nat)} {hn : Nat} {Mw Mn : List ByteArray} {T U : Nat -> En} {B : Nat -> Bool} (h : CG w0 w b jb pb xb eb bm mb sb Y n S L A hn Mw Mn T U B) (i : Nat) (hi : i < n) : Calls Tryz.prog 67 #[.pointer (some ⟨sb, 0, none⟩), .int .i64 (i : Int)] w fun e w' => e = .returned (.tuple #[.string (Mn.getD (30 + i) ByteArray.empty), .nilIface]) /\ zHx w0 w b jb pb xb eb bm mb sb Y n S L A hn Mw Mn T U B w' := by
 have hn24 := h.n24
 have hd : Below w.heap.size w w.drew := (Below.refl _ w).drew
 have hG := h.below hd
 obtain ⟨r1, r2, r3, r4, r5⟩ := h.ig.seen.read (30 + i) (by omega) (by omega)
 have hc := zDw hG.ig.pk ((30 + i : Nat) : Int) (zCB h.ig.seen.rst (30 + i) (by rw [h.ig.seen.len]; omega) h.ig.seen.siz)
 rw [r1, r2] at hc
 have HR := uB hc
 have HF := uB (fun W (K : PK w0 W b jb pb (zAx S ((30 + i : Nat) : Int)).2.2 (Xf Y xb eb bm)) (ho : Only (fun x => ¬ Xf Y xb eb bm x) w.drew W) => (show CG w0 W b jb pb xb eb bm mb sb Y n (zAx S ((30 + i : Nat) : Int)).2.2 L A hn Mw Mn T U B /\ Only (fun x => ¬ Xf Y xb eb bm x) w W /\ ((zAx S ((30 + i : Nat) : Int)).2.2.op = S.op /\ Tk (zAx S ((30 + i : Nat) : Int)).2.2 S) from ⟨hG.next K ho r3 h.ig.is h.ig.ok h.ms, (Only.of_below (P := fun x => ¬ Xf Y xb eb bm x) hd).trans ho (fun _ _ q => q), r4, r5, (zCs h.ig.seen.rst (30 + i) (by rw [h.ig.seen.len]; omega)).2.2.2.2⟩))
 have e1 : (30 : Int) + (i : Int) = ((30 + i : Nat) : Int) := by omega
 have hwq : IntKind.i64.wrap ((30 + i : Nat) : Int) = ((30 + i : Nat) : Int) := zAB _ (by omega) (by omega)
 have HWH := uB (fun t W => zBZ t W)
 obtain ⟨c0, c1, c2, c3⟩ := h.c
 generalize Mn.getD (30 + i) ByteArray.empty = t at *
 generalize hk : (30 + i : Nat) = ik at *
 clear h hG hc r1 r2 r3 r4 r5 hn24 hd hi hk
 go_enter Tryz.func67, Tryz.ntmps67
 go_wp2
 refine wp_region_held_drew (S := fun w' => w'.cell? ⟨sb, 0, none⟩ = some (.pointer (some ⟨pb, 0, none⟩)) /\ w'.cell? ⟨sb, 3, none⟩ = some (.int .i64 30)) (by kernel_rfl) ⟨c0, c3⟩ ?_
 intro hS
 refine yL 0 (some 9) (.pointer (some ⟨sb, 0, none⟩)) rfl (fun w hSw => by obtain ⟨q1, q2⟩ := hSw; go_simp) hS ?_
 refine yL 1 (some 10) (.pointer (some ⟨sb, 0, none⟩)) rfl (fun w hSw => by obtain ⟨q1, q2⟩ := hSw; go_simp) hS ?_
 refine yL 2 (some 11) (.pointer (some ⟨sb, 0, none⟩)) rfl (fun w hSw => by obtain ⟨q1, q2⟩ := hSw; go_simp) hS ?_
 refine yL 3 (some 12) (.pointer (some ⟨pb, 0, none⟩)) rfl (fun w hSw => by obtain ⟨q1, q2⟩ := hSw; go_simp) hS ?_
 refine yL 4 (some 13) (.pointer (some ⟨sb, 0, none⟩)) rfl (fun w hSw => by obtain ⟨q1, q2⟩ := hSw; go_simp) hS ?_
 refine yL 5 (some 14) (.pointer (some ⟨sb, 0, none⟩)) rfl (fun w hSw => by obtain ⟨q1, q2⟩ := hSw; go_simp) hS ?_
 refine yL 6 (some 15) (.pointer (some ⟨sb, 3, none⟩)) rfl (fun w hSw => by obtain ⟨q1, q2⟩ := hSw; go_simp) hS ?_
 refine yL 7 (some 16) (.int .i64 30) rfl (fun w hSw => by obtain ⟨q1, q2⟩ := hSw; go_simp) hS ?_
 refine yL 8 (some 17) (.int .i64 (i : Int)) rfl (fun w hSw => by obtain ⟨q1, q2⟩ := hSw; go_simp) hS ?_
 refine yL 9 (some 18) (.int .i64 (ik : Int)) rfl (fun w hSw => by obtain ⟨q1, q2⟩ := hSw; go_simp) hS ?_
 refine wpAnyH_ready (rs := [10]) (by kernel_rfl) (by simp) ?_
 refine AllReadyH.cons rfl (fun K hK => ?_) AllReadyH.nil
 simp only [lD, lE, lF]
 go_simp
 refine (uA HR).mono ?_
 rintro e x1 ⟨rfl, K1, hO1⟩
 obtain ⟨G1, O1, t1⟩ := uA HF x1 K1 hO1
 obtain ⟨d0, d1, d2, d3⟩ := G1.c
 have X1 := uB (And.intro G1 (And.intro O1 t1))
 clear K1 hO1 G1 O1 t1 HR HF c0 c1 c2 c3
 refine hK.out _ _ ⟨d0, d3⟩ (fun hS => ?_)
 clear hK K
 refine yL 11 (some 8) (.tuple #[.string t, .int .i64 0]) rfl (fun w hSw => by obtain ⟨q1, q2⟩ := hSw; go_simp) hS ?_
 refine yL 12 (some 20) (.string t) rfl (fun w hSw => by obtain ⟨q1, q2⟩ := hSw; go_simp) hS ?_
 refine yL 13 (some 21) (.int .i64 0) rfl (fun w hSw => by obtain ⟨q1, q2⟩ := hSw; go_simp) hS ?_
 refine yL 14 (some 6) (.string t) rfl (fun w hSw => by obtain ⟨q1, q2⟩ := hSw; go_simp) hS ?_
 refine yL 15 (some 7) (.int .i64 0) rfl (fun w hSw => by obtain ⟨q1, q2⟩ := hSw; go_simp) hS ?_
 refine wpAnyH_done (by kernel_rfl) ?_ _
 clear hS d0 d1 d2 d3
 go_wp2_with (go_at_call 102; refine (uA HWH _ _).mono ?_; rintro e w' ⟨rfl, hw'⟩; subst w')
 go_ret2
 exact ⟨rfl, _, (uA X1).1, (uA X1).2.2.1, (uA X1).2.2.2, (uA X1).2.1⟩
theorem zHH {w0 w : World} {b jb pb xb eb bm mb sb : Nat} {Y : Nat -> Prop} {n : Nat} {S : PS} {L : List ByteArray} {A : List (Nat × Nat)} {hn : Nat} {Mw Mn : List ByteArray} {T : Nat -> En} {B : Nat -> Bool} (h : CG w0 w b jb pb xb eb bm mb sb Y n S L A hn Mw Mn T T B) (ho : S.op = true) (i : Nat) (hi : i < n) (d : ByteArray) (c : Nat) (hc : c <= 65534) (hT : T i = some (d, c)) (hr : zAQ S ((20 + i / 6 : Nat) : Int) = true) : Calls Tryz.prog 52 #[.pointer (some ⟨sb, 0, none⟩), .agg #[.int .i64 (i : Int), .string d, .int .i64 (c : Int)]] w fun e w' => e = .returned .nilIface /\ CChg w0 w b jb pb xb eb bm mb sb Y n S L A hn Mw Mn [20 + i / 6] (upd T i (some (d, c + 1))) (upd T i (some (d, c + 1))) B (fun _ => True) w' := by
 have hok := h.ig.ok.ok i d c hT
 have hcc : 1 <= c /\ c <= 65535 := hok.2
 obtain ⟨g, hg⟩ : ∃ q, w.heap.size = q := ⟨_, rfl⟩
 obtain ⟨x1, hx1⟩ : ∃ q, w.alloc (.cells #[.int .i64 (i : Int), .string d, .int .i64 (c : Int)] 40) = q := ⟨_, rfl⟩
 have hb1 : Below g w x1 := by rw [<- hx1, <- hg]; exact (Below.refl _ w).alloc (Nat.le_refl _) _
 have B1 : Blk x1 g #[.int .i64 (i : Int), .string d, .int .i64 (c : Int)] 40 := by rw [<- hx1, <- hg]; exact Blk.new w _ _
 obtain ⟨v, hv⟩ : ∃ q : Nat, c + 1 = q := ⟨_, rfl⟩
 have hvi : ((c : Int) + 1) = (v : Int) := by omega
 have hvb : v <= 65535 := by omega
 obtain ⟨x2, hx2⟩ : ∃ q, x1.setCell ⟨g, 2, none⟩ (.int .i64 (v : Int)) = q := ⟨_, rfl⟩
 have B2 : Blk x2 g #[.int .i64 (i : Int), .string d, .int .i64 (v : Int)] 40 := by rw [<- hx2]; exact B1.set 2 (.int .i64 (v : Int))
 have hb2 : Below g w x2 := by rw [<- hx2]; exact hb1.setCell (p := ⟨g, 2, none⟩) (Nat.le_refl _) _
 have q2 : x1.cell? ⟨g, 2, none⟩ = some (.int .i64 (c : Int)) := B1.cell 2
 have p2 := B1.frozen 2
 have G2 : CG w0 x2.drew b jb pb xb eb bm mb sb (fun x => Y x ∨ x = g) n S L A hn Mw Mn T T B := h.more (by rw [hg]; exact hb2.drew) (fun x q => q.imp_right (fun e => by rw [e, hg]; exact ⟨Nat.le_refl _, B2.lt⟩)) (.inl h.ym) (.inl h.ys)
 have HP := uB (G2.put ho i hi d hok.1 v (by omega) (by omega) (fun j c' hj => h.ig.ok.one j i d c' c hj hT) hr)
 have G2' : CG w0 x2 b jb pb xb eb bm mb sb Y n S L A hn Mw Mn T T B := h.below (by rw [hg]; exact hb2)
 obtain ⟨c0, c1, c2, c3⟩ := G2'.c
 have HWH := uB (fun t W => zBZ t W)
 have X2 := uB (And.intro B2 (show Only (fun x => ¬ Y x) w x2.drew from Only.of_below (by rw [hg]; exact hb2.drew)))
 have HC := uB (And.intro h.ym h.ys)
 have hne : ((c : Int) == 65535) = false := by simp; omega
 rw [hv]
 clear h ho hi hT hr hok hb1 B1 hb2 G2 G2' hcc hv B2
 go_enter Tryz.func52, Tryz.ntmps52
 go_wp2
 clear q2 p2
 generalize x1.setCell ⟨g, 2, none⟩ (.int .i64 (v : Int)) = x2' at *
 subst hx2
 refine wp_region_held_drew (S := fun w' => w'.cell? ⟨sb, 2, none⟩ = some (.pointer (some ⟨xb, 0, none⟩)) /\ Blk w' g #[.int .i64 (i : Int), .string d, .int .i64 (v : Int)] 40) (by kernel_rfl) ⟨c2, (uA X2).1⟩ ?_
 intro hS
 refine yL 0 (some 13) (.pointer (some ⟨sb, 0, none⟩)) rfl (fun w hSw => by obtain ⟨q1, q2⟩ := hSw; go_simp) hS ?_
 refine yL 1 (some 14) (.pointer (some ⟨sb, 0, none⟩)) rfl (fun w hSw => by obtain ⟨q1, q2⟩ := hSw; go_simp) hS ?_
 refine yL 2 (some 15) (.pointer (some ⟨sb, 2, none⟩)) rfl (fun w hSw => by obtain ⟨q1, q2⟩ := hSw; go_simp) hS ?_
 refine yL 3 (some 16) (.pointer (some ⟨xb, 0, none⟩)) rfl (fun w hSw => by obtain ⟨q1, q2⟩ := hSw; go_simp) hS ?_
 refine yL 4 (some 17) (.agg #[.int .i64 (i : Int), .string d, .int .i64 (v : Int)]) rfl (fun w hSw => by obtain ⟨q1, q2⟩ := hSw; have a0 : w.cell? ⟨g, 0, none⟩ = some (.int .i64 (i : Int)) := Blk.cell q2 0; have a1 : w.cell? ⟨g, 1, none⟩ = some (.string d) := Blk.cell q2 1; have a2 : w.cell? ⟨g, 2, none⟩ = some (.int .i64 (v : Int)) := Blk.cell q2 2; go_simp) hS ?_
 refine wpAnyH_ready (rs := [5]) (by kernel_rfl) (by simp) ?_
 refine AllReadyH.cons rfl (fun K hK => ?_) AllReadyH.nil
 simp only [lD, lE, lF]
 go_simp
 refine (uA HP).mono ?_
 rintro e x3 ⟨rfl, hC⟩
 have hC' := hC
 obtain ⟨S3, Mn3, G3, -, -, -, -, -, O3⟩ := hC'
 obtain ⟨d0, d1, d2, d3⟩ := G3.c
 have B3 := (Blk.only (uA X2).1 (Only.of_below (P := fun _ => False) ((Below.refl _ _).drew)) (fun q => q)).only O3 (fun q => q (.inr rfl))
 have X3 := uB (CChg.from (uA X2).2 (hC.less (Y := Y) (fun _ q => .inl q) (uA HC).1 (uA HC).2))
 clear hC G3 O3 HP X2 c0 c1 c2 c3
 refine hK.out _ _ ⟨d2, B3⟩ (fun hS => ?_)
 clear hK K
 refine wpAnyH_ready (rs := [6]) (by kernel_rfl) (by simp) ?_
 refine AllReadyH.cons rfl (fun K hK => ?_) AllReadyH.nil
 simp only [lD, lE, lF]
 go_simp
 refine (uA HWH _ _).mono ?_
 rintro e w' ⟨rfl, hw'⟩
 subst w'
 refine hK.out _ _ ⟨d2, B3⟩ (fun hS => ?_)
 clear hK K
 refine yL 7 (some 4) (.nilIface) rfl (fun w hSw => by obtain ⟨q1, q2⟩ := hSw; go_simp) hS ?_
 refine wpAnyH_done (by kernel_rfl) ?_ _
 clear hS d0 d1 d2 d3 B3
 go_wp2
 go_ret
 exact ⟨rfl, uA X3⟩
theorem zGl {w0 w : World} {b jb pb xb eb bm mb sb : Nat} {Y : Nat -> Prop} {n : Nat} {S : PS} {L : List ByteArray} {A : List (Nat × Nat)} {hn : Nat} {Mw Mn : List ByteArray} {T : Nat -> En} {B : Nat -> Bool} (h : CG w0 w b jb pb xb eb bm mb sb Y n S L A hn Mw Mn T T B) (ho : S.op = true) (i : Nat) (hi : i < n) (d : ByteArray) (c : Nat) (hc : 2 <= c) (hT : T i = some (d, c)) (hr : zAQ S ((20 + i / 6 : Nat) : Int) = true) : Calls Tryz.prog 64 #[.pointer (some ⟨sb, 0, none⟩), .agg #[.int .i64 (i : Int), .string d, .int .i64 (c : Int)]] w fun e w' => e = .returned .nilIface /\ CChg w0 w b jb pb xb eb bm mb sb Y n S L A hn Mw Mn [20 + i / 6] (upd T i (some (d, c - 1))) (upd T i (some (d, c - 1))) B (fun _ => True) w' := by
 have hok := h.ig.ok.ok i d c hT
 have hcc : 1 <= c /\ c <= 65535 := hok.2
 obtain ⟨g, hg⟩ : ∃ q, w.heap.size = q := ⟨_, rfl⟩
 obtain ⟨x1, hx1⟩ : ∃ q, w.alloc (.cells #[.int .i64 (i : Int), .string d, .int .i64 (c : Int)] 40) = q := ⟨_, rfl⟩
 have hb1 : Below g w x1 := by rw [<- hx1, <- hg]; exact (Below.refl _ w).alloc (Nat.le_refl _) _
 have B1 : Blk x1 g #[.int .i64 (i : Int), .string d, .int .i64 (c : Int)] 40 := by rw [<- hx1, <- hg]; exact Blk.new w _ _
 obtain ⟨v, hv⟩ : ∃ q : Nat, c - 1 = q := ⟨_, rfl⟩
 have hvi : ((c : Int) - 1) = (v : Int) := by omega
 have hvb : v <= 65535 := by omega
 obtain ⟨x2, hx2⟩ : ∃ q, x1.setCell ⟨g, 2, none⟩ (.int .i64 (v : Int)) = q := ⟨_, rfl⟩
 have B2 : Blk x2 g #[.int .i64 (i : Int), .string d, .int .i64 (v : Int)] 40 := by rw [<- hx2]; exact B1.set 2 (.int .i64 (v : Int))
 have hb2 : Below g w x2 := by rw [<- hx2]; exact hb1.setCell (p := ⟨g, 2, none⟩) (Nat.le_refl _) _
 have q2 : x1.cell? ⟨g, 2, none⟩ = some (.int .i64 (c : Int)) := B1.cell 2
 have p2 := B1.frozen 2
 have G2 : CG w0 x2.drew b jb pb xb eb bm mb sb (fun x => Y x ∨ x = g) n S L A hn Mw Mn T T B := h.more (by rw [hg]; exact hb2.drew) (fun x q => q.imp_right (fun e => by rw [e, hg]; exact ⟨Nat.le_refl _, B2.lt⟩)) (.inl h.ym) (.inl h.ys)
 have HP := uB (G2.put ho i hi d hok.1 v (by omega) (by omega) (fun j c' hj => h.ig.ok.one j i d c' c hj hT) hr)
 have G2' : CG w0 x2 b jb pb xb eb bm mb sb Y n S L A hn Mw Mn T T B := h.below (by rw [hg]; exact hb2)
 obtain ⟨c0, c1, c2, c3⟩ := G2'.c
 have HWH := uB (fun t W => zBZ t W)
 have X2 := uB (And.intro B2 (show Only (fun x => ¬ Y x) w x2.drew from Only.of_below (by rw [hg]; exact hb2.drew)))
 have HC := uB (And.intro h.ym h.ys)
 rw [hv]
 clear h ho hi hT hr hok hb1 B1 hb2 G2 G2' hcc hv B2
 go_enter Tryz.func64, Tryz.ntmps64
 go_wp2
 clear q2 p2
 generalize x1.setCell ⟨g, 2, none⟩ (.int .i64 (v : Int)) = x2' at *
 subst hx2
 refine wp_region_held_drew (S := fun w' => w'.cell? ⟨sb, 2, none⟩ = some (.pointer (some ⟨xb, 0, none⟩)) /\ Blk w' g #[.int .i64 (i : Int), .string d, .int .i64 (v : Int)] 40) (by kernel_rfl) ⟨c2, (uA X2).1⟩ ?_
 intro hS
 refine yL 0 (some 9) (.pointer (some ⟨sb, 0, none⟩)) rfl (fun w hSw => by obtain ⟨q1, q2⟩ := hSw; go_simp) hS ?_
 refine yL 1 (some 10) (.pointer (some ⟨sb, 0, none⟩)) rfl (fun w hSw => by obtain ⟨q1, q2⟩ := hSw; go_simp) hS ?_
 refine yL 2 (some 11) (.pointer (some ⟨sb, 2, none⟩)) rfl (fun w hSw => by obtain ⟨q1, q2⟩ := hSw; go_simp) hS ?_
 refine yL 3 (some 12) (.pointer (some ⟨xb, 0, none⟩)) rfl (fun w hSw => by obtain ⟨q1, q2⟩ := hSw; go_simp) hS ?_
 refine yL 4 (some 13) (.agg #[.int .i64 (i : Int), .string d, .int .i64 (v : Int)]) rfl (fun w hSw => by obtain ⟨q1, q2⟩ := hSw; have a0 : w.cell? ⟨g, 0, none⟩ = some (.int .i64 (i : Int)) := Blk.cell q2 0; have a1 : w.cell? ⟨g, 1, none⟩ = some (.string d) := Blk.cell q2 1; have a2 : w.cell? ⟨g, 2, none⟩ = some (.int .i64 (v : Int)) := Blk.cell q2 2; go_simp) hS ?_
 refine wpAnyH_ready (rs := [5]) (by kernel_rfl) (by simp) ?_
 refine AllReadyH.cons rfl (fun K hK => ?_) AllReadyH.nil
 simp only [lD, lE, lF]
 go_simp
 refine (uA HP).mono ?_
 rintro e x3 ⟨rfl, hC⟩
 have hC' := hC
 obtain ⟨S3, Mn3, G3, -, -, -, -, -, O3⟩ := hC'
 obtain ⟨d0, d1, d2, d3⟩ := G3.c
 have B3 := (Blk.only (uA X2).1 (Only.of_below (P := fun _ => False) ((Below.refl _ _).drew)) (fun q => q)).only O3 (fun q => q (.inr rfl))
 have X3 := uB (CChg.from (uA X2).2 (hC.less (Y := Y) (fun _ q => .inl q) (uA HC).1 (uA HC).2))
 clear hC G3 O3 HP X2 c0 c1 c2 c3
 refine hK.out _ _ ⟨d2, B3⟩ (fun hS => ?_)
 clear hK K
 refine wpAnyH_ready (rs := [6]) (by kernel_rfl) (by simp) ?_
 refine AllReadyH.cons rfl (fun K hK => ?_) AllReadyH.nil
 simp only [lD, lE, lF]
 go_simp
 refine (uA HWH _ _).mono ?_
 rintro e w' ⟨rfl, hw'⟩
 subst w'
 refine hK.out _ _ ⟨d2, B3⟩ (fun hS => ?_)
 clear hK K
 refine yL 7 (some 4) (.nilIface) rfl (fun w hSw => by obtain ⟨q1, q2⟩ := hSw; go_simp) hS ?_
 refine wpAnyH_done (by kernel_rfl) ?_ _
 clear hS d0 d1 d2 d3 B3
 go_wp2
 go_ret
 exact ⟨rfl, uA X3⟩
end
section
open Go.RowKit Go.Maps Go.Sort Go.Shelf
theorem CG.poke1 {w0 w : World} {b jb pb xb eb bm mb sb : Nat} {Y : Nat -> Prop} {n : Nat} {S : PS} {L : List ByteArray} {A : List (Nat × Nat)} {hn : Nat} {Mw Mn : List ByteArray} {T U : Nat -> En} {B : Nat -> Bool} {g : Nat} (h : CG w0 w b jb pb xb eb bm mb sb (fun x => Y x ∨ x = g) n S L A hn Mw Mn T U B) (hy : Y mb /\ Y sb /\ mb ≠ g /\ sb ≠ g /\ w0.heap.size <= g) {w' : World} (ho : Only (fun x => x = g) w w') : CG w0 w' b jb pb xb eb bm mb sb Y n S L A hn Mw Mn T U B :=
 ⟨h.ig.poke ho (fun x q _ => .inr q) (fun x q => by rw [q]; exact hy.2.2.2.2) (fun x q => .inl (.inl q)), h.mp.only ho hy.2.2.1, h.ms, hy.1, hy.2.1, h.st.only ho hy.2.2.2.1, h.n24⟩
theorem CG.away {w0 w : World} {b jb pb xb eb bm mb sb : Nat} {Y : Nat -> Prop} {n : Nat} {S : PS} {L : List ByteArray} {A : List (Nat × Nat)} {hn : Nat} {Mw Mn : List ByteArray} {T U : Nat -> En} {B : Nat -> Bool} (h : CG w0 w b jb pb xb eb bm mb sb Y n S L A hn Mw Mn T U B) {g : Nat} (hg : w.heap.size = g) : Y mb /\ Y sb /\ mb ≠ g /\ sb ≠ g /\ w0.heap.size <= g :=
 ⟨h.ym, h.ys, Nat.ne_of_lt (by rw [<- hg]; exact h.ig.pk.lt mb (.inl h.ym)), Nat.ne_of_lt (by rw [<- hg]; exact h.ig.pk.lt sb (.inl h.ys)), by rw [<- hg]; exact h.bel.size⟩
theorem zMs (w : World) : Calls Tryz.prog 43 #[.nilIface] w fun e w' => e = .returned (.int .i64 0) /\ w' = w := by
 go_enter Tryz.func43, Tryz.ntmps43
 go_wp2
 go_ret
 exact ⟨rfl, rfl⟩
theorem zLh {w : World} {e0 e1 e2 : Addr} (hs : Snt w e0 e1 e2) : Calls Tryz.prog 43 #[eP e0] w fun e w' => e = .returned (.int .i64 90) /\ w' = w := by
 obtain ⟨ca0, t0, k0⟩ := hs.h0
 obtain ⟨ca1, t1, k1⟩ := hs.h1
 obtain ⟨ca2, t2, k2⟩ := hs.h2
 have g0 := hs.g0
 have g1 := hs.g1
 have g2 := hs.g2
 have H0 := uB (zJ3 e0 w)
 clear hs k0 k1 k2
 go_enter Tryz.func43, Tryz.ntmps43
 go_wp2_with fail
 refine (uA H0).mono ?_
 rintro e w' ⟨rfl, hw'⟩
 subst w'
 go_wp2
 go_ret
 exact ⟨rfl, rfl⟩
theorem zGh {w0 w : World} {b jb pb xb eb bm mb sb : Nat} {Y : Nat -> Prop} {n : Nat} {S : PS} {L : List ByteArray} {A : List (Nat × Nat)} {hn : Nat} {Mw Mn : List ByteArray} {T U : Nat -> En} {B : Nat -> Bool} {e0 e1 e2 : Addr} (h : CG w0 w b jb pb xb eb bm mb sb Y n S L A hn Mw Mn T U B) (ho : S.op = true) (hs : Snt w0 e0 e1 e2) (i : Nat) (hi : i < n) (d : ByteArray) (c : Nat) (hU : U i = some (d, c)) : Calls Tryz.prog 51 #[.pointer (some ⟨sb, 0, none⟩), .string d] w fun e w' => e = .returned (.tuple #[.agg #[.int .i64 (i : Int), .string d, .int .i64 (c : Int)], .nilIface]) /\ CG w0 w' b jb pb xb eb bm mb sb Y n S L A hn Mw Mn T U B /\ Only (fun x => ¬ Xf Y xb eb bm x) w w' := by
 obtain ⟨g, hg⟩ : ∃ q, w.heap.size = q := ⟨_, rfl⟩
 obtain ⟨x1, hx1⟩ : ∃ q, w.alloc (.cells #[.int .i64 0, .string ⟨#[]⟩, .int .i64 0] 40) = q := ⟨_, rfl⟩
 have hb1 : Below g w x1 := by rw [<- hx1, <- hg]; exact (Below.refl _ w).alloc (Nat.le_refl _) _
 have B1 : Blk x1 g #[.int .i64 0, .string ⟨#[]⟩, .int .i64 0] 40 := by rw [<- hx1, <- hg]; exact Blk.new w _ _
 have G1 : CG w0 x1 b jb pb xb eb bm mb sb (fun x => Y x ∨ x = g) n S L A hn Mw Mn T U B := h.more (by rw [hg]; exact hb1) (fun x q => q.imp_right (fun e => by rw [e, hg]; exact ⟨Nat.le_refl _, B1.lt⟩)) (.inl h.ym) (.inl h.ys)
 have HO := uB (zDf G1 ho)
 have X1 := uB (And.intro h (And.intro hs (And.intro B1 hb1)))
 have HX := uB (fun (W : World) (G : CG w0 W b jb pb xb eb bm mb sb (fun x => Y x ∨ x = g) n S L A hn Mw Mn T U B) (hW : Snt W e0 e1 e2) => zEC G i hi d c hU)
 clear h ho hs B1 hb1 G1
 go_enter Tryz.func51, Tryz.ntmps51
 go_wp2_with fail
 refine (uA HO).mono ?_
 rintro e x2 ⟨rfl, G2, O2⟩
 obtain ⟨h, hs, B1, hb1⟩ := uA X1
 have B2 := B1.only O2 (fun q => q (.inl (.inr rfl)))
 have HF := uB (uA HX x2 G2 (hs.below G2.bel))
 have X2 := uB (And.intro G2 (And.intro B2 (show Only (fun x => ¬ Xf Y xb eb bm x) w x2 from (Only.of_below (P := fun x => ¬ Xf Y xb eb bm x) (by rw [hg]; exact hb1)).trans O2 (fun x _ q r => q (by rcases r with r | r; exact .inl (.inl r); exact .inr r)))))
 have HY := uB (And.intro (h.away hg) (show ¬ Xf Y xb eb bm g from fun q => absurd (h.ig.pk.lt g q) (by rw [hg]; exact Nat.lt_irrefl g)))
 clear h hs B1 hb1 G2 O2 B2 HO X1 HX
 go_wp2_with fail
 refine (uA HF).mono ?_
 rintro e x3 ⟨rfl, hb3⟩
 obtain ⟨G2, B2, O2⟩ := uA X2
 have G3 := G2.below hb3
 have B3 := B2.below hb3 B2.lt
 have q0 : x3.cell? ⟨g, 0, none⟩ = some (.int .i64 0) := B3.cell 0
 have q1 : x3.cell? ⟨g, 1, none⟩ = some (.string ⟨#[]⟩) := B3.cell 1
 have q2 : x3.cell? ⟨g, 2, none⟩ = some (.int .i64 0) := B3.cell 2
 have p0 := B3.frozen 0
 have p1 := B3.frozen 1
 have p2 := B3.frozen 2
 have X3 := uB (And.intro G3 (And.intro B3 (show Only (fun x => ¬ Xf Y xb eb bm x) w x3 from O2.trans (Only.of_below (P := fun x => ¬ Xf Y xb eb bm x) hb3) (fun _ _ q => q))))
 clear G2 B2 O2 G3 B3 hb3 HF X2
 go_wp2
 have B4 := (((uA X3).2.1.set 0 (.int .i64 (i : Int))).set 1 (.string d)).set 2 (.int .i64 (c : Int))
 have hld := zBd 40 _ B4 Tryz.underlying40 rfl (by kernel_rfl)
 refine bodyPost_ret (v := .tuple #[.agg #[.int .i64 (i : Int), .string d, .int .i64 (c : Int)], .nilIface]) (zAS (p := 4) (q := 5) (ty := 40) rfl _ _ _ ⟨g, 0, none⟩ rfl _ hld) rfl ⟨rfl, ?_⟩
 have O5 := (((Only.refl (fun x => x = g) x3).setCell ⟨g, 0, none⟩ (.int .i64 (i : Int)) (fun _ => rfl)).setCell ⟨g, 1, none⟩ (.string d) (fun _ => rfl)).setCell ⟨g, 2, none⟩ (.int .i64 (c : Int)) (fun _ => rfl)
 exact ⟨(uA X3).1.poke1 (uA HY).1 O5, (uA X3).2.2.trans O5 (fun x _ q => by rw [q]; exact (uA HY).2)⟩
theorem zKj {w0 w : World} {b jb pb xb eb bm mb sb : Nat} {Y : Nat -> Prop} {n : Nat} {S : PS} {L : List ByteArray} {A : List (Nat × Nat)} {hn : Nat} {Mw Mn : List ByteArray} {T U : Nat -> En} {B : Nat -> Bool} {e0 e1 e2 : Addr} (h : CG w0 w b jb pb xb eb bm mb sb Y n S L A hn Mw Mn T U B) (ho : S.op = true) (hs : Snt w0 e0 e1 e2) (d : ByteArray) (hd : d.size = 32) (hU : ∀ j c, U j ≠ some (d, c)) : Calls Tryz.prog 51 #[.pointer (some ⟨sb, 0, none⟩), .string d] w fun e w' => e = .returned (.tuple #[.agg #[.int .i64 0, .string ⟨#[]⟩, .int .i64 0], eP e0]) /\ CG w0 w' b jb pb xb eb bm mb sb Y n S L A hn Mw Mn T U B /\ Only (fun x => ¬ Xf Y xb eb bm x) w w' := by
 obtain ⟨g, hg⟩ : ∃ q, w.heap.size = q := ⟨_, rfl⟩
 obtain ⟨x1, hx1⟩ : ∃ q, w.alloc (.cells #[.int .i64 0, .string ⟨#[]⟩, .int .i64 0] 40) = q := ⟨_, rfl⟩
 have hb1 : Below g w x1 := by rw [<- hx1, <- hg]; exact (Below.refl _ w).alloc (Nat.le_refl _) _
 have B1 : Blk x1 g #[.int .i64 0, .string ⟨#[]⟩, .int .i64 0] 40 := by rw [<- hx1, <- hg]; exact Blk.new w _ _
 have G1 : CG w0 x1 b jb pb xb eb bm mb sb (fun x => Y x ∨ x = g) n S L A hn Mw Mn T U B := h.more (by rw [hg]; exact hb1) (fun x q => q.imp_right (fun e => by rw [e, hg]; exact ⟨Nat.le_refl _, B1.lt⟩)) (.inl h.ym) (.inl h.ys)
 have HO := uB (zDf G1 ho)
 have X1 := uB (And.intro h (And.intro hs (And.intro B1 hb1)))
 have HX := uB (fun (W : World) (G : CG w0 W b jb pb xb eb bm mb sb (fun x => Y x ∨ x = g) n S L A hn Mw Mn T U B) (hW : Snt W e0 e1 e2) => zDE G hW d hd hU)
 clear h ho hs B1 hb1 G1
 go_enter Tryz.func51, Tryz.ntmps51
 go_wp2_with fail
 refine (uA HO).mono ?_
 rintro e x2 ⟨rfl, G2, O2⟩
 obtain ⟨h, hs, B1, hb1⟩ := uA X1
 have B2 := B1.only O2 (fun q => q (.inl (.inr rfl)))
 have HF := uB (uA HX x2 G2 (hs.below G2.bel))
 have X2 := uB (And.intro G2 (And.intro B2 (show Only (fun x => ¬ Xf Y xb eb bm x) w x2 from (Only.of_below (P := fun x => ¬ Xf Y xb eb bm x) (by rw [hg]; exact hb1)).trans O2 (fun x _ q r => q (by rcases r with r | r; exact .inl (.inl r); exact .inr r)))))
 have HY := uB (And.intro (h.away hg) (show ¬ Xf Y xb eb bm g from fun q => absurd (h.ig.pk.lt g q) (by rw [hg]; exact Nat.lt_irrefl g)))
 clear h hs B1 hb1 G2 O2 B2 HO X1 HX
 go_wp2_with fail
 refine (uA HF).mono ?_
 rintro e x3 ⟨rfl, hb3⟩
 obtain ⟨G2, B2, O2⟩ := uA X2
 have G3 := G2.below hb3
 have B3 := B2.below hb3 B2.lt
 have q0 : x3.cell? ⟨g, 0, none⟩ = some (.int .i64 0) := B3.cell 0
 have q1 : x3.cell? ⟨g, 1, none⟩ = some (.string ⟨#[]⟩) := B3.cell 1
 have q2 : x3.cell? ⟨g, 2, none⟩ = some (.int .i64 0) := B3.cell 2
 have p0 := B3.frozen 0
 have p1 := B3.frozen 1
 have p2 := B3.frozen 2
 have X3 := uB (And.intro G3 (And.intro B3 (show Only (fun x => ¬ Xf Y xb eb bm x) w x3 from O2.trans (Only.of_below (P := fun x => ¬ Xf Y xb eb bm x) hb3) (fun _ _ q => q))))
 clear G2 B2 O2 G3 B3 hb3 HF X2
 go_wp2
 have B4 := (((uA X3).2.1.set 0 (.int .i64 0)).set 1 (.string ⟨#[]⟩)).set 2 (.int .i64 0)
 have hld := zBd 40 _ B4 Tryz.underlying40 rfl (by kernel_rfl)
 refine bodyPost_ret (v := .tuple #[.agg #[.int .i64 0, .string ⟨#[]⟩, .int .i64 0], eP e0]) (zAS (p := 4) (q := 5) (ty := 40) rfl _ _ _ ⟨g, 0, none⟩ rfl _ hld) rfl ⟨rfl, ?_⟩
 have O5 := (((Only.refl (fun x => x = g) x3).setCell ⟨g, 0, none⟩ (.int .i64 0) (fun _ => rfl)).setCell ⟨g, 1, none⟩ (.string ⟨#[]⟩) (fun _ => rfl)).setCell ⟨g, 2, none⟩ (.int .i64 0) (fun _ => rfl)
 exact ⟨(uA X3).1.poke1 (uA HY).1 O5, (uA X3).2.2.trans O5 (fun x _ q => by rw [q]; exact (uA HY).2)⟩
end
section
open Go.RowKit Go.Maps Go.Sort Go.Shelf
theorem CChg.len {w0 w : World} {b jb pb xb eb bm mb sb : Nat} {Y : Nat -> Prop} {n : Nat} {S : PS} {L : List ByteArray} {A : List (Nat × Nat)} {hn : Nat} {Mw Mn : List ByteArray} {T U : Nat -> En} {B : Nat -> Bool} {S' : PS} {Q : List Nat} (k1 : CG w0 w b jb pb xb eb bm mb sb Y n S L A hn Mw Mn T U B) (k4 : ∀ p ∈ S.tx, p ∈ S'.tx ∨ ∃ q ∈ Q, p.1 = ((q : Nat) : Int)) : S.tx.length <= S'.tx.length + Q.length := by
 have h3 : (S.tx.map (·.1)).Nodup := List.pairwise_map.2 (k1.srt.imp (fun q => by omega))
 have h4 := zC4 (S.tx.map (·.1)) (S'.tx.map (·.1) ++ Q.map (fun q => ((q : Nat) : Int))) h3 (fun x hx => by
  obtain ⟨p, hp, rfl⟩ := List.mem_map.1 hx
  rcases k4 p hp with q | ⟨q, hq, e⟩
  ·exact List.mem_append.2 (.inl (List.mem_map.2 ⟨p, q, rfl⟩))
  ·exact List.mem_append.2 (.inr (List.mem_map.2 ⟨q, hq, e.symm⟩)))
 simpa using h4
theorem zEJ {S : PS} (h : S.tx.length <= 15) (i : Int) : zAQ S i = true := by
 unfold zAQ
 rw [Bool.or_eq_true]
 exact .inr (decide_eq_true (by omega))
theorem zKR {w0 w : World} {b jb pb xb eb bm mb sb : Nat} {Y : Nat -> Prop} {n : Nat} {S : PS} {L : List ByteArray} {A : List (Nat × Nat)} {hn : Nat} {Mw Mn : List ByteArray} {T : Nat -> En} {B : Nat -> Bool} {e0 e1 e2 : Addr} (h : CG w0 w b jb pb xb eb bm mb sb Y n S L A hn Mw Mn T T B) (hs : Snt w0 e0 e1 e2) (i : Nat) (hi : i < n) (d : ByteArray) (c : Nat) (ho : S.op = true) (hc : c <= 65534) (hT : T i = some (d, c)) (hr : zAQ S ((20 + i / 6 : Nat) : Int) = true) (t : ByteArray) (hD : Mn.getD (30 + i) ByteArray.empty = t) : Calls Tryz.prog 103 #[.pointer (some ⟨sb, 0, none⟩), .agg #[.int .i64 (i : Int), .string d, .int .i64 (c : Int)], .string t] w fun e w' => e = .returned (.nilIface) /\ CChg w0 w b jb pb xb eb bm mb sb Y n S L A hn Mw Mn [20 + i / 6] (upd T i (some (d, c + 1))) (upd T i (some (d, c + 1))) B (fun _ => True) w' := by
 obtain ⟨g, hg⟩ : ∃ q, w.heap.size = q := ⟨_, rfl⟩
 obtain ⟨x1, hx1⟩ : ∃ q, w.alloc (.cells #[.int .i64 (i : Int), .string d, .int .i64 (c : Int)] 40) = q := ⟨_, rfl⟩
 have hb1 : Below g w x1 := by rw [<- hx1, <- hg]; exact (Below.refl _ w).alloc (Nat.le_refl _) _
 have B1 : Blk x1 g #[.int .i64 (i : Int), .string d, .int .i64 (c : Int)] 40 := by rw [<- hx1, <- hg]; exact Blk.new w _ _
 have G1 : CG w0 x1 b jb pb xb eb bm mb sb (fun x => Y x ∨ x = g) n S L A hn Mw Mn T T B := h.more (by rw [hg]; exact hb1) (fun x q => q.imp_right (fun e => by rw [e, hg]; exact ⟨Nat.le_refl _, B1.lt⟩)) (.inl h.ym) (.inl h.ys)
 have HR := uB (zGV G1 i hi)
 rw [hD] at HR
 have q0 : x1.cell? ⟨g, 0, none⟩ = some (.int .i64 (i : Int)) := B1.cell 0
 have X1 := uB (And.intro h (And.intro hs (And.intro B1 hb1)))
 clear h hs B1 hb1 G1
 go_enter Tryz.func103, Tryz.ntmps103
 go_wp2_with fail
 refine (uA HR).mono ?_
 rintro e x2 ⟨rfl, S2, G2, o2, t2, O2⟩
 obtain ⟨h, hs, B1, hb1⟩ := uA X1
 have B2 := B1.only O2 (fun q => q (.inl (.inr rfl)))
 have a0 : x2.cell? ⟨g, 0, none⟩ = some (.int .i64 (i : Int)) := B2.cell 0
 have a1 : x2.cell? ⟨g, 1, none⟩ = some (.string d) := B2.cell 1
 have a2 : x2.cell? ⟨g, 2, none⟩ = some (.int .i64 (c : Int)) := B2.cell 2
 have G2' : CG w0 x2 b jb pb xb eb bm mb sb Y n S2 L A hn Mw Mn T T B := G2.more (Below.refl _ _) (fun x q => .inl (.inl q)) h.ym h.ys
 have OX : Only (fun x => ¬ Xf Y xb eb bm x) w x2 := (Only.of_below (P := fun x => ¬ Xf Y xb eb bm x) (by rw [hg]; exact hb1)).trans O2 (fun x _ q r => q (by rcases r with r | r; exact .inl (.inl r); exact .inr r))
 have hs2 : Snt x2 e0 e1 e2 := hs.below G2.bel
 have HC := uB (zHH G2' (o2.trans ho) i hi d c hc hT (by rw [zN9 t2]; exact hr))
 have X2 := uB (And.intro (OX.mono (fun x _ q r => q (.inl r)) : Only (fun x => ¬ Y x) w x2) t2)
 clear hT hr hi hD ho
 clear h hs B1 hb1 G2 O2 B2 G2' OX hs2 HR X1 q0
 go_wp2_with fail
 refine (uA HC).mono ?_
 rintro e x3 ⟨rfl, k⟩
 have X3 := uB (CChg.kept (uA X2).1 (uA X2).2 k)
 clear k HC X2
 go_wp2
 go_ret
 exact ⟨rfl, uA X3⟩
theorem zHR {w0 w : World} {b jb pb xb eb bm mb sb : Nat} {Y : Nat -> Prop} {n : Nat} {S : PS} {L : List ByteArray} {A : List (Nat × Nat)} {hn : Nat} {Mw Mn : List ByteArray} {T : Nat -> En} {B : Nat -> Bool} (h : CG w0 w b jb pb xb eb bm mb sb Y n S L A hn Mw Mn T T B) (ho : S.op = true) (p : Nat) (hl : Lea B n p) (d : ByteArray) (hd : d.size = 32) (hT : ∀ j c, T j ≠ some (d, c)) (t : ByteArray) (ht : t.size = 256) (hz : S.tx.length <= 13) : Calls Tryz.prog 105 #[.pointer (some ⟨sb, 0, none⟩), .string d, .string t] w fun e w' => e = .returned .nilIface /\ CChg w0 w b jb pb xb eb bm mb sb Y n S L A hn Mw Mn [19, 30 + p, 20 + p / 6] (upd T p (some (d, 1))) (upd T p (some (d, 1))) (flp B p) (fun M => M.getD (30 + p) ByteArray.empty = t) w' := by
 have hn24 := h.n24
 have hp : p < n := hl.1
 have HA := uB (h.alloc ho p hl (zEJ (by omega) _))
 obtain ⟨c0, c1, c2, c3⟩ := h.c
 have HWH := uB (fun s W => zBZ s W)
 have HQ := uB (And.intro hp (And.intro hd (And.intro hT (And.intro ht (And.intro hz hn24)))))
 clear h ho hl hd hT ht hz hp
 go_enter Tryz.func105, Tryz.ntmps105
 go_wp2_with fail
 refine (uA HA).mono ?_
 rintro e x1 ⟨rfl, ⟨S1, Mn1, G1, o1, k1, m1, f1, -, -⟩, O1⟩
 obtain ⟨hp, hd, hT, ht, hz, hn24'⟩ := uA HQ
 have z1 := CChg.len G1 m1
 simp only [List.length_cons, List.length_nil] at z1
 have hdr : Below x1.heap.size x1 x1.drew := (Below.refl _ x1).drew
 have HWR := uB ((G1.below hdr).write o1 p hp t ht (zEJ (by omega) _))
 obtain ⟨d0, d1, d2, d3⟩ := G1.c
 have e1 : (30 : Int) + (p : Int) = ((30 + p : Nat) : Int) := by omega
 have hwq : IntKind.i64.wrap ((30 + p : Nat) : Int) = ((30 + p : Nat) : Int) := zAB _ (by omega) (by omega)
 have X1 := uB (And.intro (O1.trans (Only.of_below (P := fun x => ¬ Xf Y xb eb bm x) hdr) (fun _ _ q => q) : Only (fun x => ¬ Xf Y xb eb bm x) w x1.drew) (And.intro k1 (And.intro m1 (And.intro f1 z1))))
 obtain ⟨pk, hpk⟩ : ∃ q, 30 + p = q := ⟨_, rfl⟩
 rw [hpk] at HWR e1 hwq
 have HPK := uB hpk
 clear hp hd hT ht hz hn24' hn24 G1 o1 k1 m1 f1 O1 z1 hdr HA c0 c1 c2 c3 hpk
 go_wp2
 refine wp_region_held_drew (S := fun w' => w'.cell? ⟨sb, 0, none⟩ = some (.pointer (some ⟨pb, 0, none⟩)) /\ w'.cell? ⟨sb, 3, none⟩ = some (.int .i64 30)) (by kernel_rfl) ⟨d0, d3⟩ ?_
 intro hS
 refine yL 0 (some 21) (.pointer (some ⟨sb, 0, none⟩)) rfl (fun w hSw => by obtain ⟨q1, q2⟩ := hSw; go_simp) hS ?_
 refine yL 1 (some 22) (.pointer (some ⟨sb, 0, none⟩)) rfl (fun w hSw => by obtain ⟨q1, q2⟩ := hSw; go_simp) hS ?_
 refine yL 2 (some 23) (.pointer (some ⟨sb, 0, none⟩)) rfl (fun w hSw => by obtain ⟨q1, q2⟩ := hSw; go_simp) hS ?_
 refine yL 3 (some 24) (.pointer (some ⟨pb, 0, none⟩)) rfl (fun w hSw => by obtain ⟨q1, q2⟩ := hSw; go_simp) hS ?_
 refine yL 4 (some 25) (.pointer (some ⟨sb, 0, none⟩)) rfl (fun w hSw => by obtain ⟨q1, q2⟩ := hSw; go_simp) hS ?_
 refine yL 5 (some 26) (.pointer (some ⟨sb, 0, none⟩)) rfl (fun w hSw => by obtain ⟨q1, q2⟩ := hSw; go_simp) hS ?_
 refine yL 6 (some 27) (.pointer (some ⟨sb, 3, none⟩)) rfl (fun w hSw => by obtain ⟨q1, q2⟩ := hSw; go_simp) hS ?_
 refine yL 7 (some 28) (.int .i64 30) rfl (fun w hSw => by obtain ⟨q1, q2⟩ := hSw; go_simp) hS ?_
 refine yL 8 (some 29) (.int .i64 (p : Int)) rfl (fun w hSw => by obtain ⟨q1, q2⟩ := hSw; go_simp) hS ?_
 refine yL 9 (some 30) (.int .i64 (pk : Int)) rfl (fun w hSw => by obtain ⟨q1, q2⟩ := hSw; go_simp) hS ?_
 refine yL 10 (some 31) (.string t) rfl (fun w hSw => by obtain ⟨q1, q2⟩ := hSw; go_simp) hS ?_
 refine wpAnyH_ready (rs := [11]) (by kernel_rfl) (by simp) ?_
 refine AllReadyH.cons rfl (fun K hK => ?_) AllReadyH.nil
 simp only [lD, lE, lF]
 go_simp
 refine (uA HWR).mono ?_
 rintro e x2 ⟨rfl, ⟨S2, Mn2, G2, o2, k2, m2, f2, r2, -⟩, O2⟩
 obtain ⟨c0, c1, c2, c3⟩ := G2.c
 have X2 := uB (And.intro G2 (And.intro o2 (And.intro k2 (And.intro m2 (And.intro f2 (And.intro r2 O2))))))
 clear G2 o2 k2 m2 f2 r2 O2 HWR d0 d1 d2 d3
 refine hK.out _ _ ⟨c0, c3⟩ (fun hS => ?_)
 clear hK K
 refine yL 12 (some 8) (.int .i64 0) rfl (fun w hSw => by obtain ⟨q1, q2⟩ := hSw; go_simp) hS ?_
 refine wpAnyH_done (by kernel_rfl) ?_ _
 clear hS
 obtain ⟨G2, o2, k2, m2, f2, r2, O2⟩ := uA X2
 obtain ⟨hp, hd, hT, ht, hz, hn24⟩ := uA HQ
 have z2 := CChg.len G2 m2
 simp only [List.length_cons, List.length_nil] at z2
 have HP := uB (G2.put o2 p hp d hd 1 (by omega) (by omega) (fun j c' hj => absurd hj (hT j c')) (zEJ (by have := (uA X1).2.2.2.2; omega) _))
 simp only [Int.cast_ofNat_Int] at HP
 clear G2 o2 k2 m2 f2 r2 O2 hp hd hT ht hz hn24 z2
 go_wp2_with fail
 refine (uA HP).mono ?_
 rintro e x3 ⟨rfl, S3, Mn3, G3, o3, k3, m3, f3, -, O3⟩
 obtain ⟨G2, o2, k2, m2, f2, r2, O2⟩ := uA X2
 obtain ⟨hp, hd, hT, ht, hz, hn24⟩ := uA HQ
 obtain ⟨O1, k1, m1, f1, z1⟩ := uA X1
 have hpk := uA HPK
 have hn9 := G3.n24
 have X3 := uB (show CChg w0 w b jb pb xb eb bm mb sb Y n S L A hn Mw Mn [19, 30 + p, 20 + p / 6] (upd T p (some (d, 1))) (upd T p (some (d, 1))) (flp B p) (fun M => M.getD (30 + p) ByteArray.empty = t) x3 from ⟨S3, Mn3, G3, o3, k3.trans (k2.trans k1), fun q hq => by
   rcases m3 q hq with r | ⟨r, hr, er⟩
   ·rcases m2 q r with r | ⟨r, hr, er⟩
    ·rcases m1 q r with r | ⟨r, hr, er⟩
     ·exact .inl r
     ·exact .inr ⟨r, by rw [List.mem_singleton] at hr; simp [hr], er⟩
    ·exact .inr ⟨r, by rw [List.mem_singleton] at hr; simp [hr, <- hpk], er⟩
   ·exact .inr ⟨r, by rw [List.mem_singleton] at hr; simp [hr], er⟩, fun k h1 h2 hk => by
   simp only [List.mem_cons, List.not_mem_nil, or_false, not_or] at hk
   rw [f3 k h1 h2 (by simpa using hk.2.2), f2 k h1 h2 (by rw [<- hpk]; simpa using hk.2.1), f1 k h1 h2 (by simpa using hk.1)], by
   show Mn3.getD (30 + p) ByteArray.empty = t
   rw [f3 (30 + p) (by omega) (by omega) (by simp; omega)]
   rw [hpk]
   exact r2, ((O1.trans O2 (fun _ _ q => q)).mono (fun x _ q r => q (.inl r)) : Only (fun x => ¬ Y x) w x2).trans O3 (fun _ _ q => q)⟩)
 clear S3 Mn3 G3 o3 k3 m3 f3 O3 G2 o2 k2 m2 f2 r2 O2 hp hd hT ht hz hn24 O1 k1 m1 f1 z1 hpk hn9 HP X1 X2
 go_wp2_with (go_at_call 102; refine (uA HWH _ _).mono ?_; rintro e w' ⟨rfl, hw'⟩; subst w')
 go_ret
 exact ⟨rfl, uA X3⟩
end
end Go.Proofs.YtdpnbemagiekoaaGreatDoor
