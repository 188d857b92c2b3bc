import Derived.Test.YtdpnbemagiekoaaGreatDoorMd30
import Derived.Test.YtdpnbemagiekoaaGreatDoorMd19
namespace Go.Proofs.YtdpnbemagiekoaaGreatDoor
open Go.RowKit Go.Maps Go.Sort Go.Shelf
/-- A block of somebody else's was written. -/
theorem CG.poke1 {w0 w : World} {b jb pb xb eb bm mb sb : Nat} {Y : Nat → Prop} {n : Nat} {S : PS} {L : List ByteArray} {A : List (Nat × Nat)} {hn : Nat} {Mw Mn : List ByteArray} {T U : Nat → En} {B : Nat → Bool} {g : Nat} (h : CG w0 w b jb pb xb eb bm mb sb (fun x => Y x ∨ x = g) n S L A hn Mw Mn T U B) (hy : Y mb ∧ Y sb ∧ mb ≠ g ∧ sb ≠ g ∧ w0.heap.size ≤ g) {w' : World} (ho : Only (fun x => x = g) w w') : CG w0 w' b jb pb xb eb bm mb sb Y n S L A hn Mw Mn T U B :=
  ⟨h.ig.poke ho (fun x q _ => .inr q) (fun x q => by rw [q]; exact hy.2.2.2.2) (fun x q => .inl (.inl q)), h.mp.only ho hy.2.2.1, h.ms, hy.1, hy.2.1, h.st.only ho hy.2.2.2.1, h.n24⟩
theorem CG.away {w0 w : World} {b jb pb xb eb bm mb sb : Nat} {Y : Nat → Prop} {n : Nat} {S : PS} {L : List ByteArray} {A : List (Nat × Nat)} {hn : Nat} {Mw Mn : List ByteArray} {T U : Nat → En} {B : Nat → Bool} (h : CG w0 w b jb pb xb eb bm mb sb Y n S L A hn Mw Mn T U B) {g : Nat} (hg : w.heap.size = g) : Y mb ∧ Y sb ∧ mb ≠ g ∧ sb ≠ g ∧ w0.heap.size ≤ g :=
  ⟨h.ym, h.ys, Nat.ne_of_lt (by rw [← hg]; exact h.ig.pk.lt mb (.inl h.ym)), Nat.ne_of_lt (by rw [← hg]; exact h.ig.pk.lt sb (.inl h.ys)), by rw [← hg]; exact h.bel.size⟩
set_option maxRecDepth 100000 in
set_option maxHeartbeats 2000000 in
theorem cans_nil (w : World) : Calls Tryz.prog 43 #[.nilIface] w fun e w' => e = .returned (.int .i64 0) ∧ w' = w := by
  go_enter Tryz.func43, Tryz.ntmps43
  go_wp2
  go_ret
  exact ⟨rfl, rfl⟩
set_option maxRecDepth 100000 in
set_option maxHeartbeats 2000000 in
theorem cans_clash {w : World} {e0 e1 e2 : Addr} (hs : Snt w e0 e1 e2) : Calls Tryz.prog 43 #[eP e2] w fun e w' => e = .returned (.int .i64 94) ∧ w' = w := by
  obtain ⟨ca0, t0, k0⟩ := hs.h0
  obtain ⟨ca1, t1, k1⟩ := hs.h1
  obtain ⟨ca2, t2, k2⟩ := hs.h2
  have g0 := hs.g0
  have g1 := hs.g1
  have g2 := hs.g2
  have H0 := hide (is_other e2 e0 _ _ _ _ w (Ne.symm hs.n02) k2 k0)
  have H1 := hide (is_other e2 e1 _ _ _ _ w (Ne.symm hs.n12) k2 k1)
  have H2 := hide (is_same e2 w)
  clear hs k0 k1 k2
  go_enter Tryz.func43, Tryz.ntmps43
  go_wp2_with fail
  refine (unhide H0).mono ?_
  rintro e w' ⟨rfl, hw'⟩
  subst w'
  go_wp2_with fail
  refine (unhide H1).mono ?_
  rintro e w' ⟨rfl, hw'⟩
  subst w'
  go_wp2_with fail
  refine (unhide H2).mono ?_
  rintro e w' ⟨rfl, hw'⟩
  subst w'
  go_wp2
  go_ret
  exact ⟨rfl, rfl⟩
set_option maxRecDepth 100000 in
set_option maxHeartbeats 2000000 in
theorem cftc_hit {w0 w : World} {b jb pb xb eb bm mb sb : Nat} {Y : Nat → Prop} {n : Nat} {S : PS} {L : List ByteArray} {A : List (Nat × Nat)} {hn : Nat} {Mw Mn : List ByteArray} {T U : Nat → En} {B : Nat → Bool} {e0 e1 e2 : Addr} (h : CG w0 w b jb pb xb eb bm mb sb Y n S L A hn Mw Mn T U B) (ho : S.op = true) (hs : Snt w0 e0 e1 e2) (i : Nat) (hi : i < n) (d : ByteArray) (c : Nat) (hU : U i = some (d, c)) : Calls Tryz.prog 51 #[.pointer (some ⟨sb, 0, none⟩), .string d] w fun e w' => e = .returned (.tuple #[.agg #[.int .i64 (i : Int), .string d, .int .i64 (c : Int)], .nilIface]) ∧ CG w0 w' b jb pb xb eb bm mb sb Y n S L A hn Mw Mn T U B ∧ Only (fun x => ¬ Xf Y xb eb bm x) w w' := by
  obtain ⟨g, hg⟩ : ∃ q, w.heap.size = q := ⟨_, rfl⟩
  obtain ⟨x1, hx1⟩ : ∃ q, w.alloc (.cells #[.int .i64 0, .string ⟨#[]⟩, .int .i64 0] 40) = q := ⟨_, rfl⟩
  have hb1 : Below g w x1 := by rw [← hx1, ← hg]; exact (Below.refl _ w).alloc (Nat.le_refl _) _
  have B1 : Blk x1 g #[.int .i64 0, .string ⟨#[]⟩, .int .i64 0] 40 := by rw [← hx1, ← hg]; exact Blk.new w _ _
  have G1 : CG w0 x1 b jb pb xb eb bm mb sb (fun x => Y x ∨ x = g) n S L A hn Mw Mn T U B := h.more (by rw [hg]; exact hb1) (fun x q => q.imp_right (fun e => by rw [e, hg]; exact ⟨Nat.le_refl _, B1.lt⟩)) (.inl h.ym) (.inl h.ys)
  have HO := hide (cwantOpen_any G1 ho)
  have X1 := hide (And.intro h (And.intro hs (And.intro B1 hb1)))
  have HX := hide (fun (W : World) (G : CG w0 W b jb pb xb eb bm mb sb (fun x => Y x ∨ x = g) n S L A hn Mw Mn T U B) (hW : Snt W e0 e1 e2) => cfind_hit G i hi d c hU)
  clear h ho hs B1 hb1 G1
  go_enter Tryz.func51, Tryz.ntmps51
  go_wp2_with fail
  refine (unhide HO).mono ?_
  rintro e x2 ⟨rfl, G2, O2⟩
  obtain ⟨h, hs, B1, hb1⟩ := unhide X1
  have B2 := B1.only O2 (fun q => q (.inl (.inr rfl)))
  have HF := hide (unhide HX x2 G2 (hs.below G2.bel))
  have X2 := hide (And.intro G2 (And.intro B2 (show Only (fun x => ¬ Xf Y xb eb bm x) w x2 from (Only.of_below (P := fun x => ¬ Xf Y xb eb bm x) (by rw [hg]; exact hb1)).trans O2 (fun x _ q r => q (by rcases r with r | r; exact .inl (.inl r); exact .inr r)))))
  have HY := hide (And.intro (h.away hg) (show ¬ Xf Y xb eb bm g from fun q => absurd (h.ig.pk.lt g q) (by rw [hg]; exact Nat.lt_irrefl g)))
  clear h hs B1 hb1 G2 O2 B2 HO X1 HX
  go_wp2_with fail
  refine (unhide HF).mono ?_
  rintro e x3 ⟨rfl, hb3⟩
  obtain ⟨G2, B2, O2⟩ := unhide X2
  have G3 := G2.below hb3
  have B3 := B2.below hb3 B2.lt
  have q0 : x3.cell? ⟨g, 0, none⟩ = some (.int .i64 0) := B3.cell 0
  have q1 : x3.cell? ⟨g, 1, none⟩ = some (.string ⟨#[]⟩) := B3.cell 1
  have q2 : x3.cell? ⟨g, 2, none⟩ = some (.int .i64 0) := B3.cell 2
  have p0 := B3.frozen 0
  have p1 := B3.frozen 1
  have p2 := B3.frozen 2
  have X3 := hide (And.intro G3 (And.intro B3 (show Only (fun x => ¬ Xf Y xb eb bm x) w x3 from O2.trans (Only.of_below (P := fun x => ¬ Xf Y xb eb bm x) hb3) (fun _ _ q => q))))
  clear G2 B2 O2 G3 B3 hb3 HF X2
  go_wp2
  have B4 := (((unhide X3).2.1.set 0 (.int .i64 (i : Int))).set 1 (.string d)).set 2 (.int .i64 (c : Int))
  have hld := iload_blk 40 _ B4 Tryz.underlying40 rfl (by kernel_rfl)
  refine bodyPost_ret (v := .tuple #[.agg #[.int .i64 (i : Int), .string d, .int .i64 (c : Int)], .nilIface]) (results_cell2 (p := 4) (q := 5) (ty := 40) rfl _ _ _ ⟨g, 0, none⟩ rfl _ hld) rfl ⟨rfl, ?_⟩
  have O5 := (((Only.refl (fun x => x = g) x3).setCell ⟨g, 0, none⟩ (.int .i64 (i : Int)) (fun _ => rfl)).setCell ⟨g, 1, none⟩ (.string d) (fun _ => rfl)).setCell ⟨g, 2, none⟩ (.int .i64 (c : Int)) (fun _ => rfl)
  exact ⟨(unhide X3).1.poke1 (unhide HY).1 O5, (unhide X3).2.2.trans O5 (fun x _ q => by rw [q]; exact (unhide HY).2)⟩
set_option maxRecDepth 100000 in
set_option maxHeartbeats 2000000 in
theorem cftc_miss {w0 w : World} {b jb pb xb eb bm mb sb : Nat} {Y : Nat → Prop} {n : Nat} {S : PS} {L : List ByteArray} {A : List (Nat × Nat)} {hn : Nat} {Mw Mn : List ByteArray} {T U : Nat → En} {B : Nat → Bool} {e0 e1 e2 : Addr} (h : CG w0 w b jb pb xb eb bm mb sb Y n S L A hn Mw Mn T U B) (ho : S.op = true) (hs : Snt w0 e0 e1 e2) (d : ByteArray) (hd : d.size = 32) (hU : ∀ j c, U j ≠ some (d, c)) : Calls Tryz.prog 51 #[.pointer (some ⟨sb, 0, none⟩), .string d] w fun e w' => e = .returned (.tuple #[.agg #[.int .i64 0, .string ⟨#[]⟩, .int .i64 0], eP e0]) ∧ CG w0 w' b jb pb xb eb bm mb sb Y n S L A hn Mw Mn T U B ∧ Only (fun x => ¬ Xf Y xb eb bm x) w w' := by
  obtain ⟨g, hg⟩ : ∃ q, w.heap.size = q := ⟨_, rfl⟩
  obtain ⟨x1, hx1⟩ : ∃ q, w.alloc (.cells #[.int .i64 0, .string ⟨#[]⟩, .int .i64 0] 40) = q := ⟨_, rfl⟩
  have hb1 : Below g w x1 := by rw [← hx1, ← hg]; exact (Below.refl _ w).alloc (Nat.le_refl _) _
  have B1 : Blk x1 g #[.int .i64 0, .string ⟨#[]⟩, .int .i64 0] 40 := by rw [← hx1, ← hg]; exact Blk.new w _ _
  have G1 : CG w0 x1 b jb pb xb eb bm mb sb (fun x => Y x ∨ x = g) n S L A hn Mw Mn T U B := h.more (by rw [hg]; exact hb1) (fun x q => q.imp_right (fun e => by rw [e, hg]; exact ⟨Nat.le_refl _, B1.lt⟩)) (.inl h.ym) (.inl h.ys)
  have HO := hide (cwantOpen_any G1 ho)
  have X1 := hide (And.intro h (And.intro hs (And.intro B1 hb1)))
  have HX := hide (fun (W : World) (G : CG w0 W b jb pb xb eb bm mb sb (fun x => Y x ∨ x = g) n S L A hn Mw Mn T U B) (hW : Snt W e0 e1 e2) => cfind_miss G hW d hd hU)
  clear h ho hs B1 hb1 G1
  go_enter Tryz.func51, Tryz.ntmps51
  go_wp2_with fail
  refine (unhide HO).mono ?_
  rintro e x2 ⟨rfl, G2, O2⟩
  obtain ⟨h, hs, B1, hb1⟩ := unhide X1
  have B2 := B1.only O2 (fun q => q (.inl (.inr rfl)))
  have HF := hide (unhide HX x2 G2 (hs.below G2.bel))
  have X2 := hide (And.intro G2 (And.intro B2 (show Only (fun x => ¬ Xf Y xb eb bm x) w x2 from (Only.of_below (P := fun x => ¬ Xf Y xb eb bm x) (by rw [hg]; exact hb1)).trans O2 (fun x _ q r => q (by rcases r with r | r; exact .inl (.inl r); exact .inr r)))))
  have HY := hide (And.intro (h.away hg) (show ¬ Xf Y xb eb bm g from fun q => absurd (h.ig.pk.lt g q) (by rw [hg]; exact Nat.lt_irrefl g)))
  clear h hs B1 hb1 G2 O2 B2 HO X1 HX
  go_wp2_with fail
  refine (unhide HF).mono ?_
  rintro e x3 ⟨rfl, hb3⟩
  obtain ⟨G2, B2, O2⟩ := unhide X2
  have G3 := G2.below hb3
  have B3 := B2.below hb3 B2.lt
  have q0 : x3.cell? ⟨g, 0, none⟩ = some (.int .i64 0) := B3.cell 0
  have q1 : x3.cell? ⟨g, 1, none⟩ = some (.string ⟨#[]⟩) := B3.cell 1
  have q2 : x3.cell? ⟨g, 2, none⟩ = some (.int .i64 0) := B3.cell 2
  have p0 := B3.frozen 0
  have p1 := B3.frozen 1
  have p2 := B3.frozen 2
  have X3 := hide (And.intro G3 (And.intro B3 (show Only (fun x => ¬ Xf Y xb eb bm x) w x3 from O2.trans (Only.of_below (P := fun x => ¬ Xf Y xb eb bm x) hb3) (fun _ _ q => q))))
  clear G2 B2 O2 G3 B3 hb3 HF X2
  go_wp2
  have B4 := (((unhide X3).2.1.set 0 (.int .i64 0)).set 1 (.string ⟨#[]⟩)).set 2 (.int .i64 0)
  have hld := iload_blk 40 _ B4 Tryz.underlying40 rfl (by kernel_rfl)
  refine bodyPost_ret (v := .tuple #[.agg #[.int .i64 0, .string ⟨#[]⟩, .int .i64 0], eP e0]) (results_cell2 (p := 4) (q := 5) (ty := 40) rfl _ _ _ ⟨g, 0, none⟩ rfl _ hld) rfl ⟨rfl, ?_⟩
  have O5 := (((Only.refl (fun x => x = g) x3).setCell ⟨g, 0, none⟩ (.int .i64 0) (fun _ => rfl)).setCell ⟨g, 1, none⟩ (.string ⟨#[]⟩) (fun _ => rfl)).setCell ⟨g, 2, none⟩ (.int .i64 0) (fun _ => rfl)
  exact ⟨(unhide X3).1.poke1 (unhide HY).1 O5, (unhide X3).2.2.trans O5 (fun x _ q => by rw [q]; exact (unhide HY).2)⟩
end Go.Proofs.YtdpnbemagiekoaaGreatDoor

namespace Go.Proofs.YtdpnbemagiekoaaGreatDoor
open Go.RowKit Go.Maps Go.Sort Go.Shelf
/-- How long a transaction can be behind a change. -/
theorem CChg.len {w0 w : World} {b jb pb xb eb bm mb sb : Nat} {Y : Nat → Prop} {n : Nat} {S : PS} {L : List ByteArray} {A : List (Nat × Nat)} {hn : Nat} {Mw Mn : List ByteArray} {T U : Nat → En} {B : Nat → Bool} {S' : PS} {Q : List Nat} (k1 : CG w0 w b jb pb xb eb bm mb sb Y n S L A hn Mw Mn T U B) (k4 : ∀ p ∈ S.tx, p ∈ S'.tx ∨ ∃ q ∈ Q, p.1 = ((q : Nat) : Int)) : S.tx.length ≤ S'.tx.length + Q.length := by
  have h3 : (S.tx.map (·.1)).Nodup := List.pairwise_map.2 (k1.srt.imp (fun q => by omega))
  have h4 := nodup_sub (S.tx.map (·.1)) (S'.tx.map (·.1) ++ Q.map (fun q => ((q : Nat) : Int))) h3 (fun x hx => by
    obtain ⟨p, hp, rfl⟩ := List.mem_map.1 hx
    rcases k4 p hp with q | ⟨q, hq, e⟩
    · exact List.mem_append.2 (.inl (List.mem_map.2 ⟨p, q, rfl⟩))
    · exact List.mem_append.2 (.inr (List.mem_map.2 ⟨q, hq, e.symm⟩)))
  simpa using h4
theorem room_of {S : PS} (h : S.tx.length ≤ 15) (i : Int) : roomB S i = true := by
  unfold roomB
  rw [Bool.or_eq_true]
  exact .inr (decide_eq_true (by omega))
set_option maxRecDepth 100000 in
set_option maxHeartbeats 2000000 in
theorem cagain_clash {w0 w : World} {b jb pb xb eb bm mb sb : Nat} {Y : Nat → Prop} {n : Nat} {S : PS} {L : List ByteArray} {A : List (Nat × Nat)} {hn : Nat} {Mw Mn : List ByteArray} {T : Nat → En} {B : Nat → Bool} {e0 e1 e2 : Addr} (h : CG w0 w b jb pb xb eb bm mb sb Y n S L A hn Mw Mn T T B) (hs : Snt w0 e0 e1 e2) (i : Nat) (hi : i < n) (d : ByteArray) (c : Nat) (t u : ByteArray) (hD : Mn.getD (30 + i) ByteArray.empty = u) (hu : u ≠ t) : Calls Tryz.prog 103 #[.pointer (some ⟨sb, 0, none⟩), .agg #[.int .i64 (i : Int), .string d, .int .i64 (c : Int)], .string t] w fun e w' => e = .returned (eP e2) ∧ CKept w0 w b jb pb xb eb bm mb sb Y n S L A hn Mw Mn T T B w' := by
  obtain ⟨g, hg⟩ : ∃ q, w.heap.size = q := ⟨_, rfl⟩
  obtain ⟨x1, hx1⟩ : ∃ q, w.alloc (.cells #[.int .i64 (i : Int), .string d, .int .i64 (c : Int)] 40) = q := ⟨_, rfl⟩
  have hb1 : Below g w x1 := by rw [← hx1, ← hg]; exact (Below.refl _ w).alloc (Nat.le_refl _) _
  have B1 : Blk x1 g #[.int .i64 (i : Int), .string d, .int .i64 (c : Int)] 40 := by rw [← hx1, ← hg]; exact Blk.new w _ _
  have G1 : CG w0 x1 b jb pb xb eb bm mb sb (fun x => Y x ∨ x = g) n S L A hn Mw Mn T T B := h.more (by rw [hg]; exact hb1) (fun x q => q.imp_right (fun e => by rw [e, hg]; exact ⟨Nat.le_refl _, B1.lt⟩)) (.inl h.ym) (.inl h.ys)
  have HR := hide (cread_any G1 i hi)
  rw [hD] at HR
  have hne : (u.toList == t.toList) = false := str_ne hu
  have q0 : x1.cell? ⟨g, 0, none⟩ = some (.int .i64 (i : Int)) := B1.cell 0
  have X1 := hide (And.intro h (And.intro hs (And.intro B1 hb1)))
  clear h hs B1 hb1 G1
  go_enter Tryz.func103, Tryz.ntmps103
  go_wp2_with fail
  refine (unhide HR).mono ?_
  rintro e x2 ⟨rfl, S2, G2, o2, t2, O2⟩
  obtain ⟨h, hs, B1, hb1⟩ := unhide X1
  have B2 := B1.only O2 (fun q => q (.inl (.inr rfl)))
  have a0 : x2.cell? ⟨g, 0, none⟩ = some (.int .i64 (i : Int)) := B2.cell 0
  have a1 : x2.cell? ⟨g, 1, none⟩ = some (.string d) := B2.cell 1
  have a2 : x2.cell? ⟨g, 2, none⟩ = some (.int .i64 (c : Int)) := B2.cell 2
  have G2' : CG w0 x2 b jb pb xb eb bm mb sb Y n S2 L A hn Mw Mn T T B := G2.more (Below.refl _ _) (fun x q => .inl (.inl q)) h.ym h.ys
  have OX : Only (fun x => ¬ Xf Y xb eb bm x) w x2 := (Only.of_below (P := fun x => ¬ Xf Y xb eb bm x) (by rw [hg]; exact hb1)).trans O2 (fun x _ q r => q (by rcases r with r | r; exact .inl (.inl r); exact .inr r))
  have hs2 : Snt x2 e0 e1 e2 := hs.below G2.bel
  have g2 := hs2.g2
  have X2 := hide (And.intro G2' (And.intro o2 (And.intro t2 OX)))
  clear hi hD hu
  clear h hs B1 hb1 G2 O2 B2 G2' OX hs2 HR X1 q0
  go_wp2
  go_ret
  exact ⟨rfl, S2, (unhide X2).1, (unhide X2).2.1, (unhide X2).2.2.1, (unhide X2).2.2.2⟩
set_option maxRecDepth 100000 in
set_option maxHeartbeats 2000000 in
theorem csaveNew_ok {w0 w : World} {b jb pb xb eb bm mb sb : Nat} {Y : Nat → Prop} {n : Nat} {S : PS} {L : List ByteArray} {A : List (Nat × Nat)} {hn : Nat} {Mw Mn : List ByteArray} {T : Nat → En} {B : Nat → Bool} (h : CG w0 w b jb pb xb eb bm mb sb Y n S L A hn Mw Mn T T B) (ho : S.op = true) (p : Nat) (hl : Lea B n p) (d : ByteArray) (hd : d.size = 32) (hT : ∀ j c, T j ≠ some (d, c)) (t : ByteArray) (ht : t.size = 256) (hz : S.tx.length ≤ 13) : Calls Tryz.prog 105 #[.pointer (some ⟨sb, 0, none⟩), .string d, .string t] w fun e w' => e = .returned .nilIface ∧ CChg w0 w b jb pb xb eb bm mb sb Y n S L A hn Mw Mn [19, 30 + p, 20 + p / 6] (upd T p (some (d, 1))) (upd T p (some (d, 1))) (flp B p) (fun M => M.getD (30 + p) ByteArray.empty = t) w' := by
  have hn24 := h.n24
  have hp : p < n := hl.1
  have HA := hide (h.alloc ho p hl (room_of (by omega) _))
  obtain ⟨c0, c1, c2, c3⟩ := h.c
  have HWH := hide (fun s W => cwhile_ok s W)
  have HQ := hide (And.intro hp (And.intro hd (And.intro hT (And.intro ht (And.intro hz hn24)))))
  clear h ho hl hd hT ht hz hp
  go_enter Tryz.func105, Tryz.ntmps105
  go_wp2_with fail
  refine (unhide HA).mono ?_
  rintro e x1 ⟨rfl, ⟨S1, Mn1, G1, o1, k1, m1, f1, -, -⟩, O1⟩
  obtain ⟨hp, hd, hT, ht, hz, hn24'⟩ := unhide HQ
  have z1 := CChg.len G1 m1
  simp only [List.length_cons, List.length_nil] at z1
  have hdr : Below x1.heap.size x1 x1.drew := (Below.refl _ x1).drew
  have HWR := hide ((G1.below hdr).write o1 p hp t ht (room_of (by omega) _))
  obtain ⟨d0, d1, d2, d3⟩ := G1.c
  have e1 : (30 : Int) + (p : Int) = ((30 + p : Nat) : Int) := by omega
  have hwq : IntKind.i64.wrap ((30 + p : Nat) : Int) = ((30 + p : Nat) : Int) := wrapI_eq _ (by omega) (by omega)
  have X1 := hide (And.intro (O1.trans (Only.of_below (P := fun x => ¬ Xf Y xb eb bm x) hdr) (fun _ _ q => q) : Only (fun x => ¬ Xf Y xb eb bm x) w x1.drew) (And.intro k1 (And.intro m1 (And.intro f1 z1))))
  obtain ⟨pk, hpk⟩ : ∃ q, 30 + p = q := ⟨_, rfl⟩
  rw [hpk] at HWR e1 hwq
  have HPK := hide hpk
  clear hp hd hT ht hz hn24' hn24 G1 o1 k1 m1 f1 O1 z1 hdr HA c0 c1 c2 c3 hpk
  go_wp2
  refine wp_region_held_drew (S := fun w' => w'.cell? ⟨sb, 0, none⟩ = some (.pointer (some ⟨pb, 0, none⟩)) ∧ w'.cell? ⟨sb, 3, none⟩ = some (.int .i64 30)) (by kernel_rfl) ⟨d0, d3⟩ ?_
  intro hS
  refine wpAnyH_takeD 0 (some 21) (.pointer (some ⟨sb, 0, none⟩)) rfl rfl (by kernel_rfl) (by kernel_rfl) (by kernel_rfl) (fun _ _ _ h => h) (Or.inl ⟨by rfl, fun w hSw => by obtain ⟨q1, q2⟩ := hSw; go_simp⟩) hS ?_
  simp only [Act.put, List.setIfInBounds_toArray, List.set_cons_zero, List.set_cons_succ]
  refine wpAnyH_takeD 1 (some 22) (.pointer (some ⟨sb, 0, none⟩)) rfl rfl (by kernel_rfl) (by kernel_rfl) (by kernel_rfl) (fun _ _ _ h => h) (Or.inl ⟨by rfl, fun w hSw => by obtain ⟨q1, q2⟩ := hSw; go_simp⟩) hS ?_
  simp only [Act.put, List.setIfInBounds_toArray, List.set_cons_zero, List.set_cons_succ]
  refine wpAnyH_takeD 2 (some 23) (.pointer (some ⟨sb, 0, none⟩)) rfl rfl (by kernel_rfl) (by kernel_rfl) (by kernel_rfl) (fun _ _ _ h => h) (Or.inl ⟨by rfl, fun w hSw => by obtain ⟨q1, q2⟩ := hSw; go_simp⟩) hS ?_
  simp only [Act.put, List.setIfInBounds_toArray, List.set_cons_zero, List.set_cons_succ]
  refine wpAnyH_takeD 3 (some 24) (.pointer (some ⟨pb, 0, none⟩)) rfl rfl (by kernel_rfl) (by kernel_rfl) (by kernel_rfl) (fun _ _ _ h => h) (Or.inl ⟨by rfl, fun w hSw => by obtain ⟨q1, q2⟩ := hSw; go_simp⟩) hS ?_
  simp only [Act.put, List.setIfInBounds_toArray, List.set_cons_zero, List.set_cons_succ]
  refine wpAnyH_takeD 4 (some 25) (.pointer (some ⟨sb, 0, none⟩)) rfl rfl (by kernel_rfl) (by kernel_rfl) (by kernel_rfl) (fun _ _ _ h => h) (Or.inl ⟨by rfl, fun w hSw => by obtain ⟨q1, q2⟩ := hSw; go_simp⟩) hS ?_
  simp only [Act.put, List.setIfInBounds_toArray, List.set_cons_zero, List.set_cons_succ]
  refine wpAnyH_takeD 5 (some 26) (.pointer (some ⟨sb, 0, none⟩)) rfl rfl (by kernel_rfl) (by kernel_rfl) (by kernel_rfl) (fun _ _ _ h => h) (Or.inl ⟨by rfl, fun w hSw => by obtain ⟨q1, q2⟩ := hSw; go_simp⟩) hS ?_
  simp only [Act.put, List.setIfInBounds_toArray, List.set_cons_zero, List.set_cons_succ]
  refine wpAnyH_takeD 6 (some 27) (.pointer (some ⟨sb, 3, none⟩)) rfl rfl (by kernel_rfl) (by kernel_rfl) (by kernel_rfl) (fun _ _ _ h => h) (Or.inl ⟨by rfl, fun w hSw => by obtain ⟨q1, q2⟩ := hSw; go_simp⟩) hS ?_
  simp only [Act.put, List.setIfInBounds_toArray, List.set_cons_zero, List.set_cons_succ]
  refine wpAnyH_takeD 7 (some 28) (.int .i64 30) rfl rfl (by kernel_rfl) (by kernel_rfl) (by kernel_rfl) (fun _ _ _ h => h) (Or.inl ⟨by rfl, fun w hSw => by obtain ⟨q1, q2⟩ := hSw; go_simp⟩) hS ?_
  simp only [Act.put, List.setIfInBounds_toArray, List.set_cons_zero, List.set_cons_succ]
  refine wpAnyH_takeD 8 (some 29) (.int .i64 (p : Int)) rfl rfl (by kernel_rfl) (by kernel_rfl) (by kernel_rfl) (fun _ _ _ h => h) (Or.inl ⟨by rfl, fun w hSw => by obtain ⟨q1, q2⟩ := hSw; go_simp⟩) hS ?_
  simp only [Act.put, List.setIfInBounds_toArray, List.set_cons_zero, List.set_cons_succ]
  refine wpAnyH_takeD 9 (some 30) (.int .i64 (pk : Int)) rfl rfl (by kernel_rfl) (by kernel_rfl) (by kernel_rfl) (fun _ _ _ h => h) (Or.inl ⟨by rfl, fun w hSw => by obtain ⟨q1, q2⟩ := hSw; go_simp⟩) hS ?_
  simp only [Act.put, List.setIfInBounds_toArray, List.set_cons_zero, List.set_cons_succ]
  refine wpAnyH_takeD 10 (some 31) (.string t) rfl rfl (by kernel_rfl) (by kernel_rfl) (by kernel_rfl) (fun _ _ _ h => h) (Or.inl ⟨by rfl, fun w hSw => by obtain ⟨q1, q2⟩ := hSw; go_simp⟩) hS ?_
  simp only [Act.put, List.setIfInBounds_toArray, List.set_cons_zero, List.set_cons_succ]
  refine wpAnyH_ready (rs := [11]) (by kernel_rfl) (by simp) ?_
  refine AllReadyH.cons rfl (fun K hK => ?_) AllReadyH.nil
  simp only [List.getElem_toArray, List.getElem_cons_succ, List.getElem_cons_zero]
  go_simp
  refine (unhide HWR).mono ?_
  rintro e x2 ⟨rfl, ⟨S2, Mn2, G2, o2, k2, m2, f2, r2, -⟩, O2⟩
  obtain ⟨c0, c1, c2, c3⟩ := G2.c
  have X2 := hide (And.intro G2 (And.intro o2 (And.intro k2 (And.intro m2 (And.intro f2 (And.intro r2 O2))))))
  clear G2 o2 k2 m2 f2 r2 O2 HWR d0 d1 d2 d3
  refine hK.out _ _ ⟨c0, c3⟩ (fun hS => ?_)
  clear hK K
  refine wpAnyH_takeD 12 (some 8) (.int .i64 0) rfl rfl (by kernel_rfl) (by kernel_rfl) (by kernel_rfl) (fun _ _ _ h => h) (Or.inl ⟨by rfl, fun w hSw => by obtain ⟨q1, q2⟩ := hSw; go_simp⟩) hS ?_
  simp only [Act.put, List.setIfInBounds_toArray, List.set_cons_zero, List.set_cons_succ]
  refine wpAnyH_done (by kernel_rfl) ?_ _
  clear hS
  obtain ⟨G2, o2, k2, m2, f2, r2, O2⟩ := unhide X2
  obtain ⟨hp, hd, hT, ht, hz, hn24⟩ := unhide HQ
  have z2 := CChg.len G2 m2
  simp only [List.length_cons, List.length_nil] at z2
  have HP := hide (G2.put o2 p hp d hd 1 (by omega) (by omega) (fun j c' hj => absurd hj (hT j c')) (room_of (by have := (unhide X1).2.2.2.2; omega) _))
  simp only [Int.cast_ofNat_Int] at HP
  clear G2 o2 k2 m2 f2 r2 O2 hp hd hT ht hz hn24 z2
  go_wp2_with fail
  refine (unhide HP).mono ?_
  rintro e x3 ⟨rfl, S3, Mn3, G3, o3, k3, m3, f3, -, O3⟩
  obtain ⟨G2, o2, k2, m2, f2, r2, O2⟩ := unhide X2
  obtain ⟨hp, hd, hT, ht, hz, hn24⟩ := unhide HQ
  obtain ⟨O1, k1, m1, f1, z1⟩ := unhide X1
  have hpk := unhide HPK
  have hn9 := G3.n24
  have X3 := hide (show CChg w0 w b jb pb xb eb bm mb sb Y n S L A hn Mw Mn [19, 30 + p, 20 + p / 6] (upd T p (some (d, 1))) (upd T p (some (d, 1))) (flp B p) (fun M => M.getD (30 + p) ByteArray.empty = t) x3 from ⟨S3, Mn3, G3, o3, k3.trans (k2.trans k1), fun q hq => by
      rcases m3 q hq with r | ⟨r, hr, er⟩
      · rcases m2 q r with r | ⟨r, hr, er⟩
        · rcases m1 q r with r | ⟨r, hr, er⟩
          · exact .inl r
          · exact .inr ⟨r, by rw [List.mem_singleton] at hr; simp [hr], er⟩
        · exact .inr ⟨r, by rw [List.mem_singleton] at hr; simp [hr, ← hpk], er⟩
      · exact .inr ⟨r, by rw [List.mem_singleton] at hr; simp [hr], er⟩, fun k h1 h2 hk => by
      simp only [List.mem_cons, List.not_mem_nil, or_false, not_or] at hk
      rw [f3 k h1 h2 (by simpa using hk.2.2), f2 k h1 h2 (by rw [← hpk]; simpa using hk.2.1), f1 k h1 h2 (by simpa using hk.1)], by
      show Mn3.getD (30 + p) ByteArray.empty = t
      rw [f3 (30 + p) (by omega) (by omega) (by simp; omega)]
      rw [hpk]
      exact r2, ((O1.trans O2 (fun _ _ q => q)).mono (fun x _ q r => q (.inl r)) : Only (fun x => ¬ Y x) w x2).trans O3 (fun _ _ q => q)⟩)
  clear S3 Mn3 G3 o3 k3 m3 f3 O3 G2 o2 k2 m2 f2 r2 O2 hp hd hT ht hz hn24 O1 k1 m1 f1 z1 hpk hn9 HP X1 X2
  go_wp2_with (go_at_call 102; refine (unhide HWH _ _).mono ?_; rintro e w' ⟨rfl, hw'⟩; subst w')
  go_ret
  exact ⟨rfl, unhide X3⟩
end Go.Proofs.YtdpnbemagiekoaaGreatDoor

namespace Go.Proofs.YtdpnbemagiekoaaGreatDoor
open Go.RowKit Go.Maps Go.Sort Go.Shelf
set_option maxRecDepth 100000 in
set_option maxHeartbeats 2000000 in
theorem csave_clash {w0 w : World} {b jb pb xb eb bm mb sb : Nat} {Y : Nat → Prop} {n : Nat} {S : PS} {L : List ByteArray} {A : List (Nat × Nat)} {hn : Nat} {Mw Mn : List ByteArray} {T : Nat → En} {B : Nat → Bool} {e0 e1 e2 : Addr} (h : CG w0 w b jb pb xb eb bm mb sb Y n S L A hn Mw Mn T T B) (ho : S.op = true) (hK : KTab w0) (hs : Snt w0 e0 e1 e2) (t : ByteArray) (ht : t.size = 256) (i : Nat) (hi : i < n) (c : Nat) (hT : T i = some (dgB t, c)) (u : ByteArray) (hD : Mn.getD (30 + i) ByteArray.empty = u) (hu : u ≠ t) : Calls Tryz.prog 42 #[.pointer (some ⟨sb, 0, none⟩), .string t] w fun e w' => e = .returned (.tuple #[.string (dgB t), .bool false, eP e2]) ∧ CKept w0 w b jb pb xb eb bm mb sb Y n S L A hn Mw Mn T T B w' := by
  have HD := hide (digest9_any t ht w (hK.below h.bel hK.1))
  have hdd : (dgB t).size = 32 := dgB_size t
  generalize dgB t = d at *
  have X0 := hide (And.intro h (And.intro ho hs))
  clear h ho hs hK
  go_enter Tryz.func42, Tryz.ntmps42
  go_wp2_with fail
  refine (unhide HD).mono ?_
  rintro e x1 ⟨rfl, hb1⟩
  obtain ⟨h, ho, hs⟩ := unhide X0
  have HF := hide (cftc_hit (h.below hb1) ho hs i hi d c hT)
  try simp only [Int.cast_ofNat_Int] at HF
  have X1 := hide hb1
  clear h ho hs hb1 HD
  go_wp2_with fail
  refine (unhide HF).mono ?_
  rintro e x2 ⟨rfl, G2, O2⟩
  obtain ⟨h, ho, hs⟩ := unhide X0
  obtain ⟨g, hg⟩ : ∃ q, x2.heap.size = q := ⟨_, rfl⟩
  obtain ⟨x3, hx3⟩ : ∃ q, x2.alloc (.cells #[.int .i64 (i : Int), .string d, .int .i64 (c : Int)] 40) = q := ⟨_, rfl⟩
  have hb3 : Below x2.heap.size x2 x3 := by rw [← hx3]; exact (Below.refl _ x2).alloc (Nat.le_refl _) _
  have B3 : Blk x3 g #[.int .i64 (i : Int), .string d, .int .i64 (c : Int)] 40 := by rw [← hx3, ← hg]; exact Blk.new x2 _ _
  have G3 := G2.below hb3
  have OX : Only (fun x => ¬ Xf Y xb eb bm x) w x3 := ((Only.of_below (P := fun x => ¬ Xf Y xb eb bm x) (unhide X1)).trans O2 (fun _ _ q => q)).trans (Only.of_below (P := fun x => ¬ Xf Y xb eb bm x) hb3) (fun _ _ q => q)
  have hs3 : Snt x3 e0 e1 e2 := hs.below G3.bel
  have a0 : x3.cell? ⟨g, 0, none⟩ = _ := B3.cell 0
  have a1 : x3.cell? ⟨g, 1, none⟩ = _ := B3.cell 1
  have a2 : x3.cell? ⟨g, 2, none⟩ = _ := B3.cell 2
  have g0 := hs3.g0
  simp only [List.getElem?_toArray, List.getElem?_cons_zero, List.getElem?_cons_succ] at a0 a1 a2
  have HA := hide (cagain_clash G3 hs i hi d c t u hD hu)
  have X3 := hide (And.intro G3 OX)
  clear h ho hs G2 O2 B3 hb3 G3 OX hs3 HF X0 X1
  clear hT hD hi hu
  go_wp2_with fail
  refine (unhide HA).mono ?_
  rintro e x4 ⟨rfl, S4, k1, k2, k3, k4⟩
  have X4 := hide (And.intro k1 (And.intro k2 (And.intro k3 ((unhide X3).2.trans k4 (fun _ _ q => q)))))
  clear k1 k2 k3 k4 HA
  go_wp2
  go_ret3
  exact ⟨rfl, S4, (unhide X4).1, (unhide X4).2.1, (unhide X4).2.2.1, (unhide X4).2.2.2⟩
set_option maxRecDepth 100000 in
set_option maxHeartbeats 2000000 in
theorem csave_new {w0 w : World} {b jb pb xb eb bm mb sb : Nat} {Y : Nat → Prop} {n : Nat} {S : PS} {L : List ByteArray} {A : List (Nat × Nat)} {hn : Nat} {Mw Mn : List ByteArray} {T : Nat → En} {B : Nat → Bool} {e0 e1 e2 : Addr} (h : CG w0 w b jb pb xb eb bm mb sb Y n S L A hn Mw Mn T T B) (ho : S.op = true) (hK : KTab w0) (hs : Snt w0 e0 e1 e2) (t : ByteArray) (ht : t.size = 256) (p : Nat) (hl : Lea B n p) (hT : ∀ j c, T j ≠ some (dgB t, c)) (hz : S.tx.length ≤ 13) : Calls Tryz.prog 42 #[.pointer (some ⟨sb, 0, none⟩), .string t] w fun e w' => e = .returned (.tuple #[.string (dgB t), .bool true, .nilIface]) ∧ CChg w0 w b jb pb xb eb bm mb sb Y n S L A hn Mw Mn [19, 30 + p, 20 + p / 6] (upd T p (some (dgB t, 1))) (upd T p (some (dgB t, 1))) (flp B p) (fun M => M.getD (30 + p) ByteArray.empty = t) w' := by
  have HD := hide (digest9_any t ht w (hK.below h.bel hK.1))
  have hdd : (dgB t).size = 32 := dgB_size t
  generalize dgB t = d at *
  have X0 := hide (And.intro h (And.intro ho hs))
  clear h ho hs hK
  go_enter Tryz.func42, Tryz.ntmps42
  go_wp2_with fail
  refine (unhide HD).mono ?_
  rintro e x1 ⟨rfl, hb1⟩
  obtain ⟨h, ho, hs⟩ := unhide X0
  have HF := hide (cftc_miss (h.below hb1) ho hs d hdd hT)
  try simp only [Int.cast_ofNat_Int] at HF
  have X1 := hide hb1
  clear h ho hs hb1 HD
  go_wp2_with fail
  refine (unhide HF).mono ?_
  rintro e x2 ⟨rfl, G2, O2⟩
  obtain ⟨h, ho, hs⟩ := unhide X0
  obtain ⟨g, hg⟩ : ∃ q, x2.heap.size = q := ⟨_, rfl⟩
  obtain ⟨x3, hx3⟩ : ∃ q, x2.alloc (.cells #[.int .i64 0, .string ⟨#[]⟩, .int .i64 0] 40) = q := ⟨_, rfl⟩
  have hb3 : Below x2.heap.size x2 x3 := by rw [← hx3]; exact (Below.refl _ x2).alloc (Nat.le_refl _) _
  have B3 : Blk x3 g #[.int .i64 0, .string ⟨#[]⟩, .int .i64 0] 40 := by rw [← hx3, ← hg]; exact Blk.new x2 _ _
  have G3 := G2.below hb3
  have OX : Only (fun x => ¬ Xf Y xb eb bm x) w x3 := ((Only.of_below (P := fun x => ¬ Xf Y xb eb bm x) (unhide X1)).trans O2 (fun _ _ q => q)).trans (Only.of_below (P := fun x => ¬ Xf Y xb eb bm x) hb3) (fun _ _ q => q)
  have hs3 : Snt x3 e0 e1 e2 := hs.below G3.bel
  have a0 : x3.cell? ⟨g, 0, none⟩ = _ := B3.cell 0
  have a1 : x3.cell? ⟨g, 1, none⟩ = _ := B3.cell 1
  have a2 : x3.cell? ⟨g, 2, none⟩ = _ := B3.cell 2
  have g0 := hs3.g0
  simp only [List.getElem?_toArray, List.getElem?_cons_zero, List.getElem?_cons_succ] at a0 a1 a2
  have p0 := B3.frozen 0
  have p1 := B3.frozen 1
  have p2 := B3.frozen 2
  obtain ⟨x4, hx4⟩ : ∃ q, ((x3.setCell ⟨g, 0, none⟩ (.int .i64 0)).setCell ⟨g, 1, none⟩ (.string ⟨#[]⟩)).setCell ⟨g, 2, none⟩ (.int .i64 0) = q := ⟨_, rfl⟩
  have O4 : Only (fun x => x = g) x3 x4 := by rw [← hx4]; exact (((Only.refl (fun x => x = g) x3).setCell ⟨g, 0, none⟩ (.int .i64 0) (fun _ => rfl)).setCell ⟨g, 1, none⟩ (.string ⟨#[]⟩) (fun _ => rfl)).setCell ⟨g, 2, none⟩ (.int .i64 0) (fun _ => rfl)
  have G4 : CG w0 x4 b jb pb xb eb bm mb sb Y n S L A hn Mw Mn T T B := (G2.more (Z := fun x => Y x ∨ x = g) hb3 (fun x q => q.imp_right (fun e => by rw [e, hg]; exact ⟨Nat.le_refl _, B3.lt⟩)) (.inl h.ym) (.inl h.ys)).poke1 (G2.away hg) O4
  have OX4 : Only (fun x => ¬ Xf Y xb eb bm x) w x4 := OX.trans O4 (fun x hx q r => by rw [q] at hx r; exact absurd (G2.ig.pk.lt g r) (by rw [hg]; exact Nat.lt_irrefl g))
  have hs4 : Snt x4 e0 e1 e2 := hs.below G4.bel
  have g0' := hs4.g0
  have HA := hide (csaveNew_ok G4 ho p hl d hdd hT t ht hz)
  have HI := hide (is_same e0 x4)
  have X3' := hide (And.intro G4 OX4)
  clear G4 OX4 hs4 O4
  have X3 := hide (And.intro G3 OX)
  clear h ho hs G2 O2 B3 hb3 G3 OX hs3 HF X0 X1
  clear hT hl hz ht
  go_wp2_with fail
  refine (unhide HI).mono ?_
  rintro e w' ⟨rfl, hw'⟩
  subst w'
  clear HI
  go_wp2_with fail
  refine (unhide HA).mono ?_
  rintro e x4 ⟨rfl, k⟩
  have X4 := hide (CChg.from ((unhide X3').2.mono (fun x _ q r => q (.inl r))) k)
  clear k HA
  go_wp2
  go_ret3
  exact ⟨rfl, unhide X4⟩
end Go.Proofs.YtdpnbemagiekoaaGreatDoor

namespace Go.Proofs.YtdpnbemagiekoaaGreatDoor
open Go.RowKit Go.Maps Go.Sort Go.Shelf
set_option maxRecDepth 100000 in
set_option maxHeartbeats 2000000 in
theorem cSave_new {w0 w : World} {b jb pb xb eb bm mb sb : Nat} {Y : Nat → Prop} {n : Nat} {S : PS} {L : List ByteArray} {A : List (Nat × Nat)} {hn : Nat} {Mw Mn : List ByteArray} {T : Nat → En} {B : Nat → Bool} {e0 e1 e2 : Addr} (h : CG w0 w b jb pb xb eb bm mb sb Y n S L A hn Mw Mn T T B) (ho : S.op = true) (hK : KTab w0) (hs : Snt w0 e0 e1 e2) (t : ByteArray) (ht : t.size = 256) (p : Nat) (hl : Lea B n p) (hT : ∀ j c, T j ≠ some (dgB t, c)) (hz : S.tx.length ≤ 13) : Calls Tryz.prog 12 #[.pointer (some ⟨sb, 0, none⟩), .string t] w fun e w' => e = .returned (.tuple #[.string (dgB t), .bool true, .int .i64 0]) ∧ CChg w0 w b jb pb xb eb bm mb sb Y n S L A hn Mw Mn [19, 30 + p, 20 + p / 6] (upd T p (some (dgB t, 1))) (upd T p (some (dgB t, 1))) (flp B p) (fun M => M.getD (30 + p) ByteArray.empty = t) w' := by
  have HS := hide (csave_new h ho hK hs t ht p hl hT hz)
  generalize dgB t = d at *
  clear h ho hK hs
  go_enter Tryz.func12, Tryz.ntmps12
  go_wp2_with fail
  refine (unhide HS).mono ?_
  rintro e x1 ⟨rfl, k⟩
  have X1 := hide k
  clear k HS
  go_wp2
  go_ret3
  exact ⟨rfl, unhide X1⟩
set_option maxRecDepth 100000 in
set_option maxHeartbeats 2000000 in
theorem cSave_clash {w0 w : World} {b jb pb xb eb bm mb sb : Nat} {Y : Nat → Prop} {n : Nat} {S : PS} {L : List ByteArray} {A : List (Nat × Nat)} {hn : Nat} {Mw Mn : List ByteArray} {T : Nat → En} {B : Nat → Bool} {e0 e1 e2 : Addr} (h : CG w0 w b jb pb xb eb bm mb sb Y n S L A hn Mw Mn T T B) (ho : S.op = true) (hK : KTab w0) (hs : Snt w0 e0 e1 e2) (t : ByteArray) (ht : t.size = 256) (i : Nat) (hi : i < n) (c : Nat) (hT : T i = some (dgB t, c)) (u : ByteArray) (hD : Mn.getD (30 + i) ByteArray.empty = u) (hu : u ≠ t) : Calls Tryz.prog 12 #[.pointer (some ⟨sb, 0, none⟩), .string t] w fun e w' => e = .returned (.tuple #[.string ⟨#[]⟩, .bool false, .int .i64 94]) ∧ CKept w0 w b jb pb xb eb bm mb sb Y n S L A hn Mw Mn T T B w' := by
  have HS := hide (csave_clash h ho hK hs t ht i hi c hT u hD hu)
  generalize dgB t = d at *
  have X0 := hide hs
  clear h ho hK hs
  go_enter Tryz.func12, Tryz.ntmps12
  go_wp2_with fail
  refine (unhide HS).mono ?_
  rintro e x1 ⟨rfl, S1, k1, k2, k3, k4⟩
  have HA := hide (cans_clash ((unhide X0).below k1.bel))
  have X1 := hide (And.intro k1 (And.intro k2 (And.intro k3 k4)))
  clear k1 k2 k3 k4 HS
  go_wp2_with (go_at_call 43; refine (unhide HA).mono ?_; rintro e w' ⟨rfl, hw'⟩; subst w')
  go_ret3
  exact ⟨rfl, S1, (unhide X1).1, (unhide X1).2.1, (unhide X1).2.2.1, (unhide X1).2.2.2⟩
end Go.Proofs.YtdpnbemagiekoaaGreatDoor
