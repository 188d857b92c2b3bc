import Derived.Test.YtiellebdliifdaaGreatDoorMt24
import Derived.Laws.Tables
namespace Go.Proofs.YtiellebdliifdaaGreatDoor
open Go.RowKit Go.Maps Go.Sort Go.Shelf
set_option maxRecDepth 100000
theorem MG.sz {w0 w : World} {b jb pb mb sb : Nat} {X : Nat → Prop} {n : Nat} {S : PS} {L : List ByteArray} {A : List (Nat × Nat)} {hn : Nat} {Mw Mn : List ByteArray} {T : Nat → Bool} (h : MG w0 w b jb pb mb sb X n S L A hn Mw Mn T) (hc : S.op = false) (i : Nat) (hi : i < 88) : (Mn.getD (40 + i) ByteArray.empty).size = 256 := by
 have hs := h.bg.seen
 rw [hs.now (40 + i) (by omega) (by omega), hs.cl hc]
 show (Mw.getD (40 + i) ByteArray.empty).size = 256
 rw [← hs.was (40 + i) (by omega) (by rw [hs.len]; omega)]
 have hl : 40 + i < L.length := by rw [hs.len]; omega
 rw [List.getD_eq_getElem?_getD, List.getElem?_eq_getElem hl]
 exact hs.siz _ (List.getElem_mem _)
theorem mused_bad {w0 w : World} {b jb pb mb : Nat} {X : Nat → Prop} {a n : Nat} {S : PS} {L : List ByteArray} {A : List (Nat × Nat)} {hn : Nat} {Mw Mn : List ByteArray} {T : Nat → Bool} (h : BG w0 w b jb pb mb X a n S L A hn Mw Mn T) (i : Int) (hi : ¬ (0 ≤ i ∧ i < (n : Int))) : Calls Tryz.prog 93 #[.pointer (some ⟨mb, 0, none⟩), .int .i64 i] w fun e w' => e = .returned (.tuple #[.bool false, .int .i64 72]) ∧ w' = w := by
 have HH := hide (mhas_any h.mp i)
 have e : (decide (0 ≤ i) && decide (i < (n : Int))) = false := by
  by_cases h1 : 0 ≤ i
  ·rw [decide_eq_true h1, decide_eq_false (fun h2 => hi ⟨h1, h2⟩)]; rfl
  ·rw [decide_eq_false h1]; rfl
 rw [e] at HH
 clear h e hi
 go_enter Tryz.func93, Tryz.ntmps93
 go_wp2_with (go_at_call 122; refine (unhide HH).mono ?_; rintro e w' ⟨rfl, hw'⟩; subst w')
 go_ret2
 exact ⟨rfl, rfl⟩
theorem VS.noRoot {M : List ByteArray} {n m : Nat} {T : Nat → Bool} {V : Nat → Vol} (h : VS M n m T V) (i : Nat) (hi : i < n) (hr : ∀ k, k < m → (V k).r ≠ i) (hp : PgK (M.getD (40 + i) ByteArray.empty) 6 40) : T i = false := by
 cases hT : T i with
 | false => rfl
 | true =>
  rcases h.taken i hi hT with ⟨k, hk, e⟩ | ⟨k, l, hk, hl, h0, e⟩
  ·exact absurd e (hr k hk)
  ·obtain ⟨-, -, -, q⟩ := h.leaf k hk l hl h0
   rw [e] at q
   rw [q] at hp
   have := (lfP_parse (V k).num l ((V k).f l) (h.root k hk).1 hl (h.fo k hk l hl)).2.1
   rw [hp.2.1] at this
   exact absurd this (by decide)
structure ZT (zs : List Value) : Prop where
 len : zs.length = 22
 one : zs.toArray.all (·.oneCell') = true
 built : Tryz.prog.built 69 [] = some zs.toArray
theorem zt_ok : ZT [.int .i64 0, .int .i64 0, .int .i64 0, .int .i64 0, .int .i64 0, .int .i64 0, .int .i64 0, .int .i64 0, .int .i64 0, .int .i64 0, .int .i64 0, .int .i64 0, .int .i64 0, .int .i64 0, .int .i64 0, .int .i64 0, .int .i64 0, .int .i64 0, .int .i64 0, .int .i64 0, .int .i64 0, .int .i64 0] := ⟨rfl, by kernel_rfl, by kernel_rfl⟩
theorem wpList_buildW {P : Program} {ops : Array Oper} {rest : List Oper} {o : Oper} {a : Act} {w : World} {Q : Exit → Act → World → Prop} (hg : o.guard = none) (t : TypeId) (parts : Array (Nat × Operand)) (ho : o.op = .build t parts) (vs : List (Nat × Value)) (hv : (parts.map fun (i, x) => (i, a.eval x)).toList = vs) (cells : Array Value) (hb : P.built t vs = some cells)
  (h : wpList P ops Q rest (a.put o.dst (.agg cells)) w) : wpList P ops Q (o :: rest) a w :=
 wpList_build hg t parts ho (by rw [hv, hb]; rfl) (by rw [hv, hb]; exact h)
theorem wpList_build0 {t : TypeId} {cs : Array Value} (hb : Tryz.prog.built t [] = some cs) {ops : Array Oper} {rest : List Oper} {o : Oper} {a : Act} {w : World} {Q : Exit → Act → World → Prop} (hg : o.guard = none) (ho : o.op = .build t #[]) (h : wpList Tryz.prog ops Q rest (a.put o.dst (.agg cs)) w) : wpList Tryz.prog ops Q (o :: rest) a w :=
 wpList_buildW hg t #[] ho [] (by simp) cs hb h
set_option maxHeartbeats 1000000 in
theorem sFind_bad {w0 w : World} {b jb pb mb sb : Nat} {X : Nat → Prop} {n : Nat} {S : PS} {L : List ByteArray} {A : List (Nat × Nat)} {hn : Nat} {Mw Mn : List ByteArray} {T : Nat → Bool} (h : MG w0 w b jb pb mb sb X n S L A hn Mw Mn T) (hc : S.op = false) {zs : List Value} (hz : ZT zs) {m : Nat} {V : Nat → Vol} (hv : VS Mn n m T V) (r : Int) (hr : ∀ k, k < m → ((V k).r : Int) ≠ r) : Calls Tryz.prog 39 #[.pointer (some ⟨sb, 0, none⟩), .int .i64 r] w fun e w' => e = .returned (.tuple #[.agg zs.toArray, .int .i64 102]) ∧ MKept w0 w b jb pb mb sb X n S L A hn Mw Mn T w' := by
 obtain ⟨g, hg⟩ : ∃ q, w.heap.size = q := ⟨_, rfl⟩
 obtain ⟨x1, hx1⟩ : ∃ q, w.alloc (.cells #[.int .i64 0, .int .i64 0, .int .i64 0, .int .i64 0, .int .i64 0, .int .i64 0, .int .i64 0, .int .i64 0, .int .i64 0, .int .i64 0, .int .i64 0, .int .i64 0, .int .i64 0, .int .i64 0, .int .i64 0, .int .i64 0, .int .i64 0, .int .i64 0, .int .i64 0, .int .i64 0, .int .i64 0, .int .i64 0] 69) = q := ⟨_, rfl⟩
 have G1 := h.add _ hx1 hg
 have B1 : Blk x1 g #[.int .i64 0, .int .i64 0, .int .i64 0, .int .i64 0, .int .i64 0, .int .i64 0, .int .i64 0, .int .i64 0, .int .i64 0, .int .i64 0, .int .i64 0, .int .i64 0, .int .i64 0, .int .i64 0, .int .i64 0, .int .i64 0, .int .i64 0, .int .i64 0, .int .i64 0, .int .i64 0, .int .i64 0, .int .i64 0] 69 := by rw [← hx1, ← hg]; exact Blk.new w _ _
 have hO1 : Only (fun x => ¬ X x) w x1 := by rw [← hx1]; exact (Only.refl _ w).alloc _
 obtain ⟨n1, n2, n3, n4⟩ := h.new hg
 have hn88 := h.n88
 have HW := hide (sWhole_any G1)
 obtain ⟨c0, c1, c2⟩ := G1.c
 -- the end of every way: the world W, in which the store stands, and the result's own block
 have FIN := hide (show ∀ W S', MG w0 W b jb pb mb sb (fun x => X x ∨ x = g) n S' L A hn Mw Mn T → S'.op = S.op → Tk S' S → Blk W g #[.int .i64 0, .int .i64 0, .int .i64 0, .int .i64 0, .int .i64 0, .int .i64 0, .int .i64 0, .int .i64 0, .int .i64 0, .int .i64 0, .int .i64 0, .int .i64 0, .int .i64 0, .int .i64 0, .int .i64 0, .int .i64 0, .int .i64 0, .int .i64 0, .int .i64 0, .int .i64 0, .int .i64 0, .int .i64 0] 69 → Only (fun x => ¬ X x) w W → W.there g 0 zs.toArray.size ∧ (loadVar 69 ⟨g, 0, none⟩).run Tryz.prog (W.setCells g 0 zs) = .ok (.agg zs.toArray) (W.setCells g 0 zs) ∧ MKept w0 w b jb pb mb sb X n S L A hn Mw Mn T (W.setCells g 0 zs) from by
  intro W S' G k2 k3 B O
  have B6 := setCells_all B zs (by rw [hz.len]; rfl)
  have O6 : Only (fun x => x = g) W (W.setCells g 0 zs) := only_cells g 0 zs rfl
  exact ⟨blk_there B _ (by simp [hz.len]), iload_blk 69 _ B6 Tryz.underlying69 rfl (by rw [sizeTree]; simp [hz.len]), S', (G.poke (.inr rfl) n2 n3 n4 O6).less (fun _ q => .inl q) h.bg.xm h.xs, k2, k3, O.trans O6 (fun x _ q => by rw [q]; exact n1)⟩)
 have X1 := hide (And.intro G1 (And.intro B1 hO1))
 have HZ := hide hz
 clear hz
 by_cases hin : 0 ≤ r ∧ r < (n : Int)
 ·obtain ⟨i, rfl⟩ := Int.eq_ofNat_of_zero_le hin.1
  have hi : i < n := by omega
  have hr' : ∀ k, k < m → (V k).r ≠ i := fun k hk e => hr k hk (by rw [e])
  have HU := hide (mused_any G1.bg i hi)
  have hT := hv.noRoot i hi hr'
  have hsz := h.sz hc i (by omega)
  obtain ⟨t, ht⟩ : ∃ q, Mn.getD (40 + i) ByteArray.empty = q := ⟨_, rfl⟩
  rw [ht] at hT hsz
  by_cases hP : PgK t 6 40
  ·have hTi := hT hP
   rw [hTi] at HU
   have HRP := hide (fun W S' (G : MG w0 W b jb pb mb sb (fun x => X x ∨ x = g) n S' L A hn Mw Mn T) => sReadPage_ok G i (by omega) 6 40 t ht hP)
   generalize pnm t = nm at *
   generalize pbd t = bd at *
   clear G1 B1 hO1 n1 n2 n3 n4 h hv hn88 hT hsz hr hr' hin hi hTi hP ht
   as_aux_lemma =>
    go_enter Tryz.func39, Tryz.ntmps39
    go_wp2_with (go_at_call 92; refine (unhide HW).mono ?_; rintro e w' ⟨rfl, hw'⟩; subst w')
    refine (unhide HU).mono ?_
    rintro e x2 ⟨rfl, hK2⟩
    obtain ⟨S2, k1, k2, k3, k4⟩ := MKept.of (unhide X1).1 hK2
    have B2 := (unhide X1).2.1.only k4 (fun q => q (.inr rfl))
    have HR := hide (unhide HRP x2 S2 k1)
    have X2 := hide (And.intro k2 (And.intro k3 (And.intro B2 ((unhide X1).2.2.trans k4 (fun _ _ q r => q (.inl r))))))
    clear hK2 k1 k2 k3 k4 B2 HU HW HRP c0 c1 c2
    go_wp2_with fail
    refine (unhide HR).mono ?_
    rintro e x3 ⟨rfl, S3, k1, k2, k3, k4⟩
    obtain ⟨j1, j2, B2, O2⟩ := unhide X2
    have B3 := B2.only k4 (fun q => q (.inr rfl))
    have O3 : Only (fun x => ¬ X x) w x3 := O2.trans k4 (fun _ _ q r => q (.inl r))
    obtain ⟨x4, hx4⟩ : ∃ q, x3.alloc (.cells #[.int .i64 6, .int .i64 nm, .string bd] 95) = q := ⟨_, rfl⟩
    have hb4 : Below x3.heap.size x3 x4 := by rw [← hx4]; exact (Below.refl _ x3).alloc (Nat.le_refl _) _
    obtain ⟨f1, f2, f3⟩ := unhide FIN x4 S3 (k1.below hb4) (k2.trans j1) (k3.trans j2) (B3.below hb4 B3.lt) (O3.trans (Only.of_below (P := fun x => ¬ X x) hb4) (fun _ _ q => q))
    have F1 := hide f1
    have F2 := hide f2
    have F3 := hide f3
    clear k1 k2 k3 k4 j1 j2 B2 O2 B3 O3 hb4 HR X2 X1 f1 f2 f3 FIN
    go_wp2_with (first | refine wpList_build0 (unhide HZ).built rfl rfl ?_ | refine wpList_store_mid rfl 69 (.tmp 4) (.tmp 39) rfl g 0 zs.toArray rfl rfl (unhide F1) (by rw [sizeTree]; simp [(unhide HZ).len]) (unhide HZ).one ?_)
    exact bodyPost_ret (v := .tuple #[.agg zs.toArray, .int .i64 102]) (results_cell2 (p := 4) (q := 5) (ty := 69) rfl _ _ _ ⟨g, 0, none⟩ rfl _ (unhide F2)) rfl ⟨rfl, unhide F3⟩
  ·have HRP := hide (fun W S' (G : MG w0 W b jb pb mb sb (fun x => X x ∨ x = g) n S' L A hn Mw Mn T) => sReadPage_bad G i (by omega) 6 40 t ht (by rw [hsz]; decide) hP)
   generalize T i = ti at *
   clear G1 B1 hO1 n1 n2 n3 n4 h hv hn88 hT hsz hr hr' hin hi hP ht
   as_aux_lemma =>
    go_enter Tryz.func39, Tryz.ntmps39
    go_wp2_with (go_at_call 92; refine (unhide HW).mono ?_; rintro e w' ⟨rfl, hw'⟩; subst w')
    refine (unhide HU).mono ?_
    rintro e x2 ⟨rfl, hK2⟩
    obtain ⟨S2, k1, k2, k3, k4⟩ := MKept.of (unhide X1).1 hK2
    have B2 := (unhide X1).2.1.only k4 (fun q => q (.inr rfl))
    have HR := hide (unhide HRP x2 S2 k1)
    have X2 := hide (And.intro k2 (And.intro k3 (And.intro B2 ((unhide X1).2.2.trans k4 (fun _ _ q r => q (.inl r))))))
    clear hK2 k1 k2 k3 k4 B2 HU HW HRP c0 c1 c2
    go_wp2_with fail
    refine (unhide HR).mono ?_
    rintro e x3 ⟨rfl, S3, k1, k2, k3, k4⟩
    obtain ⟨j1, j2, B2, O2⟩ := unhide X2
    have B3 := B2.only k4 (fun q => q (.inr rfl))
    have O3 : Only (fun x => ¬ X x) w x3 := O2.trans k4 (fun _ _ q r => q (.inl r))
    have hb4 : Below x3.heap.size x3 (x3.alloc (.cells #[.int .i64 0, .int .i64 0, .string ⟨#[]⟩] 95)) := (Below.refl _ x3).alloc (Nat.le_refl _) _
    obtain ⟨f1, f2, f3⟩ := unhide FIN (x3.alloc (.cells #[.int .i64 0, .int .i64 0, .string ⟨#[]⟩] 95)) S3 (k1.below hb4) (k2.trans j1) (k3.trans j2) (B3.below hb4 B3.lt) (O3.trans (Only.of_below (P := fun x => ¬ X x) hb4) (fun _ _ q => q))
    have F1 := hide f1
    have F2 := hide f2
    have F3 := hide f3
    clear k1 k2 k3 k4 j1 j2 B2 O2 B3 O3 hb4 HR X2 X1 f1 f2 f3 FIN
    go_wp2_with (first | refine wpList_build0 (unhide HZ).built rfl rfl ?_ | refine wpList_store_mid rfl 69 (.tmp 4) (.tmp 35) rfl g 0 zs.toArray rfl rfl (unhide F1) (by rw [sizeTree]; simp [(unhide HZ).len]) (unhide HZ).one ?_)
    exact bodyPost_ret (v := .tuple #[.agg zs.toArray, .int .i64 102]) (results_cell2 (p := 4) (q := 5) (ty := 69) rfl _ _ _ ⟨g, 0, none⟩ rfl _ (unhide F2)) rfl ⟨rfl, unhide F3⟩
 ·have HU := hide (mused_bad G1.bg r hin)
  obtain ⟨f1, f2, f3⟩ := unhide FIN x1 S G1 rfl (Tk.refl _) B1 hO1
  have F1 := hide f1
  have F2 := hide f2
  have F3 := hide f3
  clear G1 B1 hO1 n1 n2 n3 n4 h hv hn88 hr hin X1 FIN f1 f2 f3
  as_aux_lemma =>
   go_enter Tryz.func39, Tryz.ntmps39
   go_wp2_with (go_at_call 92; refine (unhide HW).mono ?_; rintro e w' ⟨rfl, hw'⟩; subst w')
   refine (unhide HU).mono ?_
   rintro e x2 ⟨rfl, hw2⟩
   subst x2
   clear HU HW c0 c1 c2
   go_wp2_with (first
    | refine wpList_build0 (unhide HZ).built rfl rfl ?_
    | (go_at_call 77; refine (answerOf_place _).mono ?_; rintro e w' ⟨rfl, hw'⟩; subst w')
    | refine wpList_store_mid rfl 69 (.tmp 4) (.tmp 24) rfl g 0 zs.toArray rfl rfl (unhide F1) (by rw [sizeTree]; simp [(unhide HZ).len]) (unhide HZ).one ?_)
   exact bodyPost_ret (v := .tuple #[.agg zs.toArray, .int .i64 102]) (results_cell2 (p := 4) (q := 5) (ty := 69) rfl _ _ _ ⟨g, 0, none⟩ rfl _ (unhide F2)) rfl ⟨rfl, unhide F3⟩
end Go.Proofs.YtiellebdliifdaaGreatDoor
namespace Go.Proofs.YtiellebdliifdaaGreatDoor
open Go.RowKit Go.Maps Go.Sort Go.Shelf
theorem MG.write {w0 w : World} {b jb pb mb sb : Nat} {X : Nat → Prop} {n : Nat} {S : PS} {L : List ByteArray} {A : List (Nat × Nat)} {hn : Nat} {Mw Mn : List ByteArray} {T : Nat → Bool} (h : MG w0 w b jb pb mb sb X n S L A hn Mw Mn T) (ho : S.op = true) (i : Nat) (hi : i < 88) (t : ByteArray) (ht : t.size = 256) (hr : S.tx.length < 16) : Calls Tryz.prog 101 #[.pointer (some ⟨pb, 0, none⟩), .int .i64 ((40 + i : Nat) : Int), .string t] w fun e w' => e = .returned (.int .i64 0) ∧ MChg w0 w b jb pb mb sb X n S L A hn Mw 1 T (ups (Sec Mn) (40 + i) t) w' := by
 obtain ⟨r1, r2, r3, r4⟩ := h.bg.seen.write h.bg.srt ho (40 + i) (by omega) (by omega) t ht (room_of hr _)
 have hc := pwrite_any h.bg.pk ((40 + i : Nat) : Int) t (by omega)
 rw [r1] at hc
 refine hc.mono ?_
 rintro e w' ⟨rfl, K, hO⟩
 have hl := h.bg.seen.ln
 refine ⟨rfl, _, _, h.of (h.bg.next K hO r2 (ms_19 h.bg.ms h.n88 (by rw [getD_set _ _ _ _ (by omega), if_neg (by omega)]))) hO, r3, (write_rest h.bg.seen.rst _ _).2.2, by rw [r4]; exact put_le h.bg.srt _ _, fun k _ _ => ?_, hO⟩
 show (Mn.set (40 + i) t).getD k ByteArray.empty = _
 rw [getD_set _ _ _ _ (by omega)]
 rfl
theorem MG.turned {w0 w : World} {b jb pb mb sb : Nat} {X : Nat → Prop} {n : Nat} {S : PS} {L : List ByteArray} {A : List (Nat × Nat)} {hn : Nat} {Mw Mn : List ByteArray} {T : Nat → Bool} (h : MG w0 w b jb pb mb sb X n S L A hn Mw Mn T) (p : Nat) (hp : p < n) {w' : World} (k : Turned w0 w b jb pb mb X 19 n S L A hn Mw T p w') : MChg w0 w b jb pb mb sb X n S L A hn Mw 1 (flp T p) (Sec Mn) w' := by
 obtain ⟨S', Mn', k1, k2, ⟨⟨t, _, k3⟩, k5⟩, k4⟩ := k
 have e19 : 19 + p / 256 = 19 := by have := h.n88; omega
 rw [e19] at k3
 refine ⟨S', Mn', h.of k1 k4, k2, k5, by rw [k3]; exact put_le h.bg.srt _ _, fun k h1 h2 => ?_, k4⟩
 show Mn'.getD k ByteArray.empty = Mn.getD k ByteArray.empty
 rw [h.bg.seen.now k (by omega) h2, k1.seen.now k (by omega) h2, k3, at_put h.bg.srt, if_neg (by omega)]
theorem MG.alloc {w0 w : World} {b jb pb mb sb : Nat} {X : Nat → Prop} {n : Nat} {S : PS} {L : List ByteArray} {A : List (Nat × Nat)} {hn : Nat} {Mw Mn : List ByteArray} {T : Nat → Bool} (h : MG w0 w b jb pb mb sb X n S L A hn Mw Mn T) (ho : S.op = true) (p : Nat) (hl : Lea T n p) (hr : S.tx.length < 16) : Calls Tryz.prog 100 #[.pointer (some ⟨mb, 0, none⟩)] w fun e w' => e = .returned (.tuple #[.int .i64 (p : Int), .int .i64 0]) ∧ MChg w0 w b jb pb mb sb X n S L A hn Mw 1 (flp T p) (Sec Mn) w' := by
 refine (malloc_ok h.bg ho p hl (room_of hr _)).mono ?_
 rintro e w' ⟨rfl, k⟩
 exact ⟨rfl, h.turned p hl.1 k⟩
theorem MG.free {w0 w : World} {b jb pb mb sb : Nat} {X : Nat → Prop} {n : Nat} {S : PS} {L : List ByteArray} {A : List (Nat × Nat)} {hn : Nat} {Mw Mn : List ByteArray} {T : Nat → Bool} (h : MG w0 w b jb pb mb sb X n S L A hn Mw Mn T) (ho : S.op = true) (i : Nat) (hi : i < n) (hT : T i = true) (hr : S.tx.length < 16) : Calls Tryz.prog 78 #[.pointer (some ⟨mb, 0, none⟩), .int .i64 (i : Int)] w fun e w' => e = .returned (.int .i64 0) ∧ MChg w0 w b jb pb mb sb X n S L A hn Mw 1 (flp T i) (Sec Mn) w' := by
 refine (mfree_ok h.bg ho i hi hT (room_of hr _)).mono ?_
 rintro e w' ⟨rfl, k⟩
 exact ⟨rfl, h.turned i hi k⟩
theorem MChg.trans {w0 w : World} {b jb pb mb sb : Nat} {X : Nat → Prop} {n : Nat} {S : PS} {L : List ByteArray} {A : List (Nat × Nat)} {hn : Nat} {Mw : List ByteArray} {d d' : Nat} {T1 T2 : Nat → Bool} {Z Z2 : Nat → ByteArray} {w1 w2 : World} (h : MChg w0 w b jb pb mb sb X n S L A hn Mw d T1 Z w1) (k : ∀ S' Mn', MG w0 w1 b jb pb mb sb X n S' L A hn Mw Mn' T1 → S'.op = true → S'.tx.length ≤ S.tx.length + d → Eqv (Sec Mn') Z → MChg w0 w1 b jb pb mb sb X n S' L A hn Mw d' T2 Z2 w2) : MChg w0 w b jb pb mb sb X n S L A hn Mw (d + d') T2 Z2 w2 := by
 obtain ⟨S1, M1, h1, h2, h3, h4, h5, h6⟩ := h
 obtain ⟨S2, M2, k1, k2, k3, k4, k5, k6⟩ := k S1 M1 h1 h2 h4 h5
 exact ⟨S2, M2, k1, k2, k3.trans h3, by omega, k5, h6.trans k6 (fun _ _ q => q)⟩
theorem MChg.below {w0 w : World} {b jb pb mb sb : Nat} {X : Nat → Prop} {n : Nat} {S : PS} {L : List ByteArray} {A : List (Nat × Nat)} {hn : Nat} {Mw : List ByteArray} {d : Nat} {T1 : Nat → Bool} {Z : Nat → ByteArray} {w1 w2 : World} (h : MChg w0 w b jb pb mb sb X n S L A hn Mw d T1 Z w1) (hb : Below w1.heap.size w1 w2) : MChg w0 w b jb pb mb sb X n S L A hn Mw d T1 Z w2 := by
 obtain ⟨S1, M1, h1, h2, h3, h4, h5, h6⟩ := h
 exact ⟨S1, M1, h1.below hb, h2, h3, h4, h5, h6.trans (Only.of_below (P := fun x => ¬ X x) hb) (fun _ _ q => q)⟩
theorem MChg.less {w0 w : World} {b jb pb mb sb : Nat} {X : Nat → Prop} {n : Nat} {S : PS} {L : List ByteArray} {A : List (Nat × Nat)} {hn : Nat} {Mw : List ByteArray} {d : Nat} {T1 : Nat → Bool} {Z : Nat → ByteArray} {Y : Nat → Prop} {wz w1 : World} (h : MChg w0 w b jb pb mb sb X n S L A hn Mw d T1 Z w1) (ho : Only (fun x => ¬ Y x) wz w) (hy : ∀ x, Y x → X x) (hm : Y mb) (hs : Y sb) : MChg w0 wz b jb pb mb sb Y n S L A hn Mw d T1 Z w1 := by
 obtain ⟨S1, M1, h1, h2, h3, h4, h5, h6⟩ := h
 exact ⟨S1, M1, h1.less hy hm hs, h2, h3, h4, h5, ho.trans h6 (fun x _ q r => q (hy x r))⟩
theorem MKept.less {w0 w : World} {b jb pb mb sb : Nat} {X : Nat → Prop} {n : Nat} {S : PS} {L : List ByteArray} {A : List (Nat × Nat)} {hn : Nat} {Mw Mn : List ByteArray} {T : Nat → Bool} {Y : Nat → Prop} {wz w1 : World} (h : MKept w0 w b jb pb mb sb X n S L A hn Mw Mn T w1) (ho : Only (fun x => ¬ Y x) wz w) (hy : ∀ x, Y x → X x) (hm : Y mb) (hs : Y sb) : MKept w0 wz b jb pb mb sb Y n S L A hn Mw Mn T w1 := by
 obtain ⟨S1, h1, h2, h3, h6⟩ := h
 exact ⟨S1, h1.less hy hm hs, h2, h3, ho.trans h6 (fun x _ q r => q (hy x r))⟩
set_option maxRecDepth 100000 in
set_option maxHeartbeats 2000000 in
theorem sWritePage {w0 w : World} {b jb pb mb sb : Nat} {X : Nat → Prop} {n : Nat} {S : PS} {L : List ByteArray} {A : List (Nat × Nat)} {hn : Nat} {Mw Mn : List ByteArray} {T : Nat → Bool} (h : MG w0 w b jb pb mb sb X n S L A hn Mw Mn T) (ho : S.op = true) (i : Nat) (hi : i < 88) (kind num : Int) (bd : ByteArray) (hE : errM kind num bd.size = 0) (hr : S.tx.length < 16) : Calls Tryz.prog 52 #[.pointer (some ⟨sb, 0, none⟩), .int .i64 (i : Int), .agg #[.int .i64 kind, .int .i64 num, .string bd]] w fun e w' => e = .returned (.int .i64 0) ∧ MChg w0 w b jb pb mb sb X n S L A hn Mw 1 T (ups (Sec Mn) (40 + i) (makeB kind num bd)) w' := by
 obtain ⟨g, hg⟩ : ∃ q, w.heap.size = q := ⟨_, rfl⟩
 obtain ⟨x1, hx1⟩ : ∃ q, w.alloc (.cells #[.int .i64 kind, .int .i64 num, .string bd] 95) = q := ⟨_, rfl⟩
 have G1 := h.add _ hx1 hg
 have B1 : Blk x1 g #[.int .i64 kind, .int .i64 num, .string bd] 95 := by rw [← hx1, ← hg]; exact Blk.new w _ _
 have hO1 : Only (fun x => ¬ X x) w x1 := by rw [← hx1]; exact (Only.refl _ w).alloc _
 obtain ⟨n1, n2, n3, n4⟩ := h.new hg
 have HMK := hide (fun W => make_any rep_ok kind num bd W)
 rw [hE] at HMK
 have hts : (makeB kind num bd).size = 256 := (prOk_size _ (make_parse kind num bd hE).1).1
 have HWR := hide (fun W (G : MG w0 W b jb pb mb sb (fun x => X x ∨ x = g) n S L A hn Mw Mn T) => G.write ho i hi (makeB kind num bd) hts hr)
 generalize makeB kind num bd = tx at *
 have a0 : x1.cell? ⟨g, 0, none⟩ = some (.int .i64 kind) := B1.cell 0
 have a1 : x1.cell? ⟨g, 1, none⟩ = some (.int .i64 num) := B1.cell 1
 have a2 : x1.cell? ⟨g, 2, none⟩ = some (.string bd) := B1.cell 2
 have X1 := hide (And.intro G1 (And.intro hO1 (And.intro h.bg.xm h.xs)))
 have e1 : (40 : Int) + (i : Int) = ((40 + i : Nat) : Int) := by omega
 have hq : 40 + i ≤ 1000 := by omega
 have hwq : IntKind.i64.wrap ((40 + i : Nat) : Int) = ((40 + i : Nat) : Int) := wrapI_eq _ (by omega) (by omega)
 generalize 40 + i = ak at *
 clear G1 B1 hO1 n1 n2 n3 n4 h hE hts ho hr
 go_enter Tryz.func52, Tryz.ntmps52
 go_wp2_with fail
 refine (unhide HMK _).mono ?_
 rintro e x2 ⟨rfl, hb2⟩
 have G2 := (unhide X1).1.below hb2
 obtain ⟨c0, c1, c2⟩ := G2.c
 have G2d := G2.below ((Below.refl _ x2).drew)
 have HW := hide (unhide HWR x2.drew G2d)
 have X2 := hide ((unhide X1).2.1.trans ((Only.of_below (P := fun x => ¬ X x) hb2).trans (Only.of_below (P := fun x => ¬ X x) ((Below.refl _ x2).drew)) (fun _ _ q => q)) (fun _ _ q => q))
 clear G2 G2d hb2 HMK HWR a0 a1 a2
 go_wp2
 refine wp_region_held_drew (S := fun w' => w'.cell? ⟨sb, 0, none⟩ = some (.pointer (some ⟨pb, 0, none⟩)) ∧ w'.cell? ⟨sb, 2, none⟩ = some (.int .i64 40)) (by kernel_rfl) ⟨c0, c2⟩ ?_
 intro hS
 refine wpAnyH_takeD 0 (some 14) (.pointer (some ⟨sb, 0, none⟩)) rfl rfl (by kernel_rfl) (by kernel_rfl) (by kernel_rfl) (fun _ _ _ h => h) (Or.inl ⟨by rfl, fun w hSw => by obtain ⟨q1, q2⟩ := hSw; go_simp⟩) hS ?_
 simp only [Act.put, List.setIfInBounds_toArray, List.set_cons_zero, List.set_cons_succ]
 refine wpAnyH_takeD 1 (some 15) (.pointer (some ⟨sb, 0, none⟩)) rfl rfl (by kernel_rfl) (by kernel_rfl) (by kernel_rfl) (fun _ _ _ h => h) (Or.inl ⟨by rfl, fun w hSw => by obtain ⟨q1, q2⟩ := hSw; go_simp⟩) hS ?_
 simp only [Act.put, List.setIfInBounds_toArray, List.set_cons_zero, List.set_cons_succ]
 refine wpAnyH_takeD 2 (some 16) (.pointer (some ⟨sb, 0, none⟩)) rfl rfl (by kernel_rfl) (by kernel_rfl) (by kernel_rfl) (fun _ _ _ h => h) (Or.inl ⟨by rfl, fun w hSw => by obtain ⟨q1, q2⟩ := hSw; go_simp⟩) hS ?_
 simp only [Act.put, List.setIfInBounds_toArray, List.set_cons_zero, List.set_cons_succ]
 refine wpAnyH_takeD 3 (some 17) (.pointer (some ⟨pb, 0, none⟩)) rfl rfl (by kernel_rfl) (by kernel_rfl) (by kernel_rfl) (fun _ _ _ h => h) (Or.inl ⟨by rfl, fun w hSw => by obtain ⟨q1, q2⟩ := hSw; go_simp⟩) hS ?_
 simp only [Act.put, List.setIfInBounds_toArray, List.set_cons_zero, List.set_cons_succ]
 refine wpAnyH_takeD 4 (some 18) (.pointer (some ⟨sb, 0, none⟩)) rfl rfl (by kernel_rfl) (by kernel_rfl) (by kernel_rfl) (fun _ _ _ h => h) (Or.inl ⟨by rfl, fun w hSw => by obtain ⟨q1, q2⟩ := hSw; go_simp⟩) hS ?_
 simp only [Act.put, List.setIfInBounds_toArray, List.set_cons_zero, List.set_cons_succ]
 refine wpAnyH_takeD 5 (some 19) (.pointer (some ⟨sb, 0, none⟩)) rfl rfl (by kernel_rfl) (by kernel_rfl) (by kernel_rfl) (fun _ _ _ h => h) (Or.inl ⟨by rfl, fun w hSw => by obtain ⟨q1, q2⟩ := hSw; go_simp⟩) hS ?_
 simp only [Act.put, List.setIfInBounds_toArray, List.set_cons_zero, List.set_cons_succ]
 refine wpAnyH_takeD 6 (some 20) (.pointer (some ⟨sb, 2, none⟩)) rfl rfl (by kernel_rfl) (by kernel_rfl) (by kernel_rfl) (fun _ _ _ h => h) (Or.inl ⟨by rfl, fun w hSw => by obtain ⟨q1, q2⟩ := hSw; go_simp⟩) hS ?_
 simp only [Act.put, List.setIfInBounds_toArray, List.set_cons_zero, List.set_cons_succ]
 refine wpAnyH_takeD 7 (some 21) (.int .i64 40) rfl rfl (by kernel_rfl) (by kernel_rfl) (by kernel_rfl) (fun _ _ _ h => h) (Or.inl ⟨by rfl, fun w hSw => by obtain ⟨q1, q2⟩ := hSw; go_simp⟩) hS ?_
 simp only [Act.put, List.setIfInBounds_toArray, List.set_cons_zero, List.set_cons_succ]
 refine wpAnyH_takeD 8 (some 22) (.int .i64 (i : Int)) rfl rfl (by kernel_rfl) (by kernel_rfl) (by kernel_rfl) (fun _ _ _ h => h) (Or.inl ⟨by rfl, fun w hSw => by obtain ⟨q1, q2⟩ := hSw; go_simp⟩) hS ?_
 simp only [Act.put, List.setIfInBounds_toArray, List.set_cons_zero, List.set_cons_succ]
 refine wpAnyH_takeD 9 (some 23) (.int .i64 (ak : Int)) rfl rfl (by kernel_rfl) (by kernel_rfl) (by kernel_rfl) (fun _ _ _ h => h) (Or.inl ⟨by rfl, fun w hSw => by obtain ⟨q1, q2⟩ := hSw; go_simp⟩) hS ?_
 simp only [Act.put, List.setIfInBounds_toArray, List.set_cons_zero, List.set_cons_succ]
 refine wpAnyH_takeD 10 (some 24) (.string tx) rfl rfl (by kernel_rfl) (by kernel_rfl) (by kernel_rfl) (fun _ _ _ h => h) (Or.inl ⟨by rfl, fun w hSw => by obtain ⟨q1, q2⟩ := hSw; go_simp⟩) hS ?_
 simp only [Act.put, List.setIfInBounds_toArray, List.set_cons_zero, List.set_cons_succ]
 refine wpAnyH_ready (rs := [11]) (by kernel_rfl) (by simp) ?_
 refine AllReadyH.cons rfl (fun K hK => ?_) AllReadyH.nil
 simp only [List.getElem_toArray, List.getElem_cons_succ, List.getElem_cons_zero]
 go_simp
 refine (unhide HW).mono ?_
 rintro e x3 ⟨rfl, hC⟩
 have HF := hide (hC.less (Y := X) (unhide X2) (fun _ q => .inl q) (unhide X1).2.2.1 (unhide X1).2.2.2)
 obtain ⟨S3, M3, k1, -⟩ := hC
 obtain ⟨d0, d1, d2⟩ := k1.c
 clear k1 HW X2
 refine hK.out _ _ ⟨d0, d2⟩ (fun hS => ?_)
 clear hK K
 refine wpAnyH_takeD 12 (some 6) (.int .i64 0) rfl rfl (by kernel_rfl) (by kernel_rfl) (by kernel_rfl) (fun _ _ _ h => h) (Or.inl ⟨by rfl, fun w hSw => by obtain ⟨q1, q2⟩ := hSw; go_simp⟩) hS ?_
 simp only [Act.put, List.setIfInBounds_toArray, List.set_cons_zero, List.set_cons_succ]
 refine wpAnyH_done (by kernel_rfl) ?_ _
 clear hS c0 c1 c2 d0 d1 d2
 go_wp2
 go_ret
 exact ⟨rfl, unhide HF⟩
set_option maxRecDepth 100000 in
set_option maxHeartbeats 2000000 in
theorem sLay {w0 w : World} {b jb pb mb sb : Nat} {X : Nat → Prop} {n : Nat} {S : PS} {L : List ByteArray} {A : List (Nat × Nat)} {hn : Nat} {Mw Mn : List ByteArray} {T : Nat → Bool} (h : MG w0 w b jb pb mb sb X n S L A hn Mw Mn T) (ho : S.op = true) (p : Nat) (hl : Lea T n p) (kind num : Int) (bd : ByteArray) (hE : errM kind num bd.size = 0) (hr : S.tx.length < 15) : Calls Tryz.prog 48 #[.pointer (some ⟨sb, 0, none⟩), .agg #[.int .i64 kind, .int .i64 num, .string bd]] w fun e w' => e = .returned (.tuple #[.int .i64 (p : Int), .int .i64 0]) ∧ MChg w0 w b jb pb mb sb X n S L A hn Mw 2 (flp T p) (ups (Sec Mn) (40 + p) (makeB kind num bd)) w' := by
 obtain ⟨g, hg⟩ : ∃ q, w.heap.size = q := ⟨_, rfl⟩
 obtain ⟨x1, hx1⟩ : ∃ q, w.alloc (.cells #[.int .i64 kind, .int .i64 num, .string bd] 95) = q := ⟨_, rfl⟩
 have G1 := h.add _ hx1 hg
 have B1 : Blk x1 g #[.int .i64 kind, .int .i64 num, .string bd] 95 := by rw [← hx1, ← hg]; exact Blk.new w _ _
 have hO1 : Only (fun x => ¬ X x) w x1 := by rw [← hx1]; exact (Only.refl _ w).alloc _
 obtain ⟨n1, n2, n3, n4⟩ := h.new hg
 have HMK := hide (fun W => make_any rep_ok kind num bd W)
 rw [hE] at HMK
 have hts : (makeB kind num bd).size = 256 := (prOk_size _ (make_parse kind num bd hE).1).1
 have hp : p < 88 := by have := hl.1; have := h.n88; omega
 have HAL := hide (fun W (G : MG w0 W b jb pb mb sb (fun x => X x ∨ x = g) n S L A hn Mw Mn T) => G.alloc ho p hl (by omega))
 have HWR := hide (fun W S' Mn' (G : MG w0 W b jb pb mb sb (fun x => X x ∨ x = g) n S' L A hn Mw Mn' (flp T p)) ho' hr' => G.write ho' p hp (makeB kind num bd) hts hr')
 have HR := hide hr
 generalize makeB kind num bd = tx at *
 have a0 : x1.cell? ⟨g, 0, none⟩ = some (.int .i64 kind) := B1.cell 0
 have a1 : x1.cell? ⟨g, 1, none⟩ = some (.int .i64 num) := B1.cell 1
 have a2 : x1.cell? ⟨g, 2, none⟩ = some (.string bd) := B1.cell 2
 have X1 := hide (And.intro G1 (And.intro hO1 (And.intro h.bg.xm h.xs)))
 have e1 : (40 : Int) + (p : Int) = ((40 + p : Nat) : Int) := by omega
 have hq : 40 + p ≤ 1000 := by omega
 have hwq : IntKind.i64.wrap ((40 + p : Nat) : Int) = ((40 + p : Nat) : Int) := wrapI_eq _ (by omega) (by omega)
 generalize 40 + p = ak at *
 clear G1 B1 hO1 n1 n2 n3 n4 h hE hts ho hr hl
 go_enter Tryz.func48, Tryz.ntmps48
 go_wp2_with fail
 refine (unhide HMK _).mono ?_
 rintro e x2 ⟨rfl, hb2⟩
 have G2 := (unhide X1).1.below hb2
 obtain ⟨c0, c1, c2⟩ := G2.c
 have HA := hide (unhide HAL x2 G2)
 have X2 := hide ((unhide X1).2.1.trans (Only.of_below (P := fun x => ¬ X x) hb2) (fun _ _ q => q))
 clear G2 hb2 HMK HAL a0 a1 a2
 go_wp2_with fail
 refine (unhide HA).mono ?_
 rintro e x3 ⟨rfl, hC3⟩
 have HC3 := hide hC3
 obtain ⟨S3, M3, k1, k2, k3, k4, k5, k6⟩ := hC3
 obtain ⟨d0, d1, d2⟩ := k1.c
 have G3d := k1.below ((Below.refl _ x3).drew)
 have HW := hide (unhide HWR x3.drew S3 M3 G3d k2 (by have := unhide HR; omega))
 have X3 := hide (And.intro k3 (And.intro k4 (And.intro k5 (k6.trans (Only.of_below (P := fun x => ¬ (fun x => X x ∨ x = g) x) ((Below.refl _ x3).drew)) (fun _ _ q => q)))))
 clear k1 k2 k3 k4 k5 k6 G3d HA HWR c0 c1 c2
 go_wp2
 refine wp_region_held_drew (S := fun w' => w'.cell? ⟨sb, 0, none⟩ = some (.pointer (some ⟨pb, 0, none⟩)) ∧ w'.cell? ⟨sb, 2, none⟩ = some (.int .i64 40)) (by kernel_rfl) ⟨d0, d2⟩ ?_
 intro hS
 refine wpAnyH_takeD 0 (some 28) (.pointer (some ⟨sb, 0, none⟩)) rfl rfl (by kernel_rfl) (by kernel_rfl) (by kernel_rfl) (fun _ _ _ h => h) (Or.inl ⟨by rfl, fun w hSw => by obtain ⟨q1, q2⟩ := hSw; go_simp⟩) hS ?_
 simp only [Act.put, List.setIfInBounds_toArray, List.set_cons_zero, List.set_cons_succ]
 refine wpAnyH_takeD 1 (some 29) (.pointer (some ⟨sb, 0, none⟩)) rfl rfl (by kernel_rfl) (by kernel_rfl) (by kernel_rfl) (fun _ _ _ h => h) (Or.inl ⟨by rfl, fun w hSw => by obtain ⟨q1, q2⟩ := hSw; go_simp⟩) hS ?_
 simp only [Act.put, List.setIfInBounds_toArray, List.set_cons_zero, List.set_cons_succ]
 refine wpAnyH_takeD 2 (some 30) (.pointer (some ⟨sb, 0, none⟩)) rfl rfl (by kernel_rfl) (by kernel_rfl) (by kernel_rfl) (fun _ _ _ h => h) (Or.inl ⟨by rfl, fun w hSw => by obtain ⟨q1, q2⟩ := hSw; go_simp⟩) hS ?_
 simp only [Act.put, List.setIfInBounds_toArray, List.set_cons_zero, List.set_cons_succ]
 refine wpAnyH_takeD 3 (some 31) (.pointer (some ⟨pb, 0, none⟩)) rfl rfl (by kernel_rfl) (by kernel_rfl) (by kernel_rfl) (fun _ _ _ h => h) (Or.inl ⟨by rfl, fun w hSw => by obtain ⟨q1, q2⟩ := hSw; go_simp⟩) hS ?_
 simp only [Act.put, List.setIfInBounds_toArray, List.set_cons_zero, List.set_cons_succ]
 refine wpAnyH_takeD 4 (some 32) (.pointer (some ⟨sb, 0, none⟩)) rfl rfl (by kernel_rfl) (by kernel_rfl) (by kernel_rfl) (fun _ _ _ h => h) (Or.inl ⟨by rfl, fun w hSw => by obtain ⟨q1, q2⟩ := hSw; go_simp⟩) hS ?_
 simp only [Act.put, List.setIfInBounds_toArray, List.set_cons_zero, List.set_cons_succ]
 refine wpAnyH_takeD 5 (some 33) (.pointer (some ⟨sb, 0, none⟩)) rfl rfl (by kernel_rfl) (by kernel_rfl) (by kernel_rfl) (fun _ _ _ h => h) (Or.inl ⟨by rfl, fun w hSw => by obtain ⟨q1, q2⟩ := hSw; go_simp⟩) hS ?_
 simp only [Act.put, List.setIfInBounds_toArray, List.set_cons_zero, List.set_cons_succ]
 refine wpAnyH_takeD 6 (some 34) (.pointer (some ⟨sb, 2, none⟩)) rfl rfl (by kernel_rfl) (by kernel_rfl) (by kernel_rfl) (fun _ _ _ h => h) (Or.inl ⟨by rfl, fun w hSw => by obtain ⟨q1, q2⟩ := hSw; go_simp⟩) hS ?_
 simp only [Act.put, List.setIfInBounds_toArray, List.set_cons_zero, List.set_cons_succ]
 refine wpAnyH_takeD 7 (some 35) (.int .i64 40) rfl rfl (by kernel_rfl) (by kernel_rfl) (by kernel_rfl) (fun _ _ _ h => h) (Or.inl ⟨by rfl, fun w hSw => by obtain ⟨q1, q2⟩ := hSw; go_simp⟩) hS ?_
 simp only [Act.put, List.setIfInBounds_toArray, List.set_cons_zero, List.set_cons_succ]
 refine wpAnyH_takeD 8 (some 36) (.int .i64 (p : Int)) rfl rfl (by kernel_rfl) (by kernel_rfl) (by kernel_rfl) (fun _ _ _ h => h) (Or.inl ⟨by rfl, fun w hSw => by obtain ⟨q1, q2⟩ := hSw; go_simp⟩) hS ?_
 simp only [Act.put, List.setIfInBounds_toArray, List.set_cons_zero, List.set_cons_succ]
 refine wpAnyH_takeD 9 (some 37) (.int .i64 (ak : Int)) rfl rfl (by kernel_rfl) (by kernel_rfl) (by kernel_rfl) (fun _ _ _ h => h) (Or.inl ⟨by rfl, fun w hSw => by obtain ⟨q1, q2⟩ := hSw; go_simp⟩) hS ?_
 simp only [Act.put, List.setIfInBounds_toArray, List.set_cons_zero, List.set_cons_succ]
 refine wpAnyH_takeD 10 (some 38) (.string tx) rfl rfl (by kernel_rfl) (by kernel_rfl) (by kernel_rfl) (fun _ _ _ h => h) (Or.inl ⟨by rfl, fun w hSw => by obtain ⟨q1, q2⟩ := hSw; go_simp⟩) hS ?_
 simp only [Act.put, List.setIfInBounds_toArray, List.set_cons_zero, List.set_cons_succ]
 refine wpAnyH_ready (rs := [11]) (by kernel_rfl) (by simp) ?_
 refine AllReadyH.cons rfl (fun K hK => ?_) AllReadyH.nil
 simp only [List.getElem_toArray, List.getElem_cons_succ, List.getElem_cons_zero]
 go_simp
 refine (unhide HW).mono ?_
 rintro e x4 ⟨rfl, S4, M4, j1, j2, j3, j4, j5, j6⟩
 obtain ⟨k3, k4, k5, k6⟩ := unhide X3
 have HF := hide (show MChg w0 w b jb pb mb sb X n S L A hn Mw 2 (flp T p) (ups (Sec Mn) ak tx) x4 from ⟨S4, M4, j1.less (fun _ q => .inl q) (unhide X1).2.2.1 (unhide X1).2.2.2, j2, j3.trans k3, by omega, j5.trans (k5.ups ak tx), (unhide X2).trans (k6.trans j6 (fun _ _ q => q)) (fun _ _ q r => q (.inl r))⟩)
 obtain ⟨d0, d1, d2⟩ := j1.c
 clear k3 k4 k5 k6 j1 j2 j3 j4 j5 j6 HW X2 X3 HC3
 refine hK.out _ _ ⟨d0, d2⟩ (fun hS => ?_)
 clear hK K
 refine wpAnyH_takeD 12 (some 7) (.int .i64 0) rfl rfl (by kernel_rfl) (by kernel_rfl) (by kernel_rfl) (fun _ _ _ h => h) (Or.inl ⟨by rfl, fun w hSw => by obtain ⟨q1, q2⟩ := hSw; go_simp⟩) hS ?_
 simp only [Act.put, List.setIfInBounds_toArray, List.set_cons_zero, List.set_cons_succ]
 refine wpAnyH_done (by kernel_rfl) ?_ _
 clear hS
 go_wp2
 go_ret2
 exact ⟨rfl, unhide HF⟩
set_option maxRecDepth 100000 in
set_option maxHeartbeats 2000000 in
theorem sFree {w0 w : World} {b jb pb mb sb : Nat} {X : Nat → Prop} {n : Nat} {S : PS} {L : List ByteArray} {A : List (Nat × Nat)} {hn : Nat} {Mw Mn : List ByteArray} {T : Nat → Bool} (h : MG w0 w b jb pb mb sb X n S L A hn Mw Mn T) (ho : S.op = true) (i : Nat) (hi : i < n) (hT : T i = true) (hr : S.tx.length < 16) : Calls Tryz.prog 28 #[.pointer (some ⟨sb, 0, none⟩), .int .i64 (i : Int)] w fun e w' => e = .returned (.int .i64 0) ∧ MChg w0 w b jb pb mb sb X n S L A hn Mw 1 (flp T i) (Sec Mn) w' := by
 have HFR := hide (h.free ho i hi hT hr)
 obtain ⟨c0, c1, c2⟩ := h.c
 clear h ho hT hr
 go_enter Tryz.func28, Tryz.ntmps28
 go_wp2_with fail
 refine (unhide HFR).mono ?_
 rintro e x2 ⟨rfl, hC⟩
 have HC := hide hC
 clear hC HFR c0 c1 c2
 go_wp2_with fail
 refine (answerOf_ok _).mono ?_
 rintro e x3 ⟨rfl, hw⟩
 subst x3
 go_wp2
 go_ret
 exact ⟨rfl, unhide HC⟩
end Go.Proofs.YtiellebdliifdaaGreatDoor
