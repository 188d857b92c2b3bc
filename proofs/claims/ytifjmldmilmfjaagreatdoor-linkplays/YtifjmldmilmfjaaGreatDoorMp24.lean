import Derived.Test.YtifjmldmilmfjaaGreatDoorMp23
namespace Go.Proofs.YtifjmldmilmfjaaGreatDoor
open Go.RowKit
set_option maxRecDepth 100000
/-- rows and blocks of other types than int and ends stay -/
structure KpR (W W' : World) : Prop where
  sz : W.heap.size ≤ W'.heap.size
  row : ∀ (B : Nat) (e : TypeId) (k n : Nat) (v : Value) (xs : List Value), e ≠ 50 → e ≠ 92 → e ≠ 3 → W.ownsRow B e k v n xs → W'.ownsRow B e k v n xs
  blk : ∀ (b : Nat) (cur : Array Value) (T : TypeId), T ≠ 50 → T ≠ 92 → T ≠ 3 → Blk W b cur T → Blk W' b cur T
theorem KpR.trans {W W1 W2 : World} (a : KpR W W1) (b : KpR W1 W2) : KpR W W2 := ⟨Nat.le_trans a.sz b.sz, fun B e k n v xs h0 h1 h2 h3 => b.row B e k n v xs h0 h1 h2 (a.row B e k n v xs h0 h1 h2 h3), fun c cur T h0 h1 h2 h3 => b.blk c cur T h0 h1 h2 (a.blk c cur T h0 h1 h2 h3)⟩
theorem KpR.below {W W' : World} (h : Below W.heap.size W W') : KpR W W' := ⟨h.size, fun _ _ _ _ _ _ _ _ _ h3 => own_bel h3 h, fun _ _ _ _ _ _ h3 => h3.below h h3.lt⟩
theorem KpR.refl (W : World) : KpR W W := ⟨Nat.le_refl _, fun _ _ _ _ _ _ _ _ _ h => h, fun _ _ _ _ _ _ h => h⟩
theorem blk_typ {w : World} {b : Nat} {c1 c2 : Array Value} {T1 T2 : TypeId} (h1 : Blk w b c1 T1) (h2 : Blk w b c2 T2) : T1 = T2 := by
  have := (show w.heap[b]? = _ from h1).symm.trans h2
  simp at this
  exact this.2
/-- four ends and the document's four beside them -/
structure PlI (w0 : World) (h F : Nat) (gb db : Nat → Nat) (m : Nat) (W : World) (E : Nat → LE) (V : Nat → Value) (L : Nat → List Nat) : Prop where
  bel : Below h w0 W
  en : ∀ a, a < 4 → EndM W (gb a) (E a)
  dn : ∀ a, a < 4 → DEnd W (db a) (E a) (V a)
  tk : ∀ a, a < 4 → TkR W F (E a) (V a) (L a)
  dis : ∀ a b, a < 4 → b < 4 → a ≠ b → ∀ q, (V a).ownBlock = some q → (V b).ownBlock ≠ some q
  ng : ∀ a b, a < 4 → b < 4 → a ≠ b → gb a ≠ gb b
  nd : ∀ a b, a < 4 → b < 4 → a ≠ b → db a ≠ db b
  ngd : ∀ a b, a < 4 → b < 4 → gb a ≠ db b
  lo : ∀ a, a < 4 → h ≤ gb a ∧ gb a < F ∧ h ≤ db a ∧ db a < F
  sz : F ≤ W.heap.size
  os : ∀ a, a < 4 → (E a).o.size ≤ 16
  ql : ∀ a, a < 4 → (L a).length ≤ m
  hf : h ≤ F
theorem PlI.bel' {w0 : World} {h F : Nat} {gb db : Nat → Nat} {m : Nat} {W W' : World} {E : Nat → LE} {V : Nat → Value} {L : Nat → List Nat} (x : PlI w0 h F gb db m W E V L) (hb : Below W.heap.size W W') : PlI w0 h F gb db m W' E V L :=
  have hz := x.sz
  have hf := x.hf
  have hs := hb.size
  ⟨x.bel.trans (hb.mono (by omega)), fun a ha => (x.en a ha).below hb (x.en a ha).lt, fun a ha => (x.dn a ha).below hb (x.dn a ha).lt, fun a ha => ⟨own_bel (x.tk a ha).o hb, (x.tk a ha).win, (x.tk a ha).q, (x.tk a ha).lt⟩, x.dis, x.ng, x.nd, x.ngd, x.lo, by omega, x.os, x.ql, hf⟩
/-- one end and its twin in the document turn -/
theorem PlI.turn {w0 : World} {h F : Nat} {gb db : Nat → Nat} {m : Nat} {W W' : World} {E : Nat → LE} {V : Nat → Value} {L : Nat → List Nat} (x : PlI w0 h F gb db m W E V L) (a : Nat) (ha : a < 4) (e' : LE) (v' : Value) (L' : List Nat) (h1 : EndM W' (gb a) e') (h2 : DEnd W' (db a) e' v') (h3 : TkR W' F e' v' L') (ho : Only (fun k => k = gb a ∨ k = db a ∨ (V a).ownBlock = some k) W W') (hv : v'.ownBlock = (V a).ownBlock ∨ ∀ q, v'.ownBlock = some q → W.heap.size ≤ q) (hos : e'.o.size ≤ 16) (hl : L'.length ≤ m) :
    PlI w0 h F gb db m W' (upT E a e') (upT V a v') (upT L a L') ∧ KpR W W' := by
  have hz := x.sz
  have hf := x.hf
  have hs := ho.size
  have hla := x.lo a ha
  have hoF : ∀ q, (V a).ownBlock = some q → F ≤ q := fun q hq => ((x.tk a ha).o.lt q hq).1
  refine ⟨⟨x.bel.trans (ho.below (by omega) (fun k hk q => by rcases q with q | q | q; omega; omega; have := hoF k q; omega)), fun b hb => ?_, fun b hb => ?_, fun b hb => ?_, fun b c hb hc hbc q hq hq2 => ?_, x.ng, x.nd, x.ngd, x.lo, by omega, fun b hb => ?_, fun b hb => ?_, hf⟩, hs, fun B e k n v xs he1 he2 he hr => owns_only hr ho (fun q hq p => ?_), fun c cur T hT1 hT2 hT hr => hr.only ho (fun p => ?_)⟩
  · by_cases q : b = a
    · subst q; rw [upT_self]; exact h1
    · rw [upT_ne _ _ _ _ q]
      refine (x.en b hb).only ho (fun p => ?_)
      rcases p with p | p | p
      · exact x.ng b a hb ha q p
      · exact x.ngd b a hb ha p
      · have := hoF _ p; have := x.lo b hb; omega
  · by_cases q : b = a
    · subst q; rw [upT_self, upT_self]; exact h2
    · rw [upT_ne _ _ _ _ q, upT_ne _ _ _ _ q]
      refine (x.dn b hb).only ho (fun p => ?_)
      rcases p with p | p | p
      · exact x.ngd a b ha hb p.symm
      · exact x.nd b a hb ha q p
      · have := hoF _ p; have := x.lo b hb; omega
  · by_cases q : b = a
    · subst q; rw [upT_self, upT_self, upT_self]; exact h3
    · rw [upT_ne _ _ _ _ q, upT_ne _ _ _ _ q, upT_ne _ _ _ _ q]
      obtain ⟨o1, o2, o3, o4⟩ := x.tk b hb
      refine ⟨owns_only o1 ho (fun k hk p => ?_), o2, o3, o4⟩
      have := (o1.lt k hk).1
      rcases p with p | p | p
      · omega
      · omega
      · exact x.dis b a hb ha q k hk p
  · by_cases q1 : b = a
    · rw [q1, upT_self] at hq
      rw [upT_ne _ _ _ _ (by omega)] at hq2
      rcases hv with r | r
      · exact x.dis a c ha hc (by omega) q (by rw [← r]; exact hq) hq2
      · have := ((x.tk c hc).o.lt q hq2).2
        have := r q hq
        omega
    · rw [upT_ne _ _ _ _ q1] at hq
      by_cases q2 : c = a
      · rw [q2, upT_self] at hq2
        rcases hv with r | r
        · exact x.dis b a hb ha q1 q hq (by rw [← r]; exact hq2)
        · have := ((x.tk b hb).o.lt q hq).2
          have := r q hq2
          omega
      · rw [upT_ne _ _ _ _ q2] at hq2
        exact x.dis b c hb hc hbc q hq hq2
  · by_cases q : b = a
    · subst q; rw [upT_self]; exact hos
    · rw [upT_ne _ _ _ _ q]; exact x.os b hb
  · by_cases q : b = a
    · subst q; rw [upT_self]; exact hl
    · rw [upT_ne _ _ _ _ q]; exact x.ql b hb
  · rcases p with p | p | p
    · rw [p] at hq
      exact (x.en a ha).1.not_row (fun z => he1 z.symm) hr hq
    · rw [p] at hq
      exact (x.dn a ha).1.not_row (fun z => he2 z.symm) hr hq
    · exact oTyp hr (x.tk a ha).o he q hq p
  · rcases p with p | p | p
    · rw [p] at hr
      exact hT1 (blk_typ hr (x.en a ha).1)
    · rw [p] at hr
      exact hT2 (blk_typ hr (x.dn a ha).1)
    · exact hr.not_row hT (x.tk a ha).o p
theorem PlI.more {w0 : World} {h F : Nat} {gb db : Nat → Nat} {m m' : Nat} {W : World} {E : Nat → LE} {V : Nat → Value} {L : Nat → List Nat} (x : PlI w0 h F gb db m W E V L) (hm : m ≤ m') : PlI w0 h F gb db m' W E V L :=
  ⟨x.bel, x.en, x.dn, x.tk, x.dis, x.ng, x.nd, x.ngd, x.lo, x.sz, x.os, fun a ha => Nat.le_trans (x.ql a ha) hm, x.hf⟩
def PlS (w0 : World) (h F : Nat) (gb db : Nat → Nat) (m : Nat) (W : World) : Prop := ∃ E V L, PlI w0 h F gb db m W E V L
theorem PlS.bel' {w0 : World} {h F : Nat} {gb db : Nat → Nat} {m : Nat} {W W' : World} (x : PlS w0 h F gb db m W) (hb : Below W.heap.size W W') : PlS w0 h F gb db m W' := by
  obtain ⟨E, V, L, x⟩ := x
  exact ⟨E, V, L, x.bel' hb⟩
theorem PlS.more {w0 : World} {h F : Nat} {gb db : Nat → Nat} {m m' : Nat} {W : World} (x : PlS w0 h F gb db m W) (hm : m ≤ m') : PlS w0 h F gb db m' W := by
  obtain ⟨E, V, L, x⟩ := x
  exact ⟨E, V, L, x.more hm⟩
/-- what is asked of the world ahead of a step -/
structure Env (w0 : World) (h : Nat) : Prop where
  kb : ∀ W, Below h w0 W → KTab W ∧ ETy W
theorem tkN_o (e : LE) (f : ByteArray) : (e.tkN f).o = e.o := by unfold LE.tkN; split <;> rfl
theorem tkN_q (e : LE) (f : ByteArray) : (e.tkN f).q ≤ e.q + 1 := by
  unfold LE.tkN
  split
  · exact Nat.le_refl _
  · omega
theorem snN_o (e : LE) (f : ByteArray) : (e.snN f).o = e.o ∧ (e.snN f).t = e.t ∧ (e.snN f).m = e.m ∧ (e.snN f).q = e.q := by unfold LE.snN; split <;> exact ⟨rfl, rfl, rfl, rfl⟩
set_option maxHeartbeats 4000000 in
theorem took_any (w0 : World) (h F : Nat) (gb db : Nat → Nat) (m : Nat) (hm : m ≤ 4398046511103) (hEnv : Env w0 h) (a : Nat) (ha : a < 4) (f : ByteArray) (hf : f.size ≤ 4611686018427387904) (W : World) (E : Nat → LE) (V : Nat → Value) (L : Nat → List Nat) (x : PlI w0 h F gb db m W E V L) : Calls Tryz.prog 39 #[.agg #[.pointer (some ⟨gb a, 0, none⟩), .pointer (some ⟨db a, 0, none⟩)], .string f] W fun ev w' => ev = .returned (.bool true) ∧ PlS w0 h F gb db (m + 1) w' ∧ KpR W w' := by
  obtain ⟨W1, hW1⟩ : ∃ z, W.alloc (.cells #[.pointer (some ⟨gb a, 0, none⟩), .pointer (some ⟨db a, 0, none⟩)] 71) = z := ⟨_, rfl⟩
  obtain ⟨bx, hbx⟩ : ∃ z, W.heap.size = z := ⟨_, rfl⟩
  have hbW : Below W.heap.size W W1 := by rw [← hW1]; exact (Below.refl _ _).alloc (Nat.le_refl _) _
  have hBx : Blk W1 bx #[.pointer (some ⟨gb a, 0, none⟩), .pointer (some ⟨db a, 0, none⟩)] 71 := by rw [← hW1, ← hbx]; exact Blk.new _ _ _
  have x1 := x.bel' hbW
  have hk := hEnv.kb _ x1.bel
  have hL := x1.ql a ha
  have hq := (x1.tk a ha).q
  have hla := x1.lo a ha
  have hsz := x.sz
  have HTA := hide (ltake_any (gb a) (E a) f hf (by omega) W1 (x1.en a ha) hk.1 hk.2)
  have HTD := hide (show ∀ y, Only (fun k => k = gb a) W1 y → EndM y (gb a) ((E a).tkN f) → Calls Tryz.prog 60 #[.pointer (some ⟨db a, 0, none⟩), .string f] y fun ev w' => ev = .returned (.tuple #[.string ((E a).tkM f), .int .i64 ((E a).tkE f)]) ∧ PlS w0 h F gb db (m + 1) w' ∧ KpR W w' from fun y hO hE => by
    have hs := hO.size
    have d1 := (x1.dn a ha).only hO (fun q => x1.ngd a a ha ha q.symm)
    have t0 := x1.tk a ha
    have t1 : TkR y F (E a) (V a) (L a) := ⟨owns_only t0.o hO (fun k hk q => by have := (t0.o.lt k hk).1; omega), t0.win, t0.q, t0.lt⟩
    refine (rtake_any (db a) F (E a) (V a) (L a) f hf (by omega) y d1 t1 (by omega) (by have := x1.sz; omega)).mono ?_
    rintro ev w' ⟨rfl, v', L', p1, p2, p3, p4⟩
    have hoT : Only (fun k => k = gb a ∨ k = db a ∨ (V a).ownBlock = some k) W1 w' := (hO.mono (fun _ _ q => .inl q)).trans p3 (fun _ _ q => .inr q)
    have hEE : EndM w' (gb a) ((E a).tkN f) := hE.only p3 (fun q => by
      rcases q with q | q
      · exact x1.ngd a a ha ha q
      · have := (t0.o.lt _ q).1; omega)
    have hlen : L'.length ≤ m + 1 := by
      have := p2.q
      have := tkN_q (E a) f
      omega
    have p4' : v'.ownBlock = (V a).ownBlock ∨ ∀ q, v'.ownBlock = some q → W1.heap.size ≤ q := p4.imp id (fun r q hq => Nat.le_trans hs (r q hq))
    obtain ⟨r1, r2⟩ := (x1.more (Nat.le_succ m)).turn a ha _ v' L' hEE p1 p2 hoT p4' (by rw [tkN_o]; exact x1.os a ha) hlen
    exact ⟨rfl, ⟨_, _, _, r1⟩, (KpR.below hbW).trans r2⟩)
  have HBX := hide (show ∀ y, Only (fun k => k = gb a) W1 y → y.cell? ⟨bx, 1, none⟩ = some (.pointer (some ⟨db a, 0, none⟩)) from fun y hO => (hBx.only hO (by omega)).cell 1)
  have c0 := hBx.cell 0
  have c1 := hBx.cell 1
  simp only [List.getElem?_toArray, List.getElem?_cons_zero, List.getElem?_cons_succ] at c0 c1
  generalize gb a = g1 at *
  generalize db a = g2 at *
  generalize (E a).tkM f = sM at *
  generalize (E a).tkE f = sE at *
  clear hBx hbW hk hL hq hla x1 x hsz
  go_enter Tryz.func39, Tryz.ntmps39
  go_wp2_with fail
  refine (unhide HTA).mono ?_
  rintro ev y1 ⟨rfl, hE, hO⟩
  have HD := hide (unhide HTD y1 hO hE)
  have c9 := unhide HBX y1 hO
  clear hE hO HTA HTD HBX
  go_wp2_with fail
  refine (unhide HD).mono ?_
  rintro ev y2 ⟨rfl, p1, p2⟩
  have HP := hide (And.intro p1 p2)
  clear p1 p2 HD
  have d1 : (sM.toList == sM.toList) = true := beq_self_eq_true _
  have d2 : (sE == sE) = true := beq_self_eq_true _
  go_wp2
  go_ret
  exact ⟨rfl, (unhide HP).1, (unhide HP).2⟩
set_option maxHeartbeats 4000000 in
theorem sent_any (w0 : World) (h F : Nat) (gb db : Nat → Nat) (m : Nat) (hEnv : Env w0 h) (a : Nat) (ha : a < 4) (s : ByteArray) (hs9 : s.size ≤ 140737488355000) (W : World) (E : Nat → LE) (V : Nat → Value) (L : Nat → List Nat) (x : PlI w0 h F gb db m W E V L) : Calls Tryz.prog 25 #[.agg #[.pointer (some ⟨gb a, 0, none⟩), .pointer (some ⟨db a, 0, none⟩)], .string s] W fun ev w' => ∃ f : ByteArray, f.size ≤ 4122 ∧ ev = .returned (.tuple #[.string f, .bool true]) ∧ PlS w0 h F gb db m w' ∧ KpR W w' := by
  obtain ⟨W1, hW1⟩ : ∃ z, W.alloc (.cells #[.pointer (some ⟨gb a, 0, none⟩), .pointer (some ⟨db a, 0, none⟩)] 71) = z := ⟨_, rfl⟩
  obtain ⟨bx, hbx⟩ : ∃ z, W.heap.size = z := ⟨_, rfl⟩
  have hbW : Below W.heap.size W W1 := by rw [← hW1]; exact (Below.refl _ _).alloc (Nat.le_refl _) _
  have hBx : Blk W1 bx #[.pointer (some ⟨gb a, 0, none⟩), .pointer (some ⟨db a, 0, none⟩)] 71 := by rw [← hW1, ← hbx]; exact Blk.new _ _ _
  have x1 := x.bel' hbW
  have hk := hEnv.kb _ x1.bel
  have hla := x1.lo a ha
  have hsz := x.sz
  have HTA := hide (lsend_any (gb a) (E a) s hs9 W1 (x1.en a ha) hk.1)
  have HTD := hide (show ∀ y, Only (fun k => k = gb a) W1 y → EndM y (gb a) ((E a).snN s) → Calls Tryz.prog 38 #[.pointer (some ⟨db a, 0, none⟩), .string s] y fun ev w' => ev = .returned (.tuple #[.string ((E a).snF s), .int .i64 ((E a).snE s)]) ∧ PlS w0 h F gb db m w' ∧ KpR W w' from fun y hO hE => by
    have d1 := (x1.dn a ha).only hO (fun q => x1.ngd a a ha ha q.symm)
    have t0 := x1.tk a ha
    refine (rsend_any (db a) (E a) (V a) s hs9 y d1).mono ?_
    rintro ev w' ⟨rfl, p1, p3⟩
    have hoT : Only (fun k => k = gb a ∨ k = db a ∨ (V a).ownBlock = some k) W1 w' := (hO.mono (fun _ _ q => .inl q)).trans p3 (fun _ _ q => .inr (.inl q))
    have hoG : Only (fun k => k = gb a ∨ k = db a) W1 w' := (hO.mono (fun _ _ q => .inl q)).trans p3 (fun _ _ q => .inr q)
    have hEE : EndM w' (gb a) ((E a).snN s) := hE.only p3 (fun q => x1.ngd a a ha ha q)
    obtain ⟨n1, n2, n3, n4⟩ := snN_o (E a) s
    have t1 : TkR w' F ((E a).snN s) (V a) (L a) := ⟨owns_only t0.o hoG (fun k hk q => by have := (t0.o.lt k hk).1; omega), by rw [n2, n3]; exact t0.win, by rw [n4]; exact t0.q, t0.lt⟩
    obtain ⟨r1, r2⟩ := x1.turn a ha _ (V a) (L a) hEE p1 t1 hoT (.inl rfl) (by rw [n1]; exact x1.os a ha) (x1.ql a ha)
    exact ⟨rfl, ⟨_, _, _, r1⟩, (KpR.below hbW).trans r2⟩)
  have HBX := hide (show ∀ y, Only (fun k => k = gb a) W1 y → y.cell? ⟨bx, 1, none⟩ = some (.pointer (some ⟨db a, 0, none⟩)) from fun y hO => (hBx.only hO (by omega)).cell 1)
  have c0 := hBx.cell 0
  have c1 := hBx.cell 1
  simp only [List.getElem?_toArray, List.getElem?_cons_zero, List.getElem?_cons_succ] at c0 c1
  have hFz : ((E a).snF s).size ≤ 4122 := by
    unfold LE.snF
    split
    · rename_i q
      have : s.size ≤ 4096 := by
        unfold LE.snE at q
        split at q
        · cases q
        · split at q
          · cases q
          · omega
      rw [frB_size _ _ _ _ (by omega)]
      omega
    · exact Nat.zero_le _
  generalize gb a = g1 at *
  generalize db a = g2 at *
  generalize (E a).snF s = sM at *
  generalize (E a).snE s = sE at *
  clear hBx hbW hk hla x1 x hsz
  go_enter Tryz.func25, Tryz.ntmps25
  go_wp2_with fail
  refine (unhide HTA).mono ?_
  rintro ev y1 ⟨rfl, hE, hO⟩
  have HD := hide (unhide HTD y1 hO hE)
  have c9 := unhide HBX y1 hO
  clear hE hO HTA HTD HBX
  go_wp2_with fail
  refine (unhide HD).mono ?_
  rintro ev y2 ⟨rfl, p1, p2⟩
  have HP := hide (And.intro p1 p2)
  clear p1 p2 HD
  have d1 : (sM.toList == sM.toList) = true := beq_self_eq_true _
  have d2 : (sE == sE) = true := beq_self_eq_true _
  go_wp2
  go_ret2
  exact ⟨sM, hFz, rfl, (unhide HP).1, (unhide HP).2⟩
end Go.Proofs.YtifjmldmilmfjaaGreatDoor
