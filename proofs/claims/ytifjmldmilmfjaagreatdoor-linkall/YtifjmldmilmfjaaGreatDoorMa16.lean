import Derived.Test.YtifjmldmilmfjaaGreatDoorMa15
namespace Go.Proofs.YtifjmldmilmfjaaGreatDoor
open Go.RowKit
set_option maxRecDepth 100000
/-- whose other end it is -/
def pt4 (e : Nat) : Nat := if e % 2 = 0 then e + 1 else e - 1
theorem pt4_lt (e : Nat) (h : e < 4) : pt4 e < 4 := by unfold pt4; split <;> omega
theorem pt4_ne (e : Nat) : pt4 e ≠ e := by unfold pt4; split <;> omega
theorem pt4_inj (a b : Nat) (h : pt4 a = pt4 b) : a = b := by
  unfold pt4 at h
  split at h <;> split at h <;> omega
/-- what the ends must be ahead of turn i -/
def Fr4 (i : Nat) (E : Nat → LE) : Prop := ∀ e, e < 4 → (E e).r = true ∧ (E (pt4 e)).h (1 - (E (pt4 e)).i) = (E e).h (E e).i ∧ (E (pt4 e)).z (1 - (E (pt4 e)).i) = (E e).z (E e).i ∧ (i ≤ e → (E e).s = 0 ∧ (E (pt4 e)).t = 0 ∧ (E (pt4 e)).m = 0 ∧ (E (pt4 e)).q = 0)
theorem Fr4.next {i : Nat} {E : Nat → LE} (h : Fr4 i E) (s t m q : Nat) : Fr4 (i + 1) (upT (upT E i { E i with s := s }) (pt4 i) { E (pt4 i) with t := t, m := m, q := q }) := by
  generalize hE' : upT (upT E i { E i with s := s }) (pt4 i) { E (pt4 i) with t := t, m := m, q := q } = E'
  have hv : ∀ e, (E' e).r = (E e).r ∧ (E' e).i = (E e).i ∧ (∀ j, (E' e).h j = (E e).h j) ∧ (∀ j, (E' e).z j = (E e).z j) ∧ (e ≠ i → (E' e).s = (E e).s) ∧ (e ≠ pt4 i → (E' e).t = (E e).t ∧ (E' e).m = (E e).m ∧ (E' e).q = (E e).q) := by
    intro e
    rw [← hE']
    unfold upT
    by_cases h1 : e = pt4 i
    · rw [if_pos h1, h1]
      exact ⟨rfl, rfl, fun _ => rfl, fun _ => rfl, fun _ => rfl, fun q => absurd rfl q⟩
    · rw [if_neg h1]
      by_cases h2 : e = i
      · rw [if_pos h2, h2]
        exact ⟨rfl, rfl, fun _ => rfl, fun _ => rfl, fun q => absurd rfl q, fun _ => ⟨rfl, rfl, rfl⟩⟩
      · rw [if_neg h2]
        exact ⟨rfl, rfl, fun _ => rfl, fun _ => rfl, fun _ => rfl, fun _ => ⟨rfl, rfl, rfl⟩⟩
  intro e he
  obtain ⟨a1, a2, a3, a4⟩ := h e he
  obtain ⟨b1, b2, b3, b4, b5, b6⟩ := hv e
  obtain ⟨c1, c2, c3, c4, c5, c6⟩ := hv (pt4 e)
  refine ⟨b1.trans a1, by rw [c3, c2, b3, b2]; exact a2, by rw [c4, c2, b4, b2]; exact a3, fun hie => ?_⟩
  have q1 : e ≠ i := by omega
  have q2 : pt4 e ≠ pt4 i := fun q => q1 (pt4_inj _ _ q)
  obtain ⟨x1, x2, x3, x4⟩ := a4 (by omega)
  obtain ⟨y1, y2, y3⟩ := c6 q2
  exact ⟨(b5 q1).trans x1, y1.trans x2, y2.trans x3, y3.trans x4⟩
theorem upT_self {α : Type} (f : Nat → α) (k : Nat) (x : α) : upT f k x k = x := if_pos rfl
theorem upT_ne {α : Type} (f : Nat → α) (k : Nat) (x : α) (j : Nat) (h : j ≠ k) : upT f k x j = f j := if_neg h
theorem upT_id {α : Type} (f : Nat → α) (k : Nat) (x : α) (hx : f k = x) : upT f k x = f := by
  funext j
  unfold upT
  split
  · rename_i e; rw [e, hx]
  · rfl
theorem upT_upT {α : Type} (f : Nat → α) (k : Nat) (x y : α) : upT (upT f k x) k y = upT f k y := by
  funext j
  unfold upT
  split <;> rfl
theorem LE.s0 (e : LE) (h : e.s = 0) : { e with s := 0 } = e := by rw [← h]
theorem LE.t0 (e : LE) (h : e.t = 0) (h1 : e.m = 0) (h2 : e.q = 0) : { e with t := 0, m := 0, q := 0 } = e := by
  obtain ⟨_, _, _, _, _, _, _, t, m, q⟩ := e
  simp only at h h1 h2
  subst h h1 h2
  rfl
/-- a row of numbers that stay within their tens -/
structure Ten (σ : Nat → Nat) (n : Nat) : Prop where
  rng : ∀ a, a < n → σ a < n ∧ σ a / 10 = a / 10
  inj : ∀ a b, a < n → b < n → σ a = σ b → a = b
theorem Ten.id (n : Nat) : Ten (fun j => j) n := ⟨fun _ h => ⟨h, rfl⟩, fun _ _ _ _ e => e⟩
theorem Ten.swap {σ : Nat → Nat} {n : Nat} (h : Ten σ n) (x y : Nat) (hx : x < n) (hy : y < n) (hxy : x / 10 = y / 10) : Ten (upT (upT σ x (σ y)) y (σ x)) n := by
  refine ⟨fun a ha => ?_, fun a b ha hb e => ?_⟩
  · have hA := h.rng a ha
    have hX := h.rng x hx
    have hY := h.rng y hy
    unfold upT
    split
    · rename_i q; subst q; omega
    · split
      · rename_i q; subst q; omega
      · exact hA
  · have i1 := h.inj x b hx hb
    have i2 := h.inj y b hy hb
    have i3 := h.inj a x ha hx
    have i4 := h.inj a y ha hy
    have i5 := h.inj a b ha hb
    have i6 := h.inj x y hx hy
    have i7 := h.inj y x hy hx
    unfold upT at e
    by_cases p1 : a = y
    · by_cases p2 : b = y
      · omega
      · rw [if_pos p1, if_neg p2] at e
        by_cases p3 : b = x
        · rw [if_pos p3] at e; omega
        · rw [if_neg p3] at e; omega
    · rw [if_neg p1] at e
      by_cases p4 : a = x
      · rw [if_pos p4] at e
        by_cases p2 : b = y
        · rw [if_pos p2] at e; omega
        · rw [if_neg p2] at e
          by_cases p3 : b = x
          · omega
          · rw [if_neg p3] at e; omega
      · rw [if_neg p4] at e
        by_cases p2 : b = y
        · rw [if_pos p2] at e; omega
        · rw [if_neg p2] at e
          by_cases p3 : b = x
          · rw [if_pos p3] at e; omega
          · rw [if_neg p3] at e; omega
/-- the first j of them -/
def tkS (σ : Nat → Nat) (j : Nat) : Nat → Bool := fun v => decide (∃ a, a < j ∧ σ a = v)
theorem tkS_zero (σ : Nat → Nat) : tkS σ 0 = fun _ => false := by
  funext v
  exact decide_eq_false (fun ⟨a, h, _⟩ => by omega)
theorem tkS_succ (σ : Nat → Nat) (j : Nat) : upT (tkS σ j) (σ j) true = tkS σ (j + 1) := by
  funext v
  unfold upT
  split
  · rename_i e
    exact (decide_eq_true ⟨j, by omega, e.symm⟩).symm
  · rename_i e
    unfold tkS
    by_cases q : ∃ a, a < j ∧ σ a = v
    · rw [decide_eq_true q]
      obtain ⟨a, h1, h2⟩ := q
      exact (decide_eq_true ⟨a, by omega, h2⟩).symm
    · rw [decide_eq_false q]
      refine (decide_eq_false (fun ⟨a, h1, h2⟩ => q ⟨a, ?_, h2⟩)).symm
      by_cases ha : a = j
      · subst ha; exact absurd h2.symm e
      · omega
theorem Ten.fresh {σ : Nat → Nat} {n j : Nat} (h : Ten σ n) (hj : j < n) {tt mm : Nat} (hw : Win (tkS σ j) tt mm) (e : LE) (ht : e.t = tt) (hm : e.m = mm) : e.old (σ j) = false := by
  unfold LE.old
  rw [ht, hm, hw.old]
  have h1 : tkS σ j (σ j) = false := decide_eq_false (fun ⟨a, ha, hs⟩ => by have := h.inj a j (by omega) hj hs; omega)
  rw [h1, Bool.false_or]
  refine decide_eq_false (fun q => ?_)
  have ht0 : 0 < tt := by omega
  have := hw.2.1 ht0
  obtain ⟨a, ha, hs⟩ := of_decide_eq_true this
  have q1 := (h.rng a (by omega)).2
  have q2 := (h.rng j hj).2
  omega
/-- a row of numbers -/
def idV (σ : Nat → Nat) (n : Nat) : List Value := (List.range n).map fun j => Value.int .i64 (σ j : Int)
theorem idV_len (σ : Nat → Nat) (n : Nat) : (idV σ n).length = n := by simp [idV]
theorem idV_get (σ : Nat → Nat) (n j : Nat) (h : j < n) : (idV σ n)[j]? = some (.int .i64 (σ j : Int)) := by simp [idV, h]
theorem idV_set (σ : Nat → Nat) (n a v : Nat) (h : a < n) : (idV σ n).set a (.int .i64 (v : Int)) = idV (upT σ a v) n := by
  apply List.ext_getElem?
  intro i
  rw [List.getElem?_set]
  by_cases hi : i < n
  · rw [idV_get _ _ _ hi, idV_get _ _ _ hi]
    unfold upT
    by_cases e : a = i
    · subst e
      rw [if_pos rfl, if_pos (by rw [idV_len]; exact h), if_pos rfl]
    · rw [if_neg e, if_neg (fun q => e q.symm)]
  · have h1 : (idV σ n)[i]? = none := by rw [List.getElem?_eq_none]; rw [idV_len]; omega
    have h2 : (idV (upT σ a v) n)[i]? = none := by rw [List.getElem?_eq_none]; rw [idV_len]; omega
    rw [h1, h2, if_neg (by omega)]
theorem idV_snoc (n : Nat) : idV (fun j => j) n ++ [.int .i64 (n : Int)] = idV (fun j => j) (n + 1) := by
  unfold idV
  rw [List.range_succ (n := n), List.map_append]
  rfl
theorem gr_int : (Tryz.prog.info? 3).map (fun i => (i.zero, i.size, i.bytes)) = some (some (.int .i64 0), 1, 8) := by kernel_rfl
theorem oSet {w : World} {base : Nat} {e : TypeId} {k n : Nat} {v : Value} {xs : List Value} (h : w.ownsRow base e k v n xs) {g : Nat} (hv : v.ownBlock = some g) (j : Nat) (u : Value) : (w.setCell ⟨g, j, none⟩ u).ownsRow base e k v n (xs.set j u) := by
  refine ⟨by rw [List.length_set]; exact h.1, ?_⟩
  rcases h.2 with ⟨h1, h2⟩ | ⟨g', cap, cur, rfl, hb, hg, hn, hc, hs, hx⟩
  · rw [h1] at hv; cases hv
  · obtain rfl : g' = g := by simpa [Value.ownBlock] using hv
    refine .inr ⟨g', cap, cur.setIfInBounds j u, rfl, hb, Blk.set hg j u, hn, hc, by simpa using hs, ?_⟩
    rw [← hx]
    simp [List.take_set]
theorem oTyp {w : World} {b1 b2 n1 n2 s1 s2 : Nat} {e1 e2 : TypeId} {v1 v2 : Value} {x1 x2 : List Value} (h : w.ownsRow b1 e1 s1 v1 n1 x1) (k : w.ownsRow b2 e2 s2 v2 n2 x2) (he : e1 ≠ e2) (x : Nat) (hx : v1.ownBlock = some x) : v2.ownBlock ≠ some x := by
  rcases h.2 with ⟨rfl, _⟩ | ⟨g, cap, cur, rfl, _, hg, _⟩
  · simp [Value.ownBlock] at hx
  · have e : g = x := by simpa [Value.ownBlock] using hx
    subst e
    exact (show Blk w g cur e1 from hg).not_row he k
/-- four ends in memory, and the two rows of them -/
structure AlI (w0 : World) (h fb : Nat) (gb : Nat → Nat) (W : World) (E : Nat → LE) : Prop where
  bel : Below h w0 W
  en : ∀ e, e < 4 → EndM W (gb e) (E e)
  rf : ∀ e, e < 4 → W.cell? ⟨fb, e, none⟩ = some (.pointer (some ⟨gb e, 0, none⟩))
  rt : ∀ e, e < 4 → W.cell? ⟨fb + 1, e, none⟩ = some (.pointer (some ⟨gb (pt4 e), 0, none⟩))
  ne : ∀ a b, a < 4 → b < 4 → a ≠ b → gb a ≠ gb b
  lo : ∀ e, e < 4 → h ≤ gb e ∧ gb e < fb
  sz : fb + 2 ≤ W.heap.size
  hf : h ≤ fb
theorem AlI.low {w0 : World} {h fb : Nat} {gb : Nat → Nat} {W W' : World} {E : Nat → LE} (x : AlI w0 h fb gb W E) (hb : Below (fb + 2) W W') : AlI w0 h fb gb W' E :=
  have hz := x.sz
  have hf := x.hf
  have hs := hb.size
  ⟨x.bel.trans (hb.mono (by omega)), fun e he => (x.en e he).below hb (by have := x.lo e he; omega), fun e he => (hb.cell (p := ⟨fb, e, none⟩) (by show fb < fb + 2; omega)).trans (x.rf e he), fun e he => (hb.cell (p := ⟨fb + 1, e, none⟩) (by show fb + 1 < fb + 2; omega)).trans (x.rt e he), x.ne, x.lo, by omega, hf⟩
theorem AlI.put {w0 : World} {h fb : Nat} {gb : Nat → Nat} {W W' : World} {E : Nat → LE} (x : AlI w0 h fb gb W E) (e : Nat) (he : e < 4) (X : LE) (hX : EndM W' (gb e) X) (ho : Only (fun k => k = gb e) W W') : AlI w0 h fb gb W' (upT E e X) := by
  have hz := x.sz
  have hf := x.hf
  have hs := ho.size
  have hl := x.lo e he
  refine ⟨x.bel.trans (ho.below (by omega) (fun k hk q => by omega)), fun a ha => ?_, fun a ha => (World.cell?_of_block (a := ⟨fb, a, none⟩) (ho.2 fb (by omega) (by omega))).trans (x.rf a ha), fun a ha => (World.cell?_of_block (a := ⟨fb + 1, a, none⟩) (ho.2 (fb + 1) (by omega) (by omega))).trans (x.rt a ha), x.ne, x.lo, by omega, hf⟩
  by_cases q : a = e
  · subst q; rw [upT_self]; exact hX
  · rw [upT_ne _ _ _ _ q]
    exact (x.en a ha).only ho (x.ne a e ha he q)
set_option maxHeartbeats 1000000 in
theorem AlI.init (w0 : World) (h : Nat) (y : World) (key o1 o2 two : Int) (g1 g2 g3 g4 : Nat) (hb : Below h w0 y) (h1 : EndM y g1 (meA key o1 two)) (h2 : EndM y g2 (meB key o1 two)) (h3 : EndM y g3 (meA key o2 two)) (h4 : EndM y g4 (meB key o2 two)) (l1 : h ≤ g1) (l2 : h ≤ g2) (l3 : h ≤ g3) (l4 : h ≤ g4) (n12 : g1 ≠ g2) (n34 : g3 ≠ g4) (n13 : g1 ≠ g3) (n14 : g1 ≠ g4) (n23 : g2 ≠ g3) (n24 : g2 ≠ g4) :
    ∃ gb E, AlI w0 h y.heap.size gb ((y.alloc (.cells #[.pointer (some ⟨g1, 0, none⟩), .pointer (some ⟨g2, 0, none⟩), .pointer (some ⟨g3, 0, none⟩), .pointer (some ⟨g4, 0, none⟩)] 25)).alloc (.cells #[.pointer (some ⟨g2, 0, none⟩), .pointer (some ⟨g1, 0, none⟩), .pointer (some ⟨g4, 0, none⟩), .pointer (some ⟨g3, 0, none⟩)] 25)) E ∧ Fr4 0 E := by
  refine ⟨fun e => if e = 0 then g1 else if e = 1 then g2 else if e = 2 then g3 else g4, fun e => if e = 0 then meA key o1 two else if e = 1 then meB key o1 two else if e = 2 then meA key o2 two else meB key o2 two, ?_, ?_⟩
  · obtain ⟨y1, hy1⟩ : ∃ z, y.alloc (.cells #[.pointer (some ⟨g1, 0, none⟩), .pointer (some ⟨g2, 0, none⟩), .pointer (some ⟨g3, 0, none⟩), .pointer (some ⟨g4, 0, none⟩)] 25) = z := ⟨_, rfl⟩
    have hs1 : y1.heap.size = y.heap.size + 1 := by rw [← hy1]; simp
    have hB1 := Blk.new y 25 #[.pointer (some ⟨g1, 0, none⟩), .pointer (some ⟨g2, 0, none⟩), .pointer (some ⟨g3, 0, none⟩), .pointer (some ⟨g4, 0, none⟩)]
    have hb1 : Below y.heap.size y y1 := by rw [← hy1]; exact (Below.refl _ _).alloc (Nat.le_refl _) _
    rw [hy1] at hB1 ⊢
    have hB2 := Blk.new y1 25 #[.pointer (some ⟨g2, 0, none⟩), .pointer (some ⟨g1, 0, none⟩), .pointer (some ⟨g4, 0, none⟩), .pointer (some ⟨g3, 0, none⟩)]
    have hB1' := hB1.alloc (.cells #[.pointer (some ⟨g2, 0, none⟩), .pointer (some ⟨g1, 0, none⟩), .pointer (some ⟨g4, 0, none⟩), .pointer (some ⟨g3, 0, none⟩)] 25)
    rw [hs1] at hB2
    have hb2 : Below y.heap.size y (y1.alloc (.cells #[.pointer (some ⟨g2, 0, none⟩), .pointer (some ⟨g1, 0, none⟩), .pointer (some ⟨g4, 0, none⟩), .pointer (some ⟨g3, 0, none⟩)] 25)) := hb1.alloc (by omega) _
    have hsz := hb.size
    have e1 := h1.lt
    have e2 := h2.lt
    have e3 := h3.lt
    have e4 := h4.lt
    refine ⟨hb.trans (hb2.mono (by omega)), fun e he => ?_, fun e he => ?_, fun e he => ?_, fun a b ha hb' hab => ?_, fun e he => ?_, by simp; omega, by omega⟩
    · obtain rfl | rfl | rfl | rfl : e = 0 ∨ e = 1 ∨ e = 2 ∨ e = 3 := by omega
      · exact h1.below hb2 e1
      · exact h2.below hb2 e2
      · exact h3.below hb2 e3
      · exact h4.below hb2 e4
    · rw [hB1'.cell e]
      obtain rfl | rfl | rfl | rfl : e = 0 ∨ e = 1 ∨ e = 2 ∨ e = 3 := by omega
      all_goals rfl
    · rw [hB2.cell e]
      obtain rfl | rfl | rfl | rfl : e = 0 ∨ e = 1 ∨ e = 2 ∨ e = 3 := by omega
      all_goals rfl
    · have c1 : a = 0 ∨ a = 1 ∨ a = 2 ∨ a = 3 := by omega
      have c2 : b = 0 ∨ b = 1 ∨ b = 2 ∨ b = 3 := by omega
      rcases c1 with rfl | rfl | rfl | rfl <;> rcases c2 with rfl | rfl | rfl | rfl <;> simp <;> first | exact absurd rfl hab | assumption | (apply Ne.symm; assumption) | omega
    · obtain rfl | rfl | rfl | rfl : e = 0 ∨ e = 1 ∨ e = 2 ∨ e = 3 := by omega
      · exact ⟨l1, e1⟩
      · exact ⟨l2, e2⟩
      · exact ⟨l3, e3⟩
      · exact ⟨l4, e4⟩
  · intro e he
    obtain rfl | rfl | rfl | rfl : e = 0 ∨ e = 1 ∨ e = 2 ∨ e = 3 := by omega
    all_goals exact ⟨rfl, rfl, rfl, fun _ => ⟨rfl, rfl, rfl, rfl⟩⟩
/-- besides, the frames and the order of one turn -/
structure LnI (w0 : World) (h fb : Nat) (gb : Nat → Nat) (W : World) (E : Nat → LE) (vl vo : Value) (n : Nat) (fl : List ByteArray) (σ : Nat → Nat) : Prop where
  al : AlI w0 h fb gb W E
  f : W.ownsRow (fb + 2) 9 1 vl n (fl.map Value.string)
  o : W.ownsRow (fb + 2) 3 1 vo n (idV σ n)
  hn : fl.length = n
theorem LnI.bel' {w0 : World} {h fb : Nat} {gb : Nat → Nat} {W W' : World} {E : Nat → LE} {vl vo : Value} {n : Nat} {fl : List ByteArray} {σ : Nat → Nat} (x : LnI w0 h fb gb W E vl vo n fl σ) (hb : Below W.heap.size W W') : LnI w0 h fb gb W' E vl vo n fl σ :=
  ⟨x.al.low (hb.mono x.al.sz), own_bel x.f hb, own_bel x.o hb, x.hn⟩
theorem LnI.put {w0 : World} {h fb : Nat} {gb : Nat → Nat} {W W' : World} {E : Nat → LE} {vl vo : Value} {n : Nat} {fl : List ByteArray} {σ : Nat → Nat} (x : LnI w0 h fb gb W E vl vo n fl σ) (e : Nat) (he : e < 4) (X : LE) (hX : EndM W' (gb e) X) (ho : Only (fun k => k = gb e) W W') : LnI w0 h fb gb W' (upT E e X) vl vo n fl σ :=
  have hl := x.al.lo e he
  ⟨x.al.put e he X hX ho, owns_only x.f ho (fun k hk q => by have := (x.f.lt k hk).1; omega), owns_only x.o ho (fun k hk q => by have := (x.o.lt k hk).1; omega), x.hn⟩
theorem LnI.app {w0 : World} {h fb : Nat} {gb : Nat → Nat} {W x5 x6 : World} {E : Nat → LE} {vl vo : Value} {n : Nat} {fl : List ByteArray} (x : LnI w0 h fb gb W E vl vo n fl (fun j => j)) (F : ByteArray) {g5 c5 g6 c6 : Nat}
    (ho5 : x5.ownsRow (fb + 2) 9 1 (.slice (some ⟨g5, 0, none⟩) (n + 1) c5) (n + 1) (fl.map Value.string ++ [.string F])) (hg5 : (W.alloc (.cells #[.string F] 9)).grownBy x5 vl.ownBlock) (hat5 : vl.ownBlock = some g5 ∨ g5 = W.heap.size + 1)
    (ho6 : x6.ownsRow (fb + 2) 3 1 (.slice (some ⟨g6, 0, none⟩) (n + 1) c6) (n + 1) (idV (fun j => j) n ++ [.int .i64 (n : Int)])) (hg6 : (x5.alloc (.cells #[.int .i64 (n : Int)] 3)).grownBy x6 vo.ownBlock) :
    LnI w0 h fb gb x6 E (.slice (some ⟨g5, 0, none⟩) (n + 1) c5) (.slice (some ⟨g6, 0, none⟩) (n + 1) c6) (n + 1) (fl ++ [F]) (fun j => j) := by
  have hz := x.al.sz
  have hO5 : Only (fun q => vl.ownBlock = some q) W x5 := ((Only.refl _ W).alloc _).grown hg5 (fun _ _ e => e)
  have hO6 : Only (fun q => vo.ownBlock = some q) x5 x6 := ((Only.refl _ x5).alloc _).grown hg6 (fun _ _ e => e)
  have hB5 : Below (fb + 2) W x5 := hO5.below hz (fun k hk q => by have := (x.f.lt k q).1; omega)
  have hs5 := hB5.size
  have hB6 : Below (fb + 2) x5 x6 := hO6.below (by omega) (fun k hk q => by have := (x.o.lt k q).1; omega)
  refine ⟨x.al.low (hB5.trans hB6), ?_, ?_, by rw [List.length_append, x.hn]; rfl⟩
  · rw [List.map_append]
    refine owns_only ho5 hO6 (fun q hq e => ?_)
    have e5 : g5 = q := by simpa [Value.ownBlock] using hq
    rcases hat5 with r | r
    · exact oTyp x.f x.o (by decide) q (by rw [r, e5]) e
    · have := (x.o.lt q e).2
      omega
  · rw [← idV_snoc]; exact ho6
theorem LnI.sets {w0 : World} {h fb : Nat} {gb : Nat → Nat} {W : World} {E : Nat → LE} {vl : Value} {go co n : Nat} {fl : List ByteArray} {σ : Nat → Nat} (x : LnI w0 h fb gb W E vl (.slice (some ⟨go, 0, none⟩) n co) n fl σ) (a v : Nat) (ha : a < n) : LnI w0 h fb gb (W.setCell ⟨go, a, none⟩ (.int .i64 (v : Int))) E vl (.slice (some ⟨go, 0, none⟩) n co) n fl (upT σ a v) := by
  have hO : Only (fun k => k = go) W (W.setCell ⟨go, a, none⟩ (.int .i64 (v : Int))) := (Only.refl _ _).setCell _ _ (fun _ => rfl)
  have hl := x.o.lt go rfl
  refine ⟨x.al.low (hO.below x.al.sz (fun k hk q => by omega)), owns_only x.f hO (fun q hq e => ?_), ?_, x.hn⟩
  · rw [e] at hq
    exact oTyp x.f x.o (by decide) go hq rfl
  · have := oSet x.o (g := go) rfl a (.int .i64 (v : Int))
    rw [idV_set _ _ _ _ ha] at this
    exact this
theorem LnI.cellO {w0 : World} {h fb : Nat} {gb : Nat → Nat} {W : World} {E : Nat → LE} {vl : Value} {go co n : Nat} {fl : List ByteArray} {σ : Nat → Nat} (x : LnI w0 h fb gb W E vl (.slice (some ⟨go, 0, none⟩) n co) n fl σ) (a : Nat) (ha : a < n) : W.cell? ⟨go, a, none⟩ = some (.int .i64 (σ a : Int)) ∧ W.frozen? ⟨go, a, none⟩ = false := by
  obtain ⟨g, e, h1, h2, _⟩ := gr_cell x.o a ha
  injection e with e
  injection e with e
  subst e
  exact ⟨by rw [h1, idV_get _ _ _ ha], h2⟩
theorem LnI.cellF {w0 : World} {h fb : Nat} {gb : Nat → Nat} {W : World} {E : Nat → LE} {vo : Value} {gf cf n : Nat} {fl : List ByteArray} {σ : Nat → Nat} (x : LnI w0 h fb gb W E (.slice (some ⟨gf, 0, none⟩) n cf) vo n fl σ) (a : Nat) (ha : a < n) : W.cell? ⟨gf, a, none⟩ = some (.string (fl.getD a ⟨#[]⟩)) := by
  obtain ⟨g, o, e, _, hc⟩ := own_SB x.hn x.f a (by rw [x.hn]; exact ha)
  injection e with e
  injection e with e1 e2
  subst e1 e2
  rw [Nat.zero_add] at hc
  exact hc
end Go.Proofs.YtifjmldmilmfjaaGreatDoor
