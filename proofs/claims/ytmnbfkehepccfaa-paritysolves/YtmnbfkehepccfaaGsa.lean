import Derived.Test.YtmnbfkehepccfaaGlg
import Derived.Test.YtmnbfkehepccfaaGla
import Derived.Test.YtmnbfkehepccfaaGly
import Derived.Test.YtmnbfkehepccfaaGpg
import Derived.Deep.Slices
namespace Go.Proofs.Ytmnbfkehepccfaa
open Go.RowKit
set_option maxRecDepth 100000
/-- what is solved: the list -/
noncomputable def solL (Q : List (List Int)) (L : List Int) : List Int := by
  classical exact if h : slvOk Q L ∧ ∃ B, Ga L.length 0 (slvA Q L) true B then gL L.length (fun i => Classical.choose h.2 i L.length) else []
/-- .. and its error -/
noncomputable def solE (Q : List (List Int)) (L : List Int) : Int := by
  classical exact if slvOk Q L then (if ∃ B, Ga L.length 0 (slvA Q L) true B then 0 else 184) else 1
theorem solL_len (Q : List (List Int)) (L : List Int) : (solL Q L).length ≤ 24 := by
  unfold solL
  split
  · rename_i h
    rw [gL_len]
    exact h.1.1
  · exact Nat.zero_le _
theorem ints_gL (n : Nat) (F : Nat → G) : ints (gL n F) = gV n F := by
  unfold ints gL gV
  rw [List.map_map]
  rfl
theorem sol_of {w : World} {Q : List (List Int)} {L : List Int} {e : Ending} {w' : World} (h : SolR w Q L e w') : ∃ p c, e = .returned (.tuple #[.slice p (solL Q L).length c, .int .i64 (solE Q L)]) ∧ w'.ownsRow w.heap.size 3 1 (.slice p (solL Q L).length c) (solL Q L).length (ints (solL Q L)) ∧ Below w.heap.size w w' := by
  by_cases hok : slvOk Q L
  · obtain ⟨ok, B, hga, hor, hb⟩ := h.1 hok
    rcases hor with ⟨rfl, x, rfl, ho⟩ | ⟨rfl, rfl⟩
    · have hex : slvOk Q L ∧ ∃ B, Ga L.length 0 (slvA Q L) true B := ⟨hok, B, hga⟩
      have e1 : solL Q L = gL L.length (fun i => B i L.length) := by
        unfold solL
        rw [dif_pos hex]
        exact gL_congr (fun q hq => ((Classical.choose_spec hex.2).agree hga).2 rfl q hq)
      have e2 : solE Q L = 0 := by
        unfold solE
        rw [if_pos hok, if_pos hex.2]
      rw [e1, e2, gL_len, ints_gL]
      obtain ⟨p, c, rfl, _⟩ := gr_form ho
      exact ⟨p, c, rfl, ho, hb⟩
    · have hno : ¬ (slvOk Q L ∧ ∃ B, Ga L.length 0 (slvA Q L) true B) := fun q => by
        obtain ⟨_, B2, h2⟩ := q
        have := (hga.agree h2).1
        cases this
      have e1 : solL Q L = [] := by
        unfold solL
        rw [dif_neg hno]
      have e2 : solE Q L = 184 := by
        unfold solE
        rw [if_pos hok, if_neg (fun q => hno ⟨hok, q⟩)]
      rw [e1, e2]
      exact ⟨none, 0, rfl, World.ownsRow_nil _ _ _ _, hb⟩
  · obtain ⟨rfl, hb⟩ := h.2 hok
    have e1 : solL Q L = [] := by
      unfold solL
      rw [dif_neg (fun q => hok q.1)]
    have e2 : solE Q L = 1 := by
      unfold solE
      rw [if_neg hok]
    rw [e1, e2]
    exact ⟨none, 0, rfl, World.ownsRow_nil _ _ _ _, hb⟩
theorem psol_of (Q : List (List Int)) (L A : List Int) (er : Int) (al m n : Nat) (hA : solL Q L = A) (her : solE Q L = er) (hal : A.length = al) (hm : Q.length = m) (hn : L.length = n) (w : World) (B cq cl : Nat) (pq pl : Option Addr) (hQ : GSq w B pq Q) (hL : GLs w B pl L) (hB : B ≤ w.heap.size) : Calls Try.prog 16 #[.slice pq m cq, .slice pl n cl] w fun e w' => ∃ p c, e = .returned (.tuple #[.slice p al c, .int .i64 er]) ∧ w'.ownsRow w.heap.size 3 1 (.slice p al c) al (ints A) ∧ Below w.heap.size w w' := by
  subst hA her hal
  exact (psol_any w Q L B cq cl m n pq pl hm hn hQ hL hB).mono (fun e w' h => sol_of h)
theorem rsol_of (Q : List (List Int)) (L A : List Int) (er : Int) (al m n : Nat) (hA : solL Q L = A) (her : solE Q L = er) (hal : A.length = al) (hm : Q.length = m) (hn : L.length = n) (w : World) (B cq cl : Nat) (pq pl : Option Addr) (hQ : GSq w B pq Q) (hL : GLs w B pl L) (hB : B ≤ w.heap.size) (hbd : ∀ i, i < m → (Q.getD i []).length ≤ 17592186044000) : Calls Try.prog 22 #[.slice pq m cq, .slice pl n cl] w fun e w' => ∃ p c, e = .returned (.tuple #[.slice p al c, .int .i64 er]) ∧ w'.ownsRow w.heap.size 3 1 (.slice p al c) al (ints A) ∧ Below w.heap.size w w' := by
  subst hA her hal
  exact (rsolve_any w Q L B cq cl m n pq pl hm hn hQ hL hB hbd).mono (fun e w' h => sol_of h)
/-- What lent makes of a list: nil, or a row of its own with four marks behind. -/
def Lnt (base : Nat) (w : World) (l : List Int) (p : Option Addr) (x : Value) : Prop := (p = none ∧ l.length = 0 ∧ x = .slice none 0 0) ∨ (p ≠ none ∧ ∃ g c, x = .slice (some ⟨g, 0, none⟩) l.length c ∧ l.length + 4 ≤ c ∧ w.ownsRow base 3 1 (.slice (some ⟨g, 0, none⟩) (l.length + 4) c) (l.length + 4) (ints (lentL l)))
theorem Lnt.only {base : Nat} {w w' : World} {l : List Int} {p : Option Addr} {x : Value} {P : Nat → Prop} (h : Lnt base w l p x) (ho : Only P w w') (hp : ∀ k, x.ownBlock = some k → ¬ P k) : Lnt base w' l p x := by
  rcases h with h | ⟨h1, g, c, rfl, h3, h4⟩
  · exact .inl h
  · exact .inr ⟨h1, g, c, rfl, h3, owns_only h4 ho (fun k hk => hp k hk)⟩
theorem Lnt.below {base : Nat} {w w' : World} {l : List Int} {p : Option Addr} {x : Value} (h : Lnt base w l p x) (hb : Below w.heap.size w w') : Lnt base w' l p x := h.only (Only.of_below (P := fun _ => False) hb) (fun _ _ q => q)
theorem Lnt.lt {base : Nat} {w : World} {l : List Int} {p : Option Addr} {x : Value} (h : Lnt base w l p x) (k : Nat) (hk : x.ownBlock = some k) : base ≤ k ∧ k < w.heap.size := by
  rcases h with ⟨_, _, rfl⟩ | ⟨h1, g, c, rfl, h3, h4⟩
  · cases hk
  · exact h4.lt k hk
theorem Lnt.mono {base base' : Nat} {w : World} {l : List Int} {p : Option Addr} {x : Value} (h : Lnt base w l p x) (hb : base' ≤ base) : Lnt base' w l p x := by
  rcases h with h | ⟨h1, g, c, rfl, h3, h4⟩
  · exact .inl h
  · exact .inr ⟨h1, g, c, rfl, h3, gr_mono h4 hb⟩
theorem Lnt.kept {base : Nat} {w w' : World} {l : List Int} {p : Option Addr} {x : Value} {r : Option Nat} (h : Lnt base w l p x) (hg : w.grownBy w' r) (hr : x.ownBlock = none ∨ x.ownBlock ≠ r) : Lnt base w' l p x := by
  rcases h with h | ⟨h1, g, c, rfl, h3, h4⟩
  · exact .inl h
  · exact .inr ⟨h1, g, c, rfl, h3, h4.kept hg hr⟩
theorem Lnt.far {base b2 n2 s2 : Nat} {e2 : TypeId} {w : World} {l : List Int} {p : Option Addr} {x v2 : Value} {x2 : List Value} (h : Lnt base w l p x) (k : w.ownsRow b2 e2 s2 v2 n2 x2) (he : 3 ≠ e2) (y : Nat) (hy : x.ownBlock = some y) : v2.ownBlock ≠ some y := by
  rcases h with ⟨_, _, rfl⟩ | ⟨h1, g, c, rfl, h3, h4⟩
  · cases hy
  · exact own_types h4 k he y hy
theorem Lnt.form {base : Nat} {w : World} {l : List Int} {p : Option Addr} {x : Value} (h : Lnt base w l p x) : ∃ q c, x = .slice q l.length c ∧ (q = none → l.length = 0 ∧ c = 0) ∧ GLs w w.heap.size q l := by
  rcases h with ⟨_, h2, rfl⟩ | ⟨h1, g, c, rfl, h3, h4⟩
  · exact ⟨none, 0, by rw [h2], fun _ => ⟨h2, rfl⟩, fun j hj => absurd hj (by omega)⟩
  · refine ⟨some ⟨g, 0, none⟩, c, rfl, fun q => by (cases q), fun j hj => ?_⟩
    obtain ⟨g', e, hc, _, _, hlt⟩ := gr_cell h4 j (by omega)
    obtain rfl : g = g' := by injection e with e; injection e
    refine ⟨g, 0, rfl, hlt, ?_⟩
    rw [Nat.zero_add, hc, ← lentL_lt l j hj]
    exact gl_get (lentL l) j (by simp [lentL]; omega)
theorem lent_any (w : World) (l : List Int) (p : Option Addr) (n c : Nat) (hn : l.length = n) (hl : GLs w w.heap.size p l) (h0 : p = none → n = 0 ∧ c = 0) (hll : n ≤ 17592186043999) : Calls Try.prog 23 #[.slice p n c] w fun e w' => ∃ x, e = .returned x ∧ Lnt w.heap.size w' l p x ∧ Below w.heap.size w w' := by
  cases p with
  | none =>
    obtain ⟨h1, h2⟩ := h0 rfl
    subst h1 h2
    exact (lent18_nil w).mono (fun e w' h => ⟨_, h.1, .inl ⟨rfl, hn, rfl⟩, by rw [h.2]; exact Below.refl _ _⟩)
  | some a =>
    subst hn
    exact (lent18_any w l a c hl hll).mono (fun e w' h => by
      obtain ⟨g, cap, he, hc, ho, hb⟩ := h
      exact ⟨_, he, .inr ⟨by simp, g, cap, rfl, hc, ho⟩, hb⟩)
theorem asLent_any (w : World) (base : Nat) (l : List Int) (p q : Option Addr) (n c cx : Nat) (hn : l.length = n) (hl : GLs w base p l) (hb : base ≤ w.heap.size) (h0 : p = none → n = 0 ∧ c = 0) (hll : n ≤ 17592186043999) (hx : Lnt base w l p (.slice q n cx)) : Calls Try.prog 24 #[.slice q n cx, .slice p n c] w fun e w' => e = .returned (.bool true) ∧ Only (fun k => (Value.slice q n cx).ownBlock = some k) w w' := by
  rcases hx with ⟨rfl, h2, h3⟩ | ⟨h1, g, c', h3, h4, h5⟩
  · injection h3 with e1 e2 e3
    obtain ⟨h6, h7⟩ := h0 rfl
    subst e1 e2 e3 h7
    exact (asLent18_nil w).mono (fun e w' h => ⟨h.1, by rw [h.2]; exact Only.refl _ _⟩)
  · injection h3 with e1 e2 e3
    subst e1 e3 hn
    refine (asLent18_any w base g cx l p c (hl.mono hb) hll h1 h4 (fun hpos o e => ?_) h5).mono (fun e w' h => ⟨h.1, h.2.mono (fun k _ hk => by rw [hk]; rfl)⟩)
    obtain ⟨g1, o1, e1, hlt, _⟩ := hl 0 hpos
    rw [e] at e1
    injection e1 with e1
    injection e1 with e1
    have := (h5.lt g rfl).1
    omega
/-- Rows that were lent. -/
structure LR (base : Nat) (w : World) (u : Value) (m : Nat) (Q : List (List Int)) (pq : Nat → Option Addr) (v : Nat → Value) : Prop where
  row : w.ownsRow base 32 1 u m ((List.range m).map v)
  own : ∀ i, i < m → Lnt base w (Q.getD i []) (pq i) (v i)
  dis : ∀ i j, i < m → j < m → i ≠ j → ∀ x, (v i).ownBlock = some x → (v j).ownBlock ≠ some x
theorem LR.new (base : Nat) (w : World) (Q : List (List Int)) (pq : Nat → Option Addr) (v : Nat → Value) : LR base w (.slice none 0 0) 0 Q pq v := ⟨World.ownsRow_nil _ _ _ _, fun i hi => absurd hi (by omega), fun i j hi => absurd hi (by omega)⟩
theorem LR.below {base : Nat} {w w' : World} {u : Value} {m : Nat} {Q : List (List Int)} {pq : Nat → Option Addr} {v : Nat → Value} (h : LR base w u m Q pq v) (hb : Below w.heap.size w w') : LR base w' u m Q pq v :=
  ⟨owns_only h.row (Only.of_below (P := fun _ => False) hb) (fun _ _ q => q), fun i hi => (h.own i hi).below hb, h.dis⟩
theorem LR.push {base : Nat} {w w' : World} {u u' : Value} {m : Nat} {Q : List (List Int)} {pq : Nat → Option Addr} {v : Nat → Value} (h : LR base w u m Q pq v) (x : Value) (hx : Lnt base w (Q.getD m []) (pq m) x) (hdx : ∀ i, i < m → ∀ y, (v i).ownBlock = some y → x.ownBlock ≠ some y) (ho : w'.ownsRow base 32 1 u' (m + 1) ((List.range m).map v ++ [x])) (hg : w.grownBy w' u.ownBlock) : LR base w' u' (m + 1) Q pq (fun i => if i = m then x else v i) := by
  have key : ∀ {l : List Int} {p : Option Addr} {y : Value}, Lnt base w l p y → y.ownBlock = none ∨ y.ownBlock ≠ u.ownBlock := fun {l p y} ho' => by
    cases hy : y.ownBlock with
    | none => exact .inl rfl
    | some b => exact .inr (fun e => ho'.far h.row (by decide) b hy e.symm)
  refine ⟨?_, fun i hi => ?_, fun i j hi hj hij y hy => ?_⟩
  · have e : (List.range (m + 1)).map (fun i => if i = m then x else v i) = (List.range m).map v ++ [x] := by
      rw [List.range_succ, List.map_append, List.map_singleton, if_pos rfl]
      congr 1
      exact List.map_congr_left (fun a ha => if_neg (by have := List.mem_range.1 ha; omega))
    rw [e]
    exact ho
  · by_cases e : i = m
    · rw [e]
      show Lnt base w' _ _ (if m = m then x else v m)
      rw [if_pos rfl]
      exact hx.kept hg (key hx)
    · show Lnt base w' _ _ (if i = m then x else v i)
      rw [if_neg e]
      exact (h.own i (by omega)).kept hg (key (h.own i (by omega)))
  · replace hy : (if i = m then x else v i).ownBlock = some y := hy
    show (if j = m then x else v j).ownBlock ≠ some y
    by_cases ei : i = m
    · rw [if_pos ei] at hy
      rw [if_neg (by omega)]
      intro q
      exact hdx j (by omega) y q hy
    · rw [if_neg ei] at hy
      by_cases ej : j = m
      · rw [if_pos ej]
        exact hdx i (by omega) y hy
      · rw [if_neg ej]
        exact h.dis i j (by omega) (by omega) hij y hy
theorem LR.at {base : Nat} {w : World} {p : Option Addr} {m cu : Nat} {Q : List (List Int)} {pq : Nat → Option Addr} {v : Nat → Value} (h : LR base w (.slice p m cu) m Q pq v) (i : Nat) (hi : i < m) : ∃ gu, p = some ⟨gu, 0, none⟩ ∧ w.cell? ⟨gu, i, none⟩ = some (v i) ∧ base ≤ gu ∧ gu < w.heap.size := by
  obtain ⟨gu, e, h1, h2, h3, h4⟩ := gr_cell h.row i hi
  exact ⟨gu, e, h1.trans (by simp [hi]), h3, h4⟩
theorem LR.gsq {base : Nat} {w : World} {p : Option Addr} {m cu : Nat} {Q : List (List Int)} {pq : Nat → Option Addr} {v : Nat → Value} (h : LR base w (.slice p m cu) m Q pq v) (hm : Q.length = m) : GSq w w.heap.size p Q := fun i hi => by
  obtain ⟨g, e, hc, _, hlt⟩ := h.at i (by omega)
  obtain ⟨q, c, hv, h0, hl⟩ := (h.own i (by omega)).form
  refine ⟨g, 0, q, c, e, hlt, ?_, h0, hl⟩
  rw [Nat.zero_add, hc, hv]
/-- A square that came in, its rows' places by name. -/
def SqI (w : World) (B : Nat) (ps : Option Addr) (Q : List (List Int)) (pq : Nat → Option Addr) (cq : Nat → Nat) : Prop := ∀ i, i < Q.length → ∃ g o, ps = some ⟨g, o, none⟩ ∧ g < B ∧ w.cell? ⟨g, o + i, none⟩ = some (.slice (pq i) (Q.getD i []).length (cq i)) ∧ (pq i = none → (Q.getD i []).length = 0 ∧ cq i = 0) ∧ GLs w B (pq i) (Q.getD i []) ∧ (Q.getD i []).length ≤ 17592186043999
theorem SqI.below {w w' : World} {B : Nat} {ps : Option Addr} {Q : List (List Int)} {pq : Nat → Option Addr} {cq : Nat → Nat} (h : SqI w B ps Q pq cq) (hb : Below B w w') : SqI w' B ps Q pq cq := fun i hi => by
  obtain ⟨g, o, e, hg, hc, h0, hl, hz⟩ := h i hi
  exact ⟨g, o, e, hg, (hb.cell (p := ⟨g, o + i, none⟩) hg).trans hc, h0, hl.below hb, hz⟩
theorem SqI.gsq {w : World} {B : Nat} {ps : Option Addr} {Q : List (List Int)} {pq : Nat → Option Addr} {cq : Nat → Nat} (h : SqI w B ps Q pq cq) : GSq w B ps Q := fun i hi => by
  obtain ⟨g, o, e, hg, hc, h0, hl, hz⟩ := h i hi
  exact ⟨g, o, pq i, cq i, e, hg, hc, h0, hl⟩
end Go.Proofs.Ytmnbfkehepccfaa
