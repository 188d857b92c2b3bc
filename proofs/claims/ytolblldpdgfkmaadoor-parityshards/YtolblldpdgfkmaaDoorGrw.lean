import Derived.Test.YtolblldpdgfkmaaDoorGrc
import Derived.Laws.OwnMore
namespace Go.Proofs.YtolblldpdgfkmaaDoor
open Go.RowKit
/-- A row of rows: the row u (its elements are of type eo) holds the m slices v, each a row of its own of elements of type ei with the cells C. -/
structure RR (base : Nat) (eo ei : TypeId) (w : World) (u : Value) (m : Nat) (v : Nat → Value) (C : Nat → List Value) : Prop where
  row : w.ownsRow base eo 1 u m ((List.range m).map v)
  own : ∀ i, i < m → w.ownsRow base ei 1 (v i) (C i).length (C i)
  dis : ∀ i j, i < m → j < m → i ≠ j → ∀ x, (v i).ownBlock = some x → (v j).ownBlock ≠ some x
theorem own_types {w : World} {b1 b2 n1 n2 s1 s2 : Nat} {e1 e2 : TypeId} {v1 v2 : Value} {x1 x2 : List Value} (h : w.ownsRow b1 e1 s1 v1 n1 x1) (k : w.ownsRow b2 e2 s2 v2 n2 x2) (he : e1 ≠ e2) (x : Nat) (hx : v1.ownBlock = some x) : v2.ownBlock ≠ some x := by
  rcases h.2 with ⟨rfl, _⟩ | ⟨g, cap, cur, rfl, _, hg, _⟩
  · simp [Value.ownBlock] at hx
  · have e : g = x := by simpa [Value.ownBlock] using hx
    subst e
    exact (show Blk w g cur e1 from hg).not_row he k
theorem RR.new (base : Nat) (eo ei : TypeId) (w : World) (v : Nat → Value) (C : Nat → List Value) : RR base eo ei w (.slice none 0 0) 0 v C :=
  ⟨World.ownsRow_nil _ _ _ _, fun i hi => absurd hi (by omega), fun i j hi => absurd hi (by omega)⟩
theorem RR.grown {base : Nat} {eo ei : TypeId} {w w' : World} {u : Value} {m : Nat} {v : Nat → Value} {C : Nat → List Value} (h : RR base eo ei w u m v C) {r : Option Nat} (hg : w.grownBy w' r) (hr : ∀ x, r = some x → x < base) : RR base eo ei w' u m v C := by
  have key : ∀ {e : TypeId} {n : Nat} {y : Value} {xs : List Value}, w.ownsRow base e 1 y n xs → y.ownBlock = none ∨ y.ownBlock ≠ r := fun ho => by
    by_cases q : r = none
    · subst q
      rename_i y _
      cases hy : y.ownBlock <;> simp
    · obtain ⟨x, hx⟩ := Option.ne_none_iff_exists'.1 q
      refine .inr (fun e => ?_)
      have := (ho.lt x (by rw [e, hx])).1
      have := hr x hx
      omega
  exact ⟨h.row.kept hg (key h.row), fun i hi => (h.own i hi).kept hg (key (h.own i hi)), h.dis⟩
theorem RR.below {base : Nat} {eo ei : TypeId} {w w' : World} {u : Value} {m : Nat} {v : Nat → Value} {C : Nat → List Value} (h : RR base eo ei w u m v C) (hb : Below w.heap.size w w') : RR base eo ei w' u m v C :=
  ⟨owns_only h.row (Only.of_below (P := fun _ => False) hb) (fun _ _ q => q), fun i hi => owns_only (h.own i hi) (Only.of_below (P := fun _ => False) hb) (fun _ _ q => q), h.dis⟩
/-- One more row, behind an append to u. -/
theorem RR.push {base : Nat} {eo ei : TypeId} {w w' : World} {u u' : Value} {m : Nat} {v : Nat → Value} {C : Nat → List Value} (h : RR base eo ei w u m v C) (hne : ei ≠ eo) (x : Value) (D : List Value) (hx : w.ownsRow base ei 1 x D.length D) (hdx : ∀ i, i < m → ∀ y, (v i).ownBlock = some y → x.ownBlock ≠ some y) (hv : v m = x) (hC : C m = D) (ho : w'.ownsRow base eo 1 u' (m + 1) ((List.range m).map v ++ [x])) (hg : w.grownBy w' u.ownBlock) : RR base eo ei w' u' (m + 1) v C := by
  have key : ∀ {n : Nat} {y : Value} {xs : List Value}, w.ownsRow base ei 1 y n xs → y.ownBlock = none ∨ y.ownBlock ≠ u.ownBlock := fun {n y xs} ho' => by
    cases hy : y.ownBlock with
    | none => exact .inl rfl
    | some b => exact .inr (fun e => own_types ho' h.row hne b hy e.symm)
  refine ⟨by rw [List.range_succ, List.map_append, List.map_singleton, hv]; exact ho, fun i hi => ?_, fun i j hi hj hij y hy => ?_⟩
  · by_cases e : i = m
    · rw [e, hv, hC]; exact hx.kept hg (key hx)
    · exact (h.own i (by omega)).kept hg (key (h.own i (by omega)))
  · by_cases ei' : i = m
    · rw [ei', hv] at hy
      intro q
      exact hdx j (by omega) y q hy
    · by_cases ej : j = m
      · rw [ej, hv]; exact hdx i (by omega) y hy
      · exact h.dis i j (by omega) (by omega) hij y hy
/-- A cell of row i is written. -/
theorem RR.set {base : Nat} {eo ei : TypeId} {w : World} {u : Value} {m : Nat} {v : Nat → Value} {C : Nat → List Value} (h : RR base eo ei w u m v C) (hne : ei ≠ eo) (i : Nat) (hi : i < m) (g cap : Nat) (hv : v i = .slice (some ⟨g, 0, none⟩) (C i).length cap) (j : Nat) (y : Value) : RR base eo ei (w.setCell ⟨g, j, none⟩ y) u m v (fun k => if k = i then (C i).set j y else C k) ∧ w.grownBy (w.setCell ⟨g, j, none⟩ y) (some g) := by
  have ho := h.own i hi
  rw [hv] at ho
  obtain ⟨h1, h2⟩ := ho.stored j y
  have hgb : (v i).ownBlock = some g := by rw [hv]; rfl
  refine ⟨⟨h.row.kept h2 ?_, fun k hk => ?_, h.dis⟩, h2⟩
  · refine .inr (fun e => own_types (h.own i hi) h.row hne g hgb e)
  · by_cases e : k = i
    · subst e
      simp only [if_true, List.length_set]
      rw [hv]
      exact h1
    · simp only [if_neg e]
      refine (h.own k hk).kept h2 ?_
      cases hy : (v k).ownBlock with
      | none => exact .inl rfl
      | some b => exact .inr (fun q => by
          injection q with q
          subst q
          exact h.dis k i hk hi e b hy hgb)
/-- Row i is grown by an append (its slice is y now, in w1), and then put back into u. -/
theorem RR.grow {base : Nat} {eo ei : TypeId} {w w1 : World} {u : Value} {m : Nat} {v : Nat → Value} {C : Nat → List Value} (h : RR base eo ei w u m v C) (hne : ei ≠ eo) (i : Nat) (hi : i < m) (gu cu : Nat) (hu : u = .slice (some ⟨gu, 0, none⟩) m cu) (D : List Value) (g cap : Nat) (ho : w1.ownsRow base ei 1 (.slice (some ⟨g, 0, none⟩) D.length cap) D.length D) (hg : w.grownBy w1 (v i).ownBlock) (hgg : (v i).ownBlock = some g ∨ w.heap.size ≤ g) : RR base eo ei (w1.setCell ⟨gu, i, none⟩ (.slice (some ⟨g, 0, none⟩) D.length cap)) u m (fun k => if k = i then .slice (some ⟨g, 0, none⟩) D.length cap else v k) (fun k => if k = i then D else C k) := by
  have hkeep : ∀ k, k < m → k ≠ i → (v k).ownBlock = none ∨ (v k).ownBlock ≠ (v i).ownBlock := fun k hk e => by
    cases hy : (v k).ownBlock with
    | none => exact .inl rfl
    | some b => exact .inr (fun q => h.dis k i hk hi e b hy q.symm)
  have hrow1 : w1.ownsRow base eo 1 u m ((List.range m).map v) := h.row.kept hg (by
    cases hy : u.ownBlock with
    | none => exact .inl rfl
    | some b => exact .inr (fun q => own_types (h.own i hi) h.row hne b q.symm hy))
  have hrow1' := hrow1
  rw [hu] at hrow1'
  obtain ⟨r1, r2⟩ := hrow1'.stored i (.slice (some ⟨g, 0, none⟩) D.length cap)
  have hgu : u.ownBlock = some gu := by rw [hu]; rfl
  have inner : ∀ {n : Nat} {y : Value} {xs : List Value}, w1.ownsRow base ei 1 y n xs → (w1.setCell ⟨gu, i, none⟩ (.slice (some ⟨g, 0, none⟩) D.length cap)).ownsRow base ei 1 y n xs := fun {n y xs} hy => hy.kept r2 (by
    cases e : y.ownBlock with
    | none => exact .inl rfl
    | some b => exact .inr (fun q => by
        injection q with q
        subst q
        exact own_types hy hrow1 hne b e hgu))
  refine ⟨?_, fun k hk => ?_, fun k j hk hj hkj x hx => ?_⟩
  · rw [hu]
    have e : (List.range m).map (fun k => if k = i then Value.slice (some ⟨g, 0, none⟩) D.length cap else v k) = ((List.range m).map v).set i (.slice (some ⟨g, 0, none⟩) D.length cap) := by
      apply List.ext_getElem
      · simp
      · intro a b1 b2
        simp only [List.getElem_map, List.getElem_range, List.getElem_set]
        by_cases q : a = i
        · rw [if_pos q, if_pos q.symm]
        · rw [if_neg q, if_neg (Ne.symm q)]
    rw [e]
    exact r1
  · by_cases e : k = i
    · simp only [if_pos e]
      exact inner ho
    · simp only [if_neg e]
      exact inner ((h.own k hk).kept hg (hkeep k hk e))
  · have far : ∀ k, k < m → k ≠ i → (v k).ownBlock ≠ some g := fun k hk e q => by
      rcases hgg with r | r
      · exact h.dis k i hk hi e g q r
      · have := ((h.own k hk).lt g q).2
        omega
    by_cases e1 : k = i
    · simp only [if_pos e1] at hx
      have e2 : j ≠ i := fun q => hkj (by rw [e1, q])
      simp only [if_neg e2]
      have : g = x := by simpa [Value.ownBlock] using hx
      rw [← this]
      exact far j hj e2
    · simp only [if_neg e1] at hx
      by_cases e2 : j = i
      · simp only [if_pos e2]
        intro q
        have : g = x := by simpa [Value.ownBlock] using q
        rw [← this] at hx
        exact far k hk e1 hx
      · simp only [if_neg e2]
        exact h.dis k j hk hj hkj x hx
/-- Row c is put in the place of row t, then x in the place of row c. -/
theorem RR.two {base : Nat} {eo ei : TypeId} {w : World} {u : Value} {m : Nat} {v : Nat → Value} {C : Nat → List Value} (h : RR base eo ei w u m v C) (hne : ei ≠ eo) (t c : Nat) (hc : c < m) (gu cu : Nat) (hu : u = .slice (some ⟨gu, 0, none⟩) m cu) (x : Value) (D : List Value) (hx : w.ownsRow base ei 1 x D.length D) (hdx : ∀ i, i < m → ∀ y, (v i).ownBlock = some y → x.ownBlock ≠ some y) : RR base eo ei ((w.setCell ⟨gu, t, none⟩ (v c)).setCell ⟨gu, c, none⟩ x) u m (fun k => if k = c then x else if k = t then v c else v k) (fun k => if k = c then D else if k = t then C c else C k) ∧ w.grownBy ((w.setCell ⟨gu, t, none⟩ (v c)).setCell ⟨gu, c, none⟩ x) (some gu) := by
  have hgu : u.ownBlock = some gu := by rw [hu]; rfl
  have hr0 := h.row
  rw [hu] at hr0
  obtain ⟨r1, r2⟩ := hr0.stored t (v c)
  obtain ⟨r3, r4⟩ := r1.stored c x
  have inner : ∀ {n : Nat} {y : Value} {xs : List Value}, w.ownsRow base ei 1 y n xs → ((w.setCell ⟨gu, t, none⟩ (v c)).setCell ⟨gu, c, none⟩ x).ownsRow base ei 1 y n xs := fun {n y xs} hy => by
    have k0 : y.ownBlock = none ∨ y.ownBlock ≠ some gu := by
      cases e : y.ownBlock with
      | none => exact .inl rfl
      | some b => exact .inr (fun q => by
          injection q with q
          subst q
          exact own_types hy h.row hne b e hgu)
    exact (hy.kept r2 k0).kept r4 k0
  refine ⟨⟨?_, fun k hk => ?_, fun k j hk hj hkj y hy => ?_⟩, ?_⟩
  · rw [hu]
    have e : (List.range m).map (fun k => if k = c then x else if k = t then v c else v k) = (((List.range m).map v).set t (v c)).set c x := by
      apply List.ext_getElem
      · simp
      · intro a b1 b2
        simp only [List.getElem_map, List.getElem_range, List.getElem_set]
        by_cases q : a = c
        · rw [if_pos q, if_pos q.symm]
        · rw [if_neg q, if_neg (Ne.symm q)]
          by_cases q2 : a = t
          · rw [if_pos q2, if_pos q2.symm]
          · rw [if_neg q2, if_neg (Ne.symm q2)]
    rw [e]
    exact r3
  · by_cases e : k = c
    · simp only [if_pos e]
      exact inner hx
    · simp only [if_neg e]
      by_cases e2 : k = t
      · simp only [if_pos e2]
        exact inner (h.own c hc)
      · simp only [if_neg e2]
        exact inner (h.own k hk)
  · by_cases e1 : k = c
    · simp only [if_pos e1] at hy
      have e2 : j ≠ c := fun q => hkj (by rw [e1, q])
      simp only [if_neg e2]
      intro q
      by_cases e3 : j = t
      · rw [if_pos e3] at q
        exact hdx c hc y q hy
      · rw [if_neg e3] at q
        exact hdx j hj y q hy
    · simp only [if_neg e1] at hy
      by_cases e2 : j = c
      · simp only [if_pos e2]
        by_cases e3 : k = t
        · rw [if_pos e3] at hy
          exact hdx c hc y hy
        · rw [if_neg e3] at hy
          exact hdx k hk y hy
      · simp only [if_neg e2]
        by_cases e3 : k = t
        · rw [if_pos e3] at hy
          have e4 : j ≠ t := fun q => hkj (by rw [e3, q])
          rw [if_neg e4]
          exact h.dis c j hc hj (fun q => e2 q.symm) y hy
        · rw [if_neg e3] at hy
          by_cases e4 : j = t
          · rw [if_pos e4]
            exact h.dis k c hk hc e1 y hy
          · rw [if_neg e4]
            exact h.dis k j hk hj hkj y hy
  · exact r2.trans r4
theorem RR.at {base : Nat} {eo ei : TypeId} {w : World} {p : Option Addr} {m cu : Nat} {v : Nat → Value} {C : Nat → List Value} (h : RR base eo ei w (.slice p m cu) m v C) (i : Nat) (hi : i < m) : ∃ gu, p = some ⟨gu, 0, none⟩ ∧ w.cell? ⟨gu, i, none⟩ = some (v i) ∧ w.frozen? ⟨gu, i, none⟩ = false ∧ base ≤ gu ∧ gu < w.heap.size := by
  obtain ⟨gu, e, h1, h2, h3, h4⟩ := gr_cell h.row i hi
  exact ⟨gu, e, h1.trans (by simp [hi]), h2, h3, h4⟩
end Go.Proofs.YtolblldpdgfkmaaDoor
