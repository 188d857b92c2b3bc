import Derived.Test.YtjiigapphhekmaaGreatDoorMr43
import Derived.Laws.OwnMore
namespace Go.Proofs.YtjiigapphhekmaaGreatDoor
open Go.RowKit Go.Maps Go.Sort Go.Shelf
/-- A row of rows: the row u (its elements are of type eo) holds the m slices v, each a row of its own of elements of type ei with the cells C. -/
structure RR (base : Nat) (eo ei : TypeId) (w : World) (u : Value) (m : Nat) (v : Nat → Value) (C : Nat → List Value) : Prop where
  row : w.ownsRow base eo 1 u m ((List.range m).map v)
  own : ∀ i, i < m → w.ownsRow base ei 1 (v i) (C i).length (C i)
  dis : ∀ i j, i < m → j < m → i ≠ j → ∀ x, (v i).ownBlock = some x → (v j).ownBlock ≠ some x
theorem own_types {w : World} {b1 b2 n1 n2 s1 s2 : Nat} {e1 e2 : TypeId} {v1 v2 : Value} {x1 x2 : List Value} (h : w.ownsRow b1 e1 s1 v1 n1 x1) (k : w.ownsRow b2 e2 s2 v2 n2 x2) (he : e1 ≠ e2) (x : Nat) (hx : v1.ownBlock = some x) : v2.ownBlock ≠ some x := by
  rcases h.2 with ⟨rfl, _⟩ | ⟨g, cap, cur, rfl, _, hg, _⟩
  · simp [Value.ownBlock] at hx
  · have e : g = x := by simpa [Value.ownBlock] using hx
    subst e
    exact (show Blk w g cur e1 from hg).not_row he k
theorem RR.new (base : Nat) (eo ei : TypeId) (w : World) (v : Nat → Value) (C : Nat → List Value) : RR base eo ei w (.slice none 0 0) 0 v C :=
  ⟨World.ownsRow_nil _ _ _ _, fun i hi => absurd hi (by omega), fun i j hi => absurd hi (by omega)⟩
theorem RR.grown {base : Nat} {eo ei : TypeId} {w w' : World} {u : Value} {m : Nat} {v : Nat → Value} {C : Nat → List Value} (h : RR base eo ei w u m v C) {r : Option Nat} (hg : w.grownBy w' r) (hr : ∀ x, r = some x → x < base) : RR base eo ei w' u m v C := by
  have key : ∀ {e : TypeId} {n : Nat} {y : Value} {xs : List Value}, w.ownsRow base e 1 y n xs → y.ownBlock = none ∨ y.ownBlock ≠ r := fun ho => by
    by_cases q : r = none
    · subst q
      rename_i y _
      cases hy : y.ownBlock <;> simp
    · obtain ⟨x, hx⟩ := Option.ne_none_iff_exists'.1 q
      refine .inr (fun e => ?_)
      have := (ho.lt x (by rw [e, hx])).1
      have := hr x hx
      omega
  exact ⟨h.row.kept hg (key h.row), fun i hi => (h.own i hi).kept hg (key (h.own i hi)), h.dis⟩
theorem RR.below {base : Nat} {eo ei : TypeId} {w w' : World} {u : Value} {m : Nat} {v : Nat → Value} {C : Nat → List Value} (h : RR base eo ei w u m v C) (hb : Below w.heap.size w w') : RR base eo ei w' u m v C :=
  ⟨owns_only h.row (Only.of_below (P := fun _ => False) hb) (fun _ _ q => q), fun i hi => owns_only (h.own i hi) (Only.of_below (P := fun _ => False) hb) (fun _ _ q => q), h.dis⟩
/-- One more row, behind an append to u. -/
theorem RR.push {base : Nat} {eo ei : TypeId} {w w' : World} {u u' : Value} {m : Nat} {v : Nat → Value} {C : Nat → List Value} (h : RR base eo ei w u m v C) (hne : ei ≠ eo) (x : Value) (D : List Value) (hx : w.ownsRow base ei 1 x D.length D) (hdx : ∀ i, i < m → ∀ y, (v i).ownBlock = some y → x.ownBlock ≠ some y) (hv : v m = x) (hC : C m = D) (ho : w'.ownsRow base eo 1 u' (m + 1) ((List.range m).map v ++ [x])) (hg : w.grownBy w' u.ownBlock) : RR base eo ei w' u' (m + 1) v C := by
  have key : ∀ {n : Nat} {y : Value} {xs : List Value}, w.ownsRow base ei 1 y n xs → y.ownBlock = none ∨ y.ownBlock ≠ u.ownBlock := fun {n y xs} ho' => by
    cases hy : y.ownBlock with
    | none => exact .inl rfl
    | some b => exact .inr (fun e => own_types ho' h.row hne b hy e.symm)
  refine ⟨by rw [List.range_succ, List.map_append, List.map_singleton, hv]; exact ho, fun i hi => ?_, fun i j hi hj hij y hy => ?_⟩
  · by_cases e : i = m
    · rw [e, hv, hC]; exact hx.kept hg (key hx)
    · exact (h.own i (by omega)).kept hg (key (h.own i (by omega)))
  · by_cases ei' : i = m
    · rw [ei', hv] at hy
      intro q
      exact hdx j (by omega) y q hy
    · by_cases ej : j = m
      · rw [ej, hv]; exact hdx i (by omega) y hy
      · exact h.dis i j (by omega) (by omega) hij y hy
/-- A cell of row i is written. -/
theorem RR.set {base : Nat} {eo ei : TypeId} {w : World} {u : Value} {m : Nat} {v : Nat → Value} {C : Nat → List Value} (h : RR base eo ei w u m v C) (hne : ei ≠ eo) (i : Nat) (hi : i < m) (g cap : Nat) (hv : v i = .slice (some ⟨g, 0, none⟩) (C i).length cap) (j : Nat) (y : Value) : RR base eo ei (w.setCell ⟨g, j, none⟩ y) u m v (fun k => if k = i then (C i).set j y else C k) ∧ w.grownBy (w.setCell ⟨g, j, none⟩ y) (some g) := by
  have ho := h.own i hi
  rw [hv] at ho
  obtain ⟨h1, h2⟩ := ho.stored j y
  have hgb : (v i).ownBlock = some g := by rw [hv]; rfl
  refine ⟨⟨h.row.kept h2 ?_, fun k hk => ?_, h.dis⟩, h2⟩
  · refine .inr (fun e => own_types (h.own i hi) h.row hne g hgb e)
  · by_cases e : k = i
    · subst e
      simp only [if_true, List.length_set]
      rw [hv]
      exact h1
    · simp only [if_neg e]
      refine (h.own k hk).kept h2 ?_
      cases hy : (v k).ownBlock with
      | none => exact .inl rfl
      | some b => exact .inr (fun q => by
          injection q with q
          subst q
          exact h.dis k i hk hi e b hy hgb)
/-- Row i is grown by an append (its slice is y now, in w1), and then put back into u. -/
theorem RR.grow {base : Nat} {eo ei : TypeId} {w w1 : World} {u : Value} {m : Nat} {v : Nat → Value} {C : Nat → List Value} (h : RR base eo ei w u m v C) (hne : ei ≠ eo) (i : Nat) (hi : i < m) (gu cu : Nat) (hu : u = .slice (some ⟨gu, 0, none⟩) m cu) (D : List Value) (g cap : Nat) (ho : w1.ownsRow base ei 1 (.slice (some ⟨g, 0, none⟩) D.length cap) D.length D) (hg : w.grownBy w1 (v i).ownBlock) (hgg : (v i).ownBlock = some g ∨ w.heap.size ≤ g) : RR base eo ei (w1.setCell ⟨gu, i, none⟩ (.slice (some ⟨g, 0, none⟩) D.length cap)) u m (fun k => if k = i then .slice (some ⟨g, 0, none⟩) D.length cap else v k) (fun k => if k = i then D else C k) := by
  have hkeep : ∀ k, k < m → k ≠ i → (v k).ownBlock = none ∨ (v k).ownBlock ≠ (v i).ownBlock := fun k hk e => by
    cases hy : (v k).ownBlock with
    | none => exact .inl rfl
    | some b => exact .inr (fun q => h.dis k i hk hi e b hy q.symm)
  have hrow1 : w1.ownsRow base eo 1 u m ((List.range m).map v) := h.row.kept hg (by
    cases hy : u.ownBlock with
    | none => exact .inl rfl
    | some b => exact .inr (fun q => own_types (h.own i hi) h.row hne b q.symm hy))
  have hrow1' := hrow1
  rw [hu] at hrow1'
  obtain ⟨r1, r2⟩ := hrow1'.stored i (.slice (some ⟨g, 0, none⟩) D.length cap)
  have hgu : u.ownBlock = some gu := by rw [hu]; rfl
  have inner : ∀ {n : Nat} {y : Value} {xs : List Value}, w1.ownsRow base ei 1 y n xs → (w1.setCell ⟨gu, i, none⟩ (.slice (some ⟨g, 0, none⟩) D.length cap)).ownsRow base ei 1 y n xs := fun {n y xs} hy => hy.kept r2 (by
    cases e : y.ownBlock with
    | none => exact .inl rfl
    | some b => exact .inr (fun q => by
        injection q with q
        subst q
        exact own_types hy hrow1 hne b e hgu))
  refine ⟨?_, fun k hk => ?_, fun k j hk hj hkj x hx => ?_⟩
  · rw [hu]
    have e : (List.range m).map (fun k => if k = i then Value.slice (some ⟨g, 0, none⟩) D.length cap else v k) = ((List.range m).map v).set i (.slice (some ⟨g, 0, none⟩) D.length cap) := by
      apply List.ext_getElem
      · simp
      · intro a b1 b2
        simp only [List.getElem_map, List.getElem_range, List.getElem_set]
        by_cases q : a = i
        · rw [if_pos q, if_pos q.symm]
        · rw [if_neg q, if_neg (Ne.symm q)]
    rw [e]
    exact r1
  · by_cases e : k = i
    · simp only [if_pos e]
      exact inner ho
    · simp only [if_neg e]
      exact inner ((h.own k hk).kept hg (hkeep k hk e))
  · have far : ∀ k, k < m → k ≠ i → (v k).ownBlock ≠ some g := fun k hk e q => by
      rcases hgg with r | r
      · exact h.dis k i hk hi e g q r
      · have := ((h.own k hk).lt g q).2
        omega
    by_cases e1 : k = i
    · simp only [if_pos e1] at hx
      have e2 : j ≠ i := fun q => hkj (by rw [e1, q])
      simp only [if_neg e2]
      have : g = x := by simpa [Value.ownBlock] using hx
      rw [← this]
      exact far j hj e2
    · simp only [if_neg e1] at hx
      by_cases e2 : j = i
      · simp only [if_pos e2]
        intro q
        have : g = x := by simpa [Value.ownBlock] using q
        rw [← this] at hx
        exact far k hk e1 hx
      · simp only [if_neg e2]
        exact h.dis k j hk hj hkj x hx
end Go.Proofs.YtjiigapphhekmaaGreatDoor

namespace Go.Proofs.YtjiigapphhekmaaGreatDoor
open Go.RowKit Go.Maps Go.Sort Go.Shelf
theorem owns_lower {w : World} {b b' n s : Nat} {e : TypeId} {v : Value} {xs : List Value} (h : w.ownsRow b e s v n xs) (hb : b' ≤ b) : w.ownsRow b' e s v n xs := by
  obtain ⟨h1, h2⟩ := h
  refine ⟨h1, ?_⟩
  rcases h2 with q | ⟨g, cap, cu, q, hg0, hgb, q1, q2, q3, q4⟩
  · exact .inl q
  · exact .inr ⟨g, cap, cu, q, Nat.le_trans hb hg0, hgb, q1, q2, q3, q4⟩
def okC (z : Int) : Prop := 1 ≤ z ∧ z ≤ 1024
instance (z : Int) : Decidable (okC z) := inferInstanceAs (Decidable (_ ∧ _))
/-- The pages of an empty map of so many, if there is one. -/
def PLz (z : Int) : List ByteArray := if okC z then pgZ (pgs z.toNat) else []
def erZ (z : Int) : Int := if okC z then 0 else 1
theorem PLz_len (z : Int) : (PLz z).length ≤ 4 := by
  unfold PLz
  split
  · rename_i h
    rw [pgZ_len]
    exact pgs_le (by unfold okC at h; omega)
  · exact Nat.zero_le _
theorem minit_all (z : Int) (w : World) : Calls Tryz.prog 20 #[.int .i64 z] w fun e w' => ∃ v, e = .returned (.tuple #[v, .int .i64 (erZ z)]) ∧ w'.ownsRow w.heap.size 9 1 v (PLz z).length (strs (PLz z)) ∧ Below w.heap.size w w' := by
  by_cases h : okC z
  · have e : z = ((z.toNat : Nat) : Int) := by unfold okC at h; omega
    have hc := minitial_any z.toNat (by unfold okC at h; omega) (by unfold okC at h; omega) w
    rw [← e] at hc
    rw [erZ, if_pos h, PLz, if_pos h]
    refine hc.mono ?_
    rintro ev w' ⟨v, rfl, h1, h2⟩
    exact ⟨v, rfl, by rw [pgZ_len]; exact h1, h2⟩
  · rw [erZ, if_neg h, PLz, if_neg h]
    refine (minitial_bad z h w).mono ?_
    rintro ev w' ⟨rfl, rfl⟩
    exact ⟨_, rfl, World.ownsRow_nil _ _ _ _, Below.refl _ _⟩
theorem rinit_all (z : Int) (w : World) : Calls Tryz.prog 19 #[.int .i64 z] w fun e w' => ∃ v, e = .returned (.tuple #[v, .int .i64 (erZ z)]) ∧ w'.ownsRow w.heap.size 9 1 v (PLz z).length (strs (PLz z)) ∧ Below w.heap.size w w' := by
  by_cases h : okC z
  · have e : z = ((z.toNat : Nat) : Int) := by unfold okC at h; omega
    have hc := rinitial_ok z.toNat (by unfold okC at h; omega) (by unfold okC at h; omega) w
    rw [← e] at hc
    rw [erZ, if_pos h, PLz, if_pos h]
    refine hc.mono ?_
    rintro ev w' ⟨v, rfl, h1, h2⟩
    exact ⟨v, rfl, by rw [pgZ_len]; exact h1, h2⟩
  · rw [erZ, if_neg h, PLz, if_neg h]
    refine (rinitial_bad z h w).mono ?_
    rintro ev w' ⟨rfl, rfl⟩
    exact ⟨_, rfl, World.ownsRow_nil _ _ _ _, Below.refl _ _⟩
/-- The four numbers. -/
def cz (count other : Int) (i : Nat) : Int := if i = 2 then other else count
theorem cz_cell (count other : Int) (k : Nat) (hk : k < 4) : (#[.int .i64 count, .int .i64 count, .int .i64 other, .int .i64 count] : Array Value)[k]? = some (.int .i64 (cz count other k)) := by
  obtain rfl | rfl | rfl | rfl : k = 0 ∨ k = 1 ∨ k = 2 ∨ k = 3 := by omega
  all_goals rfl
theorem infoSl : (Tryz.prog.info? 42).map (fun i => (i.zero, i.size, i.bytes)) = some (some (.slice none 0 0), 1, 24) := by kernel_rfl
/-- The mark of the i-th owner. -/
def mkB (i : Nat) : ByteArray := (⟨#[109, 97, 114, 107]⟩ : ByteArray) ++ strOfNums [(i : Int)]
end Go.Proofs.YtjiigapphhekmaaGreatDoor
