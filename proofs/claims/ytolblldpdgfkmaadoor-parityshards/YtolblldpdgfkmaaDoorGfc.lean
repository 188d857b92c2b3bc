import Derived.Test.YtolblldpdgfkmaaDoorGfb
namespace Go.Proofs.YtolblldpdgfkmaaDoor
/-- a sum of which one place alone is not nothing -/
theorem sm_delta (p : Nat) (a : G) : ∀ (l : List Nat), l.Nodup → sm (fun j => if j = p then a else g0) l = if p ∈ l then a else g0
  | [], _ => by simp [sm]
  | i :: l, h => by
    have hn := List.nodup_cons.1 h
    simp only [sm]
    rw [sm_delta p a l hn.2]
    by_cases e : i = p
    · subst e
      rw [if_pos rfl, if_neg hn.1, gadd_zero, if_pos (List.mem_cons_self ..)]
    · rw [if_neg e, gzero_add]
      have : (p ∈ i :: l) ↔ p ∈ l := by
        rw [List.mem_cons]
        exact ⟨fun q => q.elim (fun q => absurd q.symm e) id, .inr⟩
      by_cases hp : p ∈ l
      · rw [if_pos hp, if_pos (this.2 hp)]
      · rw [if_neg hp, if_neg (fun q => hp (this.1 q))]
theorem sm_one (n p : Nat) (hp : p < n) (a : G) : sm (fun j => if j = p then a else g0) (List.range n) = a := by
  rw [sm_delta p a _ List.nodup_range, if_pos (List.mem_range.2 hp)]
/-- a function of rows that keeps sums and products -/
structure RowF (F : (Nat → G) → G) : Prop where
  add : ∀ R S, F (fun k => R k + S k) = F R + F S
  mul : ∀ R c, F (fun k => R k * c) = F R * c
/-- One column: the row 'at' is taken, made 1 there, put in the place of row c, and taken from all others. -/
def gst (c at' : Nat) (A : Nat → Nat → G) : Nat → Nat → G := fun i k =>
  if i = c then A at' k * (A at' c).inv
  else (if i = at' then A c k else A i k) + (A at' k * (A at' c).inv) * (if i = at' then A c c else A i c)
theorem gst_c (c at' : Nat) (A : Nat → Nat → G) (k : Nat) : gst c at' A c k = A at' k * (A at' c).inv := by unfold gst; rw [if_pos rfl]
theorem gst_at {c at' : Nat} (h : at' ≠ c) (A : Nat → Nat → G) (k : Nat) : gst c at' A at' k = A c k + (A at' k * (A at' c).inv) * A c c := by unfold gst; rw [if_neg h, if_pos rfl, if_pos rfl]
theorem gst_i {c at' i : Nat} (h : i ≠ c) (h2 : i ≠ at') (A : Nat → Nat → G) (k : Nat) : gst c at' A i k = A i k + (A at' k * (A at' c).inv) * A i c := by unfold gst; rw [if_neg h, if_neg h2, if_neg h2]
theorem gst_iff {F : (Nat → G) → G} (hF : RowF F) {n c at' : Nat} {A : Nat → Nat → G} (hc : c < n) (ha : at' < n) (hp : A at' c ≠ g0) : (∀ i, i < n → F (gst c at' A i) = g0) ↔ ∀ i, i < n → F (A i) = g0 := by
  have fc : F (gst c at' A c) = F (A at') * (A at' c).inv := by
    rw [show gst c at' A c = fun k => A at' k * (A at' c).inv from funext (fun k => gst_c c at' A k)]
    exact hF.mul _ _
  have fat : at' ≠ c → F (gst c at' A at') = F (A c) + F (A at') * (A at' c).inv * A c c := fun h => by
    rw [show gst c at' A at' = fun k => A c k + (A at' k * (A at' c).inv) * A c c from funext (fun k => gst_at h A k), hF.add, hF.mul, hF.mul]
  have fi : ∀ i, i ≠ c → i ≠ at' → F (gst c at' A i) = F (A i) + F (A at') * (A at' c).inv * A i c := fun i h h2 => by
    rw [show gst c at' A i = fun k => A i k + (A at' k * (A at' c).inv) * A i c from funext (fun k => gst_i h h2 A k), hF.add, hF.mul, hF.mul]
  constructor
  · intro h i hi
    have h1 : F (A at') = g0 := by
      have := h c hc
      rw [fc] at this
      rcases gmul_eq_zero this with q | q
      · exact q
      · exact absurd q (ginv_ne hp)
    by_cases e1 : i = at'
    · rw [e1]; exact h1
    · by_cases e2 : i = c
      · have hne : at' ≠ c := fun q => e1 (e2.trans q.symm)
        have := h at' ha
        rw [fat hne, h1, gzero_mul, gzero_mul, gadd_zero] at this
        rw [e2]; exact this
      · have := h i hi
        rw [fi i e2 e1, h1, gzero_mul, gzero_mul, gadd_zero] at this
        exact this
  · intro h i hi
    have h1 := h at' ha
    by_cases e2 : i = c
    · rw [e2, fc, h1, gzero_mul]
    · by_cases e1 : i = at'
      · rw [e1, fat (fun q => e2 (e1.trans q)), h1, h c hc, gzero_mul, gzero_mul, gadd_zero]
      · rw [fi i e2 e1, h1, h i hi, gzero_mul, gzero_mul, gadd_zero]
/-- the first c columns are done -/
def Un (n c : Nat) (A : Nat → Nat → G) : Prop := ∀ j, j < c → ∀ i, i < n → A i j = if i = j then g1 else g0
theorem gst_un {n c at' : Nat} {A : Nat → Nat → G} (h : Un n c A) (hc : c < n) (hca : c ≤ at') (ha : at' < n) (hp : A at' c ≠ g0) : Un n (c + 1) (gst c at' A) := by
  intro j hj i hi
  by_cases ej : j = c
  · subst ej
    by_cases e2 : i = j
    · rw [e2, gst_c, gmul_inv _ hp, if_pos rfl]
    · rw [if_neg e2]
      by_cases e1 : i = at'
      · rw [e1, gst_at (fun q => e2 (e1.trans q)), gmul_inv _ hp, gone_mul, gadd_self]
      · rw [gst_i e2 e1, gmul_inv _ hp, gone_mul, gadd_self]
  · have hjc : j < c := by omega
    have z : A at' j = g0 := by rw [h j hjc at' ha, if_neg (by omega)]
    by_cases e2 : i = c
    · rw [e2, gst_c, z, gzero_mul, if_neg (by omega)]
    · by_cases e1 : i = at'
      · rw [e1, gst_at (fun q => e2 (e1.trans q)), z, gzero_mul, gzero_mul, gadd_zero, h j hjc c hc, if_neg (by omega), if_neg (by omega)]
      · rw [gst_i e2 e1, z, gzero_mul, gzero_mul, gadd_zero, h j hjc i hi]
/-- what a row says of x: nothing, if its equation holds; its list's element is the last one -/
def rE (n : Nat) (x : Nat → G) (R : Nat → G) : G := sm (fun j => R j * x j) (List.range n) + R n
/-- .. and without the list -/
def rK (n : Nat) (x : Nat → G) (R : Nat → G) : G := sm (fun j => R j * x j) (List.range n)
theorem rK_row (n : Nat) (x : Nat → G) : RowF (rK n x) := by
  refine ⟨fun R S => ?_, fun R c => ?_⟩
  · unfold rK
    rw [← sm_add]
    exact sm_congr (fun j _ => gadd_mul _ _ _)
  · unfold rK
    rw [← sm_mul]
    exact sm_congr (fun j _ => by show R j * c * x j = R j * x j * c; ac_rfl)
theorem rE_row (n : Nat) (x : Nat → G) : RowF (rE n x) := by
  have h := rK_row n x
  refine ⟨fun R S => ?_, fun R c => ?_⟩
  · show rK n x (fun k => R k + S k) + (R n + S n) = (rK n x R + R n) + (rK n x S + S n)
    rw [h.add]
    ac_rfl
  · show rK n x (fun k => R k * c) + R n * c = (rK n x R + R n) * c
    rw [h.mul, gadd_mul]
/-- columns one behind the other, whichever row is taken -/
inductive Ga (n : Nat) : Nat → (Nat → Nat → G) → Bool → (Nat → Nat → G) → Prop
  | done (A : Nat → Nat → G) : Ga n n A true A
  | fail (c : Nat) (A : Nat → Nat → G) (hc : c < n) (h : ∀ i, c ≤ i → i < n → A i c = g0) : Ga n c A false A
  | step (c at' : Nat) (A : Nat → Nat → G) (ok : Bool) (B : Nat → Nat → G) (hc : c < n) (hca : c ≤ at') (ha : at' < n) (hp : A at' c ≠ g0) (h : Ga n (c + 1) (gst c at' A) ok B) : Ga n c A ok B
theorem Ga.sol {n c : Nat} {A B : Nat → Nat → G} {ok : Bool} (h : Ga n c A ok B) : Un n c A → (ok = true → Un n n B ∧ ∀ F, RowF F → ((∀ i, i < n → F (B i) = g0) ↔ ∀ i, i < n → F (A i) = g0)) ∧ (ok = false → ∃ y : Nat → G, (∃ j, j < n ∧ y j ≠ g0) ∧ ∀ i, i < n → rK n y (A i) = g0) := by
  induction h with
  | done A => exact fun hu => ⟨fun _ => ⟨hu, fun _ _ => Iff.rfl⟩, fun e => by cases e⟩
  | fail c A hc h =>
    refine fun hu => ⟨fun e => (by cases e), fun _ => ⟨fun j => if j < c then A j c else if j = c then g1 else g0, ⟨c, hc, ?_⟩, fun i hi => ?_⟩⟩
    · show (if c < c then A c c else if c = c then g1 else g0) ≠ g0
      rw [if_neg (Nat.lt_irrefl c), if_pos rfl]
      exact gone_ne
    · unfold rK
      by_cases hic : i < c
      · have e : sm (fun j => A i j * (if j < c then A j c else if j = c then g1 else g0)) (List.range n) = sm (fun j => (if j = i then A i c else g0) + (if j = c then A i c else g0)) (List.range n) := by
          refine sm_congr (fun j hj => ?_)
          have hjn := List.mem_range.1 hj
          by_cases h1 : j < c
          · rw [if_pos h1, hu j h1 i hi, if_neg (show ¬ j = c by omega), gadd_zero]
            by_cases h2 : i = j
            · subst h2
              rw [if_pos rfl, if_pos rfl, gone_mul]
            · rw [if_neg h2, if_neg (fun q => h2 q.symm), gzero_mul]
          · rw [if_neg h1, if_neg (show ¬ j = i by omega), gzero_add]
            by_cases h2 : j = c
            · rw [if_pos h2, if_pos h2, gmul_one, h2]
            · rw [if_neg h2, if_neg h2, gmul_zero]
        rw [e, sm_add, sm_one n i hi, sm_one n c hc, gadd_self]
      · refine sm_zero (fun j hj => ?_)
        have hjn := List.mem_range.1 hj
        by_cases h1 : j < c
        · rw [hu j h1 i hi, if_neg (by omega), gzero_mul]
        · show A i j * (if j < c then A j c else if j = c then g1 else g0) = g0
          rw [if_neg h1]
          by_cases h2 : j = c
          · rw [h2, h i (by omega) hi, gzero_mul]
          · rw [if_neg h2, gmul_zero]
  | step c at' A ok B hc hca ha hp h ih =>
    intro hu
    obtain ⟨i1, i2⟩ := ih (gst_un hu hc hca ha hp)
    refine ⟨fun e => ⟨(i1 e).1, fun F hF => ((i1 e).2 F hF).trans (gst_iff hF hc ha hp)⟩, fun e => ?_⟩
    obtain ⟨y, hy, hk⟩ := i2 e
    exact ⟨y, hy, (gst_iff (rK_row n y) hc ha hp).1 hk⟩
theorem un_zero (n : Nat) (A : Nat → Nat → G) : Un n 0 A := fun j hj => absurd hj (Nat.not_lt_zero j)
theorem un_sol {n : Nat} {B : Nat → Nat → G} (h : Un n n B) (x : Nat → G) : (∀ i, i < n → rE n x (B i) = g0) ↔ ∀ i, i < n → x i = B i n := by
  have e : ∀ i, i < n → rE n x (B i) = x i + B i n := fun i hi => by
    unfold rE
    congr 1
    rw [show sm (fun j => B i j * x j) (List.range n) = sm (fun j => if j = i then x i else g0) (List.range n) from sm_congr (fun j hj => by
      rw [h j (List.mem_range.1 hj) i hi]
      by_cases q : i = j
      · rw [if_pos q, if_pos q.symm, gone_mul, q]
      · rw [if_neg q, if_neg (fun r => q r.symm), gzero_mul]), sm_one n i hi]
  constructor
  · intro k i hi
    have := k i hi
    rw [e i hi] at this
    exact gadd_eq_zero this
  · intro k i hi
    rw [e i hi, k i hi, gadd_self]
/-- What came of it, if no column was without a row: the one list that solves it. -/
theorem Ga.one {n : Nat} {A B : Nat → Nat → G} (h : Ga n 0 A true B) (x : Nat → G) : (∀ i, i < n → rE n x (A i) = g0) ↔ ∀ i, i < n → x i = B i n := by
  obtain ⟨h1, h2⟩ := (h.sol (un_zero n A)).1 rfl
  exact (h2 _ (rE_row n x)).symm.trans (un_sol h1 x)
/-- .. and then no list but that of noughts is taken to noughts. -/
theorem Ga.inj {n : Nat} {A B : Nat → Nat → G} (h : Ga n 0 A true B) (y : Nat → G) (hy : ∀ i, i < n → rK n y (A i) = g0) : ∀ j, j < n → y j = g0 := by
  have h0 := (h.one (fun i => B i n)).2 (fun _ _ => rfl)
  have h1 := (h.one (fun i => B i n + y i)).1 (fun i hi => by
    have a := h0 i hi
    have c := hy i hi
    unfold rE at a ⊢
    unfold rK at c
    rw [show sm (fun j => A i j * (B j n + y j)) (List.range n) = sm (fun j => A i j * B j n + A i j * y j) (List.range n) from sm_congr (fun j _ => gmul_add _ _ _), sm_add, c, gadd_zero]
    exact a)
  intro j hj
  have := h1 j hj
  have e : B j n + (B j n + y j) = B j n + B j n := by rw [this]
  rw [gadd_cancel, gadd_self] at e
  exact e
/-- Two ways through one square and list come to the same. -/
theorem Ga.agree {n : Nat} {A B C : Nat → Nat → G} {a b : Bool} (h : Ga n 0 A a B) (k : Ga n 0 A b C) : a = b ∧ (a = true → ∀ i, i < n → B i n = C i n) := by
  cases a with
  | true =>
    cases b with
    | true => exact ⟨rfl, fun _ i hi => (k.one (fun i => B i n)).1 ((h.one (fun i => B i n)).2 (fun _ _ => rfl)) i hi⟩
    | false =>
      obtain ⟨y, ⟨j, hj, hn⟩, hy⟩ := (k.sol (un_zero n A)).2 rfl
      exact absurd (h.inj y hy j hj) hn
  | false =>
    cases b with
    | false => exact ⟨rfl, fun e => by cases e⟩
    | true =>
      obtain ⟨y, ⟨j, hj, hn⟩, hy⟩ := (h.sol (un_zero n A)).2 rfl
      exact absurd (k.inj y hy j hj) hn
/-- There is always a way. -/
theorem Ga.total (n : Nat) : ∀ d c (A : Nat → Nat → G), c + d = n → ∃ ok B, Ga n c A ok B
  | 0, c, A, h => by
    obtain rfl : c = n := by omega
    exact ⟨true, A, .done A⟩
  | d + 1, c, A, h => by
    by_cases q : ∃ at', c ≤ at' ∧ at' < n ∧ A at' c ≠ g0
    · obtain ⟨at', h1, h2, h3⟩ := q
      obtain ⟨ok, B, hB⟩ := Ga.total n d (c + 1) (gst c at' A) (by omega)
      exact ⟨ok, B, .step c at' A ok B (by omega) h1 h2 h3 hB⟩
    · refine ⟨false, A, .fail c A (by omega) (fun i h1 h2 => ?_)⟩
      exact Classical.byContradiction (fun r => q ⟨i, h1, h2, r⟩)
/-- A square that takes no list but noughts to noughts gives every list. -/
theorem inj_sur {n : Nat} {M : Nat → Nat → G} (h : ∀ y : Nat → G, (∀ i, i < n → rK n y (M i) = g0) → ∀ j, j < n → y j = g0) (b : Nat → G) : ∃ x : Nat → G, ∀ i, i < n → rK n x (M i) = b i := by
  obtain ⟨ok, B, hB⟩ := Ga.total n n 0 (fun i k => if k < n then M i k else b i) (by omega)
  have same : ∀ (x : Nat → G) i, rK n x (fun k => if k < n then M i k else b i) = rK n x (M i) := fun x i => by
    unfold rK
    exact sm_congr (fun j hj => by show (if j < n then M i j else b i) * x j = _; rw [if_pos (List.mem_range.1 hj)])
  cases ok with
  | false =>
    obtain ⟨y, ⟨j, hj, hn⟩, hy⟩ := (hB.sol (un_zero n _)).2 rfl
    exact absurd (h y (fun i hi => by rw [← same y i]; exact hy i hi) j hj) hn
  | true =>
    refine ⟨fun i => B i n, fun i hi => ?_⟩
    have := (hB.one (fun i => B i n)).2 (fun _ _ => rfl) i hi
    unfold rE at this
    have e : rK n (fun i => B i n) (fun k => if k < n then M i k else b i) = b i := by
      have q := gadd_eq_zero this
      refine Eq.trans q ?_
      show (if n < n then M i n else b i) = b i
      rw [if_neg (Nat.lt_irrefl n)]
    rw [same] at e
    exact e
/-- .. so no two of its rows are one. -/
theorem twin {n a b : Nat} {M : Nat → Nat → G} (ha : a < n) (hb : b < n) (hab : a ≠ b) (hM : ∀ j, j < n → M a j = M b j) : ∃ y : Nat → G, (∃ j, j < n ∧ y j ≠ g0) ∧ ∀ i, i < n → rK n y (M i) = g0 := by
  refine Classical.byContradiction (fun q => ?_)
  obtain ⟨x, hx⟩ := inj_sur (n := n) (M := M) (fun y hy j hj => Classical.byContradiction (fun r => q ⟨y, ⟨j, hj, r⟩, hy⟩)) (fun i => if i = a then g1 else g0)
  have h1 := hx a ha
  have h2 := hx b hb
  rw [if_pos rfl] at h1
  rw [if_neg (fun e => hab e.symm)] at h2
  have e : rK n x (M a) = rK n x (M b) := by
    unfold rK
    exact sm_congr (fun j hj => by rw [hM j (List.mem_range.1 hj)])
  rw [h1, h2] at e
  exact gone_ne e
end Go.Proofs.YtolblldpdgfkmaaDoor
