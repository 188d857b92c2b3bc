import Derived.Test.YtolblldpdgfkmaaDoorGfc
namespace Go.Proofs.YtolblldpdgfkmaaDoor
theorem nodup_lt : ∀ (n : Nat) (l : List Nat), l.Nodup → (∀ x, x ∈ l → x < n) → l.length ≤ n
  | 0, l, _, h => by
    cases l with
    | nil => exact Nat.le_refl _
    | cons x l => exact absurd (h x (List.mem_cons_self ..)) (Nat.not_lt_zero x)
  | n + 1, l, hn, h => by
    by_cases q : n ∈ l
    · have h1 := nodup_lt n (l.erase n) (hn.erase n) (fun x hx => by
        have h2 := (hn.mem_erase_iff).1 hx
        have := h x h2.2
        omega)
      rw [List.length_erase_of_mem q] at h1
      omega
    · have h1 := nodup_lt n l hn (fun x hx => by
        have := h x hx
        have : x ≠ n := fun e => q (e ▸ hx)
        omega)
      omega
theorem sm_filter (f : Nat → G) (p : Nat → Bool) : ∀ (l : List Nat), (∀ i, i ∈ l → p i = false → f i = g0) → sm f l = sm f (l.filter p)
  | [], _ => rfl
  | i :: l, h => by
    have ih := sm_filter f p l (fun j hj => h j (List.mem_cons_of_mem _ hj))
    cases hp : p i with
    | true => rw [List.filter_cons_of_pos hp]; simp only [sm]; rw [ih]
    | false =>
      rw [List.filter_cons_of_neg (by rw [hp]; decide)]
      simp only [sm]
      rw [h i (List.mem_cons_self ..) hp, gzero_add, ih]
theorem part_len (p : Nat → Bool) : ∀ l : List Nat, (l.filter p).length + (l.filter (fun k => !p k)).length = l.length
  | [] => rfl
  | k :: l => by
    have ih := part_len p l
    cases h : p k with
    | true => rw [List.filter_cons_of_pos h, List.filter_cons_of_neg (by rw [h]; decide)]; simp only [List.length_cons]; omega
    | false => rw [List.filter_cons_of_neg (by rw [h]; decide), List.filter_cons_of_pos (by rw [h]; decide)]; simp only [List.length_cons]; omega
theorem v_zero {a : G} : a.v = 0 ↔ a = g0 := ⟨fun e => G.ext' e, fun e => by rw [e]; rfl⟩
/-- a number as an element -/
def gN (i : Nat) : G := ⟨i % 256, Nat.mod_lt _ (by decide)⟩
theorem gN_inj {i j : Nat} (hi : i < 256) (hj : j < 256) (h : gN i = gN j) : i = j := by
  have := congrArg G.v h
  simp only [gN] at this
  rw [Nat.mod_eq_of_lt hi, Nat.mod_eq_of_lt hj] at this
  exact this
/-- what the byte of the shard i is multiplied with in the shard k -/
def wt (n k i : Nat) : G := if k < n then (if k = i then g1 else g0) else (gN (16 + (k - n)) + gN i).inv
/-- Any n of the rows have all there is. -/
theorem rows_inj {n : Nat} (hn : n ≤ 16) (f : Nat → Nat) (hf : ∀ r, r < n → f r < n + 8) (hd : ∀ r s, r < n → s < n → f r = f s → r = s) (y : Nat → G) (hy : ∀ r, r < n → rK n y (wt n (f r)) = g0) : ∀ j, j < n → y j = g0 := by
  have nd : ((List.range n).map f).Nodup := by
    rw [List.Nodup, List.pairwise_map]
    refine List.Pairwise.imp_of_mem ?_ (List.nodup_range (n := n))
    intro a b ha hb hne e
    exact hne (hd a b (List.mem_range.1 ha) (List.mem_range.1 hb) e)
  obtain ⟨Fl, hFl⟩ : ∃ l, (List.range n).map f = l := ⟨_, rfl⟩
  rw [hFl] at nd
  have hlen : Fl.length = n := by rw [← hFl]; simp
  have hmem : ∀ k, k ∈ Fl → ∃ r, r < n ∧ f r = k := fun k hk => by
    rw [← hFl] at hk
    obtain ⟨r, h1, h2⟩ := List.mem_map.1 hk
    exact ⟨r, List.mem_range.1 h1, h2⟩
  -- a shard of data that is there
  have hD : ∀ i, i ∈ Fl → i < n → y i = g0 := fun i hi hin => by
    obtain ⟨r, hr, e⟩ := hmem i hi
    have := hy r hr
    rw [e] at this
    unfold rK at this
    rw [show sm (fun j => wt n i j * y j) (List.range n) = sm (fun j => if j = i then y i else g0) (List.range n) from sm_congr (fun j _ => by
      unfold wt
      rw [if_pos hin]
      by_cases q : i = j
      · rw [if_pos q, if_pos q.symm, gone_mul, q]
      · rw [if_neg q, if_neg (fun r => q r.symm), gzero_mul]), sm_one n i hin] at this
    exact this
  obtain ⟨Il, hIl⟩ : ∃ l, (List.range n).filter (fun i => decide ((y i).v ≠ 0)) = l := ⟨_, rfl⟩
  have hI : ∀ i, i ∈ Il ↔ i < n ∧ y i ≠ g0 := fun i => by
    rw [← hIl, List.mem_filter, List.mem_range, decide_eq_true_eq]
    exact ⟨fun q => ⟨q.1, fun e => q.2 (v_zero.2 e)⟩, fun q => ⟨q.1, fun e => q.2 (v_zero.1 e)⟩⟩
  have hIn : Il.Nodup := by rw [← hIl]; exact (List.nodup_range (n := n)).filter _
  obtain ⟨Dl, hDl⟩ : ∃ l, Fl.filter (fun k => decide (k < n)) = l := ⟨_, rfl⟩
  obtain ⟨Jl, hJl⟩ : ∃ l, Fl.filter (fun k => !decide (k < n)) = l := ⟨_, rfl⟩
  have hDJ : Dl.length + Jl.length = n := by
    rw [← hDl, ← hJl]
    exact (part_len (fun k => decide (k < n)) Fl).trans hlen
  have hID : Il.length + Dl.length ≤ n := by
    rw [← List.length_append]
    refine nodup_lt n _ ?_ (fun x hx => ?_)
    · rw [List.nodup_append]
      refine ⟨hIn, by rw [← hDl]; exact nd.filter _, fun a ha b hb e => ?_⟩
      rw [← hDl, List.mem_filter] at hb
      exact ((hI a).1 ha).2 (by rw [e]; exact hD b hb.1 (by simpa using hb.2))
    · rcases List.mem_append.1 hx with q | q
      · exact ((hI x).1 q).1
      · rw [← hDl, List.mem_filter] at q
        simpa using q.2
  have hJ : ∀ k, k ∈ Jl → k ∈ Fl ∧ n ≤ k ∧ k < n + 8 := fun k hk => by
    rw [← hJl, List.mem_filter] at hk
    obtain ⟨r, hr, e⟩ := hmem k hk.1
    have h1 := hf r hr
    have h2 : ¬ k < n := by simpa using hk.2
    exact ⟨hk.1, by omega, by omega⟩
  have hJn : Jl.Nodup := by rw [← hJl]; exact nd.filter _
  have hz := cauchy gN Il (Jl.map (fun k => gN (16 + (k - n)))) y (fun i j hi hj e => gN_inj (by have := ((hI i).1 hi).1; omega) (by have := ((hI j).1 hj).1; omega) e) hIn
    (by
      rw [List.Nodup, List.pairwise_map]
      refine List.Pairwise.imp_of_mem ?_ hJn
      intro a b ha hb hne e
      have h1 := hJ a ha
      have h2 := hJ b hb
      have := gN_inj (by omega) (by omega) e
      exact hne (by omega))
    (by rw [List.length_map]; omega)
    (fun x hx i hi e => by
      obtain ⟨k, hk, rfl⟩ := List.mem_map.1 hx
      have h1 := hJ k hk
      have h2 := ((hI i).1 hi).1
      have := gN_inj (by omega) (by omega) e
      omega)
    (fun x hx => by
      obtain ⟨k, hk, rfl⟩ := List.mem_map.1 hx
      obtain ⟨hkF, hkn, -⟩ := hJ k hk
      obtain ⟨r, hr, e⟩ := hmem k hkF
      have := hy r hr
      rw [e] at this
      unfold rK at this
      rw [sm_filter (fun j => wt n k j * y j) (fun i => decide ((y i).v ≠ 0)) (List.range n) (fun i _ hp => by
        have : y i = g0 := v_zero.1 (by simpa using hp)
        rw [this, gmul_zero]), hIl] at this
      rw [← this]
      refine sm_congr (fun i _ => ?_)
      unfold wt
      rw [if_neg (by omega), gmul_comm])
  intro j hj
  exact Classical.byContradiction (fun q => q (hz j ((hI j).2 ⟨hj, q⟩)))
/-- Two lists of data that say the same in n rows are one. -/
theorem rows_same {n : Nat} (hn : n ≤ 16) (f : Nat → Nat) (hf : ∀ r, r < n → f r < n + 8) (hd : ∀ r s, r < n → s < n → f r = f s → r = s) (x y : Nat → G) (h : ∀ r, r < n → rK n x (wt n (f r)) = rK n y (wt n (f r))) : ∀ j, j < n → x j = y j := by
  intro j hj
  refine gadd_eq_zero (rows_inj hn f hf hd (fun j => x j + y j) (fun r hr => ?_) j hj)
  have e : rK n (fun j => x j + y j) (wt n (f r)) = rK n x (wt n (f r)) + rK n y (wt n (f r)) := by
    unfold rK
    rw [← sm_add]
    exact sm_congr (fun j _ => gmul_add _ _ _)
  rw [e, h r hr, gadd_self]
end Go.Proofs.YtolblldpdgfkmaaDoor
