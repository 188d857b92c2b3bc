import Derived.Test.YtilhilglokblpaaDoorQpc
namespace Go.Proofs.YtilhilglokblpaaDoor
open Go.RowKit
set_option maxRecDepth 100000
/-- of the path of the i-th of n: does the other one stand on the right -/
def sd (n i : Nat) : List Bool :=
  if _h : n < 2 then []
  else if i < kk n then sd (kk n) i ++ [true] else sd (n - kk n) (i - kk n) ++ [false]
termination_by n
decreasing_by
  · have := kk_lt n (by omega); omega
  · have := kk_pos n; omega
theorem sd_one (n i : Nat) (h : n < 2) : sd n i = [] := by rw [sd, dif_pos h]
theorem sd_left (n i : Nat) (h : 2 ≤ n) (hi : i < kk n) : sd n i = sd (kk n) i ++ [true] := by rw [sd, dif_neg (by omega), if_pos hi]
theorem sd_right (n i : Nat) (h : 2 ≤ n) (hi : ¬ i < kk n) : sd n i = sd (n - kk n) (i - kk n) ++ [false] := by rw [sd, dif_neg (by omega), if_neg hi]
theorem sd_len : ∀ (n i : Nat), (sd n i).length ≤ n := by
  intro n
  induction n using Nat.strongRecOn with
  | _ n ih =>
  intro i
  by_cases h : n < 2
  · rw [sd_one n i h]; simp
  · have k1 := kk_pos n
    have k2 := kk_lt n (by omega)
    by_cases hk : i < kk n
    · have := ih (kk n) k2 i
      rw [sd_left n i (by omega) hk, List.length_append, List.length_singleton]
      omega
    · have := ih (n - kk n) (by omega) (i - kk n)
      rw [sd_right n i (by omega) hk, List.length_append, List.length_singleton]
      omega
/-- the next text -/
noncomputable def txN (r : Bool) (d p : ByteArray) : ByteArray := if r then mk1 ++ d ++ p else mk1 ++ p ++ d
/-- the first texts that are digested -/
noncomputable def tx (D : List Bool) (s : ByteArray) (P : List ByteArray) : Nat → List ByteArray
  | 0 => [mk0 ++ s]
  | k + 1 => tx D s P k ++ [txN (D.getD k false) (dg ((tx D s P k).getD k ⟨#[]⟩)) (P.getD k ⟨#[]⟩)]
theorem tx_len (D : List Bool) (s : ByteArray) (P : List ByteArray) : ∀ k, (tx D s P k).length = k + 1
  | 0 => rfl
  | k + 1 => by rw [tx, List.length_append, tx_len D s P k]; rfl
theorem getD_appL {α : Type} (L : List α) (x d : α) (k : Nat) (h : k < L.length) : (L ++ [x]).getD k d = L.getD k d := by
  rw [List.getD_eq_getElem?_getD, List.getD_eq_getElem?_getD, List.getElem?_append_left h]
theorem getD_appE {α : Type} (L : List α) (x d : α) (k : Nat) (h : k = L.length) : (L ++ [x]).getD k d = x := by
  subst h
  rw [List.getD_eq_getElem?_getD, List.getElem?_append_right (Nat.le_refl _)]
  simp
theorem tx_pre (D : List Bool) (r : Bool) (s : ByteArray) (Q : List ByteArray) (b : ByteArray) (hD : D.length = Q.length) : ∀ k, k ≤ Q.length → tx (D ++ [r]) s (Q ++ [b]) k = tx D s Q k
  | 0, _ => rfl
  | k + 1, h => by
    rw [tx, tx, tx_pre D r s Q b hD k (by omega), getD_appL D r false k (by omega), getD_appL Q b _ k (by omega)]
theorem tx_last (D : List Bool) (s : ByteArray) (P : List ByteArray) (k : Nat) : (tx D s P k).getLastD ⟨#[]⟩ = (tx D s P k).getD k ⟨#[]⟩ := by
  rw [List.getLastD_eq_getLast?, List.getLast?_eq_getElem?, List.getD_eq_getElem?_getD, tx_len]
  rfl
/-- so many elements of 32 bytes -/
def Fmd (P : List ByteArray) (n : Nat) : Prop := P.length = n ∧ ∀ j, j < P.length → (P.getD j ⟨#[]⟩).size = 32
theorem fmd_snoc (Q : List ByteArray) (b : ByteArray) (n : Nat) : Fmd (Q ++ [b]) (n + 1) ↔ Fmd Q n ∧ b.size = 32 := by
  constructor
  · rintro ⟨h1, h2⟩
    rw [List.length_append, List.length_singleton] at h1 h2
    refine ⟨⟨by omega, fun j hj => ?_⟩, ?_⟩
    · have := h2 j (by omega)
      rw [getD_appL Q b _ j hj] at this
      exact this
    · have := h2 Q.length (by omega)
      rw [getD_appE Q b _ _ rfl] at this
      exact this
  · rintro ⟨⟨h1, h2⟩, h3⟩
    refine ⟨by rw [List.length_append, h1]; rfl, fun j hj => ?_⟩
    rw [List.length_append, List.length_singleton] at hj
    by_cases e : j < Q.length
    · rw [getD_appL Q b _ j e]; exact h2 j e
    · rw [getD_appE Q b _ j (by omega)]; exact h3
theorem fmd_nil (n : Nat) : ¬ Fmd [] (n + 1) := fun h => by have := h.1; simp at this
/-- the document's way up is the program's -/
theorem up_tx : ∀ (n i : Nat) (s : ByteArray) (P : List ByteArray), (Fmd P (sd n i).length → up n i s P = some (tx (sd n i) s P P.length)) ∧ (¬ Fmd P (sd n i).length → up n i s P = none) := by
  intro n
  induction n using Nat.strongRecOn with
  | _ n ih =>
  intro i s P
  by_cases h : n < 2
  · rw [sd_one n i h]
    constructor
    · intro hf
      obtain rfl : P = [] := List.eq_nil_of_length_eq_zero hf.1
      exact up_one n i s h
    · intro hf
      refine up_one_no n i s P h (fun e => hf ?_)
      rw [e]
      exact ⟨rfl, fun j hj => absurd hj (by simp)⟩
  · have k1 := kk_pos n
    have k2 := kk_lt n (by omega)
    by_cases hP : P = []
    · subst hP
      have hl : ∃ m, (sd n i).length = m + 1 := by
        by_cases hk : i < kk n
        · exact ⟨_, by rw [sd_left n i (by omega) hk, List.length_append]; rfl⟩
        · exact ⟨_, by rw [sd_right n i (by omega) hk, List.length_append]; rfl⟩
      obtain ⟨m, hm⟩ := hl
      rw [hm]
      exact ⟨fun hf => absurd hf (fmd_nil m), fun _ => up_nil n i s (by omega)⟩
    · obtain ⟨Q, b, rfl⟩ := list_last P hP
      by_cases hk : i < kk n
      · obtain ⟨i1, i2⟩ := ih (kk n) k2 i s Q
        rw [sd_left n i (by omega) hk, List.length_append, List.length_singleton, fmd_snoc]
        constructor
        · rintro ⟨hf, hb⟩
          rw [up_left n i s Q b (by omega) hb hk, i1 hf, List.length_append, List.length_singleton, tx, tx_pre _ _ _ _ _ hf.1.symm _ (Nat.le_refl _), getD_appE _ _ _ _ hf.1, getD_appE Q b _ _ rfl]
          simp only [Option.map_some, tx_last]
          rfl
        · intro hf
          by_cases hb : b.size = 32
          · rw [up_left n i s Q b (by omega) hb hk, i2 (fun q => hf ⟨q, hb⟩)]
            rfl
          · exact up_bad n i s Q b (by omega) hb
      · obtain ⟨i1, i2⟩ := ih (n - kk n) (by omega) (i - kk n) s Q
        rw [sd_right n i (by omega) hk, List.length_append, List.length_singleton, fmd_snoc]
        constructor
        · rintro ⟨hf, hb⟩
          rw [up_right n i s Q b (by omega) hb hk, i1 hf, List.length_append, List.length_singleton, tx, tx_pre _ _ _ _ _ hf.1.symm _ (Nat.le_refl _), getD_appE _ _ _ _ hf.1, getD_appE Q b _ _ rfl]
          simp only [Option.map_some, tx_last]
          rfl
        · intro hf
          by_cases hb : b.size = 32
          · rw [up_right n i s Q b (by omega) hb hk, i2 (fun q => hf ⟨q, hb⟩)]
            rfl
          · exact up_bad n i s Q b (by omega) hb
theorem tx_sizes (D : List Bool) (s : ByteArray) (P : List ByteArray) (n : Nat) (hP : Fmd P n) : ∀ k, k ≤ n → ∀ t ∈ tx D s P k, t.size ≤ s.size + 66
  | 0, _, t, ht => by
    rw [tx, List.mem_singleton] at ht
    rw [ht, ByteArray.size_append, mk0_size]
    omega
  | k + 1, h, t, ht => by
    rw [tx] at ht
    rcases List.mem_append.1 ht with q | q
    · exact tx_sizes D s P n hP k (by omega) t q
    · rw [List.mem_singleton] at q
      have := hP.2 k (by rw [hP.1]; omega)
      rw [q, txN]
      split <;> simp only [ByteArray.size_append, mk1_size, dg_size, this] <;> omega
end Go.Proofs.YtilhilglokblpaaDoor
