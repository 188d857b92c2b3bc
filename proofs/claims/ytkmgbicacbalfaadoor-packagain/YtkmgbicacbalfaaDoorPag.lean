import Derived.Test.YtkmgbicacbalfaaDoorRdt
import Derived.Test.YtkmgbicacbalfaaDoorWok
namespace Go.Proofs.YtkmgbicacbalfaaDoor
open Go.RowKit
theorem numB_snoc (n x : Int) (k : Nat) (h0 : 0 ≤ x) (h1 : x < 256) : numB (256 * n + x) (k + 1) = numB n k ++ [x] := by
  unfold numB
  rw [List.range_succ, List.map_append]
  congr 1
  · refine List.map_congr_left fun i hi => ?_
    have hik : i < k := List.mem_range.1 hi
    rw [show 8 * (k + 1 - 1 - i) = 8 + 8 * (k - 1 - i) by omega, Int.pow_add, ← Int.ediv_ediv_of_nonneg (by decide)]
    have : (256 * n + x) / 2 ^ 8 = n := by
      have e : (2 : Int) ^ 8 = 256 := by decide
      rw [e]
      omega
    rw [this]
  · simp
    omega
theorem numB_be (l : List Int) (hb : Bytes l) : ∀ k, k ≤ l.length → numB (beN (l.take k)) k = l.take k
  | 0, _ => by simp [numB]
  | k + 1, h => by
    rw [be_take l k (by omega), numB_snoc _ _ _ (hb k).1 (hb k).2, numB_be l hb k (by omega), List.take_add_one, List.getD_eq_getElem?_getD, List.getElem?_eq_getElem (by omega)]
    rfl
theorem dig_back : ∀ (f i n : Nat) (l : List Int) (V C : Nat), Bytes l → dgA f i n l = (0, V, C) → ∃ D, V = n + D * 128 ^ i ∧ i < C ∧ C - i ≤ l.length ∧ digN D = l.take (C - i) ∧ (0 < i → 0 < D)
  | 0, i, n, l, V, C, _, h => by cases h
  | f + 1, i, n, [], V, C, _, h => by cases h
  | f + 1, i, n, d :: l, V, C, hb, h => by
    have hd := hb 0
    simp at hd
    have hbl : Bytes l := fun j => by have := hb (j + 1); simpa using this
    rw [dgA] at h
    split at h
    · cases h
    · rename_i h1
      split at h
      · rename_i h2
        simp only [Prod.mk.injEq, true_and] at h
        obtain ⟨rfl, rfl⟩ := h
        refine ⟨d.toNat, rfl, by omega, by simp, ?_, fun hi => ?_⟩
        · rw [digN_small _ (by omega), show i + 1 - i = 1 by omega]
          simp
          omega
        · have : ¬ d = 0 := fun q => h1 ⟨q, hi⟩
          omega
      · rename_i h2
        obtain ⟨D, e1, e2, e3, e4, e5⟩ := dig_back f (i + 1) _ l V C hbl h
        have hD := e5 (by omega)
        refine ⟨(d.toNat - 128) + 128 * D, ?_, by omega, by simp; omega, ?_, fun _ => by omega⟩
        · rw [e1, Nat.pow_succ, Nat.add_mul, Nat.mul_comm 128 D, Nat.mul_assoc D 128, Nat.mul_comm 128 (128 ^ i)]
          omega
        · rw [digN_big _ (by omega), show C - i = (C - (i + 1)) + 1 by omega, List.take_succ_cons, ← e4]
          congr 1
          · omega
          · congr 1
            omega
theorem var_back (r : ByteArray) (h : varE r = 0) : digN (varV r) = (nums r).take (varC r) ∧ varC r ≤ r.size := by
  have hp : dgA 9 0 0 (nums r) = (0, (varP (nums r)).2.1, varC r) := by
    have : varP (nums r) = ((varP (nums r)).1, (varP (nums r)).2.1, (varP (nums r)).2.2) := rfl
    rw [show (varP (nums r)).1 = 0 from h] at this
    exact this
  obtain ⟨D, e1, e2, e3, e4, _⟩ := dig_back 9 0 0 _ _ _ (nums_bytes r) hp
  have hv : varV r = D := by rw [varV, if_pos h, e1]; simp
  rw [hv]
  rw [Nat.sub_zero] at e3 e4
  rw [nums_len] at e3
  exact ⟨e4, e3⟩
theorem dgA_max : ∀ (f i n : Nat) (l : List Int) (V C : Nat), Bytes l → n < 128 ^ i → dgA f i n l = (0, V, C) → V < 128 ^ (i + f)
  | 0, i, n, l, V, C, _, _, h => by cases h
  | f + 1, i, n, [], V, C, _, _, h => by cases h
  | f + 1, i, n, d :: l, V, C, hb, hn, h => by
    have hd := hb 0
    simp at hd
    have hbl : Bytes l := fun j => by have := hb (j + 1); simpa using this
    have hp : (128 : Nat) ^ (i + 1) = 128 ^ i * 128 := Nat.pow_succ ..
    rw [dgA] at h
    split at h
    · cases h
    · split at h
      · rename_i h2
        simp only [Prod.mk.injEq, true_and] at h
        obtain ⟨rfl, _⟩ := h
        have h3 : d.toNat * 128 ^ i ≤ 127 * 128 ^ i := Nat.mul_le_mul_right _ (by omega)
        have h4 : (128 : Nat) ^ (i + 1) ≤ 128 ^ (i + (f + 1)) := Nat.pow_le_pow_right (by decide) (by omega)
        omega
      · have h3 : (d.toNat - 128) * 128 ^ i ≤ 127 * 128 ^ i := Nat.mul_le_mul_right _ (by omega)
        have := dgA_max f (i + 1) _ l V C hbl (by omega) h
        rw [show i + (f + 1) = i + 1 + f by omega]
        exact this
theorem var_max (r : ByteArray) : varV r ≤ 9223372036854775807 := by
  unfold varV
  split
  · rename_i h
    have hp : dgA 9 0 0 (nums r) = (0, (varP (nums r)).2.1, (varP (nums r)).2.2) := by
      have : varP (nums r) = ((varP (nums r)).1, (varP (nums r)).2.1, (varP (nums r)).2.2) := rfl
      rw [show (varP (nums r)).1 = 0 from h] at this
      exact this
    have := dgA_max 9 0 0 _ _ _ (nums_bytes r) (by decide) hp
    have h9 : (128 : Nat) ^ (0 + 9) = 9223372036854775808 := by decide
    omega
  · omega
theorem dgA_33 : ∀ (f i n : Nat) (l : List Int), (dgA f i n l).1 ≠ 33
  | 0, _, _, _ => by simp [dgA]
  | f + 1, i, n, [] => by simp [dgA]
  | f + 1, i, n, d :: l => by
    rw [dgA]
    split
    · simp
    · split
      · simp
      · exact dgA_33 f _ _ l
theorem varE_33 (r : ByteArray) : varE r ≠ 33 := dgA_33 _ _ _ _
theorem numE_33 (x : Int) (r : ByteArray) : numE x r ≠ 33 := by
  unfold numE
  split
  · decide
  · split
    · decide
    · split <;> decide
theorem rawE_33 (x : Int) (r : ByteArray) : rawE x r ≠ 33 := by
  unfold rawE
  split
  · decide
  · split <;> decide
theorem textE_33 (x : Int) (r : ByteArray) : textE x r ≠ 33 := by
  unfold textE
  split
  · decide
  · split
    · exact varE_33 r
    · split
      · decide
      · split <;> decide
end Go.Proofs.YtkmgbicacbalfaaDoor
