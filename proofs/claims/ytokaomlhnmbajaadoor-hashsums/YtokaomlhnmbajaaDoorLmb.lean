import Derived.Test.YtokaomlhnmbajaaDoorArr
namespace Go.Proofs.YtokaomlhnmbajaaDoor
open Go.RowKit
/-- A list of limbs as a number. -/
def lval : List Int → Int
  | [] => 0
  | x :: l => x + 65536 * lval l
def Limbs (l : List Int) : Prop := ∀ j, 0 ≤ l.getD j 0 ∧ l.getD j 0 < 65536
theorem pow_s (j : Nat) : (65536 : Int) ^ (j + 1) = 65536 ^ j * 65536 := Int.pow_succ _ _
theorem pow_a (i k : Nat) : (65536 : Int) ^ (i + k) = 65536 ^ i * 65536 ^ k := Int.pow_add _ _ _
theorem pow_p (j : Nat) : (0 : Int) < 65536 ^ j := Int.pow_pos (by decide)
theorem lval_set : ∀ (l : List Int) (j : Nat) (v : Int), j < l.length → lval (l.set j v) = lval l + (v - l.getD j 0) * 65536 ^ j
  | [], j, v, h => by simp at h
  | x :: l, 0, v, _ => by simp [lval]; omega
  | x :: l, j + 1, v, h => by
    have := lval_set l j v (by simpa using h)
    simp only [List.set_cons_succ, lval, this, List.getD_cons_succ, pow_s]
    generalize (65536 : Int) ^ j = P
    grind
theorem lval_take : ∀ (l : List Int) (k : Nat), k < l.length → lval (l.take (k + 1)) = lval (l.take k) + l.getD k 0 * 65536 ^ k
  | [], k, h => by simp at h
  | x :: l, 0, _ => by simp [lval]
  | x :: l, k + 1, h => by
    have := lval_take l k (by simpa using h)
    simp only [List.take_succ_cons, lval, this, List.getD_cons_succ, pow_s]
    generalize (65536 : Int) ^ k = P
    grind
theorem lval_app : ∀ (l m : List Int), lval (l ++ m) = lval l + 65536 ^ l.length * lval m
  | [], m => by simp [lval]
  | x :: l, m => by
    have := lval_app l m
    simp only [List.cons_append, lval, this, List.length_cons, pow_s]
    generalize (65536 : Int) ^ l.length = P
    grind
theorem lval_zeros : ∀ n : Nat, lval (List.replicate n 0) = 0
  | 0 => rfl
  | n + 1 => by simp [List.replicate_succ, lval, lval_zeros n]
theorem limbs_tail {x : Int} {l : List Int} (h : Limbs (x :: l)) : Limbs l := fun j => by simpa using h (j + 1)
theorem lval_nonneg : ∀ (l : List Int), (∀ j, 0 ≤ l.getD j 0) → 0 ≤ lval l
  | [], _ => by simp [lval]
  | x :: l, h => by
    have h0 := h 0
    have := lval_nonneg l (fun j => by simpa using h (j + 1))
    simp at h0
    simp only [lval]
    omega
theorem lval_lt : ∀ (l : List Int), Limbs l → lval l < 65536 ^ l.length
  | [], _ => by simp [lval]
  | x :: l, h => by
    have h0 := h 0
    have := lval_lt l (limbs_tail h)
    simp at h0
    simp only [lval, List.length_cons, pow_s]
    omega
theorem limbs_take {l : List Int} (h : Limbs l) (k : Nat) : Limbs (l.take k) := fun j => by
  simp only [List.getD_eq_getElem?_getD, List.getElem?_take]
  split
  · have := h j; rwa [List.getD_eq_getElem?_getD] at this
  · simp
theorem lval_eq : ∀ (l m : List Int), (∀ j, l.getD j 0 = m.getD j 0) → lval l = lval m
  | [], [], _ => rfl
  | [], y :: m, h => by
    have h0 := h 0
    have := lval_eq [] m (fun j => by simpa using h (j + 1))
    simp at h0
    simp only [lval] at this ⊢
    omega
  | x :: l, [], h => by
    have h0 := h 0
    have := lval_eq l [] (fun j => by simpa using h (j + 1))
    simp at h0
    simp only [lval] at this ⊢
    omega
  | x :: l, y :: m, h => by
    have h0 := h 0
    have := lval_eq l m (fun j => by simpa using h (j + 1))
    simp at h0
    simp only [lval, this, h0]
theorem lval_gt : ∀ (l m : List Int) (i : Nat), Limbs l → Limbs m → (∀ j, i < j → l.getD j 0 = m.getD j 0) → m.getD i 0 < l.getD i 0 → lval m < lval l
  | [], m, i, _, hm, _, hg => by have := hm i; simp at hg; simp at this; omega
  | x :: l, [], 0, hl, _, he, hg => by
    have := lval_eq l [] (fun j => by simpa using he (j + 1) (by omega))
    simp at hg
    simp only [lval] at this ⊢
    omega
  | x :: l, [], i + 1, hl, hm, he, hg => by
    have h0 := hl 0
    have := lval_gt l [] i (limbs_tail hl) hm (fun j hj => by simpa using he (j + 1) (by omega)) (by simpa using hg)
    simp at h0
    simp only [lval] at this ⊢
    omega
  | x :: l, y :: m, 0, hl, hm, he, hg => by
    have := lval_eq l m (fun j => by simpa using he (j + 1) (by omega))
    simp at hg
    simp only [lval, this]
    omega
  | x :: l, y :: m, i + 1, hl, hm, he, hg => by
    have h0 := hl 0
    have h1 := hm 0
    have := lval_gt l m i (limbs_tail hl) (limbs_tail hm) (fun j hj => by simpa using he (j + 1) (by omega)) (by simpa using hg)
    simp at h0 h1
    simp only [lval]
    omega
/-- The last limb is small where the number is. -/
theorem lval_last (l : List Int) (n : Nat) (hn : l.length = n + 1) (h : ∀ j, 0 ≤ l.getD j 0) (hv : lval l < 65536 ^ (n + 1)) : l.getD n 0 < 65536 := by
  have h1 := lval_take l n (by omega)
  rw [List.take_of_length_le (by omega)] at h1
  have h2 : 0 ≤ lval (l.take n) := lval_nonneg _ fun j => by
    simp only [List.getD_eq_getElem?_getD, List.getElem?_take]
    split
    · have := h j; rwa [List.getD_eq_getElem?_getD] at this
    · simp
  rw [pow_s] at hv
  have hp := pow_p n
  generalize l.getD n 0 = x at *
  generalize (65536 : Int) ^ n = P at *
  rcases Int.lt_or_le x 65536 with h | h
  · exact h
  · have := Int.mul_le_mul_of_nonneg_right h (Int.le_of_lt hp)
    have e : (65536 : Int) * P = P * 65536 := Int.mul_comm _ _
    omega
theorem getD_set' (l : List Int) (i j : Nat) (v : Int) (hi : i < l.length) : (l.set i v).getD j 0 = if i = j then v else l.getD j 0 := by
  rw [List.getD_eq_getElem?_getD, List.getElem?_set, if_pos hi]
  split <;> simp
def limbsOf (n : Int) : List Int := [n % 65536, n / 65536 % 65536, n / 65536 / 65536 % 65536, n / 65536 / 65536 / 65536 % 65536]
theorem limbsOf_ok (n : Int) : Limbs (limbsOf n) := by
  intro j
  rcases (show j = 0 ∨ j = 1 ∨ j = 2 ∨ j = 3 ∨ 4 ≤ j by omega) with rfl | rfl | rfl | rfl | h
  · simp [limbsOf]; omega
  · simp [limbsOf]; omega
  · simp [limbsOf]; omega
  · simp [limbsOf]; omega
  · rw [List.getD_eq_getElem?_getD, List.getElem?_eq_none (by simpa [limbsOf] using h)]; simp
theorem limbsOf_val (n : Int) (h0 : 0 ≤ n) (h1 : n < 18446744073709551616) : lval (limbsOf n) = n := by
  simp only [limbsOf, lval]
  omega
end Go.Proofs.YtokaomlhnmbajaaDoor
