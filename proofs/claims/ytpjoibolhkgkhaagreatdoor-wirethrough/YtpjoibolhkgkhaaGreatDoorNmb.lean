import Derived.Test.YtpjoibolhkgkhaaGreatDoorBas
namespace Go.Proofs.YtpjoibolhkgkhaaGreatDoor
open Go.RowKit
/-- A number by so many bytes, the highest first. -/
def numB (v : Int) (size : Nat) : List Int := (List.range size).map (fun i => v / 2 ^ (8 * (size - 1 - i)) % 256)
theorem numB_len (v : Int) (size : Nat) : (numB v size).length = size := by simp [numB]
theorem numB_bytes (v : Int) (size : Nat) : Bytes (numB v size) := by
  intro j
  by_cases h : j < size
  · have : (numB v size).getD j 0 = v / 2 ^ (8 * (size - 1 - j)) % 256 := by simp [numB, h]
    rw [this]
    omega
  · have : (numB v size).getD j 0 = 0 := by simp [numB, h]
    rw [this]
    omega
theorem numB_take (v : Int) (size j : Nat) (h : j < size) : (numB v size).take (j + 1) = (numB v size).take j ++ [v / 2 ^ (8 * (size - 1 - j)) % 256] := by
  have hl : j < (numB v size).length := by rw [numB_len]; exact h
  rw [List.take_add_one, List.getElem?_eq_getElem hl]
  simp [numB]
theorem numB_all (v : Int) (size : Nat) : (numB v size).take size = numB v size := List.take_of_length_le (by rw [numB_len]; exact Nat.le_refl _)
/-- May a number stand in so many bytes? -/
def fitsP (n : Int) (k : Nat) : Prop := 0 ≤ n ∧ n / 2 ^ (8 * k) = 0
instance (n : Int) (k : Nat) : Decidable (fitsP n k) := inferInstanceAs (Decidable (_ ∧ _))
def errN (bytes : Int) (L : List Int) : Int := if bytes < 1 ∨ 8 < bytes then 1 else if ∀ n ∈ L, fitsP n bytes.toNat then 0 else 30
def outN (k : Nat) (L : List Int) : List Int := L.flatMap (fun n => numB n k)
theorem outN_len (k : Nat) (L : List Int) : (outN k L).length = k * L.length := by
  induction L with
  | nil => simp [outN]
  | cons x L ih => simp [outN, numB_len] at *; rw [ih]; grind
theorem outN_snoc (k : Nat) (L : List Int) (i : Nat) (hi : i < L.length) : outN k (L.take (i + 1)) = outN k (L.take i) ++ numB (L.getD i 0) k := by
  rw [List.take_add_one, List.getElem?_eq_getElem hi, List.getD_eq_getElem?_getD, List.getElem?_eq_getElem hi]
  show (L.take i ++ [L[i]]).flatMap _ = _
  rw [List.flatMap_append]
  simp [outN]
/-- Digits of base 128, the lowest first. -/
def digN (n : Nat) : List Int := if n < 128 then [(n : Int)] else ((n % 128 + 128 : Nat) : Int) :: digN (n / 128)
  termination_by n
  decreasing_by omega
theorem digN_small (n : Nat) (h : n < 128) : digN n = [(n : Int)] := by rw [digN, if_pos h]
theorem digN_big (n : Nat) (h : ¬ n < 128) : digN n = ((n % 128 + 128 : Nat) : Int) :: digN (n / 128) := by rw [digN, if_neg h]
theorem digN_len (k n : Nat) (h : n < 128 ^ (k + 1)) : 1 ≤ (digN n).length ∧ (digN n).length ≤ k + 1 := by
  induction k generalizing n with
  | zero => rw [digN_small n (by simpa using h)]; simp
  | succ k ih =>
    by_cases hn : n < 128
    · rw [digN_small n hn]; simp
    · rw [digN_big n hn]
      have := ih (n / 128) (by rw [Nat.div_lt_iff_lt_mul (by decide)]; rw [Nat.pow_succ] at h; exact h)
      simp
      omega
theorem digN_nine (n : Nat) (h : n ≤ 9223372036854775807) : 1 ≤ (digN n).length ∧ (digN n).length ≤ 9 := digN_len 8 n (by
  have : (128 : Nat) ^ (8 + 1) = 9223372036854775808 := by decide
  omega)
/-- The row and the first fault behind a call that lays 'out' down, or with which 'err' is wrong. -/
def wl (l : List Int) (e err : Int) (out : List Int) : List Int := if e = 0 then (if err = 0 then l ++ out else []) else l
def we (e err : Int) : Int := if e = 0 then err else e
theorem wl_ok (l : List Int) (e : Int) (out : List Int) : wl l e 0 out = if e = 0 then l ++ out else l := by simp [wl]
theorem wl_two (l : List Int) (e : Int) (o1 o2 : List Int) : wl (wl l e 0 o1) e 0 o2 = wl l e 0 (o1 ++ o2) := by
  by_cases h : e = 0 <;> simp [wl, h]
theorem wl_nil (l : List Int) (e : Int) : wl l e 0 [] = l := by simp [wl]
theorem wl_len (l : List Int) (e : Int) (out : List Int) : (wl l e 0 out).length ≤ l.length + out.length := by
  by_cases h : e = 0 <;> simp [wl, h]
theorem we_ok (e : Int) : we e 0 = e := by unfold we; split <;> omega
theorem wl_bad (l : List Int) (e err : Int) (o1 o2 : List Int) (h : err ≠ 0) : (if e = 0 then [] else wl l e 0 o1) = wl l e err o2 := by
  by_cases he : e = 0 <;> simp [wl, he, h]
end Go.Proofs.YtpjoibolhkgkhaaGreatDoor
