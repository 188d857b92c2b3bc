import Derived.Test.YtbnefbncjnfjdaaDoorSnu
import Derived.Test.YtbnefbncjnfjdaaDoorMac
namespace Go.Proofs.YtbnefbncjnfjdaaDoor
open Go.RowKit
/-- A stream's piece number i. -/
def pieceP (key : List Int) (i : Nat) : List Int := sha (key ++ numB (i : Int) 8)
theorem pieceP_len (key : List Int) (i : Nat) : (pieceP key i).length = 32 := sha_len _
theorem pieceP_bytes (key : List Int) (i : Nat) : Bytes (pieceP key i) := sha_bytes _
def pieceB (key : ByteArray) (i : Nat) : ByteArray := strOfNums (pieceP (nums key) i)
theorem nums_pieceB (key : ByteArray) (i : Nat) : nums (pieceB key i) = pieceP (nums key) i := nums_strOfNums _ (pieceP_bytes _ _)
theorem pieceB_size (key : ByteArray) (i : Nat) : (pieceB key i).size = 32 := by rw [← nums_len, nums_pieceB, pieceP_len]
theorem nums_app (a b : ByteArray) : nums (a ++ b) = nums a ++ nums b := by simp [nums, ByteArray.data_append]
/-- A stream's byte number j; a part of a stream. -/
def sbyte (key : List Int) (j : Nat) : Int := (pieceP key (j / 32)).getD (j % 32) 0
def partP (key : List Int) (f n : Nat) : List Int := (List.range n).map (fun j => sbyte key (f + j))
theorem partP_len (key : List Int) (f n : Nat) : (partP key f n).length = n := by simp [partP]
theorem sbyte_byte (key : List Int) (j : Nat) : 0 ≤ sbyte key j ∧ sbyte key j < 256 := pieceP_bytes key (j / 32) (j % 32)
theorem partP_getD (key : List Int) (f n j : Nat) (h : j < n) : (partP key f n).getD j 0 = sbyte key (f + j) := by simp [partP, h]
theorem partP_bytes (key : List Int) (f n : Nat) : Bytes (partP key f n) := by
  intro j
  by_cases h : j < n
  · rw [partP_getD _ _ _ _ h]
    exact sbyte_byte _ _
  · have : (partP key f n).getD j 0 = 0 := by simp [partP, h]
    rw [this]
    omega
theorem partP_snoc (key : List Int) (f n : Nat) : partP key f (n + 1) = partP key f n ++ [sbyte key (f + n)] := by simp [partP, List.range_succ]
theorem partP_add (key : List Int) (f n m : Nat) : partP key f (n + m) = partP key f n ++ partP key (f + n) m := by
  induction m with
  | zero => simp [partP]
  | succ m ih => rw [← Nat.add_assoc, partP_snoc, ih, partP_snoc, List.append_assoc, Nat.add_assoc]
theorem partP_take (key : List Int) (f n m : Nat) (h : m ≤ n) : (partP key f n).take m = partP key f m := by
  obtain ⟨d, rfl⟩ : ∃ d, n = m + d := ⟨n - m, by omega⟩
  rw [partP_add, List.take_append_of_le_length (by rw [partP_len]; exact Nat.le_refl _), List.take_of_length_le (by rw [partP_len]; exact Nat.le_refl _)]
/-- Pieces, one behind the other. -/
def pieces (key : List Int) (l : List Nat) : List Int := l.flatMap (pieceP key)
theorem pieces_len (key : List Int) (l : List Nat) : (pieces key l).length = 32 * l.length := by
  induction l with
  | nil => rfl
  | cons x l ih => simp [pieces, pieceP_len] at *; omega
theorem pieces_snoc (key : List Int) (l : List Nat) (x : Nat) : pieces key (l ++ [x]) = pieces key l ++ pieceP key x := by simp [pieces]
theorem pieces_getD (key : List Int) (first : Nat) : ∀ (k j : Nat), j < 32 * k → (pieces key (List.range' first k)).getD j 0 = sbyte key (32 * first + j) := by
  intro k
  induction k generalizing first with
  | zero => intro j h; omega
  | succ k ih =>
    intro j h
    have e : pieces key (List.range' first (k + 1)) = pieceP key first ++ pieces key (List.range' (first + 1) k) := by simp [pieces, List.range'_succ]
    rw [e]
    by_cases hj : j < 32
    · rw [List.getD_eq_getElem?_getD, List.getElem?_append_left (by rw [pieceP_len]; exact hj), ← List.getD_eq_getElem?_getD, sbyte, show (32 * first + j) / 32 = first by omega, show (32 * first + j) % 32 = j by omega]
    · rw [List.getD_eq_getElem?_getD, List.getElem?_append_right (by rw [pieceP_len]; omega), ← List.getD_eq_getElem?_getD, pieceP_len, ih (first + 1) (j - 32) (by omega)]
      congr 1
      omega
/-- Out of a row of pieces: the part. -/
theorem Arr.cutPart {w : World} {b : Nat} {key : List Int} {f n k : Nat} (h : Arr w b 0 .u8 (pieces key (List.range' (f / 32) k))) (hk : f % 32 + n ≤ 32 * k) : Arr w b (f % 32) .u8 (partP key f n) := by
  intro j hj
  rw [partP_len] at hj
  have hl : f % 32 + j < (pieces key (List.range' (f / 32) k)).length := by rw [pieces_len, List.length_range']; omega
  have h1 := h.get (f % 32 + j) hl
  have h2 := h.free (f % 32 + j) hl
  rw [Nat.zero_add] at h1 h2
  rw [pieces_getD _ _ _ _ (by omega), show 32 * (f / 32) + (f % 32 + j) = f + j by omega] at h1
  rw [partP_getD _ _ _ _ hj]
  exact ⟨h1, h2⟩
/-- Texts laid on one another. -/
def laidP (a b : List Int) : List Int := (List.range a.length).map (fun j => bits .xor .u8 (a.getD j 0) (b.getD j 0))
theorem laidP_len (a b : List Int) : (laidP a b).length = a.length := by simp [laidP]
theorem laidP_getD (a b : List Int) (j : Nat) (h : j < a.length) : (laidP a b).getD j 0 = bits .xor .u8 (a.getD j 0) (b.getD j 0) := by simp [laidP, h]
theorem laidP_bytes (a b : List Int) : Bytes (laidP a b) := by
  intro j
  by_cases h : j < a.length
  · rw [laidP_getD _ _ _ h]
    exact bits_u8 .xor _ _
  · have : (laidP a b).getD j 0 = 0 := by simp [laidP, h]
    rw [this]
    omega
end Go.Proofs.YtbnefbncjnfjdaaDoor
