import Derived.Test.YtkmgbicacbalfabDoorNms
import Derived.Test.YtkmgbicacbalfabDoorRba
import Derived.Test.YtkmgbicacbalfabDoorRda
namespace Go.Proofs.YtkmgbicacbalfabDoor
open Go.RowKit
theorem be_numB : ∀ (k : Nat) (n : Int), 0 ≤ n → n / 2 ^ (8 * k) = 0 → beN (numB n k) = n
  | 0, n, h0, h => by
    have : n = 0 := by simpa using h
    subst this
    rfl
  | k + 1, n, h0, h => by
    have e : n = 256 * (n / 256) + n % 256 := by omega
    have hq : n / 256 / 2 ^ (8 * k) = 0 := by
      rw [show 8 * (k + 1) = 8 + 8 * k by omega, Int.pow_add, ← Int.ediv_ediv_of_nonneg (by decide)] at h
      exact h
    conv => lhs; rw [e]
    rw [numB_snoc _ _ _ (by omega) (by omega), beN_snoc, be_numB k (n / 256) (by omega) hq]
    omega
theorem dg_fwd : ∀ (f i m D : Nat) (rest : List Int), (digN D).length ≤ f → (0 < i → 0 < D) → dgA f i m (digN D ++ rest) = (0, m + D * 128 ^ i, i + (digN D).length)
  | 0, i, m, D, rest, h, _ => by
    by_cases hD : D < 128
    · rw [digN_small D hD] at h; simp at h
    · rw [digN_big D hD] at h; simp at h
  | f + 1, i, m, D, rest, h, hi => by
    by_cases hD : D < 128
    · rw [digN_small D hD]
      show dgA (f + 1) i m ((D : Int) :: rest) = _
      rw [dgA, if_neg (fun q => by have := hi q.2; omega), if_pos (by omega)]
      simp
    · rw [digN_big D hD] at h ⊢
      have ih := dg_fwd f (i + 1) (m + (D % 128) * 128 ^ i) (D / 128) rest (by simp at h; omega) (fun _ => by omega)
      show dgA (f + 1) i m (((D % 128 + 128 : Nat) : Int) :: (digN (D / 128) ++ rest)) = _
      rw [dgA, if_neg (fun q => by omega), if_neg (by omega)]
      have e1 : ((((D % 128 + 128 : Nat) : Int)).toNat - 128) = D % 128 := by omega
      rw [e1, ih]
      have e2 : m + D % 128 * 128 ^ i + D / 128 * 128 ^ (i + 1) = m + D * 128 ^ i := by
        have hD2 : D = D % 128 + 128 * (D / 128) := by omega
        rw [Nat.pow_succ]
        generalize 128 ^ i = P
        generalize D % 128 = R at *
        generalize D / 128 = Q at *
        subst hD2
        rw [Nat.add_mul, Nat.mul_comm P 128, ← Nat.mul_assoc, Nat.mul_comm Q 128, Nat.add_assoc]
      rw [e2]
      simp
      omega
theorem ext_right (a b : ByteArray) : (a ++ b).extract a.size (a ++ b).size = b := by
  apply nums_inj
  rw [nums_tail, nums_app, ← nums_len a, List.drop_left]
theorem ext_left (a b : ByteArray) : (a ++ b).extract 0 a.size = a := by
  apply nums_inj
  rw [nums_extract, nums_app, ← nums_len a, List.take_left, List.drop_zero]
theorem ext_mid (a b c : ByteArray) : (a ++ b ++ c).extract a.size (a ++ b).size = b := by
  apply nums_inj
  rw [nums_extract, nums_app, ← nums_len (a ++ b), List.take_left, nums_app, ← nums_len a, List.drop_left]
/-- What is left behind a call that took n. -/
theorem rd_num (n : Int) (k : Nat) (rest : List Int) (hb : Bytes (numB n k ++ rest)) (h1 : 1 ≤ k) (h8 : k ≤ 8) (hf : fitsP n k) (hn : n ≤ 9223372036854775807) :
    numE (k : Int) (strOfNums (numB n k ++ rest)) = 0 ∧ numV (k : Int) (strOfNums (numB n k ++ rest)) = n ∧ rRest (strOfNums (numB n k ++ rest)) 0 k = strOfNums rest := by
  have ht : (nums (strOfNums (numB n k ++ rest))).take ((k : Int).toNat) = numB n k := by
    rw [nums_strOfNums _ hb, Int.toNat_natCast]
    have := numB_len n k
    rw [List.take_append_of_le_length (by omega), List.take_of_length_le (by omega)]
  have hE : numE (k : Int) (strOfNums (numB n k ++ rest)) = 0 := by
    rw [numE, if_neg (by omega), if_neg (by rw [strOfNums_size, List.length_append, numB_len]; omega), ht, be_numB k n hf.1 hf.2, if_neg (by omega)]
  refine ⟨hE, by rw [numV, if_pos hE, ht, be_numB k n hf.1 hf.2], ?_⟩
  rw [rRest, if_pos rfl, strOfNums_app]
  have := ext_right (strOfNums (numB n k)) (strOfNums rest)
  rw [strOfNums_size, numB_len] at this
  exact this
theorem rd_var (D : Nat) (rest : List Int) (hb : Bytes (digN D ++ rest)) (hD : D ≤ 9223372036854775807) :
    varE (strOfNums (digN D ++ rest)) = 0 ∧ varV (strOfNums (digN D ++ rest)) = D ∧ varC (strOfNums (digN D ++ rest)) = (digN D).length ∧ rRest (strOfNums (digN D ++ rest)) 0 (digN D).length = strOfNums rest := by
  have hp : varP (nums (strOfNums (digN D ++ rest))) = (0, D, (digN D).length) := by
    rw [nums_strOfNums _ hb, varP, dg_fwd 9 0 0 D rest (digN_nine D hD).2 (fun q => by omega)]
    simp
  have hE : varE (strOfNums (digN D ++ rest)) = 0 := by rw [varE, hp]
  refine ⟨hE, by rw [varV, if_pos hE, hp], by rw [varC, hp], ?_⟩
  rw [rRest, if_pos rfl, strOfNums_app]
  have := ext_right (strOfNums (digN D)) (strOfNums rest)
  rw [strOfNums_size] at this
  exact this
theorem rd_raw (T : ByteArray) (rest : List Int) : rawE (T.size : Int) (strOfNums (nums T ++ rest)) = 0 ∧ rawV (T.size : Int) (strOfNums (nums T ++ rest)) = T ∧ rRest (strOfNums (nums T ++ rest)) 0 T.size = strOfNums rest := by
  rw [strOfNums_app, strOfNums_nums]
  have hE : rawE (T.size : Int) (T ++ strOfNums rest) = 0 := by rw [rawE, if_neg (by omega), if_neg (by rw [ByteArray.size_append]; omega)]
  refine ⟨hE, ?_, ?_⟩
  · rw [rawV, if_pos hE, Int.toNat_natCast]; exact ext_left _ _
  · rw [rRest, if_pos rfl]; exact ext_right _ _
theorem rd_text (T : ByteArray) (rest : List Int) (hb : Bytes ((digN T.size ++ nums T) ++ rest)) (hT : T.size ≤ 300) :
    textE 300 (strOfNums ((digN T.size ++ nums T) ++ rest)) = 0 ∧ textV 300 (strOfNums ((digN T.size ++ nums T) ++ rest)) = T ∧ rRest (strOfNums ((digN T.size ++ nums T) ++ rest)) 0 (varC (strOfNums ((digN T.size ++ nums T) ++ rest)) + varV (strOfNums ((digN T.size ++ nums T) ++ rest))) = strOfNums rest := by
  rw [List.append_assoc] at hb ⊢
  obtain ⟨h1, h2, h3, h4⟩ := rd_var T.size (nums T ++ rest) hb (by omega)
  have hE : textE 300 (strOfNums (digN T.size ++ (nums T ++ rest))) = 0 := by
    rw [textE, if_neg (by decide), if_neg (fun q => q h1), h2, if_neg (by omega), h3, if_neg (by rw [strOfNums_size, List.length_append, List.length_append, nums_len]; omega)]
  have hr : strOfNums (digN T.size ++ (nums T ++ rest)) = strOfNums (digN T.size) ++ T ++ strOfNums rest := by
    rw [strOfNums_app, strOfNums_app, strOfNums_nums, ByteArray.append_assoc]
  have hsz : (strOfNums (digN T.size) ++ T).size = (digN T.size).length + T.size := by rw [ByteArray.size_append, strOfNums_size]
  refine ⟨hE, ?_, ?_⟩
  · rw [textV, if_pos hE, h3, h2, hr, ← hsz, ← strOfNums_size (digN T.size)]
    exact ext_mid _ _ _
  · rw [h3, h2, hr, rRest, if_pos rfl, ← hsz]
    exact ext_right _ _
end Go.Proofs.YtkmgbicacbalfabDoor
