import Derived.Test.YtnfdedolgfcmfaaGreatDoorMrc19
namespace Go.Proofs.YtnfdedolgfcmfaaGreatDoor
open Go.RowKit
set_option maxRecDepth 100000
theorem be_numBK : ∀ (k : Nat) (n : Int), 0 ≤ n → n / 2 ^ (8 * k) = 0 → beN (numB n k) = n
  | 0, n, h0, h => by
    have : n = 0 := by simpa using h
    subst this
    rfl
  | k + 1, n, h0, h => by
    have e : n = 256 * (n / 256) + n % 256 := by omega
    have hx : 0 ≤ n % 256 ∧ n % 256 < 256 := by omega
    rw [e, numB_snoc _ _ _ hx.1 hx.2, beN_snoc, be_numBK k (n / 256) (by omega) ?_]
    rw [Int.ediv_ediv_of_nonneg (by decide)]
    rw [show 8 * (k + 1) = 8 + 8 * k by omega, Int.pow_add] at h
    exact h
theorem be_n1 (n : Nat) (h : n < 256) : beN (numB (n : Int) 1) = (n : Int) := by
  refine be_numBK 1 _ (by omega) ?_
  rw [show ((2 : Int) ^ (8 * 1)) = 256 by decide]
  exact Int.ediv_eq_zero_of_lt (by omega) (by omega)
theorem be_n2 (n : Nat) (h : n < 65536) : beN (numB (n : Int) 2) = (n : Int) := by
  refine be_numBK 2 _ (by omega) ?_
  rw [show ((2 : Int) ^ (8 * 2)) = 65536 by decide]
  exact Int.ediv_eq_zero_of_lt (by omega) (by omega)
theorem be_n4 (n : Nat) (h : n < 4294967296) : beN (numB (n : Int) 4) = (n : Int) := by
  refine be_numBK 4 _ (by omega) ?_
  rw [show ((2 : Int) ^ (8 * 4)) = 4294967296 by decide]
  exact Int.ediv_eq_zero_of_lt (by omega) (by omega)
theorem cd_front (x : ByteArray) : (cdR x).extract 0 ((cdR x).size - 4) = x := by
  apply nums_inj
  rw [nums_extract, cdR_size, Nat.add_sub_cancel, cdR, nums_app, List.take_left' (nums_len x), List.drop_zero]
theorem cd_back (x : ByteArray) : (cdR x).extract ((cdR x).size - 4) (cdR x).size = ckR x := by
  apply nums_inj
  rw [nums_tail, cdR_size, Nat.add_sub_cancel, cdR, nums_app, List.drop_left' (nums_len x)]
theorem cd_ok (x : ByteArray) : okR (cdR x) = true := by
  unfold okR
  rw [cd_front, cd_back]
  exact decide_eq_true rfl
theorem ext_getD {α : Type} {l m : List α} (d : α) (h : l.length = m.length) (h2 : ∀ j, j < l.length → l.getD j d = m.getD j d) : l = m := by
  refine List.ext_getElem h (fun j h3 h4 => ?_)
  have := h2 j h3
  rwa [List.getD_eq_getElem?_getD, List.getD_eq_getElem?_getD, List.getElem?_eq_getElem h3, List.getElem?_eq_getElem h4] at this
theorem getD_left {α : Type} (L M : List α) (j : Nat) (d : α) (h : j < L.length) : (L ++ M).getD j d = L.getD j d := by
  rw [List.getD_eq_getElem?_getD, List.getD_eq_getElem?_getD, List.getElem?_append_left h]
theorem bytes_app {a b : List Int} (ha : Bytes a) (hb : Bytes b) : Bytes (a ++ b) := fun j => by
  by_cases h : j < a.length
  · rw [getD_left _ _ _ _ h]
    exact ha j
  · rw [List.getD_eq_getElem?_getD, List.getElem?_append_right (by omega), ← List.getD_eq_getElem?_getD]
    exact hb _
theorem bytes_nil : Bytes [] := fun j => by simp
theorem bytes_two (x y : Int) (hx : 0 ≤ x ∧ x < 256) (hy : 0 ≤ y ∧ y < 256) : Bytes [x, y] := fun j => by
  match j with
  | 0 => exact hx
  | 1 => exact hy
  | j + 2 => simp
theorem scL_bytes (L : List (Nat × ByteArray)) : ∀ j, Bytes (scL L j)
  | 0 => bytes_nil
  | j + 1 => bytes_app (scL_bytes L j) (bytes_app (numB_bytes _ _) (nums_bytes _))
theorem scL_full (L : List (Nat × ByteArray)) (h : ∀ j, j < L.length → (L.getD j (0, ⟨#[]⟩)).2.size = 256) : ∀ j, j ≤ L.length → (scL L j).length = 258 * j
  | 0, _ => rfl
  | j + 1, hj => by
    have h1 := scL_full L h j (by omega)
    have h2 := h j (by omega)
    rw [scL, List.length_append, List.length_append, numB_len, nums_len, h1, h2]
    omega
theorem scL_split (L : List (Nat × ByteArray)) (h : ∀ j, j < L.length → (L.getD j (0, ⟨#[]⟩)).2.size = 256) (j : Nat) : ∀ n, n ≤ L.length → j < n → (scL L n).drop (258 * j) = numB ((L.getD j (0, ⟨#[]⟩)).1 : Int) 2 ++ (nums (L.getD j (0, ⟨#[]⟩)).2 ++ (scL L n).drop (258 * (j + 1)))
  | 0, _, hj => by omega
  | n + 1, hn, hj => by
    have hl := scL_full L h n (by omega)
    have h2 := h n (by omega)
    rw [scL]
    by_cases e : j < n
    · rw [List.drop_append_of_le_length (by rw [hl]; omega), List.drop_append_of_le_length (by rw [hl]; omega), scL_split L h j n (by omega) e]
      simp only [List.append_assoc]
    · have e : j = n := by omega
      subst e
      rw [List.drop_left' hl, List.drop_eq_nil_of_le (by rw [List.length_append, List.length_append, numB_len, nums_len, hl, h2]; omega), List.append_nil]
theorem frS_nums (y : ByteArray) : ∀ j, nums (frS y j) = (nums y).drop (258 * j)
  | 0 => by rw [frS, Nat.mul_zero, List.drop_zero]
  | j + 1 => by
    rw [frS, nums_tail, nums_tail, frS_nums y j, List.drop_drop, List.drop_drop]
    congr 1
theorem beT_front {x : ByteArray} {n : Nat} {v : Nat} {a b : List Int} (hx : nums x = a ++ b) (ha : a.length = n) (hv : beN a = (v : Int)) : beT x n = v := by
  unfold beT
  rw [hx, List.take_left' ha, hv]
  omega
theorem frW_back {y : ByteArray} {L : List (Nat × ByteArray)} {n : Nat} (hn : L.length = n) (hy : nums y = scL L n) (hL1 : ∀ j, j < L.length → (L.getD j (0, ⟨#[]⟩)).1 < 65536) (hL2 : ∀ j, j < L.length → (L.getD j (0, ⟨#[]⟩)).2.size = 256) : frW y n = L := by
  refine ext_getD (0, ⟨#[]⟩) (by rw [frW_len, hn]) (fun j hj => ?_)
  rw [frW_len] at hj
  rw [frW_at _ _ _ hj]
  have h1 : nums (frS y j) = numB ((L.getD j (0, ⟨#[]⟩)).1 : Int) 2 ++ (nums (L.getD j (0, ⟨#[]⟩)).2 ++ (scL L n).drop (258 * (j + 1))) := by
    rw [frS_nums, hy, scL_split L hL2 j n (by omega) hj]
  unfold scE
  refine Prod.ext ?_ ?_
  · exact beT_front h1 (numB_len _ _) (be_n2 _ (hL1 j (by omega)))
  · apply nums_inj
    show nums (((frS y j).extract 2 (frS y j).size).extract 0 256) = _
    rw [nums_extract, nums_tail, h1, List.drop_left' (numB_len _ _), List.take_left' (by rw [nums_len]; exact hL2 j (by omega)), List.drop_zero]
/-- a frame's bytes, taken apart -/
theorem fmB_parts (k z f t : Nat) (r : ByteArray) (L : List (Nat × ByteArray)) (hk : k < 256) (hz : z < 65536) (hf : f < 4294967296) (ht : t < 4294967296) (hr : r.size = 32) (hn : L.length < 65536) (hL1 : ∀ j, j < L.length → (L.getD j (0, ⟨#[]⟩)).1 < 65536) (hL2 : ∀ j, j < L.length → (L.getD j (0, ⟨#[]⟩)).2.size = 256) :
    okR (fmB k z f t r L) = true ∧ (fmB k z f t r L).size = 51 + L.length * 258 ∧ frL (fmB k z f t r L) = ⟨#[82, 70]⟩ ∧ frK (fmB k z f t r L) = k ∧ frZ (fmB k z f t r L) = z ∧ frF (fmB k z f t r L) = f ∧ frT (fmB k z f t r L) = t ∧ frR (fmB k z f t r L) = r ∧ frN (fmB k z f t r L) = L.length ∧ frW (fq7 (fmB k z f t r L)) L.length = L := by
  obtain ⟨n, hn9⟩ : ∃ q, L.length = q := ⟨_, rfl⟩
  have hs : fmB k z f t r L = cdR (strOfNums (fmL k z f t r L.length ++ scL L L.length)) := rfl
  obtain ⟨s, hse⟩ : ∃ q, fmB k z f t r L = q := ⟨_, rfl⟩
  rw [hse] at hs ⊢
  have hP : fmL k z f t r L.length ++ scL L L.length = [82, 70] ++ (numB (k : Int) 1 ++ (numB (z : Int) 2 ++ (numB (f : Int) 4 ++ (numB (t : Int) 4 ++ (nums r ++ (numB (n : Int) 2 ++ scL L n)))))) := by
    rw [fmL, hn9]
    simp only [List.append_assoc]
  have hl := scL_full L hL2 L.length (Nat.le_refl _)
  have hB : Bytes (fmL k z f t r L.length ++ scL L L.length) := by
    rw [hP]
    refine bytes_app (bytes_two 82 70 (by decide) (by decide)) (bytes_app (numB_bytes _ _) (bytes_app (numB_bytes _ _) (bytes_app (numB_bytes _ _) (bytes_app (numB_bytes _ _) (bytes_app (nums_bytes _) (bytes_app (numB_bytes _ _) (scL_bytes _ _)))))))
  obtain ⟨P, hPe⟩ : ∃ q, fmL k z f t r L.length ++ scL L L.length = q := ⟨_, rfl⟩
  have hPl : P.length = 47 + 258 * n := by
    rw [← hPe, List.length_append, fmL_len, hl, hr, hn9]
  rw [hPe] at hs hP hB
  obtain ⟨x, hxe⟩ : ∃ q, strOfNums P = q := ⟨_, rfl⟩
  have hx : nums x = P := by rw [← hxe]; exact nums_strOfNums P hB
  have hxs : x.size = 47 + 258 * n := by rw [← nums_len, hx, hPl]
  rw [hxe] at hs
  have q0 : fq0 s = x := by rw [fq0, hs]; exact cd_front x
  have q1 : fq1 s = x.extract 2 x.size := by rw [fq1, q0]
  have q2 : fq2 s = x.extract 3 x.size := by rw [fq2, q1, extract_tail]
  have q3 : fq3 s = x.extract 5 x.size := by rw [fq3, q2, extract_tail]
  have q4 : fq4 s = x.extract 9 x.size := by rw [fq4, q3, extract_tail]
  have q5 : fq5 s = x.extract 13 x.size := by rw [fq5, q4, extract_tail]
  have q6 : fq6 s = x.extract 45 x.size := by rw [fq6, q5, extract_tail]
  have q7 : fq7 s = x.extract 47 x.size := by rw [fq7, q6, extract_tail]
  have d2 : P.drop 2 = numB (k : Int) 1 ++ (numB (z : Int) 2 ++ (numB (f : Int) 4 ++ (numB (t : Int) 4 ++ (nums r ++ (numB (n : Int) 2 ++ scL L n))))) := by rw [hP]; rfl
  have d3 : P.drop 3 = numB (z : Int) 2 ++ (numB (f : Int) 4 ++ (numB (t : Int) 4 ++ (nums r ++ (numB (n : Int) 2 ++ scL L n)))) := by
    rw [show 3 = 2 + 1 from rfl, ← List.drop_drop, d2, List.drop_left' (numB_len _ _)]
  have d5 : P.drop 5 = numB (f : Int) 4 ++ (numB (t : Int) 4 ++ (nums r ++ (numB (n : Int) 2 ++ scL L n))) := by
    rw [show 5 = 3 + 2 from rfl, ← List.drop_drop, d3, List.drop_left' (numB_len _ _)]
  have d9 : P.drop 9 = numB (t : Int) 4 ++ (nums r ++ (numB (n : Int) 2 ++ scL L n)) := by
    rw [show 9 = 5 + 4 from rfl, ← List.drop_drop, d5, List.drop_left' (numB_len _ _)]
  have d13 : P.drop 13 = nums r ++ (numB (n : Int) 2 ++ scL L n) := by
    rw [show 13 = 9 + 4 from rfl, ← List.drop_drop, d9, List.drop_left' (numB_len _ _)]
  have d45 : P.drop 45 = numB (n : Int) 2 ++ scL L n := by
    rw [show 45 = 13 + 32 from rfl, ← List.drop_drop, d13, List.drop_left' (by rw [nums_len, hr])]
  have d47 : P.drop 47 = scL L n := by
    rw [show 47 = 45 + 2 from rfl, ← List.drop_drop, d45, List.drop_left' (numB_len _ _)]
  have n1 : nums (fq1 s) = P.drop 2 := by rw [q1, nums_tail, hx]
  have n2 : nums (fq2 s) = P.drop 3 := by rw [q2, nums_tail, hx]
  have n3 : nums (fq3 s) = P.drop 5 := by rw [q3, nums_tail, hx]
  have n4 : nums (fq4 s) = P.drop 9 := by rw [q4, nums_tail, hx]
  have n5 : nums (fq5 s) = P.drop 13 := by rw [q5, nums_tail, hx]
  have n6 : nums (fq6 s) = P.drop 45 := by rw [q6, nums_tail, hx]
  have n7 : nums (fq7 s) = P.drop 47 := by rw [q7, nums_tail, hx]
  rw [hn9]
  refine ⟨by rw [hs]; exact cd_ok x, by rw [hs, cdR_size, hxs]; omega, ?_, ?_, ?_, ?_, ?_, ?_, ?_, ?_⟩
  · apply nums_inj
    rw [frL, q0, nums_extract, hx, hP]
    rfl
  · exact beT_front (n1.trans d2) (numB_len _ _) (be_n1 k hk)
  · exact beT_front (n2.trans d3) (numB_len _ _) (be_n2 z hz)
  · exact beT_front (n3.trans d5) (numB_len _ _) (be_n4 f hf)
  · exact beT_front (n4.trans d9) (numB_len _ _) (be_n4 t ht)
  · apply nums_inj
    rw [frR, nums_extract, n5, d13, List.take_left' (by rw [nums_len, hr]), List.drop_zero]
  · exact beT_front (n6.trans d45) (numB_len _ _) (be_n2 n (by omega))
  · exact frW_back hn9 (n7.trans d47) hL1 hL2
/-- what a frame is that may be -/
theorem fmB_ok (k z f t : Nat) (r : ByteArray) (L : List (Nat × ByteArray)) (hr : r.size = 32) (hn : L.length ≤ 1024) (hL2 : ∀ j, j < L.length → (L.getD j (0, ⟨#[]⟩)).2.size = 256) (hm : mbB k z (f : Int) (t : Int) L = true) :
    frOk (fmB k z f t r L) ∧ frK (fmB k z f t r L) = k ∧ frZ (fmB k z f t r L) = z ∧ frF (fmB k z f t r L) = f ∧ frT (fmB k z f t r L) = t ∧ frR (fmB k z f t r L) = r ∧ frN (fmB k z f t r L) = L.length ∧ frW (fq7 (fmB k z f t r L)) L.length = L := by
  have hm2 := hm
  unfold mbB at hm2
  rw [Bool.and_eq_true, Bool.and_eq_true, decide_eq_true_iff] at hm2
  obtain ⟨hz, hl, ht⟩ := hm2
  unfold leadB at hl
  rw [decide_eq_true_iff] at hl
  obtain ⟨l1, l2, l3⟩ := hl
  have hL1 : ∀ j, j < L.length → (L.getD j (0, ⟨#[]⟩)).1 < 65536 := fun j hj => by
    have := tlB_le L.length ht j hj
    omega
  obtain ⟨p1, p2, p3, p4, p5, p6, p7, p8, p9, p10⟩ := fmB_parts k z f t r L (by omega) (by omega) (by omega) (by omega) hr (by omega) hL1 hL2
  refine ⟨⟨by omega, by omega, p1, p3, by rw [p9]; exact p2, ?_⟩, p4, p5, p6, p7, p8, p9, p10⟩
  rw [p4, p5, p6, p7, p9, p10]
  exact hm
theorem tlN_pre (L M : List (Nat × ByteArray)) (j : Nat) (h : j ≤ L.length) : tlN (L ++ M) j = tlN L j := by
  cases j with
  | zero => rfl
  | succ j => rw [tlN, tlN, getD_left _ _ _ _ (by omega)]
theorem tlB_pre (k z : Int) (L M : List (Nat × ByteArray)) : ∀ j, j ≤ L.length → tlB k z (L ++ M) j = tlB k z L j
  | 0, _ => rfl
  | j + 1, h => by
    rw [tlB, tlB, tlB_pre k z L M j (by omega), tlN_pre L M j (by omega), getD_left _ _ _ _ (by omega)]
theorem lyL_pre (a : List ByteArray) (L M : List (Nat × ByteArray)) : ∀ j, j ≤ L.length → lyL a (L ++ M) j = lyL a L j
  | 0, _ => rfl
  | j + 1, h => by
    rw [lyL, lyL, lyL_pre a L M j (by omega), getD_left _ _ _ _ (by omega)]
theorem getD_end {α : Type} (L : List α) (e d : α) : (L ++ [e]).getD L.length d = e := by
  rw [List.getD_eq_getElem?_getD, List.getElem?_append_right (Nat.le_refl _), Nat.sub_self]
  rfl
theorem tlB_ot (k : Int) (z : Nat) (a l : List ByteArray) (hk : k = 1 → ∀ j, a.getD j ⟨#[]⟩ = zR 256 ∨ l.length ≤ j) : ∀ q, q ≤ l.length → q ≤ z → tlB k (z : Int) (otU a l q) (otU a l q).length = true ∧ tlN (otU a l q) (otU a l q).length ≤ q
  | 0, _, _ => ⟨rfl, Nat.le_refl _⟩
  | q + 1, hq, hz => by
    obtain ⟨h1, h2⟩ := tlB_ot k z a l hk q (by omega) (by omega)
    by_cases e : l.getD q ⟨#[]⟩ = a.getD q ⟨#[]⟩
    · rw [otU_same e]
      exact ⟨h1, by omega⟩
    · rw [otU_else e, List.length_append, List.length_singleton]
      refine ⟨?_, ?_⟩
      · rw [tlB, tlB_pre _ _ _ _ _ (Nat.le_refl _), tlN_pre _ _ _ (Nat.le_refl _), h1, getD_end, Bool.true_and, decide_eq_true_iff]
        refine ⟨h2, by omega, fun hb => ?_⟩
        rcases hk hb.1 q with h3 | h3
        · exact e (hb.2.trans h3.symm)
        · omega
      · rw [tlN, getD_end]
        exact Nat.le_refl _
theorem lyL_ot (a l : List ByteArray) (ha : a.length = l.length) : ∀ q, q ≤ l.length → ∀ j, (lyL a (otU a l q) (otU a l q).length).getD j ⟨#[]⟩ = if j < q then l.getD j ⟨#[]⟩ else a.getD j ⟨#[]⟩
  | 0, _, j => by rw [if_neg (by omega)]; rfl
  | q + 1, hq, j => by
    have h1 := lyL_ot a l ha q (by omega) j
    by_cases e : l.getD q ⟨#[]⟩ = a.getD q ⟨#[]⟩
    · rw [otU_same e, h1]
      by_cases h2 : j = q
      · subst h2
        rw [if_neg (by omega), if_pos (by omega), e]
      · by_cases h3 : j < q
        · rw [if_pos h3, if_pos (by omega)]
        · rw [if_neg h3, if_neg (by omega)]
    · rw [otU_else e, List.length_append, List.length_singleton, lyL, getD_end, lyL_pre _ _ _ _ (Nat.le_refl _)]
      rw [List.getD_eq_getElem?_getD, List.getElem?_set, lyL_len]
      by_cases h2 : q = j
      · subst h2
        rw [if_pos rfl, if_pos (by omega), if_pos (by omega)]
        rfl
      · rw [if_neg h2, ← List.getD_eq_getElem?_getD, h1]
        by_cases h3 : j < q
        · rw [if_pos h3, if_pos (by omega)]
        · rw [if_neg h3, if_neg (by omega)]
/-- the sectors that are others, laid on the image ahead, give the image -/
theorem lyL_back (a l : List ByteArray) (ha : a.length = l.length) : lyL a (otU a l l.length) (otU a l l.length).length = l := by
  refine ext_getD ⟨#[]⟩ (by rw [lyL_len, ha]) (fun j hj => ?_)
  rw [lyL_len, ha] at hj
  rw [lyL_ot a l ha l.length (Nat.le_refl _) j, if_pos hj]
theorem otU_get (a l : List ByteArray) : ∀ q, ∀ j, j < (otU a l q).length → ∃ i, i < q ∧ (otU a l q).getD j (0, ⟨#[]⟩) = (i, l.getD i ⟨#[]⟩)
  | 0, j, h => absurd h (by simp [otU])
  | q + 1, j, h => by
    by_cases e : l.getD q ⟨#[]⟩ = a.getD q ⟨#[]⟩
    · rw [otU_same e] at h ⊢
      obtain ⟨i, h1, h2⟩ := otU_get a l q j h
      exact ⟨i, by omega, h2⟩
    · rw [otU_else e] at h ⊢
      rw [List.length_append, List.length_singleton] at h
      by_cases h3 : j < (otU a l q).length
      · obtain ⟨i, h1, h2⟩ := otU_get a l q j h3
        exact ⟨i, by omega, by rw [getD_left _ _ _ _ h3]; exact h2⟩
      · have : j = (otU a l q).length := by omega
        subst this
        exact ⟨q, by omega, getD_end _ _ _⟩
/-- a word's bytes, taken apart -/
theorem wdB_parts (k n : Nat) (r : ByteArray) (hk : k < 256) (hn : n < 4294967296) (hr : r.size = 32) : (wdB k n r).size = 43 ∧ okR (wdB k n r) = true ∧ rwL (wdB k n r) = ⟨#[82, 87]⟩ ∧ rwK (wdB k n r) = (k : Int) ∧ rwN (wdB k n r) = (n : Int) ∧ rwR (wdB k n r) = r := by
  have hs : wdB k n r = cdR (strOfNums (wdL k n r)) := rfl
  have hB : Bytes (wdL k n r) := by
    unfold wdL
    refine bytes_app (bytes_app (bytes_app (bytes_two 82 87 (by decide) (by decide)) (numB_bytes _ _)) (numB_bytes _ _)) (nums_bytes _)
  have hl := wdL_len k n r
  obtain ⟨s, hse⟩ : ∃ q, wdB k n r = q := ⟨_, rfl⟩
  rw [hse] at hs ⊢
  obtain ⟨x, hxe⟩ : ∃ q, strOfNums (wdL k n r) = q := ⟨_, rfl⟩
  have hx : nums x = wdL k n r := by rw [← hxe]; exact nums_strOfNums _ hB
  have hxs : x.size = 39 := by rw [← nums_len, hx, hl, hr]
  rw [hxe] at hs
  have hn9 : nums s = [82, 87] ++ (numB (k : Int) 1 ++ (numB (n : Int) 4 ++ (nums r ++ nums (ckR x)))) := by
    rw [hs, cdR, nums_app, hx, wdL]
    simp only [List.append_assoc]
  have q1 : nums (rw1 s) = numB (k : Int) 1 ++ (numB (n : Int) 4 ++ (nums r ++ nums (ckR x))) := by
    rw [rw1, nums_tail, hn9]
    rfl
  have q2 : nums (rw2 s) = numB (n : Int) 4 ++ (nums r ++ nums (ckR x)) := by
    rw [rw2, nums_tail, q1, List.drop_left' (numB_len _ _)]
  have q3 : nums (rw3 s) = nums r ++ nums (ckR x) := by
    rw [rw3, nums_tail, q2, List.drop_left' (numB_len _ _)]
  refine ⟨by rw [hs, cdR_size, hxs], by rw [hs]; exact cd_ok x, ?_, ?_, ?_, ?_⟩
  · apply nums_inj
    rw [rwL, nums_extract, hn9]
    rfl
  · rw [rwK, q1, List.take_left' (numB_len _ _), be_n1 k hk]
  · rw [rwN, q2, List.take_left' (numB_len _ _), be_n4 n hn]
  · apply nums_inj
    rw [rwR, nums_extract, q3, List.take_left' (by rw [nums_len, hr]), List.drop_zero]
end Go.Proofs.YtnfdedolgfcmfaaGreatDoor
