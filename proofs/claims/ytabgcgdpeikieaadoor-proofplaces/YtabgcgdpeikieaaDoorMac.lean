import Derived.Test.YtabgcgdpeikieaaDoorKey
namespace Go.Proofs.YtabgcgdpeikieaaDoor
open Go.RowKit
def macP (k s : List Int) : List Int := sha (laidK (if 64 < k.length then sha k else k) 92 ++ sha (laidK (if 64 < k.length then sha k else k) 54 ++ s))
theorem laidK_len (k : List Int) (m : Int) (h : k.length ≤ 64) : (laidK k m).length = 64 := by simp [laidK, pad64_len k h]
theorem out_bytes (s : H8) : Bytes (outBytes s) := by
  intro j
  by_cases hj : j < 32
  · obtain ⟨i, k, hi, hk, rfl⟩ : ∃ i k, i < 8 ∧ k < 4 ∧ j = 4 * i + k := ⟨j / 4, j % 4, by omega, by omega, by omega⟩
    rw [out_at s i k hi hk]
    exact ⟨Int.emod_nonneg _ (by decide), Int.emod_lt_of_pos _ (by decide)⟩
  · rw [List.getD_eq_getElem?_getD, List.getElem?_eq_none (by rw [out_len]; omega)]; simp
theorem sha_bytes (l : List Int) : Bytes (sha l) := out_bytes _
theorem mac_len (k s : List Int) : (macP k s).length = 32 := sha_len _
theorem mac_bytes (k s : List Int) : Bytes (macP k s) := sha_bytes _
set_option maxRecDepth 100000 in
set_option maxHeartbeats 400000 in
theorem mac_any (k s : ByteArray) (hk : k.size < 2305843009213693952) (hs : s.size + 64 < 2305843009213693952) (w : World) (hK : KTab w) :
    Calls Tryd.prog 60 #[.string k, .string s] w fun e w' => e = .returned (.string (strOfNums (macP (nums k) (nums s)))) ∧ Below w.heap.size w w' := by
  have HK := hide hK
  clear hK
  by_cases h64 : 64 < k.size
  · have hp : macP (nums k) (nums s) = sha (laidK (sha (nums k)) 92 ++ sha (laidK (sha (nums k)) 54 ++ nums s)) := by rw [macP, nums_len, if_pos h64]
    have HP := hide hp
    clear hp
    go_enter Tryd.func60, Tryd.ntmps60
    go_wp2_with fail
    refine (sum_any k w (unhide HK) hk).mono ?_
    rintro e w0 ⟨rfl, hb0⟩
    have hk0 : (strOfNums (sha (nums k))).size ≤ 64 := by rw [strOfNums_size, sha_len]; omega
    have hnk : nums (strOfNums (sha (nums k))) = sha (nums k) := nums_strOfNums _ (sha_bytes _)
    rw [← hnk] at HP
    generalize strOfNums (sha (nums k)) = k0 at *
    have HK0 := hide ((unhide HK).below hb0 (unhide HK).1)
    have HB0 := hide hb0
    clear hb0 hnk
    go_wp2_with fail

    refine (keyed_any k0 54 hk0 w0 (unhide HK0)).mono ?_
    rintro e w1 ⟨b1, hb1a, hb1b, rfl, h1, hB1⟩
    have H1 := hide h1
    have HB1 := hide hB1
    have hK1 := hide ((unhide HK0).below hB1 (unhide HK0).1)
    clear h1 hB1
    go_wp2_with fail
    refine (hs_write_any w1 b1 _ s (unhide H1) (Nat.lt_of_lt_of_le (unhide HK0).1 hb1a) hb1b (unhide hK1) (by rw [laidK_len _ _ (by rw [nums_len]; exact hk0)]; omega)).mono ?_
    rintro e w2 ⟨rfl, h2, ht2⟩
    have H2 := hide h2
    have HT2 := hide ht2
    have hK2 := hide ((unhide hK1).touch ht2 (Nat.lt_of_lt_of_le (unhide HK0).1 hb1a))
    have hs2 : b1 < w2.heap.size := Nat.lt_of_lt_of_le hb1b ht2.1.size
    clear h2 ht2
    go_wp2_with fail
    refine (keyed_any k0 92 hk0 w2 (unhide hK2)).mono ?_
    rintro e w3 ⟨b3, hb3a, hb3b, rfl, h3, hB3⟩
    have H2' := hide ((unhide H2).below hB3 hs2)
    have H3 := hide h3
    have HB3 := hide hB3
    have hK3 := hide ((unhide hK2).below hB3 (unhide hK2).1)
    have hs3 : b1 < w3.heap.size := Nat.lt_of_lt_of_le hs2 hB3.size
    clear h3 hB3
    go_wp2_with fail
    refine (msum_any w3 b1 _ (unhide H2') hs3 (unhide hK3) (by rw [List.length_append, laidK_len _ _ (by rw [nums_len]; exact hk0), nums_len]; omega)).mono ?_
    rintro e w4 ⟨rfl, hB4⟩
    have H3' := hide ((unhide H3).below hB4 hb3b)
    have HB4 := hide hB4
    have hK4 := hide ((unhide hK3).below hB4 (unhide hK3).1)
    have hs4 : b3 < w4.heap.size := Nat.lt_of_lt_of_le hb3b hB4.size
    clear hB4
    go_wp2_with fail
    refine (hs_write_any w4 b3 _ _ (unhide H3') (Nat.lt_of_lt_of_le (unhide hK2).1 hb3a) hs4 (unhide hK4) (by rw [laidK_len _ _ (by rw [nums_len]; exact hk0), strOfNums_size, sha_len]; omega)).mono ?_
    rintro e w5 ⟨rfl, h5, ht5⟩
    rw [nums_strOfNums _ (sha_bytes _)] at h5
    have H5 := hide h5
    have HT5 := hide ht5
    have hK5 := hide ((unhide hK4).touch ht5 (Nat.lt_of_lt_of_le (unhide hK2).1 hb3a))
    have hs5 : b3 < w5.heap.size := Nat.lt_of_lt_of_le hs4 ht5.1.size
    clear h5 ht5
    go_wp2_with fail
    refine (msum_any w5 b3 _ (unhide H5) hs5 (unhide hK5) (by rw [List.length_append, laidK_len _ _ (by rw [nums_len]; exact hk0), sha_len]; omega)).mono ?_
    rintro e w6 ⟨rfl, hB6⟩
    have hz12 : Below w0.heap.size w0 w2 := (unhide HB1).trans ((unhide HT2).1.mono hb1a)
    have hz3 := hz12.trans ((unhide HB3).mono hz12.size)
    have hz4 := hz3.trans ((unhide HB4).mono hz3.size)
    have hz5 := hz4.trans ((unhide HT5).1.mono (Nat.le_trans hz12.size hb3a))
    have hz6 := hide (hz5.trans (hB6.mono hz5.size))
    clear hB6 hz12 hz3 hz4 hz5
    go_wp2_with fail
    go_ret
    exact ⟨by rw [unhide HP]; rfl, (unhide HB0).trans ((unhide hz6).mono (unhide HB0).size)⟩
  · have hp : macP (nums k) (nums s) = sha (laidK (nums k) 92 ++ sha (laidK (nums k) 54 ++ nums s)) := by rw [macP, nums_len, if_neg h64]
    have HP := hide hp
    have hk0 : k.size ≤ 64 := by omega
    clear hp
    go_enter Tryd.func60, Tryd.ntmps60
    go_wp2_with fail

    refine (keyed_any k 54 hk0 w (unhide HK)).mono ?_
    rintro e w1 ⟨b1, hb1a, hb1b, rfl, h1, hB1⟩
    have H1 := hide h1
    have HB1 := hide hB1
    have hK1 := hide ((unhide HK).below hB1 (unhide HK).1)
    clear h1 hB1
    go_wp2_with fail
    refine (hs_write_any w1 b1 _ s (unhide H1) (Nat.lt_of_lt_of_le (unhide HK).1 hb1a) hb1b (unhide hK1) (by rw [laidK_len _ _ (by rw [nums_len]; exact hk0)]; omega)).mono ?_
    rintro e w2 ⟨rfl, h2, ht2⟩
    have H2 := hide h2
    have HT2 := hide ht2
    have hK2 := hide ((unhide hK1).touch ht2 (Nat.lt_of_lt_of_le (unhide HK).1 hb1a))
    have hs2 : b1 < w2.heap.size := Nat.lt_of_lt_of_le hb1b ht2.1.size
    clear h2 ht2
    go_wp2_with fail
    refine (keyed_any k 92 hk0 w2 (unhide hK2)).mono ?_
    rintro e w3 ⟨b3, hb3a, hb3b, rfl, h3, hB3⟩
    have H2' := hide ((unhide H2).below hB3 hs2)
    have H3 := hide h3
    have HB3 := hide hB3
    have hK3 := hide ((unhide hK2).below hB3 (unhide hK2).1)
    have hs3 : b1 < w3.heap.size := Nat.lt_of_lt_of_le hs2 hB3.size
    clear h3 hB3
    go_wp2_with fail
    refine (msum_any w3 b1 _ (unhide H2') hs3 (unhide hK3) (by rw [List.length_append, laidK_len _ _ (by rw [nums_len]; exact hk0), nums_len]; omega)).mono ?_
    rintro e w4 ⟨rfl, hB4⟩
    have H3' := hide ((unhide H3).below hB4 hb3b)
    have HB4 := hide hB4
    have hK4 := hide ((unhide hK3).below hB4 (unhide hK3).1)
    have hs4 : b3 < w4.heap.size := Nat.lt_of_lt_of_le hb3b hB4.size
    clear hB4
    go_wp2_with fail
    refine (hs_write_any w4 b3 _ _ (unhide H3') (Nat.lt_of_lt_of_le (unhide hK2).1 hb3a) hs4 (unhide hK4) (by rw [laidK_len _ _ (by rw [nums_len]; exact hk0), strOfNums_size, sha_len]; omega)).mono ?_
    rintro e w5 ⟨rfl, h5, ht5⟩
    rw [nums_strOfNums _ (sha_bytes _)] at h5
    have H5 := hide h5
    have HT5 := hide ht5
    have hK5 := hide ((unhide hK4).touch ht5 (Nat.lt_of_lt_of_le (unhide hK2).1 hb3a))
    have hs5 : b3 < w5.heap.size := Nat.lt_of_lt_of_le hs4 ht5.1.size
    clear h5 ht5
    go_wp2_with fail
    refine (msum_any w5 b3 _ (unhide H5) hs5 (unhide hK5) (by rw [List.length_append, laidK_len _ _ (by rw [nums_len]; exact hk0), sha_len]; omega)).mono ?_
    rintro e w6 ⟨rfl, hB6⟩
    have hz12 : Below w.heap.size w w2 := (unhide HB1).trans ((unhide HT2).1.mono hb1a)
    have hz3 := hz12.trans ((unhide HB3).mono hz12.size)
    have hz4 := hz3.trans ((unhide HB4).mono hz3.size)
    have hz5 := hz4.trans ((unhide HT5).1.mono (Nat.le_trans hz12.size hb3a))
    have hz6 := hide (hz5.trans (hB6.mono hz5.size))
    clear hB6 hz12 hz3 hz4 hz5
    go_wp2_with fail
    go_ret
    exact ⟨by rw [unhide HP]; rfl, unhide hz6⟩
end Go.Proofs.YtabgcgdpeikieaaDoor
