import Derived.Test.YtifjmldmilmfjaaGreatDoorMp03
import Derived.Test.YtifjmldmilmfjaaGreatDoorMp05
import Derived.Test.YtifjmldmilmfjaaGreatDoorMp04
namespace Go.Proofs.YtifjmldmilmfjaaGreatDoor
open Go.RowKit
theorem lenB_take (n i : Nat) (hi : i < 8) : (lenB n).take (i + 1) = (lenB n).take i ++ [(8 * (n : Int)) / 2 ^ (8 * (7 - i)) % 256] := by
  have h := lenB_at n (7 - i) (by omega)
  rw [show 7 - (7 - i) = i by omega] at h
  rw [List.take_succ_eq_append_getElem (by rw [lenB_len]; exact hi)]
  congr 2
  rw [← h, List.getD_eq_getElem?_getD, List.getElem?_eq_getElem (by rw [lenB_len]; exact hi)]
  rfl
set_option maxRecDepth 100000 in
set_option maxHeartbeats 400000 in
theorem filled_ref (t : ByteArray) (ht : t.size + 100 ≤ 140737488355328) (w : World) :
    Calls Tryz.prog 100 #[.string t] w fun e w' => ∃ b cap, e = .returned (.slice (some ⟨b, 0, none⟩) (padded (nums t)).length cap) ∧ Bsl w' w.heap.size b cap (padded (nums t)) ∧ Below w.heap.size w w' := by
  obtain ⟨cap0, W0, hcv, hB0, hb0⟩ := Bsl.of_string w t (by omega)
  have HB0 := hide hB0
  have Hb0 := hide hb0
  clear hB0 hb0
  have HP := hide (padded_eq (nums t))
  rw [nums_len] at HP
  go_enter Tryz.func100, Tryz.ntmps100
  go_wp2_with (at_builtin; refine wpList_app1 (W0.alloc (Obj.cells #[.int .u8 128] 5)) rfl (.tmp 10) (.tmp 11) rfl w.heap.size w.heap.size cap0 (nums t) t.size (by rw [nums_len]) rfl ((unhide HB0).alloc _) (by have := (unhide Hb0).size; simp; omega) W0.heap.size 128 rfl (by simp) (by omega) ?_; intro b1 cap1 W1 hB1 hb1; have HB1 := hide hB1; have Hb1 := hide (((unhide Hb0).alloc (unhide Hb0).size _).trans hb1); clear hB1 hb1)
  go_loopw [4] (fun v wr => ∃ k b cap : Nat, k ≤ (119 - t.size % 64) % 64 ∧ v = .slice (some ⟨b, 0, none⟩) (t.size + 1 + k) cap ∧ Bsl wr w.heap.size b cap (nums t ++ [128] ++ List.replicate k 0) ∧ Below w.heap.size w wr) (fun v _ => match v with | .slice _ n _ => t.size + 100 - n | _ => 0)
  case atStart => exact ⟨0, b1, cap1, by omega, rfl, by simpa using unhide HB1, unhide Hb1⟩
  case round =>
    clear HB1 Hb1 HB0 Hb0 hcv
    obtain ⟨k, b, cap, hk, rfl, hB, hb⟩ := hrel
    have HB := hide hB
    have Hb := hide hb
    have hll : (nums t ++ [128] ++ List.replicate k (0 : Int)).length = t.size + 1 + k := by simp [nums_len]; omega
    clear hB hb
    by_cases h56 : (t.size + 1 + k) % 64 = 56
    · have hbn : (((t.size : Int) + 1 + (k : Int)) % 64 != 56) = false := by simp; omega
      have HKK := hide (show k = (119 - t.size % 64) % 64 by omega)
      clear h56
      go_wp2
      go_loopw [4, 5] (fun v i wr => ∃ j b cap : Nat, j ≤ 8 ∧ i = .int .i64 (7 - (j : Int)) ∧ v = .slice (some ⟨b, 0, none⟩) (t.size + 1 + k + j) cap ∧ Bsl wr w.heap.size b cap (nums t ++ [128] ++ List.replicate k 0 ++ (lenB t.size).take j) ∧ Below w.heap.size w wr) (fun _ i _ => (intOf i + 1).toNat)
      case atStart => exact ⟨0, b, cap, by omega, rfl, rfl, by simpa using unhide HB, unhide Hb⟩
      case round =>
        clear HB Hb
        obtain ⟨j, b, cap, hj, rfl, rfl, hB, hb⟩ := hrel
        have HB := hide hB
        have Hb := hide hb
        clear hB hb
        by_cases hjl : j < 8
        · have hl2 : (nums t ++ [128] ++ List.replicate k (0 : Int) ++ (lenB t.size).take j).length = t.size + 1 + k + j := by
            rw [List.length_append, hll, List.length_take, lenB_len]; omega
          have HT := hide (lenB_take t.size j hjl)
          have hsh : ((8 : Int) * (7 - (j : Int))).toNat = 8 * (7 - j) := by omega
          go_wp2_with (at_builtin; refine wpList_app1 (wr.alloc (Obj.cells #[.int .u8 (8 * (t.size : Int) / 2 ^ (8 * (7 - j)) % 256)] 5)) rfl (.tmp 24) (.tmp 31) rfl w.heap.size b cap _ (t.size + 1 + k + j) hl2.symm rfl ((unhide HB).alloc _) (by have := (unhide Hb).size; simp; omega) wr.heap.size (8 * (t.size : Int) / 2 ^ (8 * (7 - j)) % 256) rfl (by simp) (by omega) ?_; intro b2 cap2 W2 hB2 hb2; have HB2 := hide hB2; have Hb2 := hide (((unhide Hb).alloc (unhide Hb).size _).trans hb2); clear hB2 hb2)
          go_roundw
          case rel => exact ⟨j + 1, b2, cap2, by omega, congrArg (Value.int .i64) (by omega), rfl, by have := unhide HB2; rw [List.append_assoc _ ((lenB t.size).take j)] at this; rw [unhide HT]; exact this, unhide Hb2⟩
          case measure => simp [intOf]; omega
        · have hj8 : j = 8 := by omega
          have hfin : nums t ++ [128] ++ List.replicate k (0 : Int) ++ (lenB t.size).take j = padded (nums t) := by
            rw [unhide HP, unhide HKK, hj8, List.take_of_length_le (by rw [lenB_len]; omega)]
            simp
          have hpl : (padded (nums t)).length = t.size + 1 + k + j := by
            rw [← hfin, List.length_append, hll, List.length_take, lenB_len]; omega
          have HB2 := hide (unhide HB)
          rw [hfin] at HB2
          have HPL := hide hpl
          clear HB hfin hj8 hpl
          go_wp2
          go_ret
          exact ⟨b, cap, by rw [unhide HPL]; rfl, unhide HB2, unhide Hb⟩
    · have hbn : (((t.size : Int) + 1 + (k : Int)) % 64 != 56) = true := by simp; omega
      go_wp2_with (at_builtin; refine wpList_app1 (wr.alloc (Obj.cells #[.int .u8 0] 5)) rfl (.tmp 17) (.tmp 18) rfl w.heap.size b cap _ (t.size + 1 + k) hll.symm rfl ((unhide HB).alloc _) (by have := (unhide Hb).size; simp; omega) wr.heap.size 0 rfl (by simp) (by omega) ?_; intro b2 cap2 W2 hB2 hb2; have HB2 := hide hB2; have Hb2 := hide (((unhide Hb).alloc (unhide Hb).size _).trans hb2); clear hB2 hb2)
      go_roundw
      case rel => exact ⟨k + 1, b2, cap2, by omega, rfl, by have := unhide HB2; rw [List.append_assoc _ (List.replicate k 0)] at this; rw [List.replicate_succ']; exact this, unhide Hb2⟩
      case measure => simp; omega
end Go.Proofs.YtifjmldmilmfjaaGreatDoor

namespace Go.Proofs.YtifjmldmilmfjaaGreatDoor
open Go.RowKit
def macP (k s : List Int) : List Int := sha (laidK (if 64 < k.length then sha k else k) 92 ++ sha (laidK (if 64 < k.length then sha k else k) 54 ++ s))
theorem laidK_len (k : List Int) (m : Int) (h : k.length ≤ 64) : (laidK k m).length = 64 := by simp [laidK, pad64_len k h]
theorem out_bytes (s : H8) : Bytes (outBytes s) := by
  intro j
  by_cases hj : j < 32
  · obtain ⟨i, k, hi, hk, rfl⟩ : ∃ i k, i < 8 ∧ k < 4 ∧ j = 4 * i + k := ⟨j / 4, j % 4, by omega, by omega, by omega⟩
    rw [out_at s i k hi hk]
    exact ⟨Int.emod_nonneg _ (by decide), Int.emod_lt_of_pos _ (by decide)⟩
  · rw [List.getD_eq_getElem?_getD, List.getElem?_eq_none (by rw [out_len]; omega)]; simp
theorem sha_bytes (l : List Int) : Bytes (sha l) := out_bytes _
theorem mac_len (k s : List Int) : (macP k s).length = 32 := sha_len _
theorem mac_bytes (k s : List Int) : Bytes (macP k s) := sha_bytes _
set_option maxRecDepth 100000 in
set_option maxHeartbeats 400000 in
theorem mac_any (k s : ByteArray) (hk : k.size < 2305843009213693952) (hs : s.size + 64 < 2305843009213693952) (w : World) (hK : KTab w) :
    Calls Tryz.prog 65 #[.string k, .string s] w fun e w' => e = .returned (.string (strOfNums (macP (nums k) (nums s)))) ∧ Below w.heap.size w w' := by
  have HK := hide hK
  clear hK
  by_cases h64 : 64 < k.size
  · have hp : macP (nums k) (nums s) = sha (laidK (sha (nums k)) 92 ++ sha (laidK (sha (nums k)) 54 ++ nums s)) := by rw [macP, nums_len, if_pos h64]
    have HP := hide hp
    clear hp
    go_enter Tryz.func65, Tryz.ntmps65
    go_wp2_with fail
    refine (sum_any k w (unhide HK) hk).mono ?_
    rintro e w0 ⟨rfl, hb0⟩
    have hk0 : (strOfNums (sha (nums k))).size ≤ 64 := by rw [strOfNums_size, sha_len]; omega
    have hnk : nums (strOfNums (sha (nums k))) = sha (nums k) := nums_strOfNums _ (sha_bytes _)
    rw [← hnk] at HP
    generalize strOfNums (sha (nums k)) = k0 at *
    have HK0 := hide ((unhide HK).below hb0 (unhide HK).1)
    have HB0 := hide hb0
    clear hb0 hnk
    go_wp2_with fail

    refine (keyed_any k0 54 hk0 w0 (unhide HK0)).mono ?_
    rintro e w1 ⟨b1, hb1a, hb1b, rfl, h1, hB1⟩
    have H1 := hide h1
    have HB1 := hide hB1
    have hK1 := hide ((unhide HK0).below hB1 (unhide HK0).1)
    clear h1 hB1
    go_wp2_with fail
    refine (hs_write_any w1 b1 _ s (unhide H1) (Nat.lt_of_lt_of_le (unhide HK0).1 hb1a) hb1b (unhide hK1) (by rw [laidK_len _ _ (by rw [nums_len]; exact hk0)]; omega)).mono ?_
    rintro e w2 ⟨rfl, h2, ht2⟩
    have H2 := hide h2
    have HT2 := hide ht2
    have hK2 := hide ((unhide hK1).touch ht2 (Nat.lt_of_lt_of_le (unhide HK0).1 hb1a))
    have hs2 : b1 < w2.heap.size := Nat.lt_of_lt_of_le hb1b ht2.1.size
    clear h2 ht2
    go_wp2_with fail
    refine (keyed_any k0 92 hk0 w2 (unhide hK2)).mono ?_
    rintro e w3 ⟨b3, hb3a, hb3b, rfl, h3, hB3⟩
    have H2' := hide ((unhide H2).below hB3 hs2)
    have H3 := hide h3
    have HB3 := hide hB3
    have hK3 := hide ((unhide hK2).below hB3 (unhide hK2).1)
    have hs3 : b1 < w3.heap.size := Nat.lt_of_lt_of_le hs2 hB3.size
    clear h3 hB3
    go_wp2_with fail
    refine (msum_any w3 b1 _ (unhide H2') hs3 (unhide hK3) (by rw [List.length_append, laidK_len _ _ (by rw [nums_len]; exact hk0), nums_len]; omega)).mono ?_
    rintro e w4 ⟨rfl, hB4⟩
    have H3' := hide ((unhide H3).below hB4 hb3b)
    have HB4 := hide hB4
    have hK4 := hide ((unhide hK3).below hB4 (unhide hK3).1)
    have hs4 : b3 < w4.heap.size := Nat.lt_of_lt_of_le hb3b hB4.size
    clear hB4
    go_wp2_with fail
    refine (hs_write_any w4 b3 _ _ (unhide H3') (Nat.lt_of_lt_of_le (unhide hK2).1 hb3a) hs4 (unhide hK4) (by rw [laidK_len _ _ (by rw [nums_len]; exact hk0), strOfNums_size, sha_len]; omega)).mono ?_
    rintro e w5 ⟨rfl, h5, ht5⟩
    rw [nums_strOfNums _ (sha_bytes _)] at h5
    have H5 := hide h5
    have HT5 := hide ht5
    have hK5 := hide ((unhide hK4).touch ht5 (Nat.lt_of_lt_of_le (unhide hK2).1 hb3a))
    have hs5 : b3 < w5.heap.size := Nat.lt_of_lt_of_le hs4 ht5.1.size
    clear h5 ht5
    go_wp2_with fail
    refine (msum_any w5 b3 _ (unhide H5) hs5 (unhide hK5) (by rw [List.length_append, laidK_len _ _ (by rw [nums_len]; exact hk0), sha_len]; omega)).mono ?_
    rintro e w6 ⟨rfl, hB6⟩
    have hz12 : Below w0.heap.size w0 w2 := (unhide HB1).trans ((unhide HT2).1.mono hb1a)
    have hz3 := hz12.trans ((unhide HB3).mono hz12.size)
    have hz4 := hz3.trans ((unhide HB4).mono hz3.size)
    have hz5 := hz4.trans ((unhide HT5).1.mono (Nat.le_trans hz12.size hb3a))
    have hz6 := hide (hz5.trans (hB6.mono hz5.size))
    clear hB6 hz12 hz3 hz4 hz5
    go_wp2_with fail
    go_ret
    exact ⟨by rw [unhide HP]; rfl, (unhide HB0).trans ((unhide hz6).mono (unhide HB0).size)⟩
  · have hp : macP (nums k) (nums s) = sha (laidK (nums k) 92 ++ sha (laidK (nums k) 54 ++ nums s)) := by rw [macP, nums_len, if_neg h64]
    have HP := hide hp
    have hk0 : k.size ≤ 64 := by omega
    clear hp
    go_enter Tryz.func65, Tryz.ntmps65
    go_wp2_with fail

    refine (keyed_any k 54 hk0 w (unhide HK)).mono ?_
    rintro e w1 ⟨b1, hb1a, hb1b, rfl, h1, hB1⟩
    have H1 := hide h1
    have HB1 := hide hB1
    have hK1 := hide ((unhide HK).below hB1 (unhide HK).1)
    clear h1 hB1
    go_wp2_with fail
    refine (hs_write_any w1 b1 _ s (unhide H1) (Nat.lt_of_lt_of_le (unhide HK).1 hb1a) hb1b (unhide hK1) (by rw [laidK_len _ _ (by rw [nums_len]; exact hk0)]; omega)).mono ?_
    rintro e w2 ⟨rfl, h2, ht2⟩
    have H2 := hide h2
    have HT2 := hide ht2
    have hK2 := hide ((unhide hK1).touch ht2 (Nat.lt_of_lt_of_le (unhide HK).1 hb1a))
    have hs2 : b1 < w2.heap.size := Nat.lt_of_lt_of_le hb1b ht2.1.size
    clear h2 ht2
    go_wp2_with fail
    refine (keyed_any k 92 hk0 w2 (unhide hK2)).mono ?_
    rintro e w3 ⟨b3, hb3a, hb3b, rfl, h3, hB3⟩
    have H2' := hide ((unhide H2).below hB3 hs2)
    have H3 := hide h3
    have HB3 := hide hB3
    have hK3 := hide ((unhide hK2).below hB3 (unhide hK2).1)
    have hs3 : b1 < w3.heap.size := Nat.lt_of_lt_of_le hs2 hB3.size
    clear h3 hB3
    go_wp2_with fail
    refine (msum_any w3 b1 _ (unhide H2') hs3 (unhide hK3) (by rw [List.length_append, laidK_len _ _ (by rw [nums_len]; exact hk0), nums_len]; omega)).mono ?_
    rintro e w4 ⟨rfl, hB4⟩
    have H3' := hide ((unhide H3).below hB4 hb3b)
    have HB4 := hide hB4
    have hK4 := hide ((unhide hK3).below hB4 (unhide hK3).1)
    have hs4 : b3 < w4.heap.size := Nat.lt_of_lt_of_le hb3b hB4.size
    clear hB4
    go_wp2_with fail
    refine (hs_write_any w4 b3 _ _ (unhide H3') (Nat.lt_of_lt_of_le (unhide hK2).1 hb3a) hs4 (unhide hK4) (by rw [laidK_len _ _ (by rw [nums_len]; exact hk0), strOfNums_size, sha_len]; omega)).mono ?_
    rintro e w5 ⟨rfl, h5, ht5⟩
    rw [nums_strOfNums _ (sha_bytes _)] at h5
    have H5 := hide h5
    have HT5 := hide ht5
    have hK5 := hide ((unhide hK4).touch ht5 (Nat.lt_of_lt_of_le (unhide hK2).1 hb3a))
    have hs5 : b3 < w5.heap.size := Nat.lt_of_lt_of_le hs4 ht5.1.size
    clear h5 ht5
    go_wp2_with fail
    refine (msum_any w5 b3 _ (unhide H5) hs5 (unhide hK5) (by rw [List.length_append, laidK_len _ _ (by rw [nums_len]; exact hk0), sha_len]; omega)).mono ?_
    rintro e w6 ⟨rfl, hB6⟩
    have hz12 : Below w.heap.size w w2 := (unhide HB1).trans ((unhide HT2).1.mono hb1a)
    have hz3 := hz12.trans ((unhide HB3).mono hz12.size)
    have hz4 := hz3.trans ((unhide HB4).mono hz3.size)
    have hz5 := hz4.trans ((unhide HT5).1.mono (Nat.le_trans hz12.size hb3a))
    have hz6 := hide (hz5.trans (hB6.mono hz5.size))
    clear hB6 hz12 hz3 hz4 hz5
    go_wp2_with fail
    go_ret
    exact ⟨by rw [unhide HP]; rfl, unhide hz6⟩
end Go.Proofs.YtifjmldmilmfjaaGreatDoor

namespace Go.Proofs.YtifjmldmilmfjaaGreatDoor
open Go.RowKit
def SmInv (w : World) (hb kb b : Nat) (s : H8) (L : List Int) (wr : World) : Prop :=
  Arr wr hb 0 .u32 s.vals ∧ Arr wr kb 0 .u32 kWords ∧ Arr wr b 0 .u8 L ∧ Below w.heap.size w wr ∧ w.heap.size ≤ hb ∧ hb < kb ∧ kb < b ∧ b < wr.heap.size
theorem SmInv.below {w : World} {hb kb b : Nat} {s : H8} {L : List Int} {wr w' : World} (h : SmInv w hb kb b s L wr) (hx : Below wr.heap.size wr w') : SmInv w hb kb b s L w' := by
  obtain ⟨h1, h2, h3, h4, h5, h6, h7, h8⟩ := h
  exact ⟨h1.below hx (by omega), h2.below hx (by omega), h3.below hx h8, h4.trans (hx.mono h4.size), h5, h6, h7, by have := hx.size; omega⟩
theorem SmInv.drew {w : World} {hb kb b : Nat} {s : H8} {L : List Int} {wr : World} (h : SmInv w hb kb b s L wr) : SmInv w hb kb b s L wr.drew :=
  ⟨h.1, h.2.1, h.2.2.1, h.2.2.2.1.drew, h.2.2.2.2⟩
theorem SmInv.words {w : World} {hb kb b : Nat} {s : H8} {L : List Int} {wr : World} (h : SmInv w hb kb b s L wr) (s' : H8) : SmInv w hb kb b s' L (wr.setCells hb 0 (s'.vals.map (Value.int .u32))) := by
  obtain ⟨h1, h2, h3, h4, h5, h6, h7, h8⟩ := h
  exact ⟨h1.setCells _ (by simp [H8.vals]), h2.setCells_apart _ _ _ (.inl (by omega)), h3.setCells_apart _ _ _ (.inl (by omega)), below_setCells h5 _ _ h4, h5, h6, h7, by rw [size_setCells]; exact h8⟩
theorem padded_len (l : List Int) : (padded l).length % 64 = 0 := by
  rw [padded_eq]
  simp only [List.length_append, List.length_cons, List.length_nil, List.length_replicate, lenB_len]
  omega
theorem padded_bytes (l : List Int) (h : Bytes l) : Bytes (padded l) := by
  rw [padded_eq]
  exact bytes_append h (bytes_append (bytes_append (bytes_one 128 (by decide) (by decide)) (bytes_zeros _)) (lenB_bytes _))
set_option maxRecDepth 100000 in
set_option maxHeartbeats 1000000 in
theorem rsum_any (t : ByteArray) (ht : t.size + 100 ≤ 140737488355328) (w : World) :
    Calls Tryz.prog 84 #[.string t] w fun e w' => e = .returned (.string (strOfNums (sha (nums t)))) ∧ Below w.heap.size w w' := by
  have HN8 := hide (fun w1 : World => (arr_new w1 .u32 (List.replicate 8 0) 152 _ rfl))
  have HN64 := hide (fun w1 : World => (arr_new w1 .u32 (List.replicate 64 0) 154 _ rfl))
  go_enter Tryz.func84, Tryz.ntmps84
  go_wp2_with fail
  refine (starts_any w).mono ?_
  rintro e w1 ⟨rfl, hb1⟩
  have HB1 := hide hb1
  clear hb1
  go_wp2_with (refine wpList_store_to rfl 152 (.tmp 3) (.tmp 9) rfl w1.heap.size 0 (start8.vals.map (Value.int .u32)).toArray rfl rfl (unhide HN8 w1).there (by rw [size152]; simp [H8.vals]) (one_ints _ _) ?_; intro W1 hW1; have HW1 := hide hW1; clear hW1)
  obtain ⟨hA1, hbl1, hsz1⟩ : Arr W1 w1.heap.size 0 .u32 start8.vals ∧ Below w.heap.size w W1 ∧ W1.heap.size = w1.heap.size + 1 := by
    rw [unhide HW1]
    exact ⟨(unhide HN8 w1).setCells start8.vals (by simp [H8.vals]), below_setCells (unhide HB1).size _ _ ((unhide HB1).alloc (unhide HB1).size _), by rw [size_setCells]; simp⟩
  have HHB := hide (unhide HB1).size
  clear HW1 HN8 HB1
  have HA1 := hide hA1
  have HBL1 := hide hbl1
  have HSZ1 := hide hsz1
  clear hA1 hbl1 hsz1
  refine (ks_any W1).mono ?_
  rintro e w2 ⟨rfl, hb2⟩
  have HB2 := hide hb2
  clear hb2
  go_wp2_with (refine wpList_store_to rfl 154 (.tmp 4) (.tmp 10) rfl w2.heap.size 0 (kWords.map (Value.int .u32)).toArray rfl rfl (unhide HN64 w2).there (by rw [size154]; simp [klen]) (one_ints _ _) ?_; intro W2 hW2; have HW2 := hide hW2; clear hW2)
  obtain ⟨hA2, hK2, hbl2, hsz2⟩ : Arr W2 w1.heap.size 0 .u32 start8.vals ∧ Arr W2 w2.heap.size 0 .u32 kWords ∧ Below w.heap.size w W2 ∧ W2.heap.size = w2.heap.size + 1 := by
    rw [unhide HW2]
    have hs2 := (unhide HB2).size
    have hs1 := unhide HSZ1
    refine ⟨?_, (unhide HN64 w2).setCells kWords (by rw [klen]; simp), ?_, by rw [size_setCells]; simp⟩
    · exact (((unhide HA1).below (unhide HB2) (by omega)).alloc (by omega) _).setCells_apart _ _ _ (.inl (by omega))
    · have h1 := (unhide HBL1).trans ((unhide HB2).mono (unhide HBL1).size)
      exact below_setCells h1.size _ _ (h1.alloc h1.size _)
  have hhk : w1.heap.size < w2.heap.size := by have := unhide HSZ1; have := (unhide HB2).size; omega
  have HHK := hide hhk
  have HA2 := hide hA2
  have HK2 := hide hK2
  have HBL2 := hide hbl2
  have HSZ2 := hide hsz2
  clear hA2 hK2 hbl2 hsz2 HW2 HN64 HA1 HBL1 HSZ1 HB2 hhk
  refine (filled_ref t ht W2).mono ?_
  rintro e w3 ⟨b, cap, rfl, hB3, hb3⟩
  have HI0 : Hid (SmInv w w1.heap.size w2.heap.size b start8 (padded (nums t)) w3) := by
    have hs2 := unhide HSZ2
    have hk2 := unhide HHK
    have hb := hB3.1
    exact ⟨(unhide HA2).below hb3 (by omega), (unhide HK2).below hb3 (by omega), hB3.2.2.2.2.1, (unhide HBL2).trans (hb3.mono (unhide HBL2).size), unhide HHB, hk2, by omega, hB3.2.1⟩
  have hcap := hB3.2.2.1
  have hcm := hB3.2.2.2.1
  clear HA2 HK2 HBL2 HSZ2 hB3 hb3
  have hpl := padded_len (nums t)
  have HPB := hide (padded_bytes (nums t) (nums_bytes t))
  have HSHA : Hid (sha (nums t) = outBytes (comps start8 (padded (nums t)) ((padded (nums t)).length / 64))) := rfl
  generalize padded (nums t) = L at *
  generalize hbb : w1.heap.size = hb at *
  generalize hkk : w2.heap.size = kb at *
  clear hbb hkk
  generalize hnn : L.length = n at *
  have HN := hide hnn
  clear hnn
  have hnm : n ≤ maxLen := by omega
  rw [show maxLen = 9223372036854775807 from rfl] at hnm hcm
  go_wp2
  go_loopw [6] (fun i wr => ∃ c : Nat, 64 * c ≤ n ∧ i = .int .i64 (64 * (c : Int)) ∧ SmInv w hb kb b (comps start8 L c) L wr) (fun i _ => n - (intOf i).toNat)
  case atStart => exact ⟨0, by omega, rfl, unhide HI0⟩
  case round =>
    clear HI0
    obtain ⟨c, hc, rfl, hI⟩ := hrel
    by_cases hlt : 64 * c < n
    · have hI2 := hI.drew
      have r45 := hide hI2.1.range
      have hkbs : kb < wr.drew.heap.size := by have := hI2.2.2.2.2.2.2.1; have := hI2.2.2.2.2.2.2.2; omega
      have hbs : b < wr.drew.heap.size := hI2.2.2.2.2.2.2.2
      obtain ⟨p, hpp⟩ : ∃ p, p = (L.drop (64 * c)).take 64 := ⟨_, rfl⟩
      have hln := unhide HN
      have hn64 : 64 * c + 64 ≤ n := by omega
      have hp : p.length = 64 := by rw [hpp, List.length_take, List.length_drop]; omega
      have HBY : Hid (Bytes p) := by rw [hpp]; exact bytes_take (bytes_drop (unhide HPB) _) _
      have HK : Hid (∀ j, j < 64 → wr.drew.cell? ⟨kb, j, none⟩ = some (.int .u32 (kWords.getD j 0))) := fun j hj => hI2.2.1.get0 j (by rw [klen]; exact hj)
      have HPC : Hid (∀ j, j < 64 → wr.drew.cell? ⟨b, 64 * c + j, none⟩ = some (.int .u8 (p.getD j 0))) := fun j hj => by
        rw [hI2.2.2.1.get0 (64 * c + j) (by omega), hpp]
        simp only [List.getD_eq_getElem?_getD, List.getElem?_take, if_pos hj, List.getElem?_drop]
      have HCS : Hid (comps start8 L (c + 1) = comp (comps start8 L c) p) := by rw [hpp]; rfl
      have HI := hide hI2
      clear hI hI2 hpp hln
      generalize comps start8 L c = s at *
      have hsl : ∀ W : World, (Instr.sliceAt 86 (.slice (some ⟨b, 0, none⟩) n cap) (some (.int .i64 (64 * (c : Int)))) (some (.int .i64 (64 * (c : Int) + 64))) none).run Tryz.prog W = .ok (.slice (some ⟨b, 64 * c, none⟩) 64 (cap - 64 * c)) W := by
        intro W
        have e1 : (64 * (c : Int)).toNat = 64 * c := by omega
        have e2 : (64 * (c : Int) + 64).toNat = 64 * c + 64 := by omega
        have e3 : ¬ cap = 64 * c := by omega
        have e4 : 0 ≤ 64 * (c : Int) + 64 ∧ 64 * (c : Int) + 64 ≤ cap := by omega
        have e5 : 0 ≤ 64 * (c : Int) ∧ 64 * (c : Int) ≤ max (64 * (c : Int) + 64) 0 := by omega
        go_simp
        intro h
        omega
      have hwr : IntKind.i64.wrap (64 * (c : Int) + 64) = 64 * (c : Int) + 64 := by rw [IntKind.wrap_i64]; omega
      go_wp2_with fail
      refine wp_region_held_drew (S := fun _ => True) (by kernel_rfl) trivial ?_
      intro hS
      refine wpAnyH_takeD 1 (some 20) (.slice (some ⟨b, 0, none⟩) n cap) rfl rfl (by kernel_rfl) (by kernel_rfl) (by kernel_rfl) (fun _ _ _ h => h) (Or.inl ⟨by rfl, fun w hSw => by go_simp⟩) hS ?_
      simp only [Act.put, List.setIfInBounds_toArray, List.set_cons_zero, List.set_cons_succ]
      refine wpAnyH_takeD 2 (some 21) (.int .i64 (64 * (c : Int))) rfl rfl (by kernel_rfl) (by kernel_rfl) (by kernel_rfl) (fun _ _ _ h => h) (Or.inl ⟨by rfl, fun w hSw => by go_simp⟩) hS ?_
      simp only [Act.put, List.setIfInBounds_toArray, List.set_cons_zero, List.set_cons_succ]
      refine wpAnyH_takeD 3 (some 22) (.int .i64 (64 * (c : Int))) rfl rfl (by kernel_rfl) (by kernel_rfl) (by kernel_rfl) (fun _ _ _ h => h) (Or.inl ⟨by rfl, fun w hSw => by go_simp⟩) hS ?_
      simp only [Act.put, List.setIfInBounds_toArray, List.set_cons_zero, List.set_cons_succ]
      refine wpAnyH_takeD 4 (some 23) (.int .i64 (64 * (c : Int) + 64)) rfl rfl (by kernel_rfl) (by kernel_rfl) (by kernel_rfl) (fun _ _ _ h => h) (Or.inl ⟨by rfl, fun w hSw => by go_simp⟩) hS ?_
      simp only [Act.put, List.setIfInBounds_toArray, List.set_cons_zero, List.set_cons_succ]
      refine wpAnyH_takeD 5 (some 24) (.slice (some ⟨b, 64 * c, none⟩) 64 (cap - 64 * c)) rfl rfl (by kernel_rfl) (by kernel_rfl) (by kernel_rfl) (fun _ _ _ h => h) (Or.inl ⟨by rfl, fun w hSw => by go_simp⟩) hS ?_
      simp only [Act.put, List.setIfInBounds_toArray, List.set_cons_zero, List.set_cons_succ]
      refine wpAnyH_ready (rs := [0]) (by kernel_rfl) (by simp) ?_
      refine AllReadyH.cons rfl (fun K hK => ?_) AllReadyH.nil
      rw [if_pos (by rfl)]
      refine wp_load_mid 152 (.tmp 3) rfl hb 0 rfl _ _ (unhide r45) Tryz.underlying152 rfl (by rw [size152]; simp [H8.vals]) ?_
      refine hK.out (Act.put _ (some 19) _) _ hS (fun hS => ?_)
      simp only [Act.put, List.setIfInBounds_toArray, List.set_cons_zero, List.set_cons_succ]
      clear hK K
      refine wpAnyH_ready (rs := [6]) (by kernel_rfl) (by simp) ?_
      refine AllReadyH.cons rfl (fun K hK => ?_) AllReadyH.nil
      simp only [List.getElem_toArray, List.getElem_cons_succ, List.getElem_cons_zero]
      go_simp
      refine (piece_any s p hp (unhide HBY) kb b (64 * c) (cap - 64 * c) wr.drew hkbs hbs (unhide HK) (unhide HPC)).mono ?_
      rintro e w3 ⟨rfl, hb3⟩
      have hI3 := (unhide HI).below hb3
      have HI3 := hide (hI3.words (comp s p))
      have h3 := hide hI3.1.there
      refine hK.out _ _ trivial (fun hS => ?_)
      clear hK K hI3 HI hb3 r45 HK HPC
      refine wpAnyH_ready (rs := [7]) (by kernel_rfl) (by simp) ?_
      refine AllReadyH.cons rfl (fun K hK => ?_) AllReadyH.nil
      rw [if_pos (by rfl)]
      refine wp_store_mid 152 (.tmp 3) (.tmp 25) rfl hb 0 _ rfl rfl (by simpa [H8.vals] using unhide h3) (by rw [size152]; simp [H8.vals]) (one_ints _ _) ?_
      refine hK.out (Act.put _ none _) _ trivial (fun hS => ?_)
      clear hK K hS
      refine wpAnyH_done (by kernel_rfl) ?_ _
      simp only [Act.put]
      go_wp2
      go_roundw
      case rel => exact ⟨c + 1, by omega, by go_num, by rw [unhide HCS]; exact unhide HI3⟩
      case measure => simp [intOf]; omega
    · have hcc : c = n / 64 := by omega
      rw [hcc] at hI
      have hout := unhide HSHA
      generalize comps start8 L (n / 64) = s at *
      have HI := hide hI
      have hmk := fun W => run_make_u8 32 32 (by omega) (by omega) W
      simp only [Int.cast_ofNat_Int] at hmk
      clear hI hcc
      obtain ⟨wo, rfl⟩ : ∃ wo : World, wo = wr := ⟨_, rfl⟩
      go_wp2
      clear hmk
      go_loopw [8] (fun i wr => ∃ k : Nat, k ≤ 32 ∧ i = .int .i64 (k : Int) ∧ KeyInv wo ((outBytes s).take k ++ List.replicate (32 - k) 0) wr) (fun i _ => 32 - (intOf i).toNat)
      case atStart =>
        have h : KeyInv wo (List.replicate 32 0) _ := ⟨arr_new wo .u8 (List.replicate 32 0) 5 _ rfl, (Below.refl _ _).alloc (Nat.le_refl _) _, by simp⟩
        exact ⟨0, by omega, rfl, h⟩
      case round =>
        obtain ⟨k, hk, rfl, hJ⟩ := hrel
        have hbw : hb < wo.heap.size := by have := (unhide HI).2.2.2.2.2; omega
        have hlo := out_len s
        have hJl : ((outBytes s).take k ++ List.replicate (32 - k) (0 : Int)).length = 32 := by simp [hlo]; omega
        by_cases hlt2 : k < 32
        · have hcw := ((unhide HI).1.get0 (k / 4) (by simp [H8.vals]; omega))
          have hx := out_at s (k / 4) (k % 4) (by omega) (by omega)
          obtain ⟨x, hxx⟩ : ∃ x, x = s.vals.getD (k / 4) 0 := ⟨_, rfl⟩
          rw [← hxx] at hcw hx
          rw [← hJ.2.1.cell (p := ⟨hb, k / 4, none⟩) hbw] at hcw
          rw [show 4 * (k / 4) + k % 4 = k by omega] at hx
          have c1 := hJ.1.get0 k (by omega)
          have f1 := hJ.1.free0 k (by omega)
          obtain ⟨z, hz⟩ : ∃ z, z = ((outBytes s).take k ++ List.replicate (32 - k) (0 : Int)).getD k 0 := ⟨_, rfl⟩
          rw [← hz] at c1
          have hset := take_set (outBytes s) (List.replicate 32 0) k _ (by omega) (by simp; omega) rfl
          simp only [List.drop_replicate] at hset
          rw [hx] at hset
          have HJ := hide hJ
          have HJl := hide hJl
          have HSET := hide hset
          have e1 : ((k : Int) / 4).toNat = k / 4 := by omega
          have e2 : ((24 : Int) - 8 * ((k : Int) % 4)).toNat = 24 - 8 * (k % 4) := by omega
          have e3 : 0 ≤ (k : Int) / 4 ∧ (k : Int) / 4 < 8 := by omega
          clear hJ hz hset hJl hxx hx hlo hout
          go_wp2
          go_roundw
          case rel => exact ⟨k + 1, by omega, by go_num, (unhide HJ).put k (by rw [unhide HJl]; omega) _ (unhide HSET)⟩
          case measure => simp [intOf]; omega
        · have e32 : k = 32 := by omega
          rw [e32, List.take_of_length_le (by omega)] at hJ
          have hJ2 : KeyInv wo (outBytes s) wr := by simpa using hJ
          have hcv := run_convert_bytes_arg (P := Tryz.prog) wr 86 5 Tryz.underlying86 Tryz.underlying5 wo.heap.size 0 32 32 (outBytes s) hlo (fun i hi => hJ2.1.get i (by omega)) 9 Tryz.underlying9
          have HB := hide ((unhide HI).2.2.2.1.trans (hJ2.2.1.mono (unhide HI).2.2.2.1.size))
          clear hJ hJ2 hlo hJl e32
          go_wp2
          go_ret
          exact ⟨by rw [hout]; rfl, unhide HB⟩
end Go.Proofs.YtifjmldmilmfjaaGreatDoor

namespace Go.Proofs.YtifjmldmilmfjaaGreatDoor
open Go.RowKit
theorem zeros_at (n t : Nat) : (List.replicate n (0 : Int)).getD t 0 = 0 := by
  rw [List.getD_eq_getElem?_getD, List.getElem?_replicate]
  split <;> rfl
theorem str_add (a b : ByteArray) : nums (a ++ b) = nums a ++ nums b := by simp [nums]
set_option maxRecDepth 100000 in
set_option maxHeartbeats 400000 in
theorem rlaid_any (k : ByteArray) (m : Int) (hk : k.size ≤ 64) (w : World) :
    Calls Tryz.prog 85 #[.string k, .int .u8 m] w fun e w' => e = .returned (.string (strOfNums (laidK (nums k) m))) ∧ Below w.heap.size w w' := by
  have hkl : (nums k).length ≤ 64 := by rw [nums_len]; exact hk
  have hpl := pad64_len (nums k) hkl
  have hll : (laidK (nums k) m).length = 64 := by simp [laidK, hpl]
  have hmk := fun W => run_make_u8 64 64 (by omega) (by omega) W
  simp only [Int.cast_ofNat_Int] at hmk
  go_enter Tryz.func85, Tryz.ntmps85
  go_wp2
  clear hmk
  go_loopw [6] (fun i wr => ∃ t : Nat, t ≤ 64 ∧ i = .int .i64 t ∧ KeyInv w ((laidK (nums k) m).take t ++ (List.replicate 64 0).drop t) wr) (fun i _ => 64 - (intOf i).toNat)
  case atStart =>
    have h : KeyInv w (List.replicate 64 0) _ := ⟨arr_new w .u8 (List.replicate 64 0) 5 _ rfl, (Below.refl _ _).alloc (Nat.le_refl _) _, by simp⟩
    exact ⟨0, by omega, rfl, h⟩
  case round =>
    obtain ⟨t, ht, rfl, hI⟩ := hrel
    by_cases htl : t < 64
    · have hlen : ((laidK (nums k) m).take t ++ (List.replicate 64 (0 : Int)).drop t).length = 64 := by simp [hll]; omega
      have c1 := hI.1.get0 t (by omega)
      have f1 := hI.1.free0 t (by omega)
      rw [getD_take_drop _ _ _ (by omega)] at c1
      rw [zeros_at] at c1
      have hv : (laidK (nums k) m).getD t 0 = bits .xor .u8 ((pad64 (nums k)).getD t 0) m := by
        have : t < (pad64 (nums k)).length := by omega
        simp [laidK, xb, this]
      have HE := hide (take_set (laidK (nums k) m) (List.replicate 64 0) t _ (by omega) (by simp; omega) hv.symm)
      have HI := hide hI
      have HLEN := hide hlen
      clear hI hlen hv hll
      by_cases htk : t < k.size
      · have hix := index_str k t htk
        have hpd : (pad64 (nums k)).getD t 0 = (nums k).getD t 0 := by
          simp [pad64, List.getElem?_append, nums_len, htk]
        rw [hpd] at HE
        generalize (nums k).getD t 0 = x at *
        clear hpd hpl
        go_wp2
        go_roundw
        case rel => exact ⟨t + 1, by omega, by go_num, ((unhide HI).put t (by rw [unhide HLEN]; omega) x rfl).put t (by rw [List.length_set, unhide HLEN]; omega) _ (by rw [List.set_set]; exact unhide HE)⟩
        case measure => simp [intOf]; omega
      · have hpd : (pad64 (nums k)).getD t 0 = 0 := by
          rw [pad64, List.getD_eq_getElem?_getD, List.getElem?_append_right (by rw [nums_len]; omega), ← List.getD_eq_getElem?_getD, zeros_at]
        rw [hpd] at HE
        clear hpd hpl
        go_wp2
        go_roundw
        case rel => exact ⟨t + 1, by omega, by go_num, (unhide HI).put t (by rw [unhide HLEN]; omega) _ (unhide HE)⟩
        case measure => simp [intOf]; omega
    · have e64 : t = 64 := by omega
      rw [e64, List.take_of_length_le (by omega), List.drop_of_length_le (by simp), List.append_nil] at hI
      have hcv := run_convert_bytes_arg (P := Tryz.prog) wr 86 5 Tryz.underlying86 Tryz.underlying5 w.heap.size 0 64 64 (laidK (nums k) m) hll (fun i hi => hI.1.get i (by omega)) 9 Tryz.underlying9
      have HB := hide hI.2.1
      clear hI e64
      go_wp2
      go_ret
      exact ⟨rfl, unhide HB⟩
set_option maxRecDepth 100000 in
set_option maxHeartbeats 400000 in
theorem rmac_any (k s : ByteArray) (hk : k.size + 100 ≤ 140737488355328) (hs : s.size + 164 ≤ 140737488355328) (w : World) :
    Calls Tryz.prog 63 #[.string k, .string s] w fun e w' => e = .returned (.string (strOfNums (macP (nums k) (nums s)))) ∧ Below w.heap.size w w' := by
  by_cases h64 : 64 < k.size
  · have hp : macP (nums k) (nums s) = sha (laidK (sha (nums k)) 92 ++ sha (laidK (sha (nums k)) 54 ++ nums s)) := by rw [macP, nums_len, if_pos h64]
    have HP := hide hp
    clear hp
    go_enter Tryz.func63, Tryz.ntmps63
    go_wp2_with fail
    refine (rsum_any k hk w).mono ?_
    rintro e w0 ⟨rfl, hb0⟩
    have hk0 : (strOfNums (sha (nums k))).size ≤ 64 := by rw [strOfNums_size, sha_len]; omega
    have hnk : nums (strOfNums (sha (nums k))) = sha (nums k) := nums_strOfNums _ (sha_bytes _)
    rw [← hnk] at HP
    generalize strOfNums (sha (nums k)) = k0 at *
    have HB0 := hide hb0
    clear hb0 hnk
    go_wp2_with fail
    refine (rlaid_any k0 54 hk0 _).mono ?_
    rintro e w1 ⟨rfl, hb1⟩
    have HB1 := hide ((unhide HB0).trans (hb1.mono (unhide HB0).size))
    clear hb1 HB0
    have hl1 : (laidK (nums k0) 54).length = 64 := laidK_len _ _ (by rw [nums_len]; exact hk0)
    have n1 : (strOfNums (laidK (nums k0) 54)).size = 64 := by rw [strOfNums_size, hl1]
    have N1 := hide (nums_strOfNums _ (laidK_bytes (nums k0) 54))
    generalize strOfNums (laidK (nums k0) 54) = t1 at *
    clear hl1
    go_wp2_with fail
    refine (rsum_any (t1 ++ s) (by rw [ByteArray.size_append]; omega) _).mono ?_
    rintro e w2 ⟨rfl, hb2⟩
    have HB2 := hide ((unhide HB1).trans (hb2.mono (unhide HB1).size))
    clear hb2 HB1
    have n2 : (strOfNums (sha (nums (t1 ++ s)))).size = 32 := by rw [strOfNums_size, sha_len]
    have N2 : Hid (nums (strOfNums (sha (nums (t1 ++ s)))) = sha (laidK (nums k0) 54 ++ nums s)) := by
      have e : nums (strOfNums (sha (nums (t1 ++ s)))) = sha (laidK (nums k0) 54 ++ nums s) := by rw [nums_strOfNums _ (sha_bytes _), str_add, unhide N1]
      exact e
    generalize strOfNums (sha (nums (t1 ++ s))) = t2 at *
    go_wp2_with fail
    refine (rlaid_any k0 92 hk0 _).mono ?_
    rintro e w3 ⟨rfl, hb3⟩
    have HB3 := hide ((unhide HB2).trans (hb3.mono (unhide HB2).size))
    clear hb3 HB2
    have hl3 : (laidK (nums k0) 92).length = 64 := laidK_len _ _ (by rw [nums_len]; exact hk0)
    have n3 : (strOfNums (laidK (nums k0) 92)).size = 64 := by rw [strOfNums_size, hl3]
    have N3 := hide (nums_strOfNums _ (laidK_bytes (nums k0) 92))
    generalize strOfNums (laidK (nums k0) 92) = t3 at *
    clear hl3
    go_wp2_with fail
    refine (rsum_any (t3 ++ t2) (by rw [ByteArray.size_append]; omega) _).mono ?_
    rintro e w4 ⟨rfl, hb4⟩
    have HB4 := hide ((unhide HB3).trans (hb4.mono (unhide HB3).size))
    clear hb4 HB3
    go_wp2
    go_ret
    exact ⟨by rw [unhide HP, str_add t3, unhide N3, unhide N2]; rfl, unhide HB4⟩
  · have hp : macP (nums k) (nums s) = sha (laidK (nums k) 92 ++ sha (laidK (nums k) 54 ++ nums s)) := by rw [macP, nums_len, if_neg h64]
    have HP := hide hp
    clear hp
    obtain ⟨k0, hkk⟩ : ∃ k0, k0 = k := ⟨_, rfl⟩
    have hk0 : k.size ≤ 64 := by omega
    have HB0 := hide (Below.refl w.heap.size w)
    go_enter Tryz.func63, Tryz.ntmps63
    go_wp2_with fail
    subst hkk
    refine (rlaid_any k0 54 hk0 _).mono ?_
    rintro e w1 ⟨rfl, hb1⟩
    have HB1 := hide ((unhide HB0).trans (hb1.mono (unhide HB0).size))
    clear hb1 HB0
    have hl1 : (laidK (nums k0) 54).length = 64 := laidK_len _ _ (by rw [nums_len]; exact hk0)
    have n1 : (strOfNums (laidK (nums k0) 54)).size = 64 := by rw [strOfNums_size, hl1]
    have N1 := hide (nums_strOfNums _ (laidK_bytes (nums k0) 54))
    generalize strOfNums (laidK (nums k0) 54) = t1 at *
    clear hl1
    go_wp2_with fail
    refine (rsum_any (t1 ++ s) (by rw [ByteArray.size_append]; omega) _).mono ?_
    rintro e w2 ⟨rfl, hb2⟩
    have HB2 := hide ((unhide HB1).trans (hb2.mono (unhide HB1).size))
    clear hb2 HB1
    have n2 : (strOfNums (sha (nums (t1 ++ s)))).size = 32 := by rw [strOfNums_size, sha_len]
    have N2 : Hid (nums (strOfNums (sha (nums (t1 ++ s)))) = sha (laidK (nums k0) 54 ++ nums s)) := by
      have e : nums (strOfNums (sha (nums (t1 ++ s)))) = sha (laidK (nums k0) 54 ++ nums s) := by rw [nums_strOfNums _ (sha_bytes _), str_add, unhide N1]
      exact e
    generalize strOfNums (sha (nums (t1 ++ s))) = t2 at *
    go_wp2_with fail
    refine (rlaid_any k0 92 hk0 _).mono ?_
    rintro e w3 ⟨rfl, hb3⟩
    have HB3 := hide ((unhide HB2).trans (hb3.mono (unhide HB2).size))
    clear hb3 HB2
    have hl3 : (laidK (nums k0) 92).length = 64 := laidK_len _ _ (by rw [nums_len]; exact hk0)
    have n3 : (strOfNums (laidK (nums k0) 92)).size = 64 := by rw [strOfNums_size, hl3]
    have N3 := hide (nums_strOfNums _ (laidK_bytes (nums k0) 92))
    generalize strOfNums (laidK (nums k0) 92) = t3 at *
    clear hl3
    go_wp2_with fail
    refine (rsum_any (t3 ++ t2) (by rw [ByteArray.size_append]; omega) _).mono ?_
    rintro e w4 ⟨rfl, hb4⟩
    have HB4 := hide ((unhide HB3).trans (hb4.mono (unhide HB3).size))
    clear hb4 HB3
    go_wp2
    go_ret
    exact ⟨by rw [unhide HP, str_add t3, unhide N3, unhide N2]; rfl, unhide HB4⟩
end Go.Proofs.YtifjmldmilmfjaaGreatDoor

namespace Go.Proofs.YtifjmldmilmfjaaGreatDoor
open Go.RowKit
end Go.Proofs.YtifjmldmilmfjaaGreatDoor
