import Derived.Test.YtbnefbncjnfjdaaDoorRsu
namespace Go.Proofs.YtbnefbncjnfjdaaDoor
open Go.RowKit
theorem zeros_at (n t : Nat) : (List.replicate n (0 : Int)).getD t 0 = 0 := by
  rw [List.getD_eq_getElem?_getD, List.getElem?_replicate]
  split <;> rfl
theorem str_add (a b : ByteArray) : nums (a ++ b) = nums a ++ nums b := by simp [nums]
set_option maxRecDepth 100000 in
set_option maxHeartbeats 400000 in
theorem rlaid_any (k : ByteArray) (m : Int) (hk : k.size ≤ 64) (w : World) :
    Calls Tryd.prog 50 #[.string k, .int .u8 m] w fun e w' => e = .returned (.string (strOfNums (laidK (nums k) m))) ∧ Below w.heap.size w w' := by
  have hkl : (nums k).length ≤ 64 := by rw [nums_len]; exact hk
  have hpl := pad64_len (nums k) hkl
  have hll : (laidK (nums k) m).length = 64 := by simp [laidK, hpl]
  have hmk := fun W => run_make_u8 64 64 (by omega) (by omega) W
  simp only [Int.cast_ofNat_Int] at hmk
  go_enter Tryd.func50, Tryd.ntmps50
  go_wp2
  clear hmk
  go_loopw [6] (fun i wr => ∃ t : Nat, t ≤ 64 ∧ i = .int .i64 t ∧ KeyInv w ((laidK (nums k) m).take t ++ (List.replicate 64 0).drop t) wr) (fun i _ => 64 - (intOf i).toNat)
  case atStart =>
    have h : KeyInv w (List.replicate 64 0) _ := ⟨arr_new w .u8 (List.replicate 64 0) 5 _ rfl, (Below.refl _ _).alloc (Nat.le_refl _) _, by simp⟩
    exact ⟨0, by omega, rfl, h⟩
  case round =>
    obtain ⟨t, ht, rfl, hI⟩ := hrel
    by_cases htl : t < 64
    · have hlen : ((laidK (nums k) m).take t ++ (List.replicate 64 (0 : Int)).drop t).length = 64 := by simp [hll]; omega
      have c1 := hI.1.get0 t (by omega)
      have f1 := hI.1.free0 t (by omega)
      rw [getD_take_drop _ _ _ (by omega)] at c1
      rw [zeros_at] at c1
      have hv : (laidK (nums k) m).getD t 0 = bits .xor .u8 ((pad64 (nums k)).getD t 0) m := by
        have : t < (pad64 (nums k)).length := by omega
        simp [laidK, xb, this]
      have HE := hide (take_set (laidK (nums k) m) (List.replicate 64 0) t _ (by omega) (by simp; omega) hv.symm)
      have HI := hide hI
      have HLEN := hide hlen
      clear hI hlen hv hll
      by_cases htk : t < k.size
      · have hix := index_str k t htk
        have hpd : (pad64 (nums k)).getD t 0 = (nums k).getD t 0 := by
          simp [pad64, List.getElem?_append, nums_len, htk]
        rw [hpd] at HE
        generalize (nums k).getD t 0 = x at *
        clear hpd hpl
        go_wp2
        go_roundw
        case rel => exact ⟨t + 1, by omega, by go_num, ((unhide HI).put t (by rw [unhide HLEN]; omega) x rfl).put t (by rw [List.length_set, unhide HLEN]; omega) _ (by rw [List.set_set]; exact unhide HE)⟩
        case measure => simp [intOf]; omega
      · have hpd : (pad64 (nums k)).getD t 0 = 0 := by
          rw [pad64, List.getD_eq_getElem?_getD, List.getElem?_append_right (by rw [nums_len]; omega), ← List.getD_eq_getElem?_getD, zeros_at]
        rw [hpd] at HE
        clear hpd hpl
        go_wp2
        go_roundw
        case rel => exact ⟨t + 1, by omega, by go_num, (unhide HI).put t (by rw [unhide HLEN]; omega) _ (unhide HE)⟩
        case measure => simp [intOf]; omega
    · have e64 : t = 64 := by omega
      rw [e64, List.take_of_length_le (by omega), List.drop_of_length_le (by simp), List.append_nil] at hI
      have hcv := run_convert_bytes_arg (P := Tryd.prog) wr 37 5 Tryd.underlying37 Tryd.underlying5 w.heap.size 0 64 64 (laidK (nums k) m) hll (fun i hi => hI.1.get i (by omega)) 9 Tryd.underlying9
      have HB := hide hI.2.1
      clear hI e64
      go_wp2
      go_ret
      exact ⟨rfl, unhide HB⟩
set_option maxRecDepth 100000 in
set_option maxHeartbeats 400000 in
theorem rmac_any (k s : ByteArray) (hk : k.size + 100 ≤ 140737488355328) (hs : s.size + 164 ≤ 140737488355328) (w : World) :
    Calls Tryd.prog 42 #[.string k, .string s] w fun e w' => e = .returned (.string (strOfNums (macP (nums k) (nums s)))) ∧ Below w.heap.size w w' := by
  by_cases h64 : 64 < k.size
  · have hp : macP (nums k) (nums s) = sha (laidK (sha (nums k)) 92 ++ sha (laidK (sha (nums k)) 54 ++ nums s)) := by rw [macP, nums_len, if_pos h64]
    have HP := hide hp
    clear hp
    go_enter Tryd.func42, Tryd.ntmps42
    go_wp2_with fail
    refine (rsum_any k hk w).mono ?_
    rintro e w0 ⟨rfl, hb0⟩
    have hk0 : (strOfNums (sha (nums k))).size ≤ 64 := by rw [strOfNums_size, sha_len]; omega
    have hnk : nums (strOfNums (sha (nums k))) = sha (nums k) := nums_strOfNums _ (sha_bytes _)
    rw [← hnk] at HP
    generalize strOfNums (sha (nums k)) = k0 at *
    have HB0 := hide hb0
    clear hb0 hnk
    go_wp2_with fail
    refine (rlaid_any k0 54 hk0 _).mono ?_
    rintro e w1 ⟨rfl, hb1⟩
    have HB1 := hide ((unhide HB0).trans (hb1.mono (unhide HB0).size))
    clear hb1 HB0
    have hl1 : (laidK (nums k0) 54).length = 64 := laidK_len _ _ (by rw [nums_len]; exact hk0)
    have n1 : (strOfNums (laidK (nums k0) 54)).size = 64 := by rw [strOfNums_size, hl1]
    have N1 := hide (nums_strOfNums _ (laidK_bytes (nums k0) 54))
    generalize strOfNums (laidK (nums k0) 54) = t1 at *
    clear hl1
    go_wp2_with fail
    refine (rsum_any (t1 ++ s) (by rw [ByteArray.size_append]; omega) _).mono ?_
    rintro e w2 ⟨rfl, hb2⟩
    have HB2 := hide ((unhide HB1).trans (hb2.mono (unhide HB1).size))
    clear hb2 HB1
    have n2 : (strOfNums (sha (nums (t1 ++ s)))).size = 32 := by rw [strOfNums_size, sha_len]
    have N2 : Hid (nums (strOfNums (sha (nums (t1 ++ s)))) = sha (laidK (nums k0) 54 ++ nums s)) := by
      have e : nums (strOfNums (sha (nums (t1 ++ s)))) = sha (laidK (nums k0) 54 ++ nums s) := by rw [nums_strOfNums _ (sha_bytes _), str_add, unhide N1]
      exact e
    generalize strOfNums (sha (nums (t1 ++ s))) = t2 at *
    go_wp2_with fail
    refine (rlaid_any k0 92 hk0 _).mono ?_
    rintro e w3 ⟨rfl, hb3⟩
    have HB3 := hide ((unhide HB2).trans (hb3.mono (unhide HB2).size))
    clear hb3 HB2
    have hl3 : (laidK (nums k0) 92).length = 64 := laidK_len _ _ (by rw [nums_len]; exact hk0)
    have n3 : (strOfNums (laidK (nums k0) 92)).size = 64 := by rw [strOfNums_size, hl3]
    have N3 := hide (nums_strOfNums _ (laidK_bytes (nums k0) 92))
    generalize strOfNums (laidK (nums k0) 92) = t3 at *
    clear hl3
    go_wp2_with fail
    refine (rsum_any (t3 ++ t2) (by rw [ByteArray.size_append]; omega) _).mono ?_
    rintro e w4 ⟨rfl, hb4⟩
    have HB4 := hide ((unhide HB3).trans (hb4.mono (unhide HB3).size))
    clear hb4 HB3
    go_wp2
    go_ret
    exact ⟨by rw [unhide HP, str_add t3, unhide N3, unhide N2]; rfl, unhide HB4⟩
  · have hp : macP (nums k) (nums s) = sha (laidK (nums k) 92 ++ sha (laidK (nums k) 54 ++ nums s)) := by rw [macP, nums_len, if_neg h64]
    have HP := hide hp
    clear hp
    obtain ⟨k0, hkk⟩ : ∃ k0, k0 = k := ⟨_, rfl⟩
    have hk0 : k.size ≤ 64 := by omega
    have HB0 := hide (Below.refl w.heap.size w)
    go_enter Tryd.func42, Tryd.ntmps42
    go_wp2_with fail
    subst hkk
    refine (rlaid_any k0 54 hk0 _).mono ?_
    rintro e w1 ⟨rfl, hb1⟩
    have HB1 := hide ((unhide HB0).trans (hb1.mono (unhide HB0).size))
    clear hb1 HB0
    have hl1 : (laidK (nums k0) 54).length = 64 := laidK_len _ _ (by rw [nums_len]; exact hk0)
    have n1 : (strOfNums (laidK (nums k0) 54)).size = 64 := by rw [strOfNums_size, hl1]
    have N1 := hide (nums_strOfNums _ (laidK_bytes (nums k0) 54))
    generalize strOfNums (laidK (nums k0) 54) = t1 at *
    clear hl1
    go_wp2_with fail
    refine (rsum_any (t1 ++ s) (by rw [ByteArray.size_append]; omega) _).mono ?_
    rintro e w2 ⟨rfl, hb2⟩
    have HB2 := hide ((unhide HB1).trans (hb2.mono (unhide HB1).size))
    clear hb2 HB1
    have n2 : (strOfNums (sha (nums (t1 ++ s)))).size = 32 := by rw [strOfNums_size, sha_len]
    have N2 : Hid (nums (strOfNums (sha (nums (t1 ++ s)))) = sha (laidK (nums k0) 54 ++ nums s)) := by
      have e : nums (strOfNums (sha (nums (t1 ++ s)))) = sha (laidK (nums k0) 54 ++ nums s) := by rw [nums_strOfNums _ (sha_bytes _), str_add, unhide N1]
      exact e
    generalize strOfNums (sha (nums (t1 ++ s))) = t2 at *
    go_wp2_with fail
    refine (rlaid_any k0 92 hk0 _).mono ?_
    rintro e w3 ⟨rfl, hb3⟩
    have HB3 := hide ((unhide HB2).trans (hb3.mono (unhide HB2).size))
    clear hb3 HB2
    have hl3 : (laidK (nums k0) 92).length = 64 := laidK_len _ _ (by rw [nums_len]; exact hk0)
    have n3 : (strOfNums (laidK (nums k0) 92)).size = 64 := by rw [strOfNums_size, hl3]
    have N3 := hide (nums_strOfNums _ (laidK_bytes (nums k0) 92))
    generalize strOfNums (laidK (nums k0) 92) = t3 at *
    clear hl3
    go_wp2_with fail
    refine (rsum_any (t3 ++ t2) (by rw [ByteArray.size_append]; omega) _).mono ?_
    rintro e w4 ⟨rfl, hb4⟩
    have HB4 := hide ((unhide HB3).trans (hb4.mono (unhide HB3).size))
    clear hb4 HB3
    go_wp2
    go_ret
    exact ⟨by rw [unhide HP, str_add t3, unhide N3, unhide N2]; rfl, unhide HB4⟩
end Go.Proofs.YtbnefbncjnfjdaaDoor
