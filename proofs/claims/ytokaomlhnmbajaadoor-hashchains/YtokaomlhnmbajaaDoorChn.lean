import Derived.Test.YtokaomlhnmbajaaDoorDrv
import Derived.Test.YtokaomlhnmbajaaDoorCut
namespace Go.Proofs.YtokaomlhnmbajaaDoor
open Go.RowKit
theorem ext_nums {a b : ByteArray} (h : nums a = nums b) : a = b := by rw [← strOfNums_nums a, h, strOfNums_nums]
theorem outP_pre (key info : List Int) (j : Nat) : ∀ k, j ≤ k → (outP key info k).take (32 * j) = outP key info j
  | 0, h => by
    have : j = 0 := by omega
    subst this; rfl
  | k + 1, h => by
    by_cases e : j = k + 1
    · subst e
      exact List.take_of_length_le (by rw [outP_len]; omega)
    · rw [outP, List.take_append_of_le_length (by rw [outP_len]; omega), outP_pre key info j k (by omega)]
theorem outP_bytes (key info : List Int) : ∀ k, Bytes (outP key info k)
  | 0 => by intro j; simp [outP]
  | k + 1 => bytes_append (outP_bytes key info k) (tP_bytes _ _ _)
theorem chain_pre (key info : List Int) (a b : Nat) (hb : b ≤ a) :
    (strOfNums ((outP key info ((a + 31) / 32)).take a)).extract 0 b = strOfNums ((outP key info ((b + 31) / 32)).take b) := by
  apply ext_nums
  rw [nums_extract_pre, nums_strOfNums _ (bytes_take (outP_bytes _ _ _) _), nums_strOfNums _ (bytes_take (outP_bytes _ _ _) _), List.take_take, Nat.min_eq_left hb,
    ← outP_pre key info ((b + 31) / 32) ((a + 31) / 32) (by omega), List.take_take, Nat.min_eq_left (by omega)]
theorem nums_extract_any (t : ByteArray) (f m : Nat) : nums (t.extract f (f + m)) = ((nums t).drop f).take m := by
  unfold nums
  simp only [ByteArray.data_extract, Array.toList_extract, List.extract_eq_take_drop, List.map_take, List.map_drop, Nat.add_sub_cancel_left]
theorem chain_piece (key info : List Int) (a k : Nat) (h : 32 * (k + 1) ≤ a) :
    (strOfNums ((outP key info ((a + 31) / 32)).take a)).extract (32 * k) (32 * k + 32) = strOfNums (tP key info (k + 1)) := by
  apply ext_nums
  rw [nums_extract_any, nums_strOfNums _ (bytes_take (outP_bytes _ _ _) _), nums_strOfNums _ (tP_bytes _ _ _), List.drop_take, List.take_take, Nat.min_eq_left (by omega)]
  have h1 : (outP key info ((a + 31) / 32)).take (32 * (k + 1)) = outP key info (k + 1) := outP_pre key info (k + 1) _ (by omega)
  have h2 : ((outP key info ((a + 31) / 32)).drop (32 * k)).take 32 = ((outP key info ((a + 31) / 32)).take (32 * (k + 1))).drop (32 * k) := by
    rw [List.drop_take]
    congr 1
    omega
  rw [h2, h1, outP, List.drop_append_of_le_length (by rw [outP_len]; omega), List.drop_of_length_le (by rw [outP_len]; omega), List.nil_append]
theorem chain_size (key info : List Int) (a : Nat) : (strOfNums ((outP key info ((a + 31) / 32)).take a)).size = a := by
  rw [strOfNums_size, List.length_take, outP_len]; omega
set_option maxRecDepth 100000 in
set_option maxHeartbeats 1000000 in
theorem chains_walk (key info : ByteArray) (hk : key.size < 2305843009213693952) (hi : info.size + 200 < 2305843009213693952) (n m : Int) (hn : -9223372036854775808 ≤ n ∧ n ≤ 9223372036854775807) (hm : -9223372036854775808 ≤ m ∧ m ≤ 9223372036854775807) (w : World) (hK : KTab w) :
    Calls Tryd.prog 6 #[.string key, .string info, .int .i64 n, .int .i64 m] w fun e w' => e = .returned (.bool true) ∧ Below w.heap.size w w' := by
  have HK := hide hK
  clear hK
  go_enter Tryd.func6, Tryd.ntmps6
  go_wp2_with fail
  refine (known_any w (unhide HK)).mono ?_
  rintro e w1 ⟨rfl, hb1⟩
  have HB1 := hide hb1
  clear hb1
  go_wp2_with fail
  refine (pick_any n 8161 (by decide) hn.1 hn.2 _).mono ?_
  rintro e w2 ⟨a, ha, rfl, rfl⟩
  go_wp2_with fail
  refine (pick_any m ((a : Int) + 1) (by omega) hm.1 hm.2 _).mono ?_
  rintro e w3 ⟨b, hb, rfl, rfl⟩
  clear hn hm
  go_wp2_with fail
  refine (derive_any key info a (by omega) hk hi _ ((unhide HK).below (unhide HB1) (unhide HK).1)).mono ?_
  rintro e w4 ⟨rfl, hb4⟩
  have HB4 := hide ((unhide HB1).trans (hb4.mono (unhide HB1).size))
  clear hb4 HB1
  go_wp2_with fail
  refine (derive_any key info b (by omega) hk hi _ ((unhide HK).below (unhide HB4) (unhide HK).1)).mono ?_
  rintro e w5 ⟨rfl, hb5⟩
  have HB5 := hide ((unhide HB4).trans (hb5.mono (unhide HB4).size))
  clear hb5 HB4
  have hpre := chain_pre (nums key) (nums info) a b (by omega)
  have hpc := hide (fun k => chain_piece (nums key) (nums info) a k)
  have hsa := chain_size (nums key) (nums info) a
  have hsb := chain_size (nums key) (nums info) b
  generalize strOfNums ((outP (nums key) (nums info) ((a + 31) / 32)).take a) = S at *
  generalize strOfNums ((outP (nums key) (nums info) ((b + 31) / 32)).take b) = D at *
  go_wp2
  clear hpre
  go_loopw [16, 17] (fun l i wr => ∃ k : Nat, k ≤ 40 ∧ i = .int .i64 ((k : Int) + 1) ∧ l = .string (strOfNums (tP (nums key) (nums info) k)) ∧ Below w.heap.size w wr) (fun _ i _ => 42 - (intOf i).toNat)
  case atStart => exact ⟨0, by omega, rfl, rfl, unhide HB5⟩
  case round =>
    clear HB5
    obtain ⟨k, hk2, rfl, rfl, hB⟩ := hrel
    by_cases hlt : 32 * (k + 1) ≤ a ∧ k + 1 ≤ 40
    · obtain ⟨hl1, hl2⟩ := hlt
      have hcv := fun W : World => run_convert_bytes_arg (P := Tryd.prog) (W.alloc (Obj.cells #[.int .u8 ((k : Int) + 1)] 5)) 39 5 Tryd.underlying39 Tryd.underlying5 W.heap.size 0 1 1 [(k : Int) + 1] rfl (fun i hi => by
        have : i = 0 := by omega
        subst this
        simp) 9 Tryd.underlying9
      have htl := tP_len_le (nums key) (nums info) k
      have hts : (strOfNums (tP (nums key) (nums info) k)).size ≤ 32 := by rw [strOfNums_size]; exact htl
      have hns := nums_strOfNums _ (tP_bytes (nums key) (nums info) k)
      obtain ⟨lt, hlt2⟩ : ∃ lt, lt = strOfNums (tP (nums key) (nums info) k) := ⟨_, rfl⟩
      rw [← hlt2] at hts hns
      rw [← hlt2]
      have hs1 : (lt ++ info).size = lt.size + info.size := ByteArray.size_append
      have hs2 : (strOfNums [(k : Int) + 1]).size = 1 := by rw [strOfNums_size]; rfl
      have hnb : nums (strOfNums [(k : Int) + 1]) = [((k : Int) + 1) % 256] := by
        rw [nums_strOfNums _ (bytes_one _ (by omega) (by omega)), Int.emod_eq_of_lt (by omega) (by omega)]
      obtain ⟨bt, hbt⟩ : ∃ bt, bt = strOfNums [(k : Int) + 1] := ⟨_, rfl⟩
      rw [← hbt] at hs2 hnb
      simp only [← hbt] at hcv
      have hs3 : (lt ++ info).size + bt.size ≤ 9223372036854775807 := by omega
      have hs4 : lt.size + info.size ≤ 9223372036854775807 := by omega
      have hall : nums (lt ++ info ++ bt) = tP (nums key) (nums info) k ++ nums info ++ [((k : Int) + 1) % 256] := by rw [nums_append, nums_append, hns, hnb]
      have hsall : (lt ++ info ++ bt).size + 64 < 2305843009213693952 := by rw [ByteArray.size_append]; omega
      have HMA := hide (fun W (hW : KTab W) => mac_any key (lt ++ info ++ bt) hk hsall W hW)
      rw [hall] at HMA
      have hBa := hB.alloc hB.size (Obj.cells #[.int .u8 ((k : Int) + 1)] 5)
      have hkw := hide ((unhide HK).below hBa (unhide HK).1)
      have HBA := hide hBa
      have hpk : S.extract (32 * (k + 1) - 32) (32 * (k + 1)) = strOfNums (tP (nums key) (nums info) (k + 1)) := by
        have := unhide hpc k hl1
        rw [show 32 * (k + 1) - 32 = 32 * k by omega, show 32 * (k + 1) = 32 * k + 32 by omega]
        exact this
      clear hlt2 hns hB htl hnb hbt hall hsall hBa
      go_wp2_with fail
      refine (unhide HMA _ (unhide hkw)).mono ?_
      rintro e w6 ⟨rfl, hb6⟩
      have HB6 := hide ((unhide HBA).trans (hb6.mono (unhide HBA).size))
      have htn : tP (nums key) (nums info) (k + 1) = macP (nums key) (tP (nums key) (nums info) k ++ nums info ++ [((k : Int) + 1) % 256]) := rfl
      rw [← htn]
      obtain ⟨mt, hmt2⟩ : ∃ mt, mt = strOfNums (tP (nums key) (nums info) (k + 1)) := ⟨_, rfl⟩
      rw [← hmt2] at hpk
      rw [← hmt2]
      have HMT2 := hide hmt2
      clear hb6 htn hmt2 HMA hkw HBA hcv hs1 hs2 hs3 hs4
      go_wp2
      go_roundw
      case rel => exact ⟨k + 1, by omega, congrArg (Value.int .i64) (by omega), by rw [unhide HMT2], unhide HB6⟩
      case measure => simp [intOf]; omega
    · have HB := hide hB
      clear hB
      by_cases hl1 : 32 * (k + 1) ≤ a
      · have hl2 : (40 : Int) < (k : Int) + 1 := by omega
        have hd1 : decide ((k : Int) + 1 ≤ 40) = false := by simp; omega
        clear hlt
        go_wp2_with fail
        refine (derive_neg key info (-1 - (a : Int)) (by omega) _).mono ?_
        rintro e w6 ⟨rfl, rfl⟩
        go_wp2_with fail
        refine (derive_long key info (8161 + (b : Int)) (by omega) _).mono ?_
        rintro e w7 ⟨rfl, rfl⟩
        go_wp2
        go_ret
        exact ⟨rfl, unhide HB⟩
      · have hd1 : decide (32 * ((k : Int) + 1) ≤ (a : Int)) = false := by simp; omega
        clear hlt
        go_wp2_with fail
        refine (derive_neg key info (-1 - (a : Int)) (by omega) _).mono ?_
        rintro e w6 ⟨rfl, rfl⟩
        go_wp2_with fail
        refine (derive_long key info (8161 + (b : Int)) (by omega) _).mono ?_
        rintro e w7 ⟨rfl, rfl⟩
        go_wp2
        go_ret
        exact ⟨rfl, unhide HB⟩
end Go.Proofs.YtokaomlhnmbajaaDoor
