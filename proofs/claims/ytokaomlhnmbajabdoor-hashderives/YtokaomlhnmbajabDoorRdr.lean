import Derived.Test.YtokaomlhnmbajabDoorRmc
import Derived.Test.YtokaomlhnmbajabDoorDrv
namespace Go.Proofs.YtokaomlhnmbajabDoor
open Go.RowKit
theorem outP_bytes (key info : List Int) : ∀ k, Bytes (outP key info k)
  | 0 => by intro j; simp [outP]
  | k + 1 => bytes_append (outP_bytes key info k) (tP_bytes key info (k + 1))
theorem nums_pre (t : ByteArray) (n : Nat) : nums (t.extract 0 n) = (nums t).take n := by
  unfold nums
  simp only [ByteArray.data_extract, Array.toList_extract, List.extract_eq_take_drop, List.map_take, List.drop_zero, Nat.sub_zero]
theorem str_pre (L : List Int) (hL : Bytes L) (n : Nat) : (strOfNums L).extract 0 n = strOfNums (L.take n) := by
  rw [← strOfNums_nums ((strOfNums L).extract 0 n), nums_pre, nums_strOfNums _ hL]
set_option maxHeartbeats 400000 in
theorem rderive_neg (key info : ByteArray) (n : Int) (h : n < 0) (w : World) :
    Calls Tryd.prog 15 #[.string key, .string info, .int .i64 n] w fun e w' => e = .returned (.tuple #[.string ⟨#[]⟩, .int .i64 1]) ∧ w' = w := by
  go_enter Tryd.func15, Tryd.ntmps15
  go_wp2
  go_ret2
  exact ⟨rfl, rfl⟩
set_option maxHeartbeats 400000 in
theorem rderive_long (key info : ByteArray) (n : Int) (h : 8160 < n) (w : World) :
    Calls Tryd.prog 15 #[.string key, .string info, .int .i64 n] w fun e w' => e = .returned (.tuple #[.string ⟨#[]⟩, .int .i64 10]) ∧ w' = w := by
  go_enter Tryd.func15, Tryd.ntmps15
  go_wp2
  go_ret2
  exact ⟨rfl, rfl⟩
set_option maxRecDepth 100000 in
set_option maxHeartbeats 400000 in
theorem rderive_any (key info : ByteArray) (n : Nat) (hn : n ≤ 8160) (hk : key.size + 100 ≤ 140737488355328) (hi : info.size + 200 ≤ 140737488355328) (w : World) :
    Calls Tryd.prog 15 #[.string key, .string info, .int .i64 (n : Int)] w fun e w' => e = .returned (.tuple #[.string (strOfNums ((outP (nums key) (nums info) ((n + 31) / 32)).take n)), .int .i64 0]) ∧ Below w.heap.size w w' := by
  go_enter Tryd.func15, Tryd.ntmps15
  go_wp2
  go_loopw [8, 9, 10] (fun v l i wr => ∃ k : Nat, 32 * k < n + 32 ∧ i = .int .i64 ((k : Int) + 1) ∧ v = .string (strOfNums (outP (nums key) (nums info) k)) ∧ l = .string (strOfNums (tP (nums key) (nums info) k)) ∧ Below w.heap.size w wr) (fun _ _ i _ => n + 32 - 32 * (intOf i).toNat)
  case atStart => exact ⟨0, by omega, rfl, rfl, rfl, Below.refl _ _⟩
  case round =>
    obtain ⟨k, hk2, rfl, rfl, rfl, hB⟩ := hrel
    have hol : (strOfNums (outP (nums key) (nums info) k)).size = 32 * k := by rw [strOfNums_size, outP_len]
    by_cases hlt : 32 * k < n
    · have hcv := fun W : World => run_convert_bytes_arg (P := Tryd.prog) (W.alloc (Obj.cells #[.int .u8 ((k : Int) + 1)] 5)) 47 5 Tryd.underlying47 Tryd.underlying5 W.heap.size 0 1 1 [(k : Int) + 1] rfl (fun i hi => by
        have : i = 0 := by omega
        subst this
        simp) 9 Tryd.underlying9
      have hts : (strOfNums (tP (nums key) (nums info) k)).size ≤ 32 := by rw [strOfNums_size]; exact tP_len_le _ _ k
      have hns := nums_strOfNums _ (tP_bytes (nums key) (nums info) k)
      have hno := nums_strOfNums _ (outP_bytes (nums key) (nums info) k)
      obtain ⟨lt, hlt2⟩ : ∃ lt, lt = strOfNums (tP (nums key) (nums info) k) := ⟨_, rfl⟩
      obtain ⟨ot, hot⟩ : ∃ ot, ot = strOfNums (outP (nums key) (nums info) k) := ⟨_, rfl⟩
      rw [← hlt2] at hts hns
      rw [← hot] at hol hno
      rw [← hlt2, ← hot]
      have hs1 : (lt ++ info).size = lt.size + info.size := ByteArray.size_append
      have hs2 : (strOfNums [(k : Int) + 1]).size = 1 := by rw [strOfNums_size]; rfl
      have hnb : nums (strOfNums [(k : Int) + 1]) = [((k : Int) + 1) % 256] := by
        rw [nums_strOfNums _ (bytes_one _ (by omega) (by omega)), Int.emod_eq_of_lt (by omega) (by omega)]
      obtain ⟨bt, hbt⟩ : ∃ bt, bt = strOfNums [(k : Int) + 1] := ⟨_, rfl⟩
      rw [← hbt] at hs2 hnb
      simp only [← hbt] at hcv
      have hs3 : (lt ++ info).size + bt.size ≤ 9223372036854775807 := by omega
      have hs4 : lt.size + info.size ≤ 9223372036854775807 := by omega
      have hall : nums (lt ++ info ++ bt) = tP (nums key) (nums info) k ++ nums info ++ [((k : Int) + 1) % 256] := by rw [nums_append, nums_append, hns, hnb]
      have hsall : (lt ++ info ++ bt).size + 164 ≤ 140737488355328 := by rw [ByteArray.size_append]; omega
      have HMA := hide (fun W => rmac_any key (lt ++ info ++ bt) hk hsall W)
      rw [hall] at HMA
      have htn : tP (nums key) (nums info) (k + 1) = macP (nums key) (tP (nums key) (nums info) k ++ nums info ++ [((k : Int) + 1) % 256]) := rfl
      rw [← htn] at HMA
      have HMT2 := hide (show strOfNums (tP (nums key) (nums info) (k + 1)) = strOfNums (tP (nums key) (nums info) (k + 1)) from rfl)
      have hms : (strOfNums (tP (nums key) (nums info) (k + 1))).size = 32 := by rw [strOfNums_size, tP, mac_len]
      have HOUT : Hid (ot ++ strOfNums (tP (nums key) (nums info) (k + 1)) = strOfNums (outP (nums key) (nums info) (k + 1))) := by
        have h : ot ++ strOfNums (tP (nums key) (nums info) (k + 1)) = strOfNums (outP (nums key) (nums info) (k + 1)) := by
          rw [← strOfNums_nums (ot ++ strOfNums (tP (nums key) (nums info) (k + 1))), nums_append, hno, nums_strOfNums _ (tP_bytes _ _ _), outP]
        exact h
      obtain ⟨mt, hmt⟩ : ∃ mt, mt = strOfNums (tP (nums key) (nums info) (k + 1)) := ⟨_, rfl⟩
      rw [← hmt] at hms HOUT HMA
      have HMT := hide hmt
      have HB := hide hB
      clear hlt2 hot hns hno hnb hbt hall hsall htn hmt hB HMT2
      go_wp2_with fail
      refine (unhide HMA _).mono ?_
      rintro e w1 ⟨rfl, hb1⟩
      change Below (wr.alloc (Obj.cells #[.int .u8 ((k : Int) + 1)] 5)).heap.size _ w1 at hb1
      have hb0 := (unhide HB).alloc (unhide HB).size (Obj.cells #[.int .u8 ((k : Int) + 1)] 5)
      have HB1 := hide (hb0.trans (hb1.mono hb0.size))
      clear hb1 hb0 HB HMA hcv hs1 hs3 hs4
      have hs5 : ot.size + mt.size ≤ 9223372036854775807 := by omega
      go_wp2
      go_roundw
      case rel => exact ⟨k + 1, by omega, congrArg (Value.int .i64) (by omega), by rw [unhide HOUT], by rw [unhide HMT], unhide HB1⟩
      case measure => simp [intOf]; omega
    · have hek : (n + 31) / 32 = k := by omega
      have HP := hide (str_pre _ (outP_bytes (nums key) (nums info) k) n)
      have HE := hide hek
      have HB := hide hB
      generalize hot : strOfNums (outP (nums key) (nums info) k) = ot at *
      clear hB hek hot
      go_wp2
      go_ret2
      exact ⟨by rw [unhide HE, ← unhide HP]; rfl, unhide HB⟩
theorem derives_walk (key info : ByteArray) (n : Int) (hk : key.size ≤ 140737488351232) (hi : info.size ≤ 140737488351232) (w : World) (hK : KTab w) :
    Calls Tryd.prog 4 #[.string key, .string info, .int .i64 n] w fun e w' => e = .returned (.bool true) ∧ Below w.heap.size w w' := by
  have HD : Hid (∃ (t : ByteArray) (x : Int), (∀ W, KTab W → Calls Tryd.prog 14 #[.string key, .string info, .int .i64 n] W fun e w' => e = .returned (.tuple #[.string t, .int .i64 x]) ∧ Below W.heap.size W w') ∧
      ∀ W, Calls Tryd.prog 15 #[.string key, .string info, .int .i64 n] W fun e w' => e = .returned (.tuple #[.string t, .int .i64 x]) ∧ Below W.heap.size W w') := by
    rcases Int.lt_or_le n 0 with h | h
    · exact ⟨_, _, fun W _ => (derive_neg key info n h W).mono fun e w' ⟨a, b⟩ => ⟨a, by rw [b]; exact Below.refl _ _⟩, fun W => (rderive_neg key info n h W).mono fun e w' ⟨a, b⟩ => ⟨a, by rw [b]; exact Below.refl _ _⟩⟩
    · rcases Int.lt_or_le 8160 n with h2 | h2
      · exact ⟨_, _, fun W _ => (derive_long key info n h2 W).mono fun e w' ⟨a, b⟩ => ⟨a, by rw [b]; exact Below.refl _ _⟩, fun W => (rderive_long key info n h2 W).mono fun e w' ⟨a, b⟩ => ⟨a, by rw [b]; exact Below.refl _ _⟩⟩
      · obtain ⟨m, rfl⟩ := Int.eq_ofNat_of_zero_le h
        exact ⟨_, _, fun W hW => derive_any key info m (by omega) (by omega) (by omega) W hW, fun W => rderive_any key info m (by omega) (by omega) (by omega) W⟩
  obtain ⟨t, x, h14, h15⟩ := unhide HD
  have HK := hide hK
  have C1 := hide h14
  have C2 := hide h15
  clear HD hK h14 h15
  go_enter Tryd.func4, Tryd.ntmps4
  go_wp2_with fail
  refine (known_any w (unhide HK)).mono ?_
  rintro e w1 ⟨rfl, hb1⟩
  have HB1 := hide hb1
  clear hb1
  go_wp2_with fail
  refine (unhide C1 _ ((unhide HK).below (unhide HB1) (unhide HK).1)).mono ?_
  rintro e w2 ⟨rfl, hb2⟩
  have HB2 := hide ((unhide HB1).trans (hb2.mono (unhide HB1).size))
  clear hb2 HB1
  go_wp2_with fail
  refine (unhide C2 _).mono ?_
  rintro e w3 ⟨rfl, hb3⟩
  have HB3 := hide ((unhide HB2).trans (hb3.mono (unhide HB2).size))
  clear hb3 HB2
  go_wp2
  go_ret
  exact ⟨by simp, unhide HB3⟩
end Go.Proofs.YtokaomlhnmbajabDoor
