import Derived.Test.YtbnefbncjnfjdaaDoorSlo
import Derived.Test.YtbnefbncjnfjdaaDoorSme
namespace Go.Proofs.YtbnefbncjnfjdaaDoor
open Go.RowKit
/-- Which error a part of a stream has; the part. -/
def errP (key : ByteArray) (f n : Int) : Int := if key.size = 32 then (if 0 ≤ f ∧ 0 ≤ n ∧ f + n ≤ 65536 then 0 else 21) else 20
theorem errP_zero {key : ByteArray} {f n : Int} : errP key f n = 0 ↔ key.size = 32 ∧ 0 ≤ f ∧ 0 ≤ n ∧ f + n ≤ 65536 := by
  unfold errP
  by_cases h1 : key.size = 32
  · by_cases h2 : 0 ≤ f ∧ 0 ≤ n ∧ f + n ≤ 65536
    · simp [h1, h2]
    · simp [h1, h2]
  · simp [h1]
theorem errP_20 {key : ByteArray} {f n : Int} (h : ¬ key.size = 32) : errP key f n = 20 := by simp [errP, h]
theorem errP_21 {key : ByteArray} {f n : Int} (h : key.size = 32) (h2 : ¬ (0 ≤ f ∧ 0 ≤ n ∧ f + n ≤ 65536)) : errP key f n = 21 := by
  unfold errP
  rw [if_pos h, if_neg h2]
def streamB (key : ByteArray) (f n : Int) : ByteArray := if errP key f n = 0 then strOfNums (partP (nums key) f.toNat n.toNat) else ⟨#[]⟩
def xorB (key : ByteArray) (f : Int) (s : ByteArray) : ByteArray := if errP key f s.size = 0 then strOfNums (laidP (nums s) (partP (nums key) f.toNat s.size)) else ⟨#[]⟩
def I64 (x : Int) : Prop := -9223372036854775808 ≤ x ∧ x ≤ 9223372036854775807
set_option maxHeartbeats 400000 in
theorem partErrno_any (key : ByteArray) (f n : Int) (_hf : I64 f) (hn : I64 n) (w : World) :
    Calls Tryd.prog 27 #[.string key, .int .i64 f, .int .i64 n] w fun e w' => e = .returned (.int .i64 (errP key f n)) ∧ w' = w := by
  obtain ⟨hn1, hn2⟩ := hn
  by_cases hk : key.size = 32
  · have hd : decide (key.size = 32) = true := by simp [hk]
    by_cases h1 : f < 0
    · have HE := hide (errP_21 (f := f) (n := n) hk (by omega))
      clear hk
      go_enter Tryd.func27, Tryd.ntmps27
      go_wp2_with fail
      refine (isKey_any key w).mono ?_
      rintro e w1 ⟨rfl, rfl⟩
      rw [hd]
      go_wp2
      go_ret
      exact ⟨by rw [unhide HE]; rfl, rfl⟩
    · by_cases h2 : n < 0
      · have HE := hide (errP_21 (f := f) (n := n) hk (by omega))
        have h1' : 0 ≤ f := by omega
        clear hk
        go_enter Tryd.func27, Tryd.ntmps27
        go_wp2_with fail
        refine (isKey_any key w).mono ?_
        rintro e w1 ⟨rfl, rfl⟩
        rw [hd]
        go_wp2
        go_ret
        exact ⟨by rw [unhide HE]; rfl, rfl⟩
      · have h1' : 0 ≤ f := by omega
        have h2' : 0 ≤ n := by omega
        by_cases h3 : 65536 - n < f
        · have HE := hide (errP_21 (f := f) (n := n) hk (by omega))
          clear hk
          go_enter Tryd.func27, Tryd.ntmps27
          go_wp2_with fail
          refine (isKey_any key w).mono ?_
          rintro e w1 ⟨rfl, rfl⟩
          rw [hd]
          go_wp2
          go_ret
          exact ⟨by rw [unhide HE]; rfl, rfl⟩
        · have HE := hide ((errP_zero (f := f) (n := n)).2 ⟨hk, h1', h2', by omega⟩)
          have h3' : f ≤ 65536 - n := by omega
          clear hk
          go_enter Tryd.func27, Tryd.ntmps27
          go_wp2_with fail
          refine (isKey_any key w).mono ?_
          rintro e w1 ⟨rfl, rfl⟩
          rw [hd]
          go_wp2
          go_ret
          exact ⟨by rw [unhide HE]; rfl, rfl⟩
  · have hd : decide (key.size = 32) = false := by simp [hk]
    have HE := hide (errP_20 (f := f) (n := n) hk)
    clear hk
    go_enter Tryd.func27, Tryd.ntmps27
    go_wp2_with fail
    refine (isKey_any key w).mono ?_
    rintro e w1 ⟨rfl, rfl⟩
    rw [hd]
    go_wp2
    go_ret
    exact ⟨by rw [unhide HE]; rfl, rfl⟩
set_option maxHeartbeats 400000 in
theorem stream_any (key : ByteArray) (f n : Int) (hf : I64 f) (hn : I64 n) (w : World) (hK : KTab w) :
    Calls Tryd.prog 12 #[.string key, .int .i64 f, .int .i64 n] w fun e w' => e = .returned (.tuple #[.string (streamB key f n), .int .i64 (errP key f n)]) ∧ Below w.heap.size w w' := by
  by_cases h : errP key f n = 0
  · obtain ⟨h1, h2, h3, h4⟩ := errP_zero.1 h
    obtain ⟨F, rfl⟩ := Int.eq_ofNat_of_zero_le h2
    obtain ⟨N, rfl⟩ := Int.eq_ofNat_of_zero_le h3
    have HS := hide (show streamB key F N = strOfNums (partP (nums key) F N) by rw [streamB, if_pos h]; rfl)
    have HC := hide (partErrno_any key F N hf hn w)
    have HP := hide (part_any key F N (by omega) (by omega) w hK)
    have H := hide h
    rw [unhide HS, unhide H]
    clear hf hn h h1 h2 h3 h4 hK
    go_enter Tryd.func12, Tryd.ntmps12
    go_wp2_with fail
    refine (unhide HC).mono ?_
    rintro e w1 ⟨rfl, rfl⟩
    rw [unhide H]
    go_wp2_with fail
    refine (unhide HP).mono ?_
    rintro e w2 ⟨b, o, _, _, rfl, hA, hB⟩
    have hcv := run_convert_bytes_arg (P := Tryd.prog) w2 37 5 Tryd.underlying37 Tryd.underlying5 b o N N (partP (nums key) F N) (partP_len _ _ _) (fun i hi => hA.get i (by rw [partP_len]; exact hi)) 9 Tryd.underlying9
    have HB := hide hB
    clear hA hB
    go_wp2
    go_ret2
    exact ⟨rfl, unhide HB⟩
  · have HS := hide (show streamB key f n = ⟨#[]⟩ by rw [streamB, if_neg h])
    have HC := hide (partErrno_any key f n hf hn w)
    rw [unhide HS]
    generalize errP key f n = E at *
    clear hf hn hK
    go_enter Tryd.func12, Tryd.ntmps12
    go_wp2_with fail
    refine (unhide HC).mono ?_
    rintro e w1 ⟨rfl, rfl⟩
    go_wp2
    go_ret2
    exact ⟨rfl, Below.refl _ _⟩
set_option maxHeartbeats 400000 in
theorem xor_any (key : ByteArray) (f : Int) (s : ByteArray) (hf : I64 f) (hs : s.size ≤ 140737488355328) (w : World) (hK : KTab w) :
    Calls Tryd.prog 13 #[.string key, .int .i64 f, .string s] w fun e w' => e = .returned (.tuple #[.string (xorB key f s), .int .i64 (errP key f s.size)]) ∧ Below w.heap.size w w' := by
  have hn : I64 (s.size : Int) := ⟨by omega, by omega⟩
  by_cases h : errP key f s.size = 0
  · obtain ⟨h1, h2, h3, h4⟩ := errP_zero.1 h
    obtain ⟨F, rfl⟩ := Int.eq_ofNat_of_zero_le h2
    have HS := hide (show xorB key F s = strOfNums (laidP (nums s) (partP (nums key) F s.size)) by rw [xorB, if_pos h]; rfl)
    have HC := hide (partErrno_any key F s.size hf hn w)
    have HP := hide (laidOn_any key F s (by omega) (by omega) w hK)
    have H := hide h
    rw [unhide HS, unhide H]
    clear hf hn h h1 h2 h3 h4 hK
    go_enter Tryd.func13, Tryd.ntmps13
    go_wp2_with fail
    refine (unhide HC).mono ?_
    rintro e w1 ⟨rfl, rfl⟩
    rw [unhide H]
    go_wp2_with fail
    refine (unhide HP).mono ?_
    rintro e w2 ⟨rfl, hB⟩
    have HB := hide hB
    clear hB
    go_wp2
    go_ret2
    exact ⟨rfl, unhide HB⟩
  · have HS := hide (show xorB key f s = ⟨#[]⟩ by rw [xorB, if_neg h])
    have HC := hide (partErrno_any key f s.size hf hn w)
    rw [unhide HS]
    generalize errP key f s.size = E at *
    clear hf hn hK
    go_enter Tryd.func13, Tryd.ntmps13
    go_wp2_with fail
    refine (unhide HC).mono ?_
    rintro e w1 ⟨rfl, rfl⟩
    go_wp2
    go_ret2
    exact ⟨rfl, Below.refl _ _⟩
end Go.Proofs.YtbnefbncjnfjdaaDoor
