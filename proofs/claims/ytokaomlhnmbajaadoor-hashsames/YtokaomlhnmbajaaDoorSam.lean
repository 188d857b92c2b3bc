import Derived.Test.YtokaomlhnmbajaaDoorRsu
import Derived.Test.YtokaomlhnmbajaaDoorKn
import Derived.BigQuiet
namespace Go.Proofs.YtokaomlhnmbajaaDoor
open Go.RowKit
theorem acc_zero (a x y : Int) (ha : 0 ≤ a ∧ a < 256) (hx : 0 ≤ x ∧ x < 256) (hy : 0 ≤ y ∧ y < 256) : bits .or .u8 a (bits .xor .u8 x y) = 0 ↔ a = 0 ∧ x = y := by
  obtain ⟨A, rfl⟩ := Int.eq_ofNat_of_zero_le ha.1
  obtain ⟨X, rfl⟩ := Int.eq_ofNat_of_zero_le hx.1
  obtain ⟨Y, rfl⟩ := Int.eq_ofNat_of_zero_le hy.1
  have hb : X ^^^ Y < 256 := Nat.xor_lt_two_pow (n := 8) (by omega) (by omega)
  rw [u8_xor_nat X Y (by omega) (by omega), u8_or_nat A _ (by omega) hb]
  have h1 : A ||| (X ^^^ Y) = 0 ↔ A = 0 ∧ X = Y := by
    rw [Nat.or_eq_zero_iff]
    refine and_congr_right fun _ => ⟨fun h => Nat.eq_of_testBit_eq fun i => ?_, fun h => by rw [h, Nat.xor_self]⟩
    have := congrArg (·.testBit i) h
    simpa using this
  omega
theorem take_eq (l m : List Int) (k : Nat) (hl : k < l.length) (hm : k < m.length) : l.take (k + 1) = m.take (k + 1) ↔ l.take k = m.take k ∧ l.getD k 0 = m.getD k 0 := by
  rw [List.take_succ_eq_append_getElem hl, List.take_succ_eq_append_getElem hm, List.getD_eq_getElem?_getD, List.getD_eq_getElem?_getD, List.getElem?_eq_getElem hl, List.getElem?_eq_getElem hm]
  constructor
  · intro h
    have := List.append_inj h (by simp; omega)
    simpa using this
  · rintro ⟨h1, h2⟩
    simp at h2
    rw [h1, h2]
theorem nums_inj {s t : ByteArray} (h : nums s = nums t) : s = t := by
  rw [← strOfNums_nums s, ← strOfNums_nums t, h]
set_option maxRecDepth 100000 in
set_option maxHeartbeats 400000 in
theorem same_any (s t : ByteArray) (hs : s.size ≤ 140737488355328) (w : World) :
    Calls Tryd.prog 25 #[.string s, .string t] w fun e w' => e = .returned (.bool (decide (s = t))) ∧ Below w.heap.size w w' := by
  by_cases hsz : s.size = t.size
  · have hsz2 : ((s.size : Int) != (t.size : Int)) = false := by simp [hsz]
    go_enter Tryd.func25, Tryd.ntmps25
    go_wp2
    go_loopw [5, 14] (fun v i wr => ∃ (k : Nat) (a : Int), k ≤ s.size ∧ i = .int .i64 (k : Int) ∧ v = .int .u8 a ∧ 0 ≤ a ∧ a < 256 ∧ (a = 0 ↔ (nums s).take k = (nums t).take k) ∧ Below w.heap.size w wr) (fun _ i _ => s.size - (intOf i).toNat)
    case atStart => exact ⟨0, 0, by omega, rfl, rfl, by omega, by omega, by simp, Below.refl _ _⟩
    case round =>
      obtain ⟨k, a, hk, rfl, rfl, ha0, ha1, hiff, hb⟩ := hrel
      have HB := hide hb
      clear hb
      by_cases hlt : k < s.size
      · have i1 := index_str s k hlt
        have i2 := index_str t k (by omega)
        have b1 := nums_bytes s k
        have b2 := nums_bytes t k
        have HIF := hide (take_eq (nums s) (nums t) k (by rw [nums_len]; omega) (by rw [nums_len]; omega))
        generalize (nums s).getD k 0 = x at *
        generalize (nums t).getD k 0 = y at *
        have HAC := hide (acc_zero a x y ⟨ha0, ha1⟩ b1 b2)
        have HU := hide (bits_u8 .or a (bits .xor .u8 x y))
        have HII := hide hiff
        clear hiff
        go_wp2
        go_quiet (fail)
        go_wp2
        go_roundw
        case rel => exact ⟨k + 1, _, by omega, by go_num, rfl, (unhide HU).1, (unhide HU).2, by rw [unhide HAC, unhide HIF, unhide HII], below_drewN (unhide HB) _⟩
        case measure => simp [intOf]; omega
      · have ek : k = s.size := by omega
        have hst : a = 0 ↔ s = t := by
          rw [hiff, ek, List.take_of_length_le (by rw [nums_len]; omega), List.take_of_length_le (by rw [nums_len]; omega)]
          exact ⟨nums_inj, fun h => by rw [h]⟩
        have HST := hide hst
        clear hst hiff ek
        go_wp2
        go_ret
        refine ⟨?_, unhide HB⟩
        have := unhide HST
        by_cases h : s = t <;> simp [h] at this ⊢ <;> exact this
  · have hsz2 : ((s.size : Int) != (t.size : Int)) = true := by simp; omega
    have hne : ¬ s = t := fun h => hsz (by rw [h])
    go_enter Tryd.func25, Tryd.ntmps25
    go_wp2
    go_ret
    exact ⟨by simp [hne], Below.refl _ _⟩
theorem write_nil (t : ByteArray) (w : World) : Calls Tryd.prog 16 #[.pointer none, .string t] w fun e w' => e = .returned (.tuple #[]) ∧ w' = w := by
  go_enter Tryd.func16, Tryd.ntmps16
  go_wp2
  (try simp only [Exit.inBlock, Exit.then]); refine bodyPost_ret (results_none rfl _ _ _) rfl ?_
  exact ⟨rfl, rfl⟩
theorem clone_nil (w : World) : Calls Tryd.prog 26 #[.pointer none] w fun e w' => e = .returned (.pointer none) ∧ w' = w := by
  go_enter Tryd.func26, Tryd.ntmps26
  go_wp2
  go_ret
  exact ⟨rfl, rfl⟩
set_option maxRecDepth 100000 in
set_option maxHeartbeats 400000 in
theorem sames_walk (s t : ByteArray) (hs : s.size ≤ 140737488351232) (ht : t.size ≤ 140737488351232) (w : World) (hK : KTab w) :
    Calls Tryd.prog 8 #[.string s, .string t] w fun e w' => e = .returned (.bool true) ∧ Below w.heap.size w w' := by
  have HK := hide hK
  clear hK
  have C1 := hide (fun W => same_any s t (by omega) W)
  have C2 := hide (fun W => same_any t s (by omega) W)
  have C3 := hide (fun W => same_any s s (by omega) W)
  have hc : decide (t = s) = decide (s = t) := decide_eq_decide.2 ⟨Eq.symm, Eq.symm⟩
  rw [hc] at C2
  simp only [decide_true] at C3
  have hst : (s.toList == t.toList) = decide (s = t) := by
    rw [ByteArray.toList_eq, ByteArray.toList_eq]
    by_cases h : s = t
    · simp [h]
    · simp [h]
      exact fun h2 => h (Go.WideShapes.bytes_inj (by rw [h2]))
  generalize decide (s = t) = B at *
  clear hc
  go_enter Tryd.func8, Tryd.ntmps8
  go_wp2_with fail
  refine (known_any w (unhide HK)).mono ?_
  rintro e w1 ⟨rfl, hb1⟩
  have HB1 := hide hb1
  clear hb1
  go_wp2_with fail
  refine (write_nil s w1).mono ?_
  rintro e w2 ⟨rfl, rfl⟩
  go_wp2_with fail
  refine (unhide C1 _).mono ?_
  rintro e w3 ⟨rfl, hb3⟩
  have HB3 := hide ((unhide HB1).trans (hb3.mono (unhide HB1).size))
  clear hb3 HB1
  go_wp2_with fail
  refine (unhide C2 _).mono ?_
  rintro e w4 ⟨rfl, hb4⟩
  have HB4 := hide ((unhide HB3).trans (hb4.mono (unhide HB3).size))
  clear hb4 HB3
  go_wp2_with fail
  refine (unhide C3 _).mono ?_
  rintro e w5 ⟨rfl, hb5⟩
  have HB5 := hide ((unhide HB4).trans (hb5.mono (unhide HB4).size))
  clear hb5 HB4
  go_wp2_with fail
  refine (len_nil _).mono ?_
  rintro e w6 ⟨rfl, rfl⟩
  go_wp2_with fail
  refine (clone_nil _).mono ?_
  rintro e w7 ⟨rfl, rfl⟩
  go_wp2_with fail
  refine (msum_nil _ ((unhide HK).below (unhide HB5) (unhide HK).1)).mono ?_
  rintro e w8 ⟨rfl, hb8⟩
  have HB8 := hide ((unhide HB5).trans (hb8.mono (unhide HB5).size))
  clear hb8 HB5
  go_wp2_with fail
  refine (rsum_any ⟨#[]⟩ (by decide) _).mono ?_
  rintro e w9 ⟨rfl, hb9⟩
  have HB9 := hide ((unhide HB8).trans (hb9.mono (unhide HB8).size))
  clear hb9 HB8
  go_wp2
  go_ret
  exact ⟨by simp [nums], unhide HB9⟩
end Go.Proofs.YtokaomlhnmbajaaDoor
