import Derived.Test.YtbnefbncjnfjdaaDoorRsu
import Derived.BigQuiet
namespace Go.Proofs.YtbnefbncjnfjdaaDoor
open Go.RowKit
theorem acc_zero (a x y : Int) (ha : 0 ≤ a ∧ a < 256) (hx : 0 ≤ x ∧ x < 256) (hy : 0 ≤ y ∧ y < 256) : bits .or .u8 a (bits .xor .u8 x y) = 0 ↔ a = 0 ∧ x = y := by
  obtain ⟨A, rfl⟩ := Int.eq_ofNat_of_zero_le ha.1
  obtain ⟨X, rfl⟩ := Int.eq_ofNat_of_zero_le hx.1
  obtain ⟨Y, rfl⟩ := Int.eq_ofNat_of_zero_le hy.1
  have hb : X ^^^ Y < 256 := Nat.xor_lt_two_pow (n := 8) (by omega) (by omega)
  rw [u8_xor_nat X Y (by omega) (by omega), u8_or_nat A _ (by omega) hb]
  have h1 : A ||| (X ^^^ Y) = 0 ↔ A = 0 ∧ X = Y := by
    rw [Nat.or_eq_zero_iff]
    refine and_congr_right fun _ => ⟨fun h => Nat.eq_of_testBit_eq fun i => ?_, fun h => by rw [h, Nat.xor_self]⟩
    have := congrArg (·.testBit i) h
    simpa using this
  omega
theorem take_eq (l m : List Int) (k : Nat) (hl : k < l.length) (hm : k < m.length) : l.take (k + 1) = m.take (k + 1) ↔ l.take k = m.take k ∧ l.getD k 0 = m.getD k 0 := by
  rw [List.take_succ_eq_append_getElem hl, List.take_succ_eq_append_getElem hm, List.getD_eq_getElem?_getD, List.getD_eq_getElem?_getD, List.getElem?_eq_getElem hl, List.getElem?_eq_getElem hm]
  constructor
  · intro h
    have := List.append_inj h (by simp; omega)
    simpa using this
  · rintro ⟨h1, h2⟩
    simp at h2
    rw [h1, h2]
theorem nums_inj {s t : ByteArray} (h : nums s = nums t) : s = t := by
  rw [← strOfNums_nums s, ← strOfNums_nums t, h]
set_option maxRecDepth 100000 in
set_option maxHeartbeats 400000 in
theorem same_any (s t : ByteArray) (hs : s.size ≤ 140737488355328) (w : World) :
    Calls Tryd.prog 35 #[.string s, .string t] w fun e w' => e = .returned (.bool (decide (s = t))) ∧ Below w.heap.size w w' := by
  by_cases hsz : s.size = t.size
  · have hsz2 : ((s.size : Int) != (t.size : Int)) = false := by simp [hsz]
    go_enter Tryd.func35, Tryd.ntmps35
    go_wp2
    go_loopw [5, 14] (fun v i wr => ∃ (k : Nat) (a : Int), k ≤ s.size ∧ i = .int .i64 (k : Int) ∧ v = .int .u8 a ∧ 0 ≤ a ∧ a < 256 ∧ (a = 0 ↔ (nums s).take k = (nums t).take k) ∧ Below w.heap.size w wr) (fun _ i _ => s.size - (intOf i).toNat)
    case atStart => exact ⟨0, 0, by omega, rfl, rfl, by omega, by omega, by simp, Below.refl _ _⟩
    case round =>
      obtain ⟨k, a, hk, rfl, rfl, ha0, ha1, hiff, hb⟩ := hrel
      have HB := hide hb
      clear hb
      by_cases hlt : k < s.size
      · have i1 := index_str s k hlt
        have i2 := index_str t k (by omega)
        have b1 := nums_bytes s k
        have b2 := nums_bytes t k
        have HIF := hide (take_eq (nums s) (nums t) k (by rw [nums_len]; omega) (by rw [nums_len]; omega))
        generalize (nums s).getD k 0 = x at *
        generalize (nums t).getD k 0 = y at *
        have HAC := hide (acc_zero a x y ⟨ha0, ha1⟩ b1 b2)
        have HU := hide (bits_u8 .or a (bits .xor .u8 x y))
        have HII := hide hiff
        clear hiff
        go_wp2
        go_quiet (fail)
        go_wp2
        go_roundw
        case rel => exact ⟨k + 1, _, by omega, by go_num, rfl, (unhide HU).1, (unhide HU).2, by rw [unhide HAC, unhide HIF, unhide HII], below_drewN (unhide HB) _⟩
        case measure => simp [intOf]; omega
      · have ek : k = s.size := by omega
        have hst : a = 0 ↔ s = t := by
          rw [hiff, ek, List.take_of_length_le (by rw [nums_len]; omega), List.take_of_length_le (by rw [nums_len]; omega)]
          exact ⟨nums_inj, fun h => by rw [h]⟩
        have HST := hide hst
        clear hst hiff ek
        go_wp2
        go_ret
        refine ⟨?_, unhide HB⟩
        have := unhide HST
        by_cases h : s = t <;> simp [h] at this ⊢ <;> exact this
  · have hsz2 : ((s.size : Int) != (t.size : Int)) = true := by simp; omega
    have hne : ¬ s = t := fun h => hsz (by rw [h])
    go_enter Tryd.func35, Tryd.ntmps35
    go_wp2
    go_ret
    exact ⟨by simp [hne], Below.refl _ _⟩
end Go.Proofs.YtbnefbncjnfjdaaDoor
