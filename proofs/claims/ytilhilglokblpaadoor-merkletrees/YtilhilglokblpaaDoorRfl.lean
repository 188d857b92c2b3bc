import Derived.Test.YtilhilglokblpaaDoorSha
import Derived.Test.YtilhilglokblpaaDoorBsl
namespace Go.Proofs.YtilhilglokblpaaDoor
open Go.RowKit
theorem lenB_take (n i : Nat) (hi : i < 8) : (lenB n).take (i + 1) = (lenB n).take i ++ [(8 * (n : Int)) / 2 ^ (8 * (7 - i)) % 256] := by
  have h := lenB_at n (7 - i) (by omega)
  rw [show 7 - (7 - i) = i by omega] at h
  rw [List.take_succ_eq_append_getElem (by rw [lenB_len]; exact hi)]
  congr 2
  rw [← h, List.getD_eq_getElem?_getD, List.getElem?_eq_getElem (by rw [lenB_len]; exact hi)]
  rfl
set_option maxRecDepth 100000 in
set_option maxHeartbeats 400000 in
theorem filled_ref (t : ByteArray) (ht : t.size + 100 ≤ 140737488355328) (w : World) :
    Calls Tryd.prog 47 #[.string t] w fun e w' => ∃ b cap, e = .returned (.slice (some ⟨b, 0, none⟩) (padded (nums t)).length cap) ∧ Bsl w' w.heap.size b cap (padded (nums t)) ∧ Below w.heap.size w w' := by
  obtain ⟨cap0, W0, hcv, hB0, hb0⟩ := Bsl.of_string w t (by omega)
  have HB0 := hide hB0
  have Hb0 := hide hb0
  clear hB0 hb0
  have HP := hide (padded_eq (nums t))
  rw [nums_len] at HP
  go_enter Tryd.func47, Tryd.ntmps47
  go_wp2_with (at_builtin; refine wpList_app1 (W0.alloc (Obj.cells #[.int .u8 128] 5)) rfl (.tmp 10) (.tmp 11) rfl w.heap.size w.heap.size cap0 (nums t) t.size (by rw [nums_len]) rfl ((unhide HB0).alloc _) (by have := (unhide Hb0).size; simp; omega) W0.heap.size 128 rfl (by simp) (by omega) ?_; intro b1 cap1 W1 hB1 hb1; have HB1 := hide hB1; have Hb1 := hide (((unhide Hb0).alloc (unhide Hb0).size _).trans hb1); clear hB1 hb1)
  go_loopw [4] (fun v wr => ∃ k b cap : Nat, k ≤ (119 - t.size % 64) % 64 ∧ v = .slice (some ⟨b, 0, none⟩) (t.size + 1 + k) cap ∧ Bsl wr w.heap.size b cap (nums t ++ [128] ++ List.replicate k 0) ∧ Below w.heap.size w wr) (fun v _ => match v with | .slice _ n _ => t.size + 100 - n | _ => 0)
  case atStart => exact ⟨0, b1, cap1, by omega, rfl, by simpa using unhide HB1, unhide Hb1⟩
  case round =>
    clear HB1 Hb1 HB0 Hb0 hcv
    obtain ⟨k, b, cap, hk, rfl, hB, hb⟩ := hrel
    have HB := hide hB
    have Hb := hide hb
    have hll : (nums t ++ [128] ++ List.replicate k (0 : Int)).length = t.size + 1 + k := by simp [nums_len]; omega
    clear hB hb
    by_cases h56 : (t.size + 1 + k) % 64 = 56
    · have hbn : (((t.size : Int) + 1 + (k : Int)) % 64 != 56) = false := by simp; omega
      have HKK := hide (show k = (119 - t.size % 64) % 64 by omega)
      clear h56
      go_wp2
      go_loopw [4, 5] (fun v i wr => ∃ j b cap : Nat, j ≤ 8 ∧ i = .int .i64 (7 - (j : Int)) ∧ v = .slice (some ⟨b, 0, none⟩) (t.size + 1 + k + j) cap ∧ Bsl wr w.heap.size b cap (nums t ++ [128] ++ List.replicate k 0 ++ (lenB t.size).take j) ∧ Below w.heap.size w wr) (fun _ i _ => (intOf i + 1).toNat)
      case atStart => exact ⟨0, b, cap, by omega, rfl, rfl, by simpa using unhide HB, unhide Hb⟩
      case round =>
        clear HB Hb
        obtain ⟨j, b, cap, hj, rfl, rfl, hB, hb⟩ := hrel
        have HB := hide hB
        have Hb := hide hb
        clear hB hb
        by_cases hjl : j < 8
        · have hl2 : (nums t ++ [128] ++ List.replicate k (0 : Int) ++ (lenB t.size).take j).length = t.size + 1 + k + j := by
            rw [List.length_append, hll, List.length_take, lenB_len]; omega
          have HT := hide (lenB_take t.size j hjl)
          have hsh : ((8 : Int) * (7 - (j : Int))).toNat = 8 * (7 - j) := by omega
          go_wp2_with (at_builtin; refine wpList_app1 (wr.alloc (Obj.cells #[.int .u8 (8 * (t.size : Int) / 2 ^ (8 * (7 - j)) % 256)] 5)) rfl (.tmp 24) (.tmp 31) rfl w.heap.size b cap _ (t.size + 1 + k + j) hl2.symm rfl ((unhide HB).alloc _) (by have := (unhide Hb).size; simp; omega) wr.heap.size (8 * (t.size : Int) / 2 ^ (8 * (7 - j)) % 256) rfl (by simp) (by omega) ?_; intro b2 cap2 W2 hB2 hb2; have HB2 := hide hB2; have Hb2 := hide (((unhide Hb).alloc (unhide Hb).size _).trans hb2); clear hB2 hb2)
          go_roundw
          case rel => exact ⟨j + 1, b2, cap2, by omega, congrArg (Value.int .i64) (by omega), rfl, by have := unhide HB2; rw [List.append_assoc _ ((lenB t.size).take j)] at this; rw [unhide HT]; exact this, unhide Hb2⟩
          case measure => simp [intOf]; omega
        · have hj8 : j = 8 := by omega
          have hfin : nums t ++ [128] ++ List.replicate k (0 : Int) ++ (lenB t.size).take j = padded (nums t) := by
            rw [unhide HP, unhide HKK, hj8, List.take_of_length_le (by rw [lenB_len]; omega)]
            simp
          have hpl : (padded (nums t)).length = t.size + 1 + k + j := by
            rw [← hfin, List.length_append, hll, List.length_take, lenB_len]; omega
          have HB2 := hide (unhide HB)
          rw [hfin] at HB2
          have HPL := hide hpl
          clear HB hfin hj8 hpl
          go_wp2
          go_ret
          exact ⟨b, cap, by rw [unhide HPL]; rfl, unhide HB2, unhide Hb⟩
    · have hbn : (((t.size : Int) + 1 + (k : Int)) % 64 != 56) = true := by simp; omega
      go_wp2_with (at_builtin; refine wpList_app1 (wr.alloc (Obj.cells #[.int .u8 0] 5)) rfl (.tmp 17) (.tmp 18) rfl w.heap.size b cap _ (t.size + 1 + k) hll.symm rfl ((unhide HB).alloc _) (by have := (unhide Hb).size; simp; omega) wr.heap.size 0 rfl (by simp) (by omega) ?_; intro b2 cap2 W2 hB2 hb2; have HB2 := hide hB2; have Hb2 := hide (((unhide Hb).alloc (unhide Hb).size _).trans hb2); clear hB2 hb2)
      go_roundw
      case rel => exact ⟨k + 1, b2, cap2, by omega, rfl, by have := unhide HB2; rw [List.append_assoc _ (List.replicate k 0)] at this; rw [List.replicate_succ']; exact this, unhide Hb2⟩
      case measure => simp; omega
end Go.Proofs.YtilhilglokblpaaDoor
