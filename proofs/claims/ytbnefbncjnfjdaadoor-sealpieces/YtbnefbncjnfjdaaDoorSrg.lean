import Derived.Test.YtbnefbncjnfjdaaDoorSrf
import Derived.Test.YtbnefbncjnfjdaaDoorSdg
namespace Go.Proofs.YtbnefbncjnfjdaaDoor
open Go.RowKit
set_option maxHeartbeats 400000 in
theorem rxor_any (key : ByteArray) (f : Int) (s : ByteArray) (hs : s.size ≤ 140737488355328) (w : World) :
    Calls Tryd.prog 23 #[.string key, .int .i64 f, .string s] w fun e w' => e = .returned (.tuple #[.string (xorB key f s), .int .i64 (errP key f s.size)]) ∧ Below w.heap.size w w' := by
  have HC := hide (rstream_any key f s.size w)
  by_cases h : errP key f s.size = 0
  · have hst : streamB key f s.size = strOfNums (partP (nums key) f.toNat s.size) := by rw [streamB, if_pos h]; rfl
    have hxo : xorB key f s = strOfNums (laidP (nums s) (partP (nums key) f.toNat s.size)) := by rw [xorB, if_pos h]
    have hnp : nums (strOfNums (partP (nums key) f.toNat s.size)) = partP (nums key) f.toNat s.size := nums_strOfNums _ (partP_bytes _ _ _)
    have hsp : (strOfNums (partP (nums key) f.toNat s.size)).size = s.size := by rw [← nums_len, hnp, partP_len]
    have HL := hide (fun W => rlaid2_any s (strOfNums (partP (nums key) f.toNat s.size)) (by omega) (by omega) W)
    rw [hnp] at HL
    rw [h, hst] at HC
    rw [h, hxo]
    clear h hst hxo hnp hsp
    generalize strOfNums (partP (nums key) f.toNat s.size) = pt at *
    generalize strOfNums (laidP (nums s) (partP (nums key) f.toNat s.size)) = ct at *
    go_enter Tryd.func23, Tryd.ntmps23
    go_wp2_with fail
    refine (unhide HC).mono ?_
    rintro e w1 ⟨rfl, hB1⟩
    have HB1 := hide hB1
    clear hB1 HC
    go_wp2_with fail
    refine (unhide HL w1).mono ?_
    rintro e w2 ⟨rfl, hB2⟩
    have HB2 := hide ((unhide HB1).trans (hB2.mono (unhide HB1).size))
    clear hB2 HL
    go_wp2
    go_ret2
    exact ⟨rfl, unhide HB2⟩
  · have hst : streamB key f s.size = ⟨#[]⟩ := by rw [streamB, if_neg h]
    have hxo : xorB key f s = ⟨#[]⟩ := by rw [xorB, if_neg h]
    rw [hst] at HC
    rw [hxo]
    clear hst hxo
    generalize errP key f s.size = E at *
    go_enter Tryd.func23, Tryd.ntmps23
    go_wp2_with fail
    refine (unhide HC).mono ?_
    rintro e w1 ⟨rfl, hB1⟩
    have HB1 := hide hB1
    clear hB1 HC
    go_wp2
    go_ret2
    exact ⟨rfl, unhide HB1⟩
set_option maxHeartbeats 400000 in
theorem rblockKey_any (d p : ByteArray) (w : World) :
    Calls Tryd.prog 24 #[.string d, .string p] w fun e w' => e = .returned (.tuple #[.string (keyB d p), .int .i64 (errK d p)]) ∧ Below w.heap.size w w' := by
  by_cases h1 : d.size = 32
  · have hdd : ((d.size : Int) != 32) = false := by simp; omega
    by_cases h2 : p.size = 256
    · have h2' : ((p.size : Int) != 256) = false := by simp; omega
      have he : errK d p = 0 := errK_zero.2 ⟨h1, h2⟩
      have hk : keyB d p = macB d p := by rw [keyB, if_pos he]
      have HM := hide (rmac_any d p (by omega) (by omega) w)
      rw [he, hk]
      clear h1 h2 he hk
      go_enter Tryd.func24, Tryd.ntmps24
      go_wp2_with fail
      refine (unhide HM).mono ?_
      rintro e w2 ⟨rfl, hB⟩
      have HB := hide hB
      clear hB
      go_wp2
      go_ret2
      exact ⟨rfl, unhide HB⟩
    · have h2' : ((p.size : Int) != 256) = true := ne_int h2
      have he : errK d p = 23 := errK_23 h1 h2
      have hk : keyB d p = ⟨#[]⟩ := by rw [keyB, if_neg (by omega)]
      rw [he, hk]
      clear h1 h2 he hk
      go_enter Tryd.func24, Tryd.ntmps24
      go_wp2
      go_ret2
      exact ⟨rfl, Below.refl _ _⟩
  · have hdd : ((d.size : Int) != 32) = true := ne_int h1
    have he : errK d p = 20 := errK_20 h1
    have hk : keyB d p = ⟨#[]⟩ := by rw [keyB, if_neg (by omega)]
    rw [he, hk]
    clear h1 he hk
    go_enter Tryd.func24, Tryd.ntmps24
    go_wp2
    go_ret2
    exact ⟨rfl, Below.refl _ _⟩
set_option maxHeartbeats 400000 in
theorem rseal_any (d p : ByteArray) (w : World) :
    Calls Tryd.prog 25 #[.string d, .string p] w fun e w' => e = .returned (.tuple #[.string (chunkB d p), .string (keyB d p), .int .i64 (errK d p)]) ∧ Below w.heap.size w w' := by
  have HC := hide (rblockKey_any d p w)
  by_cases h : errK d p = 0
  · obtain ⟨h1, h2⟩ := errK_zero.1 h
    have hk : keyB d p = macB d p := by rw [keyB, if_pos h]
    have hc : chunkB d p = laidB (macB d p) 0 p := by rw [chunkB, if_pos h]
    have HP := hide (fun W => rpart_any (macB d p) 0 256 (by rw [macB_size]; omega) (by omega) W)
    have hnp : nums (strOfNums (partP (nums (macB d p)) 0 256)) = partP (nums (macB d p)) 0 256 := nums_strOfNums _ (partP_bytes _ _ _)
    have hsp : (strOfNums (partP (nums (macB d p)) 0 256)).size = 256 := by rw [← nums_len, hnp, partP_len]
    have HL := hide (fun W => rlaid2_any p (strOfNums (partP (nums (macB d p)) 0 256)) (by omega) (by omega) W)
    rw [hnp] at HL
    have hlb : laidB (macB d p) 0 p = strOfNums (laidP (nums p) (partP (nums (macB d p)) 0 256)) := by rw [laidB, h2]
    rw [h, hk] at HC
    rw [h, hk, hc, hlb]
    clear h h1 h2 hk hc hnp hsp hlb
    generalize macB d p = k at *
    generalize strOfNums (partP (nums k) 0 256) = pt at *
    generalize strOfNums (laidP (nums p) (partP (nums k) 0 256)) = ct at *
    go_enter Tryd.func25, Tryd.ntmps25
    go_wp2_with fail
    refine (unhide HC).mono ?_
    rintro e w1 ⟨rfl, hB1⟩
    have HB1 := hide hB1
    clear hB1 HC
    go_wp2_with fail
    refine (unhide HP w1).mono ?_
    rintro e w2 ⟨rfl, hB2⟩
    have HB2 := hide ((unhide HB1).trans (hB2.mono (unhide HB1).size))
    clear hB2 HP
    go_wp2_with fail
    refine (unhide HL w2).mono ?_
    rintro e w3 ⟨rfl, hB3⟩
    have HB3 := hide ((unhide HB2).trans (hB3.mono (unhide HB2).size))
    clear hB3 HL
    go_wp2
    go_ret3
    exact ⟨rfl, unhide HB3⟩
  · have hk : keyB d p = ⟨#[]⟩ := by rw [keyB, if_neg h]
    have hc : chunkB d p = ⟨#[]⟩ := by rw [chunkB, if_neg h]
    rw [hk] at HC
    rw [hk, hc]
    clear hk hc
    generalize errK d p = E at *
    go_enter Tryd.func25, Tryd.ntmps25
    go_wp2_with fail
    refine (unhide HC).mono ?_
    rintro e w1 ⟨rfl, hB1⟩
    have HB1 := hide hB1
    clear hB1 HC
    go_wp2
    go_ret3
    exact ⟨rfl, unhide HB1⟩
set_option maxHeartbeats 400000 in
theorem rdigest2_any (c : ByteArray) (w : World) :
    Calls Tryd.prog 26 #[.string c] w fun e w' => e = .returned (.tuple #[.string (digB c), .int .i64 (errD c)]) ∧ Below w.heap.size w w' := by
  by_cases h2 : c.size = 256
  · have h2' : ((c.size : Int) != 256) = false := by simp; omega
    have HM := hide (rsum_any c (by omega) w)
    rw [show digB c = shaB c by rw [digB, if_pos h2], show errD c = 0 by rw [errD, if_pos h2]]
    clear h2
    go_enter Tryd.func26, Tryd.ntmps26
    go_wp2_with fail
    refine (unhide HM).mono ?_
    rintro e w2 ⟨rfl, hB⟩
    have HB := hide hB
    clear hB
    go_wp2
    go_ret2
    exact ⟨rfl, unhide HB⟩
  · have h2' : ((c.size : Int) != 256) = true := ne_int h2
    rw [show digB c = ⟨#[]⟩ by rw [digB, if_neg h2], show errD c = 23 by rw [errD, if_neg h2]]
    clear h2
    go_enter Tryd.func26, Tryd.ntmps26
    go_wp2
    go_ret2
    exact ⟨rfl, Below.refl _ _⟩
end Go.Proofs.YtbnefbncjnfjdaaDoor
