import Derived.Test.YtbnefbncjnfjdaaDoorSst
namespace Go.Proofs.YtbnefbncjnfjdaaDoor
open Go.RowKit
/-- Which error a block has; its key, its chunk. -/
def errK (d p : ByteArray) : Int := if d.size = 32 then (if p.size = 256 then 0 else 23) else 20
theorem errK_zero {d p : ByteArray} : errK d p = 0 ↔ d.size = 32 ∧ p.size = 256 := by
  unfold errK
  by_cases h1 : d.size = 32
  · by_cases h2 : p.size = 256
    · simp [h1, h2]
    · simp [h1, h2]
  · simp [h1]
theorem errK_20 {d p : ByteArray} (h : ¬ d.size = 32) : errK d p = 20 := by simp [errK, h]
theorem errK_23 {d p : ByteArray} (h : d.size = 32) (h2 : ¬ p.size = 256) : errK d p = 23 := by simp [errK, h, h2]
def macB (k s : ByteArray) : ByteArray := strOfNums (macP (nums k) (nums s))
theorem nums_macB (k s : ByteArray) : nums (macB k s) = macP (nums k) (nums s) := nums_strOfNums _ (mac_bytes _ _)
theorem macB_size (k s : ByteArray) : (macB k s).size = 32 := by rw [← nums_len, nums_macB, mac_len]
def shaB (s : ByteArray) : ByteArray := strOfNums (sha (nums s))
def laidB (key : ByteArray) (f : Nat) (s : ByteArray) : ByteArray := strOfNums (laidP (nums s) (partP (nums key) f s.size))
theorem nums_laidB (key : ByteArray) (f : Nat) (s : ByteArray) : nums (laidB key f s) = laidP (nums s) (partP (nums key) f s.size) := nums_strOfNums _ (laidP_bytes _ _)
theorem laidB_size (key : ByteArray) (f : Nat) (s : ByteArray) : (laidB key f s).size = s.size := by rw [← nums_len, nums_laidB, laidP_len, nums_len]
def keyB (d p : ByteArray) : ByteArray := if errK d p = 0 then macB d p else ⟨#[]⟩
def chunkB (d p : ByteArray) : ByteArray := if errK d p = 0 then laidB (macB d p) 0 p else ⟨#[]⟩
def errD (c : ByteArray) : Int := if c.size = 256 then 0 else 23
def digB (c : ByteArray) : ByteArray := if c.size = 256 then shaB c else ⟨#[]⟩
def errO (d k c : ByteArray) : Int := if d.size = 32 ∧ k.size = 32 then (if c.size = 256 then (if macB d (laidB k 0 c) = k then 0 else 22) else 23) else 20
def openB (d k c : ByteArray) : ByteArray := if errO d k c = 0 then laidB k 0 c else ⟨#[]⟩
theorem ne_int {a b : Nat} (h : ¬ a = b) : ((a : Int) != (b : Int)) = true := by simp; omega
set_option maxHeartbeats 400000 in
theorem blockKey_any (d p : ByteArray) (w : World) (hK : KTab w) :
    Calls Tryd.prog 15 #[.string d, .string p] w fun e w' => e = .returned (.tuple #[.string (keyB d p), .int .i64 (errK d p)]) ∧ Below w.heap.size w w' := by
  by_cases h1 : d.size = 32
  · have hdd : decide (d.size = 32) = true := by simp [h1]
    by_cases h2 : p.size = 256
    · have h2' : ((p.size : Int) != 256) = false := by simp; omega
      have he : errK d p = 0 := errK_zero.2 ⟨h1, h2⟩
      have hk : keyB d p = macB d p := by rw [keyB, if_pos he]
      have HM := hide (mac_any d p (by omega) (by omega) w hK)
      rw [he, hk]
      clear hK h1 h2 he hk
      go_enter Tryd.func15, Tryd.ntmps15
      go_wp2_with fail
      refine (isKey_any d w).mono ?_
      rintro e w1 ⟨rfl, rfl⟩
      rw [hdd]
      go_wp2_with fail
      refine (unhide HM).mono ?_
      rintro e w2 ⟨rfl, hB⟩
      have HB := hide hB
      clear hB
      go_wp2
      go_ret2
      exact ⟨rfl, unhide HB⟩
    · have h2' : ((p.size : Int) != 256) = true := ne_int h2
      have he : errK d p = 23 := errK_23 h1 h2
      have hk : keyB d p = ⟨#[]⟩ := by rw [keyB, if_neg (by omega)]
      rw [he, hk]
      clear hK h1 h2 he hk
      go_enter Tryd.func15, Tryd.ntmps15
      go_wp2_with fail
      refine (isKey_any d w).mono ?_
      rintro e w1 ⟨rfl, rfl⟩
      rw [hdd]
      go_wp2
      go_ret2
      exact ⟨rfl, Below.refl _ _⟩
  · have hdd : decide (d.size = 32) = false := by simp [h1]
    have he : errK d p = 20 := errK_20 h1
    have hk : keyB d p = ⟨#[]⟩ := by rw [keyB, if_neg (by omega)]
    rw [he, hk]
    clear hK h1 he hk
    go_enter Tryd.func15, Tryd.ntmps15
    go_wp2_with fail
    refine (isKey_any d w).mono ?_
    rintro e w1 ⟨rfl, rfl⟩
    rw [hdd]
    go_wp2
    go_ret2
    exact ⟨rfl, Below.refl _ _⟩
set_option maxHeartbeats 400000 in
theorem seal_any (d p : ByteArray) (w : World) (hK : KTab w) :
    Calls Tryd.prog 14 #[.string d, .string p] w fun e w' => e = .returned (.tuple #[.string (chunkB d p), .string (keyB d p), .int .i64 (errK d p)]) ∧ Below w.heap.size w w' := by
  have HC := hide (blockKey_any d p w hK)
  by_cases h : errK d p = 0
  · obtain ⟨h1, h2⟩ := errK_zero.1 h
    have hk : keyB d p = macB d p := by rw [keyB, if_pos h]
    have hc : chunkB d p = laidB (macB d p) 0 p := by rw [chunkB, if_pos h]
    have HL := hide (fun W (hKW : KTab W) => laidOn_any (macB d p) 0 p (by rw [macB_size]; omega) (by omega) W hKW)
    rw [h, hk] at HC
    rw [h, hk, hc]
    have HK := hide hK
    clear h h1 h2 hk hc hK
    generalize macB d p = k at *
    go_enter Tryd.func14, Tryd.ntmps14
    go_wp2_with fail
    refine (unhide HC).mono ?_
    rintro e w1 ⟨rfl, hB1⟩
    have HB1 := hide hB1
    clear hB1 HC
    go_wp2_with fail
    refine (unhide HL w1 ((unhide HK).below (unhide HB1) (unhide HK).1)).mono ?_
    rintro e w2 ⟨rfl, hB2⟩
    have HB2 := hide ((unhide HB1).trans (hB2.mono (unhide HB1).size))
    clear hB2 HL
    go_wp2
    go_ret3
    exact ⟨rfl, unhide HB2⟩
  · have hk : keyB d p = ⟨#[]⟩ := by rw [keyB, if_neg h]
    have hc : chunkB d p = ⟨#[]⟩ := by rw [chunkB, if_neg h]
    rw [hk] at HC
    rw [hk, hc]
    clear hk hc hK
    generalize errK d p = E at *
    go_enter Tryd.func14, Tryd.ntmps14
    go_wp2_with fail
    refine (unhide HC).mono ?_
    rintro e w1 ⟨rfl, hB1⟩
    have HB1 := hide hB1
    clear hB1 HC
    go_wp2
    go_ret3
    exact ⟨rfl, unhide HB1⟩
end Go.Proofs.YtbnefbncjnfjdaaDoor
