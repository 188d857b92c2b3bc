import Derived.Test.YtaedoagcbkgmbaaPk4
namespace Go.Proofs.Ytaedoagcbkgmbaa
open Go.RowKit
def secK (c : Int) (k : Nat) : List Int := (List.range 256).map (fun j : Nat => if j < k then (c / 2 ^ (8 * j)) % 256 else 0)
def sectorL (c : Int) : List Int := (secK c 8).set 255 (wrap64 (c * 7) % 256)
def sectorB (c : Int) : ByteArray := strOfNums (sectorL c)
theorem secK_len (c : Int) (k : Nat) : (secK c k).length = 256 := by simp [secK]
theorem sectorL_len (c : Int) : (sectorL c).length = 256 := by simp [sectorL, secK_len]
theorem sectorB_size (c : Int) : (sectorB c).size = 256 := by rw [sectorB, strOfNums_size, sectorL_len]
theorem secK_get (c : Int) (k j : Nat) : (secK c k).getD j 0 = if j < k ∧ j < 256 then (c / 2 ^ (8 * j)) % 256 else 0 := by
  by_cases hj : j < 256
  · simp [secK, hj]
  · simp [secK, hj]
theorem secK_step (c : Int) (k : Nat) : (secK c k).set k ((c / 2 ^ (8 * k)) % 256) = secK c (k + 1) := by
  apply List.ext_getElem
  · simp [secK]
  · intro j h1 h2
    simp only [secK, List.getElem_set, List.getElem_map, List.getElem_range]
    by_cases e : k = j
    · subst e; simp
    · rw [if_neg e]
      by_cases h : j < k
      · rw [if_pos h, if_pos (by omega)]
      · rw [if_neg h, if_neg (by omega)]
theorem secK_zero (c : Int) : secK c 0 = List.replicate 256 0 := by
  refine List.eq_replicate_iff.2 ⟨secK_len c 0, fun x hx => ?_⟩
  obtain ⟨j, _, rfl⟩ := List.mem_map.1 hx
  rw [if_neg (Nat.not_lt_zero j)]
theorem sectorL_bytes (c : Int) : Bytes (sectorL c) := by
  intro j
  unfold sectorL
  simp only [List.getD_eq_getElem?_getD, List.getElem?_set]
  have h256 : ∀ x : Int, 0 ≤ x % 256 ∧ x % 256 < 256 := fun x => ⟨Int.emod_nonneg _ (by decide), Int.emod_lt_of_pos _ (by decide)⟩
  split
  · split
    · simpa using h256 _
    · simp
  · have := secK_get c 8 j
    rw [List.getD_eq_getElem?_getD] at this
    rw [this]
    split
    · exact h256 _
    · simp
set_option maxRecDepth 100000 in
set_option maxHeartbeats 2000000 in
theorem sector_any (c : Int) (w : World) :
    Calls Try.prog 14 #[.int .i64 c] w fun e w' => e = .returned (.string (sectorB c)) ∧ Below w.heap.size w w' := by
  have hmk := run_make_u8 256 256 (by omega) (by omega) w
  have X0 := hide (show KeyInv w (secK c 0) (w.alloc (.cells ((List.replicate 256 (0 : Int)).map (Value.int .u8)).toArray 5)) from ⟨by rw [secK_zero]; exact arr_new w .u8 _ 5 _ rfl, (Below.refl _ _).alloc (Nat.le_refl _) _, by simp⟩)
  generalize hx : w.alloc (.cells ((List.replicate 256 (0 : Int)).map (Value.int .u8)).toArray 5) = x2 at *
  clear hx
  simp only [Int.cast_ofNat_Int] at hmk
  go_enter Try.func14, Try.ntmps14
  go_wp2
  clear hmk
  go_loopw [4] (fun i wr => ∃ k : Nat, k ≤ 8 ∧ i = .int .i64 (k : Int) ∧ KeyInv w (secK c k) wr) (fun i _ => 8 - (intOf i).toNat)
  case atStart => exact ⟨0, by omega, rfl, unhide X0⟩
  case round =>
    obtain ⟨k, hk, rfl, hI⟩ := hrel
    clear X0
    by_cases hk8 : k < 8
    · have zz := hI.1.get0 k (by rw [secK_len]; omega)
      have ff := hI.1.free0 k (by rw [secK_len]; omega)
      have HI := hide (hI.put k (by rw [secK_len]; omega) _ (secK_step c k))
      generalize (secK c k).getD k 0 = old at *
      clear hI
      go_wp2
      go_roundw
      case rel => exact ⟨k + 1, by omega, by go_num, unhide HI⟩
      case measure => simp [intOf]; omega
    · have hk' : k = 8 := by omega
      subst hk'
      have zz := hI.1.get0 255 (by rw [secK_len]; omega)
      have ff := hI.1.free0 255 (by rw [secK_len]; omega)
      have hI2 : KeyInv w (sectorL c) _ := hI.put 255 (by rw [secK_len]; omega) (wrap64 (c * 7) % 256) rfl
      have hcv := run_convert_bytes_arg (P := Try.prog) _ 88 5 Try.underlying88 Try.underlying5 w.heap.size 0 256 256 (sectorL c) (sectorL_len c) (fun i hi => hI2.1.get i (by rw [sectorL_len]; omega)) 9 Try.underlying9
      have HI := hide hI2
      generalize (secK c 8).getD 255 0 = old at *
      clear hI hI2 hk8
      go_wp2
      go_ret
      exact ⟨rfl, (unhide HI).2.1⟩
end Go.Proofs.Ytaedoagcbkgmbaa
