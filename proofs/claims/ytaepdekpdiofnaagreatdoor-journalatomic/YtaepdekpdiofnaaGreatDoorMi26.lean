import Derived.Test.YtaepdekpdiofnaaGreatDoorMi08
import Derived.Test.YtaepdekpdiofnaaGreatDoorMi12
import Derived.Test.YtaepdekpdiofnaaGreatDoorMi05
import Derived.Test.YtaepdekpdiofnaaGreatDoorMi06
namespace Go.Proofs.YtaepdekpdiofnaaGreatDoor
open Go.RowKit
set_option maxHeartbeats 400000 in
theorem pick5_any (c : Int) (n : Nat) (hn : 0 < n) (hc : I64 c) (w : World) :
    Calls Tryz.prog 27 #[.int .i64 c, .int .i64 (n : Int)] w fun e w' => e = .returned (.int .i64 (pickP c n : Int)) ∧ w' = w := by
  obtain ⟨hc1, hc2⟩ := hc
  have hz : ((n : Int) == 0) = false := by simp; omega
  by_cases h : c < 0
  · have e1 : (-(c + 1)).tmod (n : Int) = (-(c + 1)) % (n : Int) := Int.tmod_eq_emod_of_nonneg (by omega)
    have hp : 0 ≤ (-(c + 1)) % (n : Int) := Int.emod_nonneg _ (by omega)
    have hl : (-(c + 1)) % (n : Int) < (n : Int) := Int.emod_lt_of_pos _ (by omega)
    have HP := hide (show (pickP c n : Int) = (-(c + 1)) % (n : Int) by rw [pickP, if_pos h]; omega)
    go_enter Tryz.func27, Tryz.ntmps27
    go_wp2
    go_ret
    exact ⟨by rw [unhide HP]; rfl, rfl⟩
  · have e1 : c.tmod (n : Int) = c % (n : Int) := Int.tmod_eq_emod_of_nonneg (by omega)
    have hp : 0 ≤ c % (n : Int) := Int.emod_nonneg _ (by omega)
    have hl : c % (n : Int) < (n : Int) := Int.emod_lt_of_pos _ (by omega)
    have HP := hide (show (pickP c n : Int) = c % (n : Int) by rw [pickP, if_neg h]; omega)
    go_enter Tryz.func27, Tryz.ntmps27
    go_wp2
    go_ret
    exact ⟨by rw [unhide HP]; rfl, rfl⟩
theorem pick5_c (c : Int) (n : Nat) (hn : 0 < n) (hc : I64 c) (N : Int) (hN : N = (n : Int)) (w : World) : Calls Tryz.prog 27 #[.int .i64 c, .int .i64 N] w fun e w' => e = .returned (.int .i64 (pickP c n : Int)) ∧ w' = w := by
  subst hN
  exact pick5_any c n hn hc w
theorem zero_nums : zero256 = strOfNums (List.replicate 256 0) := by rw [← rep_zero4, rep_zero]
def shapP (l : List Int) (n : Nat) : List Int := (List.range n).map (fun i => if l.length = 0 then 0 else (l.getD (i % l.length) 0 + ((i / l.length : Nat) : Int)) % 256)
theorem shapP_len (l : List Int) (n : Nat) : (shapP l n).length = n := by simp [shapP]
theorem shapP_getD (l : List Int) (n i : Nat) (hi : i < n) (hl : ¬ l.length = 0) : (shapP l n).getD i 0 = (l.getD (i % l.length) 0 + ((i / l.length : Nat) : Int)) % 256 := by simp [shapP, hi, hl]
theorem shapP_bytes (l : List Int) (n : Nat) : Bytes (shapP l n) := by
  intro j
  by_cases h : j < n
  · by_cases hl : l.length = 0
    · have : (shapP l n).getD j 0 = 0 := by simp [shapP, h, hl]
      rw [this]
      omega
    · rw [shapP_getD l n j h hl]
      omega
  · have : (shapP l n).getD j 0 = 0 := by simp [shapP, h]
    rw [this]
    omega
theorem shapP_nil (l : List Int) (n : Nat) (hl : l.length = 0) : shapP l n = List.replicate n 0 := by
  simp [shapP, hl, List.map_const']
def shapB (s : ByteArray) : ByteArray := strOfNums (shapP (nums s) 256)
theorem shapB_size (s : ByteArray) : (shapB s).size = 256 := by rw [shapB, strOfNums_size, shapP_len]
set_option maxRecDepth 100000 in
set_option maxHeartbeats 400000 in
theorem noughts_any (w : World) : Calls Tryz.prog 21 #[] w fun e w' => e = .returned (.string zero256) ∧ Below w.heap.size w w' := by
  have hmk := run_make_u8 256 256 (by omega) (by omega) w
  have X0 := hide (show KeyInv w (List.replicate 256 0) (w.alloc (.cells ((List.replicate 256 (0 : Int)).map (Value.int .u8)).toArray 5)) from ⟨arr_new w .u8 _ 5 _ rfl, (Below.refl _ _).alloc (Nat.le_refl _) _, by simp⟩)
  generalize hx : w.alloc (.cells ((List.replicate 256 (0 : Int)).map (Value.int .u8)).toArray 5) = x2 at *
  clear hx
  simp only [Int.cast_ofNat_Int] at hmk
  rw [zero_nums]
  obtain ⟨Z, hZ⟩ : ∃ Z, List.replicate 256 (0 : Int) = Z := ⟨_, rfl⟩
  have hZl : Z.length = 256 := by rw [← hZ, List.length_replicate]
  rw [hZ] at X0 ⊢
  have hcv := run_convert_bytes_arg (P := Tryz.prog) x2 115 5 Tryz.underlying115 Tryz.underlying5 w.heap.size 0 256 256 Z hZl (fun i hi => (unhide X0).1.get i (by omega)) 9 Tryz.underlying9
  clear hZ
  go_enter Tryz.func21, Tryz.ntmps21
  go_wp2
  go_ret
  exact ⟨rfl, (unhide X0).2.1⟩
set_option maxRecDepth 100000 in
set_option maxHeartbeats 1000000 in
theorem shaped5_any (s : ByteArray) (hs : s.size ≤ 140737488355328) (w : World) :
    Calls Tryz.prog 36 #[.string s] w fun e w' => e = .returned (.string (shapB s)) ∧ Below w.heap.size w w' := by
  have hmk := run_make_u8 256 256 (by omega) (by omega) w
  have hL := shapP_len (nums s) 256
  have hLg := fun i hi => shapP_getD (nums s) 256 i hi
  have hLn := shapP_nil (nums s) 256
  rw [show shapB s = strOfNums (shapP (nums s) 256) from rfl]
  obtain ⟨Lx, hLx⟩ : ∃ Lx, Lx = shapP (nums s) 256 := ⟨_, rfl⟩
  rw [← hLx] at hL hLg hLn ⊢
  rw [nums_len] at hLg hLn
  clear hLx
  have X0 := hide (show KeyInv w (prtI Lx 0) (w.alloc (.cells ((List.replicate 256 (0 : Int)).map (Value.int .u8)).toArray 5)) from ⟨by rw [prtI, hL]; exact arr_new w .u8 _ 5 _ rfl, (Below.refl _ _).alloc (Nat.le_refl _) _, by simp⟩)
  generalize hx : w.alloc (.cells ((List.replicate 256 (0 : Int)).map (Value.int .u8)).toArray 5) = x2 at *
  clear hx
  simp only [Int.cast_ofNat_Int] at hmk
  go_enter Tryz.func36, Tryz.ntmps36
  go_wp2
  clear hmk
  go_loopw [4] (fun i wr => ∃ t : Nat, t ≤ 256 ∧ i = .int .i64 (t : Int) ∧ Hid (KeyInv w (prtI Lx t) wr)) (fun i _ => 256 - (intOf i).toNat)
  case atStart => exact ⟨0, by omega, rfl, X0⟩
  case round =>
    obtain ⟨t, ht, rfl, HI⟩ := hrel
    clear X0
    by_cases htl : t < 256 ∧ 0 < s.size
    · obtain ⟨htn, hs0⟩ := htl
      have hI := unhide HI
      have hlen : (prtI Lx t).length = 256 := by rw [prtI_len _ _ (by omega), hL]
      have c1 := hI.1.get0 t (by omega)
      have f1 := hI.1.free0 t (by omega)
      obtain ⟨r, hr⟩ : ∃ r, r = t % s.size := ⟨_, rfl⟩
      obtain ⟨q, hq⟩ : ∃ q, q = t / s.size := ⟨_, rfl⟩
      have hrl : r < s.size := by rw [hr]; exact Nat.mod_lt _ hs0
      have hql : q ≤ t := by rw [hq]; exact Nat.div_le_self _ _
      have hmod : Int.tmod (t : Int) (s.size : Int) = (r : Int) := by rw [Int.tmod_eq_emod_of_nonneg (by omega), hr]; exact (Int.natCast_emod t s.size).symm
      have hdiv : Int.tdiv (t : Int) (s.size : Int) = (q : Int) := by rw [Int.tdiv_eq_ediv_of_nonneg (by omega), hq]; exact (Int.natCast_ediv t s.size).symm
      have hv := hLg t htn (by omega)
      rw [← hr, ← hq] at hv
      have hix := index_str s r hrl
      have hbx := nums_bytes s r
      generalize (nums s).getD r 0 = x at *
      have HE := hide (show (prtI Lx t).set t ((x + (q : Int)) % 256) = prtI Lx (t + 1) from by rw [← hv]; exact prtI_step Lx t (by omega))
      have HLEN := hide hlen
      generalize (prtI Lx t).getD t 0 = old at *
      clear hI hlen hLg hL hv hr hq hLn
      have i0 : 0 ≤ (t : Int) := by omega
      have i1 : (t : Int) < 256 := by omega
      have i2 : 0 ≤ (r : Int) := by omega
      have i3 : (r : Int) < (s.size : Int) := by omega
      have hz : ((s.size : Int) == 0) = false := by rw [beq_eq_false_iff_ne]; omega
      have hz2 : ¬ ((s.size : Int) = 0) := by omega
      have hz3 : ¬ s = ByteArray.empty := fun h => by rw [h] at hs0; exact absurd hs0 (by decide)
      have hz4 : s.size ≠ 0 := by omega
      have hs2 : (0 : Int) < (s.size : Int) := by omega
      have w1 : IntKind.u8.wrap (q : Int) = (q : Int) % 256 := IntKind.wrap_u8' _
      have w2 : IntKind.u8.wrap (x + (q : Int) % 256) = (x + (q : Int) % 256) % 256 := IntKind.wrap_u8' _
      have w3 : (x + (q : Int) % 256) % 256 = (x + (q : Int)) % 256 := by omega
      go_wp2
      go_still_tail 15, (by kernel_rfl)
      change wpList _ _ _ _ _ wr.drew
      go_wp2
      go_roundw
      case rel =>
        have h := (unhide HI).put t (by rw [unhide HLEN]; omega) _ (unhide HE)
        exact ⟨t + 1, by omega, by go_num, by first | exact hide ⟨h.1.drew, h.2.1.drew, h.2.2⟩ | (rw [w3]; exact hide ⟨h.1.drew, h.2.1.drew, h.2.2⟩)⟩
      case measure => simp [intOf]; omega
    · have hI := unhide HI
      have hfin : prtI Lx t = Lx := by
        by_cases h0 : s.size = 0
        · rw [prtI, hL, hLn h0, List.take_replicate, List.replicate_append_replicate, show min t 256 + (256 - t) = 256 by omega]
        · rw [prtI, List.take_of_length_le (by omega), hL, show 256 - t = 0 by omega]
          simp
      rw [hfin] at hI
      have hcv := run_convert_bytes_arg (P := Tryz.prog) wr 115 5 Tryz.underlying115 Tryz.underlying5 w.heap.size 0 256 256 Lx hL (fun i hi => hI.1.get i (by omega)) 9 Tryz.underlying9
      have HB := hide hI.2.1
      have HN := hide htl
      clear hI HI hLg hLn hfin htl
      by_cases htn : t < 256
      · have hs0 : s.size = 0 := by have := unhide HN; omega
        have e1 : (t : Int) < 256 := by omega
        have e2 : ¬ (0 : Int) < (s.size : Int) := by omega
        go_wp2
        go_ret
        exact ⟨rfl, unhide HB⟩
      · have e1 : ¬ (t : Int) < 256 := by omega
        go_wp2
        go_ret
        exact ⟨rfl, unhide HB⟩
end Go.Proofs.YtaepdekpdiofnaaGreatDoor
