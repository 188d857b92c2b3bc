import Derived.Test.YtffiaogbphgmgaaGreatDoorMz04
import Derived.Test.YtffiaogbphgmgaaGreatDoorMz11
import Derived.Test.YtffiaogbphgmgaaGreatDoorMz03
import Derived.Test.YtffiaogbphgmgaaGreatDoorMz05
import Derived.Deep.RegionHeld3
import Derived.BigQuiet
import Derived.Test.YtffiaogbphgmgaaGreatDoorMz08
import Derived.Test.YtffiaogbphgmgaaGreatDoorMz13
import Derived.Test.YtffiaogbphgmgaaGreatDoorMz09
import Derived.Test.YtffiaogbphgmgaaGreatDoorMz17
import Derived.Test.YtffiaogbphgmgaaGreatDoorMz12
namespace Go.Proofs.YtffiaogbphgmgaaGreatDoor
open Go.RowKit
set_option maxHeartbeats 400000 in
theorem pick5_any (c : Int) (n : Nat) (hn : 0 < n) (hc : I64 c) (w : World) :
    Calls Tryz.prog 7 #[.int .i64 c, .int .i64 (n : Int)] w fun e w' => e = .returned (.int .i64 (pickP c n : Int)) ∧ w' = w := by
  obtain ⟨hc1, hc2⟩ := hc
  have hz : ((n : Int) == 0) = false := by simp; omega
  by_cases h : c < 0
  · have e1 : (-(c + 1)).tmod (n : Int) = (-(c + 1)) % (n : Int) := Int.tmod_eq_emod_of_nonneg (by omega)
    have hp : 0 ≤ (-(c + 1)) % (n : Int) := Int.emod_nonneg _ (by omega)
    have hl : (-(c + 1)) % (n : Int) < (n : Int) := Int.emod_lt_of_pos _ (by omega)
    have HP := hide (show (pickP c n : Int) = (-(c + 1)) % (n : Int) by rw [pickP, if_pos h]; omega)
    go_enter Tryz.func7, Tryz.ntmps7
    go_wp2
    go_ret
    exact ⟨by rw [unhide HP]; rfl, rfl⟩
  · have e1 : c.tmod (n : Int) = c % (n : Int) := Int.tmod_eq_emod_of_nonneg (by omega)
    have hp : 0 ≤ c % (n : Int) := Int.emod_nonneg _ (by omega)
    have hl : c % (n : Int) < (n : Int) := Int.emod_lt_of_pos _ (by omega)
    have HP := hide (show (pickP c n : Int) = c % (n : Int) by rw [pickP, if_neg h]; omega)
    go_enter Tryz.func7, Tryz.ntmps7
    go_wp2
    go_ret
    exact ⟨by rw [unhide HP]; rfl, rfl⟩
theorem pick5_c (c : Int) (n : Nat) (hn : 0 < n) (hc : I64 c) (N : Int) (hN : N = (n : Int)) (w : World) : Calls Tryz.prog 7 #[.int .i64 c, .int .i64 N] w fun e w' => e = .returned (.int .i64 (pickP c n : Int)) ∧ w' = w := by
  subst hN
  exact pick5_any c n hn hc w
theorem zero_nums : zero256 = strOfNums (List.replicate 256 0) := by rw [← rep_zero4, rep_zero]
def shapP (l : List Int) (n : Nat) : List Int := (List.range n).map (fun i => if l.length = 0 then 0 else (l.getD (i % l.length) 0 + ((i / l.length : Nat) : Int)) % 256)
theorem shapP_len (l : List Int) (n : Nat) : (shapP l n).length = n := by simp [shapP]
theorem shapP_getD (l : List Int) (n i : Nat) (hi : i < n) (hl : ¬ l.length = 0) : (shapP l n).getD i 0 = (l.getD (i % l.length) 0 + ((i / l.length : Nat) : Int)) % 256 := by simp [shapP, hi, hl]
theorem shapP_bytes (l : List Int) (n : Nat) : Bytes (shapP l n) := by
  intro j
  by_cases h : j < n
  · by_cases hl : l.length = 0
    · have : (shapP l n).getD j 0 = 0 := by simp [shapP, h, hl]
      rw [this]
      omega
    · rw [shapP_getD l n j h hl]
      omega
  · have : (shapP l n).getD j 0 = 0 := by simp [shapP, h]
    rw [this]
    omega
theorem shapP_nil (l : List Int) (n : Nat) (hl : l.length = 0) : shapP l n = List.replicate n 0 := by
  simp [shapP, hl, List.map_const']
def shapB (s : ByteArray) : ByteArray := strOfNums (shapP (nums s) 256)
theorem shapB_size (s : ByteArray) : (shapB s).size = 256 := by rw [shapB, strOfNums_size, shapP_len]
set_option maxRecDepth 100000 in
set_option maxHeartbeats 400000 in
theorem noughts_any (w : World) : Calls Tryz.prog 15 #[] w fun e w' => e = .returned (.string zero256) ∧ Below w.heap.size w w' := by
  have hmk := run_make_u8 256 256 (by omega) (by omega) w
  have X0 := hide (show KeyInv w (List.replicate 256 0) (w.alloc (.cells ((List.replicate 256 (0 : Int)).map (Value.int .u8)).toArray 5)) from ⟨arr_new w .u8 _ 5 _ rfl, (Below.refl _ _).alloc (Nat.le_refl _) _, by simp⟩)
  generalize hx : w.alloc (.cells ((List.replicate 256 (0 : Int)).map (Value.int .u8)).toArray 5) = x2 at *
  clear hx
  simp only [Int.cast_ofNat_Int] at hmk
  rw [zero_nums]
  obtain ⟨Z, hZ⟩ : ∃ Z, List.replicate 256 (0 : Int) = Z := ⟨_, rfl⟩
  have hZl : Z.length = 256 := by rw [← hZ, List.length_replicate]
  rw [hZ] at X0 ⊢
  have hcv := run_convert_bytes_arg (P := Tryz.prog) x2 67 5 Tryz.underlying67 Tryz.underlying5 w.heap.size 0 256 256 Z hZl (fun i hi => (unhide X0).1.get i (by omega)) 9 Tryz.underlying9
  clear hZ
  go_enter Tryz.func15, Tryz.ntmps15
  go_wp2
  go_ret
  exact ⟨rfl, (unhide X0).2.1⟩
set_option maxRecDepth 100000 in
set_option maxHeartbeats 1000000 in
theorem shaped5_any (s : ByteArray) (hs : s.size ≤ 140737488355328) (w : World) :
    Calls Tryz.prog 11 #[.string s] w fun e w' => e = .returned (.string (shapB s)) ∧ Below w.heap.size w w' := by
  have hmk := run_make_u8 256 256 (by omega) (by omega) w
  have hL := shapP_len (nums s) 256
  have hLg := fun i hi => shapP_getD (nums s) 256 i hi
  have hLn := shapP_nil (nums s) 256
  rw [show shapB s = strOfNums (shapP (nums s) 256) from rfl]
  obtain ⟨Lx, hLx⟩ : ∃ Lx, Lx = shapP (nums s) 256 := ⟨_, rfl⟩
  rw [← hLx] at hL hLg hLn ⊢
  rw [nums_len] at hLg hLn
  clear hLx
  have X0 := hide (show KeyInv w (prtI Lx 0) (w.alloc (.cells ((List.replicate 256 (0 : Int)).map (Value.int .u8)).toArray 5)) from ⟨by rw [prtI, hL]; exact arr_new w .u8 _ 5 _ rfl, (Below.refl _ _).alloc (Nat.le_refl _) _, by simp⟩)
  generalize hx : w.alloc (.cells ((List.replicate 256 (0 : Int)).map (Value.int .u8)).toArray 5) = x2 at *
  clear hx
  simp only [Int.cast_ofNat_Int] at hmk
  go_enter Tryz.func11, Tryz.ntmps11
  go_wp2
  clear hmk
  go_loopw [4] (fun i wr => ∃ t : Nat, t ≤ 256 ∧ i = .int .i64 (t : Int) ∧ Hid (KeyInv w (prtI Lx t) wr)) (fun i _ => 256 - (intOf i).toNat)
  case atStart => exact ⟨0, by omega, rfl, X0⟩
  case round =>
    obtain ⟨t, ht, rfl, HI⟩ := hrel
    clear X0
    by_cases htl : t < 256 ∧ 0 < s.size
    · obtain ⟨htn, hs0⟩ := htl
      have hI := unhide HI
      have hlen : (prtI Lx t).length = 256 := by rw [prtI_len _ _ (by omega), hL]
      have c1 := hI.1.get0 t (by omega)
      have f1 := hI.1.free0 t (by omega)
      obtain ⟨r, hr⟩ : ∃ r, r = t % s.size := ⟨_, rfl⟩
      obtain ⟨q, hq⟩ : ∃ q, q = t / s.size := ⟨_, rfl⟩
      have hrl : r < s.size := by rw [hr]; exact Nat.mod_lt _ hs0
      have hql : q ≤ t := by rw [hq]; exact Nat.div_le_self _ _
      have hmod : Int.tmod (t : Int) (s.size : Int) = (r : Int) := by rw [Int.tmod_eq_emod_of_nonneg (by omega), hr]; exact (Int.natCast_emod t s.size).symm
      have hdiv : Int.tdiv (t : Int) (s.size : Int) = (q : Int) := by rw [Int.tdiv_eq_ediv_of_nonneg (by omega), hq]; exact (Int.natCast_ediv t s.size).symm
      have hv := hLg t htn (by omega)
      rw [← hr, ← hq] at hv
      have hix := index_str s r hrl
      have hbx := nums_bytes s r
      generalize (nums s).getD r 0 = x at *
      have HE := hide (show (prtI Lx t).set t ((x + (q : Int)) % 256) = prtI Lx (t + 1) from by rw [← hv]; exact prtI_step Lx t (by omega))
      have HLEN := hide hlen
      generalize (prtI Lx t).getD t 0 = old at *
      clear hI hlen hLg hL hv hr hq hLn
      have i0 : 0 ≤ (t : Int) := by omega
      have i1 : (t : Int) < 256 := by omega
      have i2 : 0 ≤ (r : Int) := by omega
      have i3 : (r : Int) < (s.size : Int) := by omega
      have hz : ((s.size : Int) == 0) = false := by rw [beq_eq_false_iff_ne]; omega
      have hz2 : ¬ ((s.size : Int) = 0) := by omega
      have hz3 : ¬ s = ByteArray.empty := fun h => by rw [h] at hs0; exact absurd hs0 (by decide)
      have hz4 : s.size ≠ 0 := by omega
      have hs2 : (0 : Int) < (s.size : Int) := by omega
      have w1 : IntKind.u8.wrap (q : Int) = (q : Int) % 256 := IntKind.wrap_u8' _
      have w2 : IntKind.u8.wrap (x + (q : Int) % 256) = (x + (q : Int) % 256) % 256 := IntKind.wrap_u8' _
      have w3 : (x + (q : Int) % 256) % 256 = (x + (q : Int)) % 256 := by omega
      go_wp2
      go_still_tail 15, (by kernel_rfl)
      change wpList _ _ _ _ _ wr.drew
      go_wp2
      go_roundw
      case rel =>
        have h := (unhide HI).put t (by rw [unhide HLEN]; omega) _ (unhide HE)
        exact ⟨t + 1, by omega, by go_num, by first | exact hide ⟨h.1.drew, h.2.1.drew, h.2.2⟩ | (rw [w3]; exact hide ⟨h.1.drew, h.2.1.drew, h.2.2⟩)⟩
      case measure => simp [intOf]; omega
    · have hI := unhide HI
      have hfin : prtI Lx t = Lx := by
        by_cases h0 : s.size = 0
        · rw [prtI, hL, hLn h0, List.take_replicate, List.replicate_append_replicate, show min t 256 + (256 - t) = 256 by omega]
        · rw [prtI, List.take_of_length_le (by omega), hL, show 256 - t = 0 by omega]
          simp
      rw [hfin] at hI
      have hcv := run_convert_bytes_arg (P := Tryz.prog) wr 67 5 Tryz.underlying67 Tryz.underlying5 w.heap.size 0 256 256 Lx hL (fun i hi => hI.1.get i (by omega)) 9 Tryz.underlying9
      have HB := hide hI.2.1
      have HN := hide htl
      clear hI HI hLg hLn hfin htl
      by_cases htn : t < 256
      · have hs0 : s.size = 0 := by have := unhide HN; omega
        have e1 : (t : Int) < 256 := by omega
        have e2 : ¬ (0 : Int) < (s.size : Int) := by omega
        go_wp2
        go_ret
        exact ⟨rfl, unhide HB⟩
      · have e1 : ¬ (t : Int) < 256 := by omega
        go_wp2
        go_ret
        exact ⟨rfl, unhide HB⟩
end Go.Proofs.YtffiaogbphgmgaaGreatDoor

namespace Go.Proofs.YtffiaogbphgmgaaGreatDoor
open Go.RowKit
/-- What a list that may be committed is. -/
structure GoodL (l : List Wr1) : Prop where
  len : l.length ≤ 16
  free : ∀ x ∈ l, 19 ≤ x.1 ∧ x.1 < 128
  nodup : (secs l).Nodup
  size : ∀ x ∈ l, x.2.size = 256
theorem GoodL.nil : GoodL [] := ⟨by simp, fun x hx => (by cases hx), List.nodup_nil, fun x hx => (by cases hx)⟩
theorem GoodL.ref {l : List Wr1} (h : GoodL l) : refE l 128 = 0 := by
  have h1 : l.any (freeP 128) = false := List.any_eq_false.2 (fun x hx => by
    have := h.free x hx
    simp [freeP]
    omega)
  have h2 : l.any longP = false := List.any_eq_false.2 (fun x hx => by
    have := h.size x hx
    simp [longP, this])
  rw [refE, if_neg (by have := h.len; omega), h1, if_neg (by decide), if_neg (fun q => q h.nodup), h2, if_neg (by decide)]
end Go.Proofs.YtffiaogbphgmgaaGreatDoor

namespace Go.Proofs.YtffiaogbphgmgaaGreatDoor
open Go.RowKit
theorem numB_snoc (n x : Int) (k : Nat) (h0 : 0 ≤ x) (h1 : x < 256) : numB (256 * n + x) (k + 1) = numB n k ++ [x] := by
  unfold numB
  rw [List.range_succ, List.map_append]
  congr 1
  · refine List.map_congr_left fun i hi => ?_
    have hik : i < k := List.mem_range.1 hi
    rw [show 8 * (k + 1 - 1 - i) = 8 + 8 * (k - 1 - i) by omega, Int.pow_add, ← Int.ediv_ediv_of_nonneg (by decide)]
    have : (256 * n + x) / 2 ^ 8 = n := by
      have e : (2 : Int) ^ 8 = 256 := by decide
      rw [e]
      omega
    rw [this]
  · simp
    omega
end Go.Proofs.YtffiaogbphgmgaaGreatDoor

namespace Go.Proofs.YtffiaogbphgmgaaGreatDoor
open Go.RowKit
theorem be_numBt : ∀ (k : Nat) (n : Int), 0 ≤ n → n / 2 ^ (8 * k) = 0 → beN (numB n k) = n
  | 0, n, h0, h => by
    have : n = 0 := by simpa using h
    subst this
    rfl
  | k + 1, n, h0, h => by
    have e : n = 256 * (n / 256) + n % 256 := by omega
    have hq : n / 256 / 2 ^ (8 * k) = 0 := by
      rw [show 8 * (k + 1) = 8 + 8 * k by omega, Int.pow_add, ← Int.ediv_ediv_of_nonneg (by decide)] at h
      exact h
    conv => lhs; rw [e]
    rw [numB_snoc _ _ _ (by omega) (by omega), beN_snoc, be_numBt k (n / 256) (by omega) hq]
    omega
theorem ext_right (a b : ByteArray) : (a ++ b).extract a.size (a ++ b).size = b := by
  apply nums_inj
  rw [nums_tail, nums_app, ← nums_len a, List.drop_left]
/-- What is left behind a call that took n. -/
theorem rd_num (n : Int) (k : Nat) (rest : List Int) (hb : Bytes (numB n k ++ rest)) (h1 : 1 ≤ k) (h8 : k ≤ 8) (hf : fitsP n k) (hn : n ≤ 9223372036854775807) :
    numE (k : Int) (strOfNums (numB n k ++ rest)) = 0 ∧ numV (k : Int) (strOfNums (numB n k ++ rest)) = n ∧ rRest (strOfNums (numB n k ++ rest)) 0 k = strOfNums rest := by
  have ht : (nums (strOfNums (numB n k ++ rest))).take ((k : Int).toNat) = numB n k := by
    rw [nums_strOfNums _ hb, Int.toNat_natCast]
    have := numB_len n k
    rw [List.take_append_of_le_length (by omega), List.take_of_length_le (by omega)]
  have hE : numE (k : Int) (strOfNums (numB n k ++ rest)) = 0 := by
    rw [numE, if_neg (by omega), if_neg (by rw [strOfNums_size, List.length_append, numB_len]; omega), ht, be_numBt k n hf.1 hf.2, if_neg (by omega)]
  refine ⟨hE, by rw [numV, if_pos hE, ht, be_numBt k n hf.1 hf.2], ?_⟩
  rw [rRest, if_pos rfl, strOfNums_app]
  have := ext_right (strOfNums (numB n k)) (strOfNums rest)
  rw [strOfNums_size, numB_len] at this
  exact this
end Go.Proofs.YtffiaogbphgmgaaGreatDoor

namespace Go.Proofs.YtffiaogbphgmgaaGreatDoor
open Go.RowKit
/-- A disk that lives, with nothing pending. -/
def rs (L : List ByteArray) (A : List (Nat × Nat)) : DSt := ⟨L, L, [], A, 0, false⟩
def natW (l : List Wr1) : List (Nat × ByteArray) := l.map fun x => (x.1.toNat, x.2)
def actW (l : List Wr1) : List (Nat × Nat) := l.map fun x => (0, x.1.toNat)
def OkW (N : Nat) (l : List Wr1) : Prop := ∀ x ∈ l, 0 ≤ x.1 ∧ x.1 < (N : Int) ∧ x.2.size = 256
theorem lay_alive (l : List Wr1) : ∀ (s : DSt), Alive s → OkW s.last.length l → layR s l = (0, ⟨layP s.last (s.pend ++ natW l), layP s.now (natW l), [], s.acts ++ actW l ++ [(1, 0)], 0, false⟩) := by
  induction l with
  | nil =>
    intro s h _
    obtain ⟨a1, a2⟩ := flushA h
    rw [layR, a1, a2, h.1, h.2]
    simp [natW, actW, layP]
  | cons x r ih =>
    intro s h hk
    obtain ⟨x1, x2⟩ := x
    obtain ⟨k1, k2, k3⟩ := hk (x1, x2) (by simp)
    obtain ⟨j, hj⟩ : ∃ j : Nat, x1 = (j : Int) := ⟨x1.toNat, by omega⟩
    subst hj
    obtain ⟨a1, a2⟩ := writeA h j (by omega) x2 k3
    rw [layR, if_pos a1, a2]
    refine (ih { s with now := s.now.set j x2, pend := s.pend ++ [(j, x2)], acts := s.acts ++ [(0, j)] } ⟨h.1, h.2⟩ (fun y hy => hk y (by simp [hy]))).trans ?_
    simp [natW, actW, layP]
theorem lay_rs (L : List ByteArray) (A : List (Nat × Nat)) (l : List Wr1) (h : OkW L.length l) : layR (rs L A) l = (0, rs (layP L (natW l)) (A ++ actW l ++ [(1, 0)])) := by
  rw [lay_alive l (rs L A) ⟨rfl, rfl⟩ h]
  rfl
theorem fill_ok (l : List Wr1) (h : GoodL l) : OkW 128 (filled l) := fun x hx => by
  rcases List.mem_append.1 hx with hx | hx
  · have := h.free x hx
    exact ⟨by omega, by omega, h.size x hx⟩
  · have := List.eq_of_mem_replicate hx
    subst this
    exact ⟨by decide, by decide, zero256_size⟩
theorem rec_ok (l : List Wr1) (h : GoodL l) : OkW 128 (recL (filled l)) := fun x hx => by
  obtain ⟨i, hi, rfl⟩ := List.mem_map.1 hx
  have hi : i < (filled l).length := List.mem_range.1 hi
  have h16 := filled_len l h.len
  have := fill_ok l h ((filled l).getD i wr0) (by rw [getD_of hi]; exact List.getElem_mem hi)
  refine ⟨?_, ?_, this.2.2⟩
  · show (0 : Int) ≤ ((2 + i : Nat) : Int); omega
  · show ((2 + i : Nat) : Int) < 128; omega
theorem secs16 (l : List Wr1) (h : GoodL l) : (secs (filled l)).length = 16 := by simp [secs, filled_len l h.len]
theorem head_ok (N : Nat) (hN : 1 < N) (n : Nat) (H : List Int) (hH : H.length ≤ 60) : OkW N [(1, headB n H)] := fun x hx => by
  simp at hx
  subst hx
  exact ⟨by show (0 : Int) ≤ 1; decide, by show (1 : Int) < (N : Int); omega, headB_size n H hH⟩
/-- What a commit leaves on a disk that lives. -/
def comL (L : List ByteArray) (nx : Nat) (l : List Wr1) : List ByteArray := layP (layP (layP (layP L (natW (recL (filled l)))) [(1, headB nx (secs (filled l)))]) (natW (filled l))) [(1, headB nx [])]
def comA (l : List Wr1) : List (Nat × Nat) := actW (recL (filled l)) ++ [(1, 0)] ++ ([(0, 1)] ++ [(1, 0)]) ++ (actW (filled l) ++ [(1, 0)]) ++ ([(0, 1)] ++ [(1, 0)])
theorem comL_len (L : List ByteArray) (nx : Nat) (l : List Wr1) : (comL L nx l).length = L.length := by simp only [comL, layP_len]
theorem commit_rs (L : List ByteArray) (A : List (Nat × Nat)) (nx : Nat) (l : List Wr1) (hL : L.length = 128) (h : GoodL l) : commitR (rs L A) nx false l = ⟨0, rs (comL L nx l) (A ++ comA l), (nx + 1) % 4294967296, false⟩ := by
  have hr : refE l ((rs L A).last.length : Int) = 0 := by
    show refE l (L.length : Int) = 0
    rw [hL]
    exact h.ref
  have e1 := lay_rs L A (recL (filled l)) (by rw [hL]; exact rec_ok l h)
  have e2 := lay_rs (layP L (natW (recL (filled l)))) (A ++ actW (recL (filled l)) ++ [(1, 0)]) [(1, headB nx (secs (filled l)))] (head_ok _ (by rw [layP_len, hL]; decide) nx _ (by rw [secs16 l h]; decide))
  have e3 := lay_rs (layP (layP L (natW (recL (filled l)))) (natW [(1, headB nx (secs (filled l)))])) ((A ++ actW (recL (filled l)) ++ [(1, 0)]) ++ actW [(1, headB nx (secs (filled l)))] ++ [(1, 0)]) (filled l) (by rw [layP_len, layP_len, hL]; exact fill_ok l h)
  have e4 := lay_rs (layP (layP (layP L (natW (recL (filled l)))) (natW [(1, headB nx (secs (filled l)))])) (natW (filled l))) (((A ++ actW (recL (filled l)) ++ [(1, 0)]) ++ actW [(1, headB nx (secs (filled l)))] ++ [(1, 0)]) ++ actW (filled l) ++ [(1, 0)]) [(1, headB nx [])] (head_ok _ (by rw [layP_len, layP_len, layP_len, hL]; decide) nx _ (by simp))
  have hR : runsR (rs L A) (runsOf nx l) = (0, rs (comL L nx l) (A ++ comA l)) := by
    rw [runsOf, runsR, e1, if_pos rfl, runsR]
    simp only
    rw [e2, if_pos rfl, runsR]
    simp only
    rw [e3, if_pos rfl, runsR]
    simp only
    rw [e4, if_pos rfl, runsR]
    simp only [comL, comA]
    congr 2
    simp only [List.append_assoc]
    rfl
  rw [commitR, hr, if_neg (by simp), if_neg (by decide), hR, if_pos rfl]
theorem headB_make (n : Nat) (H : List Int) (hn : n < 4294967296) (hH : H.length ≤ 60) : errM 2 (n : Int) (strOfNums (headL H)).size = 0 ∧ headB n H = makeB 2 (n : Int) (strOfNums (headL H)) := by
  have hl := headL_len H hH
  have hE : errM 2 (n : Int) (strOfNums (headL H)).size = 0 := by
    rw [errM, if_neg, if_neg (by rw [strOfNums_size]; omega)]
    rintro (q | q)
    · exact q (fits1j 2 (by decide) (by decide))
    · exact q (fits4j _ (by omega) (by omega))
  refine ⟨hE, ?_⟩
  rw [makeB, if_pos hE, nums_strOfNums _ (headL_bytes H)]
  rfl
theorem rd_one (n : Int) (k : Nat) (rest : List Int) (t : Int) (hb : Bytes (numB n k ++ rest)) (h1 : 1 ≤ k) (h8 : k ≤ 8) (hf : fitsP n k) (hn : n ≤ 9223372036854775807) : rdV ⟨strOfNums (numB n k ++ rest), t, 0⟩ (k : Int) = n ∧ rdS ⟨strOfNums (numB n k ++ rest), t, 0⟩ (k : Int) = ⟨strOfNums rest, t + (k : Int), 0⟩ := by
  obtain ⟨e1, e2, e3⟩ := rd_num n k rest hb h1 h8 hf hn
  refine ⟨by rw [rdV, if_pos rfl, e2], ?_⟩
  rw [rdS, stepR, if_pos rfl, e1, Int.toNat_natCast, e3]
  congr 1
theorem done_nil : doneE (strOfNums []) 0 = 0 := by
  unfold doneE
  rw [if_neg]
  rw [strOfNums_size]
  simp
theorem rhp_clear (n : Nat) (hn : n < 4294967296) (size n' : Int) (H : List Int) (ok : Bool) (h : RHP (headB n []) size n' H ok) : n' = (n : Int) ∧ H = [] ∧ ok = true := by
  obtain ⟨hE, hM⟩ := headB_make n [] hn (by simp)
  obtain ⟨p1, p2, p3, p4⟩ := make_parse 2 (n : Int) (strOfNums (headL [])) hE
  rw [← hM] at p1 p2 p3 p4
  have hb1 : numB 0 1 = [0] := num1 0 (by decide) (by decide)
  obtain ⟨v1, v2⟩ := rd_one 0 1 [] 0 (by rw [hb1]; exact bytes_of (fun x hx => by simp at hx; omega)) (by decide) (by decide) (fits1j 0 (by decide) (by decide)) (by decide)
  have er : rs0 (headB n []) = ⟨strOfNums (numB 0 1 ++ []), 0, 0⟩ := by rw [rs0, p4, headL_nil, hb1]; rfl
  rw [← er] at v1 v2
  rcases h with ⟨q, _⟩ | ⟨_, hn', h⟩
  · exact absurd ⟨p1, p2⟩ q
  · rcases h with ⟨q, _⟩ | ⟨_, rfl, q⟩
    · rw [show ((1 : Nat) : Int) = 1 from rfl] at v1
      rw [v1] at q
      cases q
    · refine ⟨hn'.trans p3, rfl, ?_⟩
      rw [show ((1 : Nat) : Int) = 1 from rfl] at v1 v2
      rw [q, v2, v1]
      simp [done_nil]
end Go.Proofs.YtffiaogbphgmgaaGreatDoor
