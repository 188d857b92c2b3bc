import Derived.Test.YtbnefbncjnfjdaaDoorSaw
import Derived.Test.YtbnefbncjnfjdaaDoorRmc
namespace Go.Proofs.YtbnefbncjnfjdaaDoor
open Go.RowKit
def shapP (l : List Int) (n : Nat) : List Int := (List.range n).map (fun i => if l.length = 0 then 0 else (l.getD (i % l.length) 0 + ((i / l.length : Nat) : Int)) % 256)
theorem shapP_len (l : List Int) (n : Nat) : (shapP l n).length = n := by simp [shapP]
theorem shapP_getD (l : List Int) (n i : Nat) (hi : i < n) (hl : ¬ l.length = 0) : (shapP l n).getD i 0 = (l.getD (i % l.length) 0 + ((i / l.length : Nat) : Int)) % 256 := by simp [shapP, hi, hl]
theorem shapP_bytes (l : List Int) (n : Nat) : Bytes (shapP l n) := by
  intro j
  by_cases h : j < n
  · by_cases hl : l.length = 0
    · have : (shapP l n).getD j 0 = 0 := by simp [shapP, h, hl]
      rw [this]
      omega
    · rw [shapP_getD l n j h hl]
      omega
  · have : (shapP l n).getD j 0 = 0 := by simp [shapP, h]
    rw [this]
    omega
theorem shapP_nil (l : List Int) (n : Nat) (hl : l.length = 0) : shapP l n = List.replicate n 0 := by
  simp [shapP, hl, List.map_const']
def shapB (s : ByteArray) (n : Nat) : ByteArray := strOfNums (shapP (nums s) n)
theorem shapB_size (s : ByteArray) (n : Nat) : (shapB s n).size = n := by rw [← nums_len, shapB, nums_strOfNums _ (shapP_bytes _ _), shapP_len]
set_option maxRecDepth 100000 in
set_option maxHeartbeats 1000000 in
theorem shaped_any (s : ByteArray) (n : Nat) (hn : n ≤ 1000) (hs : s.size ≤ 140737488355328) (w : World) :
    Calls Tryd.prog 10 #[.string s, .int .i64 (n : Int)] w fun e w' => e = .returned (.string (shapB s n)) ∧ Below w.heap.size w w' := by
  have hmk := make_zeros w n (by omega)
  have hL := shapP_len (nums s) n
  have hLg := fun i hi => shapP_getD (nums s) n i hi
  have hLn := shapP_nil (nums s) n
  rw [show shapB s n = strOfNums (shapP (nums s) n) from rfl]
  obtain ⟨Lx, hLx⟩ : ∃ Lx, Lx = shapP (nums s) n := ⟨_, rfl⟩
  rw [← hLx] at hL hLg hLn ⊢
  rw [nums_len] at hLg hLn
  clear hLx
  go_enter Tryd.func10, Tryd.ntmps10
  go_wp2
  clear hmk
  go_loopw [6] (fun i wr => ∃ t : Nat, t ≤ n ∧ i = .int .i64 (t : Int) ∧ Hid (KeyInv w (Lx.take t ++ (List.replicate n 0).drop t) wr)) (fun i _ => n - (intOf i).toNat)
  case atStart =>
    have h : KeyInv w (List.replicate n 0) (w.alloc (Obj.cells (Array.replicate n (Value.int .u8 0)) 5)) := ⟨arr_new w .u8 (List.replicate n 0) 5 _ (by simp), (Below.refl _ _).alloc (Nat.le_refl _) _, by simp⟩
    exact ⟨0, by omega, rfl, hide (by simpa using h)⟩
  case round =>
    obtain ⟨t, ht, rfl, HI⟩ := hrel
    by_cases htl : t < n ∧ 0 < s.size
    · obtain ⟨htn, hs0⟩ := htl
      have hI := unhide HI
      have hlen : (Lx.take t ++ (List.replicate n (0 : Int)).drop t).length = n := by simp [hL]; omega
      have c1 := hI.1.get0 t (by omega)
      have f1 := hI.1.free0 t (by omega)
      rw [getD_take_drop _ _ _ (by omega), zeros_at] at c1
      obtain ⟨r, hr⟩ : ∃ r, r = t % s.size := ⟨_, rfl⟩
      obtain ⟨q, hq⟩ : ∃ q, q = t / s.size := ⟨_, rfl⟩
      have hrl : r < s.size := by rw [hr]; exact Nat.mod_lt _ hs0
      have hql : q ≤ t := by rw [hq]; exact Nat.div_le_self _ _
      have hmod : Int.tmod (t : Int) (s.size : Int) = (r : Int) := by rw [Int.tmod_eq_emod_of_nonneg (by omega), hr]; exact (Int.natCast_emod t s.size).symm
      have hdiv : Int.tdiv (t : Int) (s.size : Int) = (q : Int) := by rw [Int.tdiv_eq_ediv_of_nonneg (by omega), hq]; exact (Int.natCast_ediv t s.size).symm
      have hv := hLg t htn (by omega)
      rw [← hr, ← hq] at hv
      have hix := index_str s r hrl
      have hbx := nums_bytes s r
      generalize (nums s).getD r 0 = x at *
      have HE := hide (take_set Lx (List.replicate n 0) t _ (by omega) (by simp; omega) hv.symm)
      have HLEN := hide hlen
      clear hI hlen hLg hL hv hr hq hLn
      have i0 : 0 ≤ (t : Int) := by omega
      have i1 : (t : Int) < (n : Int) := by omega
      have i2 : 0 ≤ (r : Int) := by omega
      have i3 : (r : Int) < (s.size : Int) := by omega
      have hz : ((s.size : Int) == 0) = false := by rw [beq_eq_false_iff_ne]; omega
      have hz2 : ¬ ((s.size : Int) = 0) := by omega
      have hz3 : ¬ s = ByteArray.empty := fun h => by rw [h] at hs0; exact absurd hs0 (by decide)
      have hz4 : s.size ≠ 0 := by omega
      have hs2 : (0 : Int) < (s.size : Int) := by omega
      have w1 : IntKind.u8.wrap (q : Int) = (q : Int) % 256 := IntKind.wrap_u8' _
      have w2 : IntKind.u8.wrap (x + (q : Int) % 256) = (x + (q : Int) % 256) % 256 := IntKind.wrap_u8' _
      go_wp2
      go_still_tail 15, (by kernel_rfl)
      change wpList _ _ _ _ _ wr.drew
      go_wp2
      go_roundw
      case rel =>
        have h := (unhide HI).put t (by rw [unhide HLEN]; omega) _ (unhide HE)
        exact ⟨t + 1, by omega, by go_num, ⟨h.1.drew, h.2.1.drew, h.2.2⟩⟩
      case measure => simp [intOf]; omega
    · have hI := unhide HI
      have hfin : Lx.take t ++ (List.replicate n (0 : Int)).drop t = Lx := by
        by_cases h0 : s.size = 0
        · rw [hLn h0, List.take_replicate, List.drop_replicate, List.replicate_append_replicate, show min t n + (n - t) = n by omega]
        · rw [List.take_of_length_le (by omega), List.drop_of_length_le (by simp; omega), List.append_nil]
      rw [hfin] at hI
      have hcv := run_convert_bytes_arg (P := Tryd.prog) wr 37 5 Tryd.underlying37 Tryd.underlying5 w.heap.size 0 n n Lx hL (fun i hi => hI.1.get i (by omega)) 9 Tryd.underlying9
      have HB := hide hI.2.1
      have HN := hide htl
      clear hI HI hLg hLn hfin htl
      by_cases htn : t < n
      · have hs0 : s.size = 0 := by have := unhide HN; omega
        have e1 : (t : Int) < (n : Int) := by omega
        have e2 : ¬ (0 : Int) < (s.size : Int) := by omega
        go_wp2
        go_ret
        exact ⟨rfl, unhide HB⟩
      · have e1 : ¬ (t : Int) < (n : Int) := by omega
        go_wp2
        go_ret
        exact ⟨rfl, unhide HB⟩
end Go.Proofs.YtbnefbncjnfjdaaDoor
