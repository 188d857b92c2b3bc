import Derived.Test.YtbnefbncjnfjdaaDoorSrp
namespace Go.Proofs.YtbnefbncjnfjdaaDoor
open Go.RowKit
def wthn (f n : Int) : Bool := decide (0 ≤ f ∧ 0 ≤ n ∧ f + n ≤ 65536)
set_option maxHeartbeats 400000 in
theorem within_any (f n : Int) (w : World) :
    Calls Tryd.prog 36 #[.int .i64 f, .int .i64 n] w fun e w' => e = .returned (.bool (wthn f n)) ∧ w' = w := by
  by_cases h1 : 0 ≤ f
  · by_cases h2 : 0 ≤ n
    · by_cases h3 : f ≤ 65536
      · by_cases h4 : n ≤ 65536 - f
        · have HD := hide (show wthn f n = true by simp [wthn]; omega)
          go_enter Tryd.func36, Tryd.ntmps36
          go_wp2
          go_ret
          exact ⟨by rw [unhide HD]; rfl, rfl⟩
        · have HD := hide (show wthn f n = false by simp [wthn]; omega)
          have h4' : 65536 - f < n := by omega
          go_enter Tryd.func36, Tryd.ntmps36
          go_wp2
          go_ret
          exact ⟨by rw [unhide HD]; rfl, rfl⟩
      · have HD := hide (show wthn f n = false by simp [wthn]; omega)
        have h3' : 65536 < f := by omega
        go_enter Tryd.func36, Tryd.ntmps36
        go_wp2
        go_ret
        exact ⟨by rw [unhide HD]; rfl, rfl⟩
    · have HD := hide (show wthn f n = false by simp [wthn]; omega)
      have h2' : n < 0 := by omega
      go_enter Tryd.func36, Tryd.ntmps36
      go_wp2
      go_ret
      exact ⟨by rw [unhide HD]; rfl, rfl⟩
  · have HD := hide (show wthn f n = false by simp [wthn]; omega)
    have h1' : f < 0 := by omega
    go_enter Tryd.func36, Tryd.ntmps36
    go_wp2
    go_ret
    exact ⟨by rw [unhide HD]; rfl, rfl⟩
set_option maxRecDepth 100000 in
set_option maxHeartbeats 1000000 in
theorem rlaid2_any (a b : ByteArray) (hab : a.size ≤ b.size) (ha : a.size ≤ 140737488355328) (w : World) :
    Calls Tryd.prog 41 #[.string a, .string b] w fun e w' => e = .returned (.string (strOfNums (laidP (nums a) (nums b)))) ∧ Below w.heap.size w w' := by
  have hmk := fun W => run_make_u8 a.size a.size (by omega) (by omega) W
  have hL := laidP_len (nums a) (nums b)
  have hLg := fun t => laidP_getD (nums a) (nums b) t
  obtain ⟨Lx, hLx⟩ : ∃ Lx, Lx = laidP (nums a) (nums b) := ⟨_, rfl⟩
  rw [← hLx] at hL hLg ⊢
  rw [nums_len] at hL hLg
  clear hLx
  go_enter Tryd.func41, Tryd.ntmps41
  go_wp2
  clear hmk
  go_loopw [6] (fun i wr => ∃ t : Nat, t ≤ a.size ∧ i = .int .i64 (t : Int) ∧ Hid (KeyInv w (Lx.take t ++ (List.replicate a.size 0).drop t) wr)) (fun i _ => a.size - (intOf i).toNat)
  case atStart =>
    have h : KeyInv w (List.replicate a.size 0) (w.alloc (Obj.cells (Array.replicate a.size (Value.int .u8 0)) 5)) := ⟨arr_new w .u8 (List.replicate a.size 0) 5 _ (by simp), (Below.refl _ _).alloc (Nat.le_refl _) _, by simp⟩
    exact ⟨0, by omega, rfl, hide (by simpa using h)⟩
  case round =>
    obtain ⟨t, ht, rfl, HI⟩ := hrel
    by_cases htl : t < a.size
    · have hI := unhide HI
      have hlen : (Lx.take t ++ (List.replicate a.size (0 : Int)).drop t).length = a.size := by simp [hL]; omega
      have c1 := hI.1.get0 t (by omega)
      have f1 := hI.1.free0 t (by omega)
      rw [getD_take_drop _ _ _ (by omega), zeros_at] at c1
      have hix := index_str a t htl
      have hiy := index_str b t (by omega)
      have HE := hide (take_set Lx (List.replicate a.size 0) t _ (by omega) (by simp; omega) (hLg t htl).symm)
      have HLEN := hide hlen
      clear hI hlen hLg hL
      generalize (nums a).getD t 0 = x at *
      generalize (nums b).getD t 0 = y at *
      have i0 : 0 ≤ (t : Int) := by omega
      have i1 : (t : Int) < (a.size : Int) := by omega
      have i2 : (t : Int) < (b.size : Int) := by omega
      go_wp2
      go_still_tail 10, (by kernel_rfl)
      change wpList _ _ _ _ _ wr.drew
      go_wp2
      go_roundw
      case rel =>
        have h := (unhide HI).put t (by rw [unhide HLEN]; omega) _ (unhide HE)
        exact ⟨t + 1, by omega, by go_num, ⟨h.1.drew, h.2.1.drew, h.2.2⟩⟩
      case measure => simp [intOf]; omega
    · have e64 : t = a.size := by omega
      have hI := unhide HI
      rw [List.take_of_length_le (by omega), List.drop_of_length_le (by simp; omega), List.append_nil] at hI
      have hcv := run_convert_bytes_arg (P := Tryd.prog) wr 37 5 Tryd.underlying37 Tryd.underlying5 w.heap.size 0 a.size a.size Lx (by omega) (fun i hi => hI.1.get i (by omega)) 9 Tryd.underlying9
      have HB := hide hI.2.1
      clear hI HI hLg
      go_wp2
      go_ret
      exact ⟨rfl, unhide HB⟩
set_option maxHeartbeats 400000 in
theorem rstream_any (key : ByteArray) (f n : Int) (w : World) :
    Calls Tryd.prog 20 #[.string key, .int .i64 f, .int .i64 n] w fun e w' => e = .returned (.tuple #[.string (streamB key f n), .int .i64 (errP key f n)]) ∧ Below w.heap.size w w' := by
  by_cases h1 : key.size = 32
  · have h1' : ((key.size : Int) != 32) = false := by simp; omega
    by_cases h2 : 0 ≤ f ∧ 0 ≤ n ∧ f + n ≤ 65536
    · have he : errP key f n = 0 := errP_zero.2 ⟨h1, h2⟩
      have hd : wthn f n = true := by simp [wthn, h2]
      obtain ⟨h2a, h2b, h2c⟩ := h2
      obtain ⟨F, rfl⟩ := Int.eq_ofNat_of_zero_le h2a
      obtain ⟨N, rfl⟩ := Int.eq_ofNat_of_zero_le h2b
      have HS := hide (show streamB key F N = strOfNums (partP (nums key) F N) by rw [streamB, if_pos he]; rfl)
      have HP := hide (rpart_any key F N (by omega) (by omega) w)
      rw [unhide HS, he]
      have HD := hide hd
      clear h2a h2b h2c he h1 hd
      go_enter Tryd.func20, Tryd.ntmps20
      go_wp2_with fail
      refine (within_any F N w).mono ?_
      rintro e w1 ⟨rfl, rfl⟩
      rw [unhide HD]
      go_wp2_with fail
      refine (unhide HP).mono ?_
      rintro e w2 ⟨rfl, hB⟩
      have HB := hide hB
      clear hB
      go_wp2
      go_ret2
      exact ⟨rfl, unhide HB⟩
    · have he : errP key f n = 21 := errP_21 h1 h2
      have hd : wthn f n = false := by simp only [wthn, decide_eq_false_iff_not]; exact h2
      have HS := hide (show streamB key f n = ⟨#[]⟩ by rw [streamB, if_neg (by omega)])
      rw [unhide HS, he]
      have HD := hide hd
      clear he h1 hd h2
      go_enter Tryd.func20, Tryd.ntmps20
      go_wp2_with fail
      refine (within_any f n w).mono ?_
      rintro e w1 ⟨rfl, rfl⟩
      rw [unhide HD]
      go_wp2
      go_ret2
      exact ⟨rfl, Below.refl _ _⟩
  · have h1' : ((key.size : Int) != 32) = true := ne_int h1
    have he : errP key f n = 20 := errP_20 h1
    have HS := hide (show streamB key f n = ⟨#[]⟩ by rw [streamB, if_neg (by omega)])
    rw [unhide HS, he]
    clear he h1
    go_enter Tryd.func20, Tryd.ntmps20
    go_wp2
    go_ret2
    exact ⟨rfl, Below.refl _ _⟩
end Go.Proofs.YtbnefbncjnfjdaaDoor
