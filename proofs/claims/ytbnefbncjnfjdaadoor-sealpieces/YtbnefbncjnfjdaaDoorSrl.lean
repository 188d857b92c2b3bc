import Derived.Test.YtbnefbncjnfjdaaDoorSrp
namespace Go.Proofs.YtbnefbncjnfjdaaDoor
open Go.RowKit
set_option maxRecDepth 100000 in
set_option maxHeartbeats 1000000 in
theorem rlaid2_any (a b : ByteArray) (hab : a.size ≤ b.size) (ha : a.size ≤ 140737488355328) (w : World) :
    Calls Tryd.prog 41 #[.string a, .string b] w fun e w' => e = .returned (.string (strOfNums (laidP (nums a) (nums b)))) ∧ Below w.heap.size w w' := by
  have hmk := fun W => run_make_u8 a.size a.size (by omega) (by omega) W
  have hL := laidP_len (nums a) (nums b)
  have hLg := fun t => laidP_getD (nums a) (nums b) t
  obtain ⟨Lx, hLx⟩ : ∃ Lx, Lx = laidP (nums a) (nums b) := ⟨_, rfl⟩
  rw [← hLx] at hL hLg ⊢
  rw [nums_len] at hL hLg
  clear hLx
  go_enter Tryd.func41, Tryd.ntmps41
  go_wp2
  clear hmk
  go_loopw [6] (fun i wr => ∃ t : Nat, t ≤ a.size ∧ i = .int .i64 (t : Int) ∧ Hid (KeyInv w (Lx.take t ++ (List.replicate a.size 0).drop t) wr)) (fun i _ => a.size - (intOf i).toNat)
  case atStart =>
    have h : KeyInv w (List.replicate a.size 0) (w.alloc (Obj.cells (Array.replicate a.size (Value.int .u8 0)) 5)) := ⟨arr_new w .u8 (List.replicate a.size 0) 5 _ (by simp), (Below.refl _ _).alloc (Nat.le_refl _) _, by simp⟩
    exact ⟨0, by omega, rfl, hide (by simpa using h)⟩
  case round =>
    obtain ⟨t, ht, rfl, HI⟩ := hrel
    by_cases htl : t < a.size
    · have hI := unhide HI
      have hlen : (Lx.take t ++ (List.replicate a.size (0 : Int)).drop t).length = a.size := by simp [hL]; omega
      have c1 := hI.1.get0 t (by omega)
      have f1 := hI.1.free0 t (by omega)
      rw [getD_take_drop _ _ _ (by omega), zeros_at] at c1
      have hix := index_str a t htl
      have hiy := index_str b t (by omega)
      have HE := hide (take_set Lx (List.replicate a.size 0) t _ (by omega) (by simp; omega) (hLg t htl).symm)
      have HLEN := hide hlen
      clear hI hlen hLg hL
      generalize (nums a).getD t 0 = x at *
      generalize (nums b).getD t 0 = y at *
      have i0 : 0 ≤ (t : Int) := by omega
      have i1 : (t : Int) < (a.size : Int) := by omega
      have i2 : (t : Int) < (b.size : Int) := by omega
      go_wp2
      go_still_tail 10, (by kernel_rfl)
      change wpList _ _ _ _ _ wr.drew
      go_wp2
      go_roundw
      case rel =>
        have h := (unhide HI).put t (by rw [unhide HLEN]; omega) _ (unhide HE)
        exact ⟨t + 1, by omega, by go_num, ⟨h.1.drew, h.2.1.drew, h.2.2⟩⟩
      case measure => simp [intOf]; omega
    · have e64 : t = a.size := by omega
      have hI := unhide HI
      rw [List.take_of_length_le (by omega), List.drop_of_length_le (by simp; omega), List.append_nil] at hI
      have hcv := run_convert_bytes_arg (P := Tryd.prog) wr 37 5 Tryd.underlying37 Tryd.underlying5 w.heap.size 0 a.size a.size Lx (by omega) (fun i hi => hI.1.get i (by omega)) 9 Tryd.underlying9
      have HB := hide hI.2.1
      clear hI HI hLg
      go_wp2
      go_ret
      exact ⟨rfl, unhide HB⟩
end Go.Proofs.YtbnefbncjnfjdaaDoor
