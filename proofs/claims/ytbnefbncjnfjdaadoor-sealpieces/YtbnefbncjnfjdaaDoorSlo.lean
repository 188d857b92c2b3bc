import Derived.Test.YtbnefbncjnfjdaaDoorSpb
import Derived.StillTailTactics
namespace Go.Proofs.YtbnefbncjnfjdaaDoor
open Go.RowKit
set_option maxHeartbeats 400000 in
theorem isKey_any (s : ByteArray) (w : World) : Calls Tryd.prog 30 #[.string s] w fun e w' => e = .returned (.bool (decide (s.size = 32))) ∧ w' = w := by
  by_cases h : s.size = 32
  · have h1 : ((s.size : Int) == 32) = true := by simp; omega
    go_enter Tryd.func30, Tryd.ntmps30
    go_wp2
    go_ret
    exact ⟨by simp [h], rfl⟩
  · have h1 : ((s.size : Int) == 32) = false := by simp; omega
    go_enter Tryd.func30, Tryd.ntmps30
    go_wp2
    go_ret
    exact ⟨by simp [h], rfl⟩
theorem xor8_comm (x y : Int) (hx : 0 ≤ x ∧ x < 256) (hy : 0 ≤ y ∧ y < 256) : bits .xor .u8 x y = bits .xor .u8 y x := by
  obtain ⟨X, rfl⟩ := Int.eq_ofNat_of_zero_le hx.1
  obtain ⟨Y, rfl⟩ := Int.eq_ofNat_of_zero_le hy.1
  rw [u8_xor_nat X Y (by omega) (by omega), u8_xor_nat Y X (by omega) (by omega), Nat.xor_comm]
/-- A row of bytes of the call's own, turned place by place. -/
def LInv (w : World) (b o : Nat) (L : List Int) (wr : World) : Prop := Arr wr b o .u8 L ∧ Below w.heap.size w wr ∧ w.heap.size ≤ b
theorem LInv.put {w : World} {b o : Nat} {L L' : List Int} {wr : World} (h : LInv w b o L wr) (t : Nat) (ht : t < L.length) (v : Int) (e : L.set t v = L') : LInv w b o L' (wr.setCell ⟨b, o + t, none⟩ (.int .u8 v)) := by
  subst e
  exact ⟨h.1.set t ht v, h.2.1.setCell (p := ⟨b, o + t, none⟩) h.2.2 _, h.2.2⟩
set_option maxRecDepth 100000 in
set_option maxHeartbeats 1000000 in
theorem laidOn_any (key : ByteArray) (f : Nat) (s : ByteArray) (hkz : key.size ≤ 64) (hfn : f + s.size ≤ 65536) (w : World) (hK : KTab w) :
    Calls Tryd.prog 29 #[.string key, .int .i64 (f : Int), .string s] w fun e w' => e = .returned (.string (strOfNums (laidP (nums s) (partP (nums key) f s.size)))) ∧ Below w.heap.size w w' := by
  have HK := hide hK
  have hsl := nums_len s
  have hL := laidP_len (nums s) (partP (nums key) f s.size)
  have hPl := partP_len (nums key) f s.size
  have hPb := partP_bytes (nums key) f s.size
  have hLg := fun t => laidP_getD (nums s) (partP (nums key) f s.size) t
  have HCALL := hide (part_any key f s.size hkz hfn w hK)
  obtain ⟨P, hP⟩ : ∃ P, P = partP (nums key) f s.size := ⟨_, rfl⟩
  rw [← hP] at hL hPl hLg hPb ⊢
  obtain ⟨Lx, hLx⟩ : ∃ Lx, Lx = laidP (nums s) P := ⟨_, rfl⟩
  rw [← hLx] at hL hLg ⊢
  rw [hsl] at hL hLg
  have HP := hide hP
  clear hK hP hLx
  go_enter Tryd.func29, Tryd.ntmps29
  go_wp2_with fail
  refine (unhide HCALL).mono ?_
  rintro e w1 ⟨b, o, hb, hb1, rfl, hA, hB⟩
  rw [← unhide HP] at hA
  have h0 : LInv w b o (Lx.take 0 ++ P.drop 0) w1 := ⟨by simpa using hA, hB, hb⟩
  have H0 := hide h0
  clear hA hB h0 HCALL HP
  go_wp2
  go_loopw [16] (fun i wr => ∃ t : Nat, t ≤ s.size ∧ i = .int .i64 (t : Int) ∧ Hid (LInv w b o (Lx.take t ++ P.drop t) wr)) (fun i _ => s.size - (intOf i).toNat)
  case atStart => exact ⟨0, by omega, rfl, H0⟩
  case round =>
    obtain ⟨t, ht, rfl, HI⟩ := hrel
    by_cases htl : t < s.size
    · have hI := unhide HI
      have hlen : (Lx.take t ++ P.drop t).length = s.size := by simp [hL, hPl]; omega
      have c1 := hI.1.get t (by omega)
      have f1 := hI.1.free t (by omega)
      rw [getD_take_drop _ _ _ (by omega)] at c1
      have hix := index_str s t htl
      have hv := hLg t htl
      rw [xor8_comm _ _ (nums_bytes s t) (hPb t)] at hv
      have HE := hide (take_set Lx P t _ (by omega) (by omega) hv.symm)
      have HLEN := hide hlen
      have HV := hide hv
      clear hI hlen hv hLg hL hPl hsl
      generalize (nums s).getD t 0 = x at *
      generalize P.getD t 0 = y at *
      have i0 : 0 ≤ (t : Int) := by omega
      have i1 : (t : Int) < (s.size : Int) := by omega
      go_wp2
      go_still_tail 9, (by kernel_rfl)
      change wpList _ _ _ _ _ wr.drew
      go_wp2
      go_roundw
      case rel =>
        have h := (unhide HI).put t (by rw [unhide HLEN]; omega) _ (unhide HE)
        exact ⟨t + 1, by omega, by go_num, ⟨h.1.drew, h.2.1.drew, h.2.2⟩⟩
      case measure => simp [intOf]; omega
    · have e64 : t = s.size := by omega
      have hI := unhide HI
      rw [List.take_of_length_le (by omega), List.drop_of_length_le (by omega), List.append_nil] at hI
      have hcv := run_convert_bytes_arg (P := Tryd.prog) wr 37 5 Tryd.underlying37 Tryd.underlying5 b o s.size s.size Lx (by omega) (fun i hi => hI.1.get i (by omega)) 9 Tryd.underlying9
      have HB := hide hI.2.1
      clear hI HI H0 hLg hPb
      go_wp2
      go_ret
      exact ⟨rfl, unhide HB⟩
end Go.Proofs.YtbnefbncjnfjdaaDoor
