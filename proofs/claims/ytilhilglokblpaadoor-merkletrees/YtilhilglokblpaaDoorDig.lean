import Derived.Test.YtilhilglokblpaaDoorSpread
import Derived.Laws.BytesArg
namespace Go.Proofs.YtilhilglokblpaaDoor
open Go.RowKit
theorem size45 : (Tryd.prog.info? 45).map (·.size) = some 32 := by kernel_rfl
theorem out_at (s : H8) (i k : Nat) (hi : i < 8) (hk : k < 4) : (outBytes s).getD (4 * i + k) 0 = s.vals.getD i 0 / 2 ^ (24 - 8 * k) % 256 := by
  rcases (show i = 0 ∨ i = 1 ∨ i = 2 ∨ i = 3 ∨ i = 4 ∨ i = 5 ∨ i = 6 ∨ i = 7 by omega) with rfl | rfl | rfl | rfl | rfl | rfl | rfl | rfl <;>
    rcases (show k = 0 ∨ k = 1 ∨ k = 2 ∨ k = 3 by omega) with rfl | rfl | rfl | rfl <;> simp [outBytes, out4, H8.vals]
theorem out_len (s : H8) : (outBytes s).length = 32 := by simp [outBytes, out4]
theorem index_words (s : H8) (t : Nat) (ht : t < 8) (w : World) : (Instr.index 80 (Value.agg (s.vals.map (Value.int .u32)).toArray) (Value.int .i64 t)).run Tryd.prog w = .ok (.int .u32 (s.vals.getD t 0)) w := by
  rcases (show t = 0 ∨ t = 1 ∨ t = 2 ∨ t = 3 ∨ t = 4 ∨ t = 5 ∨ t = 6 ∨ t = 7 by omega) with rfl | rfl | rfl | rfl | rfl | rfl | rfl | rfl <;> kernel_rfl
def DigInv (w : World) (l : List Int) (wr : World) : Prop := Arr wr (w.heap.size + 1) 0 .u8 l ∧ Below w.heap.size w wr
theorem DigInv.put {w : World} {l l' : List Int} {wr : World} (h : DigInv w l wr) (t : Nat) (ht : t < l.length) (v : Int) (e : l.set t v = l') : DigInv w l' (wr.setCell ⟨w.heap.size + 1, t, none⟩ (.int .u8 v)) := by
  subst e
  exact ⟨h.1.set0 t ht v, h.2.setCell (by simp) _⟩
set_option maxRecDepth 100000 in
set_option maxHeartbeats 400000 in
theorem digest_any (s : H8) (w : World) :
    Calls Tryd.prog 59 #[.agg (s.vals.map (Value.int .u32)).toArray] w fun e w' => e = .returned (.string (strOfNums (outBytes s))) ∧ Below w.heap.size w w' := by
  have HR := hide (fun C => by
    have := ((arr_new w .u32 s.vals 80 _ rfl).alloc (by simp) C).range
    simpa using this : ∀ C, ((w.alloc (Obj.cells (s.vals.map (Value.int .u32)).toArray 80)).alloc C).rangeAt w.heap.size 0 (s.vals.map (Value.int .u32)))
  have HS := hide (⟨by simpa using arr_new (w.alloc (Obj.cells (s.vals.map (Value.int .u32)).toArray 80)) .u8 (List.replicate 32 0) 45 _ rfl, ((Below.refl _ _).alloc (Nat.le_refl _) _).alloc (by simp) _⟩ :
    DigInv w (List.replicate 32 0) ((w.alloc (Obj.cells (s.vals.map (Value.int .u32)).toArray 80)).alloc (Obj.cells ((List.replicate 32 (0 : Int)).map (Value.int .u8)).toArray 45)))
  go_enter Tryd.func59, Tryd.ntmps59
  go_wp2_with (refine wpList_load_mid rfl 80 (.tmp 1) rfl w.heap.size 0 rfl _ _ (unhide HR _) Tryd.underlying80 rfl (by rw [size80]; simp [H8.vals]) ?_)
  clear HR
  go_loopw [8] (fun i wr => ∃ t : Nat, t ≤ 8 ∧ i = .int .i64 t ∧ DigInv w ((outBytes s).take (4 * t) ++ (List.replicate 32 0).drop (4 * t)) wr) (fun i _ => 8 - (intOf i).toNat)
  case atStart => exact ⟨0, by omega, rfl, unhide HS⟩
  case round =>
    clear HS
    obtain ⟨t, ht, rfl, hI⟩ := hrel
    by_cases htl : t < 8
    · have HI := hide hI
      clear hI
      have hv := index_words s t htl
      obtain ⟨v, hvv⟩ : ∃ v, v = s.vals.getD t 0 := ⟨_, rfl⟩
      rw [← hvv] at hv
      have HV := hide hvv
      clear hvv
      obtain ⟨wo, rfl⟩ : ∃ wo : World, wo = wr := ⟨_, rfl⟩
      go_wp2
      go_loopw [12] (fun i wr => ∃ k : Nat, k ≤ 4 ∧ i = .int .i64 k ∧ DigInv w ((outBytes s).take (4 * t + k) ++ (List.replicate 32 0).drop (4 * t + k)) wr) (fun i _ => 4 - (intOf i).toNat)
      case atStart => exact ⟨0, by omega, rfl, unhide HI⟩
      case round =>
        clear hv HI
        obtain ⟨k, hk, rfl, hI⟩ := hrel
        by_cases hkl : k < 4
        · have hlo := out_len s
          have hll : ((outBytes s).take (4 * t + k) ++ (List.replicate 32 (0 : Int)).drop (4 * t + k)).length = 32 := by simp [hlo]; omega
          have c1 := hI.1.get0 (4 * t + k) (by omega)
          have f1 := hI.1.free0 (4 * t + k) (by omega)
          obtain ⟨z, hz⟩ : ∃ z, z = ((outBytes s).take (4 * t + k) ++ (List.replicate 32 (0 : Int)).drop (4 * t + k)).getD (4 * t + k) 0 := ⟨_, rfl⟩
          rw [← hz] at c1
          have HE := hide (take_set (outBytes s) (List.replicate 32 0) (4 * t + k) _ (by omega) (by simp; omega) rfl)
          rw [out_at s t k htl hkl, ← unhide HV] at HE
          have HI2 := hide hI
          have HL := hide hll
          have HP := hide (show ((24 : Int) - 8 * (k : Int)).toNat = 24 - 8 * k by omega)
          clear hz hI hll hlo
          go_wp2
          go_roundw
          case rel => exact ⟨k + 1, by omega, by go_num, (unhide HI2).put (4 * t + k) (by rw [unhide HL]; omega) _ (unhide HE)⟩
          case measure => simp [intOf]; omega
        · have e4 : k = 4 := by omega
          rw [e4, show 4 * t + 4 = 4 * (t + 1) by omega] at hI
          have HI2 := hide hI
          clear hI e4
          go_wp2
          go_roundw
          case rel => exact ⟨t + 1, by omega, by go_num, unhide HI2⟩
          case measure => simp [intOf]; omega
    · have e8 : t = 8 := by omega
      rw [e8] at hI
      have hfin : (outBytes s).take (4 * 8) ++ (List.replicate 32 (0 : Int)).drop (4 * 8) = outBytes s := by
        rw [List.take_of_length_le (by rw [out_len]; omega)]; simp
      rw [hfin] at hI
      have hcv := run_convert_bytes_arg (P := Tryd.prog) wr 67 5 Tryd.underlying67 Tryd.underlying5 (w.heap.size + 1) 0 32 32 (outBytes s) (out_len s) (fun i hi => hI.1.get i (by rw [out_len]; exact hi)) 9 Tryd.underlying9
      have HB := hide hI.2
      clear hI e8 hfin
      go_wp2
      go_ret
      exact ⟨rfl, unhide HB⟩
end Go.Proofs.YtilhilglokblpaaDoor
