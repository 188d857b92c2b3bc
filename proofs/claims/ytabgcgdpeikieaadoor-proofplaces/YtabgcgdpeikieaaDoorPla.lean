import Derived.Test.YtabgcgdpeikieaaDoorSha
import Derived.Test.YtabgcgdpeikieaaDoorPdk
namespace Go.Proofs.YtabgcgdpeikieaaDoor
open Go.RowKit Go.Conc
set_option maxRecDepth 100000
def pickP (c : Int) (n : Nat) : Nat := ((if c < 0 then -(c + 1) else c) % (n : Int)).toNat
theorem pickP_lt (c : Int) (n : Nat) (hn : 0 < n) : pickP c n < n := by
  have h1 := Int.emod_nonneg (if c < 0 then -(c + 1) else c) (show (n : Int) ≠ 0 by omega)
  have h2 := Int.emod_lt_of_pos (if c < 0 then -(c + 1) else c) (show 0 < (n : Int) by omega)
  unfold pickP
  omega
set_option maxHeartbeats 400000 in
theorem pick13_any (c : Int) (n : Nat) (hn : 0 < n) (hc : I64 c) (w : World) :
    Calls Tryd.prog 10 #[.int .i64 c, .int .i64 (n : Int)] w fun e w' => e = .returned (.int .i64 (pickP c n : Int)) ∧ w' = w := by
  obtain ⟨hc1, hc2⟩ := hc
  have hz : ((n : Int) == 0) = false := by simp; omega
  by_cases h : c < 0
  · have e1 : (-(c + 1)).tmod (n : Int) = (-(c + 1)) % (n : Int) := Int.tmod_eq_emod_of_nonneg (by omega)
    have hp : 0 ≤ (-(c + 1)) % (n : Int) := Int.emod_nonneg _ (by omega)
    have hl : (-(c + 1)) % (n : Int) < (n : Int) := Int.emod_lt_of_pos _ (by omega)
    have HP := hide (show (pickP c n : Int) = (-(c + 1)) % (n : Int) by rw [pickP, if_pos h]; omega)
    go_enter Tryd.func10, Tryd.ntmps10
    go_wp2
    go_ret
    exact ⟨by rw [unhide HP]; rfl, rfl⟩
  · have e1 : c.tmod (n : Int) = c % (n : Int) := Int.tmod_eq_emod_of_nonneg (by omega)
    have hp : 0 ≤ c % (n : Int) := Int.emod_nonneg _ (by omega)
    have hl : c % (n : Int) < (n : Int) := Int.emod_lt_of_pos _ (by omega)
    have HP := hide (show (pickP c n : Int) = c % (n : Int) by rw [pickP, if_neg h]; omega)
    go_enter Tryd.func10, Tryd.ntmps10
    go_wp2
    go_ret
    exact ⟨by rw [unhide HP]; rfl, rfl⟩

/-- The law's draw, byte by byte. -/
def drX (c : Int) (k : Nat) : Int := c / 2 ^ (8 * k) % 256
def drY (c : Int) (k : Nat) : Int := bits BinOp.xor IntKind.u8 (drX c k) 85
def drL (c : Int) : Nat → List Int
  | 0 => List.replicate 16 0
  | k + 1 => ((drL c k).set k (drX c k)).set (15 - k) (drY c k)
theorem drL_len (c : Int) : ∀ k, (drL c k).length = 16
  | 0 => rfl
  | k + 1 => by rw [drL, List.length_set, List.length_set, drL_len c k]
def drB (c : Int) : ByteArray := strOfNums (drL c 8)
theorem drB_size (c : Int) : (drB c).size = 16 := by rw [drB, strOfNums_size, drL_len]
theorem map_set_arr (l : List Int) (j : Nat) (x : Int) : ((l.map (Value.int .u8)).toArray).setIfInBounds j (.int .u8 x) = ((l.set j x).map (Value.int .u8)).toArray := by
  rw [List.setIfInBounds_toArray, List.map_set]
set_option maxHeartbeats 600000 in
theorem draw_any (c : Int) (w : World) : Calls Tryd.prog 14 #[.int .i64 c] w fun e w' => e = .returned (.string (drB c)) ∧ Below w.heap.size w w' := by
  have hmk := fun W => run_make_u8 16 16 (by omega) (by omega) W
  simp only [Int.cast_ofNat_Int] at hmk
  obtain ⟨n, hn⟩ : ∃ n, w.heap.size = n := ⟨_, rfl⟩
  have HB0 := hide (show Blk (w.alloc (.cells ((List.replicate 16 (0 : Int)).map (Value.int .u8)).toArray 5)) n ((drL c 0).map (Value.int .u8)).toArray 5 from by rw [← hn]; exact Blk.new w 5 _)
  have HL0 := hide (show Below n w (w.alloc (.cells ((List.replicate 16 (0 : Int)).map (Value.int .u8)).toArray 5)) from by rw [← hn]; exact (Below.refl _ _).alloc (Nat.le_refl _) _)
  rw [hn]
  go_enter Tryd.func14, Tryd.ntmps14
  go_wp2
  clear hmk
  go_loopw [4] (fun i wr => ∃ k : Nat, k ≤ 8 ∧ i = .int .i64 (k : Int) ∧ Blk wr n ((drL c k).map (Value.int .u8)).toArray 5 ∧ Below n w wr) (fun i _ => 8 - (intOf i).toNat)
  case atStart => exact ⟨0, by omega, rfl, by simpa using unhide HB0, by simpa using unhide HL0⟩
  case round =>
    obtain ⟨k, hk, rfl, hB, hlo⟩ := hrel
    by_cases hlt : k < 8
    · have i1 : (k : Int) < 8 := by omega
      have i2 : 0 ≤ (k : Int) := by omega
      have i3 : (k : Int) < 16 := by omega
      have hcell : ∀ j, j < 16 → ∃ v, wr.cell? ⟨n, j, none⟩ = some v := fun j hj => by
        rw [hB.cell]
        exact ⟨_, Array.getElem?_eq_getElem (by simp [drL_len]; omega)⟩
      obtain ⟨v0, c0⟩ := hcell k (by omega)
      obtain ⟨v1, c1⟩ := hcell (15 - k) (by omega)
      have f0 := hB.frozen k
      have f1 := hB.frozen (15 - k)
      have n1 : ¬ (15 - k = k) := by omega
      have n2 : ¬ (k = 15 - k) := by omega
      have HB := hide hB
      have HLO := hide hlo
      clear hB hlo hcell HB0 HL0
      go_wp2
      go_roundw
      case rel =>
        refine ⟨k + 1, by omega, by go_num, ?_, ((unhide HLO).setCell (p := ⟨n, k, none⟩) (Nat.le_refl _) _).setCell (p := ⟨n, 15 - k, none⟩) (Nat.le_refl _) _⟩
        have h2 := ((unhide HB).set k (.int .u8 (drX c k))).set (15 - k) (.int .u8 (drY c k))
        rw [map_set_arr, map_set_arr] at h2
        exact h2
      case measure => simp [intOf]; omega
    · have hk' : k = 8 := by omega
      subst hk'
      have hcv := run_convert_bytes_arg (P := Tryd.prog) wr 47 5 Tryd.underlying47 Tryd.underlying5 n 0 16 16 (drL c 8) (drL_len c 8) (fun i hi => by
        rw [Nat.zero_add, hB.cell]
        simp [drL_len, hi]) 9 Tryd.underlying9
      have HLO := hide hlo
      clear hB hlo HB0 HL0
      go_wp2
      go_ret
      exact ⟨rfl, unhide HLO⟩
theorem i64_wrap (x : Int) : I64 (wrap64 x) := by unfold wrap64 I64; omega
/-- The law's offer. -/
def ofV (c : Int) : Nat := pickP c 100
def ofB (c : Int) : Nat := pickP (wrap64 (c.tdiv 100)) 60
def ofD (c : Int) : ByteArray := strOfNums (sha (nums (drB c)))
def ofW (c : Int) : ByteArray := drB (wrap64 (c + 1)) ++ drB (wrap64 (c + 2)) ++ drB (wrap64 (c + 3))
theorem ofD_size (c : Int) : (ofD c).size = 32 := by rw [ofD, strOfNums_size, sha_len]
/-- While an offer is made. -/
structure OSt (w : World) (N : Nat) (z : World) : Prop where
  b : Blk z N #[.int .i64 0, .int .i64 0, .string ⟨#[]⟩, .string ⟨#[]⟩] 31
  lo : Below N w z
theorem OSt.below {w z z' : World} {N : Nat} (h : OSt w N z) (hb : Below z.heap.size z z') : OSt w N z' := ⟨h.b.below hb h.b.lt, h.lo.trans (hb.mono (Nat.le_of_lt h.b.lt))⟩
set_option maxHeartbeats 2000000 in
theorem offer13_any (c : Int) (hc : I64 c) (w : World) (hK : KTab w) : Calls Tryd.prog 13 #[.int .i64 c] w fun e w' => e = .returned (.agg #[.int .i64 (ofV c : Int), .int .i64 (ofB c : Int), .string (ofD c), .string (ofW c)]) ∧ Below w.heap.size w w' := by
  obtain ⟨N, hn⟩ : ∃ N, w.heap.size = N := ⟨_, rfl⟩
  obtain ⟨y, hy⟩ : ∃ Z, w.alloc (.cells #[.int .i64 0, .int .i64 0, .string ⟨#[]⟩, .string ⟨#[]⟩] 31) = Z := ⟨_, rfl⟩
  have HO := hide (show OSt w N y from ⟨by rw [← hy, ← hn]; exact Blk.new _ _ _, by rw [← hy, ← hn]; exact (Below.refl _ _).alloc (Nat.le_refl _) _⟩)
  have hp1 := fun W => pick13_any c 100 (by omega) hc W
  have hp2 := fun W => pick13_any (wrap64 (c.tdiv 100)) 60 (by omega) (i64_wrap _) W
  simp only [Int.cast_ofNat_Int] at hp1 hp2
  have HP1 := hide hp1
  have HP2 := hide hp2
  have HKT := hide (fun (z : World) (h : OSt w N z) => hK.low (w' := z) (by rw [hn]; exact h.lo))
  have HS0 := hide (fun (z : World) (h : OSt w N z) => sum_any (drB c) z (unhide HKT z h) (by rw [drB_size]; omega))
  have HD0 := hide (fun W => draw_any c W)
  have HD1 := hide (fun W => draw_any (wrap64 (c + 1)) W)
  have HD2 := hide (fun W => draw_any (wrap64 (c + 2)) W)
  have HD3 := hide (fun W => draw_any (wrap64 (c + 3)) W)
  have e1 := drB_size (wrap64 (c + 1))
  have e2 := drB_size (wrap64 (c + 2))
  have e3 := drB_size (wrap64 (c + 3))
  have HV := hide (show ofV c = pickP c 100 from rfl)
  have HB := hide (show ofB c = pickP (wrap64 (c.tdiv 100)) 60 from rfl)
  have HDD := hide (show ofD c = strOfNums (sha (nums (drB c))) from rfl)
  have HW := hide (show ofW c = drB (wrap64 (c + 1)) ++ drB (wrap64 (c + 2)) ++ drB (wrap64 (c + 3)) from rfl)
  rw [unhide HV, unhide HB, unhide HDD, unhide HW]
  generalize drB (wrap64 (c + 1)) = d1 at *
  generalize drB (wrap64 (c + 2)) = d2 at *
  generalize drB (wrap64 (c + 3)) = d3 at *
  generalize strOfNums (sha (nums (drB c))) = s0 at *
  generalize drB c = d0 at *
  have l1 : d1.size + d2.size ≤ 9223372036854775807 := by omega
  have l2 : (d1 ++ d2).size + d3.size ≤ 9223372036854775807 := by rw [ByteArray.size_append]; omega
  clear hp1 hp2 hK HV HB HDD HW e1 e2 e3
  rw [hn]
  go_enter Tryd.func13, Tryd.ntmps13
  go_wp2_with fail
  refine (unhide HP1 _).mono ?_
  rintro e z ⟨rfl, rfl⟩
  go_wp2_with fail
  refine (unhide HP2 _).mono ?_
  rintro e z ⟨rfl, rfl⟩
  go_wp2_with fail
  refine (unhide HD0 _).mono ?_
  rintro e z1 ⟨rfl, hb⟩
  have HO1 := hide ((unhide HO).below hb)
  clear hb HO hy
  go_wp2_with fail
  refine (unhide HS0 _ (unhide HO1)).mono ?_
  rintro e z2 ⟨rfl, hb⟩
  have HO2 := hide ((unhide HO1).below hb)
  clear hb HO1
  go_wp2_with fail
  refine (unhide HD1 _).mono ?_
  rintro e z3 ⟨rfl, hb⟩
  have HO3 := hide ((unhide HO2).below hb)
  clear hb HO2
  go_wp2_with fail
  refine (unhide HD2 _).mono ?_
  rintro e z4 ⟨rfl, hb⟩
  have HO4 := hide ((unhide HO3).below hb)
  clear hb HO3
  go_wp2_with fail
  refine (unhide HD3 _).mono ?_
  rintro e z5 ⟨rfl, hb⟩
  have HO5 := hide ((unhide HO4).below hb)
  clear hb HO4
  go_wp2_with (refine wpList_store_mid rfl 31 (.tmp 2) (.tmp 22) rfl N 0 #[.int .i64 (pickP c 100 : Int), .int .i64 (pickP (wrap64 (c.tdiv 100)) 60 : Int), .string s0, .string (d1 ++ d2 ++ d3)] rfl rfl (blk_there (unhide HO5).b 4 rfl) (by rw [sizeOff]; rfl) (by simp [Value.oneCell']) ?_)
  have hW := setCells_all (unhide HO5).b [.int .i64 (pickP c 100 : Int), .int .i64 (pickP (wrap64 (c.tdiv 100)) 60 : Int), .string s0, .string (d1 ++ d2 ++ d3)] rfl
  refine bodyPost_ret (results_cell rfl _ _ _ ⟨N, 0, none⟩ rfl _ (iload_blk _ _ hW Tryd.underlying31 rfl (by rw [sizeOff]; rfl))) rfl ?_
  exact ⟨rfl, below_setCells (Nat.le_refl _) _ _ (unhide HO5).lo⟩
end Go.Proofs.YtabgcgdpeikieaaDoor
