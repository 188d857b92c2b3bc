import Derived.Test.YtokaomlhnmbajaaDoorAbv
namespace Go.Proofs.YtokaomlhnmbajaaDoor
open Go.RowKit
theorem isl_made (w : World) (n : Nat) (hn : n ≤ 1000) : Isl (w.alloc (Obj.cells ((List.replicate n (0 : Int)).map (Value.int .i64)).toArray 3)) w.heap.size (.slice (some ⟨w.heap.size, 0, none⟩) n n) (List.replicate n 0) := by
  refine ⟨by simp, .inr ⟨w.heap.size, n, _, by simp, Nat.le_refl _, heap_alloc_new w _, by simp, by unfold maxLen; omega, by simp, by simp⟩⟩
theorem limbs_top (k : Nat) (p : Int) (h0 : 0 ≤ p) (h1 : p < 65536) : Limbs (List.replicate k 0 ++ [p]) := by
  intro j
  rw [List.getD_eq_getElem?_getD, List.getElem?_append]
  split
  · rw [List.getElem?_replicate]; split <;> simp
  · simp only [List.length_replicate]
    rcases (show j - k = 0 ∨ 1 ≤ j - k by omega) with h | h
    · rw [h]; simp; omega
    · rw [List.getElem?_eq_none (by simpa using h)]; simp
set_option maxRecDepth 100000 in
set_option maxHeartbeats 1000000 in
theorem root_sq (p : Int) (hp0 : 0 ≤ p) (hp1 : p < 65536) (w : World) :
    Calls Tryd.prog 34 #[.int .i64 p, .bool false] w fun e w' => ∃ r : Int, e = .returned (.int .u32 (IntKind.u32.wrap r)) ∧ 0 ≤ r ∧ r * r ≤ p * 65536 ^ 4 ∧ p * 65536 ^ 4 < (r + 1) * (r + 1) ∧ Below w.heap.size w w' := by
  have hm4 := fun W => run_make_i64 4 (by omega) W
  have hm6 := fun W => run_make_i64 6 (by omega) W
  simp only [Int.cast_ofNat_Int] at hm4 hm6
  obtain ⟨M, hM⟩ : ∃ M : Int, M = p * 65536 ^ 4 := ⟨_, rfl⟩
  have HM0 : Hid (0 ≤ M) := by rw [hM]; exact Int.mul_nonneg hp0 (by decide)
  have HM1 : Hid (M < 1099511627776 * 1099511627776) := by rw [hM]; show _ < _; omega
  have HMY : Hid (lval (List.replicate 4 0 ++ [p]) = M) := by
    have h : lval (List.replicate 4 0 ++ [p]) = M := by rw [lval_app, lval_zeros, hM]; simp [lval]; omega
    exact h
  have HLY : Hid (Limbs (List.replicate 4 0 ++ [p])) := limbs_top 4 p hp0 hp1
  rw [← hM]
  clear hM
  go_enter Tryd.func34, Tryd.ntmps34
  go_wp2
  go_loopw [5, 6] (fun lv hv wr => ∃ lo hi : Int, lv = .int .i64 lo ∧ hv = .int .i64 hi ∧ 0 ≤ lo ∧ lo < hi ∧ hi ≤ 1099511627776 ∧ lo * lo ≤ M ∧ M < hi * hi ∧ Below w.heap.size w wr) (fun lv hv _ => (intOf hv - intOf lv).toNat)
  case atStart => exact ⟨0, 1099511627776, rfl, rfl, by omega, by omega, by omega, by have := unhide HM0; omega, unhide HM1, Below.refl _ _⟩
  case round =>
    obtain ⟨lo, hi, rfl, rfl, h0, h1, h2, hlo, hhi, hb⟩ := hrel
    have HLO := hide hlo
    have HHI := hide hhi
    have HB := hide hb
    clear hlo hhi hb
    by_cases hlt : lo + 1 < hi
    · obtain ⟨mid, hmid⟩ : ∃ mid, mid = (lo + hi) / 2 := ⟨_, rfl⟩
      have hd0 : lo < mid := by omega
      have hd1 : mid < hi := by omega
      have hwr : IntKind.i64.wrap (lo + hi) = lo + hi := by rw [IntKind.wrap_i64]; omega
      have hmm := hmid.symm
      clear hmid
      go_wp2_with fail
      try rw [hmm]
      clear hmm hwr
      refine (limbs_any mid (by omega) (by omega) wr).mono ?_
      rintro e w1 ⟨v1, rfl, hI1, hb1⟩
      obtain ⟨g1, c1, rfl, hg1, hg1s, hA1⟩ := hI1.form (by simp [limbsOf])
      have HB1 := hide ((unhide HB).trans (hb1.mono (unhide HB).size))
      have HL := hide (limbsOf_ok mid)
      have HV := hide (limbsOf_val mid (by omega) (by omega))
      have hl4 : (limbsOf mid).length = 4 := rfl
      have HL4 := hide hl4
      have HA1 := hide hA1
      generalize limbsOf mid = L at *
      clear hI1 hb1 HB hA1
      rw [hl4]
      clear hl4
      go_wp2_with fail
      refine ((by have := times_any L L g1 g1 c1 c1 w1 (unhide HL) (unhide HL) (by rw [unhide HL4]; omega) (by rw [unhide HL4]; omega) hg1s hg1s (unhide HA1) (unhide HA1); rw [unhide HL4] at this; exact this : Calls Tryd.prog 43 #[.slice (some ⟨g1, 0, none⟩) 4 c1, .slice (some ⟨g1, 0, none⟩) 4 c1] w1 _)).mono ?_
      rintro e w2 ⟨R, rfl, hRl, hRL, hRv, hRA, hRs, hb2⟩
      have HB2 := hide ((unhide HB1).trans (hb2.mono (unhide HB1).size))
      have HA2 := hide ((unhide HA1).below hb2 hg1s)
      rw [hRl]
      have HRL := hide hRl
      have HRLm := hide hRL
      have HRV := hide hRv
      have HRA := hide hRA
      have hg2 : w1.heap.size < w2.heap.size := hRs
      have hg12 : g1 < w2.heap.size := by omega
      clear HB1 HA1 hb2 hRl hRL hRv hRA hRs
      go_wp2_with (at_builtin; refine wpList_appI ((w2.alloc (Obj.cells #[.int .i64 0, .int .i64 0, .int .i64 0, .int .i64 0] 3)).alloc (Obj.cells #[.int .i64 p] 3)) rfl (.tmp 31) (.tmp 33) rfl w2.heap.size (.slice (some ⟨w2.heap.size, 0, none⟩) 4 4) (List.replicate 4 0) rfl (World.ownsRow.alloc (isl_made w2 4 (by omega)) _) (by simp; omega) (w2.heap.size + 1) p rfl (by simp) (by simp) ?_; intro v4 W4 hB4 hb4; have HB4 := hide hB4; have Hb4 := hide hb4; clear hB4 hb4)
      have hW4 : w2.heap.size + 1 + 1 ≤ W4.heap.size := by have := (unhide Hb4).size; simpa using this
      have hba : Below w2.heap.size w2 ((w2.alloc (Obj.cells #[.int .i64 0, .int .i64 0, .int .i64 0, .int .i64 0] 3)).alloc (Obj.cells #[.int .i64 p] 3)) := ((Below.refl _ _).alloc (Nat.le_refl _) _).alloc (by simp) _
      have HB5 := hide ((unhide HB2).trans ((hba.trans (unhide Hb4)).mono (unhide HB2).size))
      have HRA2 := hide ((unhide HRA).below (hba.trans (unhide Hb4)) hg2)
      obtain ⟨g4, c4, rfl, hg4, hg4s, hA4⟩ := (unhide HB4).form (by simp)
      have HA4 := hide hA4
      clear HB4 Hb4 HB2 HRA hba hA4
      have HC : Hid (Calls Tryd.prog 44 #[.slice (some ⟨w1.heap.size, 0, none⟩) 8 8, .slice (some ⟨g4, 0, none⟩) 5 c4] W4 fun e w' => e = .returned (.bool (decide (M < mid * mid))) ∧ w' = W4) := by
        have h := above_any R (List.replicate 4 0 ++ [p]) w1.heap.size g4 8 c4 W4 (unhide HRLm) (unhide HLY) (by rw [unhide HRL]; omega) (by simp) (unhide HRA2) (unhide HA4)
        rw [unhide HRL, unhide HMY, unhide HRV, unhide HV] at h
        exact h
      go_wp2_with fail
      refine (unhide HC).mono ?_
      rintro e w6 ⟨rfl, rfl⟩
      clear HC HRA2 HA4 hm4 hm6
      by_cases hcmp : M < mid * mid
      · have hdc : decide (M < mid * mid) = true := decide_eq_true hcmp
        rw [hdc]
        have HCM := hide hcmp
        clear hcmp hdc
        go_wp2
        go_roundw
        case rel => exact ⟨lo, mid, rfl, rfl, h0, hd0, by omega, unhide HLO, unhide HCM, unhide HB5⟩
        case measure => simp [intOf]; omega
      · have hdc : decide (M < mid * mid) = false := decide_eq_false hcmp
        rw [hdc]
        have HCM := hide (Int.not_lt.1 hcmp)
        clear hcmp hdc
        go_wp2
        go_roundw
        case rel => exact ⟨mid, hi, rfl, rfl, by omega, hd1, h2, unhide HCM, unhide HHI, unhide HB5⟩
        case measure => simp [intOf]; omega
    · have hl : hi = lo + 1 := by omega
      subst hl
      clear hm4 hm6
      go_wp2
      go_ret
      exact ⟨lo, rfl, h0, unhide HLO, unhide HHI, unhide HB⟩
set_option maxRecDepth 100000 in
set_option maxHeartbeats 1000000 in
theorem root_cu (p : Int) (hp0 : 0 ≤ p) (hp1 : p < 65536) (w : World) :
    Calls Tryd.prog 34 #[.int .i64 p, .bool true] w fun e w' => ∃ r : Int, e = .returned (.int .u32 (IntKind.u32.wrap r)) ∧ 0 ≤ r ∧ r * r * r ≤ p * 65536 ^ 6 ∧ p * 65536 ^ 6 < (r + 1) * (r + 1) * (r + 1) ∧ Below w.heap.size w w' := by
  have hm4 := fun W => run_make_i64 4 (by omega) W
  have hm6 := fun W => run_make_i64 6 (by omega) W
  simp only [Int.cast_ofNat_Int] at hm4 hm6
  obtain ⟨M, hM⟩ : ∃ M : Int, M = p * 65536 ^ 6 := ⟨_, rfl⟩
  have HM0 : Hid (0 ≤ M) := by rw [hM]; exact Int.mul_nonneg hp0 (by decide)
  have HM1 : Hid (M < 1099511627776 * 1099511627776 * 1099511627776) := by rw [hM]; show _ < _; omega
  have HMY : Hid (lval (List.replicate 6 0 ++ [p]) = M) := by
    have h : lval (List.replicate 6 0 ++ [p]) = M := by rw [lval_app, lval_zeros, hM]; simp [lval]; omega
    exact h
  have HLY : Hid (Limbs (List.replicate 6 0 ++ [p])) := limbs_top 6 p hp0 hp1
  rw [← hM]
  clear hM
  go_enter Tryd.func34, Tryd.ntmps34
  go_wp2
  go_loopw [5, 6] (fun lv hv wr => ∃ lo hi : Int, lv = .int .i64 lo ∧ hv = .int .i64 hi ∧ 0 ≤ lo ∧ lo < hi ∧ hi ≤ 1099511627776 ∧ lo * lo * lo ≤ M ∧ M < hi * hi * hi ∧ Below w.heap.size w wr) (fun lv hv _ => (intOf hv - intOf lv).toNat)
  case atStart => exact ⟨0, 1099511627776, rfl, rfl, by omega, by omega, by omega, by have := unhide HM0; omega, unhide HM1, Below.refl _ _⟩
  case round =>
    obtain ⟨lo, hi, rfl, rfl, h0, h1, h2, hlo, hhi, hb⟩ := hrel
    have HLO := hide hlo
    have HHI := hide hhi
    have HB := hide hb
    clear hlo hhi hb
    by_cases hlt : lo + 1 < hi
    · obtain ⟨mid, hmid⟩ : ∃ mid, mid = (lo + hi) / 2 := ⟨_, rfl⟩
      have hd0 : lo < mid := by omega
      have hd1 : mid < hi := by omega
      have hwr : IntKind.i64.wrap (lo + hi) = lo + hi := by rw [IntKind.wrap_i64]; omega
      have hmm := hmid.symm
      clear hmid
      go_wp2_with fail
      try rw [hmm]
      clear hmm hwr
      refine (limbs_any mid (by omega) (by omega) wr).mono ?_
      rintro e w1 ⟨v1, rfl, hI1, hb1⟩
      obtain ⟨g1, c1, rfl, hg1, hg1s, hA1⟩ := hI1.form (by simp [limbsOf])
      have HB1 := hide ((unhide HB).trans (hb1.mono (unhide HB).size))
      have HL := hide (limbsOf_ok mid)
      have HV := hide (limbsOf_val mid (by omega) (by omega))
      have hl4 : (limbsOf mid).length = 4 := rfl
      have HL4 := hide hl4
      have HA1 := hide hA1
      generalize limbsOf mid = L at *
      clear hI1 hb1 HB hA1
      rw [hl4]
      clear hl4
      go_wp2_with fail
      refine ((by have := times_any L L g1 g1 c1 c1 w1 (unhide HL) (unhide HL) (by rw [unhide HL4]; omega) (by rw [unhide HL4]; omega) hg1s hg1s (unhide HA1) (unhide HA1); rw [unhide HL4] at this; exact this : Calls Tryd.prog 43 #[.slice (some ⟨g1, 0, none⟩) 4 c1, .slice (some ⟨g1, 0, none⟩) 4 c1] w1 _)).mono ?_
      rintro e w2 ⟨R, rfl, hRl, hRL, hRv, hRA, hRs, hb2⟩
      have HB2 := hide ((unhide HB1).trans (hb2.mono (unhide HB1).size))
      have HA2 := hide ((unhide HA1).below hb2 hg1s)
      rw [hRl]
      have HRL := hide hRl
      have HRLm := hide hRL
      have HRV := hide hRv
      have HRA := hide hRA
      have hg2 : w1.heap.size < w2.heap.size := hRs
      have hg12 : g1 < w2.heap.size := by omega
      clear HB1 HA1 hb2 hRl hRL hRv hRA hRs
      go_wp2_with fail
      refine ((by have := times_any R L w1.heap.size g1 (4 + 4) c1 (w2.alloc (Obj.cells ((List.replicate 4 (0 : Int)).map (Value.int .i64)).toArray 3)) (unhide HRLm) (unhide HL) (by rw [unhide HRL]; omega) (by rw [unhide HL4]; omega) (by simp; omega) (by simp; omega) ((unhide HRA).alloc hg2 _) ((unhide HA2).alloc hg12 _); rw [unhide HRL, unhide HL4] at this; exact this : Calls Tryd.prog 43 #[.slice (some ⟨w1.heap.size, 0, none⟩) (4 + 4) (4 + 4), .slice (some ⟨g1, 0, none⟩) 4 c1] (w2.alloc (Obj.cells ((List.replicate 4 (0 : Int)).map (Value.int .i64)).toArray 3)) _)).mono ?_
      rintro e w3 ⟨R3, rfl, hRl3, hRL3, hRv3, hRA3, hRs3, hb3⟩
      rw [unhide HRV] at hRv3
      have HB3 : Hid (Below w.heap.size w w3) := ((unhide HB2).alloc (unhide HB2).size _).trans (hb3.mono (by have := (unhide HB2).size; simp; omega))
      have hx := hb3.size
      clear HRV HRA HB2 HA2 HRL HRLm hb3
      rw [hRl3]
      have HRL := hide hRl3
      have HRLm := hide hRL3
      have HRV := hide hRv3
      have HRA := hide hRA3
      have hg3 : (w2.alloc (Obj.cells ((List.replicate 4 (0 : Int)).map (Value.int .i64)).toArray 3)).heap.size < w3.heap.size := hRs3
      generalize (w2.alloc (Obj.cells ((List.replicate 4 (0 : Int)).map (Value.int .i64)).toArray 3)).heap.size = gx at *
      clear hRl3 hRL3 hRv3 hRA3 hRs3 hx
      go_wp2_with (at_builtin; refine wpList_appI ((w3.alloc (Obj.cells #[.int .i64 0, .int .i64 0, .int .i64 0, .int .i64 0, .int .i64 0, .int .i64 0] 3)).alloc (Obj.cells #[.int .i64 p] 3)) rfl (.tmp 31) (.tmp 33) rfl w3.heap.size (.slice (some ⟨w3.heap.size, 0, none⟩) 6 6) (List.replicate 6 0) rfl (World.ownsRow.alloc (isl_made w3 6 (by omega)) _) (by simp; omega) (w3.heap.size + 1) p rfl (by simp) (by simp) ?_; intro v4 W4 hB4 hb4; have HB4 := hide hB4; have Hb4 := hide hb4; clear hB4 hb4)
      have hW4 : w3.heap.size + 1 + 1 ≤ W4.heap.size := by have := (unhide Hb4).size; simpa using this
      have hba : Below w3.heap.size w3 ((w3.alloc (Obj.cells #[.int .i64 0, .int .i64 0, .int .i64 0, .int .i64 0, .int .i64 0, .int .i64 0] 3)).alloc (Obj.cells #[.int .i64 p] 3)) := ((Below.refl _ _).alloc (Nat.le_refl _) _).alloc (by simp) _
      have HB5 := hide ((unhide HB3).trans ((hba.trans (unhide Hb4)).mono (unhide HB3).size))
      have HRA2 := hide ((unhide HRA).below (hba.trans (unhide Hb4)) hg3)
      obtain ⟨g4, c4, rfl, hg4, hg4s, hA4⟩ := (unhide HB4).form (by simp)
      have HA4 := hide hA4
      clear HB4 Hb4 HB3 HRA hba hA4
      have HC : Hid (Calls Tryd.prog 44 #[.slice (some ⟨gx, 0, none⟩) 12 12, .slice (some ⟨g4, 0, none⟩) 7 c4] W4 fun e w' => e = .returned (.bool (decide (M < mid * mid * mid))) ∧ w' = W4) := by
        have h := above_any R3 (List.replicate 6 0 ++ [p]) gx g4 12 c4 W4 (unhide HRLm) (unhide HLY) (by rw [unhide HRL]; omega) (by simp) (unhide HRA2) (unhide HA4)
        rw [unhide HRL, unhide HMY, unhide HRV, unhide HV] at h
        exact h
      go_wp2_with fail
      refine (unhide HC).mono ?_
      rintro e w6 ⟨rfl, rfl⟩
      clear HC HRA2 HA4 hm4 hm6
      by_cases hcmp : M < mid * mid * mid
      · have hdc : decide (M < mid * mid * mid) = true := decide_eq_true hcmp
        rw [hdc]
        have HCM := hide hcmp
        clear hcmp hdc
        go_wp2
        go_roundw
        case rel => exact ⟨lo, mid, rfl, rfl, h0, hd0, by omega, unhide HLO, unhide HCM, unhide HB5⟩
        case measure => simp [intOf]; omega
      · have hdc : decide (M < mid * mid * mid) = false := decide_eq_false hcmp
        rw [hdc]
        have HCM := hide (Int.not_lt.1 hcmp)
        clear hcmp hdc
        go_wp2
        go_roundw
        case rel => exact ⟨mid, hi, rfl, rfl, by omega, hd1, h2, unhide HCM, unhide HHI, unhide HB5⟩
        case measure => simp [intOf]; omega
    · have hl : hi = lo + 1 := by omega
      subst hl
      clear hm4 hm6
      go_wp2
      go_ret
      exact ⟨lo, rfl, h0, unhide HLO, unhide HHI, unhide HB⟩
end Go.Proofs.YtokaomlhnmbajaaDoor
