import Derived.Test.YtokaomlhnmbajaaDoorRhx
namespace Go.Proofs.YtokaomlhnmbajaaDoor
open Go.RowKit
/-- What the search has found behind k signs. -/
def svk (x : Int) (k : Nat) : Int := if 0 ≤ sgn x ∧ sgn x < k then sgn x else -1
theorem svk_zero (x : Int) : svk x 0 = -1 := by unfold svk; rw [if_neg (by omega)]
theorem svk_end (x : Int) : svk x 16 = sgn x := by
  have := sgn_bd x
  unfold svk
  split <;> omega
theorem svk_hit (x : Int) (k : Nat) (h : sgn x = k) : svk x (k + 1) = k := by unfold svk; rw [if_pos (by omega)]; exact h
theorem svk_miss (x : Int) (k : Nat) (h : sgn x ≠ k) : svk x (k + 1) = svk x k := by
  unfold svk
  by_cases h1 : 0 ≤ sgn x ∧ sgn x < k
  · rw [if_pos h1, if_pos (by omega)]
  · rw [if_neg h1, if_neg (by omega)]
/-- The bytes behind i signs. -/
def stU (l : List Int) (n i : Nat) : List Int := if i % 2 = 0 then decd l (i / 2) ++ List.replicate (n - i / 2) 0 else decd l (i / 2) ++ [sgn (l.getD (i - 1) 0)] ++ List.replicate (n - (i / 2 + 1)) 0
theorem stU_len (l : List Int) (n i : Nat) (h : i < 2 * n) : (stU l n i).length = n := by
  unfold stU
  split
  · simp [decd_len]; omega
  · simp [decd_len]; omega
theorem stU_even (l : List Int) (n i : Nat) (h : i % 2 = 0) (hi : i < 2 * n) : (stU l n i).getD (i / 2) 0 = 0 ∧ (stU l n i).set (i / 2) (sgn (l.getD i 0)) = stU l n (i + 1) := by
  have e1 : stU l n i = decd l (i / 2) ++ List.replicate (n - i / 2) 0 := by unfold stU; rw [if_pos h]
  have e2 : stU l n (i + 1) = decd l (i / 2) ++ [sgn (l.getD i 0)] ++ List.replicate (n - (i / 2 + 1)) 0 := by
    unfold stU; rw [if_neg (by omega), show (i + 1) / 2 = i / 2 by omega, Nat.add_sub_cancel]
  rw [e1, e2]
  have hd := decd_len l (i / 2)
  constructor
  · have h0 : 0 < n - i / 2 := by omega
    simp [hd, h0]
  · have := fill_set (decd l (i / 2)) n (sgn (l.getD i 0)) (by omega)
    rw [hd] at this
    exact this
theorem stU_odd (l : List Int) (n i : Nat) (h : i % 2 = 1) : (stU l n i).getD (i / 2) 0 = sgn (l.getD (i - 1) 0) ∧ (stU l n i).set (i / 2) (16 * sgn (l.getD (i - 1) 0) + sgn (l.getD i 0)) = stU l n (i + 1) := by
  have e1 : stU l n i = decd l (i / 2) ++ [sgn (l.getD (i - 1) 0)] ++ List.replicate (n - (i / 2 + 1)) 0 := by unfold stU; rw [if_neg (by omega)]
  have e2 : stU l n (i + 1) = decd l (i / 2) ++ [16 * sgn (l.getD (i - 1) 0) + sgn (l.getD i 0)] ++ List.replicate (n - (i / 2 + 1)) 0 := by
    unfold stU; rw [if_pos (by omega), show (i + 1) / 2 = i / 2 + 1 by omega, decd_succ, vald, show 2 * (i / 2) = i - 1 by omega, show i - 1 + 1 = i by omega]
  rw [e1, e2]
  have hd := decd_len l (i / 2)
  constructor
  · simp [hd]
  · rw [List.append_assoc, List.set_append, if_neg (by omega), hd, Nat.sub_self, List.singleton_append, List.set_cons_zero, List.append_assoc]
    rfl
theorem KeyInv.drewN {w : World} {l : List Int} {wr : World} (h : KeyInv w l wr) (n : Nat) : KeyInv w l (wr.drewN n) := ⟨h.1, below_drewN h.2.1 n, h.2.2⟩
set_option maxRecDepth 100000 in
set_option maxHeartbeats 1000000 in
theorem runhex_any (t : ByteArray) (ht : t.size ≤ 281474976710656) (w : World) :
    Calls Tryd.prog 12 #[.string t] w fun e w' => ((okHex (nums t) ∧ e = .returned (.tuple #[.string (strOfNums (decd (nums t) (t.size / 2))), .int .i64 0])) ∨ (¬ okHex (nums t) ∧ e = .returned (.tuple #[.string ⟨#[]⟩, .int .i64 11]))) ∧ Below w.heap.size w w' := by
  have hmk := fun W => run_make_u8 (t.size / 2) (t.size / 2) (by omega) (by omega) W
  have e0 : (((t.size / 2 : Nat)) : Int) = (t.size : Int) / 2 := by omega
  simp only [e0] at hmk
  go_enter Tryd.func12, Tryd.ntmps12
  go_wp2
  clear hmk e0
  go_loopw [5] (fun i wr => ∃ k : Nat, k ≤ t.size ∧ i = .int .i64 k ∧ KeyInv w (stU (nums t) (t.size / 2) k) wr ∧ (0 < k → t.size % 2 = 0) ∧ ∀ j, j < k → 0 ≤ sgn ((nums t).getD j 0)) (fun i _ => t.size - (intOf i).toNat)
  case atStart => exact ⟨0, by omega, rfl, by
      have h : KeyInv w (List.replicate (t.size / 2) 0) (w.alloc (Obj.cells (Array.replicate (t.size / 2) (Value.int .u8 0)) 5)) := ⟨arr_new w .u8 (List.replicate (t.size / 2) 0) 5 _ (by simp), (Below.refl _ _).alloc (Nat.le_refl _) _, by simp⟩
      simpa [stU, decd] using h, fun h => by omega, fun j hj => by omega⟩
  case round =>
    obtain ⟨k, hk, rfl, hI, hev, hval⟩ := hrel
    have HI := hide hI
    have HEV := hide hev
    have HVAL := hide hval
    clear hI hev hval
    by_cases hlt : k < t.size
    · have hix := index_str t k hlt
      obtain ⟨x, hx⟩ : ∃ x, x = (nums t).getD k 0 := ⟨_, rfl⟩
      rw [← hx] at hix
      have HX := hide hx
      clear hx
      obtain ⟨wo, rfl⟩ : ∃ wo : World, wo = wr := ⟨_, rfl⟩
      go_wp2
      go_loopw [6, 7] (fun v i wr => ∃ j : Nat, j ≤ 16 ∧ i = .int .i64 j ∧ v = .int .i64 (svk x j) ∧ ∃ nn, wr = wo.drewN nn) (fun _ i _ => 16 - (intOf i).toNat)
      case atStart => exact ⟨0, by omega, rfl, by rw [svk_zero], 0, rfl⟩
      case round =>
        obtain ⟨j, hj, rfl, rfl, nn, rfl⟩ := hrel
        by_cases hjl : j < 16
        · have hsg := index_sign64 j hjl
          have hq := hexd_eq j hjl x
          by_cases hh : sgn x = j
          · have hb : (hexd j == x) = true := by rw [beq_iff_eq]; exact hq.2 hh
            have HV := hide (svk_hit x j hh)
            clear hq hh
            generalize hexd j = dd at *
            go_wp2
            go_quiet (fail)
            go_wp2
            go_roundw
            case rel => exact ⟨j + 1, by omega, by go_num, by rw [unhide HV], nn + nq, by simp⟩
            case measure => simp [intOf]; omega
          · have hb : (hexd j == x) = false := by rw [beq_eq_false_iff_ne]; exact fun e => hh (hq.1 e)
            have HV := hide (svk_miss x j hh)
            clear hq hh
            generalize hexd j = dd at *
            go_wp2
            go_quiet (fail)
            go_wp2
            go_roundw
            case rel => exact ⟨j + 1, by omega, by go_num, by rw [unhide HV], nn + nq, by simp⟩
            case measure => simp [intOf]; omega
        · have e16 : j = 16 := by omega
          have hv : svk x j = sgn x := by rw [e16]; exact svk_end x
          rw [hv]
          have hsb := sgn_bd x
          clear hv e16
          by_cases hbad : sgn x = -1 ∨ t.size % 2 = 1
          · have hno : ¬ okHex (nums t) := by
              intro hok
              rcases hbad with hbad | hbad
              · have := hok.2 k (by rw [nums_len]; exact hlt)
                rw [← unhide HX] at this
                omega
              · have := hok.1
                rw [nums_len] at this
                omega
            have HNO := hide hno
            clear hno
            have HB := hide (below_drewN (unhide HI).2.1 nn)
            generalize sgn x = v at *
            by_cases hneg : v < 0
            · clear hbad
              go_wp2
              go_ret2
              exact ⟨.inr ⟨unhide HNO, rfl⟩, unhide HB⟩
            · have hodd : ((t.size : Int) % 2 == 1) = true := by simp; omega
              have hd : decide (v < 0) = false := by simp; omega
              clear hbad
              go_wp2
              go_ret2
              exact ⟨.inr ⟨unhide HNO, rfl⟩, unhide HB⟩
          · have hv0 : 0 ≤ sgn x := by omega
            have hev2 : t.size % 2 = 0 := by omega
            have hodd : ((t.size : Int) % 2 == 1) = false := by simp; omega
            have hd : decide (sgn x < 0) = false := by simp; omega
            have hll := stU_len (nums t) (t.size / 2) k (by omega)
            have c1 := (unhide HI).1.get0 (k / 2) (by omega)
            have f1 := (unhide HI).1.free0 (k / 2) (by omega)
            have HVN := hide (show ∀ j, j < k + 1 → 0 ≤ sgn ((nums t).getD j 0) by
              intro j hj
              by_cases e : j = k
              · rw [e, ← unhide HX]; exact hv0
              · exact unhide HVAL j (by omega))
            have e2 : ((k : Int) / 2).toNat = k / 2 := by omega
            rcases (show k % 2 = 0 ∨ k % 2 = 1 by omega) with hp | hp
            · have hs := stU_even (nums t) (t.size / 2) k hp (by omega)
              rw [hs.1] at c1
              have HS := hide hs.2
              rw [← unhide HX] at HS
              have HL := hide hll
              clear hs hbad hll hp
              generalize sgn x = v at *
              go_wp2
              go_roundw
              case rel => exact ⟨k + 1, by omega, by go_num, ((unhide HI).drewN nn).put (k / 2) (by rw [unhide HL]; omega) _ (unhide HS), fun _ => hev2, unhide HVN⟩
              case measure => simp [intOf]; omega
            · have hs := stU_odd (nums t) (t.size / 2) k hp
              rw [hs.1] at c1
              have HS := hide hs.2
              rw [← unhide HX] at HS
              have hu := unhide HVAL (k - 1) (by omega)
              have hub := sgn_bd ((nums t).getD (k - 1) 0)
              have HL := hide hll
              clear hs hbad hll hp
              generalize sgn x = v at *
              generalize sgn ((nums t).getD (k - 1) 0) = u at *
              go_wp2
              go_roundw
              case rel => exact ⟨k + 1, by omega, by go_num, ((unhide HI).drewN nn).put (k / 2) (by rw [unhide HL]; omega) _ (unhide HS), fun _ => hev2, unhide HVN⟩
              case measure => simp [intOf]; omega
    · have ek : k = t.size := by omega
      have hev2 : t.size % 2 = 0 := by
        by_cases h0 : 0 < k
        · exact unhide HEV h0
        · omega
      have hok : okHex (nums t) := ⟨by rw [nums_len]; exact hev2, fun j hj => unhide HVAL j (by rw [nums_len] at hj; omega)⟩
      have hst : stU (nums t) (t.size / 2) k = decd (nums t) (t.size / 2) := by
        rw [ek, stU, if_pos hev2, Nat.sub_self, List.replicate_zero, List.append_nil]
      have hI2 := unhide HI
      rw [hst] at hI2
      have hcv := run_convert_bytes_arg (P := Tryd.prog) wr 39 5 Tryd.underlying39 Tryd.underlying5 w.heap.size 0 (t.size / 2) (t.size / 2) (decd (nums t) (t.size / 2)) (decd_len _ _) (fun i hi => hI2.1.get i (by rw [decd_len]; exact hi)) 9 Tryd.underlying9
      have HB := hide hI2.2.1
      have HOK := hide hok
      clear hI2 hok ek hst HI HEV HVAL
      go_wp2
      go_ret2
      exact ⟨.inl ⟨unhide HOK, rfl⟩, unhide HB⟩
end Go.Proofs.YtokaomlhnmbajaaDoor
