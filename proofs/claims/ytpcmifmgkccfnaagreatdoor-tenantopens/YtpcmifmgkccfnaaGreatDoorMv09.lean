import Derived.Test.YtpcmifmgkccfnaaGreatDoorMv08
namespace Go.Proofs.YtpcmifmgkccfnaaGreatDoor
open Go.RowKit
set_option maxRecDepth 100000
theorem eq_zeroR (w : World) : (Op.equalIn 10000 88 (.agg #[.bool false, .int .i64 0, .int .i64 0, .int .i64 0, .int .i64 0, .int .i64 0, .int .i64 0, .int .i64 0, .int .i64 0, .int .i64 0, .int .i64 0, .int .i64 0, .int .i64 0, .int .i64 0, .int .i64 0, .int .i64 0, .int .i64 0, .int .i64 0, .int .i64 0, .int .i64 0]) (.agg #[.bool false, .int .i64 0, .int .i64 0, .int .i64 0, .int .i64 0, .int .i64 0, .int .i64 0, .int .i64 0, .int .i64 0, .int .i64 0, .int .i64 0, .int .i64 0, .int .i64 0, .int .i64 0, .int .i64 0, .int .i64 0, .int .i64 0, .int .i64 0, .int .i64 0, .int .i64 0])).run Tryz.prog w = .ok true w := by kernel_rfl
theorem eq_zeroV (w : World) : (Op.equalIn 10000 54 (.agg #[.int .i64 0, .int .i64 0]) (.agg #[.int .i64 0, .int .i64 0])).run Tryz.prog w = .ok true w := by kernel_rfl
set_option maxRecDepth 100000 in
set_option maxHeartbeats 2000000 in
theorem hasRight_ok (q c n : Nat) (f : Nat → Nat × Nat) (hn : n ≤ 8) (hf : ∀ k, (f k).1 ≤ 99 ∧ (f k).2 ≤ 1023) (hr : ∀ k, k + 1 < n → (f k).1 < (f (k + 1)).1) (hz : ∀ k, n ≤ k → f k = (0, 0)) (w : World) : Calls Tryz.prog 186 #[.agg (rC true q c n f).toArray] w fun e w' => e = .returned (.bool true) ∧ Below w.heap.size w w' := by
  obtain ⟨g, hg⟩ : ∃ g, w.heap.size = g := ⟨_, rfl⟩
  have HIX := hide (index_vls f)
  have HRG := hide (fun W (h : Blk W g (rC true q c n f).toArray 88) => vC_range h)
  have HAT := hide (fun k (hk : k < 8) => (rC_at true q c n f k hk).1)
  have HVL := hide (show (vC f).length = 16 from rfl)
  obtain ⟨vs, hvs⟩ : ∃ q, vC f = q := ⟨_, rfl⟩
  rw [hvs] at HIX HRG HVL
  have h3 : (rC true q c n f).toArray[3]? = some (.int .i64 (n : Int)) := rfl
  generalize (rC true q c n f).toArray = xs at *
  clear hvs
  obtain ⟨x2, hx2⟩ : ∃ q, w.alloc (.cells xs 88) = q := ⟨_, rfl⟩
  have B : Blk x2 g xs 88 := by rw [← hx2, ← hg]; exact Blk.new w _ _
  have hb : Below g w x2 := by rw [← hx2, ← hg]; exact (Below.refl _ w).alloc (Nat.le_refl _) _
  have c3 : x2.cell? ⟨g, 3, none⟩ = some (.int .i64 (n : Int)) := by rw [B.cell]; exact h3
  have X2 := hide (And.intro B hb)
  have R2 := hide (unhide HRG x2 B)
  have H3 := hide h3
  have HF := hide (And.intro hf (And.intro hr hz))
  have hn' : ¬ (8 : Int) < (n : Int) := by omega
  clear B hb hf hr hz h3
  rw [hg]
  go_enter Tryz.func186, Tryz.ntmps186
  go_wp2_with (refine wpList_load_mid rfl 86 (.tmp 8) rfl g 4 rfl _ _ (unhide R2) Tryz.underlying86 rfl (by rw [sizeVls, unhide HVL]) ?_)
  clear R2 hx2 c3
  go_loopw [10] (fun i wr => ∃ k : Nat, k ≤ 8 ∧ i = .int .i64 (k : Int) ∧ Blk wr g xs 88 ∧ Below g w wr) (fun i _ => 8 - (intOf i).toNat)
  case atStart => exact ⟨0, by omega, rfl, (unhide X2).1, (unhide X2).2⟩
  case round =>
    obtain ⟨k, hk, rfl, hBx, hBw⟩ := hrel
    by_cases hkn : k < 8
    · have hkn' : (k : Int) < 8 := by omega
      have hk0 : (0 : Int) ≤ (k : Int) := by omega
      have hix := unhide HIX k hkn
      obtain ⟨ge, hge⟩ : ∃ q, wr.heap.size = q := ⟨_, rfl⟩
      have hgg : g < ge := by rw [← hge]; exact hBx.lt
      by_cases hkk : k < n
      · have hkk' : ¬ (n : Int) ≤ (k : Int) := by omega
        have HV := hide (fun W => isVolume_ok (f k).1 (f k).2 ((unhide HF).1 k).1 ((unhide HF).1 k).2 W)
        have HPV := hide (show ∀ j, k = j + 1 → (f j).1 < (f k).1 from fun j hj => by subst hj; exact (unhide HF).2.1 j hkk)
        generalize (f k).1 = u at *
        generalize (f k).2 = v at *
        obtain ⟨y0, hy0⟩ : ∃ q, wr.alloc (.cells #[.int .i64 (u : Int), .int .i64 (v : Int)] 54) = q := ⟨_, rfl⟩
        have B0 : Blk y0 ge #[.int .i64 (u : Int), .int .i64 (v : Int)] 54 := by rw [← hy0, ← hge]; exact Blk.new wr _ _
        have BX : Blk y0 g xs 88 := by rw [← hy0]; exact hBx.alloc _
        have hb0 : Below g w y0 := by rw [← hy0]; exact hBw.alloc (by omega) _
        have c3 : y0.cell? ⟨g, 3, none⟩ = some (.int .i64 (n : Int)) := by rw [BX.cell]; exact unhide H3
        have HS0 := hide (And.intro B0 BX)
        have HSW := hide (show ∀ W, Below y0.heap.size y0 W → Blk W ge #[.int .i64 (u : Int), .int .i64 (v : Int)] 54 ∧ Blk W g xs 88 from fun W hW => ⟨B0.below hW B0.lt, BX.below hW BX.lt⟩)
        have HW0 := hide (And.intro hb0 B0.lt)
        clear B0 BX hb0 hBx hBw
        by_cases hkz : k = 0
        · have hkp : ¬ (0 : Int) < (k : Int) := by omega
          clear hkz
          go_wp2
          refine wp_region_held_drew (S := fun w' => Blk w' ge #[.int .i64 (u : Int), .int .i64 (v : Int)] 54 ∧ Blk w' g xs 88) (by kernel_rfl) (unhide HS0) ?_
          intro hS
          refine wpAnyH_takeD 0 (some 21) (.agg #[.int .i64 (u : Int), .int .i64 (v : Int)]) rfl rfl (by kernel_rfl) (by kernel_rfl) (by kernel_rfl) (fun _ _ _ h => h) (yieldsIf_load_mid (by rfl) 54 (.tmp 4) rfl ge 0 rfl [.int .i64 (u : Int), .int .i64 (v : Int)] _ (fun w hSw => blk_range hSw.1) Tryz.underlying54 rfl (by rw [sizeVol]; rfl)) hS ?_
          simp only [Act.put, List.setIfInBounds_toArray, List.set_cons_zero, List.set_cons_succ]
          refine wpAnyH_ready (rs := [1]) (by kernel_rfl) (by simp) ?_
          refine AllReadyH.cons rfl (fun K hK => ?_) AllReadyH.nil
          simp only [List.getElem_toArray, List.getElem_cons_succ, List.getElem_cons_zero]
          go_simp
          refine (unhide HV _).mono ?_
          rintro e y4 ⟨rfl, hb4⟩
          have HS4 := hide (unhide HSW y4 (((Below.refl _ y0).drew).trans hb4))
          have HS5 := HS4
          have HB4 := hide (show Below g w y4 from (unhide HW0).1.trans ((((Below.refl _ y0).drew).trans hb4).mono (Nat.le_of_lt (Nat.lt_trans hgg (unhide HW0).2))))
          clear hb4
          refine hK.out _ _ (unhide HS4) (fun hS => ?_)
          clear hK K
          refine wpAnyH_takeD 2 (some 23) (.bool false) rfl rfl (by kernel_rfl) (by kernel_rfl) (by kernel_rfl) (fun _ _ _ h => h) (Or.inl ⟨by rfl, fun w hSw => by clear hSw; go_simp; try omega⟩) hS ?_
          simp only [Act.put, List.setIfInBounds_toArray, List.set_cons_zero, List.set_cons_succ]
          refine wpAnyH_takeD 3 (some 24) (.bool false) rfl rfl (by kernel_rfl) (by kernel_rfl) (by kernel_rfl) (fun _ _ _ h => h) (Or.inl ⟨by rfl, fun w hSw => by clear hSw; go_simp; try omega⟩) hS ?_
          simp only [Act.put, List.setIfInBounds_toArray, List.set_cons_zero, List.set_cons_succ]
          refine wpAnyH_takeD 4 (some 25) (.int .i64 (k : Int)) rfl rfl (by kernel_rfl) (by kernel_rfl) (by kernel_rfl) (fun _ _ _ h => h) (Or.inl ⟨by rfl, fun w hSw => by clear hSw; go_simp; try omega⟩) hS ?_
          simp only [Act.put, List.setIfInBounds_toArray, List.set_cons_zero, List.set_cons_succ]
          refine wpAnyH_takeD 5 (some 26) (.bool false) rfl rfl (by kernel_rfl) (by kernel_rfl) (by kernel_rfl) (fun _ _ _ h => h) (Or.inl ⟨by rfl, fun w hSw => by clear hSw; go_simp; try omega⟩) hS ?_
          simp only [Act.put, List.setIfInBounds_toArray, List.set_cons_zero, List.set_cons_succ]
          refine wpAnyH_takeD 6 (some 27) (.bool false) rfl rfl (by kernel_rfl) (by kernel_rfl) (by kernel_rfl) (fun _ _ _ h => h) (Or.inl ⟨by rfl, fun w hSw => by clear hSw; go_simp; try omega⟩) hS ?_
          simp only [Act.put, List.setIfInBounds_toArray, List.set_cons_zero, List.set_cons_succ]
          refine wpAnyH_takeD 7 (some 28) undef rfl rfl (by kernel_rfl) (by kernel_rfl) (by kernel_rfl) (fun _ _ _ h => h) (Or.inr ⟨by rfl, rfl⟩) hS ?_
          simp only [Act.put, List.setIfInBounds_toArray, List.set_cons_zero, List.set_cons_succ]
          refine wpAnyH_takeD 8 (some 29) undef rfl rfl (by kernel_rfl) (by kernel_rfl) (by kernel_rfl) (fun _ _ _ h => h) (Or.inr ⟨by rfl, rfl⟩) hS ?_
          simp only [Act.put, List.setIfInBounds_toArray, List.set_cons_zero, List.set_cons_succ]
          refine wpAnyH_takeD 9 (some 30) undef rfl rfl (by kernel_rfl) (by kernel_rfl) (by kernel_rfl) (fun _ _ _ h => h) (Or.inr ⟨by rfl, rfl⟩) hS ?_
          simp only [Act.put, List.setIfInBounds_toArray, List.set_cons_zero, List.set_cons_succ]
          refine wpAnyH_takeD 10 (some 31) undef rfl rfl (by kernel_rfl) (by kernel_rfl) (by kernel_rfl) (fun _ _ _ h => h) (Or.inr ⟨by rfl, rfl⟩) hS ?_
          simp only [Act.put, List.setIfInBounds_toArray, List.set_cons_zero, List.set_cons_succ]
          refine wpAnyH_takeD 11 (some 32) undef rfl rfl (by kernel_rfl) (by kernel_rfl) (by kernel_rfl) (fun _ _ _ h => h) (Or.inr ⟨by rfl, rfl⟩) hS ?_
          simp only [Act.put, List.setIfInBounds_toArray, List.set_cons_zero, List.set_cons_succ]
          refine wpAnyH_takeD 12 (some 33) undef rfl rfl (by kernel_rfl) (by kernel_rfl) (by kernel_rfl) (fun _ _ _ h => h) (Or.inr ⟨by rfl, rfl⟩) hS ?_
          simp only [Act.put, List.setIfInBounds_toArray, List.set_cons_zero, List.set_cons_succ]
          refine wpAnyH_takeD 13 (some 34) undef rfl rfl (by kernel_rfl) (by kernel_rfl) (by kernel_rfl) (fun _ _ _ h => h) (Or.inr ⟨by rfl, rfl⟩) hS ?_
          simp only [Act.put, List.setIfInBounds_toArray, List.set_cons_zero, List.set_cons_succ]
          refine wpAnyH_takeD 14 (some 35) undef rfl rfl (by kernel_rfl) (by kernel_rfl) (by kernel_rfl) (fun _ _ _ h => h) (Or.inr ⟨by rfl, rfl⟩) hS ?_
          simp only [Act.put, List.setIfInBounds_toArray, List.set_cons_zero, List.set_cons_succ]
          refine wpAnyH_takeD 15 (some 36) undef rfl rfl (by kernel_rfl) (by kernel_rfl) (by kernel_rfl) (fun _ _ _ h => h) (Or.inr ⟨by rfl, rfl⟩) hS ?_
          simp only [Act.put, List.setIfInBounds_toArray, List.set_cons_zero, List.set_cons_succ]
          refine wpAnyH_takeD 16 (some 37) (.bool false) rfl rfl (by kernel_rfl) (by kernel_rfl) (by kernel_rfl) (fun _ _ _ h => h) (Or.inl ⟨by rfl, fun w hSw => by clear hSw; go_simp; try omega⟩) hS ?_
          simp only [Act.put, List.setIfInBounds_toArray, List.set_cons_zero, List.set_cons_succ]
          refine wpAnyH_takeD 17 (some 38) (.bool false) rfl rfl (by kernel_rfl) (by kernel_rfl) (by kernel_rfl) (fun _ _ _ h => h) (Or.inl ⟨by rfl, fun w hSw => by clear hSw; go_simp; try omega⟩) hS ?_
          simp only [Act.put, List.setIfInBounds_toArray, List.set_cons_zero, List.set_cons_succ]
          refine wpAnyH_done (by kernel_rfl) ?_ _
          clear HS0 HS4 hS c3
          go_wp2
          go_roundw
          case rel => exact ⟨k + 1, by omega, by go_num, (unhide HS5).2, unhide HB4⟩
          case measure => simp [intOf]; omega
        · have hkp : (0 : Int) < (k : Int) := by omega
          obtain ⟨j, hj⟩ : ∃ j, k = j + 1 := ⟨k - 1, by omega⟩
          have hjk : (k : Int) - 1 = (j : Int) := by omega
          have hj8 : (j : Int) < 8 := by omega
          have hj0 : (0 : Int) ≤ (j : Int) := by omega
          have hwj : IntKind.i64.wrap (j : Int) = (j : Int) := wrapI_eq _ (by omega) (by omega)
          have hlt := unhide HPV j hj
          have HAJ := hide (unhide HAT j (by omega))
          generalize (f j).1 = p at *
          have hle : ¬ (u : Int) ≤ (p : Int) := by omega
          clear hkz hj hlt
          go_wp2
          refine wp_region_held_drew (S := fun w' => Blk w' ge #[.int .i64 (u : Int), .int .i64 (v : Int)] 54 ∧ Blk w' g xs 88) (by kernel_rfl) (unhide HS0) ?_
          intro hS
          refine wpAnyH_takeD 0 (some 21) (.agg #[.int .i64 (u : Int), .int .i64 (v : Int)]) rfl rfl (by kernel_rfl) (by kernel_rfl) (by kernel_rfl) (fun _ _ _ h => h) (yieldsIf_load_mid (by rfl) 54 (.tmp 4) rfl ge 0 rfl [.int .i64 (u : Int), .int .i64 (v : Int)] _ (fun w hSw => blk_range hSw.1) Tryz.underlying54 rfl (by rw [sizeVol]; rfl)) hS ?_
          simp only [Act.put, List.setIfInBounds_toArray, List.set_cons_zero, List.set_cons_succ]
          refine wpAnyH_ready (rs := [1]) (by kernel_rfl) (by simp) ?_
          refine AllReadyH.cons rfl (fun K hK => ?_) AllReadyH.nil
          simp only [List.getElem_toArray, List.getElem_cons_succ, List.getElem_cons_zero]
          go_simp
          refine (unhide HV _).mono ?_
          rintro e y4 ⟨rfl, hb4⟩
          have HS4 := hide (unhide HSW y4 (((Below.refl _ y0).drew).trans hb4))
          have HS5 := HS4
          have HB4 := hide (show Below g w y4 from (unhide HW0).1.trans ((((Below.refl _ y0).drew).trans hb4).mono (Nat.le_of_lt (Nat.lt_trans hgg (unhide HW0).2))))
          clear hb4
          refine hK.out _ _ (unhide HS4) (fun hS => ?_)
          clear hK K
          refine wpAnyH_takeD 2 (some 23) (.bool false) rfl rfl (by kernel_rfl) (by kernel_rfl) (by kernel_rfl) (fun _ _ _ h => h) (Or.inl ⟨by rfl, fun w hSw => by have a0 : w.cell? ⟨ge, 0, none⟩ = some (.int .i64 (u : Int)) := Blk.cell hSw.1 0; have a1 : w.cell? ⟨g, 4 + j * 2, none⟩ = some (.int .i64 (p : Int)) := (Blk.cell hSw.2 _).trans (unhide HAJ); clear hSw; go_simp; try omega⟩) hS ?_
          simp only [Act.put, List.setIfInBounds_toArray, List.set_cons_zero, List.set_cons_succ]
          refine wpAnyH_takeD 3 (some 24) (.bool false) rfl rfl (by kernel_rfl) (by kernel_rfl) (by kernel_rfl) (fun _ _ _ h => h) (Or.inl ⟨by rfl, fun w hSw => by have a0 : w.cell? ⟨ge, 0, none⟩ = some (.int .i64 (u : Int)) := Blk.cell hSw.1 0; have a1 : w.cell? ⟨g, 4 + j * 2, none⟩ = some (.int .i64 (p : Int)) := (Blk.cell hSw.2 _).trans (unhide HAJ); clear hSw; go_simp; try omega⟩) hS ?_
          simp only [Act.put, List.setIfInBounds_toArray, List.set_cons_zero, List.set_cons_succ]
          refine wpAnyH_takeD 4 (some 25) (.int .i64 (k : Int)) rfl rfl (by kernel_rfl) (by kernel_rfl) (by kernel_rfl) (fun _ _ _ h => h) (Or.inl ⟨by rfl, fun w hSw => by have a0 : w.cell? ⟨ge, 0, none⟩ = some (.int .i64 (u : Int)) := Blk.cell hSw.1 0; have a1 : w.cell? ⟨g, 4 + j * 2, none⟩ = some (.int .i64 (p : Int)) := (Blk.cell hSw.2 _).trans (unhide HAJ); clear hSw; go_simp; try omega⟩) hS ?_
          simp only [Act.put, List.setIfInBounds_toArray, List.set_cons_zero, List.set_cons_succ]
          refine wpAnyH_takeD 5 (some 26) (.bool true) rfl rfl (by kernel_rfl) (by kernel_rfl) (by kernel_rfl) (fun _ _ _ h => h) (Or.inl ⟨by rfl, fun w hSw => by have a0 : w.cell? ⟨ge, 0, none⟩ = some (.int .i64 (u : Int)) := Blk.cell hSw.1 0; have a1 : w.cell? ⟨g, 4 + j * 2, none⟩ = some (.int .i64 (p : Int)) := (Blk.cell hSw.2 _).trans (unhide HAJ); clear hSw; go_simp; try omega⟩) hS ?_
          simp only [Act.put, List.setIfInBounds_toArray, List.set_cons_zero, List.set_cons_succ]
          refine wpAnyH_takeD 6 (some 27) (.bool true) rfl rfl (by kernel_rfl) (by kernel_rfl) (by kernel_rfl) (fun _ _ _ h => h) (Or.inl ⟨by rfl, fun w hSw => by have a0 : w.cell? ⟨ge, 0, none⟩ = some (.int .i64 (u : Int)) := Blk.cell hSw.1 0; have a1 : w.cell? ⟨g, 4 + j * 2, none⟩ = some (.int .i64 (p : Int)) := (Blk.cell hSw.2 _).trans (unhide HAJ); clear hSw; go_simp; try omega⟩) hS ?_
          simp only [Act.put, List.setIfInBounds_toArray, List.set_cons_zero, List.set_cons_succ]
          refine wpAnyH_takeD 7 (some 28) (.pointer (some ⟨ge, 0, none⟩)) rfl rfl (by kernel_rfl) (by kernel_rfl) (by kernel_rfl) (fun _ _ _ h => h) (Or.inl ⟨by rfl, fun w hSw => by have a0 : w.cell? ⟨ge, 0, none⟩ = some (.int .i64 (u : Int)) := Blk.cell hSw.1 0; have a1 : w.cell? ⟨g, 4 + j * 2, none⟩ = some (.int .i64 (p : Int)) := (Blk.cell hSw.2 _).trans (unhide HAJ); clear hSw; go_simp; try omega⟩) hS ?_
          simp only [Act.put, List.setIfInBounds_toArray, List.set_cons_zero, List.set_cons_succ]
          refine wpAnyH_takeD 8 (some 29) (.int .i64 (u : Int)) rfl rfl (by kernel_rfl) (by kernel_rfl) (by kernel_rfl) (fun _ _ _ h => h) (Or.inl ⟨by rfl, fun w hSw => by have a0 : w.cell? ⟨ge, 0, none⟩ = some (.int .i64 (u : Int)) := Blk.cell hSw.1 0; have a1 : w.cell? ⟨g, 4 + j * 2, none⟩ = some (.int .i64 (p : Int)) := (Blk.cell hSw.2 _).trans (unhide HAJ); clear hSw; go_simp; try omega⟩) hS ?_
          simp only [Act.put, List.setIfInBounds_toArray, List.set_cons_zero, List.set_cons_succ]
          refine wpAnyH_takeD 9 (some 30) (.int .i64 (k : Int)) rfl rfl (by kernel_rfl) (by kernel_rfl) (by kernel_rfl) (fun _ _ _ h => h) (Or.inl ⟨by rfl, fun w hSw => by have a0 : w.cell? ⟨ge, 0, none⟩ = some (.int .i64 (u : Int)) := Blk.cell hSw.1 0; have a1 : w.cell? ⟨g, 4 + j * 2, none⟩ = some (.int .i64 (p : Int)) := (Blk.cell hSw.2 _).trans (unhide HAJ); clear hSw; go_simp; try omega⟩) hS ?_
          simp only [Act.put, List.setIfInBounds_toArray, List.set_cons_zero, List.set_cons_succ]
          refine wpAnyH_takeD 10 (some 31) (.int .i64 (j : Int)) rfl rfl (by kernel_rfl) (by kernel_rfl) (by kernel_rfl) (fun _ _ _ h => h) (Or.inl ⟨by rfl, fun w hSw => by have a0 : w.cell? ⟨ge, 0, none⟩ = some (.int .i64 (u : Int)) := Blk.cell hSw.1 0; have a1 : w.cell? ⟨g, 4 + j * 2, none⟩ = some (.int .i64 (p : Int)) := (Blk.cell hSw.2 _).trans (unhide HAJ); clear hSw; go_simp; try omega⟩) hS ?_
          simp only [Act.put, List.setIfInBounds_toArray, List.set_cons_zero, List.set_cons_succ]
          refine wpAnyH_takeD 11 (some 32) (.pointer (some ⟨g, 4, none⟩)) rfl rfl (by kernel_rfl) (by kernel_rfl) (by kernel_rfl) (fun _ _ _ h => h) (Or.inl ⟨by rfl, fun w hSw => by have a0 : w.cell? ⟨ge, 0, none⟩ = some (.int .i64 (u : Int)) := Blk.cell hSw.1 0; have a1 : w.cell? ⟨g, 4 + j * 2, none⟩ = some (.int .i64 (p : Int)) := (Blk.cell hSw.2 _).trans (unhide HAJ); clear hSw; go_simp; try omega⟩) hS ?_
          simp only [Act.put, List.setIfInBounds_toArray, List.set_cons_zero, List.set_cons_succ]
          refine wpAnyH_takeD 12 (some 33) (.pointer (some ⟨g, 4 + j * 2, none⟩)) rfl rfl (by kernel_rfl) (by kernel_rfl) (by kernel_rfl) (fun _ _ _ h => h) (Or.inl ⟨by rfl, fun w hSw => by have a0 : w.cell? ⟨ge, 0, none⟩ = some (.int .i64 (u : Int)) := Blk.cell hSw.1 0; have a1 : w.cell? ⟨g, 4 + j * 2, none⟩ = some (.int .i64 (p : Int)) := (Blk.cell hSw.2 _).trans (unhide HAJ); clear hSw; go_simp; try omega⟩) hS ?_
          simp only [Act.put, List.setIfInBounds_toArray, List.set_cons_zero, List.set_cons_succ]
          refine wpAnyH_takeD 13 (some 34) (.pointer (some ⟨g, 4 + j * 2, none⟩)) rfl rfl (by kernel_rfl) (by kernel_rfl) (by kernel_rfl) (fun _ _ _ h => h) (Or.inl ⟨by rfl, fun w hSw => by have a0 : w.cell? ⟨ge, 0, none⟩ = some (.int .i64 (u : Int)) := Blk.cell hSw.1 0; have a1 : w.cell? ⟨g, 4 + j * 2, none⟩ = some (.int .i64 (p : Int)) := (Blk.cell hSw.2 _).trans (unhide HAJ); clear hSw; go_simp; try omega⟩) hS ?_
          simp only [Act.put, List.setIfInBounds_toArray, List.set_cons_zero, List.set_cons_succ]
          refine wpAnyH_takeD 14 (some 35) (.int .i64 (p : Int)) rfl rfl (by kernel_rfl) (by kernel_rfl) (by kernel_rfl) (fun _ _ _ h => h) (Or.inl ⟨by rfl, fun w hSw => by have a0 : w.cell? ⟨ge, 0, none⟩ = some (.int .i64 (u : Int)) := Blk.cell hSw.1 0; have a1 : w.cell? ⟨g, 4 + j * 2, none⟩ = some (.int .i64 (p : Int)) := (Blk.cell hSw.2 _).trans (unhide HAJ); clear hSw; go_simp; try omega⟩) hS ?_
          simp only [Act.put, List.setIfInBounds_toArray, List.set_cons_zero, List.set_cons_succ]
          refine wpAnyH_takeD 15 (some 36) (.bool false) rfl rfl (by kernel_rfl) (by kernel_rfl) (by kernel_rfl) (fun _ _ _ h => h) (Or.inl ⟨by rfl, fun w hSw => by have a0 : w.cell? ⟨ge, 0, none⟩ = some (.int .i64 (u : Int)) := Blk.cell hSw.1 0; have a1 : w.cell? ⟨g, 4 + j * 2, none⟩ = some (.int .i64 (p : Int)) := (Blk.cell hSw.2 _).trans (unhide HAJ); clear hSw; go_simp; try omega⟩) hS ?_
          simp only [Act.put, List.setIfInBounds_toArray, List.set_cons_zero, List.set_cons_succ]
          refine wpAnyH_takeD 16 (some 37) (.bool false) rfl rfl (by kernel_rfl) (by kernel_rfl) (by kernel_rfl) (fun _ _ _ h => h) (Or.inl ⟨by rfl, fun w hSw => by have a0 : w.cell? ⟨ge, 0, none⟩ = some (.int .i64 (u : Int)) := Blk.cell hSw.1 0; have a1 : w.cell? ⟨g, 4 + j * 2, none⟩ = some (.int .i64 (p : Int)) := (Blk.cell hSw.2 _).trans (unhide HAJ); clear hSw; go_simp; try omega⟩) hS ?_
          simp only [Act.put, List.setIfInBounds_toArray, List.set_cons_zero, List.set_cons_succ]
          refine wpAnyH_takeD 17 (some 38) (.bool false) rfl rfl (by kernel_rfl) (by kernel_rfl) (by kernel_rfl) (fun _ _ _ h => h) (Or.inl ⟨by rfl, fun w hSw => by have a0 : w.cell? ⟨ge, 0, none⟩ = some (.int .i64 (u : Int)) := Blk.cell hSw.1 0; have a1 : w.cell? ⟨g, 4 + j * 2, none⟩ = some (.int .i64 (p : Int)) := (Blk.cell hSw.2 _).trans (unhide HAJ); clear hSw; go_simp; try omega⟩) hS ?_
          simp only [Act.put, List.setIfInBounds_toArray, List.set_cons_zero, List.set_cons_succ]
          refine wpAnyH_done (by kernel_rfl) ?_ _
          clear HS0 HS4 hS c3
          go_wp2
          go_roundw
          case rel => exact ⟨k + 1, by omega, by go_num, (unhide HS5).2, unhide HB4⟩
          case measure => simp [intOf]; omega
      · have hkk' : (n : Int) ≤ (k : Int) := by omega
        have hz := (unhide HF).2.2 k (by omega)
        rw [hz] at hix
        have BX : Blk (wr.alloc (.cells #[.int .i64 0, .int .i64 0] 54)) g xs 88 := hBx.alloc _
        have hb0 : Below g w (wr.alloc (.cells #[.int .i64 0, .int .i64 0] 54)) := hBw.alloc (by omega) _
        have c3 : (wr.alloc (.cells #[.int .i64 0, .int .i64 0] 54)).cell? ⟨g, 3, none⟩ = some (.int .i64 (n : Int)) := by rw [BX.cell]; exact unhide H3
        have hq0 := eq_zeroV
        have HR := hide (And.intro BX hb0)
        clear BX hb0 hBx hBw hz
        go_wp2
        go_roundw
        case rel => exact ⟨k + 1, by omega, by go_num, (unhide HR).1, (unhide HR).2⟩
        case measure => simp [intOf]; omega
    · have hkn' : ¬ (k : Int) < 8 := by omega
      clear HIX HRG HAT
      go_wp2
      go_ret
      exact ⟨rfl, hBw⟩
set_option maxRecDepth 100000 in
set_option maxHeartbeats 2000000 in
theorem recRight_no  (w : World) : Calls Tryz.prog 168 #[.agg (rV Rc0).toArray] w fun e w' => e = .returned (.bool true) ∧ Below w.heap.size w w' := by
  obtain ⟨g, hg⟩ : ∃ g, w.heap.size = g := ⟨_, rfl⟩
  have hxl : (rV Rc0).length = 20 := rfl
  have h0 : (rV Rc0).toArray[0]? = some (.bool false) := rfl
  have hq0 : ∀ w, (Op.equalIn 10000 88 (.agg (rV Rc0).toArray) (.agg #[.bool false, .int .i64 0, .int .i64 0, .int .i64 0, .int .i64 0, .int .i64 0, .int .i64 0, .int .i64 0, .int .i64 0, .int .i64 0, .int .i64 0, .int .i64 0, .int .i64 0, .int .i64 0, .int .i64 0, .int .i64 0, .int .i64 0, .int .i64 0, .int .i64 0, .int .i64 0])).run Tryz.prog w = .ok true w := fun w => by rw [rV_zero]; exact eq_zeroR w
  generalize rV Rc0 = xs at *
  obtain ⟨x2, hx2⟩ : ∃ q, w.alloc (.cells xs.toArray 88) = q := ⟨_, rfl⟩
  have B : Blk x2 g xs.toArray 88 := by rw [← hx2, ← hg]; exact Blk.new w _ _
  have hb : Below g w x2 := by rw [← hx2, ← hg]; exact (Below.refl _ w).alloc (Nat.le_refl _) _
  have c0 : x2.cell? ⟨g, 0, none⟩ = some (.bool false) := by rw [B.cell]; exact h0
  have R2 := hide (blk_range B)
  have HXL := hide hxl
  have X2 := hide hb
  clear B hb h0 hxl
  rw [hg]
  go_enter Tryz.func168, Tryz.ntmps168
  go_wp2_with (refine wpList_load_mid rfl 88 (.tmp 1) rfl g 0 rfl _ _ (unhide R2) Tryz.underlying88 rfl (by rw [sizeRec, unhide HXL]) ?_)
  go_ret
  exact ⟨rfl, unhide X2⟩
set_option maxRecDepth 100000 in
set_option maxHeartbeats 2000000 in
theorem recRight_yes (q c n : Nat) (f : Nat → Nat × Nat) (hq8 : q ≤ 65535) (hc8 : c ≤ q) (hn : n ≤ 8) (hf : ∀ k, (f k).1 ≤ 99 ∧ (f k).2 ≤ 1023) (hr : ∀ k, k + 1 < n → (f k).1 < (f (k + 1)).1) (hz : ∀ k, n ≤ k → f k = (0, 0)) (w : World) : Calls Tryz.prog 168 #[.agg (rC true q c n f).toArray] w fun e w' => e = .returned (.bool true) ∧ Below w.heap.size w w' := by
  obtain ⟨g, hg⟩ : ∃ g, w.heap.size = g := ⟨_, rfl⟩
  have HH := hide (fun W => hasRight_ok q c n f hn hf hr hz W)
  have HQ := hide (fun W => isQuota_ok q (Nat.zero_le _) hq8 W)
  have hcq : (c : Int) ≤ (q : Int) := by omega
  have hxl : (rC true q c n f).length = 20 := rfl
  have h0 : (rC true q c n f).toArray[0]? = some (.bool true) := rfl
  have h1 : (rC true q c n f).toArray[1]? = some (.int .i64 (q : Int)) := rfl
  have h2 : (rC true q c n f).toArray[2]? = some (.int .i64 (c : Int)) := rfl
  clear hf hr hz hn hq8 hc8
  generalize rC true q c n f = xs at *
  obtain ⟨x2, hx2⟩ : ∃ xx, w.alloc (.cells xs.toArray 88) = xx := ⟨_, rfl⟩
  have B : Blk x2 g xs.toArray 88 := by rw [← hx2, ← hg]; exact Blk.new w _ _
  have hb : Below g w x2 := by rw [← hx2, ← hg]; exact (Below.refl _ w).alloc (Nat.le_refl _) _
  have c0 : x2.cell? ⟨g, 0, none⟩ = some (.bool true) := by rw [B.cell]; exact h0
  have c1 : x2.cell? ⟨g, 1, none⟩ = some (.int .i64 (q : Int)) := by rw [B.cell]; exact h1
  have c2 : x2.cell? ⟨g, 2, none⟩ = some (.int .i64 (c : Int)) := by rw [B.cell]; exact h2
  have R2 := hide (blk_range B)
  have HXL := hide hxl
  have X2 := hide (And.intro hb B.lt)
  clear B hb h0 h1 h2 hxl
  rw [hg]
  go_enter Tryz.func168, Tryz.ntmps168
  go_wp2_with fail
  refine (unhide HQ _).mono ?_
  rintro e w' ⟨rfl, hw'⟩
  subst w'
  go_wp2_with (refine wpList_load_midG (by rfl) 88 (.tmp 1) rfl g 0 rfl _ _ (unhide R2) Tryz.underlying88 rfl (by rw [sizeRec, unhide HXL]) ?_)
  refine (unhide HH _).mono ?_
  rintro e x3 ⟨rfl, hb3⟩
  have HB3 := hide ((unhide X2).1.trans (hb3.mono (Nat.le_of_lt (unhide X2).2)))
  clear hb3
  go_wp2
  go_ret
  exact ⟨rfl, unhide HB3⟩
theorem recRight_ok (r : Rc) (h : ROk r) (w : World) : Calls Tryz.prog 168 #[.agg (rV r).toArray] w fun e w' => e = .returned (.bool true) ∧ Below w.heap.size w w' := by
  cases ht : r.th with
  | false =>
    rw [h.nt ht]
    exact recRight_no w
  | true =>
    rw [rV, ht]
    exact recRight_yes r.q r.c r.v.length r.at h.q h.c h.n h.at8 h.ri (fun k hk => r.at_ge k hk) w
end Go.Proofs.YtpcmifmgkccfnaaGreatDoor
