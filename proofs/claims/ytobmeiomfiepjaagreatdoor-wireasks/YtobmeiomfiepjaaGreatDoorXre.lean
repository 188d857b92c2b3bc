import Derived.Test.YtobmeiomfiepjaaGreatDoorXrp
namespace Go.Proofs.YtobmeiomfiepjaaGreatDoor
open Go.RowKit
set_option maxRecDepth 100000
set_option maxHeartbeats 4000000 in
theorem rencode_kind (r : Req) (h : ¬ (1 ≤ r.kd ∧ r.kd ≤ 12)) (w : World) : Calls Tryz.prog 10 #[.agg r.cl.toArray] w fun e w' => e = .returned (.tuple #[.string ⟨#[]⟩, .int .i64 120]) ∧ Below w.heap.size w w' := by
  obtain ⟨g, hg⟩ : ∃ g, w.heap.size = g := ⟨_, rfl⟩
  obtain ⟨x2, hx2⟩ : ∃ Z, w.alloc (.cells r.cl.toArray 23) = Z := ⟨_, rfl⟩
  have B : Blk x2 g r.cl.toArray 23 := by rw [← hx2, ← hg]; exact Blk.new w _ _
  have hb : Below g w x2 := by rw [← hx2, ← hg]; exact (Below.refl _ w).alloc (Nat.le_refl _) _
  have d0 : x2.cell? ⟨g, 0, none⟩ = some (.int .i64 r.kd) := by rw [B.cell]; rfl
  have HB2 := hide hb
  clear B hb
  generalize r.kd = kd at *
  generalize r.cl = rl at *
  rw [hg]
  by_cases h0 : kd < 1
  · have h1 : decide (kd < 1) = true := by simpa using h0
    clear h h0
    go_enter Tryz.func10, Tryz.ntmps10
    go_wp2
    go_ret2
    exact ⟨rfl, unhide HB2⟩
  · have h1 : decide (kd < 1) = false := by simpa using h0
    have h2 : decide (kd > 12) = true := by simp; omega
    clear h h0
    go_enter Tryz.func10, Tryz.ntmps10
    go_wp2
    go_ret2
    exact ⟨rfl, unhide HB2⟩
set_option maxHeartbeats 4000000 in
theorem rencode_ok (r : Req) (h : 1 ≤ r.kd ∧ r.kd ≤ 12) (w : World) : Calls Tryz.prog 10 #[.agg r.cl.toArray] w fun e w' => e = .returned (.tuple #[.string (encQ r), .int .i64 (errQ r)]) ∧ Below w.heap.size w w' := by
  obtain ⟨g, hg⟩ : ∃ g, w.heap.size = g := ⟨_, rfl⟩
  obtain ⟨x2, hx2⟩ : ∃ Z, w.alloc (.cells r.cl.toArray 23) = Z := ⟨_, rfl⟩
  have B : Blk x2 g r.cl.toArray 23 := by rw [← hx2, ← hg]; exact Blk.new w _ _
  have hb : Below g w x2 := by rw [← hx2, ← hg]; exact (Below.refl _ w).alloc (Nat.le_refl _) _
  have d0 : x2.cell? ⟨g, 0, none⟩ = some (.int .i64 r.kd) := by rw [B.cell]; rfl
  have HB2 := hide (And.intro hb (Nat.le_of_lt B.lt))
  have HMA := hide (may_any r h x2)
  have h1 : decide (r.kd < 1) = false := by simp; omega
  have h2 : decide (r.kd > 12) = false := by simp; omega
  have HRG := hide (show x2.rangeAt g 0 r.cl from blk_range B)
  have HBX := hide B
  rw [encQ, errQ, if_pos h, if_pos h, ← may_eq r h]
  cases hm : mayQ r with
  | false =>
    rw [hm] at HMA
    rw [if_neg (by decide), if_neg (by decide)]
    clear B hb h hm
    rw [hg]
    generalize r.kd = kd at *
    generalize hrl : r.cl = rl at *
    have HSZ := hide (show (Tryz.prog.info? 23).map (·.size) = some rl.length by rw [← hrl]; exact size_req)
    clear hrl
    go_enter Tryz.func10, Tryz.ntmps10
    go_wp2_with (refine wpList_load_mid rfl 23 (.tmp 1) rfl g 0 rfl rl _ (unhide HRG) Tryz.underlying23 rfl (unhide HSZ) ?_)
    refine (unhide HMA).mono ?_
    rintro e x3 ⟨rfl, hx3⟩
    have HX3 := hide (show Below g w x3 from (unhide HB2).1.trans (hx3.mono (unhide HB2).2))
    clear hx3
    go_wp2
    go_ret2
    exact ⟨rfl, unhide HX3⟩
  | true =>
    rw [hm] at HMA
    rw [if_pos rfl, if_pos rfl]
    have HFI := hide (fun W => fields_any r h hm W)
    obtain ⟨k, hk⟩ : ∃ q : Nat, r.kd = (q : Int) := ⟨r.kd.toNat, by omega⟩
    have HNU := hide (fun W => rnum_of k 1 (by omega) (by decide) W)
    have hel := eqL_len r
    have hsz : (strOfNums (eqL r)).size = (eqL r).length := strOfNums_size _
    have hen : nums (strOfNums (eqL r)) = eqL r := nums_strOfNums _ hel.2
    have HCK := hide (fun W => rcheck_any (strOfNums (eqL r)) (by omega) W)
    rw [hen] at HCK
    have HLO := hide (fun W => low4_any (chkN (eqL r)) (chkN_lt _) W)
    have hES : strOfNums (numB (k : Int) 1) ++ strOfNums (lqL r) = strOfNums (eqL r) := by rw [eqL, strOfNums_app, hk]
    have hll := (lqL_len r).1
    have y1 : ¬ 9223372036854775807 < (strOfNums (numB (k : Int) 1)).size + (strOfNums (lqL r)).size := by rw [strOfNums_size, strOfNums_size, numB_len]; omega
    have y2 : ¬ 9223372036854775807 < (strOfNums (eqL r)).size + (strOfNums (le4 (chkN (eqL r)))).size := by
      have h4 : (strOfNums (le4 (chkN (eqL r)))).size = 4 := by rw [strOfNums_size]; rfl
      omega
    have HQ0 := hide (show r.cl.toArray[0]? = some (.int .i64 (k : Int)) by rw [← hk]; rfl)
    rw [hk] at d0 h1 h2
    clear B hb h hm hk hel hsz hen hll
    generalize strOfNums (numB (k : Int) 1) = SK at *
    generalize strOfNums (lqL r) = SF at *
    generalize strOfNums (le4 (chkN (eqL r))) = S4 at *
    generalize chkN (eqL r) = C at *
    generalize strOfNums (eqL r) = SE at *
    rw [hg]
    go_enter Tryz.func10, Tryz.ntmps10
    go_wp2_with (refine wpList_load_mid rfl 23 (.tmp 1) rfl g 0 rfl r.cl _ (unhide HRG) Tryz.underlying23 rfl size_req ?_)
    refine (unhide HMA).mono ?_
    rintro e x3 ⟨rfl, hx3⟩
    have HX3 := hide (show Below g w x3 from (unhide HB2).1.trans (hx3.mono (unhide HB2).2))
    have HS3 := hide ((unhide HBX).below hx3 (unhide HBX).lt)
    clear hx3 d0
    go_wp2
    refine wp_region_held_drew (S := fun w' => Blk w' g r.cl.toArray 23) (by kernel_rfl) (unhide HS3) ?_
    intro hS
    refine wpAnyH_takeD 0 (some 18) (.pointer (some ⟨g, 0, none⟩)) rfl rfl (by kernel_rfl) (by kernel_rfl) (by kernel_rfl) (fun _ _ _ h => h) (Or.inl ⟨by rfl, fun w hSw => by have q0 : w.cell? ⟨g, 0, none⟩ = some (.int .i64 (k : Int)) := (Blk.cell hSw 0).trans (unhide HQ0); clear hSw; go_simp⟩) hS ?_
    simp only [Act.put, List.setIfInBounds_toArray, List.set_cons_zero, List.set_cons_succ]
    refine wpAnyH_takeD 1 (some 19) (.int .i64 (k : Int)) rfl rfl (by kernel_rfl) (by kernel_rfl) (by kernel_rfl) (fun _ _ _ h => h) (Or.inl ⟨by rfl, fun w hSw => by have q0 : w.cell? ⟨g, 0, none⟩ = some (.int .i64 (k : Int)) := (Blk.cell hSw 0).trans (unhide HQ0); clear hSw; go_simp⟩) hS ?_
    simp only [Act.put, List.setIfInBounds_toArray, List.set_cons_zero, List.set_cons_succ]
    refine wpAnyH_takeD 3 (some 21) (.agg r.cl.toArray) rfl rfl (by kernel_rfl) (by kernel_rfl) (by kernel_rfl) (fun _ _ _ h => h) (yieldsIf_load_mid (by rfl) 23 (.tmp 1) rfl g 0 rfl _ _ (fun w hSw => blk_range hSw) Tryz.underlying23 rfl size_req) hS ?_
    simp only [Act.put, List.setIfInBounds_toArray, List.set_cons_zero, List.set_cons_succ]
    refine wpAnyH_ready (rs := [2]) (by kernel_rfl) (by simp) ?_
    refine AllReadyH.cons rfl (fun K hK => ?_) AllReadyH.nil
    simp only [List.getElem_toArray, List.getElem_cons_succ, List.getElem_cons_zero]
    go_simp
    refine (unhide HNU _).mono ?_
    rintro e x4 ⟨rfl, hbA⟩
    have HP4 := hide (show Below x3.heap.size x3 x4 from ((Below.refl _ x3).drew).trans hbA)
    have HS4 := hide ((unhide HS3).below (unhide HP4) (unhide HS3).lt)
    clear hbA
    refine hK.out _ _ (unhide HS4) (fun hS => ?_)
    clear hK K
    refine wpAnyH_ready (rs := [4]) (by kernel_rfl) (by simp) ?_
    refine AllReadyH.cons rfl (fun K hK => ?_) AllReadyH.nil
    simp only [List.getElem_toArray, List.getElem_cons_succ, List.getElem_cons_zero]
    go_simp
    refine (unhide HFI _).mono ?_
    rintro e x5 ⟨rfl, hbA⟩
    have HP5 := hide (show Below x3.heap.size x3 x5 from (unhide HP4).trans (hbA.mono (unhide HP4).size))
    have HS5 := hide ((unhide HS3).below (unhide HP5) (unhide HS3).lt)
    clear hbA
    refine hK.out _ _ (unhide HS5) (fun hS => ?_)
    clear hK K
    refine wpAnyH_takeD 5 (some 23) (.string SE) rfl rfl (by kernel_rfl) (by kernel_rfl) (by kernel_rfl) (fun _ _ _ h => h) (Or.inl ⟨by rfl, fun w hSw => by have q0 : w.cell? ⟨g, 0, none⟩ = some (.int .i64 (k : Int)) := (Blk.cell hSw 0).trans (unhide HQ0); clear hSw; go_simp⟩) hS ?_
    simp only [Act.put, List.setIfInBounds_toArray, List.set_cons_zero, List.set_cons_succ]
    refine wpAnyH_takeD 6 (some 5) (.string SE) rfl rfl (by kernel_rfl) (by kernel_rfl) (by kernel_rfl) (fun _ _ _ h => h) (Or.inl ⟨by rfl, fun w hSw => by have q0 : w.cell? ⟨g, 0, none⟩ = some (.int .i64 (k : Int)) := (Blk.cell hSw 0).trans (unhide HQ0); clear hSw; go_simp⟩) hS ?_
    simp only [Act.put, List.setIfInBounds_toArray, List.set_cons_zero, List.set_cons_succ]
    refine wpAnyH_done (by kernel_rfl) ?_ _
    have HX5 := hide (show Below g w x5 from (unhide HX3).trans ((unhide HP5).mono (Nat.le_of_lt (unhide HS3).lt)))
    go_wp2_with fail
    refine (unhide HCK _).mono ?_
    rintro e x6 ⟨rfl, hx6⟩
    subst x6
    go_wp2_with fail
    refine (unhide HLO _).mono ?_
    rintro e x7 ⟨rfl, hx7⟩
    have HX7 := hide (show Below g w x7 from (unhide HX5).trans (hx7.mono (by have := (unhide HS5).lt; omega)))
    clear hx7
    go_wp2
    go_ret2
    exact ⟨rfl, unhide HX7⟩
theorem rencode_any (r : Req) (w : World) : Calls Tryz.prog 10 #[.agg r.cl.toArray] w fun e w' => e = .returned (.tuple #[.string (encQ r), .int .i64 (errQ r)]) ∧ Below w.heap.size w w' := by
  by_cases h : 1 ≤ r.kd ∧ r.kd ≤ 12
  · exact rencode_ok r h w
  · rw [encQ, errQ, if_neg h, if_neg h]
    exact rencode_kind r h w
end Go.Proofs.YtobmeiomfiepjaaGreatDoor
