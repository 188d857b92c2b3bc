import Derived.Test.YtclgkgaobjcifaaGreatDoorMy20
import Derived.Test.YtclgkgaobjcifaaGreatDoorMy08
namespace Go.Proofs.YtclgkgaobjcifaaGreatDoor
open Go.RowKit
set_option maxRecDepth 100000
set_option maxHeartbeats 8000000 in
theorem laid_3 (st : Int) (qu ch : Nat) (no : Int) (vp : Option Addr) (vm vc : Nat) (pp : Option Addr) (pm pc : Nat) (wr da : ByteArray) (hqu : qu ≤ 4294967295) (hch : ch ≤ 4294967295) (V : List Int) (hvm : V.length = vm) (h8 : vm ≤ 8) (hfV : ∀ k, k < vm → 0 ≤ V.getD k 0 ∧ V.getD k 0 ≤ 255) (hfull : fullP 3 st = true) (w : World) (hLV : Lst w w.heap.size vp V) : Calls Tryz.prog 48 #[.int .i64 3, .agg #[.int .i64 st, .int .i64 (qu : Int), .int .i64 (ch : Int), .slice vp vm vc, .int .i64 no, .slice pp pm pc, .string wr, .string da]] w fun e w' => e = .returned (.string (strOfNums (numB (qu : Int) 2) ++ strOfNums (numB (ch : Int) 2) ++ (strOfNums (numB (vm : Int) 1) ++ strOfNums (outN 1 V ++ List.replicate (8 - vm) 0)))) ∧ Below w.heap.size w w' := by
  obtain ⟨g, hg⟩ : ∃ g, w.heap.size = g := ⟨_, rfl⟩
  obtain ⟨x2, hx2⟩ : ∃ Z, w.alloc (.cells #[.int .i64 st, .int .i64 (qu : Int), .int .i64 (ch : Int), .slice vp vm vc, .int .i64 no, .slice pp pm pc, .string wr, .string da] 34) = Z := ⟨_, rfl⟩
  have B : Blk x2 g #[.int .i64 st, .int .i64 (qu : Int), .int .i64 (ch : Int), .slice vp vm vc, .int .i64 no, .slice pp pm pc, .string wr, .string da] 34 := by rw [← hx2, ← hg]; exact Blk.new w _ _
  have hb : Below g w x2 := by rw [← hx2, ← hg]; exact (Below.refl _ w).alloc (Nat.le_refl _) _
  have HS0 := hide B
  have HSW := hide (show ∀ W, Below x2.heap.size x2 W → Blk W g #[.int .i64 st, .int .i64 (qu : Int), .int .i64 (ch : Int), .slice vp vm vc, .int .i64 no, .slice pp pm pc, .string wr, .string da] 34 from fun W hW => B.below hW B.lt)
  have HB2 := hide (And.intro hb (Nat.le_of_lt B.lt))
  have d0 : x2.cell? ⟨g, 0, none⟩ = some (.int .i64 st) := by rw [B.cell]; rfl
  have HW := hide (rwhole_any 3 st)
  rw [hfull] at HW
  have HNV := hide (fun W => rnum_of vm 1 (by omega) (by decide) W)
  have HLV := hide (fun W (q : Below x2.heap.size x2 W) => numbers_any W vp vc vm V hvm (((hg ▸ hLV).below (hb.trans (q.mono (Nat.le_of_lt B.lt)))).mono (by have h1 := B.lt; have h2 := q.size; omega)) h8 hfV)
  have HNqu := hide (fun W => rnum_of qu 2 (by omega) (by decide) W)
  have zNqu : (strOfNums (numB (qu : Int) 2)).size = 2 := by rw [strOfNums_size, numB_len]
  have HNch := hide (fun W => rnum_of ch 2 (by omega) (by decide) W)
  have zNch : (strOfNums (numB (ch : Int) 2)).size = 2 := by rw [strOfNums_size, numB_len]
  have zV1 : (strOfNums (numB (vm : Int) 1)).size = 1 := by rw [strOfNums_size, numB_len]
  have zV2 : (strOfNums (outN 1 V ++ List.replicate (8 - vm) 0)).size ≤ 16 := by rw [strOfNums_size, List.length_append, outN_len, List.length_replicate]; omega
  generalize strOfNums (numB (vm : Int) 1) = SA at *
  generalize strOfNums (outN 1 V ++ List.replicate (8 - vm) 0) = SB at *
  generalize strOfNums (numB (qu : Int) 2) = Nqu at *
  generalize strOfNums (numB (ch : Int) 2) = Nch at *
  have y0 : ¬ 9223372036854775807 < SA.size + SB.size := by omega
  obtain ⟨SV, hSV⟩ : ∃ Z, SA ++ SB = Z := ⟨_, rfl⟩
  have zSV : SV.size = SA.size + SB.size := by rw [← hSV, ByteArray.size_append]
  have y1 : ¬ 9223372036854775807 < Nqu.size + Nch.size := by omega
  obtain ⟨A1, hA1⟩ : ∃ Z, Nqu ++ Nch = Z := ⟨_, rfl⟩
  have zA1 : A1.size = Nqu.size + Nch.size := by rw [← hA1, ByteArray.size_append]
  have y2 : ¬ 9223372036854775807 < A1.size + SV.size := by omega
  obtain ⟨A2, hA2⟩ : ∃ Z, A1 ++ SV = Z := ⟨_, rfl⟩
  rw [hA1, hSV, hA2]
  clear B hb hLV hfV hvm h8 hfull zV1 zV2 zSV zNqu zNch zA1 hqu hch
  rw [hg]
  go_enter Tryz.func48, Tryz.ntmps48
  go_wp2_with (first | (go_at_call 74; refine (unhide HW _).mono ?_; rintro e y ⟨rfl, hy⟩; subst y))
  clear d0
  refine wp_region_held_drew (S := fun w' => Blk w' g #[.int .i64 st, .int .i64 (qu : Int), .int .i64 (ch : Int), .slice vp vm vc, .int .i64 no, .slice pp pm pc, .string wr, .string da] 34) (by kernel_rfl) (unhide HS0) ?_
  intro hS
  refine wpAnyH_takeD 0 (some 16) (.pointer (some ⟨g, 3, none⟩)) rfl rfl (by kernel_rfl) (by kernel_rfl) (by kernel_rfl) (fun _ _ _ h => h) (Or.inl ⟨by rfl, fun w hSw => by have q1 : w.cell? ⟨g, 1, none⟩ = some (.int .i64 (qu : Int)) := (Blk.cell hSw 1); have q2 : w.cell? ⟨g, 2, none⟩ = some (.int .i64 (ch : Int)) := (Blk.cell hSw 2); have q3 : w.cell? ⟨g, 3, none⟩ = some (.slice vp vm vc) := (Blk.cell hSw 3); have q4 : w.cell? ⟨g, 4, none⟩ = some (.int .i64 no) := (Blk.cell hSw 4); have q5 : w.cell? ⟨g, 5, none⟩ = some (.slice pp pm pc) := (Blk.cell hSw 5); clear hSw; go_simp⟩) hS ?_
  simp only [Act.put, List.setIfInBounds_toArray, List.set_cons_zero, List.set_cons_succ]
  refine wpAnyH_takeD 1 (some 17) (.slice vp vm vc) rfl rfl (by kernel_rfl) (by kernel_rfl) (by kernel_rfl) (fun _ _ _ h => h) (Or.inl ⟨by rfl, fun w hSw => by have q1 : w.cell? ⟨g, 1, none⟩ = some (.int .i64 (qu : Int)) := (Blk.cell hSw 1); have q2 : w.cell? ⟨g, 2, none⟩ = some (.int .i64 (ch : Int)) := (Blk.cell hSw 2); have q3 : w.cell? ⟨g, 3, none⟩ = some (.slice vp vm vc) := (Blk.cell hSw 3); have q4 : w.cell? ⟨g, 4, none⟩ = some (.int .i64 no) := (Blk.cell hSw 4); have q5 : w.cell? ⟨g, 5, none⟩ = some (.slice pp pm pc) := (Blk.cell hSw 5); clear hSw; go_simp⟩) hS ?_
  simp only [Act.put, List.setIfInBounds_toArray, List.set_cons_zero, List.set_cons_succ]
  refine wpAnyH_takeD 2 (some 18) (.int .i64 (vm : Int)) rfl rfl (by kernel_rfl) (by kernel_rfl) (by kernel_rfl) (fun _ _ _ h => h) (Or.inl ⟨by rfl, fun w hSw => by have q1 : w.cell? ⟨g, 1, none⟩ = some (.int .i64 (qu : Int)) := (Blk.cell hSw 1); have q2 : w.cell? ⟨g, 2, none⟩ = some (.int .i64 (ch : Int)) := (Blk.cell hSw 2); have q3 : w.cell? ⟨g, 3, none⟩ = some (.slice vp vm vc) := (Blk.cell hSw 3); have q4 : w.cell? ⟨g, 4, none⟩ = some (.int .i64 no) := (Blk.cell hSw 4); have q5 : w.cell? ⟨g, 5, none⟩ = some (.slice pp pm pc) := (Blk.cell hSw 5); clear hSw; go_simp⟩) hS ?_
  simp only [Act.put, List.setIfInBounds_toArray, List.set_cons_zero, List.set_cons_succ]
  refine wpAnyH_takeD 4 (some 20) (.pointer (some ⟨g, 3, none⟩)) rfl rfl (by kernel_rfl) (by kernel_rfl) (by kernel_rfl) (fun _ _ _ h => h) (Or.inl ⟨by rfl, fun w hSw => by have q1 : w.cell? ⟨g, 1, none⟩ = some (.int .i64 (qu : Int)) := (Blk.cell hSw 1); have q2 : w.cell? ⟨g, 2, none⟩ = some (.int .i64 (ch : Int)) := (Blk.cell hSw 2); have q3 : w.cell? ⟨g, 3, none⟩ = some (.slice vp vm vc) := (Blk.cell hSw 3); have q4 : w.cell? ⟨g, 4, none⟩ = some (.int .i64 no) := (Blk.cell hSw 4); have q5 : w.cell? ⟨g, 5, none⟩ = some (.slice pp pm pc) := (Blk.cell hSw 5); clear hSw; go_simp⟩) hS ?_
  simp only [Act.put, List.setIfInBounds_toArray, List.set_cons_zero, List.set_cons_succ]
  refine wpAnyH_takeD 5 (some 21) (.slice vp vm vc) rfl rfl (by kernel_rfl) (by kernel_rfl) (by kernel_rfl) (fun _ _ _ h => h) (Or.inl ⟨by rfl, fun w hSw => by have q1 : w.cell? ⟨g, 1, none⟩ = some (.int .i64 (qu : Int)) := (Blk.cell hSw 1); have q2 : w.cell? ⟨g, 2, none⟩ = some (.int .i64 (ch : Int)) := (Blk.cell hSw 2); have q3 : w.cell? ⟨g, 3, none⟩ = some (.slice vp vm vc) := (Blk.cell hSw 3); have q4 : w.cell? ⟨g, 4, none⟩ = some (.int .i64 no) := (Blk.cell hSw 4); have q5 : w.cell? ⟨g, 5, none⟩ = some (.slice pp pm pc) := (Blk.cell hSw 5); clear hSw; go_simp⟩) hS ?_
  simp only [Act.put, List.setIfInBounds_toArray, List.set_cons_zero, List.set_cons_succ]
  refine wpAnyH_ready (rs := [3]) (by kernel_rfl) (by simp) ?_
  refine AllReadyH.cons rfl (fun K hK => ?_) AllReadyH.nil
  simp only [List.getElem_toArray, List.getElem_cons_succ, List.getElem_cons_zero]
  go_simp
  refine (unhide HNV _).mono ?_
  rintro e xA ⟨rfl, hbA⟩
  have HPxA := hide (show Below x2.heap.size x2 xA from ((Below.refl x2.heap.size x2).drew).trans (hbA.mono ((Below.refl x2.heap.size x2).drew).size))
  have HSxA := hide (unhide HSW xA (unhide HPxA))
  clear hbA
  refine hK.out _ _ (unhide HSxA) (fun hS => ?_)
  clear hK K
  refine wpAnyH_ready (rs := [6]) (by kernel_rfl) (by simp) ?_
  refine AllReadyH.cons rfl (fun K hK => ?_) AllReadyH.nil
  simp only [List.getElem_toArray, List.getElem_cons_succ, List.getElem_cons_zero]
  go_simp
  refine (unhide HLV _ (unhide HPxA)).mono ?_
  rintro e xB ⟨rfl, hbA⟩
  have HPxB := hide (show Below x2.heap.size x2 xB from ((unhide HPxA)).trans (hbA.mono (unhide HPxA).size))
  have HSxB := hide (unhide HSW xB (unhide HPxB))
  clear hbA
  refine hK.out _ _ (unhide HSxB) (fun hS => ?_)
  clear hK K
  refine wpAnyH_takeD 7 (some 23) (.string SV) rfl rfl (by kernel_rfl) (by kernel_rfl) (by kernel_rfl) (fun _ _ _ h => h) (Or.inl ⟨by rfl, fun w hSw => by have q1 : w.cell? ⟨g, 1, none⟩ = some (.int .i64 (qu : Int)) := (Blk.cell hSw 1); have q2 : w.cell? ⟨g, 2, none⟩ = some (.int .i64 (ch : Int)) := (Blk.cell hSw 2); have q3 : w.cell? ⟨g, 3, none⟩ = some (.slice vp vm vc) := (Blk.cell hSw 3); have q4 : w.cell? ⟨g, 4, none⟩ = some (.int .i64 no) := (Blk.cell hSw 4); have q5 : w.cell? ⟨g, 5, none⟩ = some (.slice pp pm pc) := (Blk.cell hSw 5); clear hSw; go_simp⟩) hS ?_
  simp only [Act.put, List.setIfInBounds_toArray, List.set_cons_zero, List.set_cons_succ]
  refine wpAnyH_takeD 8 (some 6) (.string SV) rfl rfl (by kernel_rfl) (by kernel_rfl) (by kernel_rfl) (fun _ _ _ h => h) (Or.inl ⟨by rfl, fun w hSw => by have q1 : w.cell? ⟨g, 1, none⟩ = some (.int .i64 (qu : Int)) := (Blk.cell hSw 1); have q2 : w.cell? ⟨g, 2, none⟩ = some (.int .i64 (ch : Int)) := (Blk.cell hSw 2); have q3 : w.cell? ⟨g, 3, none⟩ = some (.slice vp vm vc) := (Blk.cell hSw 3); have q4 : w.cell? ⟨g, 4, none⟩ = some (.int .i64 no) := (Blk.cell hSw 4); have q5 : w.cell? ⟨g, 5, none⟩ = some (.slice pp pm pc) := (Blk.cell hSw 5); clear hSw; go_simp⟩) hS ?_
  simp only [Act.put, List.setIfInBounds_toArray, List.set_cons_zero, List.set_cons_succ]
  refine wpAnyH_done (by kernel_rfl) ?_ _
  go_wp2
  refine wp_region_held_drew (S := fun w' => Blk w' g #[.int .i64 st, .int .i64 (qu : Int), .int .i64 (ch : Int), .slice vp vm vc, .int .i64 no, .slice pp pm pc, .string wr, .string da] 34) (by kernel_rfl) (unhide HSxB) ?_
  intro hS
  refine wpAnyH_takeD 0 (some 27) (.pointer (some ⟨g, 1, none⟩)) rfl rfl (by kernel_rfl) (by kernel_rfl) (by kernel_rfl) (fun _ _ _ h => h) (Or.inl ⟨by rfl, fun w hSw => by have q1 : w.cell? ⟨g, 1, none⟩ = some (.int .i64 (qu : Int)) := (Blk.cell hSw 1); have q2 : w.cell? ⟨g, 2, none⟩ = some (.int .i64 (ch : Int)) := (Blk.cell hSw 2); have q3 : w.cell? ⟨g, 3, none⟩ = some (.slice vp vm vc) := (Blk.cell hSw 3); have q4 : w.cell? ⟨g, 4, none⟩ = some (.int .i64 no) := (Blk.cell hSw 4); have q5 : w.cell? ⟨g, 5, none⟩ = some (.slice pp pm pc) := (Blk.cell hSw 5); clear hSw; go_simp⟩) hS ?_
  simp only [Act.put, List.setIfInBounds_toArray, List.set_cons_zero, List.set_cons_succ]
  refine wpAnyH_takeD 1 (some 28) (.int .i64 (qu : Int)) rfl rfl (by kernel_rfl) (by kernel_rfl) (by kernel_rfl) (fun _ _ _ h => h) (Or.inl ⟨by rfl, fun w hSw => by have q1 : w.cell? ⟨g, 1, none⟩ = some (.int .i64 (qu : Int)) := (Blk.cell hSw 1); have q2 : w.cell? ⟨g, 2, none⟩ = some (.int .i64 (ch : Int)) := (Blk.cell hSw 2); have q3 : w.cell? ⟨g, 3, none⟩ = some (.slice vp vm vc) := (Blk.cell hSw 3); have q4 : w.cell? ⟨g, 4, none⟩ = some (.int .i64 no) := (Blk.cell hSw 4); have q5 : w.cell? ⟨g, 5, none⟩ = some (.slice pp pm pc) := (Blk.cell hSw 5); clear hSw; go_simp⟩) hS ?_
  simp only [Act.put, List.setIfInBounds_toArray, List.set_cons_zero, List.set_cons_succ]
  refine wpAnyH_takeD 3 (some 30) (.pointer (some ⟨g, 2, none⟩)) rfl rfl (by kernel_rfl) (by kernel_rfl) (by kernel_rfl) (fun _ _ _ h => h) (Or.inl ⟨by rfl, fun w hSw => by have q1 : w.cell? ⟨g, 1, none⟩ = some (.int .i64 (qu : Int)) := (Blk.cell hSw 1); have q2 : w.cell? ⟨g, 2, none⟩ = some (.int .i64 (ch : Int)) := (Blk.cell hSw 2); have q3 : w.cell? ⟨g, 3, none⟩ = some (.slice vp vm vc) := (Blk.cell hSw 3); have q4 : w.cell? ⟨g, 4, none⟩ = some (.int .i64 no) := (Blk.cell hSw 4); have q5 : w.cell? ⟨g, 5, none⟩ = some (.slice pp pm pc) := (Blk.cell hSw 5); clear hSw; go_simp⟩) hS ?_
  simp only [Act.put, List.setIfInBounds_toArray, List.set_cons_zero, List.set_cons_succ]
  refine wpAnyH_takeD 4 (some 31) (.int .i64 (ch : Int)) rfl rfl (by kernel_rfl) (by kernel_rfl) (by kernel_rfl) (fun _ _ _ h => h) (Or.inl ⟨by rfl, fun w hSw => by have q1 : w.cell? ⟨g, 1, none⟩ = some (.int .i64 (qu : Int)) := (Blk.cell hSw 1); have q2 : w.cell? ⟨g, 2, none⟩ = some (.int .i64 (ch : Int)) := (Blk.cell hSw 2); have q3 : w.cell? ⟨g, 3, none⟩ = some (.slice vp vm vc) := (Blk.cell hSw 3); have q4 : w.cell? ⟨g, 4, none⟩ = some (.int .i64 no) := (Blk.cell hSw 4); have q5 : w.cell? ⟨g, 5, none⟩ = some (.slice pp pm pc) := (Blk.cell hSw 5); clear hSw; go_simp⟩) hS ?_
  simp only [Act.put, List.setIfInBounds_toArray, List.set_cons_zero, List.set_cons_succ]
  refine wpAnyH_takeD 7 (some 34) (.string SV) rfl rfl (by kernel_rfl) (by kernel_rfl) (by kernel_rfl) (fun _ _ _ h => h) (Or.inl ⟨by rfl, fun w hSw => by have q1 : w.cell? ⟨g, 1, none⟩ = some (.int .i64 (qu : Int)) := (Blk.cell hSw 1); have q2 : w.cell? ⟨g, 2, none⟩ = some (.int .i64 (ch : Int)) := (Blk.cell hSw 2); have q3 : w.cell? ⟨g, 3, none⟩ = some (.slice vp vm vc) := (Blk.cell hSw 3); have q4 : w.cell? ⟨g, 4, none⟩ = some (.int .i64 no) := (Blk.cell hSw 4); have q5 : w.cell? ⟨g, 5, none⟩ = some (.slice pp pm pc) := (Blk.cell hSw 5); clear hSw; go_simp⟩) hS ?_
  simp only [Act.put, List.setIfInBounds_toArray, List.set_cons_zero, List.set_cons_succ]
  refine wpAnyH_ready (rs := [2]) (by kernel_rfl) (by simp) ?_
  refine AllReadyH.cons rfl (fun K hK => ?_) AllReadyH.nil
  simp only [List.getElem_toArray, List.getElem_cons_succ, List.getElem_cons_zero]
  go_simp
  refine (unhide HNqu _).mono ?_
  rintro e xC ⟨rfl, hbA⟩
  have HPxC := hide (show Below x2.heap.size x2 xC from ((unhide HPxB).drew).trans (hbA.mono ((unhide HPxB).drew).size))
  have HSxC := hide (unhide HSW xC (unhide HPxC))
  clear hbA
  refine hK.out _ _ (unhide HSxC) (fun hS => ?_)
  clear hK K
  refine wpAnyH_ready (rs := [5]) (by kernel_rfl) (by simp) ?_
  refine AllReadyH.cons rfl (fun K hK => ?_) AllReadyH.nil
  simp only [List.getElem_toArray, List.getElem_cons_succ, List.getElem_cons_zero]
  go_simp
  refine (unhide HNch _).mono ?_
  rintro e xD ⟨rfl, hbA⟩
  have HPxD := hide (show Below x2.heap.size x2 xD from ((unhide HPxC)).trans (hbA.mono (unhide HPxC).size))
  have HSxD := hide (unhide HSW xD (unhide HPxD))
  clear hbA
  refine hK.out _ _ (unhide HSxD) (fun hS => ?_)
  clear hK K
  refine wpAnyH_takeD 6 (some 33) (.string A1) rfl rfl (by kernel_rfl) (by kernel_rfl) (by kernel_rfl) (fun _ _ _ h => h) (Or.inl ⟨by rfl, fun w hSw => by have q1 : w.cell? ⟨g, 1, none⟩ = some (.int .i64 (qu : Int)) := (Blk.cell hSw 1); have q2 : w.cell? ⟨g, 2, none⟩ = some (.int .i64 (ch : Int)) := (Blk.cell hSw 2); have q3 : w.cell? ⟨g, 3, none⟩ = some (.slice vp vm vc) := (Blk.cell hSw 3); have q4 : w.cell? ⟨g, 4, none⟩ = some (.int .i64 no) := (Blk.cell hSw 4); have q5 : w.cell? ⟨g, 5, none⟩ = some (.slice pp pm pc) := (Blk.cell hSw 5); clear hSw; go_simp⟩) hS ?_
  simp only [Act.put, List.setIfInBounds_toArray, List.set_cons_zero, List.set_cons_succ]
  refine wpAnyH_takeD 8 (some 35) (.string A2) rfl rfl (by kernel_rfl) (by kernel_rfl) (by kernel_rfl) (fun _ _ _ h => h) (Or.inl ⟨by rfl, fun w hSw => by have q1 : w.cell? ⟨g, 1, none⟩ = some (.int .i64 (qu : Int)) := (Blk.cell hSw 1); have q2 : w.cell? ⟨g, 2, none⟩ = some (.int .i64 (ch : Int)) := (Blk.cell hSw 2); have q3 : w.cell? ⟨g, 3, none⟩ = some (.slice vp vm vc) := (Blk.cell hSw 3); have q4 : w.cell? ⟨g, 4, none⟩ = some (.int .i64 no) := (Blk.cell hSw 4); have q5 : w.cell? ⟨g, 5, none⟩ = some (.slice pp pm pc) := (Blk.cell hSw 5); clear hSw; go_simp⟩) hS ?_
  simp only [Act.put, List.setIfInBounds_toArray, List.set_cons_zero, List.set_cons_succ]
  refine wpAnyH_takeD 9 (some 4) (.string A2) rfl rfl (by kernel_rfl) (by kernel_rfl) (by kernel_rfl) (fun _ _ _ h => h) (Or.inl ⟨by rfl, fun w hSw => by have q1 : w.cell? ⟨g, 1, none⟩ = some (.int .i64 (qu : Int)) := (Blk.cell hSw 1); have q2 : w.cell? ⟨g, 2, none⟩ = some (.int .i64 (ch : Int)) := (Blk.cell hSw 2); have q3 : w.cell? ⟨g, 3, none⟩ = some (.slice vp vm vc) := (Blk.cell hSw 3); have q4 : w.cell? ⟨g, 4, none⟩ = some (.int .i64 no) := (Blk.cell hSw 4); have q5 : w.cell? ⟨g, 5, none⟩ = some (.slice pp pm pc) := (Blk.cell hSw 5); clear hSw; go_simp⟩) hS ?_
  simp only [Act.put, List.setIfInBounds_toArray, List.set_cons_zero, List.set_cons_succ]
  refine wpAnyH_done (by kernel_rfl) ?_ _
  go_wp2
  go_ret
  exact ⟨rfl, (unhide HB2).1.trans ((unhide HPxD).mono (unhide HB2).2)⟩
set_option maxHeartbeats 8000000 in
theorem laid_6 (st : Int) (qu ch no : Int) (vp : Option Addr) (vm vc : Nat) (pp : Option Addr) (pm pc : Nat) (wr da : ByteArray) (V : List Int) (hvm : V.length = vm) (h8 : vm ≤ 8) (hfV : ∀ k, k < vm → 0 ≤ V.getD k 0 ∧ V.getD k 0 ≤ 255) (hfull : fullP 6 st = true) (w : World) (hLV : Lst w w.heap.size vp V) : Calls Tryz.prog 48 #[.int .i64 6, .agg #[.int .i64 st, .int .i64 qu, .int .i64 ch, .slice vp vm vc, .int .i64 no, .slice pp pm pc, .string wr, .string da]] w fun e w' => e = .returned (.string (strOfNums (numB (vm : Int) 1) ++ strOfNums (outN 1 V ++ List.replicate (8 - vm) 0))) ∧ Below w.heap.size w w' := by
  obtain ⟨g, hg⟩ : ∃ g, w.heap.size = g := ⟨_, rfl⟩
  obtain ⟨x2, hx2⟩ : ∃ Z, w.alloc (.cells #[.int .i64 st, .int .i64 qu, .int .i64 ch, .slice vp vm vc, .int .i64 no, .slice pp pm pc, .string wr, .string da] 34) = Z := ⟨_, rfl⟩
  have B : Blk x2 g #[.int .i64 st, .int .i64 qu, .int .i64 ch, .slice vp vm vc, .int .i64 no, .slice pp pm pc, .string wr, .string da] 34 := by rw [← hx2, ← hg]; exact Blk.new w _ _
  have hb : Below g w x2 := by rw [← hx2, ← hg]; exact (Below.refl _ w).alloc (Nat.le_refl _) _
  have HS0 := hide B
  have HSW := hide (show ∀ W, Below x2.heap.size x2 W → Blk W g #[.int .i64 st, .int .i64 qu, .int .i64 ch, .slice vp vm vc, .int .i64 no, .slice pp pm pc, .string wr, .string da] 34 from fun W hW => B.below hW B.lt)
  have HB2 := hide (And.intro hb (Nat.le_of_lt B.lt))
  have d0 : x2.cell? ⟨g, 0, none⟩ = some (.int .i64 st) := by rw [B.cell]; rfl
  have HW := hide (rwhole_any 6 st)
  rw [hfull] at HW
  have HNV := hide (fun W => rnum_of vm 1 (by omega) (by decide) W)
  have HLV := hide (fun W (q : Below x2.heap.size x2 W) => numbers_any W vp vc vm V hvm (((hg ▸ hLV).below (hb.trans (q.mono (Nat.le_of_lt B.lt)))).mono (by have h1 := B.lt; have h2 := q.size; omega)) h8 hfV)
  have zV1 : (strOfNums (numB (vm : Int) 1)).size = 1 := by rw [strOfNums_size, numB_len]
  have zV2 : (strOfNums (outN 1 V ++ List.replicate (8 - vm) 0)).size ≤ 16 := by rw [strOfNums_size, List.length_append, outN_len, List.length_replicate]; omega
  generalize strOfNums (numB (vm : Int) 1) = SA at *
  generalize strOfNums (outN 1 V ++ List.replicate (8 - vm) 0) = SB at *
  have y0 : ¬ 9223372036854775807 < SA.size + SB.size := by omega
  obtain ⟨SV, hSV⟩ : ∃ Z, SA ++ SB = Z := ⟨_, rfl⟩
  have zSV : SV.size = SA.size + SB.size := by rw [← hSV, ByteArray.size_append]
  rw [hSV]
  clear B hb hLV hfV hvm h8 hfull zV1 zV2 zSV
  rw [hg]
  go_enter Tryz.func48, Tryz.ntmps48
  go_wp2_with (first | (go_at_call 74; refine (unhide HW _).mono ?_; rintro e y ⟨rfl, hy⟩; subst y))
  clear d0
  refine wp_region_held_drew (S := fun w' => Blk w' g #[.int .i64 st, .int .i64 qu, .int .i64 ch, .slice vp vm vc, .int .i64 no, .slice pp pm pc, .string wr, .string da] 34) (by kernel_rfl) (unhide HS0) ?_
  intro hS
  refine wpAnyH_takeD 0 (some 16) (.pointer (some ⟨g, 3, none⟩)) rfl rfl (by kernel_rfl) (by kernel_rfl) (by kernel_rfl) (fun _ _ _ h => h) (Or.inl ⟨by rfl, fun w hSw => by have q1 : w.cell? ⟨g, 1, none⟩ = some (.int .i64 qu) := (Blk.cell hSw 1); have q2 : w.cell? ⟨g, 2, none⟩ = some (.int .i64 ch) := (Blk.cell hSw 2); have q3 : w.cell? ⟨g, 3, none⟩ = some (.slice vp vm vc) := (Blk.cell hSw 3); have q4 : w.cell? ⟨g, 4, none⟩ = some (.int .i64 no) := (Blk.cell hSw 4); have q5 : w.cell? ⟨g, 5, none⟩ = some (.slice pp pm pc) := (Blk.cell hSw 5); clear hSw; go_simp⟩) hS ?_
  simp only [Act.put, List.setIfInBounds_toArray, List.set_cons_zero, List.set_cons_succ]
  refine wpAnyH_takeD 1 (some 17) (.slice vp vm vc) rfl rfl (by kernel_rfl) (by kernel_rfl) (by kernel_rfl) (fun _ _ _ h => h) (Or.inl ⟨by rfl, fun w hSw => by have q1 : w.cell? ⟨g, 1, none⟩ = some (.int .i64 qu) := (Blk.cell hSw 1); have q2 : w.cell? ⟨g, 2, none⟩ = some (.int .i64 ch) := (Blk.cell hSw 2); have q3 : w.cell? ⟨g, 3, none⟩ = some (.slice vp vm vc) := (Blk.cell hSw 3); have q4 : w.cell? ⟨g, 4, none⟩ = some (.int .i64 no) := (Blk.cell hSw 4); have q5 : w.cell? ⟨g, 5, none⟩ = some (.slice pp pm pc) := (Blk.cell hSw 5); clear hSw; go_simp⟩) hS ?_
  simp only [Act.put, List.setIfInBounds_toArray, List.set_cons_zero, List.set_cons_succ]
  refine wpAnyH_takeD 2 (some 18) (.int .i64 (vm : Int)) rfl rfl (by kernel_rfl) (by kernel_rfl) (by kernel_rfl) (fun _ _ _ h => h) (Or.inl ⟨by rfl, fun w hSw => by have q1 : w.cell? ⟨g, 1, none⟩ = some (.int .i64 qu) := (Blk.cell hSw 1); have q2 : w.cell? ⟨g, 2, none⟩ = some (.int .i64 ch) := (Blk.cell hSw 2); have q3 : w.cell? ⟨g, 3, none⟩ = some (.slice vp vm vc) := (Blk.cell hSw 3); have q4 : w.cell? ⟨g, 4, none⟩ = some (.int .i64 no) := (Blk.cell hSw 4); have q5 : w.cell? ⟨g, 5, none⟩ = some (.slice pp pm pc) := (Blk.cell hSw 5); clear hSw; go_simp⟩) hS ?_
  simp only [Act.put, List.setIfInBounds_toArray, List.set_cons_zero, List.set_cons_succ]
  refine wpAnyH_takeD 4 (some 20) (.pointer (some ⟨g, 3, none⟩)) rfl rfl (by kernel_rfl) (by kernel_rfl) (by kernel_rfl) (fun _ _ _ h => h) (Or.inl ⟨by rfl, fun w hSw => by have q1 : w.cell? ⟨g, 1, none⟩ = some (.int .i64 qu) := (Blk.cell hSw 1); have q2 : w.cell? ⟨g, 2, none⟩ = some (.int .i64 ch) := (Blk.cell hSw 2); have q3 : w.cell? ⟨g, 3, none⟩ = some (.slice vp vm vc) := (Blk.cell hSw 3); have q4 : w.cell? ⟨g, 4, none⟩ = some (.int .i64 no) := (Blk.cell hSw 4); have q5 : w.cell? ⟨g, 5, none⟩ = some (.slice pp pm pc) := (Blk.cell hSw 5); clear hSw; go_simp⟩) hS ?_
  simp only [Act.put, List.setIfInBounds_toArray, List.set_cons_zero, List.set_cons_succ]
  refine wpAnyH_takeD 5 (some 21) (.slice vp vm vc) rfl rfl (by kernel_rfl) (by kernel_rfl) (by kernel_rfl) (fun _ _ _ h => h) (Or.inl ⟨by rfl, fun w hSw => by have q1 : w.cell? ⟨g, 1, none⟩ = some (.int .i64 qu) := (Blk.cell hSw 1); have q2 : w.cell? ⟨g, 2, none⟩ = some (.int .i64 ch) := (Blk.cell hSw 2); have q3 : w.cell? ⟨g, 3, none⟩ = some (.slice vp vm vc) := (Blk.cell hSw 3); have q4 : w.cell? ⟨g, 4, none⟩ = some (.int .i64 no) := (Blk.cell hSw 4); have q5 : w.cell? ⟨g, 5, none⟩ = some (.slice pp pm pc) := (Blk.cell hSw 5); clear hSw; go_simp⟩) hS ?_
  simp only [Act.put, List.setIfInBounds_toArray, List.set_cons_zero, List.set_cons_succ]
  refine wpAnyH_ready (rs := [3]) (by kernel_rfl) (by simp) ?_
  refine AllReadyH.cons rfl (fun K hK => ?_) AllReadyH.nil
  simp only [List.getElem_toArray, List.getElem_cons_succ, List.getElem_cons_zero]
  go_simp
  refine (unhide HNV _).mono ?_
  rintro e xA ⟨rfl, hbA⟩
  have HPxA := hide (show Below x2.heap.size x2 xA from ((Below.refl x2.heap.size x2).drew).trans (hbA.mono ((Below.refl x2.heap.size x2).drew).size))
  have HSxA := hide (unhide HSW xA (unhide HPxA))
  clear hbA
  refine hK.out _ _ (unhide HSxA) (fun hS => ?_)
  clear hK K
  refine wpAnyH_ready (rs := [6]) (by kernel_rfl) (by simp) ?_
  refine AllReadyH.cons rfl (fun K hK => ?_) AllReadyH.nil
  simp only [List.getElem_toArray, List.getElem_cons_succ, List.getElem_cons_zero]
  go_simp
  refine (unhide HLV _ (unhide HPxA)).mono ?_
  rintro e xB ⟨rfl, hbA⟩
  have HPxB := hide (show Below x2.heap.size x2 xB from ((unhide HPxA)).trans (hbA.mono (unhide HPxA).size))
  have HSxB := hide (unhide HSW xB (unhide HPxB))
  clear hbA
  refine hK.out _ _ (unhide HSxB) (fun hS => ?_)
  clear hK K
  refine wpAnyH_takeD 7 (some 23) (.string SV) rfl rfl (by kernel_rfl) (by kernel_rfl) (by kernel_rfl) (fun _ _ _ h => h) (Or.inl ⟨by rfl, fun w hSw => by have q1 : w.cell? ⟨g, 1, none⟩ = some (.int .i64 qu) := (Blk.cell hSw 1); have q2 : w.cell? ⟨g, 2, none⟩ = some (.int .i64 ch) := (Blk.cell hSw 2); have q3 : w.cell? ⟨g, 3, none⟩ = some (.slice vp vm vc) := (Blk.cell hSw 3); have q4 : w.cell? ⟨g, 4, none⟩ = some (.int .i64 no) := (Blk.cell hSw 4); have q5 : w.cell? ⟨g, 5, none⟩ = some (.slice pp pm pc) := (Blk.cell hSw 5); clear hSw; go_simp⟩) hS ?_
  simp only [Act.put, List.setIfInBounds_toArray, List.set_cons_zero, List.set_cons_succ]
  refine wpAnyH_takeD 8 (some 6) (.string SV) rfl rfl (by kernel_rfl) (by kernel_rfl) (by kernel_rfl) (fun _ _ _ h => h) (Or.inl ⟨by rfl, fun w hSw => by have q1 : w.cell? ⟨g, 1, none⟩ = some (.int .i64 qu) := (Blk.cell hSw 1); have q2 : w.cell? ⟨g, 2, none⟩ = some (.int .i64 ch) := (Blk.cell hSw 2); have q3 : w.cell? ⟨g, 3, none⟩ = some (.slice vp vm vc) := (Blk.cell hSw 3); have q4 : w.cell? ⟨g, 4, none⟩ = some (.int .i64 no) := (Blk.cell hSw 4); have q5 : w.cell? ⟨g, 5, none⟩ = some (.slice pp pm pc) := (Blk.cell hSw 5); clear hSw; go_simp⟩) hS ?_
  simp only [Act.put, List.setIfInBounds_toArray, List.set_cons_zero, List.set_cons_succ]
  refine wpAnyH_done (by kernel_rfl) ?_ _
  go_wp2
  go_ret
  exact ⟨rfl, (unhide HB2).1.trans ((unhide HPxB).mono (unhide HB2).2)⟩
set_option maxHeartbeats 8000000 in
theorem laid_7 (st : Int) (qu ch : Nat) (no : Int) (vp : Option Addr) (vm vc : Nat) (pp : Option Addr) (pm pc : Nat) (wr da : ByteArray) (hqu : qu ≤ 4294967295) (hch : ch ≤ 4294967295) (V : List Int) (hvm : V.length = vm) (h8 : vm ≤ 8) (hfV : ∀ k, k < vm → 0 ≤ V.getD k 0 ∧ V.getD k 0 ≤ 255) (hfull : fullP 7 st = true) (w : World) (hLV : Lst w w.heap.size vp V) : Calls Tryz.prog 48 #[.int .i64 7, .agg #[.int .i64 st, .int .i64 (qu : Int), .int .i64 (ch : Int), .slice vp vm vc, .int .i64 no, .slice pp pm pc, .string wr, .string da]] w fun e w' => e = .returned (.string (strOfNums (numB (qu : Int) 2) ++ strOfNums (numB (ch : Int) 2))) ∧ Below w.heap.size w w' := by
  obtain ⟨g, hg⟩ : ∃ g, w.heap.size = g := ⟨_, rfl⟩
  obtain ⟨x2, hx2⟩ : ∃ Z, w.alloc (.cells #[.int .i64 st, .int .i64 (qu : Int), .int .i64 (ch : Int), .slice vp vm vc, .int .i64 no, .slice pp pm pc, .string wr, .string da] 34) = Z := ⟨_, rfl⟩
  have B : Blk x2 g #[.int .i64 st, .int .i64 (qu : Int), .int .i64 (ch : Int), .slice vp vm vc, .int .i64 no, .slice pp pm pc, .string wr, .string da] 34 := by rw [← hx2, ← hg]; exact Blk.new w _ _
  have hb : Below g w x2 := by rw [← hx2, ← hg]; exact (Below.refl _ w).alloc (Nat.le_refl _) _
  have HS0 := hide B
  have HSW := hide (show ∀ W, Below x2.heap.size x2 W → Blk W g #[.int .i64 st, .int .i64 (qu : Int), .int .i64 (ch : Int), .slice vp vm vc, .int .i64 no, .slice pp pm pc, .string wr, .string da] 34 from fun W hW => B.below hW B.lt)
  have HB2 := hide (And.intro hb (Nat.le_of_lt B.lt))
  have d0 : x2.cell? ⟨g, 0, none⟩ = some (.int .i64 st) := by rw [B.cell]; rfl
  have HW := hide (rwhole_any 7 st)
  rw [hfull] at HW
  have HNV := hide (fun W => rnum_of vm 1 (by omega) (by decide) W)
  have HLV := hide (fun W (q : Below x2.heap.size x2 W) => numbers_any W vp vc vm V hvm (((hg ▸ hLV).below (hb.trans (q.mono (Nat.le_of_lt B.lt)))).mono (by have h1 := B.lt; have h2 := q.size; omega)) h8 hfV)
  have HNqu := hide (fun W => rnum_of qu 2 (by omega) (by decide) W)
  have zNqu : (strOfNums (numB (qu : Int) 2)).size = 2 := by rw [strOfNums_size, numB_len]
  have HNch := hide (fun W => rnum_of ch 2 (by omega) (by decide) W)
  have zNch : (strOfNums (numB (ch : Int) 2)).size = 2 := by rw [strOfNums_size, numB_len]
  have zV1 : (strOfNums (numB (vm : Int) 1)).size = 1 := by rw [strOfNums_size, numB_len]
  have zV2 : (strOfNums (outN 1 V ++ List.replicate (8 - vm) 0)).size ≤ 16 := by rw [strOfNums_size, List.length_append, outN_len, List.length_replicate]; omega
  generalize strOfNums (numB (vm : Int) 1) = SA at *
  generalize strOfNums (outN 1 V ++ List.replicate (8 - vm) 0) = SB at *
  generalize strOfNums (numB (qu : Int) 2) = Nqu at *
  generalize strOfNums (numB (ch : Int) 2) = Nch at *
  have y0 : ¬ 9223372036854775807 < SA.size + SB.size := by omega
  obtain ⟨SV, hSV⟩ : ∃ Z, SA ++ SB = Z := ⟨_, rfl⟩
  have zSV : SV.size = SA.size + SB.size := by rw [← hSV, ByteArray.size_append]
  have y1 : ¬ 9223372036854775807 < Nqu.size + Nch.size := by omega
  obtain ⟨A1, hA1⟩ : ∃ Z, Nqu ++ Nch = Z := ⟨_, rfl⟩
  have zA1 : A1.size = Nqu.size + Nch.size := by rw [← hA1, ByteArray.size_append]
  rw [hA1]
  clear B hb hLV hfV hvm h8 hfull zV1 zV2 zSV zNqu zNch zA1 hqu hch
  rw [hg]
  go_enter Tryz.func48, Tryz.ntmps48
  go_wp2_with (first | (go_at_call 74; refine (unhide HW _).mono ?_; rintro e y ⟨rfl, hy⟩; subst y))
  clear d0
  refine wp_region_held_drew (S := fun w' => Blk w' g #[.int .i64 st, .int .i64 (qu : Int), .int .i64 (ch : Int), .slice vp vm vc, .int .i64 no, .slice pp pm pc, .string wr, .string da] 34) (by kernel_rfl) (unhide HS0) ?_
  intro hS
  refine wpAnyH_takeD 0 (some 16) (.pointer (some ⟨g, 3, none⟩)) rfl rfl (by kernel_rfl) (by kernel_rfl) (by kernel_rfl) (fun _ _ _ h => h) (Or.inl ⟨by rfl, fun w hSw => by have q1 : w.cell? ⟨g, 1, none⟩ = some (.int .i64 (qu : Int)) := (Blk.cell hSw 1); have q2 : w.cell? ⟨g, 2, none⟩ = some (.int .i64 (ch : Int)) := (Blk.cell hSw 2); have q3 : w.cell? ⟨g, 3, none⟩ = some (.slice vp vm vc) := (Blk.cell hSw 3); have q4 : w.cell? ⟨g, 4, none⟩ = some (.int .i64 no) := (Blk.cell hSw 4); have q5 : w.cell? ⟨g, 5, none⟩ = some (.slice pp pm pc) := (Blk.cell hSw 5); clear hSw; go_simp⟩) hS ?_
  simp only [Act.put, List.setIfInBounds_toArray, List.set_cons_zero, List.set_cons_succ]
  refine wpAnyH_takeD 1 (some 17) (.slice vp vm vc) rfl rfl (by kernel_rfl) (by kernel_rfl) (by kernel_rfl) (fun _ _ _ h => h) (Or.inl ⟨by rfl, fun w hSw => by have q1 : w.cell? ⟨g, 1, none⟩ = some (.int .i64 (qu : Int)) := (Blk.cell hSw 1); have q2 : w.cell? ⟨g, 2, none⟩ = some (.int .i64 (ch : Int)) := (Blk.cell hSw 2); have q3 : w.cell? ⟨g, 3, none⟩ = some (.slice vp vm vc) := (Blk.cell hSw 3); have q4 : w.cell? ⟨g, 4, none⟩ = some (.int .i64 no) := (Blk.cell hSw 4); have q5 : w.cell? ⟨g, 5, none⟩ = some (.slice pp pm pc) := (Blk.cell hSw 5); clear hSw; go_simp⟩) hS ?_
  simp only [Act.put, List.setIfInBounds_toArray, List.set_cons_zero, List.set_cons_succ]
  refine wpAnyH_takeD 2 (some 18) (.int .i64 (vm : Int)) rfl rfl (by kernel_rfl) (by kernel_rfl) (by kernel_rfl) (fun _ _ _ h => h) (Or.inl ⟨by rfl, fun w hSw => by have q1 : w.cell? ⟨g, 1, none⟩ = some (.int .i64 (qu : Int)) := (Blk.cell hSw 1); have q2 : w.cell? ⟨g, 2, none⟩ = some (.int .i64 (ch : Int)) := (Blk.cell hSw 2); have q3 : w.cell? ⟨g, 3, none⟩ = some (.slice vp vm vc) := (Blk.cell hSw 3); have q4 : w.cell? ⟨g, 4, none⟩ = some (.int .i64 no) := (Blk.cell hSw 4); have q5 : w.cell? ⟨g, 5, none⟩ = some (.slice pp pm pc) := (Blk.cell hSw 5); clear hSw; go_simp⟩) hS ?_
  simp only [Act.put, List.setIfInBounds_toArray, List.set_cons_zero, List.set_cons_succ]
  refine wpAnyH_takeD 4 (some 20) (.pointer (some ⟨g, 3, none⟩)) rfl rfl (by kernel_rfl) (by kernel_rfl) (by kernel_rfl) (fun _ _ _ h => h) (Or.inl ⟨by rfl, fun w hSw => by have q1 : w.cell? ⟨g, 1, none⟩ = some (.int .i64 (qu : Int)) := (Blk.cell hSw 1); have q2 : w.cell? ⟨g, 2, none⟩ = some (.int .i64 (ch : Int)) := (Blk.cell hSw 2); have q3 : w.cell? ⟨g, 3, none⟩ = some (.slice vp vm vc) := (Blk.cell hSw 3); have q4 : w.cell? ⟨g, 4, none⟩ = some (.int .i64 no) := (Blk.cell hSw 4); have q5 : w.cell? ⟨g, 5, none⟩ = some (.slice pp pm pc) := (Blk.cell hSw 5); clear hSw; go_simp⟩) hS ?_
  simp only [Act.put, List.setIfInBounds_toArray, List.set_cons_zero, List.set_cons_succ]
  refine wpAnyH_takeD 5 (some 21) (.slice vp vm vc) rfl rfl (by kernel_rfl) (by kernel_rfl) (by kernel_rfl) (fun _ _ _ h => h) (Or.inl ⟨by rfl, fun w hSw => by have q1 : w.cell? ⟨g, 1, none⟩ = some (.int .i64 (qu : Int)) := (Blk.cell hSw 1); have q2 : w.cell? ⟨g, 2, none⟩ = some (.int .i64 (ch : Int)) := (Blk.cell hSw 2); have q3 : w.cell? ⟨g, 3, none⟩ = some (.slice vp vm vc) := (Blk.cell hSw 3); have q4 : w.cell? ⟨g, 4, none⟩ = some (.int .i64 no) := (Blk.cell hSw 4); have q5 : w.cell? ⟨g, 5, none⟩ = some (.slice pp pm pc) := (Blk.cell hSw 5); clear hSw; go_simp⟩) hS ?_
  simp only [Act.put, List.setIfInBounds_toArray, List.set_cons_zero, List.set_cons_succ]
  refine wpAnyH_ready (rs := [3]) (by kernel_rfl) (by simp) ?_
  refine AllReadyH.cons rfl (fun K hK => ?_) AllReadyH.nil
  simp only [List.getElem_toArray, List.getElem_cons_succ, List.getElem_cons_zero]
  go_simp
  refine (unhide HNV _).mono ?_
  rintro e xA ⟨rfl, hbA⟩
  have HPxA := hide (show Below x2.heap.size x2 xA from ((Below.refl x2.heap.size x2).drew).trans (hbA.mono ((Below.refl x2.heap.size x2).drew).size))
  have HSxA := hide (unhide HSW xA (unhide HPxA))
  clear hbA
  refine hK.out _ _ (unhide HSxA) (fun hS => ?_)
  clear hK K
  refine wpAnyH_ready (rs := [6]) (by kernel_rfl) (by simp) ?_
  refine AllReadyH.cons rfl (fun K hK => ?_) AllReadyH.nil
  simp only [List.getElem_toArray, List.getElem_cons_succ, List.getElem_cons_zero]
  go_simp
  refine (unhide HLV _ (unhide HPxA)).mono ?_
  rintro e xB ⟨rfl, hbA⟩
  have HPxB := hide (show Below x2.heap.size x2 xB from ((unhide HPxA)).trans (hbA.mono (unhide HPxA).size))
  have HSxB := hide (unhide HSW xB (unhide HPxB))
  clear hbA
  refine hK.out _ _ (unhide HSxB) (fun hS => ?_)
  clear hK K
  refine wpAnyH_takeD 7 (some 23) (.string SV) rfl rfl (by kernel_rfl) (by kernel_rfl) (by kernel_rfl) (fun _ _ _ h => h) (Or.inl ⟨by rfl, fun w hSw => by have q1 : w.cell? ⟨g, 1, none⟩ = some (.int .i64 (qu : Int)) := (Blk.cell hSw 1); have q2 : w.cell? ⟨g, 2, none⟩ = some (.int .i64 (ch : Int)) := (Blk.cell hSw 2); have q3 : w.cell? ⟨g, 3, none⟩ = some (.slice vp vm vc) := (Blk.cell hSw 3); have q4 : w.cell? ⟨g, 4, none⟩ = some (.int .i64 no) := (Blk.cell hSw 4); have q5 : w.cell? ⟨g, 5, none⟩ = some (.slice pp pm pc) := (Blk.cell hSw 5); clear hSw; go_simp⟩) hS ?_
  simp only [Act.put, List.setIfInBounds_toArray, List.set_cons_zero, List.set_cons_succ]
  refine wpAnyH_takeD 8 (some 6) (.string SV) rfl rfl (by kernel_rfl) (by kernel_rfl) (by kernel_rfl) (fun _ _ _ h => h) (Or.inl ⟨by rfl, fun w hSw => by have q1 : w.cell? ⟨g, 1, none⟩ = some (.int .i64 (qu : Int)) := (Blk.cell hSw 1); have q2 : w.cell? ⟨g, 2, none⟩ = some (.int .i64 (ch : Int)) := (Blk.cell hSw 2); have q3 : w.cell? ⟨g, 3, none⟩ = some (.slice vp vm vc) := (Blk.cell hSw 3); have q4 : w.cell? ⟨g, 4, none⟩ = some (.int .i64 no) := (Blk.cell hSw 4); have q5 : w.cell? ⟨g, 5, none⟩ = some (.slice pp pm pc) := (Blk.cell hSw 5); clear hSw; go_simp⟩) hS ?_
  simp only [Act.put, List.setIfInBounds_toArray, List.set_cons_zero, List.set_cons_succ]
  refine wpAnyH_done (by kernel_rfl) ?_ _
  go_wp2
  refine wp_region_held_drew (S := fun w' => Blk w' g #[.int .i64 st, .int .i64 (qu : Int), .int .i64 (ch : Int), .slice vp vm vc, .int .i64 no, .slice pp pm pc, .string wr, .string da] 34) (by kernel_rfl) (unhide HSxB) ?_
  intro hS
  refine wpAnyH_takeD 0 (some 41) (.pointer (some ⟨g, 1, none⟩)) rfl rfl (by kernel_rfl) (by kernel_rfl) (by kernel_rfl) (fun _ _ _ h => h) (Or.inl ⟨by rfl, fun w hSw => by have q1 : w.cell? ⟨g, 1, none⟩ = some (.int .i64 (qu : Int)) := (Blk.cell hSw 1); have q2 : w.cell? ⟨g, 2, none⟩ = some (.int .i64 (ch : Int)) := (Blk.cell hSw 2); have q3 : w.cell? ⟨g, 3, none⟩ = some (.slice vp vm vc) := (Blk.cell hSw 3); have q4 : w.cell? ⟨g, 4, none⟩ = some (.int .i64 no) := (Blk.cell hSw 4); have q5 : w.cell? ⟨g, 5, none⟩ = some (.slice pp pm pc) := (Blk.cell hSw 5); clear hSw; go_simp⟩) hS ?_
  simp only [Act.put, List.setIfInBounds_toArray, List.set_cons_zero, List.set_cons_succ]
  refine wpAnyH_takeD 1 (some 42) (.int .i64 (qu : Int)) rfl rfl (by kernel_rfl) (by kernel_rfl) (by kernel_rfl) (fun _ _ _ h => h) (Or.inl ⟨by rfl, fun w hSw => by have q1 : w.cell? ⟨g, 1, none⟩ = some (.int .i64 (qu : Int)) := (Blk.cell hSw 1); have q2 : w.cell? ⟨g, 2, none⟩ = some (.int .i64 (ch : Int)) := (Blk.cell hSw 2); have q3 : w.cell? ⟨g, 3, none⟩ = some (.slice vp vm vc) := (Blk.cell hSw 3); have q4 : w.cell? ⟨g, 4, none⟩ = some (.int .i64 no) := (Blk.cell hSw 4); have q5 : w.cell? ⟨g, 5, none⟩ = some (.slice pp pm pc) := (Blk.cell hSw 5); clear hSw; go_simp⟩) hS ?_
  simp only [Act.put, List.setIfInBounds_toArray, List.set_cons_zero, List.set_cons_succ]
  refine wpAnyH_takeD 3 (some 44) (.pointer (some ⟨g, 2, none⟩)) rfl rfl (by kernel_rfl) (by kernel_rfl) (by kernel_rfl) (fun _ _ _ h => h) (Or.inl ⟨by rfl, fun w hSw => by have q1 : w.cell? ⟨g, 1, none⟩ = some (.int .i64 (qu : Int)) := (Blk.cell hSw 1); have q2 : w.cell? ⟨g, 2, none⟩ = some (.int .i64 (ch : Int)) := (Blk.cell hSw 2); have q3 : w.cell? ⟨g, 3, none⟩ = some (.slice vp vm vc) := (Blk.cell hSw 3); have q4 : w.cell? ⟨g, 4, none⟩ = some (.int .i64 no) := (Blk.cell hSw 4); have q5 : w.cell? ⟨g, 5, none⟩ = some (.slice pp pm pc) := (Blk.cell hSw 5); clear hSw; go_simp⟩) hS ?_
  simp only [Act.put, List.setIfInBounds_toArray, List.set_cons_zero, List.set_cons_succ]
  refine wpAnyH_takeD 4 (some 45) (.int .i64 (ch : Int)) rfl rfl (by kernel_rfl) (by kernel_rfl) (by kernel_rfl) (fun _ _ _ h => h) (Or.inl ⟨by rfl, fun w hSw => by have q1 : w.cell? ⟨g, 1, none⟩ = some (.int .i64 (qu : Int)) := (Blk.cell hSw 1); have q2 : w.cell? ⟨g, 2, none⟩ = some (.int .i64 (ch : Int)) := (Blk.cell hSw 2); have q3 : w.cell? ⟨g, 3, none⟩ = some (.slice vp vm vc) := (Blk.cell hSw 3); have q4 : w.cell? ⟨g, 4, none⟩ = some (.int .i64 no) := (Blk.cell hSw 4); have q5 : w.cell? ⟨g, 5, none⟩ = some (.slice pp pm pc) := (Blk.cell hSw 5); clear hSw; go_simp⟩) hS ?_
  simp only [Act.put, List.setIfInBounds_toArray, List.set_cons_zero, List.set_cons_succ]
  refine wpAnyH_ready (rs := [2]) (by kernel_rfl) (by simp) ?_
  refine AllReadyH.cons rfl (fun K hK => ?_) AllReadyH.nil
  simp only [List.getElem_toArray, List.getElem_cons_succ, List.getElem_cons_zero]
  go_simp
  refine (unhide HNqu _).mono ?_
  rintro e xC ⟨rfl, hbA⟩
  have HPxC := hide (show Below x2.heap.size x2 xC from ((unhide HPxB).drew).trans (hbA.mono ((unhide HPxB).drew).size))
  have HSxC := hide (unhide HSW xC (unhide HPxC))
  clear hbA
  refine hK.out _ _ (unhide HSxC) (fun hS => ?_)
  clear hK K
  refine wpAnyH_ready (rs := [5]) (by kernel_rfl) (by simp) ?_
  refine AllReadyH.cons rfl (fun K hK => ?_) AllReadyH.nil
  simp only [List.getElem_toArray, List.getElem_cons_succ, List.getElem_cons_zero]
  go_simp
  refine (unhide HNch _).mono ?_
  rintro e xD ⟨rfl, hbA⟩
  have HPxD := hide (show Below x2.heap.size x2 xD from ((unhide HPxC)).trans (hbA.mono (unhide HPxC).size))
  have HSxD := hide (unhide HSW xD (unhide HPxD))
  clear hbA
  refine hK.out _ _ (unhide HSxD) (fun hS => ?_)
  clear hK K
  refine wpAnyH_takeD 6 (some 47) (.string A1) rfl rfl (by kernel_rfl) (by kernel_rfl) (by kernel_rfl) (fun _ _ _ h => h) (Or.inl ⟨by rfl, fun w hSw => by have q1 : w.cell? ⟨g, 1, none⟩ = some (.int .i64 (qu : Int)) := (Blk.cell hSw 1); have q2 : w.cell? ⟨g, 2, none⟩ = some (.int .i64 (ch : Int)) := (Blk.cell hSw 2); have q3 : w.cell? ⟨g, 3, none⟩ = some (.slice vp vm vc) := (Blk.cell hSw 3); have q4 : w.cell? ⟨g, 4, none⟩ = some (.int .i64 no) := (Blk.cell hSw 4); have q5 : w.cell? ⟨g, 5, none⟩ = some (.slice pp pm pc) := (Blk.cell hSw 5); clear hSw; go_simp⟩) hS ?_
  simp only [Act.put, List.setIfInBounds_toArray, List.set_cons_zero, List.set_cons_succ]
  refine wpAnyH_takeD 7 (some 4) (.string A1) rfl rfl (by kernel_rfl) (by kernel_rfl) (by kernel_rfl) (fun _ _ _ h => h) (Or.inl ⟨by rfl, fun w hSw => by have q1 : w.cell? ⟨g, 1, none⟩ = some (.int .i64 (qu : Int)) := (Blk.cell hSw 1); have q2 : w.cell? ⟨g, 2, none⟩ = some (.int .i64 (ch : Int)) := (Blk.cell hSw 2); have q3 : w.cell? ⟨g, 3, none⟩ = some (.slice vp vm vc) := (Blk.cell hSw 3); have q4 : w.cell? ⟨g, 4, none⟩ = some (.int .i64 no) := (Blk.cell hSw 4); have q5 : w.cell? ⟨g, 5, none⟩ = some (.slice pp pm pc) := (Blk.cell hSw 5); clear hSw; go_simp⟩) hS ?_
  simp only [Act.put, List.setIfInBounds_toArray, List.set_cons_zero, List.set_cons_succ]
  refine wpAnyH_done (by kernel_rfl) ?_ _
  go_wp2
  go_ret
  exact ⟨rfl, (unhide HB2).1.trans ((unhide HPxD).mono (unhide HB2).2)⟩
set_option maxHeartbeats 8000000 in
theorem laid_8 (st : Int) (no : Nat) (qu ch : Int) (vp : Option Addr) (vm vc : Nat) (pp : Option Addr) (pm pc : Nat) (wr da : ByteArray) (hno : no ≤ 4294967295) (Pl : List Int) (hpm : Pl.length = pm) (hp8 : pm ≤ 8) (hfP : ∀ k, k < pm → 0 ≤ Pl.getD k 0 ∧ Pl.getD k 0 ≤ 255) (V : List Int) (hvm : V.length = vm) (h8 : vm ≤ 8) (hfV : ∀ k, k < vm → 0 ≤ V.getD k 0 ∧ V.getD k 0 ≤ 255) (hfull : fullP 8 st = true) (w : World) (hLV : Lst w w.heap.size vp V) (hLP : Lst w w.heap.size pp Pl) : Calls Tryz.prog 48 #[.int .i64 8, .agg #[.int .i64 st, .int .i64 qu, .int .i64 ch, .slice vp vm vc, .int .i64 (no : Int), .slice pp pm pc, .string wr, .string da]] w fun e w' => e = .returned (.string (strOfNums (numB (no : Int) 4) ++ strOfNums (outN 1 Pl ++ List.replicate (8 - pm) 0))) ∧ Below w.heap.size w w' := by
  obtain ⟨g, hg⟩ : ∃ g, w.heap.size = g := ⟨_, rfl⟩
  obtain ⟨x2, hx2⟩ : ∃ Z, w.alloc (.cells #[.int .i64 st, .int .i64 qu, .int .i64 ch, .slice vp vm vc, .int .i64 (no : Int), .slice pp pm pc, .string wr, .string da] 34) = Z := ⟨_, rfl⟩
  have B : Blk x2 g #[.int .i64 st, .int .i64 qu, .int .i64 ch, .slice vp vm vc, .int .i64 (no : Int), .slice pp pm pc, .string wr, .string da] 34 := by rw [← hx2, ← hg]; exact Blk.new w _ _
  have hb : Below g w x2 := by rw [← hx2, ← hg]; exact (Below.refl _ w).alloc (Nat.le_refl _) _
  have HS0 := hide B
  have HSW := hide (show ∀ W, Below x2.heap.size x2 W → Blk W g #[.int .i64 st, .int .i64 qu, .int .i64 ch, .slice vp vm vc, .int .i64 (no : Int), .slice pp pm pc, .string wr, .string da] 34 from fun W hW => B.below hW B.lt)
  have HB2 := hide (And.intro hb (Nat.le_of_lt B.lt))
  have d0 : x2.cell? ⟨g, 0, none⟩ = some (.int .i64 st) := by rw [B.cell]; rfl
  have HW := hide (rwhole_any 8 st)
  rw [hfull] at HW
  have HNV := hide (fun W => rnum_of vm 1 (by omega) (by decide) W)
  have HLV := hide (fun W (q : Below x2.heap.size x2 W) => numbers_any W vp vc vm V hvm (((hg ▸ hLV).below (hb.trans (q.mono (Nat.le_of_lt B.lt)))).mono (by have h1 := B.lt; have h2 := q.size; omega)) h8 hfV)
  have HLP := hide (fun W (q : Below x2.heap.size x2 W) => numbers_any W pp pc pm Pl hpm (((hg ▸ hLP).below (hb.trans (q.mono (Nat.le_of_lt B.lt)))).mono (by have h1 := B.lt; have h2 := q.size; omega)) hp8 hfP)
  have HNno := hide (fun W => rnum_of no 4 (by omega) (by decide) W)
  have zNno : (strOfNums (numB (no : Int) 4)).size = 4 := by rw [strOfNums_size, numB_len]
  have zV1 : (strOfNums (numB (vm : Int) 1)).size = 1 := by rw [strOfNums_size, numB_len]
  have zV2 : (strOfNums (outN 1 V ++ List.replicate (8 - vm) 0)).size ≤ 16 := by rw [strOfNums_size, List.length_append, outN_len, List.length_replicate]; omega
  have zP : (strOfNums (outN 1 Pl ++ List.replicate (8 - pm) 0)).size ≤ 16 := by rw [strOfNums_size, List.length_append, outN_len, List.length_replicate]; omega
  generalize strOfNums (numB (vm : Int) 1) = SA at *
  generalize strOfNums (outN 1 V ++ List.replicate (8 - vm) 0) = SB at *
  generalize strOfNums (numB (no : Int) 4) = Nno at *
  generalize strOfNums (outN 1 Pl ++ List.replicate (8 - pm) 0) = SP at *
  have y0 : ¬ 9223372036854775807 < SA.size + SB.size := by omega
  obtain ⟨SV, hSV⟩ : ∃ Z, SA ++ SB = Z := ⟨_, rfl⟩
  have zSV : SV.size = SA.size + SB.size := by rw [← hSV, ByteArray.size_append]
  have y1 : ¬ 9223372036854775807 < Nno.size + SP.size := by omega
  obtain ⟨A1, hA1⟩ : ∃ Z, Nno ++ SP = Z := ⟨_, rfl⟩
  rw [hA1]
  clear B hb hLV hfV hvm h8 hfull hLP hfP hpm hp8 zV1 zV2 zSV zNno zP hno
  rw [hg]
  go_enter Tryz.func48, Tryz.ntmps48
  go_wp2_with (first | (go_at_call 74; refine (unhide HW _).mono ?_; rintro e y ⟨rfl, hy⟩; subst y))
  clear d0
  refine wp_region_held_drew (S := fun w' => Blk w' g #[.int .i64 st, .int .i64 qu, .int .i64 ch, .slice vp vm vc, .int .i64 (no : Int), .slice pp pm pc, .string wr, .string da] 34) (by kernel_rfl) (unhide HS0) ?_
  intro hS
  refine wpAnyH_takeD 0 (some 16) (.pointer (some ⟨g, 3, none⟩)) rfl rfl (by kernel_rfl) (by kernel_rfl) (by kernel_rfl) (fun _ _ _ h => h) (Or.inl ⟨by rfl, fun w hSw => by have q1 : w.cell? ⟨g, 1, none⟩ = some (.int .i64 qu) := (Blk.cell hSw 1); have q2 : w.cell? ⟨g, 2, none⟩ = some (.int .i64 ch) := (Blk.cell hSw 2); have q3 : w.cell? ⟨g, 3, none⟩ = some (.slice vp vm vc) := (Blk.cell hSw 3); have q4 : w.cell? ⟨g, 4, none⟩ = some (.int .i64 (no : Int)) := (Blk.cell hSw 4); have q5 : w.cell? ⟨g, 5, none⟩ = some (.slice pp pm pc) := (Blk.cell hSw 5); clear hSw; go_simp⟩) hS ?_
  simp only [Act.put, List.setIfInBounds_toArray, List.set_cons_zero, List.set_cons_succ]
  refine wpAnyH_takeD 1 (some 17) (.slice vp vm vc) rfl rfl (by kernel_rfl) (by kernel_rfl) (by kernel_rfl) (fun _ _ _ h => h) (Or.inl ⟨by rfl, fun w hSw => by have q1 : w.cell? ⟨g, 1, none⟩ = some (.int .i64 qu) := (Blk.cell hSw 1); have q2 : w.cell? ⟨g, 2, none⟩ = some (.int .i64 ch) := (Blk.cell hSw 2); have q3 : w.cell? ⟨g, 3, none⟩ = some (.slice vp vm vc) := (Blk.cell hSw 3); have q4 : w.cell? ⟨g, 4, none⟩ = some (.int .i64 (no : Int)) := (Blk.cell hSw 4); have q5 : w.cell? ⟨g, 5, none⟩ = some (.slice pp pm pc) := (Blk.cell hSw 5); clear hSw; go_simp⟩) hS ?_
  simp only [Act.put, List.setIfInBounds_toArray, List.set_cons_zero, List.set_cons_succ]
  refine wpAnyH_takeD 2 (some 18) (.int .i64 (vm : Int)) rfl rfl (by kernel_rfl) (by kernel_rfl) (by kernel_rfl) (fun _ _ _ h => h) (Or.inl ⟨by rfl, fun w hSw => by have q1 : w.cell? ⟨g, 1, none⟩ = some (.int .i64 qu) := (Blk.cell hSw 1); have q2 : w.cell? ⟨g, 2, none⟩ = some (.int .i64 ch) := (Blk.cell hSw 2); have q3 : w.cell? ⟨g, 3, none⟩ = some (.slice vp vm vc) := (Blk.cell hSw 3); have q4 : w.cell? ⟨g, 4, none⟩ = some (.int .i64 (no : Int)) := (Blk.cell hSw 4); have q5 : w.cell? ⟨g, 5, none⟩ = some (.slice pp pm pc) := (Blk.cell hSw 5); clear hSw; go_simp⟩) hS ?_
  simp only [Act.put, List.setIfInBounds_toArray, List.set_cons_zero, List.set_cons_succ]
  refine wpAnyH_takeD 4 (some 20) (.pointer (some ⟨g, 3, none⟩)) rfl rfl (by kernel_rfl) (by kernel_rfl) (by kernel_rfl) (fun _ _ _ h => h) (Or.inl ⟨by rfl, fun w hSw => by have q1 : w.cell? ⟨g, 1, none⟩ = some (.int .i64 qu) := (Blk.cell hSw 1); have q2 : w.cell? ⟨g, 2, none⟩ = some (.int .i64 ch) := (Blk.cell hSw 2); have q3 : w.cell? ⟨g, 3, none⟩ = some (.slice vp vm vc) := (Blk.cell hSw 3); have q4 : w.cell? ⟨g, 4, none⟩ = some (.int .i64 (no : Int)) := (Blk.cell hSw 4); have q5 : w.cell? ⟨g, 5, none⟩ = some (.slice pp pm pc) := (Blk.cell hSw 5); clear hSw; go_simp⟩) hS ?_
  simp only [Act.put, List.setIfInBounds_toArray, List.set_cons_zero, List.set_cons_succ]
  refine wpAnyH_takeD 5 (some 21) (.slice vp vm vc) rfl rfl (by kernel_rfl) (by kernel_rfl) (by kernel_rfl) (fun _ _ _ h => h) (Or.inl ⟨by rfl, fun w hSw => by have q1 : w.cell? ⟨g, 1, none⟩ = some (.int .i64 qu) := (Blk.cell hSw 1); have q2 : w.cell? ⟨g, 2, none⟩ = some (.int .i64 ch) := (Blk.cell hSw 2); have q3 : w.cell? ⟨g, 3, none⟩ = some (.slice vp vm vc) := (Blk.cell hSw 3); have q4 : w.cell? ⟨g, 4, none⟩ = some (.int .i64 (no : Int)) := (Blk.cell hSw 4); have q5 : w.cell? ⟨g, 5, none⟩ = some (.slice pp pm pc) := (Blk.cell hSw 5); clear hSw; go_simp⟩) hS ?_
  simp only [Act.put, List.setIfInBounds_toArray, List.set_cons_zero, List.set_cons_succ]
  refine wpAnyH_ready (rs := [3]) (by kernel_rfl) (by simp) ?_
  refine AllReadyH.cons rfl (fun K hK => ?_) AllReadyH.nil
  simp only [List.getElem_toArray, List.getElem_cons_succ, List.getElem_cons_zero]
  go_simp
  refine (unhide HNV _).mono ?_
  rintro e xA ⟨rfl, hbA⟩
  have HPxA := hide (show Below x2.heap.size x2 xA from ((Below.refl x2.heap.size x2).drew).trans (hbA.mono ((Below.refl x2.heap.size x2).drew).size))
  have HSxA := hide (unhide HSW xA (unhide HPxA))
  clear hbA
  refine hK.out _ _ (unhide HSxA) (fun hS => ?_)
  clear hK K
  refine wpAnyH_ready (rs := [6]) (by kernel_rfl) (by simp) ?_
  refine AllReadyH.cons rfl (fun K hK => ?_) AllReadyH.nil
  simp only [List.getElem_toArray, List.getElem_cons_succ, List.getElem_cons_zero]
  go_simp
  refine (unhide HLV _ (unhide HPxA)).mono ?_
  rintro e xB ⟨rfl, hbA⟩
  have HPxB := hide (show Below x2.heap.size x2 xB from ((unhide HPxA)).trans (hbA.mono (unhide HPxA).size))
  have HSxB := hide (unhide HSW xB (unhide HPxB))
  clear hbA
  refine hK.out _ _ (unhide HSxB) (fun hS => ?_)
  clear hK K
  refine wpAnyH_takeD 7 (some 23) (.string SV) rfl rfl (by kernel_rfl) (by kernel_rfl) (by kernel_rfl) (fun _ _ _ h => h) (Or.inl ⟨by rfl, fun w hSw => by have q1 : w.cell? ⟨g, 1, none⟩ = some (.int .i64 qu) := (Blk.cell hSw 1); have q2 : w.cell? ⟨g, 2, none⟩ = some (.int .i64 ch) := (Blk.cell hSw 2); have q3 : w.cell? ⟨g, 3, none⟩ = some (.slice vp vm vc) := (Blk.cell hSw 3); have q4 : w.cell? ⟨g, 4, none⟩ = some (.int .i64 (no : Int)) := (Blk.cell hSw 4); have q5 : w.cell? ⟨g, 5, none⟩ = some (.slice pp pm pc) := (Blk.cell hSw 5); clear hSw; go_simp⟩) hS ?_
  simp only [Act.put, List.setIfInBounds_toArray, List.set_cons_zero, List.set_cons_succ]
  refine wpAnyH_takeD 8 (some 6) (.string SV) rfl rfl (by kernel_rfl) (by kernel_rfl) (by kernel_rfl) (fun _ _ _ h => h) (Or.inl ⟨by rfl, fun w hSw => by have q1 : w.cell? ⟨g, 1, none⟩ = some (.int .i64 qu) := (Blk.cell hSw 1); have q2 : w.cell? ⟨g, 2, none⟩ = some (.int .i64 ch) := (Blk.cell hSw 2); have q3 : w.cell? ⟨g, 3, none⟩ = some (.slice vp vm vc) := (Blk.cell hSw 3); have q4 : w.cell? ⟨g, 4, none⟩ = some (.int .i64 (no : Int)) := (Blk.cell hSw 4); have q5 : w.cell? ⟨g, 5, none⟩ = some (.slice pp pm pc) := (Blk.cell hSw 5); clear hSw; go_simp⟩) hS ?_
  simp only [Act.put, List.setIfInBounds_toArray, List.set_cons_zero, List.set_cons_succ]
  refine wpAnyH_done (by kernel_rfl) ?_ _
  go_wp2
  refine wp_region_held_drew (S := fun w' => Blk w' g #[.int .i64 st, .int .i64 qu, .int .i64 ch, .slice vp vm vc, .int .i64 (no : Int), .slice pp pm pc, .string wr, .string da] 34) (by kernel_rfl) (unhide HSxB) ?_
  intro hS
  refine wpAnyH_takeD 0 (some 50) (.pointer (some ⟨g, 4, none⟩)) rfl rfl (by kernel_rfl) (by kernel_rfl) (by kernel_rfl) (fun _ _ _ h => h) (Or.inl ⟨by rfl, fun w hSw => by have q1 : w.cell? ⟨g, 1, none⟩ = some (.int .i64 qu) := (Blk.cell hSw 1); have q2 : w.cell? ⟨g, 2, none⟩ = some (.int .i64 ch) := (Blk.cell hSw 2); have q3 : w.cell? ⟨g, 3, none⟩ = some (.slice vp vm vc) := (Blk.cell hSw 3); have q4 : w.cell? ⟨g, 4, none⟩ = some (.int .i64 (no : Int)) := (Blk.cell hSw 4); have q5 : w.cell? ⟨g, 5, none⟩ = some (.slice pp pm pc) := (Blk.cell hSw 5); clear hSw; go_simp⟩) hS ?_
  simp only [Act.put, List.setIfInBounds_toArray, List.set_cons_zero, List.set_cons_succ]
  refine wpAnyH_takeD 1 (some 51) (.int .i64 (no : Int)) rfl rfl (by kernel_rfl) (by kernel_rfl) (by kernel_rfl) (fun _ _ _ h => h) (Or.inl ⟨by rfl, fun w hSw => by have q1 : w.cell? ⟨g, 1, none⟩ = some (.int .i64 qu) := (Blk.cell hSw 1); have q2 : w.cell? ⟨g, 2, none⟩ = some (.int .i64 ch) := (Blk.cell hSw 2); have q3 : w.cell? ⟨g, 3, none⟩ = some (.slice vp vm vc) := (Blk.cell hSw 3); have q4 : w.cell? ⟨g, 4, none⟩ = some (.int .i64 (no : Int)) := (Blk.cell hSw 4); have q5 : w.cell? ⟨g, 5, none⟩ = some (.slice pp pm pc) := (Blk.cell hSw 5); clear hSw; go_simp⟩) hS ?_
  simp only [Act.put, List.setIfInBounds_toArray, List.set_cons_zero, List.set_cons_succ]
  refine wpAnyH_takeD 3 (some 53) (.pointer (some ⟨g, 5, none⟩)) rfl rfl (by kernel_rfl) (by kernel_rfl) (by kernel_rfl) (fun _ _ _ h => h) (Or.inl ⟨by rfl, fun w hSw => by have q1 : w.cell? ⟨g, 1, none⟩ = some (.int .i64 qu) := (Blk.cell hSw 1); have q2 : w.cell? ⟨g, 2, none⟩ = some (.int .i64 ch) := (Blk.cell hSw 2); have q3 : w.cell? ⟨g, 3, none⟩ = some (.slice vp vm vc) := (Blk.cell hSw 3); have q4 : w.cell? ⟨g, 4, none⟩ = some (.int .i64 (no : Int)) := (Blk.cell hSw 4); have q5 : w.cell? ⟨g, 5, none⟩ = some (.slice pp pm pc) := (Blk.cell hSw 5); clear hSw; go_simp⟩) hS ?_
  simp only [Act.put, List.setIfInBounds_toArray, List.set_cons_zero, List.set_cons_succ]
  refine wpAnyH_takeD 4 (some 54) (.slice pp pm pc) rfl rfl (by kernel_rfl) (by kernel_rfl) (by kernel_rfl) (fun _ _ _ h => h) (Or.inl ⟨by rfl, fun w hSw => by have q1 : w.cell? ⟨g, 1, none⟩ = some (.int .i64 qu) := (Blk.cell hSw 1); have q2 : w.cell? ⟨g, 2, none⟩ = some (.int .i64 ch) := (Blk.cell hSw 2); have q3 : w.cell? ⟨g, 3, none⟩ = some (.slice vp vm vc) := (Blk.cell hSw 3); have q4 : w.cell? ⟨g, 4, none⟩ = some (.int .i64 (no : Int)) := (Blk.cell hSw 4); have q5 : w.cell? ⟨g, 5, none⟩ = some (.slice pp pm pc) := (Blk.cell hSw 5); clear hSw; go_simp⟩) hS ?_
  simp only [Act.put, List.setIfInBounds_toArray, List.set_cons_zero, List.set_cons_succ]
  refine wpAnyH_ready (rs := [2]) (by kernel_rfl) (by simp) ?_
  refine AllReadyH.cons rfl (fun K hK => ?_) AllReadyH.nil
  simp only [List.getElem_toArray, List.getElem_cons_succ, List.getElem_cons_zero]
  go_simp
  refine (unhide HNno _).mono ?_
  rintro e xC ⟨rfl, hbA⟩
  have HPxC := hide (show Below x2.heap.size x2 xC from ((unhide HPxB).drew).trans (hbA.mono ((unhide HPxB).drew).size))
  have HSxC := hide (unhide HSW xC (unhide HPxC))
  clear hbA
  refine hK.out _ _ (unhide HSxC) (fun hS => ?_)
  clear hK K
  refine wpAnyH_ready (rs := [5]) (by kernel_rfl) (by simp) ?_
  refine AllReadyH.cons rfl (fun K hK => ?_) AllReadyH.nil
  simp only [List.getElem_toArray, List.getElem_cons_succ, List.getElem_cons_zero]
  go_simp
  refine (unhide HLP _ (unhide HPxC)).mono ?_
  rintro e xD ⟨rfl, hbA⟩
  have HPxD := hide (show Below x2.heap.size x2 xD from ((unhide HPxC)).trans (hbA.mono (unhide HPxC).size))
  have HSxD := hide (unhide HSW xD (unhide HPxD))
  clear hbA
  refine hK.out _ _ (unhide HSxD) (fun hS => ?_)
  clear hK K
  refine wpAnyH_takeD 6 (some 56) (.string A1) rfl rfl (by kernel_rfl) (by kernel_rfl) (by kernel_rfl) (fun _ _ _ h => h) (Or.inl ⟨by rfl, fun w hSw => by have q1 : w.cell? ⟨g, 1, none⟩ = some (.int .i64 qu) := (Blk.cell hSw 1); have q2 : w.cell? ⟨g, 2, none⟩ = some (.int .i64 ch) := (Blk.cell hSw 2); have q3 : w.cell? ⟨g, 3, none⟩ = some (.slice vp vm vc) := (Blk.cell hSw 3); have q4 : w.cell? ⟨g, 4, none⟩ = some (.int .i64 (no : Int)) := (Blk.cell hSw 4); have q5 : w.cell? ⟨g, 5, none⟩ = some (.slice pp pm pc) := (Blk.cell hSw 5); clear hSw; go_simp⟩) hS ?_
  simp only [Act.put, List.setIfInBounds_toArray, List.set_cons_zero, List.set_cons_succ]
  refine wpAnyH_takeD 7 (some 4) (.string A1) rfl rfl (by kernel_rfl) (by kernel_rfl) (by kernel_rfl) (fun _ _ _ h => h) (Or.inl ⟨by rfl, fun w hSw => by have q1 : w.cell? ⟨g, 1, none⟩ = some (.int .i64 qu) := (Blk.cell hSw 1); have q2 : w.cell? ⟨g, 2, none⟩ = some (.int .i64 ch) := (Blk.cell hSw 2); have q3 : w.cell? ⟨g, 3, none⟩ = some (.slice vp vm vc) := (Blk.cell hSw 3); have q4 : w.cell? ⟨g, 4, none⟩ = some (.int .i64 (no : Int)) := (Blk.cell hSw 4); have q5 : w.cell? ⟨g, 5, none⟩ = some (.slice pp pm pc) := (Blk.cell hSw 5); clear hSw; go_simp⟩) hS ?_
  simp only [Act.put, List.setIfInBounds_toArray, List.set_cons_zero, List.set_cons_succ]
  refine wpAnyH_done (by kernel_rfl) ?_ _
  go_wp2
  go_ret
  exact ⟨rfl, (unhide HB2).1.trans ((unhide HPxD).mono (unhide HB2).2)⟩
set_option maxHeartbeats 8000000 in
theorem laid_11 (st : Int) (qu ch no : Int) (vp : Option Addr) (vm vc : Nat) (pp : Option Addr) (pm pc : Nat) (wr da : ByteArray) (hwr : wr.size ≤ 256) (hda : da.size ≤ 256) (V : List Int) (hvm : V.length = vm) (h8 : vm ≤ 8) (hfV : ∀ k, k < vm → 0 ≤ V.getD k 0 ∧ V.getD k 0 ≤ 255) (hfull : fullP 11 st = true) (w : World) (hLV : Lst w w.heap.size vp V) : Calls Tryz.prog 48 #[.int .i64 11, .agg #[.int .i64 st, .int .i64 qu, .int .i64 ch, .slice vp vm vc, .int .i64 no, .slice pp pm pc, .string wr, .string da]] w fun e w' => e = .returned (.string (wr ++ da)) ∧ Below w.heap.size w w' := by
  obtain ⟨g, hg⟩ : ∃ g, w.heap.size = g := ⟨_, rfl⟩
  obtain ⟨x2, hx2⟩ : ∃ Z, w.alloc (.cells #[.int .i64 st, .int .i64 qu, .int .i64 ch, .slice vp vm vc, .int .i64 no, .slice pp pm pc, .string wr, .string da] 34) = Z := ⟨_, rfl⟩
  have B : Blk x2 g #[.int .i64 st, .int .i64 qu, .int .i64 ch, .slice vp vm vc, .int .i64 no, .slice pp pm pc, .string wr, .string da] 34 := by rw [← hx2, ← hg]; exact Blk.new w _ _
  have hb : Below g w x2 := by rw [← hx2, ← hg]; exact (Below.refl _ w).alloc (Nat.le_refl _) _
  have HS0 := hide B
  have HSW := hide (show ∀ W, Below x2.heap.size x2 W → Blk W g #[.int .i64 st, .int .i64 qu, .int .i64 ch, .slice vp vm vc, .int .i64 no, .slice pp pm pc, .string wr, .string da] 34 from fun W hW => B.below hW B.lt)
  have HB2 := hide (And.intro hb (Nat.le_of_lt B.lt))
  have d0 : x2.cell? ⟨g, 0, none⟩ = some (.int .i64 st) := by rw [B.cell]; rfl
  have HW := hide (rwhole_any 11 st)
  rw [hfull] at HW
  have HNV := hide (fun W => rnum_of vm 1 (by omega) (by decide) W)
  have HLV := hide (fun W (q : Below x2.heap.size x2 W) => numbers_any W vp vc vm V hvm (((hg ▸ hLV).below (hb.trans (q.mono (Nat.le_of_lt B.lt)))).mono (by have h1 := B.lt; have h2 := q.size; omega)) h8 hfV)
  have zV1 : (strOfNums (numB (vm : Int) 1)).size = 1 := by rw [strOfNums_size, numB_len]
  have zV2 : (strOfNums (outN 1 V ++ List.replicate (8 - vm) 0)).size ≤ 16 := by rw [strOfNums_size, List.length_append, outN_len, List.length_replicate]; omega
  generalize strOfNums (numB (vm : Int) 1) = SA at *
  generalize strOfNums (outN 1 V ++ List.replicate (8 - vm) 0) = SB at *
  have y0 : ¬ 9223372036854775807 < SA.size + SB.size := by omega
  obtain ⟨SV, hSV⟩ : ∃ Z, SA ++ SB = Z := ⟨_, rfl⟩
  have zSV : SV.size = SA.size + SB.size := by rw [← hSV, ByteArray.size_append]
  have y1 : ¬ 9223372036854775807 < wr.size + da.size := by omega
  clear B hb hLV hfV hvm h8 hfull zV1 zV2 zSV hwr hda
  rw [hg]
  go_enter Tryz.func48, Tryz.ntmps48
  go_wp2_with (first | (go_at_call 74; refine (unhide HW _).mono ?_; rintro e y ⟨rfl, hy⟩; subst y))
  clear d0
  refine wp_region_held_drew (S := fun w' => Blk w' g #[.int .i64 st, .int .i64 qu, .int .i64 ch, .slice vp vm vc, .int .i64 no, .slice pp pm pc, .string wr, .string da] 34) (by kernel_rfl) (unhide HS0) ?_
  intro hS
  refine wpAnyH_takeD 0 (some 16) (.pointer (some ⟨g, 3, none⟩)) rfl rfl (by kernel_rfl) (by kernel_rfl) (by kernel_rfl) (fun _ _ _ h => h) (Or.inl ⟨by rfl, fun w hSw => by have q1 : w.cell? ⟨g, 1, none⟩ = some (.int .i64 qu) := (Blk.cell hSw 1); have q2 : w.cell? ⟨g, 2, none⟩ = some (.int .i64 ch) := (Blk.cell hSw 2); have q3 : w.cell? ⟨g, 3, none⟩ = some (.slice vp vm vc) := (Blk.cell hSw 3); have q4 : w.cell? ⟨g, 4, none⟩ = some (.int .i64 no) := (Blk.cell hSw 4); have q5 : w.cell? ⟨g, 5, none⟩ = some (.slice pp pm pc) := (Blk.cell hSw 5); clear hSw; go_simp⟩) hS ?_
  simp only [Act.put, List.setIfInBounds_toArray, List.set_cons_zero, List.set_cons_succ]
  refine wpAnyH_takeD 1 (some 17) (.slice vp vm vc) rfl rfl (by kernel_rfl) (by kernel_rfl) (by kernel_rfl) (fun _ _ _ h => h) (Or.inl ⟨by rfl, fun w hSw => by have q1 : w.cell? ⟨g, 1, none⟩ = some (.int .i64 qu) := (Blk.cell hSw 1); have q2 : w.cell? ⟨g, 2, none⟩ = some (.int .i64 ch) := (Blk.cell hSw 2); have q3 : w.cell? ⟨g, 3, none⟩ = some (.slice vp vm vc) := (Blk.cell hSw 3); have q4 : w.cell? ⟨g, 4, none⟩ = some (.int .i64 no) := (Blk.cell hSw 4); have q5 : w.cell? ⟨g, 5, none⟩ = some (.slice pp pm pc) := (Blk.cell hSw 5); clear hSw; go_simp⟩) hS ?_
  simp only [Act.put, List.setIfInBounds_toArray, List.set_cons_zero, List.set_cons_succ]
  refine wpAnyH_takeD 2 (some 18) (.int .i64 (vm : Int)) rfl rfl (by kernel_rfl) (by kernel_rfl) (by kernel_rfl) (fun _ _ _ h => h) (Or.inl ⟨by rfl, fun w hSw => by have q1 : w.cell? ⟨g, 1, none⟩ = some (.int .i64 qu) := (Blk.cell hSw 1); have q2 : w.cell? ⟨g, 2, none⟩ = some (.int .i64 ch) := (Blk.cell hSw 2); have q3 : w.cell? ⟨g, 3, none⟩ = some (.slice vp vm vc) := (Blk.cell hSw 3); have q4 : w.cell? ⟨g, 4, none⟩ = some (.int .i64 no) := (Blk.cell hSw 4); have q5 : w.cell? ⟨g, 5, none⟩ = some (.slice pp pm pc) := (Blk.cell hSw 5); clear hSw; go_simp⟩) hS ?_
  simp only [Act.put, List.setIfInBounds_toArray, List.set_cons_zero, List.set_cons_succ]
  refine wpAnyH_takeD 4 (some 20) (.pointer (some ⟨g, 3, none⟩)) rfl rfl (by kernel_rfl) (by kernel_rfl) (by kernel_rfl) (fun _ _ _ h => h) (Or.inl ⟨by rfl, fun w hSw => by have q1 : w.cell? ⟨g, 1, none⟩ = some (.int .i64 qu) := (Blk.cell hSw 1); have q2 : w.cell? ⟨g, 2, none⟩ = some (.int .i64 ch) := (Blk.cell hSw 2); have q3 : w.cell? ⟨g, 3, none⟩ = some (.slice vp vm vc) := (Blk.cell hSw 3); have q4 : w.cell? ⟨g, 4, none⟩ = some (.int .i64 no) := (Blk.cell hSw 4); have q5 : w.cell? ⟨g, 5, none⟩ = some (.slice pp pm pc) := (Blk.cell hSw 5); clear hSw; go_simp⟩) hS ?_
  simp only [Act.put, List.setIfInBounds_toArray, List.set_cons_zero, List.set_cons_succ]
  refine wpAnyH_takeD 5 (some 21) (.slice vp vm vc) rfl rfl (by kernel_rfl) (by kernel_rfl) (by kernel_rfl) (fun _ _ _ h => h) (Or.inl ⟨by rfl, fun w hSw => by have q1 : w.cell? ⟨g, 1, none⟩ = some (.int .i64 qu) := (Blk.cell hSw 1); have q2 : w.cell? ⟨g, 2, none⟩ = some (.int .i64 ch) := (Blk.cell hSw 2); have q3 : w.cell? ⟨g, 3, none⟩ = some (.slice vp vm vc) := (Blk.cell hSw 3); have q4 : w.cell? ⟨g, 4, none⟩ = some (.int .i64 no) := (Blk.cell hSw 4); have q5 : w.cell? ⟨g, 5, none⟩ = some (.slice pp pm pc) := (Blk.cell hSw 5); clear hSw; go_simp⟩) hS ?_
  simp only [Act.put, List.setIfInBounds_toArray, List.set_cons_zero, List.set_cons_succ]
  refine wpAnyH_ready (rs := [3]) (by kernel_rfl) (by simp) ?_
  refine AllReadyH.cons rfl (fun K hK => ?_) AllReadyH.nil
  simp only [List.getElem_toArray, List.getElem_cons_succ, List.getElem_cons_zero]
  go_simp
  refine (unhide HNV _).mono ?_
  rintro e xA ⟨rfl, hbA⟩
  have HPxA := hide (show Below x2.heap.size x2 xA from ((Below.refl x2.heap.size x2).drew).trans (hbA.mono ((Below.refl x2.heap.size x2).drew).size))
  have HSxA := hide (unhide HSW xA (unhide HPxA))
  clear hbA
  refine hK.out _ _ (unhide HSxA) (fun hS => ?_)
  clear hK K
  refine wpAnyH_ready (rs := [6]) (by kernel_rfl) (by simp) ?_
  refine AllReadyH.cons rfl (fun K hK => ?_) AllReadyH.nil
  simp only [List.getElem_toArray, List.getElem_cons_succ, List.getElem_cons_zero]
  go_simp
  refine (unhide HLV _ (unhide HPxA)).mono ?_
  rintro e xB ⟨rfl, hbA⟩
  have HPxB := hide (show Below x2.heap.size x2 xB from ((unhide HPxA)).trans (hbA.mono (unhide HPxA).size))
  have HSxB := hide (unhide HSW xB (unhide HPxB))
  clear hbA
  refine hK.out _ _ (unhide HSxB) (fun hS => ?_)
  clear hK K
  refine wpAnyH_takeD 7 (some 23) (.string SV) rfl rfl (by kernel_rfl) (by kernel_rfl) (by kernel_rfl) (fun _ _ _ h => h) (Or.inl ⟨by rfl, fun w hSw => by have q1 : w.cell? ⟨g, 1, none⟩ = some (.int .i64 qu) := (Blk.cell hSw 1); have q2 : w.cell? ⟨g, 2, none⟩ = some (.int .i64 ch) := (Blk.cell hSw 2); have q3 : w.cell? ⟨g, 3, none⟩ = some (.slice vp vm vc) := (Blk.cell hSw 3); have q4 : w.cell? ⟨g, 4, none⟩ = some (.int .i64 no) := (Blk.cell hSw 4); have q5 : w.cell? ⟨g, 5, none⟩ = some (.slice pp pm pc) := (Blk.cell hSw 5); clear hSw; go_simp⟩) hS ?_
  simp only [Act.put, List.setIfInBounds_toArray, List.set_cons_zero, List.set_cons_succ]
  refine wpAnyH_takeD 8 (some 6) (.string SV) rfl rfl (by kernel_rfl) (by kernel_rfl) (by kernel_rfl) (fun _ _ _ h => h) (Or.inl ⟨by rfl, fun w hSw => by have q1 : w.cell? ⟨g, 1, none⟩ = some (.int .i64 qu) := (Blk.cell hSw 1); have q2 : w.cell? ⟨g, 2, none⟩ = some (.int .i64 ch) := (Blk.cell hSw 2); have q3 : w.cell? ⟨g, 3, none⟩ = some (.slice vp vm vc) := (Blk.cell hSw 3); have q4 : w.cell? ⟨g, 4, none⟩ = some (.int .i64 no) := (Blk.cell hSw 4); have q5 : w.cell? ⟨g, 5, none⟩ = some (.slice pp pm pc) := (Blk.cell hSw 5); clear hSw; go_simp⟩) hS ?_
  simp only [Act.put, List.setIfInBounds_toArray, List.set_cons_zero, List.set_cons_succ]
  refine wpAnyH_done (by kernel_rfl) ?_ _
  have d6 : xB.cell? ⟨g, 6, none⟩ = some (.string wr) := (unhide HSxB).cell 6
  have d7 : xB.cell? ⟨g, 7, none⟩ = some (.string da) := (unhide HSxB).cell 7
  go_wp2
  go_ret
  exact ⟨rfl, (unhide HB2).1.trans ((unhide HPxB).mono (unhide HB2).2)⟩
set_option maxHeartbeats 8000000 in
theorem laid_o (kd : Int) (k3 : (kd == 3) = false) (k6 : (kd == 6) = false) (k7 : (kd == 7) = false) (k8 : (kd == 8) = false) (k11 : (kd == 11) = false) (st : Int) (qu ch no : Int) (vp : Option Addr) (vm vc : Nat) (pp : Option Addr) (pm pc : Nat) (wr da : ByteArray) (V : List Int) (hvm : V.length = vm) (h8 : vm ≤ 8) (hfV : ∀ k, k < vm → 0 ≤ V.getD k 0 ∧ V.getD k 0 ≤ 255) (hfull : fullP kd st = true) (w : World) (hLV : Lst w w.heap.size vp V) : Calls Tryz.prog 48 #[.int .i64 kd, .agg #[.int .i64 st, .int .i64 qu, .int .i64 ch, .slice vp vm vc, .int .i64 no, .slice pp pm pc, .string wr, .string da]] w fun e w' => e = .returned (.string (⟨#[]⟩)) ∧ Below w.heap.size w w' := by
  obtain ⟨g, hg⟩ : ∃ g, w.heap.size = g := ⟨_, rfl⟩
  obtain ⟨x2, hx2⟩ : ∃ Z, w.alloc (.cells #[.int .i64 st, .int .i64 qu, .int .i64 ch, .slice vp vm vc, .int .i64 no, .slice pp pm pc, .string wr, .string da] 34) = Z := ⟨_, rfl⟩
  have B : Blk x2 g #[.int .i64 st, .int .i64 qu, .int .i64 ch, .slice vp vm vc, .int .i64 no, .slice pp pm pc, .string wr, .string da] 34 := by rw [← hx2, ← hg]; exact Blk.new w _ _
  have hb : Below g w x2 := by rw [← hx2, ← hg]; exact (Below.refl _ w).alloc (Nat.le_refl _) _
  have HS0 := hide B
  have HSW := hide (show ∀ W, Below x2.heap.size x2 W → Blk W g #[.int .i64 st, .int .i64 qu, .int .i64 ch, .slice vp vm vc, .int .i64 no, .slice pp pm pc, .string wr, .string da] 34 from fun W hW => B.below hW B.lt)
  have HB2 := hide (And.intro hb (Nat.le_of_lt B.lt))
  have d0 : x2.cell? ⟨g, 0, none⟩ = some (.int .i64 st) := by rw [B.cell]; rfl
  have HW := hide (rwhole_any kd st)
  rw [hfull] at HW
  have HNV := hide (fun W => rnum_of vm 1 (by omega) (by decide) W)
  have HLV := hide (fun W (q : Below x2.heap.size x2 W) => numbers_any W vp vc vm V hvm (((hg ▸ hLV).below (hb.trans (q.mono (Nat.le_of_lt B.lt)))).mono (by have h1 := B.lt; have h2 := q.size; omega)) h8 hfV)
  have zV1 : (strOfNums (numB (vm : Int) 1)).size = 1 := by rw [strOfNums_size, numB_len]
  have zV2 : (strOfNums (outN 1 V ++ List.replicate (8 - vm) 0)).size ≤ 16 := by rw [strOfNums_size, List.length_append, outN_len, List.length_replicate]; omega
  generalize strOfNums (numB (vm : Int) 1) = SA at *
  generalize strOfNums (outN 1 V ++ List.replicate (8 - vm) 0) = SB at *
  have y0 : ¬ 9223372036854775807 < SA.size + SB.size := by omega
  obtain ⟨SV, hSV⟩ : ∃ Z, SA ++ SB = Z := ⟨_, rfl⟩
  have zSV : SV.size = SA.size + SB.size := by rw [← hSV, ByteArray.size_append]
  clear B hb hLV hfV hvm h8 hfull zV1 zV2 zSV
  rw [hg]
  go_enter Tryz.func48, Tryz.ntmps48
  go_wp2_with (first | (go_at_call 74; refine (unhide HW _).mono ?_; rintro e y ⟨rfl, hy⟩; subst y))
  clear d0
  refine wp_region_held_drew (S := fun w' => Blk w' g #[.int .i64 st, .int .i64 qu, .int .i64 ch, .slice vp vm vc, .int .i64 no, .slice pp pm pc, .string wr, .string da] 34) (by kernel_rfl) (unhide HS0) ?_
  intro hS
  refine wpAnyH_takeD 0 (some 16) (.pointer (some ⟨g, 3, none⟩)) rfl rfl (by kernel_rfl) (by kernel_rfl) (by kernel_rfl) (fun _ _ _ h => h) (Or.inl ⟨by rfl, fun w hSw => by have q1 : w.cell? ⟨g, 1, none⟩ = some (.int .i64 qu) := (Blk.cell hSw 1); have q2 : w.cell? ⟨g, 2, none⟩ = some (.int .i64 ch) := (Blk.cell hSw 2); have q3 : w.cell? ⟨g, 3, none⟩ = some (.slice vp vm vc) := (Blk.cell hSw 3); have q4 : w.cell? ⟨g, 4, none⟩ = some (.int .i64 no) := (Blk.cell hSw 4); have q5 : w.cell? ⟨g, 5, none⟩ = some (.slice pp pm pc) := (Blk.cell hSw 5); clear hSw; go_simp⟩) hS ?_
  simp only [Act.put, List.setIfInBounds_toArray, List.set_cons_zero, List.set_cons_succ]
  refine wpAnyH_takeD 1 (some 17) (.slice vp vm vc) rfl rfl (by kernel_rfl) (by kernel_rfl) (by kernel_rfl) (fun _ _ _ h => h) (Or.inl ⟨by rfl, fun w hSw => by have q1 : w.cell? ⟨g, 1, none⟩ = some (.int .i64 qu) := (Blk.cell hSw 1); have q2 : w.cell? ⟨g, 2, none⟩ = some (.int .i64 ch) := (Blk.cell hSw 2); have q3 : w.cell? ⟨g, 3, none⟩ = some (.slice vp vm vc) := (Blk.cell hSw 3); have q4 : w.cell? ⟨g, 4, none⟩ = some (.int .i64 no) := (Blk.cell hSw 4); have q5 : w.cell? ⟨g, 5, none⟩ = some (.slice pp pm pc) := (Blk.cell hSw 5); clear hSw; go_simp⟩) hS ?_
  simp only [Act.put, List.setIfInBounds_toArray, List.set_cons_zero, List.set_cons_succ]
  refine wpAnyH_takeD 2 (some 18) (.int .i64 (vm : Int)) rfl rfl (by kernel_rfl) (by kernel_rfl) (by kernel_rfl) (fun _ _ _ h => h) (Or.inl ⟨by rfl, fun w hSw => by have q1 : w.cell? ⟨g, 1, none⟩ = some (.int .i64 qu) := (Blk.cell hSw 1); have q2 : w.cell? ⟨g, 2, none⟩ = some (.int .i64 ch) := (Blk.cell hSw 2); have q3 : w.cell? ⟨g, 3, none⟩ = some (.slice vp vm vc) := (Blk.cell hSw 3); have q4 : w.cell? ⟨g, 4, none⟩ = some (.int .i64 no) := (Blk.cell hSw 4); have q5 : w.cell? ⟨g, 5, none⟩ = some (.slice pp pm pc) := (Blk.cell hSw 5); clear hSw; go_simp⟩) hS ?_
  simp only [Act.put, List.setIfInBounds_toArray, List.set_cons_zero, List.set_cons_succ]
  refine wpAnyH_takeD 4 (some 20) (.pointer (some ⟨g, 3, none⟩)) rfl rfl (by kernel_rfl) (by kernel_rfl) (by kernel_rfl) (fun _ _ _ h => h) (Or.inl ⟨by rfl, fun w hSw => by have q1 : w.cell? ⟨g, 1, none⟩ = some (.int .i64 qu) := (Blk.cell hSw 1); have q2 : w.cell? ⟨g, 2, none⟩ = some (.int .i64 ch) := (Blk.cell hSw 2); have q3 : w.cell? ⟨g, 3, none⟩ = some (.slice vp vm vc) := (Blk.cell hSw 3); have q4 : w.cell? ⟨g, 4, none⟩ = some (.int .i64 no) := (Blk.cell hSw 4); have q5 : w.cell? ⟨g, 5, none⟩ = some (.slice pp pm pc) := (Blk.cell hSw 5); clear hSw; go_simp⟩) hS ?_
  simp only [Act.put, List.setIfInBounds_toArray, List.set_cons_zero, List.set_cons_succ]
  refine wpAnyH_takeD 5 (some 21) (.slice vp vm vc) rfl rfl (by kernel_rfl) (by kernel_rfl) (by kernel_rfl) (fun _ _ _ h => h) (Or.inl ⟨by rfl, fun w hSw => by have q1 : w.cell? ⟨g, 1, none⟩ = some (.int .i64 qu) := (Blk.cell hSw 1); have q2 : w.cell? ⟨g, 2, none⟩ = some (.int .i64 ch) := (Blk.cell hSw 2); have q3 : w.cell? ⟨g, 3, none⟩ = some (.slice vp vm vc) := (Blk.cell hSw 3); have q4 : w.cell? ⟨g, 4, none⟩ = some (.int .i64 no) := (Blk.cell hSw 4); have q5 : w.cell? ⟨g, 5, none⟩ = some (.slice pp pm pc) := (Blk.cell hSw 5); clear hSw; go_simp⟩) hS ?_
  simp only [Act.put, List.setIfInBounds_toArray, List.set_cons_zero, List.set_cons_succ]
  refine wpAnyH_ready (rs := [3]) (by kernel_rfl) (by simp) ?_
  refine AllReadyH.cons rfl (fun K hK => ?_) AllReadyH.nil
  simp only [List.getElem_toArray, List.getElem_cons_succ, List.getElem_cons_zero]
  go_simp
  refine (unhide HNV _).mono ?_
  rintro e xA ⟨rfl, hbA⟩
  have HPxA := hide (show Below x2.heap.size x2 xA from ((Below.refl x2.heap.size x2).drew).trans (hbA.mono ((Below.refl x2.heap.size x2).drew).size))
  have HSxA := hide (unhide HSW xA (unhide HPxA))
  clear hbA
  refine hK.out _ _ (unhide HSxA) (fun hS => ?_)
  clear hK K
  refine wpAnyH_ready (rs := [6]) (by kernel_rfl) (by simp) ?_
  refine AllReadyH.cons rfl (fun K hK => ?_) AllReadyH.nil
  simp only [List.getElem_toArray, List.getElem_cons_succ, List.getElem_cons_zero]
  go_simp
  refine (unhide HLV _ (unhide HPxA)).mono ?_
  rintro e xB ⟨rfl, hbA⟩
  have HPxB := hide (show Below x2.heap.size x2 xB from ((unhide HPxA)).trans (hbA.mono (unhide HPxA).size))
  have HSxB := hide (unhide HSW xB (unhide HPxB))
  clear hbA
  refine hK.out _ _ (unhide HSxB) (fun hS => ?_)
  clear hK K
  refine wpAnyH_takeD 7 (some 23) (.string SV) rfl rfl (by kernel_rfl) (by kernel_rfl) (by kernel_rfl) (fun _ _ _ h => h) (Or.inl ⟨by rfl, fun w hSw => by have q1 : w.cell? ⟨g, 1, none⟩ = some (.int .i64 qu) := (Blk.cell hSw 1); have q2 : w.cell? ⟨g, 2, none⟩ = some (.int .i64 ch) := (Blk.cell hSw 2); have q3 : w.cell? ⟨g, 3, none⟩ = some (.slice vp vm vc) := (Blk.cell hSw 3); have q4 : w.cell? ⟨g, 4, none⟩ = some (.int .i64 no) := (Blk.cell hSw 4); have q5 : w.cell? ⟨g, 5, none⟩ = some (.slice pp pm pc) := (Blk.cell hSw 5); clear hSw; go_simp⟩) hS ?_
  simp only [Act.put, List.setIfInBounds_toArray, List.set_cons_zero, List.set_cons_succ]
  refine wpAnyH_takeD 8 (some 6) (.string SV) rfl rfl (by kernel_rfl) (by kernel_rfl) (by kernel_rfl) (fun _ _ _ h => h) (Or.inl ⟨by rfl, fun w hSw => by have q1 : w.cell? ⟨g, 1, none⟩ = some (.int .i64 qu) := (Blk.cell hSw 1); have q2 : w.cell? ⟨g, 2, none⟩ = some (.int .i64 ch) := (Blk.cell hSw 2); have q3 : w.cell? ⟨g, 3, none⟩ = some (.slice vp vm vc) := (Blk.cell hSw 3); have q4 : w.cell? ⟨g, 4, none⟩ = some (.int .i64 no) := (Blk.cell hSw 4); have q5 : w.cell? ⟨g, 5, none⟩ = some (.slice pp pm pc) := (Blk.cell hSw 5); clear hSw; go_simp⟩) hS ?_
  simp only [Act.put, List.setIfInBounds_toArray, List.set_cons_zero, List.set_cons_succ]
  refine wpAnyH_done (by kernel_rfl) ?_ _
  go_wp2
  go_ret
  exact ⟨rfl, (unhide HB2).1.trans ((unhide HPxB).mono (unhide HB2).2)⟩
end Go.Proofs.YtclgkgaobjcifaaGreatDoor
