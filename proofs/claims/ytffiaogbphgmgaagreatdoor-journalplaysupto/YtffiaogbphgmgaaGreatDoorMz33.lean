import Derived.Test.YtffiaogbphgmgaaGreatDoorMz26
import Derived.Test.YtffiaogbphgmgaaGreatDoorMz32
import Derived.BigQuiet
import Derived.Test.YtffiaogbphgmgaaGreatDoorMz25
import Derived.Test.YtffiaogbphgmgaaGreatDoorMz27
import Derived.Test.YtffiaogbphgmgaaGreatDoorMz31
import Derived.Test.YtffiaogbphgmgaaGreatDoorMz20
import Derived.Test.YtffiaogbphgmgaaGreatDoorMz24
namespace Go.Proofs.YtffiaogbphgmgaaGreatDoor
open Go.RowKit
set_option maxRecDepth 100000
/-- what alike asks of the world -/
structure AlC (w : World) (xb b br : Nat) (pa pp pz : Option Addr) (al ca pl cp n cl : Nat) (dd : Bool) : Prop where
  c0 : w.cell? ⟨xb, 0, none⟩ = some (.pointer (some ⟨b, 0, none⟩))
  c1 : w.cell? ⟨xb, 1, none⟩ = some (.pointer (some ⟨br, 0, none⟩))
  c4 : w.cell? ⟨br, 4, none⟩ = some (.slice pa al ca)
  c3 : w.cell? ⟨br, 3, none⟩ = some (.bool dd)
  c2 : w.cell? ⟨br, 1, none⟩ = some (.slice pp pl cp)
  cz : w.cell? ⟨br, 0, none⟩ = some (.slice pz n cl)
theorem AlC.below {w w' : World} {xb b br : Nat} {pa pp pz : Option Addr} {al ca pl cp n cl : Nat} {dd : Bool} (h : AlC w xb b br pa pp pz al ca pl cp n cl dd) (hb : Below w.heap.size w w') : AlC w' xb b br pa pp pz al ca pl cp n cl dd := by
  have k1 : xb < w.heap.size := World.block_lt_of_cell? w _ h.c0
  have k2 : br < w.heap.size := World.block_lt_of_cell? w _ h.c4
  exact ⟨(hb.cell (p := ⟨xb, 0, none⟩) k1).trans h.c0, (hb.cell (p := ⟨xb, 1, none⟩) k1).trans h.c1, (hb.cell (p := ⟨br, 4, none⟩) k2).trans h.c4, (hb.cell (p := ⟨br, 3, none⟩) k2).trans h.c3, (hb.cell (p := ⟨br, 1, none⟩) k2).trans h.c2, (hb.cell (p := ⟨br, 0, none⟩) k2).trans h.cz⟩
theorem Acts.blk {w : World} {g : Nat} {A : List (Nat × Nat)} {T : TypeId} (h : Blk w g (tels A).toArray T) : Acts w (some ⟨g, 0, none⟩) (A.map telN) := fun j hj => by
  rw [List.length_map] at hj
  obtain ⟨q1, q2⟩ := tels_nat A j hj
  refine ⟨g, 0, rfl, h.lt, ?_, ?_⟩
  · rw [Nat.zero_add, h.cell]; simpa using q1
  · rw [Nat.zero_add, h.cell]; simpa using q2
set_option maxHeartbeats 4000000 in
theorem alike_any {w : World} {base xb b br : Nat} {v : DV} {vr : RV} {s : DSt} {j1 j2 j3 j4 : Value} (hD : Dk w base b v s) (hR : Rk w base br vr s) (hX : Blk w xb #[.pointer (some ⟨b, 0, none⟩), .pointer (some ⟨br, 0, none⟩), j1, j2, j3, j4] 36) (ha : s.acts.length ≤ 40000000) (hA : ∀ p ∈ s.acts, p.2 < 1024) (hl : 0 < s.last.length) (hl2 : s.last.length ≤ 1024) :
    Calls Tryz.prog 9 #[.pointer (some ⟨xb, 0, none⟩)] w fun e w' => e = .returned (.bool true) ∧ Below w.heap.size w w' := by
  obtain ⟨pa, ca, ea, hAc⟩ := Acts.own hR.ra
  obtain ⟨pp, cp, ep, -⟩ := row_form hR.rp
  obtain ⟨pz, cl, el, hZ⟩ := Strs.own hR.rl
  have HC := hide (show AlC w xb b br pa pp pz s.acts.length ca s.pend.length cp s.last.length cl s.dead from ⟨hX.cell 0, hX.cell 1, by rw [hR.blk.cell 4, ← ea]; rfl, by rw [hR.blk.cell 3]; rfl, by rw [hR.blk.cell 1, ← ep]; rfl, by rw [hR.blk.cell 0, ← el]; rfl⟩)
  have HT := hide (trace_any w base b v s hD (by omega) hA)
  have HDK := hide hD
  have HDD := hide (fun (W : World) (hb : Below w.heap.size w W) => dead_any W base b v s ((unhide HDK).below hb))
  have HPP := hide (fun (W : World) (hb : Below w.heap.size w W) => pending_any W base b v s ((unhide HDK).below hb))
  have HIM := hide (fun (W : World) (hb : Below w.heap.size w W) => image_any W base b v s ((unhide HDK).below hb) hl hl2)
  have hAt : (s.acts.map telN).length = s.acts.length := List.length_map ..
  obtain ⟨A, eA⟩ : ∃ z, s.acts.map telN = z := ⟨_, rfl⟩
  obtain ⟨TA, eT⟩ : ∃ z, tels s.acts = z := ⟨_, rfl⟩
  obtain ⟨L, eL⟩ : ∃ z, s.last = z := ⟨_, rfl⟩
  have HTA := hide (fun (W : World) (g : Nat) (hb : Blk W g (tels s.acts).toArray 87) => Acts.blk hb)
  rw [eA] at hAc hAt HTA
  rw [eT] at HTA HT
  rw [eL] at hZ HIM hl2 HC
  obtain ⟨al, eal⟩ : ∃ z, s.acts.length = z := ⟨_, rfl⟩
  obtain ⟨pl, epl⟩ : ∃ z, s.pend.length = z := ⟨_, rfl⟩
  obtain ⟨dd, edd⟩ : ∃ z, s.dead = z := ⟨_, rfl⟩
  obtain ⟨n, en⟩ : ∃ z, L.length = z := ⟨_, rfl⟩
  rw [eal] at hAt HT HC ha
  rw [epl] at HC HPP
  rw [edd] at HC HDD
  rw [en] at HC HIM hl2
  have HAc := hide (And.intro hAc hAt)
  have HZ := hide (And.intro hZ en)
  obtain ⟨g0, hg0⟩ : ∃ z, w.heap.size = z := ⟨_, rfl⟩
  rw [hg0] at HT HDD HPP HIM ⊢
  have HG := hide hg0
  have HB0 := hide (show Below g0 w w from Below.refl _ _)
  have c0 := (unhide HC).c0
  clear hD hR hX hA hl ea hAc ep el hZ eA eT eL eal epl edd en hg0 hAt
  go_enter Tryz.func9, Tryz.ntmps9
  go_wp2_with fail
  refine (unhide HT).mono ?_
  rintro e x1 ⟨rfl, hBt, hb1⟩
  clear c0
  have hb1d : Below g0 w x1.drew := hb1.drew
  have HA1 := hide ((unhide HTA x1.drew g0 (by exact hBt.below (Below.refl _ _).drew hBt.lt)))
  have HA2 := hide ((unhide HAc).1.below (by rw [unhide HG]; exact hb1d))
  have HZ1 := hide ((unhide HZ).1.below (by rw [unhide HG]; exact hb1d))
  have HC1 := hide ((unhide HC).below (by rw [unhide HG]; exact hb1d))
  have HD := hide (unhide HDD x1.drew hb1d)
  have HPN := hide (unhide HPP x1.drew hb1d)
  have HB1 := hide hb1d
  obtain ⟨c0, c1, c4, c3, c2, cz⟩ := unhide HC1
  have nn : ((al : Int) != (al : Int)) = false := by simp
  have nd : (dd != dd) = false := by simp
  have np : ((pl : Int) != (pl : Int)) = false := by simp
  clear hBt hb1 hb1d HT HTA cz
  go_wp2_with fail
  refine wp_region_held_drew (S := fun W => W.cell? ⟨xb, 0, none⟩ = some (.pointer (some ⟨b, 0, none⟩)) ∧ W.cell? ⟨xb, 1, none⟩ = some (.pointer (some ⟨br, 0, none⟩)) ∧ W.cell? ⟨br, 4, none⟩ = some (.slice pa al ca) ∧ W.cell? ⟨br, 3, none⟩ = some (.bool dd) ∧ W.cell? ⟨br, 1, none⟩ = some (.slice pp pl cp)) (by kernel_rfl) ⟨c0, c1, c4, c3, c2⟩ ?_
  intro hS
  refine wpAnyH_takeD 0 (some 12) (.slice (some ⟨g0, 0, none⟩) al al) rfl rfl (by kernel_rfl) (by kernel_rfl) (by kernel_rfl) (fun _ _ _ h => h) (Or.inl ⟨by rfl, fun w hSw => by obtain ⟨q0, q1, q2, q3, q4⟩ := hSw; go_simp⟩) hS ?_
  simp only [Act.put, List.setIfInBounds_toArray, List.set_cons_zero, List.set_cons_succ]
  refine wpAnyH_takeD 1 (some 13) (.int .i64 (al : Int)) rfl rfl (by kernel_rfl) (by kernel_rfl) (by kernel_rfl) (fun _ _ _ h => h) (Or.inl ⟨by rfl, fun w hSw => by obtain ⟨q0, q1, q2, q3, q4⟩ := hSw; go_simp⟩) hS ?_
  simp only [Act.put, List.setIfInBounds_toArray, List.set_cons_zero, List.set_cons_succ]
  refine wpAnyH_takeD 2 (some 14) (.pointer (some ⟨xb, 0, none⟩)) rfl rfl (by kernel_rfl) (by kernel_rfl) (by kernel_rfl) (fun _ _ _ h => h) (Or.inl ⟨by rfl, fun w hSw => by obtain ⟨q0, q1, q2, q3, q4⟩ := hSw; go_simp⟩) hS ?_
  simp only [Act.put, List.setIfInBounds_toArray, List.set_cons_zero, List.set_cons_succ]
  refine wpAnyH_takeD 3 (some 15) (.pointer (some ⟨xb, 0, none⟩)) rfl rfl (by kernel_rfl) (by kernel_rfl) (by kernel_rfl) (fun _ _ _ h => h) (Or.inl ⟨by rfl, fun w hSw => by obtain ⟨q0, q1, q2, q3, q4⟩ := hSw; go_simp⟩) hS ?_
  simp only [Act.put, List.setIfInBounds_toArray, List.set_cons_zero, List.set_cons_succ]
  refine wpAnyH_takeD 4 (some 16) (.pointer (some ⟨xb, 1, none⟩)) rfl rfl (by kernel_rfl) (by kernel_rfl) (by kernel_rfl) (fun _ _ _ h => h) (Or.inl ⟨by rfl, fun w hSw => by obtain ⟨q0, q1, q2, q3, q4⟩ := hSw; go_simp⟩) hS ?_
  simp only [Act.put, List.setIfInBounds_toArray, List.set_cons_zero, List.set_cons_succ]
  refine wpAnyH_takeD 5 (some 17) (.pointer (some ⟨br, 0, none⟩)) rfl rfl (by kernel_rfl) (by kernel_rfl) (by kernel_rfl) (fun _ _ _ h => h) (Or.inl ⟨by rfl, fun w hSw => by obtain ⟨q0, q1, q2, q3, q4⟩ := hSw; go_simp⟩) hS ?_
  simp only [Act.put, List.setIfInBounds_toArray, List.set_cons_zero, List.set_cons_succ]
  refine wpAnyH_takeD 6 (some 18) (.pointer (some ⟨br, 0, none⟩)) rfl rfl (by kernel_rfl) (by kernel_rfl) (by kernel_rfl) (fun _ _ _ h => h) (Or.inl ⟨by rfl, fun w hSw => by obtain ⟨q0, q1, q2, q3, q4⟩ := hSw; go_simp⟩) hS ?_
  simp only [Act.put, List.setIfInBounds_toArray, List.set_cons_zero, List.set_cons_succ]
  refine wpAnyH_takeD 7 (some 19) (.pointer (some ⟨br, 4, none⟩)) rfl rfl (by kernel_rfl) (by kernel_rfl) (by kernel_rfl) (fun _ _ _ h => h) (Or.inl ⟨by rfl, fun w hSw => by obtain ⟨q0, q1, q2, q3, q4⟩ := hSw; go_simp⟩) hS ?_
  simp only [Act.put, List.setIfInBounds_toArray, List.set_cons_zero, List.set_cons_succ]
  refine wpAnyH_takeD 8 (some 20) (.slice pa al ca) rfl rfl (by kernel_rfl) (by kernel_rfl) (by kernel_rfl) (fun _ _ _ h => h) (Or.inl ⟨by rfl, fun w hSw => by obtain ⟨q0, q1, q2, q3, q4⟩ := hSw; go_simp⟩) hS ?_
  simp only [Act.put, List.setIfInBounds_toArray, List.set_cons_zero, List.set_cons_succ]
  refine wpAnyH_takeD 9 (some 21) (.int .i64 (al : Int)) rfl rfl (by kernel_rfl) (by kernel_rfl) (by kernel_rfl) (fun _ _ _ h => h) (Or.inl ⟨by rfl, fun w hSw => by obtain ⟨q0, q1, q2, q3, q4⟩ := hSw; go_simp⟩) hS ?_
  simp only [Act.put, List.setIfInBounds_toArray, List.set_cons_zero, List.set_cons_succ]
  refine wpAnyH_takeD 10 (some 22) (.bool false) rfl rfl (by kernel_rfl) (by kernel_rfl) (by kernel_rfl) (fun _ _ _ h => h) (Or.inl ⟨by rfl, fun w hSw => by obtain ⟨q0, q1, q2, q3, q4⟩ := hSw; go_simp⟩) hS ?_
  simp only [Act.put, List.setIfInBounds_toArray, List.set_cons_zero, List.set_cons_succ]
  refine wpAnyH_takeD 11 (some 23) (.bool false) rfl rfl (by kernel_rfl) (by kernel_rfl) (by kernel_rfl) (fun _ _ _ h => h) (Or.inl ⟨by rfl, fun w hSw => by obtain ⟨q0, q1, q2, q3, q4⟩ := hSw; go_simp⟩) hS ?_
  simp only [Act.put, List.setIfInBounds_toArray, List.set_cons_zero, List.set_cons_succ]
  refine wpAnyH_takeD 12 (some 24) (.pointer (some ⟨xb, 0, none⟩)) rfl rfl (by kernel_rfl) (by kernel_rfl) (by kernel_rfl) (fun _ _ _ h => h) (Or.inl ⟨by rfl, fun w hSw => by obtain ⟨q0, q1, q2, q3, q4⟩ := hSw; go_simp⟩) hS ?_
  simp only [Act.put, List.setIfInBounds_toArray, List.set_cons_zero, List.set_cons_succ]
  refine wpAnyH_takeD 13 (some 25) (.pointer (some ⟨xb, 0, none⟩)) rfl rfl (by kernel_rfl) (by kernel_rfl) (by kernel_rfl) (fun _ _ _ h => h) (Or.inl ⟨by rfl, fun w hSw => by obtain ⟨q0, q1, q2, q3, q4⟩ := hSw; go_simp⟩) hS ?_
  simp only [Act.put, List.setIfInBounds_toArray, List.set_cons_zero, List.set_cons_succ]
  refine wpAnyH_takeD 14 (some 26) (.pointer (some ⟨xb, 0, none⟩)) rfl rfl (by kernel_rfl) (by kernel_rfl) (by kernel_rfl) (fun _ _ _ h => h) (Or.inl ⟨by rfl, fun w hSw => by obtain ⟨q0, q1, q2, q3, q4⟩ := hSw; go_simp⟩) hS ?_
  simp only [Act.put, List.setIfInBounds_toArray, List.set_cons_zero, List.set_cons_succ]
  refine wpAnyH_takeD 15 (some 27) (.pointer (some ⟨b, 0, none⟩)) rfl rfl (by kernel_rfl) (by kernel_rfl) (by kernel_rfl) (fun _ _ _ h => h) (Or.inl ⟨by rfl, fun w hSw => by obtain ⟨q0, q1, q2, q3, q4⟩ := hSw; go_simp⟩) hS ?_
  simp only [Act.put, List.setIfInBounds_toArray, List.set_cons_zero, List.set_cons_succ]
  refine wpAnyH_takeD 17 (some 29) (.pointer (some ⟨xb, 0, none⟩)) rfl rfl (by kernel_rfl) (by kernel_rfl) (by kernel_rfl) (fun _ _ _ h => h) (Or.inl ⟨by rfl, fun w hSw => by obtain ⟨q0, q1, q2, q3, q4⟩ := hSw; go_simp⟩) hS ?_
  simp only [Act.put, List.setIfInBounds_toArray, List.set_cons_zero, List.set_cons_succ]
  refine wpAnyH_takeD 18 (some 30) (.pointer (some ⟨xb, 0, none⟩)) rfl rfl (by kernel_rfl) (by kernel_rfl) (by kernel_rfl) (fun _ _ _ h => h) (Or.inl ⟨by rfl, fun w hSw => by obtain ⟨q0, q1, q2, q3, q4⟩ := hSw; go_simp⟩) hS ?_
  simp only [Act.put, List.setIfInBounds_toArray, List.set_cons_zero, List.set_cons_succ]
  refine wpAnyH_takeD 19 (some 31) (.pointer (some ⟨xb, 1, none⟩)) rfl rfl (by kernel_rfl) (by kernel_rfl) (by kernel_rfl) (fun _ _ _ h => h) (Or.inl ⟨by rfl, fun w hSw => by obtain ⟨q0, q1, q2, q3, q4⟩ := hSw; go_simp⟩) hS ?_
  simp only [Act.put, List.setIfInBounds_toArray, List.set_cons_zero, List.set_cons_succ]
  refine wpAnyH_takeD 20 (some 32) (.pointer (some ⟨br, 0, none⟩)) rfl rfl (by kernel_rfl) (by kernel_rfl) (by kernel_rfl) (fun _ _ _ h => h) (Or.inl ⟨by rfl, fun w hSw => by obtain ⟨q0, q1, q2, q3, q4⟩ := hSw; go_simp⟩) hS ?_
  simp only [Act.put, List.setIfInBounds_toArray, List.set_cons_zero, List.set_cons_succ]
  refine wpAnyH_takeD 21 (some 33) (.pointer (some ⟨br, 0, none⟩)) rfl rfl (by kernel_rfl) (by kernel_rfl) (by kernel_rfl) (fun _ _ _ h => h) (Or.inl ⟨by rfl, fun w hSw => by obtain ⟨q0, q1, q2, q3, q4⟩ := hSw; go_simp⟩) hS ?_
  simp only [Act.put, List.setIfInBounds_toArray, List.set_cons_zero, List.set_cons_succ]
  refine wpAnyH_takeD 22 (some 34) (.pointer (some ⟨br, 3, none⟩)) rfl rfl (by kernel_rfl) (by kernel_rfl) (by kernel_rfl) (fun _ _ _ h => h) (Or.inl ⟨by rfl, fun w hSw => by obtain ⟨q0, q1, q2, q3, q4⟩ := hSw; go_simp⟩) hS ?_
  simp only [Act.put, List.setIfInBounds_toArray, List.set_cons_zero, List.set_cons_succ]
  refine wpAnyH_takeD 23 (some 35) (.bool dd) rfl rfl (by kernel_rfl) (by kernel_rfl) (by kernel_rfl) (fun _ _ _ h => h) (Or.inl ⟨by rfl, fun w hSw => by obtain ⟨q0, q1, q2, q3, q4⟩ := hSw; go_simp⟩) hS ?_
  simp only [Act.put, List.setIfInBounds_toArray, List.set_cons_zero, List.set_cons_succ]
  refine wpAnyH_ready (rs := [16]) (by kernel_rfl) (by simp) ?_
  refine AllReadyH.cons rfl (fun K hK => ?_) AllReadyH.nil
  simp only [List.getElem_toArray, List.getElem_cons_succ, List.getElem_cons_zero]
  go_simp
  refine (unhide HD).mono ?_
  rintro e y1 ⟨rfl, hy⟩
  subst y1
  refine hK.out _ _ ⟨c0, c1, c4, c3, c2⟩ (fun hS => ?_)
  clear hK K
  refine wpAnyH_takeD 24 (some 36) (.bool false) rfl rfl (by kernel_rfl) (by kernel_rfl) (by kernel_rfl) (fun _ _ _ h => h) (Or.inl ⟨by rfl, fun w hSw => by obtain ⟨q0, q1, q2, q3, q4⟩ := hSw; go_simp⟩) hS ?_
  simp only [Act.put, List.setIfInBounds_toArray, List.set_cons_zero, List.set_cons_succ]
  refine wpAnyH_takeD 25 (some 37) (.bool false) rfl rfl (by kernel_rfl) (by kernel_rfl) (by kernel_rfl) (fun _ _ _ h => h) (Or.inl ⟨by rfl, fun w hSw => by obtain ⟨q0, q1, q2, q3, q4⟩ := hSw; go_simp⟩) hS ?_
  simp only [Act.put, List.setIfInBounds_toArray, List.set_cons_zero, List.set_cons_succ]
  refine wpAnyH_takeD 26 (some 38) (.bool false) rfl rfl (by kernel_rfl) (by kernel_rfl) (by kernel_rfl) (fun _ _ _ h => h) (Or.inl ⟨by rfl, fun w hSw => by obtain ⟨q0, q1, q2, q3, q4⟩ := hSw; go_simp⟩) hS ?_
  simp only [Act.put, List.setIfInBounds_toArray, List.set_cons_zero, List.set_cons_succ]
  refine wpAnyH_takeD 27 (some 39) (.pointer (some ⟨xb, 0, none⟩)) rfl rfl (by kernel_rfl) (by kernel_rfl) (by kernel_rfl) (fun _ _ _ h => h) (Or.inl ⟨by rfl, fun w hSw => by obtain ⟨q0, q1, q2, q3, q4⟩ := hSw; go_simp⟩) hS ?_
  simp only [Act.put, List.setIfInBounds_toArray, List.set_cons_zero, List.set_cons_succ]
  refine wpAnyH_takeD 28 (some 40) (.pointer (some ⟨xb, 0, none⟩)) rfl rfl (by kernel_rfl) (by kernel_rfl) (by kernel_rfl) (fun _ _ _ h => h) (Or.inl ⟨by rfl, fun w hSw => by obtain ⟨q0, q1, q2, q3, q4⟩ := hSw; go_simp⟩) hS ?_
  simp only [Act.put, List.setIfInBounds_toArray, List.set_cons_zero, List.set_cons_succ]
  refine wpAnyH_takeD 29 (some 41) (.pointer (some ⟨xb, 0, none⟩)) rfl rfl (by kernel_rfl) (by kernel_rfl) (by kernel_rfl) (fun _ _ _ h => h) (Or.inl ⟨by rfl, fun w hSw => by obtain ⟨q0, q1, q2, q3, q4⟩ := hSw; go_simp⟩) hS ?_
  simp only [Act.put, List.setIfInBounds_toArray, List.set_cons_zero, List.set_cons_succ]
  refine wpAnyH_takeD 30 (some 42) (.pointer (some ⟨b, 0, none⟩)) rfl rfl (by kernel_rfl) (by kernel_rfl) (by kernel_rfl) (fun _ _ _ h => h) (Or.inl ⟨by rfl, fun w hSw => by obtain ⟨q0, q1, q2, q3, q4⟩ := hSw; go_simp⟩) hS ?_
  simp only [Act.put, List.setIfInBounds_toArray, List.set_cons_zero, List.set_cons_succ]
  refine wpAnyH_takeD 31 (some 43) (.pointer (some ⟨b, 0, none⟩)) rfl rfl (by kernel_rfl) (by kernel_rfl) (by kernel_rfl) (fun _ _ _ h => h) (Or.inl ⟨by rfl, fun w hSw => by obtain ⟨q0, q1, q2, q3, q4⟩ := hSw; go_simp⟩) hS ?_
  simp only [Act.put, List.setIfInBounds_toArray, List.set_cons_zero, List.set_cons_succ]
  refine wpAnyH_takeD 32 (some 44) (.pointer (some ⟨b, 0, none⟩)) rfl rfl (by kernel_rfl) (by kernel_rfl) (by kernel_rfl) (fun _ _ _ h => h) (Or.inl ⟨by rfl, fun w hSw => by obtain ⟨q0, q1, q2, q3, q4⟩ := hSw; go_simp⟩) hS ?_
  simp only [Act.put, List.setIfInBounds_toArray, List.set_cons_zero, List.set_cons_succ]
  refine wpAnyH_takeD 34 (some 46) (.pointer (some ⟨xb, 0, none⟩)) rfl rfl (by kernel_rfl) (by kernel_rfl) (by kernel_rfl) (fun _ _ _ h => h) (Or.inl ⟨by rfl, fun w hSw => by obtain ⟨q0, q1, q2, q3, q4⟩ := hSw; go_simp⟩) hS ?_
  simp only [Act.put, List.setIfInBounds_toArray, List.set_cons_zero, List.set_cons_succ]
  refine wpAnyH_takeD 35 (some 47) (.pointer (some ⟨xb, 0, none⟩)) rfl rfl (by kernel_rfl) (by kernel_rfl) (by kernel_rfl) (fun _ _ _ h => h) (Or.inl ⟨by rfl, fun w hSw => by obtain ⟨q0, q1, q2, q3, q4⟩ := hSw; go_simp⟩) hS ?_
  simp only [Act.put, List.setIfInBounds_toArray, List.set_cons_zero, List.set_cons_succ]
  refine wpAnyH_takeD 36 (some 48) (.pointer (some ⟨xb, 1, none⟩)) rfl rfl (by kernel_rfl) (by kernel_rfl) (by kernel_rfl) (fun _ _ _ h => h) (Or.inl ⟨by rfl, fun w hSw => by obtain ⟨q0, q1, q2, q3, q4⟩ := hSw; go_simp⟩) hS ?_
  simp only [Act.put, List.setIfInBounds_toArray, List.set_cons_zero, List.set_cons_succ]
  refine wpAnyH_takeD 37 (some 49) (.pointer (some ⟨br, 0, none⟩)) rfl rfl (by kernel_rfl) (by kernel_rfl) (by kernel_rfl) (fun _ _ _ h => h) (Or.inl ⟨by rfl, fun w hSw => by obtain ⟨q0, q1, q2, q3, q4⟩ := hSw; go_simp⟩) hS ?_
  simp only [Act.put, List.setIfInBounds_toArray, List.set_cons_zero, List.set_cons_succ]
  refine wpAnyH_takeD 38 (some 50) (.pointer (some ⟨br, 0, none⟩)) rfl rfl (by kernel_rfl) (by kernel_rfl) (by kernel_rfl) (fun _ _ _ h => h) (Or.inl ⟨by rfl, fun w hSw => by obtain ⟨q0, q1, q2, q3, q4⟩ := hSw; go_simp⟩) hS ?_
  simp only [Act.put, List.setIfInBounds_toArray, List.set_cons_zero, List.set_cons_succ]
  refine wpAnyH_takeD 39 (some 51) (.pointer (some ⟨br, 1, none⟩)) rfl rfl (by kernel_rfl) (by kernel_rfl) (by kernel_rfl) (fun _ _ _ h => h) (Or.inl ⟨by rfl, fun w hSw => by obtain ⟨q0, q1, q2, q3, q4⟩ := hSw; go_simp⟩) hS ?_
  simp only [Act.put, List.setIfInBounds_toArray, List.set_cons_zero, List.set_cons_succ]
  refine wpAnyH_takeD 40 (some 52) (.slice pp pl cp) rfl rfl (by kernel_rfl) (by kernel_rfl) (by kernel_rfl) (fun _ _ _ h => h) (Or.inl ⟨by rfl, fun w hSw => by obtain ⟨q0, q1, q2, q3, q4⟩ := hSw; go_simp⟩) hS ?_
  simp only [Act.put, List.setIfInBounds_toArray, List.set_cons_zero, List.set_cons_succ]
  refine wpAnyH_takeD 41 (some 53) (.int .i64 (pl : Int)) rfl rfl (by kernel_rfl) (by kernel_rfl) (by kernel_rfl) (fun _ _ _ h => h) (Or.inl ⟨by rfl, fun w hSw => by obtain ⟨q0, q1, q2, q3, q4⟩ := hSw; go_simp⟩) hS ?_
  simp only [Act.put, List.setIfInBounds_toArray, List.set_cons_zero, List.set_cons_succ]
  refine wpAnyH_ready (rs := [33]) (by kernel_rfl) (by simp) ?_
  refine AllReadyH.cons rfl (fun K hK => ?_) AllReadyH.nil
  simp only [List.getElem_toArray, List.getElem_cons_succ, List.getElem_cons_zero]
  go_simp
  refine (unhide HPN).mono ?_
  rintro e y1 ⟨rfl, hy⟩
  subst y1
  refine hK.out _ _ ⟨c0, c1, c4, c3, c2⟩ (fun hS => ?_)
  clear hK K
  refine wpAnyH_takeD 42 (some 54) (.bool false) rfl rfl (by kernel_rfl) (by kernel_rfl) (by kernel_rfl) (fun _ _ _ h => h) (Or.inl ⟨by rfl, fun w hSw => by obtain ⟨q0, q1, q2, q3, q4⟩ := hSw; go_simp⟩) hS ?_
  simp only [Act.put, List.setIfInBounds_toArray, List.set_cons_zero, List.set_cons_succ]
  refine wpAnyH_takeD 43 (some 55) (.bool false) rfl rfl (by kernel_rfl) (by kernel_rfl) (by kernel_rfl) (fun _ _ _ h => h) (Or.inl ⟨by rfl, fun w hSw => by obtain ⟨q0, q1, q2, q3, q4⟩ := hSw; go_simp⟩) hS ?_
  simp only [Act.put, List.setIfInBounds_toArray, List.set_cons_zero, List.set_cons_succ]
  refine wpAnyH_done (by kernel_rfl) ?_ _
  clear hS HD HPN c0 c2 c3
  obtain ⟨xd, hxd⟩ : ∃ z, x1.drew = z := ⟨_, rfl⟩
  rw [hxd] at HA1 HA2 HZ1 HC1 HB1 c1 c4 ⊢
  clear hxd c1 c4 HC nn nd np
  have HLN := hide (unhide HAc).2
  clear HAc
  go_wp2_with fail
  go_loopw [4] (fun i wr => ∃ k : Nat, k ≤ al ∧ i = .int .i64 (k : Int) ∧ Below xd.heap.size xd wr) (fun i _ => al - (intOf i).toNat)
  case atStart => exact ⟨0, by omega, rfl, Below.refl _ _⟩
  case round =>
    obtain ⟨k, hk, rfl, hb⟩ := hrel
    obtain ⟨wo, rfl⟩ : ∃ wo, wo = wr := ⟨_, rfl⟩
    have XB := hide hb
    obtain ⟨c0, c1, c4, c3, c2, cz⟩ := (unhide HC1).below hb
    clear hb
    by_cases hkl : k < al
    · as_aux_lemma =>
        obtain ⟨g1, o1, e1, hg1, hc1, he1⟩ := unhide HA1 k (by rw [unhide HLN]; exact hkl)
        obtain ⟨g2, o2, rfl, hg2, hc2, he2⟩ := unhide HA2 k (by rw [unhide HLN]; exact hkl)
        obtain ⟨rfl, rfl⟩ : g0 = g1 ∧ 0 = o1 := by injection e1 with e1; injection e1 with q1 q2; exact ⟨q1, q2⟩
        rw [Nat.zero_add] at hc1 he1
        have d1 : wo.cell? ⟨g0, k * 2, none⟩ = some (.int .i64 (A.getD k (0, 0)).1) := by rw [(unhide XB).cell (p := ⟨g0, k * 2, none⟩) hg1]; exact hc1
        have d2 : wo.cell? ⟨g2, o2 + k * 2, none⟩ = some (.int .i64 (A.getD k (0, 0)).1) := by rw [(unhide XB).cell (p := ⟨g2, o2 + k * 2, none⟩) hg2]; exact hc2
        have d3 : wo.cell? ⟨g0, k * 2 + 1, none⟩ = some (.int .i64 (A.getD k (0, 0)).2) := by rw [(unhide XB).cell (p := ⟨g0, k * 2 + 1, none⟩) hg1]; exact he1
        have d4 : wo.cell? ⟨g2, o2 + k * 2 + 1, none⟩ = some (.int .i64 (A.getD k (0, 0)).2) := by rw [(unhide XB).cell (p := ⟨g2, o2 + k * 2 + 1, none⟩) hg2]; exact he2
        generalize (A.getD k (0, 0)).1 = s1 at *
        generalize (A.getD k (0, 0)).2 = t1 at *
        clear hc1 hc2 he1 he2 c0 c3 c2 cz e1
        have i0 : 0 ≤ (k : Int) := by omega
        have i1 : (k : Int) < (al : Int) := by omega
        go_wp2_with fail
        go_quiet (fail)
        go_wp2
        go_roundw
        case rel => exact ⟨k + 1, by omega, by go_num, below_drewN (unhide XB) _⟩
        case measure => simp [intOf]; omega
    · as_aux_lemma =>
        have HI := hide (unhide HIM wo ((unhide HB1).trans ((unhide XB).mono (by rw [← unhide HG]; exact (unhide HB1).size))))
        clear c1 c4 c3 c2 cz
        go_wp2_with fail
        refine (unhide HI).mono ?_
        rintro e x2 ⟨vi, rfl, hrow, hb2⟩
        obtain ⟨pi, ci, rfl, hZi⟩ : ∃ p c, vi = .slice p n c ∧ Strs x2 p L := by
          have hr : x2.ownsRow wo.heap.size 9 1 vi L.length (strs L) := by rw [(unhide HZ).2]; exact hrow
          obtain ⟨p, c, q1, q2⟩ := Strs.own hr
          exact ⟨p, c, by rw [q1, (unhide HZ).2], q2⟩
        have hb12 : Below xd.heap.size xd x2 := (unhide XB).trans (hb2.mono (unhide XB).size)
        have HZi := hide hZi
        have HZ2 := hide ((unhide HZ1).below hb12)
        have HC2 := hide ((unhide HC1).below hb12)
        have HB2 := hide hb12
        have HLZ := hide (unhide HZ).2
        obtain ⟨c0, c1, c4, c3, c2, cz⟩ := unhide HC2
        have nz : ((n : Int) != (n : Int)) = false := by simp
        clear hrow hZi hb2 hb12 HI c0 c4 c3 c2 HA1 HA2 HZ1 HC1 HZ HIM XB
        go_wp2_with fail
        go_loopw [6] (fun i wr => ∃ k : Nat, k ≤ n ∧ i = .int .i64 (k : Int) ∧ Below x2.heap.size x2 wr) (fun i _ => n - (intOf i).toNat)
        case atStart => exact ⟨0, by omega, rfl, Below.refl _ _⟩
        case round =>
          obtain ⟨m, hm, rfl, hb⟩ := hrel
          have XB := hide hb
          obtain ⟨c0, c1, c4, c3, c2, cz⟩ := (unhide HC2).below hb
          clear hb
          by_cases hmn : m < n
          · obtain ⟨g1, o1, rfl, hg1, hc1⟩ := unhide HZi m (by rw [unhide HLZ]; exact hmn)
            obtain ⟨g2, o2, rfl, hg2, hc2⟩ := unhide HZ2 m (by rw [unhide HLZ]; exact hmn)
            have d1 := ((unhide XB).cell (p := ⟨g1, o1 + m, none⟩) hg1).trans hc1
            have d2 := ((unhide XB).cell (p := ⟨g2, o2 + m, none⟩) hg2).trans hc2
            generalize L.getD m ByteArray.empty = t1 at *
            clear hc1 hc2 c0 c4 c3 c2
            have i0 : 0 ≤ (m : Int) := by omega
            have i1 : (m : Int) < (n : Int) := by omega
            go_wp2_with fail
            go_quiet (fail)
            go_wp2
            go_roundw
            case rel => exact ⟨m + 1, by omega, by go_num, below_drewN (unhide XB) _⟩
            case measure => simp [intOf]; omega
          · have HE := hide (show Below g0 w wr from (unhide HB1).trans (((unhide HB2).trans ((unhide XB).mono (unhide HB2).size)).mono (by rw [← unhide HG]; exact (unhide HB1).size)))
            clear c0 c1 c4 c3 c2 cz
            go_wp2
            go_ret
            exact ⟨rfl, unhide HE⟩
end Go.Proofs.YtffiaogbphgmgaaGreatDoor

namespace Go.Proofs.YtffiaogbphgmgaaGreatDoor
open Go.RowKit
theorem Dk.lower {w : World} {base base0 b : Nat} {v : DV} {s : DSt} (g1 : Dk w base b v s) (h : base0 ≤ base) : Dk w base0 b v s :=
  ⟨g1.blk, owns_base g1.rl h, owns_base g1.rn h, owns_base g1.rp h, owns_base g1.ra h, g1.ne, Nat.le_trans h g1.lo⟩
end Go.Proofs.YtffiaogbphgmgaaGreatDoor

namespace Go.Proofs.YtffiaogbphgmgaaGreatDoor
open Go.RowKit
set_option maxRecDepth 100000
theorem flushS_len (s : DSt) : (flushS s).last.length = s.last.length := by
  unfold flushS
  split
  · rw [diesS_last]
  · exact layP_len _ _
theorem flushS_pend (s : DSt) : (flushS s).pend.length ≤ s.pend.length := by
  unfold flushS
  split
  · rw [diesS_pend]; exact Nat.le_refl _
  · exact Nat.zero_le _
theorem flushS_acts (s : DSt) : (flushS s).acts.length ≤ s.acts.length + 1 := by
  unfold flushS
  split
  · rw [diesS_acts]; omega
  · rw [List.length_append]; exact Nat.le_refl _
theorem redoR_sane {s : DSt} (h : Sane s) (n : Nat) (H : List Int) : Sane (redoR s n H).2 := by
  unfold redoR
  split
  · exact layR_sane _ _ (layR_sane _ _ h)
  · exact layR_sane _ _ h
theorem redoR_acts (s : DSt) (n : Nat) (H : List Int) : (redoR s n H).2.acts.length ≤ s.acts.length + H.length + 3 := by
  have h1 := layR_acts (redoL s H) s
  rw [redoL_len] at h1
  unfold redoR
  split
  · have h2 := layR_acts [(1, headB n [])] (layR s (redoL s H)).2
    simp only [List.length_cons, List.length_nil] at h2
    omega
  · omega
theorem OR.sane {s s' : DSt} {n : Nat} {H : List Int} {ok : Bool} {er : Int} {ag has : Bool} (h : OR s n H ok s' er ag has) (hS : Sane s) : Sane s' := by
  rcases h with ⟨_, _, _, _, q⟩ | ⟨_, _, _, _, _, q⟩ | ⟨_, _, _, _, _, _, q⟩ | ⟨_, _, _, _, _, _, _, q⟩ | ⟨_, _, _, _, _, _, _, q⟩
  · rw [q]; exact hS
  · rw [q]; exact hS
  · rw [q]; exact hS
  · rw [q]; exact redoR_sane hS n H
  · rw [q]; exact redoR_sane hS n H
theorem OR.acts {s s' : DSt} {n : Nat} {H : List Int} {ok : Bool} {er : Int} {ag has : Bool} (h : OR s n H ok s' er ag has) (hH : ok = true → H.length ≤ 16) : s'.acts.length ≤ s.acts.length + 20 := by
  have h3 := redoR_acts s n H
  rcases h with ⟨_, _, _, _, q⟩ | ⟨_, _, _, _, _, q⟩ | ⟨_, _, _, _, _, _, q⟩ | ⟨_, k, _, _, _, _, _, q⟩ | ⟨_, k, _, _, _, _, _, q⟩
  · rw [q]; omega
  · rw [q]; omega
  · rw [q]; omega
  · have := hH k; rw [q]; omega
  · have := hH k; rw [q]; omega
theorem Rk.lower {w : World} {base base0 b : Nat} {v : RV} {s : DSt} (g1 : Rk w base b v s) (h : base0 ≤ base) : Rk w base0 b v s :=
  ⟨g1.blk, owns_base g1.rl h, owns_base g1.rp h, owns_base g1.ra h, Nat.le_trans h g1.lo⟩
/-- The side as it begins. -/
theorem Sd.init {w0 w2 w3 w4 : World} {xb b br : Nat} {v : DV} {vr : RV} {s : DSt} (hD : Dk w2 w0.heap.size b v s) (hb2 : Below w0.heap.size w0 w2) (hR : Rk w3 w2.heap.size br vr s) (hb3 : Below w2.heap.size w2 w3) (hxb : w3.heap.size = xb) (cs : Array Value) (h4 : w3.alloc (.cells cs 36) = w4) : Sd w0 w4 xb b br s s cs (fun _ => False) := by
  have hb4 : Below w3.heap.size w3 w4 := by rw [← h4]; exact (Below.refl _ _).alloc (Nat.le_refl _) _
  have hB : Blk w4 xb cs 36 := by rw [← h4, ← hxb]; exact Blk.new w3 _ _
  have z2 := hb2.size
  have z3 := hb3.size
  refine ⟨v, vr, (hD.below hb3).below hb4, (hR.lower z2).below hb4, fun k hk => ?_, fun k hk => ?_, hB, by omega, hb2.trans ((hb3.trans (hb4.mono z3)).mono z2), fun k q => q.elim⟩
  · have k1 := (hD.fd k hk).2
    refine ⟨fun r => ?_, by omega⟩
    have k2 := (hR.frB k r).1
    omega
  · have k2 := (hR.frB k hk).2
    omega
end Go.Proofs.YtffiaogbphgmgaaGreatDoor

namespace Go.Proofs.YtffiaogbphgmgaaGreatDoor
open Go.RowKit
set_option maxRecDepth 100000
theorem layR_coh (l : List Wr1) : ∀ (s : DSt), Coh s → Coh (layR s l).2 := by
  induction l with
  | nil => intro s h; rw [layR]; exact h.flush
  | cons p r ih =>
    intro s h
    rw [layR]
    split
    · exact ih _ (h.write _ _)
    · exact h.write _ _
theorem runsR_coh (R : List (List Wr1)) : ∀ (s : DSt), Coh s → Coh (runsR s R).2 := by
  induction R with
  | nil => intro s h; rw [runsR]; exact h
  | cons r R ih =>
    intro s h
    rw [runsR]
    split
    · exact ih _ (layR_coh _ _ h)
    · exact layR_coh _ _ h
theorem commit_coh (s : DSt) (nx : Nat) (lost : Bool) (l : List Wr1) (h : Coh s) : Coh (commitR s nx lost l).s := by
  unfold commitR
  split
  · exact h
  · split
    · exact h
    · split
      · exact runsR_coh _ _ h
      · exact runsR_coh _ _ h
theorem layR_len (l : List Wr1) : ∀ (s : DSt), (layR s l).2.last.length = s.last.length := by
  induction l with
  | nil =>
    intro s
    rw [layR]
    show (flushS s).last.length = _
    unfold flushS
    split
    · rw [diesS_last]
    · exact layP_len _ _
  | cons p r ih =>
    intro s
    rw [layR]
    split
    · rw [ih, writeS_lastX]
    · show (writeS s p.1 p.2).last.length = _
      rw [writeS_lastX]
theorem runsR_len (R : List (List Wr1)) : ∀ (s : DSt), (runsR s R).2.last.length = s.last.length := by
  induction R with
  | nil => intro s; rw [runsR]
  | cons r R ih =>
    intro s
    rw [runsR]
    split
    · rw [ih, layR_len]
    · rw [layR_len]
theorem commit_len (s : DSt) (nx : Nat) (lost : Bool) (l : List Wr1) : (commitR s nx lost l).s.last.length = s.last.length := by
  unfold commitR
  split
  · rfl
  · split
    · rfl
    · split
      · exact runsR_len _ _
      · exact runsR_len _ _
theorem runsR_grow (R : List (List Wr1)) : ∀ (s : DSt), (runsR s R).2.pend.length ≤ s.pend.length + (R.map List.length).sum ∧ (runsR s R).2.acts.length ≤ s.acts.length + (R.map List.length).sum + R.length := by
  induction R with
  | nil => intro s; rw [runsR]; exact ⟨by simp, by simp⟩
  | cons r R ih =>
    intro s
    have h1 := layR_pend r s
    have h2 := layR_acts r s
    rw [runsR]
    split
    · obtain ⟨a, b⟩ := ih (layR s r).2
      simp only [List.map_cons, List.sum_cons, List.length_cons]
      constructor <;> omega
    · simp only [List.map_cons, List.sum_cons, List.length_cons]
      constructor <;> omega
theorem commit_grow (s : DSt) (nx : Nat) (lost : Bool) (l : List Wr1) : (commitR s nx lost l).s.pend.length ≤ s.pend.length + 40 ∧ (commitR s nx lost l).s.acts.length ≤ s.acts.length + 40 := by
  unfold commitR
  split
  · exact ⟨Nat.le_add_right _ _, Nat.le_add_right _ _⟩
  · rename_i hr
    split
    · exact ⟨Nat.le_add_right _ _, Nat.le_add_right _ _⟩
    · have h16 := (ref0 (Decidable.not_not.1 hr)).1
      have e1 := filled_len l h16
      obtain ⟨a, b⟩ := runsR_grow (runsOf nx l) s
      have e2 : ((runsOf nx l).map List.length).sum = 34 := by simp [runsOf, recL_len, e1]
      have e3 : (runsOf nx l).length = 4 := rfl
      split
      · exact ⟨by show (runsR s (runsOf nx l)).2.pend.length ≤ _; omega, by show (runsR s (runsOf nx l)).2.acts.length ≤ _; omega⟩
      · exact ⟨by show (runsR s (runsOf nx l)).2.pend.length ≤ _; omega, by show (runsR s (runsOf nx l)).2.acts.length ≤ _; omega⟩
end Go.Proofs.YtffiaogbphgmgaaGreatDoor
