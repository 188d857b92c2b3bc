import Derived.Test.YtifjmldmilmfjaaGreatDoorMkb17
import Derived.Test.YtifjmldmilmfjaaGreatDoorMkb08
import Derived.Test.YtifjmldmilmfjaaGreatDoorMkb15
namespace Go.Proofs.YtifjmldmilmfjaaGreatDoor
open Go.RowKit
set_option maxRecDepth 100000
set_option maxHeartbeats 4000000 in
theorem rlgreet_any (g : Nat) (e : LE) (v : Value) (f : ByteArray) (w : World) (hE : DEnd w g e v) : Calls Tryz.prog 22 #[.pointer (some ⟨g, 0, none⟩), .string f] w fun ev w' => ev = .returned (.int .i64 (e.grE f)) ∧ DEnd w' g (e.grN f) v ∧ Only (fun k => k = g) w w' := by
  have c0 : w.cell? ⟨g, 0, none⟩ = some (.string e.k) := hE.1.cell 0
  have c1 : w.cell? ⟨g, 1, none⟩ = some (.int .i64 (e.i : Int)) := hE.1.cell 1
  have c3 : w.cell? ⟨g, 3, none⟩ = some (.string e.o) := hE.1.cell 3
  have c4 : w.cell? ⟨g, 4, none⟩ = some (.bool e.c) := hE.1.cell 4
  by_cases hrc : e.c = true ∨ e.r = true
  · have h9 : e.grE f = 211 := by rw [LE.grE, if_pos (by rcases hrc with q | q <;> rw [q] <;> simp)]
    have h8 : e.grN f = e := by rw [LE.grN, h9, if_neg (by decide)]
    rw [h9, h8]
    have HE := hide hE
    by_cases h0 : e.o.size = 0
    · have h2 : e.o = ⟨#[]⟩ := by
        apply nums_inj
        have := nums_len e.o
        rw [List.eq_nil_of_length_eq_zero (l := nums e.o) (by omega)]
        rfl
      have hc : e.c = true := by
        rcases hrc with q | q
        · exact q
        · obtain ⟨_, q2, _⟩ | ⟨q1, _⟩ | ⟨q1, _⟩ := hE.2.1.o
          · omega
          · rw [q] at q1; cases q1
          · rw [q] at q1; cases q1
      rw [h2] at c3
      rw [hc] at c4
      clear hE h9 h8 hrc h0 h2 hc
      go_enter Tryz.func22, Tryz.ntmps22
      go_wp2
      go_ret
      exact ⟨rfl, unhide HE, Only.refl _ _⟩
    · have q1 := isE (s := e.o) h0
      have q2 := emp_noL (s := e.o) h0
      generalize e.o = o at *
      clear hE h9 h8 hrc h0
      go_enter Tryz.func22, Tryz.ntmps22
      go_wp2
      go_ret
      exact ⟨rfl, unhide HE, Only.refl _ _⟩
  have hr : e.r = false := by cases q : e.r; rfl; exact absurd (.inr q) hrc
  have hc : e.c = false := by cases q : e.c; rfl; exact absurd (.inl q) hrc
  have ho : e.o = ⟨#[]⟩ := by
    obtain ⟨q1, _⟩ | ⟨_, q2, _⟩ | ⟨_, q1⟩ := hE.2.1.o
    · rw [hr] at q1; cases q1
    · exact q2
    · rw [hc] at q1; cases q1
  rw [ho] at c3
  rw [hc] at c4
  have hi := hE.2.2.i
  obtain ⟨E9, hE9⟩ : ∃ z, e.grE f = z := ⟨_, rfl⟩
  obtain ⟨e9, he9⟩ : ∃ z, e.grN f = z := ⟨_, rfl⟩
  rw [hE9, he9]
  have HE := hide hE
  by_cases hz : f.size = 35
  · obtain ⟨n, hn⟩ : ∃ z, f.extract 3 19 = z := ⟨_, rfl⟩
    have hns : n.size = 16 := by rw [← hn, ByteArray.size_extract]; omega
    obtain ⟨j, hj⟩ : ∃ z, 1 - e.i = z := ⟨_, rfl⟩
    have e3 : IntKind.i64.wrap (1 - (e.i : Int)) = (j : Int) := by rw [wrapI_eq _ (by omega) (by omega)]; omega
    have HH := hide (rhello_txt e.k j n (by rw [hE.2.2.k]; decide) (by omega) (by omega) w.drew)
    have hG : grB e.k (1 - e.i) f = decide (heB e.k j n = f) := by rw [grB, hj, hn]; simp [hz]
    obtain ⟨H, hH⟩ : ∃ z, heB e.k j n = z := ⟨_, rfl⟩
    rw [hH] at HH hG
    have e4 : ((f.size : Int) != 35) = false := by simp; omega
    have HC := hide (show ∀ W, Below w.drew.heap.size w.drew W → W.cell? ⟨g, 0, none⟩ = some (.string e.k) ∧ W.cell? ⟨g, 1, none⟩ = some (.int .i64 (e.i : Int)) from fun W hW => by
      have hB := hE.1.below (B := w.heap.size) ((Below.refl _ w).drew.trans hW) hE.lt
      exact ⟨hB.cell 0, hB.cell 1⟩)
    by_cases hf : H = f
    · have h9 : E9 = 0 := by rw [← hE9, LE.grE, hc, hr, hG, hf]; simp
      have h8 : e9 = { e with r := true, o := n } := by rw [← he9, LE.grN, hE9, h9, if_pos rfl, hn]
      rw [h9, h8]
      have HZ := hide (show ∀ W, Below w.heap.size w W → DEnd (W.setCell ⟨g, 3, none⟩ (.string n)) g { e with r := true, o := n } v ∧ Only (fun k => k = g) w (W.setCell ⟨g, 3, none⟩ (.string n)) ∧ W.cell? ⟨g, 3, none⟩ = some (.string ⟨#[]⟩) ∧ W.frozen? ⟨g, 3, none⟩ = false from fun W hW => by
        have hB := hE.1.below hW hE.lt
        exact ⟨⟨hB.set 3 (.string n), ⟨.inl ⟨rfl, hns, hc⟩⟩, hE.2.2.k, hE.2.2.n, fun _ => ⟨hns, hc⟩, hE.2.2.i, hE.2.2.s, hE.2.2.t, hE.2.2.m, hE.2.2.q⟩, (Only.of_below hW).setCell _ _ (fun _ => rfl), by rw [← ho]; exact hB.cell 3, hB.frozen 3⟩)
      have hfe : (f.toList == H.toList) = true := by rw [hf]; simp
      clear hE hE9 he9 h9 h8 hG hrc hr hc ho hi hj hH hf HE hns
      generalize e.k = k at *
      generalize e.i = i at *
      go_enter Tryz.func22, Tryz.ntmps22
      go_wp2_with fail
      refine wp_region_held_drew (S := fun W => W.cell? ⟨g, 0, none⟩ = some (.string k) ∧ W.cell? ⟨g, 1, none⟩ = some (.int .i64 (i : Int))) (by kernel_rfl) ⟨c0, c1⟩ ?_
      intro hS
      refine wpAnyH_takeD 0 (some 16) (.string f) rfl rfl (by kernel_rfl) (by kernel_rfl) (by kernel_rfl) (fun _ _ _ h => h) (Or.inl ⟨by rfl, fun w hSw => by have hq1 := hSw.1; have hq2 := hSw.2; clear hSw; go_simp⟩) hS ?_
      simp only [Act.put, List.setIfInBounds_toArray, List.set_cons_zero, List.set_cons_succ]
      refine wpAnyH_takeD 1 (some 17) (.int .i64 (f.size : Int)) rfl rfl (by kernel_rfl) (by kernel_rfl) (by kernel_rfl) (fun _ _ _ h => h) (Or.inl ⟨by rfl, fun w hSw => by have hq1 := hSw.1; have hq2 := hSw.2; clear hSw; go_simp⟩) hS ?_
      simp only [Act.put, List.setIfInBounds_toArray, List.set_cons_zero, List.set_cons_succ]
      refine wpAnyH_takeD 2 (some 18) (.bool false) rfl rfl (by kernel_rfl) (by kernel_rfl) (by kernel_rfl) (fun _ _ _ h => h) (Or.inl ⟨by rfl, fun w hSw => by have hq1 := hSw.1; have hq2 := hSw.2; clear hSw; go_simp⟩) hS ?_
      simp only [Act.put, List.setIfInBounds_toArray, List.set_cons_zero, List.set_cons_succ]
      refine wpAnyH_takeD 3 (some 19) (.bool false) rfl rfl (by kernel_rfl) (by kernel_rfl) (by kernel_rfl) (fun _ _ _ h => h) (Or.inl ⟨by rfl, fun w hSw => by have hq1 := hSw.1; have hq2 := hSw.2; clear hSw; go_simp⟩) hS ?_
      simp only [Act.put, List.setIfInBounds_toArray, List.set_cons_zero, List.set_cons_succ]
      refine wpAnyH_takeD 4 (some 20) (.string f) rfl rfl (by kernel_rfl) (by kernel_rfl) (by kernel_rfl) (fun _ _ _ h => h) (Or.inl ⟨by rfl, fun w hSw => by have hq1 := hSw.1; have hq2 := hSw.2; clear hSw; go_simp⟩) hS ?_
      simp only [Act.put, List.setIfInBounds_toArray, List.set_cons_zero, List.set_cons_succ]
      refine wpAnyH_takeD 5 (some 21) (.pointer (some ⟨g, 0, none⟩)) rfl rfl (by kernel_rfl) (by kernel_rfl) (by kernel_rfl) (fun _ _ _ h => h) (Or.inl ⟨by rfl, fun w hSw => by have hq1 := hSw.1; have hq2 := hSw.2; clear hSw; go_simp⟩) hS ?_
      simp only [Act.put, List.setIfInBounds_toArray, List.set_cons_zero, List.set_cons_succ]
      refine wpAnyH_takeD 6 (some 22) (.pointer (some ⟨g, 0, none⟩)) rfl rfl (by kernel_rfl) (by kernel_rfl) (by kernel_rfl) (fun _ _ _ h => h) (Or.inl ⟨by rfl, fun w hSw => by have hq1 := hSw.1; have hq2 := hSw.2; clear hSw; go_simp⟩) hS ?_
      simp only [Act.put, List.setIfInBounds_toArray, List.set_cons_zero, List.set_cons_succ]
      refine wpAnyH_takeD 7 (some 23) (.pointer (some ⟨g, 0, none⟩)) rfl rfl (by kernel_rfl) (by kernel_rfl) (by kernel_rfl) (fun _ _ _ h => h) (Or.inl ⟨by rfl, fun w hSw => by have hq1 := hSw.1; have hq2 := hSw.2; clear hSw; go_simp⟩) hS ?_
      simp only [Act.put, List.setIfInBounds_toArray, List.set_cons_zero, List.set_cons_succ]
      refine wpAnyH_takeD 8 (some 24) (.string k) rfl rfl (by kernel_rfl) (by kernel_rfl) (by kernel_rfl) (fun _ _ _ h => h) (Or.inl ⟨by rfl, fun w hSw => by have hq1 := hSw.1; have hq2 := hSw.2; clear hSw; go_simp⟩) hS ?_
      simp only [Act.put, List.setIfInBounds_toArray, List.set_cons_zero, List.set_cons_succ]
      refine wpAnyH_takeD 9 (some 25) (.pointer (some ⟨g, 0, none⟩)) rfl rfl (by kernel_rfl) (by kernel_rfl) (by kernel_rfl) (fun _ _ _ h => h) (Or.inl ⟨by rfl, fun w hSw => by have hq1 := hSw.1; have hq2 := hSw.2; clear hSw; go_simp⟩) hS ?_
      simp only [Act.put, List.setIfInBounds_toArray, List.set_cons_zero, List.set_cons_succ]
      refine wpAnyH_takeD 10 (some 26) (.pointer (some ⟨g, 0, none⟩)) rfl rfl (by kernel_rfl) (by kernel_rfl) (by kernel_rfl) (fun _ _ _ h => h) (Or.inl ⟨by rfl, fun w hSw => by have hq1 := hSw.1; have hq2 := hSw.2; clear hSw; go_simp⟩) hS ?_
      simp only [Act.put, List.setIfInBounds_toArray, List.set_cons_zero, List.set_cons_succ]
      refine wpAnyH_takeD 11 (some 27) (.pointer (some ⟨g, 1, none⟩)) rfl rfl (by kernel_rfl) (by kernel_rfl) (by kernel_rfl) (fun _ _ _ h => h) (Or.inl ⟨by rfl, fun w hSw => by have hq1 := hSw.1; have hq2 := hSw.2; clear hSw; go_simp⟩) hS ?_
      simp only [Act.put, List.setIfInBounds_toArray, List.set_cons_zero, List.set_cons_succ]
      refine wpAnyH_takeD 12 (some 28) (.int .i64 (i : Int)) rfl rfl (by kernel_rfl) (by kernel_rfl) (by kernel_rfl) (fun _ _ _ h => h) (Or.inl ⟨by rfl, fun w hSw => by have hq1 := hSw.1; have hq2 := hSw.2; clear hSw; go_simp⟩) hS ?_
      simp only [Act.put, List.setIfInBounds_toArray, List.set_cons_zero, List.set_cons_succ]
      refine wpAnyH_takeD 13 (some 29) (.int .i64 (j : Int)) rfl rfl (by kernel_rfl) (by kernel_rfl) (by kernel_rfl) (fun _ _ _ h => h) (Or.inl ⟨by rfl, fun w hSw => by have hq1 := hSw.1; have hq2 := hSw.2; clear hSw; go_simp⟩) hS ?_
      simp only [Act.put, List.setIfInBounds_toArray, List.set_cons_zero, List.set_cons_succ]
      refine wpAnyH_takeD 14 (some 30) (.string f) rfl rfl (by kernel_rfl) (by kernel_rfl) (by kernel_rfl) (fun _ _ _ h => h) (Or.inl ⟨by rfl, fun w hSw => by have hq1 := hSw.1; have hq2 := hSw.2; clear hSw; go_simp⟩) hS ?_
      simp only [Act.put, List.setIfInBounds_toArray, List.set_cons_zero, List.set_cons_succ]
      refine wpAnyH_takeD 15 (some 31) (.string n) rfl rfl (by kernel_rfl) (by kernel_rfl) (by kernel_rfl) (fun _ _ _ h => h) (Or.inl ⟨by rfl, fun w hSw => by have hq1 := hSw.1; have hq2 := hSw.2; clear hSw; go_simp⟩) hS ?_
      simp only [Act.put, List.setIfInBounds_toArray, List.set_cons_zero, List.set_cons_succ]
      refine wpAnyH_ready (rs := [16]) (by kernel_rfl) (by simp) ?_
      refine AllReadyH.cons rfl (fun K hK => ?_) AllReadyH.nil
      simp only [List.getElem_toArray, List.getElem_cons_succ, List.getElem_cons_zero]
      go_simp
      refine (unhide HH).mono ?_
      rintro ev y ⟨rfl, hb⟩
      have hS9 := unhide HC _ hb
      have HB := hide hb
      clear hb
      refine hK.out _ _ hS9 (fun hS => ?_)
      clear hK K
      refine wpAnyH_takeD 17 (some 33) (.bool false) rfl rfl (by kernel_rfl) (by kernel_rfl) (by kernel_rfl) (fun _ _ _ h => h) (Or.inl ⟨by rfl, fun w hSw => by have hq1 := hSw.1; have hq2 := hSw.2; clear hSw; go_simp⟩) hS ?_
      simp only [Act.put, List.setIfInBounds_toArray, List.set_cons_zero, List.set_cons_succ]
      refine wpAnyH_takeD 18 (some 34) (.bool false) rfl rfl (by kernel_rfl) (by kernel_rfl) (by kernel_rfl) (fun _ _ _ h => h) (Or.inl ⟨by rfl, fun w hSw => by have hq1 := hSw.1; have hq2 := hSw.2; clear hSw; go_simp⟩) hS ?_
      simp only [Act.put, List.setIfInBounds_toArray, List.set_cons_zero, List.set_cons_succ]
      refine wpAnyH_done (by kernel_rfl) ?_ _
      obtain ⟨z1, z2, z3, z4⟩ := unhide HZ _ ((Below.refl _ w).drew.trans (unhide HB))
      have HY := hide (And.intro z1 z2)
      clear z1 z2 HZ hS hS9 HC HH c0 c1 c3 c4
      go_wp2
      go_ret
      exact ⟨rfl, (unhide HY).1, (unhide HY).2⟩
    · have h9 : E9 = 212 := by rw [← hE9, LE.grE, hc, hr, hG]; simp [hf]
      have h8 : e9 = e := by rw [← he9, LE.grN, hE9, h9, if_neg (by decide)]
      subst h8
      rw [h9]
      have hfe : (f.toList == H.toList) = false := str_ne (fun q => hf q.symm)
      clear hE hE9 he9 h9 hG hrc hr hc ho hi hj hH hf hns
      have HZ := hide (show ∀ W, Below w.heap.size w W → DEnd W g e9 v ∧ Only (fun k => k = g) w W from fun W hW => ⟨(unhide HE).below hW (unhide HE).lt, Only.of_below hW⟩)
      generalize e9.k = k at *
      generalize e9.i = i at *
      go_enter Tryz.func22, Tryz.ntmps22
      go_wp2_with fail
      refine wp_region_held_drew (S := fun W => W.cell? ⟨g, 0, none⟩ = some (.string k) ∧ W.cell? ⟨g, 1, none⟩ = some (.int .i64 (i : Int))) (by kernel_rfl) ⟨c0, c1⟩ ?_
      intro hS
      refine wpAnyH_takeD 0 (some 16) (.string f) rfl rfl (by kernel_rfl) (by kernel_rfl) (by kernel_rfl) (fun _ _ _ h => h) (Or.inl ⟨by rfl, fun w hSw => by have hq1 := hSw.1; have hq2 := hSw.2; clear hSw; go_simp⟩) hS ?_
      simp only [Act.put, List.setIfInBounds_toArray, List.set_cons_zero, List.set_cons_succ]
      refine wpAnyH_takeD 1 (some 17) (.int .i64 (f.size : Int)) rfl rfl (by kernel_rfl) (by kernel_rfl) (by kernel_rfl) (fun _ _ _ h => h) (Or.inl ⟨by rfl, fun w hSw => by have hq1 := hSw.1; have hq2 := hSw.2; clear hSw; go_simp⟩) hS ?_
      simp only [Act.put, List.setIfInBounds_toArray, List.set_cons_zero, List.set_cons_succ]
      refine wpAnyH_takeD 2 (some 18) (.bool false) rfl rfl (by kernel_rfl) (by kernel_rfl) (by kernel_rfl) (fun _ _ _ h => h) (Or.inl ⟨by rfl, fun w hSw => by have hq1 := hSw.1; have hq2 := hSw.2; clear hSw; go_simp⟩) hS ?_
      simp only [Act.put, List.setIfInBounds_toArray, List.set_cons_zero, List.set_cons_succ]
      refine wpAnyH_takeD 3 (some 19) (.bool false) rfl rfl (by kernel_rfl) (by kernel_rfl) (by kernel_rfl) (fun _ _ _ h => h) (Or.inl ⟨by rfl, fun w hSw => by have hq1 := hSw.1; have hq2 := hSw.2; clear hSw; go_simp⟩) hS ?_
      simp only [Act.put, List.setIfInBounds_toArray, List.set_cons_zero, List.set_cons_succ]
      refine wpAnyH_takeD 4 (some 20) (.string f) rfl rfl (by kernel_rfl) (by kernel_rfl) (by kernel_rfl) (fun _ _ _ h => h) (Or.inl ⟨by rfl, fun w hSw => by have hq1 := hSw.1; have hq2 := hSw.2; clear hSw; go_simp⟩) hS ?_
      simp only [Act.put, List.setIfInBounds_toArray, List.set_cons_zero, List.set_cons_succ]
      refine wpAnyH_takeD 5 (some 21) (.pointer (some ⟨g, 0, none⟩)) rfl rfl (by kernel_rfl) (by kernel_rfl) (by kernel_rfl) (fun _ _ _ h => h) (Or.inl ⟨by rfl, fun w hSw => by have hq1 := hSw.1; have hq2 := hSw.2; clear hSw; go_simp⟩) hS ?_
      simp only [Act.put, List.setIfInBounds_toArray, List.set_cons_zero, List.set_cons_succ]
      refine wpAnyH_takeD 6 (some 22) (.pointer (some ⟨g, 0, none⟩)) rfl rfl (by kernel_rfl) (by kernel_rfl) (by kernel_rfl) (fun _ _ _ h => h) (Or.inl ⟨by rfl, fun w hSw => by have hq1 := hSw.1; have hq2 := hSw.2; clear hSw; go_simp⟩) hS ?_
      simp only [Act.put, List.setIfInBounds_toArray, List.set_cons_zero, List.set_cons_succ]
      refine wpAnyH_takeD 7 (some 23) (.pointer (some ⟨g, 0, none⟩)) rfl rfl (by kernel_rfl) (by kernel_rfl) (by kernel_rfl) (fun _ _ _ h => h) (Or.inl ⟨by rfl, fun w hSw => by have hq1 := hSw.1; have hq2 := hSw.2; clear hSw; go_simp⟩) hS ?_
      simp only [Act.put, List.setIfInBounds_toArray, List.set_cons_zero, List.set_cons_succ]
      refine wpAnyH_takeD 8 (some 24) (.string k) rfl rfl (by kernel_rfl) (by kernel_rfl) (by kernel_rfl) (fun _ _ _ h => h) (Or.inl ⟨by rfl, fun w hSw => by have hq1 := hSw.1; have hq2 := hSw.2; clear hSw; go_simp⟩) hS ?_
      simp only [Act.put, List.setIfInBounds_toArray, List.set_cons_zero, List.set_cons_succ]
      refine wpAnyH_takeD 9 (some 25) (.pointer (some ⟨g, 0, none⟩)) rfl rfl (by kernel_rfl) (by kernel_rfl) (by kernel_rfl) (fun _ _ _ h => h) (Or.inl ⟨by rfl, fun w hSw => by have hq1 := hSw.1; have hq2 := hSw.2; clear hSw; go_simp⟩) hS ?_
      simp only [Act.put, List.setIfInBounds_toArray, List.set_cons_zero, List.set_cons_succ]
      refine wpAnyH_takeD 10 (some 26) (.pointer (some ⟨g, 0, none⟩)) rfl rfl (by kernel_rfl) (by kernel_rfl) (by kernel_rfl) (fun _ _ _ h => h) (Or.inl ⟨by rfl, fun w hSw => by have hq1 := hSw.1; have hq2 := hSw.2; clear hSw; go_simp⟩) hS ?_
      simp only [Act.put, List.setIfInBounds_toArray, List.set_cons_zero, List.set_cons_succ]
      refine wpAnyH_takeD 11 (some 27) (.pointer (some ⟨g, 1, none⟩)) rfl rfl (by kernel_rfl) (by kernel_rfl) (by kernel_rfl) (fun _ _ _ h => h) (Or.inl ⟨by rfl, fun w hSw => by have hq1 := hSw.1; have hq2 := hSw.2; clear hSw; go_simp⟩) hS ?_
      simp only [Act.put, List.setIfInBounds_toArray, List.set_cons_zero, List.set_cons_succ]
      refine wpAnyH_takeD 12 (some 28) (.int .i64 (i : Int)) rfl rfl (by kernel_rfl) (by kernel_rfl) (by kernel_rfl) (fun _ _ _ h => h) (Or.inl ⟨by rfl, fun w hSw => by have hq1 := hSw.1; have hq2 := hSw.2; clear hSw; go_simp⟩) hS ?_
      simp only [Act.put, List.setIfInBounds_toArray, List.set_cons_zero, List.set_cons_succ]
      refine wpAnyH_takeD 13 (some 29) (.int .i64 (j : Int)) rfl rfl (by kernel_rfl) (by kernel_rfl) (by kernel_rfl) (fun _ _ _ h => h) (Or.inl ⟨by rfl, fun w hSw => by have hq1 := hSw.1; have hq2 := hSw.2; clear hSw; go_simp⟩) hS ?_
      simp only [Act.put, List.setIfInBounds_toArray, List.set_cons_zero, List.set_cons_succ]
      refine wpAnyH_takeD 14 (some 30) (.string f) rfl rfl (by kernel_rfl) (by kernel_rfl) (by kernel_rfl) (fun _ _ _ h => h) (Or.inl ⟨by rfl, fun w hSw => by have hq1 := hSw.1; have hq2 := hSw.2; clear hSw; go_simp⟩) hS ?_
      simp only [Act.put, List.setIfInBounds_toArray, List.set_cons_zero, List.set_cons_succ]
      refine wpAnyH_takeD 15 (some 31) (.string n) rfl rfl (by kernel_rfl) (by kernel_rfl) (by kernel_rfl) (fun _ _ _ h => h) (Or.inl ⟨by rfl, fun w hSw => by have hq1 := hSw.1; have hq2 := hSw.2; clear hSw; go_simp⟩) hS ?_
      simp only [Act.put, List.setIfInBounds_toArray, List.set_cons_zero, List.set_cons_succ]
      refine wpAnyH_ready (rs := [16]) (by kernel_rfl) (by simp) ?_
      refine AllReadyH.cons rfl (fun K hK => ?_) AllReadyH.nil
      simp only [List.getElem_toArray, List.getElem_cons_succ, List.getElem_cons_zero]
      go_simp
      refine (unhide HH).mono ?_
      rintro ev y ⟨rfl, hb⟩
      have hS9 := unhide HC _ hb
      have HB := hide hb
      clear hb
      refine hK.out _ _ hS9 (fun hS => ?_)
      clear hK K
      refine wpAnyH_takeD 17 (some 33) (.bool true) rfl rfl (by kernel_rfl) (by kernel_rfl) (by kernel_rfl) (fun _ _ _ h => h) (Or.inl ⟨by rfl, fun w hSw => by have hq1 := hSw.1; have hq2 := hSw.2; clear hSw; go_simp⟩) hS ?_
      simp only [Act.put, List.setIfInBounds_toArray, List.set_cons_zero, List.set_cons_succ]
      refine wpAnyH_takeD 18 (some 34) (.bool true) rfl rfl (by kernel_rfl) (by kernel_rfl) (by kernel_rfl) (fun _ _ _ h => h) (Or.inl ⟨by rfl, fun w hSw => by have hq1 := hSw.1; have hq2 := hSw.2; clear hSw; go_simp⟩) hS ?_
      simp only [Act.put, List.setIfInBounds_toArray, List.set_cons_zero, List.set_cons_succ]
      refine wpAnyH_done (by kernel_rfl) ?_ _
      obtain ⟨z1, z2⟩ := unhide HZ _ ((Below.refl _ w).drew.trans (unhide HB))
      have HY := hide (And.intro z1 z2)
      clear z1 z2 HZ hS hS9 HC HH c0 c1 c3 c4
      go_wp2
      go_ret
      exact ⟨rfl, (unhide HY).1, (unhide HY).2⟩
  · have hG : grB e.k (1 - e.i) f = false := decide_eq_false (fun q => hz q.1)
    have h9 : E9 = 212 := by rw [← hE9, LE.grE, hc, hr, hG]; rfl
    have h8 : e9 = e := by rw [← he9, LE.grN, hE9, h9, if_neg (by decide)]
    subst h8
    rw [h9]
    have e4 : ((f.size : Int) != 35) = true := by simp; omega
    clear hE hE9 he9 h9 hG hrc hr hc ho hi
    generalize e9.k = k at *
    generalize e9.i = i at *
    go_enter Tryz.func22, Tryz.ntmps22
    go_wp2_with fail
    refine wp_region_held_drew (S := fun W => W.cell? ⟨g, 0, none⟩ = some (.string k) ∧ W.cell? ⟨g, 1, none⟩ = some (.int .i64 (i : Int))) (by kernel_rfl) ⟨c0, c1⟩ ?_
    intro hS
    refine wpAnyH_takeD 0 (some 16) (.string f) rfl rfl (by kernel_rfl) (by kernel_rfl) (by kernel_rfl) (fun _ _ _ h => h) (Or.inl ⟨by rfl, fun w hSw => by have hq1 := hSw.1; have hq2 := hSw.2; clear hSw; go_simp⟩) hS ?_
    simp only [Act.put, List.setIfInBounds_toArray, List.set_cons_zero, List.set_cons_succ]
    refine wpAnyH_takeD 1 (some 17) (.int .i64 (f.size : Int)) rfl rfl (by kernel_rfl) (by kernel_rfl) (by kernel_rfl) (fun _ _ _ h => h) (Or.inl ⟨by rfl, fun w hSw => by have hq1 := hSw.1; have hq2 := hSw.2; clear hSw; go_simp⟩) hS ?_
    simp only [Act.put, List.setIfInBounds_toArray, List.set_cons_zero, List.set_cons_succ]
    refine wpAnyH_takeD 2 (some 18) (.bool true) rfl rfl (by kernel_rfl) (by kernel_rfl) (by kernel_rfl) (fun _ _ _ h => h) (Or.inl ⟨by rfl, fun w hSw => by have hq1 := hSw.1; have hq2 := hSw.2; clear hSw; go_simp⟩) hS ?_
    simp only [Act.put, List.setIfInBounds_toArray, List.set_cons_zero, List.set_cons_succ]
    refine wpAnyH_takeD 3 (some 19) (.bool true) rfl rfl (by kernel_rfl) (by kernel_rfl) (by kernel_rfl) (fun _ _ _ h => h) (Or.inl ⟨by rfl, fun w hSw => by have hq1 := hSw.1; have hq2 := hSw.2; clear hSw; go_simp⟩) hS ?_
    simp only [Act.put, List.setIfInBounds_toArray, List.set_cons_zero, List.set_cons_succ]
    refine wpAnyH_takeD 4 (some 20) undef rfl rfl (by kernel_rfl) (by kernel_rfl) (by kernel_rfl) (fun _ _ _ h => h) (Or.inr ⟨by rfl, rfl⟩) hS ?_
    simp only [Act.put, List.setIfInBounds_toArray, List.set_cons_zero, List.set_cons_succ]
    refine wpAnyH_takeD 5 (some 21) undef rfl rfl (by kernel_rfl) (by kernel_rfl) (by kernel_rfl) (fun _ _ _ h => h) (Or.inr ⟨by rfl, rfl⟩) hS ?_
    simp only [Act.put, List.setIfInBounds_toArray, List.set_cons_zero, List.set_cons_succ]
    refine wpAnyH_takeD 6 (some 22) undef rfl rfl (by kernel_rfl) (by kernel_rfl) (by kernel_rfl) (fun _ _ _ h => h) (Or.inr ⟨by rfl, rfl⟩) hS ?_
    simp only [Act.put, List.setIfInBounds_toArray, List.set_cons_zero, List.set_cons_succ]
    refine wpAnyH_takeD 7 (some 23) undef rfl rfl (by kernel_rfl) (by kernel_rfl) (by kernel_rfl) (fun _ _ _ h => h) (Or.inr ⟨by rfl, rfl⟩) hS ?_
    simp only [Act.put, List.setIfInBounds_toArray, List.set_cons_zero, List.set_cons_succ]
    refine wpAnyH_takeD 8 (some 24) undef rfl rfl (by kernel_rfl) (by kernel_rfl) (by kernel_rfl) (fun _ _ _ h => h) (Or.inr ⟨by rfl, rfl⟩) hS ?_
    simp only [Act.put, List.setIfInBounds_toArray, List.set_cons_zero, List.set_cons_succ]
    refine wpAnyH_takeD 9 (some 25) undef rfl rfl (by kernel_rfl) (by kernel_rfl) (by kernel_rfl) (fun _ _ _ h => h) (Or.inr ⟨by rfl, rfl⟩) hS ?_
    simp only [Act.put, List.setIfInBounds_toArray, List.set_cons_zero, List.set_cons_succ]
    refine wpAnyH_takeD 10 (some 26) undef rfl rfl (by kernel_rfl) (by kernel_rfl) (by kernel_rfl) (fun _ _ _ h => h) (Or.inr ⟨by rfl, rfl⟩) hS ?_
    simp only [Act.put, List.setIfInBounds_toArray, List.set_cons_zero, List.set_cons_succ]
    refine wpAnyH_takeD 11 (some 27) undef rfl rfl (by kernel_rfl) (by kernel_rfl) (by kernel_rfl) (fun _ _ _ h => h) (Or.inr ⟨by rfl, rfl⟩) hS ?_
    simp only [Act.put, List.setIfInBounds_toArray, List.set_cons_zero, List.set_cons_succ]
    refine wpAnyH_takeD 12 (some 28) undef rfl rfl (by kernel_rfl) (by kernel_rfl) (by kernel_rfl) (fun _ _ _ h => h) (Or.inr ⟨by rfl, rfl⟩) hS ?_
    simp only [Act.put, List.setIfInBounds_toArray, List.set_cons_zero, List.set_cons_succ]
    refine wpAnyH_takeD 13 (some 29) undef rfl rfl (by kernel_rfl) (by kernel_rfl) (by kernel_rfl) (fun _ _ _ h => h) (Or.inr ⟨by rfl, rfl⟩) hS ?_
    simp only [Act.put, List.setIfInBounds_toArray, List.set_cons_zero, List.set_cons_succ]
    refine wpAnyH_takeD 14 (some 30) undef rfl rfl (by kernel_rfl) (by kernel_rfl) (by kernel_rfl) (fun _ _ _ h => h) (Or.inr ⟨by rfl, rfl⟩) hS ?_
    simp only [Act.put, List.setIfInBounds_toArray, List.set_cons_zero, List.set_cons_succ]
    refine wpAnyH_takeD 15 (some 31) undef rfl rfl (by kernel_rfl) (by kernel_rfl) (by kernel_rfl) (fun _ _ _ h => h) (Or.inr ⟨by rfl, rfl⟩) hS ?_
    simp only [Act.put, List.setIfInBounds_toArray, List.set_cons_zero, List.set_cons_succ]
    refine wpAnyH_takeD 16 (some 32) undef rfl rfl (by kernel_rfl) (by kernel_rfl) (by kernel_rfl) (fun _ _ _ h => h) (Or.inr ⟨by rfl, rfl⟩) hS ?_
    simp only [Act.put, List.setIfInBounds_toArray, List.set_cons_zero, List.set_cons_succ]
    refine wpAnyH_takeD 17 (some 33) undef rfl rfl (by kernel_rfl) (by kernel_rfl) (by kernel_rfl) (fun _ _ _ h => h) (Or.inr ⟨by rfl, rfl⟩) hS ?_
    simp only [Act.put, List.setIfInBounds_toArray, List.set_cons_zero, List.set_cons_succ]
    refine wpAnyH_takeD 18 (some 34) (.bool true) rfl rfl (by kernel_rfl) (by kernel_rfl) (by kernel_rfl) (fun _ _ _ h => h) (Or.inl ⟨by rfl, fun w hSw => by have hq1 := hSw.1; have hq2 := hSw.2; clear hSw; go_simp⟩) hS ?_
    simp only [Act.put, List.setIfInBounds_toArray, List.set_cons_zero, List.set_cons_succ]
    refine wpAnyH_done (by kernel_rfl) ?_ _
    clear hS c0 c1 c3 c4
    go_wp2
    go_ret
    exact ⟨rfl, (unhide HE).below (B := w.heap.size) (Below.refl _ w).drew (unhide HE).lt, Only.of_below (Below.refl _ w).drew⟩
end Go.Proofs.YtifjmldmilmfjaaGreatDoor

namespace Go.Proofs.YtifjmldmilmfjaaGreatDoor
open Go.RowKit
end Go.Proofs.YtifjmldmilmfjaaGreatDoor

namespace Go.Proofs.YtifjmldmilmfjaaGreatDoor
open Go.RowKit
theorem xor8_twice (x y : Int) (hx : 0 ≤ x ∧ x < 256) (hy : 0 ≤ y ∧ y < 256) : bits .xor .u8 (bits .xor .u8 x y) y = x := by
  obtain ⟨X, rfl⟩ := Int.eq_ofNat_of_zero_le hx.1
  obtain ⟨Y, rfl⟩ := Int.eq_ofNat_of_zero_le hy.1
  have hb : X ^^^ Y < 256 := Nat.xor_lt_two_pow (n := 8) (by omega) (by omega)
  rw [u8_xor_nat X Y (by omega) (by omega), u8_xor_nat (X ^^^ Y) Y hb (by omega), Nat.xor_assoc, Nat.xor_self, Nat.xor_zero]
theorem laid_laid (a b : List Int) (ha : Bytes a) (hb : Bytes b) : laidP (laidP a b) b = a := by
  have hl : (laidP (laidP a b) b).length = a.length := by rw [laidP_len, laidP_len]
  apply List.ext_getElem?
  intro j
  by_cases hj : j < a.length
  · have h1 := laidP_getD (laidP a b) b j (by rw [laidP_len]; exact hj)
    rw [laidP_getD a b j hj, xor8_twice _ _ (ha j) (hb j)] at h1
    rw [List.getD_eq_getElem?_getD, List.getElem?_eq_getElem (by omega), List.getD_eq_getElem?_getD, List.getElem?_eq_getElem hj] at h1
    simp only [Option.getD_some] at h1
    rw [List.getElem?_eq_getElem (by omega), List.getElem?_eq_getElem hj, h1]
  · rw [List.getElem?_eq_none (by omega), List.getElem?_eq_none (by omega)]
theorem xorB_twice (key : ByteArray) (f : Int) (s : ByteArray) (h : errP key f s.size = 0) : (xorB key f s).size = s.size ∧ xorB key f (xorB key f s) = s := by
  have h1 : xorB key f s = strOfNums (laidP (nums s) (partP (nums key) f.toNat s.size)) := by rw [xorB, if_pos h]
  have h2 : nums (xorB key f s) = laidP (nums s) (partP (nums key) f.toNat s.size) := by rw [h1]; exact nums_strOfNums _ (laidP_bytes _ _)
  have h3 : (xorB key f s).size = s.size := by rw [← nums_len, h2, laidP_len, nums_len]
  refine ⟨h3, ?_⟩
  rw [xorB, h3, if_pos h, h2, laid_laid _ _ (nums_bytes s) (partP_bytes _ _ _), strOfNums_nums]
end Go.Proofs.YtifjmldmilmfjaaGreatDoor

namespace Go.Proofs.YtifjmldmilmfjaaGreatDoor
open Go.RowKit
set_option maxRecDepth 100000
/-- what Send says, and what an end is behind it -/
def LE.snE (e : LE) (m : ByteArray) : Int := if e.r = false ∨ 4611686018427387904 ≤ e.s then 211 else if 4096 < m.size then 214 else 0
def LE.snF (e : LE) (m : ByteArray) : ByteArray := if e.snE m = 0 then frB (e.h e.i) (e.z e.i) (e.s : Int) m else ⟨#[]⟩
def LE.snN (e : LE) (m : ByteArray) : LE := if e.snE m = 0 then { e with s := e.s + 1 } else e
theorem hdB_size (hi : ByteArray) (n : Int) (m : ByteArray) (h : m.size ≤ 65536) : (hdB hi n m).size = m.size := by
  refine (xorB_twice (mcB hi (nuB n)) 0 m ?_).1
  exact errP_zero.2 ⟨mcB_size _ _, by omega, by omega, by omega⟩
theorem hdB_twice (hi : ByteArray) (n : Int) (m : ByteArray) (h : m.size ≤ 65536) : hdB hi n (hdB hi n m) = m := by
  refine (xorB_twice (mcB hi (nuB n)) 0 m ?_).2
  exact errP_zero.2 ⟨mcB_size _ _, by omega, by omega, by omega⟩
set_option maxHeartbeats 4000000 in
theorem lsend_any (g : Nat) (e : LE) (m : ByteArray) (hm : m.size ≤ 140737488355000) (w : World) (hE : EndM w g e) (hK : KTab w) : Calls Tryz.prog 10 #[.pointer (some ⟨g, 0, none⟩), .string m] w fun ev w' => ev = .returned (.tuple #[.string (e.snF m), .int .i64 (e.snE m)]) ∧ EndM w' g (e.snN m) ∧ Only (fun k => k = g) w w' := by
  obtain ⟨E9, hE9⟩ : ∃ z, e.snE m = z := ⟨_, rfl⟩
  obtain ⟨e9, he9⟩ : ∃ z, e.snN m = z := ⟨_, rfl⟩
  obtain ⟨F9, hF9⟩ : ∃ z, e.snF m = z := ⟨_, rfl⟩
  rw [hE9, he9, hF9]
  have HM := hide (maySend_any g e w hE)
  have HE := hide hE
  cases hr : e.r
  · have h9 : E9 = 211 := by rw [← hE9, LE.snE, if_pos (.inl hr)]
    have h8 : e9 = e := by rw [← he9, LE.snN, hE9, h9]; rfl
    have h7 : F9 = ⟨#[]⟩ := by rw [← hF9, LE.snF, hE9, h9]; rfl
    rw [hr] at HM
    subst h8
    rw [h9, h7]
    clear hE hE9 he9 hF9 h9 h7 hr hK
    go_enter Tryz.func10, Tryz.ntmps10
    go_wp2_with fail
    refine (unhide HM).mono ?_
    rintro ev y ⟨rfl, hb⟩
    have HB := hide (And.intro ((unhide HE).below hb (unhide HE).lt) (Only.of_below (P := fun k => k = g) hb))
    clear hb
    go_wp2
    go_ret2
    exact ⟨rfl, (unhide HB).1, (unhide HB).2⟩
  rw [hr] at HM
  have HC2 := hide (show ∀ W, Below w.heap.size w W → W.cell? ⟨g, 2, none⟩ = some (.int .i64 (e.s : Int)) from fun W hW => (hE.1.below hW hE.lt).cell 2)
  have hs9 := hE.2.s
  by_cases hs : 4611686018427387904 ≤ e.s
  · have h9 : E9 = 211 := by rw [← hE9, LE.snE, if_pos (.inr hs)]
    have h8 : e9 = e := by rw [← he9, LE.snN, hE9, h9]; rfl
    have h7 : F9 = ⟨#[]⟩ := by rw [← hF9, LE.snF, hE9, h9]; rfl
    subst h8
    rw [h9, h7]
    have e1 : decide ((4611686018427387904 : Int) ≤ (e9.s : Int)) = true := decide_eq_true (by omega)
    clear hE hE9 he9 hF9 h9 h7 hr hK hs hs9
    go_enter Tryz.func10, Tryz.ntmps10
    go_wp2_with fail
    refine (unhide HM).mono ?_
    rintro ev y ⟨rfl, hb⟩
    have HB := hide (And.intro ((unhide HE).below hb (unhide HE).lt) (Only.of_below (P := fun k => k = g) hb))
    have c2 := unhide HC2 y hb
    clear hb
    go_wp2
    go_ret2
    exact ⟨rfl, (unhide HB).1, (unhide HB).2⟩
  have e1 : decide ((4611686018427387904 : Int) ≤ (e.s : Int)) = false := decide_eq_false (by omega)
  by_cases hl : 4096 < m.size
  · have h9 : E9 = 214 := by rw [← hE9, LE.snE, if_neg (by rw [hr]; simp; omega), if_pos hl]
    have h8 : e9 = e := by rw [← he9, LE.snN, hE9, h9]; rfl
    have h7 : F9 = ⟨#[]⟩ := by rw [← hF9, LE.snF, hE9, h9]; rfl
    subst h8
    rw [h9, h7]
    have e2 : (m.size : Int) > 4096 := by omega
    clear hE hE9 he9 hF9 h9 h7 hr hK hs hs9
    go_enter Tryz.func10, Tryz.ntmps10
    go_wp2_with fail
    refine (unhide HM).mono ?_
    rintro ev y ⟨rfl, hb⟩
    have HB := hide (And.intro ((unhide HE).below hb (unhide HE).lt) (Only.of_below (P := fun k => k = g) hb))
    have c2 := unhide HC2 y hb
    clear hb
    go_wp2
    go_ret2
    exact ⟨rfl, (unhide HB).1, (unhide HB).2⟩
  have h9 : E9 = 0 := by rw [← hE9, LE.snE, if_neg (by rw [hr]; simp; omega), if_neg hl]
  have h8 : e9 = { e with s := e.s + 1 } := by rw [← he9, LE.snN, hE9, h9]; rfl
  have h7 : F9 = frB (e.h e.i) (e.z e.i) (e.s : Int) m := by rw [← hF9, LE.snF, hE9, h9]; rfl
  rw [h9, h8, h7]
  have hle := e.hle e.i
  have HFR := hide (fun W (hW : KTab W) => frame_any (e.h e.i) (e.z e.i) (by omega) (by omega) e.s (by omega) m (by omega) (by rw [hdB_size _ _ _ (by omega)]; omega) W hW)
  obtain ⟨F, hF⟩ : ∃ z, frB (e.h e.i) (e.z e.i) (e.s : Int) m = z := ⟨_, rfl⟩
  rw [hF] at HFR ⊢
  have HZ := hide (show ∀ W, Blk W g (e.cs.setIfInBounds 2 (.int .i64 ((e.s : Int) + 1))) 50 → EndM W g { e with s := e.s + 1 } from fun W hW => ⟨by
    rw [show ((e.s : Int) + 1) = ((e.s + 1 : Nat) : Int) by omega] at hW
    exact hW, hE.2.k, hE.2.n, hE.2.o, hE.2.i, by show e.s + 1 ≤ 4611686018427387904; omega, hE.2.t, hE.2.m, hE.2.q⟩)
  have HKB := hide (show ∀ W, Below w.heap.size w W → KTab W from fun W hW => hK.below hW hK.1)
  have HBK := hide (show ∀ W, Below w.heap.size w W → Blk W g e.cs 50 from fun W hW => hE.1.below hW hE.lt)
  have HCI := hide (show e.cs[0]? = some (Value.string (e.h e.i)) ∧ e.cs[1]? = some (Value.string (e.z e.i)) ∧ e.cs[2]? = some (Value.int .i64 (e.s : Int)) from ⟨rfl, rfl, rfl⟩)
  have ew : wrap64 ((e.s : Int) + 1) = (e.s : Int) + 1 := wrap64_eq _ (by omega) (by omega)
  have e2 : ¬ (m.size : Int) > 4096 := by omega
  clear hE hE9 he9 hF9 h9 h8 h7 hr hK hs hs9 hle hF HE hl
  obtain ⟨A, hA⟩ : ∃ z, e.h e.i = z := ⟨_, rfl⟩
  obtain ⟨B, hB⟩ : ∃ z, e.z e.i = z := ⟨_, rfl⟩
  obtain ⟨s, hs⟩ : ∃ z, e.s = z := ⟨_, rfl⟩
  obtain ⟨cs, hcs⟩ : ∃ z, e.cs = z := ⟨_, rfl⟩
  rw [hA, hB, hs] at HFR
  rw [hA, hB, hs, hcs] at HCI
  rw [hs] at HC2 e1 ew
  rw [hs, hcs] at HZ
  rw [hcs] at HBK
  rw [hs]
  clear hA hB hs hcs
  go_enter Tryz.func10, Tryz.ntmps10
  go_wp2_with fail
  refine (unhide HM).mono ?_
  rintro ev y ⟨rfl, hb⟩
  have c2 := unhide HC2 y hb
  have hBy := unhide HBK y hb
  have c0 : y.cell? ⟨g, 0, none⟩ = some (.string A) := (hBy.cell 0).trans (unhide HCI).1
  have c1 : y.cell? ⟨g, 1, none⟩ = some (.string B) := (hBy.cell 1).trans (unhide HCI).2.1
  have HF := hide (unhide HFR y.drew (unhide HKB y hb))
  have HF9 := hide (show ∀ z, Below y.drew.heap.size y.drew z → Blk z g cs 50 ∧ Only (fun k => k = g) w z ∧ (z.cell? ⟨g, 0, none⟩ = some (.string A) ∧ z.cell? ⟨g, 1, none⟩ = some (.string B) ∧ z.cell? ⟨g, 2, none⟩ = some (.int .i64 (s : Int))) ∧ z.cell? ⟨g, 2, none⟩ = some (.int .i64 (s : Int)) ∧ z.frozen? ⟨g, 2, none⟩ = false from fun z hz => by
    have h1 : Below w.heap.size w z := hb.trans ((Below.refl _ y).drew.trans hz |>.mono hb.size)
    have h2 := unhide HBK z h1
    exact ⟨h2, Only.of_below h1, ⟨(h2.cell 0).trans (unhide HCI).1, (h2.cell 1).trans (unhide HCI).2.1, (h2.cell 2).trans (unhide HCI).2.2⟩, (h2.cell 2).trans (unhide HCI).2.2, h2.frozen 2⟩)
  clear hb hBy HM HC2 HBK HKB HFR
  go_wp2_with fail
  refine wp_region_held_drew (S := fun W => W.cell? ⟨g, 0, none⟩ = some (.string A) ∧ W.cell? ⟨g, 1, none⟩ = some (.string B) ∧ W.cell? ⟨g, 2, none⟩ = some (.int .i64 (s : Int))) (by kernel_rfl) ⟨c0, c1, c2⟩ ?_
  intro hS
  refine wpAnyH_takeD 0 (some 20) (.pointer (some ⟨g, 0, none⟩)) rfl rfl (by kernel_rfl) (by kernel_rfl) (by kernel_rfl) (fun _ _ _ h => h) (Or.inl ⟨by rfl, fun w hSw => by have hq1 := hSw.1; have hq2 := hSw.2.1; have hq3 := hSw.2.2; clear hSw; go_simp⟩) hS ?_
  simp only [Act.put, List.setIfInBounds_toArray, List.set_cons_zero, List.set_cons_succ]
  refine wpAnyH_takeD 1 (some 21) (.pointer (some ⟨g, 0, none⟩)) rfl rfl (by kernel_rfl) (by kernel_rfl) (by kernel_rfl) (fun _ _ _ h => h) (Or.inl ⟨by rfl, fun w hSw => by have hq1 := hSw.1; have hq2 := hSw.2.1; have hq3 := hSw.2.2; clear hSw; go_simp⟩) hS ?_
  simp only [Act.put, List.setIfInBounds_toArray, List.set_cons_zero, List.set_cons_succ]
  refine wpAnyH_takeD 2 (some 22) (.pointer (some ⟨g, 0, none⟩)) rfl rfl (by kernel_rfl) (by kernel_rfl) (by kernel_rfl) (fun _ _ _ h => h) (Or.inl ⟨by rfl, fun w hSw => by have hq1 := hSw.1; have hq2 := hSw.2.1; have hq3 := hSw.2.2; clear hSw; go_simp⟩) hS ?_
  simp only [Act.put, List.setIfInBounds_toArray, List.set_cons_zero, List.set_cons_succ]
  refine wpAnyH_takeD 3 (some 23) (.agg #[.string A, .string B]) rfl rfl (by kernel_rfl) (by kernel_rfl) (by kernel_rfl) (fun _ _ _ h => h) (Or.inl ⟨by rfl, fun w hSw => by have hq1 := hSw.1; have hq2 := hSw.2.1; have hq3 := hSw.2.2; clear hSw; go_simp⟩) hS ?_
  simp only [Act.put, List.setIfInBounds_toArray, List.set_cons_zero, List.set_cons_succ]
  refine wpAnyH_takeD 4 (some 24) (.pointer (some ⟨g, 0, none⟩)) rfl rfl (by kernel_rfl) (by kernel_rfl) (by kernel_rfl) (fun _ _ _ h => h) (Or.inl ⟨by rfl, fun w hSw => by have hq1 := hSw.1; have hq2 := hSw.2.1; have hq3 := hSw.2.2; clear hSw; go_simp⟩) hS ?_
  simp only [Act.put, List.setIfInBounds_toArray, List.set_cons_zero, List.set_cons_succ]
  refine wpAnyH_takeD 5 (some 25) (.pointer (some ⟨g, 0, none⟩)) rfl rfl (by kernel_rfl) (by kernel_rfl) (by kernel_rfl) (fun _ _ _ h => h) (Or.inl ⟨by rfl, fun w hSw => by have hq1 := hSw.1; have hq2 := hSw.2.1; have hq3 := hSw.2.2; clear hSw; go_simp⟩) hS ?_
  simp only [Act.put, List.setIfInBounds_toArray, List.set_cons_zero, List.set_cons_succ]
  refine wpAnyH_takeD 6 (some 26) (.pointer (some ⟨g, 2, none⟩)) rfl rfl (by kernel_rfl) (by kernel_rfl) (by kernel_rfl) (fun _ _ _ h => h) (Or.inl ⟨by rfl, fun w hSw => by have hq1 := hSw.1; have hq2 := hSw.2.1; have hq3 := hSw.2.2; clear hSw; go_simp⟩) hS ?_
  simp only [Act.put, List.setIfInBounds_toArray, List.set_cons_zero, List.set_cons_succ]
  refine wpAnyH_takeD 7 (some 27) (.int .i64 (s : Int)) rfl rfl (by kernel_rfl) (by kernel_rfl) (by kernel_rfl) (fun _ _ _ h => h) (Or.inl ⟨by rfl, fun w hSw => by have hq1 := hSw.1; have hq2 := hSw.2.1; have hq3 := hSw.2.2; clear hSw; go_simp⟩) hS ?_
  simp only [Act.put, List.setIfInBounds_toArray, List.set_cons_zero, List.set_cons_succ]
  refine wpAnyH_takeD 8 (some 28) (.string m) rfl rfl (by kernel_rfl) (by kernel_rfl) (by kernel_rfl) (fun _ _ _ h => h) (Or.inl ⟨by rfl, fun w hSw => by have hq1 := hSw.1; have hq2 := hSw.2.1; have hq3 := hSw.2.2; clear hSw; go_simp⟩) hS ?_
  simp only [Act.put, List.setIfInBounds_toArray, List.set_cons_zero, List.set_cons_succ]
  refine wpAnyH_ready (rs := [9]) (by kernel_rfl) (by simp) ?_
  refine AllReadyH.cons rfl (fun K hK => ?_) AllReadyH.nil
  simp only [List.getElem_toArray, List.getElem_cons_succ, List.getElem_cons_zero]
  go_simp
  refine (unhide HF).mono ?_
  rintro ev y5 ⟨rfl, hb⟩
  obtain ⟨hB5, hO5, hS9, d2, f2⟩ := unhide HF9 _ hb
  clear hb
  refine hK.out _ _ hS9 (fun hS => ?_)
  clear hK K
  refine wpAnyH_takeD 10 (some 6) (.string F) rfl rfl (by kernel_rfl) (by kernel_rfl) (by kernel_rfl) (fun _ _ _ h => h) (Or.inl ⟨by rfl, fun w hSw => by have hq1 := hSw.1; have hq2 := hSw.2.1; have hq3 := hSw.2.2; clear hSw; go_simp⟩) hS ?_
  simp only [Act.put, List.setIfInBounds_toArray, List.set_cons_zero, List.set_cons_succ]
  refine wpAnyH_done (by kernel_rfl) ?_ _
  have HE8 := hide (show EndM (y5.setCell ⟨g, 2, none⟩ (.int .i64 ((s : Int) + 1))) g { e with s := s + 1 } from unhide HZ _ (hB5.set 2 _))
  have HO8 := hide (show Only (fun k => k = g) w (y5.setCell ⟨g, 2, none⟩ (.int .i64 ((s : Int) + 1))) from hO5.setCell _ _ (fun _ => rfl))
  clear hB5 hO5 hS hS9 c0 c1 c2 e1 e2
  go_wp2
  go_ret2
  exact ⟨rfl, unhide HE8, unhide HO8⟩
end Go.Proofs.YtifjmldmilmfjaaGreatDoor
