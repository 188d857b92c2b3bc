import Derived.Test.YtifjmldmilmfjaaGreatDoorMp15
namespace Go.Proofs.YtifjmldmilmfjaaGreatDoor
open Go.RowKit
set_option maxRecDepth 100000
/-- what Greet says, and what an end is behind it -/
def LE.grE (e : LE) (f : ByteArray) : Int := if e.c || e.r then 211 else if grB e.k (1 - e.i) f then 0 else 212
def LE.grN (e : LE) (f : ByteArray) : LE := if e.grE f = 0 then { e with r := true, o := f.extract 3 19 } else e
set_option maxHeartbeats 4000000 in
theorem lgreet_any (g : Nat) (e : LE) (f : ByteArray) (_hf : f.size ≤ 140737488355000) (w : World) (hE : EndM w g e) (hK : KTab w) (hv : 1 < g) : Calls Tryz.prog 17 #[.pointer (some ⟨g, 0, none⟩), .string f] w fun ev w' => ev = .returned (.int .i64 (e.grE f)) ∧ EndM w' g (e.grN f) ∧ Only (fun k => k = g) w w' := by
  have c11 : w.cell? ⟨g, 11, none⟩ = some (.bool e.c) := hE.1.cell 11
  obtain ⟨E9, hE9⟩ : ∃ z, e.grE f = z := ⟨_, rfl⟩
  obtain ⟨e9, he9⟩ : ∃ z, e.grN f = z := ⟨_, rfl⟩
  rw [hE9, he9]
  cases hc : e.c
  · rw [hc] at c11
    have HR := hide (lready_any g e w hE)
    cases hr : e.r
    · rw [hr] at HR
      have c8 : w.cell? ⟨g, 8, none⟩ = some (.string e.k) := by have := hE.1.cell 8; rw [this]; show some (Value.string e.ck) = _; rw [LE.ck, hc]; rfl
      have c9 : w.cell? ⟨g, 9, none⟩ = some (.int .i64 (e.i : Int)) := hE.1.cell 9
      have hi := hE.2.i
      have e3 : wrap64 (1 - (e.i : Int)) = ((1 - e.i : Nat) : Int) := by rw [wrap64_eq _ (by omega) (by omega)]; omega
      have HGR := hide (fun W (hW : KTab W) => greeted_any e.k (1 - e.i) f (by rw [hE.2.k]; decide) (by omega) W hW)
      obtain ⟨G, hG⟩ : ∃ z, grB e.k (1 - e.i) f = z := ⟨_, rfl⟩
      rw [hG] at HGR
      have HCC := hide (show ∀ W, Below w.heap.size w W → W.cell? ⟨g, 8, none⟩ = some (.string e.k) ∧ W.cell? ⟨g, 9, none⟩ = some (.int .i64 (e.i : Int)) ∧ KTab W from fun W hW => ⟨(hW.cell (p := ⟨g, 8, none⟩) hE.lt).trans c8, (hW.cell (p := ⟨g, 9, none⟩) hE.lt).trans c9, hK.below hW hK.1⟩)
      have HE := hide hE
      cases G
      · have h9 : E9 = 212 := by rw [← hE9, LE.grE, hc, hr, hG]; rfl
        have h8 : e9 = e := by rw [← he9, LE.grN, hE9, h9]; rfl
        subst h8
        rw [h9]
        simp only [if_neg (show ¬ (false = true) by decide)] at HGR
        clear hE hE9 he9 h9 hr hc hK hG hi
        obtain ⟨jn, hjn⟩ : ∃ z, 1 - e9.i = z := ⟨_, rfl⟩
        rw [hjn] at HGR e3
        go_enter Tryz.func17, Tryz.ntmps17
        go_wp2_with fail
        refine (unhide HR).mono ?_
        rintro ev y ⟨rfl, hb⟩
        have hcc := unhide HCC y hb
        have d8 := hcc.1
        have d9 := hcc.2.1
        have HK1 := hide hcc.2.2
        have HB := hide hb
        clear hb hcc c8 c9 c11
        go_wp2_with fail
        refine (unhide HGR y (unhide HK1)).mono ?_
        rintro ev y2 ⟨rfl, hb⟩
        have hb2 := (unhide HB).trans (hb.mono (unhide HB).size)
        have HB2 := hide (And.intro ((unhide HE).below hb2 (unhide HE).lt) (Only.of_below (P := fun k => k = g) hb2))
        clear hb hb2
        go_wp2
        go_ret
        exact ⟨rfl, (unhide HB2).1, (unhide HB2).2⟩
      · have h9 : E9 = 0 := by rw [← hE9, LE.grE, hc, hr, hG]; rfl
        have h8 : e9 = { e with r := true, o := f.extract 3 19 } := by rw [← he9, LE.grN, hE9, h9]; rfl
        have hos : (f.extract 3 19).size = 16 := by
          have := of_decide_eq_true hG
          rw [ByteArray.size_extract]
          omega
        rw [h9, h8]
        simp only [if_true] at HGR
        obtain ⟨o, ho⟩ : ∃ z, f.extract 3 19 = z := ⟨_, rfl⟩
        rw [ho] at HGR hos ⊢
        obtain ⟨a, ha⟩ : ∃ z, LE.a { e with r := true, o := o } = z := ⟨_, rfl⟩
        obtain ⟨b, hb9⟩ : ∃ z, LE.b { e with r := true, o := o } = z := ⟨_, rfl⟩
        have hab : (e.i = 0 → a = e.n ∧ b = o) ∧ (e.i = 1 → a = o ∧ b = e.n) := by
          rw [← ha, ← hb9]
          unfold LE.a LE.b
          exact ⟨fun q => ⟨if_pos q, if_pos q⟩, fun q => ⟨if_neg (by show ¬ e.i = 0; omega), if_neg (by show ¬ e.i = 0; omega)⟩⟩
        have has : a.size ≤ 1000 ∧ b.size ≤ 1000 := by
          have h1 := hE.2.n
          obtain q | q : e.i = 0 ∨ e.i = 1 := by omega
          · rw [(hab.1 q).1, (hab.1 q).2]; omega
          · rw [(hab.2 q).1, (hab.2 q).2]; omega
        have HKO1 := hide (fun W (hW : KTab W) => keysOf_any e.k a b e.i (by rw [hE.2.k]; decide) has.1 has.2 (by omega) W hW)
        have HKO2 := hide (fun W (hW : KTab W) => keysOf_any e.k a b (1 - e.i) (by rw [hE.2.k]; decide) has.1 has.2 (by omega) W hW)
        obtain ⟨A, hA⟩ : ∃ z, hiB e.k a b e.i = z := ⟨_, rfl⟩
        obtain ⟨B, hB⟩ : ∃ z, seB e.k a b e.i = z := ⟨_, rfl⟩
        obtain ⟨C, hC⟩ : ∃ z, hiB e.k a b (1 - e.i) = z := ⟨_, rfl⟩
        obtain ⟨D, hD⟩ : ∃ z, seB e.k a b (1 - e.i) = z := ⟨_, rfl⟩
        rw [hA, hB] at HKO1
        rw [hC, hD] at HKO2
        have HZ := hide (show ∀ W, Blk W g ((((e.cs.setIfInBounds 0 (.string A)).setIfInBounds 1 (.string B)).setIfInBounds 3 (.string C)).setIfInBounds 4 (.string D)) 50 → EndM W g { e with r := true, o := o } from fun W hW => by
          refine ⟨?_, hE.2.k, hE.2.n, fun _ => ⟨hos, hc⟩, hE.2.i, hE.2.s, hE.2.t, hE.2.m, hE.2.q⟩
          rw [← hA, ← hB, ← hC, ← hD, ← ha, ← hb9] at hW
          exact hW)
        have HAB := hide hab
        have HC := hide hc
        have hgw := hE.lt
        obtain ⟨j, hj⟩ : ∃ z, 1 - e.i = z := ⟨_, rfl⟩
        rw [hj] at HKO2 HGR e3
        have hj2 : j < 2 := by omega
        have HIJ := hide (show e.i = 0 ∧ j = 1 ∨ e.i = 1 ∧ j = 0 by omega)
        have HI12 := hide (show (e.i : Int) < 2 ∧ (j : Int) < 2 from ⟨by omega, by omega⟩)
        clear hj hi hj2
        clear hA hB hC hD ha hb9 hab has hE hE9 he9 h9 h8 hr hG hos ho hK
        go_enter Tryz.func17, Tryz.ntmps17
        go_wp2_with fail
        refine (unhide HR).mono ?_
        rintro ev y ⟨rfl, hb⟩
        have hcc := unhide HCC y hb
        have d8 := hcc.1
        have d9 := hcc.2.1
        have HK1 := hide hcc.2.2
        have HB := hide hb
        clear hb hcc c8 c9 c11
        go_wp2_with fail
        refine (unhide HGR y (unhide HK1)).mono ?_
        rintro ev y2 ⟨rfl, hb⟩
        have HB2 := hide ((unhide HB).trans (hb.mono (unhide HB).size))
        clear hb d8 d9 HB HR HK1 HGR
        obtain ⟨b0, hb0⟩ : ∃ z, y2.heap.size = z := ⟨_, rfl⟩
        obtain ⟨x3, hx3⟩ : ∃ z, y2.alloc (.cells #[.string ⟨#[]⟩, .string ⟨#[]⟩] 88) = z := ⟨_, rfl⟩
        have hgb : g < b0 := by have := (unhide HB2).size; omega
        have HB3 := hide (show Below w.heap.size w x3 from by rw [← hx3]; exact (unhide HB2).alloc (unhide HB2).size _)
        have HN3 := hide (show Blk x3 b0 #[.string ⟨#[]⟩, .string ⟨#[]⟩] 88 from by rw [← hx3, ← hb0]; exact Blk.new _ _ _)
        have HE3 := hide ((unhide HE).below (unhide HB3) hgw)
        have c9 : x3.cell? ⟨g, 9, none⟩ = some (.int .i64 (e.i : Int)) := (unhide HE3).1.cell 9
        have c10 : x3.cell? ⟨g, 10, none⟩ = some (.string e.n) := by have := (unhide HE3).1.cell 10; rw [this]; show some (Value.string e.cn) = _; rw [LE.cn, unhide HC]; rfl
        have k0 : x3.cell? ⟨b0, 0, none⟩ = some (.string ⟨#[]⟩) := (unhide HN3).cell 0
        have k1 : x3.cell? ⟨b0, 1, none⟩ = some (.string ⟨#[]⟩) := (unhide HN3).cell 1
        have ki : x3.cell? ⟨b0, e.i, none⟩ = some (.string ⟨#[]⟩) := by
          obtain ⟨q, _⟩ | ⟨q, _⟩ := unhide HIJ
          · rw [q]; exact k0
          · rw [q]; exact k1
        have kj : x3.cell? ⟨b0, j, none⟩ = some (.string ⟨#[]⟩) := by
          obtain ⟨_, q⟩ | ⟨_, q⟩ := unhide HIJ
          · rw [q]; exact k1
          · rw [q]; exact k0
        have fi := (unhide HN3).frozen e.i
        have fj := (unhide HN3).frozen j
        have HS8 := hide (show ∀ (W : World) (o1 : Nat) (v1 : Value), (W.cell? ⟨g, 9, none⟩ = some (.int .i64 (e.i : Int)) ∧ W.cell? ⟨g, 10, none⟩ = some (.string e.n)) → ((W.setCell ⟨b0, o1, none⟩ v1).cell? ⟨g, 9, none⟩ = some (.int .i64 (e.i : Int)) ∧ (W.setCell ⟨b0, o1, none⟩ v1).cell? ⟨g, 10, none⟩ = some (.string e.n)) from fun W o1 v1 hW => ⟨(World.cell?_setCell_other _ _ _ _ (by simp <;> omega)).trans hW.1, (World.cell?_setCell_other _ _ _ _ (by simp <;> omega)).trans hW.2⟩)
        have hij : ¬ e.i = j := by have := unhide HIJ; omega
        clear k0 k1
        go_wp2_with fail
        refine wp_region_held_drew (S := fun W => W.cell? ⟨g, 9, none⟩ = some (.int .i64 (e.i : Int)) ∧ W.cell? ⟨g, 10, none⟩ = some (.string e.n)) (by kernel_rfl) ⟨c9, c10⟩ ?_
        intro hS
        refine wpAnyH_takeD 0 (some 34) (.pointer (some ⟨g, 0, none⟩)) rfl rfl (by kernel_rfl) (by kernel_rfl) (by kernel_rfl) (fun _ _ _ h => h) (Or.inl ⟨by rfl, fun w hSw => by have hq9 := hSw.1; have hq10 := hSw.2; clear hSw; have hi1 := (unhide HI12).1; have hi2 := (unhide HI12).2; go_simp⟩) hS ?_
        simp only [Act.put, List.setIfInBounds_toArray, List.set_cons_zero, List.set_cons_succ]
        refine wpAnyH_takeD 1 (some 35) (.pointer (some ⟨g, 0, none⟩)) rfl rfl (by kernel_rfl) (by kernel_rfl) (by kernel_rfl) (fun _ _ _ h => h) (Or.inl ⟨by rfl, fun w hSw => by have hq9 := hSw.1; have hq10 := hSw.2; clear hSw; have hi1 := (unhide HI12).1; have hi2 := (unhide HI12).2; go_simp⟩) hS ?_
        simp only [Act.put, List.setIfInBounds_toArray, List.set_cons_zero, List.set_cons_succ]
        refine wpAnyH_takeD 2 (some 36) (.pointer (some ⟨g, 9, none⟩)) rfl rfl (by kernel_rfl) (by kernel_rfl) (by kernel_rfl) (fun _ _ _ h => h) (Or.inl ⟨by rfl, fun w hSw => by have hq9 := hSw.1; have hq10 := hSw.2; clear hSw; have hi1 := (unhide HI12).1; have hi2 := (unhide HI12).2; go_simp⟩) hS ?_
        simp only [Act.put, List.setIfInBounds_toArray, List.set_cons_zero, List.set_cons_succ]
        refine wpAnyH_takeD 3 (some 37) (.int .i64 (e.i : Int)) rfl rfl (by kernel_rfl) (by kernel_rfl) (by kernel_rfl) (fun _ _ _ h => h) (Or.inl ⟨by rfl, fun w hSw => by have hq9 := hSw.1; have hq10 := hSw.2; clear hSw; have hi1 := (unhide HI12).1; have hi2 := (unhide HI12).2; go_simp⟩) hS ?_
        simp only [Act.put, List.setIfInBounds_toArray, List.set_cons_zero, List.set_cons_succ]
        refine wpAnyH_takeD 4 (some 38) (.int .i64 (j : Int)) rfl rfl (by kernel_rfl) (by kernel_rfl) (by kernel_rfl) (fun _ _ _ h => h) (Or.inl ⟨by rfl, fun w hSw => by have hq9 := hSw.1; have hq10 := hSw.2; clear hSw; have hi1 := (unhide HI12).1; have hi2 := (unhide HI12).2; go_simp⟩) hS ?_
        simp only [Act.put, List.setIfInBounds_toArray, List.set_cons_zero, List.set_cons_succ]
        refine wpAnyH_takeD 5 (some 39) (.pointer (some ⟨g, 0, none⟩)) rfl rfl (by kernel_rfl) (by kernel_rfl) (by kernel_rfl) (fun _ _ _ h => h) (Or.inl ⟨by rfl, fun w hSw => by have hq9 := hSw.1; have hq10 := hSw.2; clear hSw; have hi1 := (unhide HI12).1; have hi2 := (unhide HI12).2; go_simp⟩) hS ?_
        simp only [Act.put, List.setIfInBounds_toArray, List.set_cons_zero, List.set_cons_succ]
        refine wpAnyH_takeD 6 (some 40) (.pointer (some ⟨g, 0, none⟩)) rfl rfl (by kernel_rfl) (by kernel_rfl) (by kernel_rfl) (fun _ _ _ h => h) (Or.inl ⟨by rfl, fun w hSw => by have hq9 := hSw.1; have hq10 := hSw.2; clear hSw; have hi1 := (unhide HI12).1; have hi2 := (unhide HI12).2; go_simp⟩) hS ?_
        simp only [Act.put, List.setIfInBounds_toArray, List.set_cons_zero, List.set_cons_succ]
        refine wpAnyH_takeD 7 (some 41) (.pointer (some ⟨g, 10, none⟩)) rfl rfl (by kernel_rfl) (by kernel_rfl) (by kernel_rfl) (fun _ _ _ h => h) (Or.inl ⟨by rfl, fun w hSw => by have hq9 := hSw.1; have hq10 := hSw.2; clear hSw; have hi1 := (unhide HI12).1; have hi2 := (unhide HI12).2; go_simp⟩) hS ?_
        simp only [Act.put, List.setIfInBounds_toArray, List.set_cons_zero, List.set_cons_succ]
        refine wpAnyH_takeD 8 (some 42) (.string e.n) rfl rfl (by kernel_rfl) (by kernel_rfl) (by kernel_rfl) (fun _ _ _ h => h) (Or.inl ⟨by rfl, fun w hSw => by have hq9 := hSw.1; have hq10 := hSw.2; clear hSw; have hi1 := (unhide HI12).1; have hi2 := (unhide HI12).2; go_simp⟩) hS ?_
        simp only [Act.put, List.setIfInBounds_toArray, List.set_cons_zero, List.set_cons_succ]
        refine wpAnyH_takeD 9 (some 43) (.string o) rfl rfl (by kernel_rfl) (by kernel_rfl) (by kernel_rfl) (fun _ _ _ h => h) (Or.inl ⟨by rfl, fun w hSw => by have hq9 := hSw.1; have hq10 := hSw.2; clear hSw; have hi1 := (unhide HI12).1; have hi2 := (unhide HI12).2; go_simp⟩) hS ?_
        simp only [Act.put, List.setIfInBounds_toArray, List.set_cons_zero, List.set_cons_succ]
        refine wpAnyH_takeD 10 (some 44) (.pointer (some ⟨b0, e.i, none⟩)) rfl rfl (by kernel_rfl) (by kernel_rfl) (by kernel_rfl) (fun _ _ _ h => h) (Or.inl ⟨by rfl, fun w hSw => by have hq9 := hSw.1; have hq10 := hSw.2; clear hSw; have hi1 := (unhide HI12).1; have hi2 := (unhide HI12).2; go_simp⟩) hS ?_
        simp only [Act.put, List.setIfInBounds_toArray, List.set_cons_zero, List.set_cons_succ]
        refine wpAnyH_ready (rs := [11]) (by kernel_rfl) (by simp) ?_
        refine AllReadyH.cons rfl (fun K hK => ?_) AllReadyH.nil
        simp only [List.getElem_toArray, List.getElem_cons_succ, List.getElem_cons_zero]
        go_simp
        refine hK.out _ _ (unhide HS8 _ _ _ hS) (fun hS => ?_)
        clear hK K
        refine wpAnyH_takeD 12 (some 45) (.pointer (some ⟨b0, j, none⟩)) rfl rfl (by kernel_rfl) (by kernel_rfl) (by kernel_rfl) (fun _ _ _ h => h) (Or.inl ⟨by rfl, fun w hSw => by have hq9 := hSw.1; have hq10 := hSw.2; clear hSw; have hi1 := (unhide HI12).1; have hi2 := (unhide HI12).2; go_simp⟩) hS ?_
        simp only [Act.put, List.setIfInBounds_toArray, List.set_cons_zero, List.set_cons_succ]
        refine wpAnyH_ready (rs := [13]) (by kernel_rfl) (by simp) ?_
        refine AllReadyH.cons rfl (fun K hK => ?_) AllReadyH.nil
        simp only [List.getElem_toArray, List.getElem_cons_succ, List.getElem_cons_zero]
        go_simp
        refine hK.out _ _ (unhide HS8 _ _ _ hS) (fun hS => ?_)
        clear hK K
        refine wpAnyH_done (by kernel_rfl) ?_ _
        obtain ⟨x4, hx4⟩ : ∃ z, ((x3.setCell ⟨b0, e.i, none⟩ (.string e.n)).setCell ⟨b0, j, none⟩ (.string o)).drew = z := ⟨_, rfl⟩
        rw [hx4]
        have hO4 : Only (fun k => k = b0) x3 x4 := by
          rw [← hx4]
          refine Only.drew ?_
          iterate 2 refine Only.setCell ?_ _ _ (fun _ => rfl)
          exact Only.refl _ _
        have HN4 := hide (show Blk x4 b0 #[.string a, .string b] 88 from by
          have h1 := ((unhide HN3).set e.i (.string e.n)).set j (.string o)
          rw [← hx4]
          have hAB := unhide HAB
          obtain ⟨q1, q2⟩ | ⟨q1, q2⟩ := unhide HIJ
          · rw [(hAB.1 q1).1, (hAB.1 q1).2]
            rw [q1, q2] at h1 ⊢
            exact h1
          · rw [(hAB.2 q1).1, (hAB.2 q1).2]
            rw [q1, q2] at h1 ⊢
            exact h1)
        have HE4 := hide ((unhide HE3).only hO4 (by omega))
        have HB4 := hide (show Below w.heap.size w x4 from (unhide HB3).trans (hO4.below (unhide HB3).size (fun k hk q => by have := (unhide HB2).size; omega)))
        have HK4 := hide (show KTab x4.drew from (unhide HCC _ (unhide HB4)).2.2)
        have hk8 : e.ck = e.k := by rw [LE.ck, unhide HC]; rfl
        have HS9 := hide (show x4.drew.cell? ⟨g, 8, none⟩ = some (.string e.k) ∧ x4.drew.cell? ⟨g, 9, none⟩ = some (.int .i64 (e.i : Int)) ∧ x4.drew.cell? ⟨b0, 0, none⟩ = some (.string a) ∧ x4.drew.cell? ⟨b0, 1, none⟩ = some (.string b) from ⟨by rw [← hk8]; exact (unhide HE4).1.cell 8, (unhide HE4).1.cell 9, (unhide HN4).cell 0, (unhide HN4).cell 1⟩)
        have HF9 := hide (show ∀ y, Below x4.drew.heap.size x4.drew y → Blk y g e.cs 50 ∧ Blk y b0 #[.string a, .string b] 88 ∧ Below w.heap.size w y ∧ (y.cell? ⟨g, 8, none⟩ = some (.string e.k) ∧ y.cell? ⟨g, 9, none⟩ = some (.int .i64 (e.i : Int)) ∧ y.cell? ⟨b0, 0, none⟩ = some (.string a) ∧ y.cell? ⟨b0, 1, none⟩ = some (.string b)) ∧ y.cell? ⟨g, 0, none⟩ = some (.string (e.h e.i)) ∧ y.cell? ⟨g, 1, none⟩ = some (.string (e.z e.i)) ∧ y.frozen? ⟨g, 0, none⟩ = false ∧ y.frozen? ⟨g, 1, none⟩ = false from fun y hy => by
          have hy' : Below x4.heap.size x4 y := (Below.refl _ x4).drew.trans hy
          have h1 := (unhide HE4).1.below hy' (unhide HE4).lt
          have h2 := (unhide HN4).below hy' (unhide HN4).lt
          exact ⟨h1, h2, (unhide HB4).trans (hy'.mono (unhide HB4).size), ⟨by rw [← hk8]; exact h1.cell 8, h1.cell 9, h2.cell 0, h2.cell 1⟩, h1.cell 0, h1.cell 1, h1.frozen 0, h1.frozen 1⟩)
        have HT9 := hide (show ∀ y, Blk y g e.cs 50 → Blk y b0 #[.string a, .string b] 88 → (((y.setCell ⟨g, 0, none⟩ (.string A)).setCell ⟨g, 1, none⟩ (.string B)).cell? ⟨g, 8, none⟩ = some (.string e.k) ∧ ((y.setCell ⟨g, 0, none⟩ (.string A)).setCell ⟨g, 1, none⟩ (.string B)).cell? ⟨g, 9, none⟩ = some (.int .i64 (e.i : Int)) ∧ ((y.setCell ⟨g, 0, none⟩ (.string A)).setCell ⟨g, 1, none⟩ (.string B)).cell? ⟨b0, 0, none⟩ = some (.string a) ∧ ((y.setCell ⟨g, 0, none⟩ (.string A)).setCell ⟨g, 1, none⟩ (.string B)).cell? ⟨b0, 1, none⟩ = some (.string b)) from fun y h1 h2 => by
          have h3 := (h1.set 0 (.string A)).set 1 (.string B)
          have h4 := (h2.other ⟨g, 0, none⟩ (.string A) (by show g ≠ b0; omega)).other ⟨g, 1, none⟩ (.string B) (by show g ≠ b0; omega)
          exact ⟨by rw [← hk8]; exact h3.cell 8, h3.cell 9, h4.cell 0, h4.cell 1⟩)
        have HK8 := hide hk8
        clear hx4 hO4 hS ki kj fi fj c9 c10 hij hk8 HE3 HN3 HB3 HB2 hx3 HS8
        go_wp2_with fail
        refine wp_region_held_drew (S := fun W => W.cell? ⟨g, 8, none⟩ = some (.string e.k) ∧ W.cell? ⟨g, 9, none⟩ = some (.int .i64 (e.i : Int)) ∧ W.cell? ⟨b0, 0, none⟩ = some (.string a) ∧ W.cell? ⟨b0, 1, none⟩ = some (.string b)) (by kernel_rfl) (unhide HS9) ?_
        intro hS
        refine wpAnyH_takeD 0 (some 46) (.pointer (some ⟨g, 0, none⟩)) rfl rfl (by kernel_rfl) (by kernel_rfl) (by kernel_rfl) (fun _ _ _ h => h) (Or.inl ⟨by rfl, fun w hSw => by have hq1 := hSw.1; have hq2 := hSw.2.1; have hq3 := hSw.2.2.1; have hq4 := hSw.2.2.2; clear hSw; go_simp⟩) hS ?_
        simp only [Act.put, List.setIfInBounds_toArray, List.set_cons_zero, List.set_cons_succ]
        refine wpAnyH_takeD 1 (some 47) (.pointer (some ⟨g, 0, none⟩)) rfl rfl (by kernel_rfl) (by kernel_rfl) (by kernel_rfl) (fun _ _ _ h => h) (Or.inl ⟨by rfl, fun w hSw => by have hq1 := hSw.1; have hq2 := hSw.2.1; have hq3 := hSw.2.2.1; have hq4 := hSw.2.2.2; clear hSw; go_simp⟩) hS ?_
        simp only [Act.put, List.setIfInBounds_toArray, List.set_cons_zero, List.set_cons_succ]
        refine wpAnyH_takeD 2 (some 48) (.pointer (some ⟨g, 0, none⟩)) rfl rfl (by kernel_rfl) (by kernel_rfl) (by kernel_rfl) (fun _ _ _ h => h) (Or.inl ⟨by rfl, fun w hSw => by have hq1 := hSw.1; have hq2 := hSw.2.1; have hq3 := hSw.2.2.1; have hq4 := hSw.2.2.2; clear hSw; go_simp⟩) hS ?_
        simp only [Act.put, List.setIfInBounds_toArray, List.set_cons_zero, List.set_cons_succ]
        refine wpAnyH_takeD 3 (some 49) (.pointer (some ⟨g, 8, none⟩)) rfl rfl (by kernel_rfl) (by kernel_rfl) (by kernel_rfl) (fun _ _ _ h => h) (Or.inl ⟨by rfl, fun w hSw => by have hq1 := hSw.1; have hq2 := hSw.2.1; have hq3 := hSw.2.2.1; have hq4 := hSw.2.2.2; clear hSw; go_simp⟩) hS ?_
        simp only [Act.put, List.setIfInBounds_toArray, List.set_cons_zero, List.set_cons_succ]
        refine wpAnyH_takeD 4 (some 50) (.string e.k) rfl rfl (by kernel_rfl) (by kernel_rfl) (by kernel_rfl) (fun _ _ _ h => h) (Or.inl ⟨by rfl, fun w hSw => by have hq1 := hSw.1; have hq2 := hSw.2.1; have hq3 := hSw.2.2.1; have hq4 := hSw.2.2.2; clear hSw; go_simp⟩) hS ?_
        simp only [Act.put, List.setIfInBounds_toArray, List.set_cons_zero, List.set_cons_succ]
        refine wpAnyH_takeD 5 (some 51) (.agg #[.string a, .string b]) rfl rfl (by kernel_rfl) (by kernel_rfl) (by kernel_rfl) (fun _ _ _ h => h) (Or.inl ⟨by rfl, fun w hSw => by have hq1 := hSw.1; have hq2 := hSw.2.1; have hq3 := hSw.2.2.1; have hq4 := hSw.2.2.2; clear hSw; go_simp⟩) hS ?_
        simp only [Act.put, List.setIfInBounds_toArray, List.set_cons_zero, List.set_cons_succ]
        refine wpAnyH_takeD 6 (some 52) (.pointer (some ⟨g, 0, none⟩)) rfl rfl (by kernel_rfl) (by kernel_rfl) (by kernel_rfl) (fun _ _ _ h => h) (Or.inl ⟨by rfl, fun w hSw => by have hq1 := hSw.1; have hq2 := hSw.2.1; have hq3 := hSw.2.2.1; have hq4 := hSw.2.2.2; clear hSw; go_simp⟩) hS ?_
        simp only [Act.put, List.setIfInBounds_toArray, List.set_cons_zero, List.set_cons_succ]
        refine wpAnyH_takeD 7 (some 53) (.pointer (some ⟨g, 0, none⟩)) rfl rfl (by kernel_rfl) (by kernel_rfl) (by kernel_rfl) (fun _ _ _ h => h) (Or.inl ⟨by rfl, fun w hSw => by have hq1 := hSw.1; have hq2 := hSw.2.1; have hq3 := hSw.2.2.1; have hq4 := hSw.2.2.2; clear hSw; go_simp⟩) hS ?_
        simp only [Act.put, List.setIfInBounds_toArray, List.set_cons_zero, List.set_cons_succ]
        refine wpAnyH_takeD 8 (some 54) (.pointer (some ⟨g, 9, none⟩)) rfl rfl (by kernel_rfl) (by kernel_rfl) (by kernel_rfl) (fun _ _ _ h => h) (Or.inl ⟨by rfl, fun w hSw => by have hq1 := hSw.1; have hq2 := hSw.2.1; have hq3 := hSw.2.2.1; have hq4 := hSw.2.2.2; clear hSw; go_simp⟩) hS ?_
        simp only [Act.put, List.setIfInBounds_toArray, List.set_cons_zero, List.set_cons_succ]
        refine wpAnyH_takeD 9 (some 55) (.int .i64 (e.i : Int)) rfl rfl (by kernel_rfl) (by kernel_rfl) (by kernel_rfl) (fun _ _ _ h => h) (Or.inl ⟨by rfl, fun w hSw => by have hq1 := hSw.1; have hq2 := hSw.2.1; have hq3 := hSw.2.2.1; have hq4 := hSw.2.2.2; clear hSw; go_simp⟩) hS ?_
        simp only [Act.put, List.setIfInBounds_toArray, List.set_cons_zero, List.set_cons_succ]
        refine wpAnyH_ready (rs := [10]) (by kernel_rfl) (by simp) ?_
        refine AllReadyH.cons rfl (fun K hK => ?_) AllReadyH.nil
        simp only [List.getElem_toArray, List.getElem_cons_succ, List.getElem_cons_zero]
        go_simp
        refine (unhide HKO1 _ (unhide HK4)).mono ?_
        rintro ev y5 ⟨rfl, hb⟩
        obtain ⟨hB5, hN5, HL5, hS9, c0, c1, f0, f1⟩ := unhide HF9 _ hb
        clear hb
        refine hK.out _ _ hS9 (fun hS => ?_)
        clear hK K
        refine wpAnyH_takeD 11 (some 57) (.pointer (some ⟨g, 0, none⟩)) rfl rfl (by kernel_rfl) (by kernel_rfl) (by kernel_rfl) (fun _ _ _ h => h) (Or.inl ⟨by rfl, fun w hSw => by have hq1 := hSw.1; have hq2 := hSw.2.1; have hq3 := hSw.2.2.1; have hq4 := hSw.2.2.2; clear hSw; go_simp⟩) hS ?_
        simp only [Act.put, List.setIfInBounds_toArray, List.set_cons_zero, List.set_cons_succ]
        refine wpAnyH_takeD 12 (some 58) (.pointer (some ⟨g, 0, none⟩)) rfl rfl (by kernel_rfl) (by kernel_rfl) (by kernel_rfl) (fun _ _ _ h => h) (Or.inl ⟨by rfl, fun w hSw => by have hq1 := hSw.1; have hq2 := hSw.2.1; have hq3 := hSw.2.2.1; have hq4 := hSw.2.2.2; clear hSw; go_simp⟩) hS ?_
        simp only [Act.put, List.setIfInBounds_toArray, List.set_cons_zero, List.set_cons_succ]
        refine wpAnyH_takeD 13 (some 59) (.pointer (some ⟨g, 0, none⟩)) rfl rfl (by kernel_rfl) (by kernel_rfl) (by kernel_rfl) (fun _ _ _ h => h) (Or.inl ⟨by rfl, fun w hSw => by have hq1 := hSw.1; have hq2 := hSw.2.1; have hq3 := hSw.2.2.1; have hq4 := hSw.2.2.2; clear hSw; go_simp⟩) hS ?_
        simp only [Act.put, List.setIfInBounds_toArray, List.set_cons_zero, List.set_cons_succ]
        refine wpAnyH_ready (rs := [14]) (by kernel_rfl) (by simp) ?_
        refine AllReadyH.cons rfl (fun K hK => ?_) AllReadyH.nil
        simp only [List.getElem_toArray, List.getElem_cons_succ, List.getElem_cons_zero]
        go_simp
        refine hK.out _ _ (unhide HT9 _ hB5 hN5) (fun hS => ?_)
        clear hK K
        refine wpAnyH_done (by kernel_rfl) ?_ _
        obtain ⟨x6, hx6⟩ : ∃ z, (y5.setCell ⟨g, 0, none⟩ (.string A)).setCell ⟨g, 1, none⟩ (.string B) = z := ⟨_, rfl⟩
        rw [hx6] at hS ⊢
        have HE6 := hide (show Blk x6 g ((e.cs.setIfInBounds 0 (.string A)).setIfInBounds 1 (.string B)) 50 from by rw [← hx6]; exact (hB5.set 0 (.string A)).set 1 (.string B))
        have HN6 := hide (show Blk x6 b0 #[.string a, .string b] 88 from by rw [← hx6]; exact (hN5.other ⟨g, 0, none⟩ (.string A) (by show g ≠ b0; omega)).other ⟨g, 1, none⟩ (.string B) (by show g ≠ b0; omega))
        have HO6 := hide (show Only (fun k => k = g) w x6 from by
          rw [← hx6]
          iterate 2 refine Only.setCell ?_ _ _ (fun _ => rfl)
          exact Only.of_below HL5)
        have HK6 := hide (show KTab x6.drew from by
          have h1 : KTab y5 := (unhide HCC _ HL5).2.2
          have h2 : Touch g y5 x6 := by rw [← hx6]; exact ((Touch.refl _ _).setCell _ _).setCell _ _
          exact h1.touch h2.drew hv)
        have HS10 := hide (show x6.drew.cell? ⟨g, 8, none⟩ = some (.string e.k) ∧ x6.drew.cell? ⟨g, 9, none⟩ = some (.int .i64 (e.i : Int)) ∧ x6.drew.cell? ⟨b0, 0, none⟩ = some (.string a) ∧ x6.drew.cell? ⟨b0, 1, none⟩ = some (.string b) from hS)
        have HF10 := hide (show ∀ y, Below x6.drew.heap.size x6.drew y → Blk y g ((e.cs.setIfInBounds 0 (.string A)).setIfInBounds 1 (.string B)) 50 ∧ Blk y b0 #[.string a, .string b] 88 ∧ Only (fun k => k = g) w y ∧ (y.cell? ⟨g, 8, none⟩ = some (.string e.k) ∧ y.cell? ⟨g, 9, none⟩ = some (.int .i64 (e.i : Int)) ∧ y.cell? ⟨b0, 0, none⟩ = some (.string a) ∧ y.cell? ⟨b0, 1, none⟩ = some (.string b)) ∧ y.cell? ⟨g, 3, none⟩ = some (.string (e.h (1 - e.i))) ∧ y.cell? ⟨g, 4, none⟩ = some (.string (e.z (1 - e.i))) ∧ y.frozen? ⟨g, 3, none⟩ = false ∧ y.frozen? ⟨g, 4, none⟩ = false from fun y hy => by
          have hy' : Below x6.heap.size x6 y := (Below.refl _ x6).drew.trans hy
          have h1 := (unhide HE6).below hy' (unhide HE6).lt
          have h2 := (unhide HN6).below hy' (unhide HN6).lt
          exact ⟨h1, h2, (unhide HO6).trans (Only.of_below (P := fun k => k = g) hy') (fun _ _ q => q), ⟨by rw [← unhide HK8]; exact h1.cell 8, h1.cell 9, h2.cell 0, h2.cell 1⟩, h1.cell 3, h1.cell 4, h1.frozen 3, h1.frozen 4⟩)
        have HT10 := hide (show ∀ y, Blk y g ((e.cs.setIfInBounds 0 (.string A)).setIfInBounds 1 (.string B)) 50 → Blk y b0 #[.string a, .string b] 88 → (((y.setCell ⟨g, 3, none⟩ (.string C)).setCell ⟨g, 4, none⟩ (.string D)).cell? ⟨g, 8, none⟩ = some (.string e.k) ∧ ((y.setCell ⟨g, 3, none⟩ (.string C)).setCell ⟨g, 4, none⟩ (.string D)).cell? ⟨g, 9, none⟩ = some (.int .i64 (e.i : Int)) ∧ ((y.setCell ⟨g, 3, none⟩ (.string C)).setCell ⟨g, 4, none⟩ (.string D)).cell? ⟨b0, 0, none⟩ = some (.string a) ∧ ((y.setCell ⟨g, 3, none⟩ (.string C)).setCell ⟨g, 4, none⟩ (.string D)).cell? ⟨b0, 1, none⟩ = some (.string b)) from fun y h1 h2 => by
          have h3 := (h1.set 3 (.string C)).set 4 (.string D)
          have h4 := (h2.other ⟨g, 3, none⟩ (.string C) (by show g ≠ b0; omega)).other ⟨g, 4, none⟩ (.string D) (by show g ≠ b0; omega)
          exact ⟨by rw [← unhide HK8]; exact h3.cell 8, h3.cell 9, h4.cell 0, h4.cell 1⟩)
        clear hx6 hB5 hN5 HL5 c0 c1 f0 f1 hS hS9 HF9 HT9 HS9 HK4 HE4 HN4 HB4 HKO1
        go_wp2_with fail
        refine wp_region_held_drew (S := fun W => W.cell? ⟨g, 8, none⟩ = some (.string e.k) ∧ W.cell? ⟨g, 9, none⟩ = some (.int .i64 (e.i : Int)) ∧ W.cell? ⟨b0, 0, none⟩ = some (.string a) ∧ W.cell? ⟨b0, 1, none⟩ = some (.string b)) (by kernel_rfl) (unhide HS10) ?_
        intro hS
        refine wpAnyH_takeD 0 (some 60) (.pointer (some ⟨g, 0, none⟩)) rfl rfl (by kernel_rfl) (by kernel_rfl) (by kernel_rfl) (fun _ _ _ h => h) (Or.inl ⟨by rfl, fun w hSw => by have hq1 := hSw.1; have hq2 := hSw.2.1; have hq3 := hSw.2.2.1; have hq4 := hSw.2.2.2; clear hSw; go_simp⟩) hS ?_
        simp only [Act.put, List.setIfInBounds_toArray, List.set_cons_zero, List.set_cons_succ]
        refine wpAnyH_takeD 1 (some 61) (.pointer (some ⟨g, 0, none⟩)) rfl rfl (by kernel_rfl) (by kernel_rfl) (by kernel_rfl) (fun _ _ _ h => h) (Or.inl ⟨by rfl, fun w hSw => by have hq1 := hSw.1; have hq2 := hSw.2.1; have hq3 := hSw.2.2.1; have hq4 := hSw.2.2.2; clear hSw; go_simp⟩) hS ?_
        simp only [Act.put, List.setIfInBounds_toArray, List.set_cons_zero, List.set_cons_succ]
        refine wpAnyH_takeD 2 (some 62) (.pointer (some ⟨g, 0, none⟩)) rfl rfl (by kernel_rfl) (by kernel_rfl) (by kernel_rfl) (fun _ _ _ h => h) (Or.inl ⟨by rfl, fun w hSw => by have hq1 := hSw.1; have hq2 := hSw.2.1; have hq3 := hSw.2.2.1; have hq4 := hSw.2.2.2; clear hSw; go_simp⟩) hS ?_
        simp only [Act.put, List.setIfInBounds_toArray, List.set_cons_zero, List.set_cons_succ]
        refine wpAnyH_takeD 3 (some 63) (.pointer (some ⟨g, 8, none⟩)) rfl rfl (by kernel_rfl) (by kernel_rfl) (by kernel_rfl) (fun _ _ _ h => h) (Or.inl ⟨by rfl, fun w hSw => by have hq1 := hSw.1; have hq2 := hSw.2.1; have hq3 := hSw.2.2.1; have hq4 := hSw.2.2.2; clear hSw; go_simp⟩) hS ?_
        simp only [Act.put, List.setIfInBounds_toArray, List.set_cons_zero, List.set_cons_succ]
        refine wpAnyH_takeD 4 (some 64) (.string e.k) rfl rfl (by kernel_rfl) (by kernel_rfl) (by kernel_rfl) (fun _ _ _ h => h) (Or.inl ⟨by rfl, fun w hSw => by have hq1 := hSw.1; have hq2 := hSw.2.1; have hq3 := hSw.2.2.1; have hq4 := hSw.2.2.2; clear hSw; go_simp⟩) hS ?_
        simp only [Act.put, List.setIfInBounds_toArray, List.set_cons_zero, List.set_cons_succ]
        refine wpAnyH_takeD 5 (some 65) (.agg #[.string a, .string b]) rfl rfl (by kernel_rfl) (by kernel_rfl) (by kernel_rfl) (fun _ _ _ h => h) (Or.inl ⟨by rfl, fun w hSw => by have hq1 := hSw.1; have hq2 := hSw.2.1; have hq3 := hSw.2.2.1; have hq4 := hSw.2.2.2; clear hSw; go_simp⟩) hS ?_
        simp only [Act.put, List.setIfInBounds_toArray, List.set_cons_zero, List.set_cons_succ]
        refine wpAnyH_takeD 6 (some 66) (.int .i64 (j : Int)) rfl rfl (by kernel_rfl) (by kernel_rfl) (by kernel_rfl) (fun _ _ _ h => h) (Or.inl ⟨by rfl, fun w hSw => by have hq1 := hSw.1; have hq2 := hSw.2.1; have hq3 := hSw.2.2.1; have hq4 := hSw.2.2.2; clear hSw; go_simp⟩) hS ?_
        simp only [Act.put, List.setIfInBounds_toArray, List.set_cons_zero, List.set_cons_succ]
        refine wpAnyH_ready (rs := [7]) (by kernel_rfl) (by simp) ?_
        refine AllReadyH.cons rfl (fun K hK => ?_) AllReadyH.nil
        simp only [List.getElem_toArray, List.getElem_cons_succ, List.getElem_cons_zero]
        go_simp
        refine (unhide HKO2 _ (unhide HK6)).mono ?_
        rintro ev y7 ⟨rfl, hb⟩
        obtain ⟨hB7, hN7, HL7, hS9, c3, c4, f3, f4⟩ := unhide HF10 _ hb
        clear hb
        refine hK.out _ _ hS9 (fun hS => ?_)
        clear hK K
        refine wpAnyH_takeD 8 (some 68) (.pointer (some ⟨g, 0, none⟩)) rfl rfl (by kernel_rfl) (by kernel_rfl) (by kernel_rfl) (fun _ _ _ h => h) (Or.inl ⟨by rfl, fun w hSw => by have hq1 := hSw.1; have hq2 := hSw.2.1; have hq3 := hSw.2.2.1; have hq4 := hSw.2.2.2; clear hSw; go_simp⟩) hS ?_
        simp only [Act.put, List.setIfInBounds_toArray, List.set_cons_zero, List.set_cons_succ]
        refine wpAnyH_takeD 9 (some 69) (.pointer (some ⟨g, 3, none⟩)) rfl rfl (by kernel_rfl) (by kernel_rfl) (by kernel_rfl) (fun _ _ _ h => h) (Or.inl ⟨by rfl, fun w hSw => by have hq1 := hSw.1; have hq2 := hSw.2.1; have hq3 := hSw.2.2.1; have hq4 := hSw.2.2.2; clear hSw; go_simp⟩) hS ?_
        simp only [Act.put, List.setIfInBounds_toArray, List.set_cons_zero, List.set_cons_succ]
        refine wpAnyH_takeD 10 (some 70) (.pointer (some ⟨g, 3, none⟩)) rfl rfl (by kernel_rfl) (by kernel_rfl) (by kernel_rfl) (fun _ _ _ h => h) (Or.inl ⟨by rfl, fun w hSw => by have hq1 := hSw.1; have hq2 := hSw.2.1; have hq3 := hSw.2.2.1; have hq4 := hSw.2.2.2; clear hSw; go_simp⟩) hS ?_
        simp only [Act.put, List.setIfInBounds_toArray, List.set_cons_zero, List.set_cons_succ]
        refine wpAnyH_ready (rs := [11]) (by kernel_rfl) (by simp) ?_
        refine AllReadyH.cons rfl (fun K hK => ?_) AllReadyH.nil
        simp only [List.getElem_toArray, List.getElem_cons_succ, List.getElem_cons_zero]
        go_simp
        refine hK.out _ _ (unhide HT10 _ hB7 hN7) (fun hS => ?_)
        clear hK K
        refine wpAnyH_done (by kernel_rfl) ?_ _
        have HE8 := hide (show EndM ((y7.setCell ⟨g, 3, none⟩ (.string C)).setCell ⟨g, 4, none⟩ (.string D)) g { e with r := true, o := o } from unhide HZ _ ((hB7.set 3 (.string C)).set 4 (.string D)))
        have HO8 := hide (show Only (fun k => k = g) w ((y7.setCell ⟨g, 3, none⟩ (.string C)).setCell ⟨g, 4, none⟩ (.string D)) from by
          iterate 2 refine Only.setCell ?_ _ _ (fun _ => rfl)
          exact HL7)
        clear hB7 hN7 HL7 c3 c4 f3 f4 hS hS9
        go_wp2
        go_ret
        exact ⟨rfl, unhide HE8, unhide HO8⟩
    · have h9 : E9 = 211 := by rw [← hE9, LE.grE, hc, hr]; rfl
      have h8 : e9 = e := by rw [← he9, LE.grN, hE9, h9]; rfl
      rw [hr] at HR
      subst h8
      rw [h9]
      have HE := hide hE
      clear hE hE9 he9 h9 hr hc hK
      go_enter Tryz.func17, Tryz.ntmps17
      go_wp2_with fail
      refine (unhide HR).mono ?_
      rintro ev y ⟨rfl, hb⟩
      have HB := hide (And.intro ((unhide HE).below hb (unhide HE).lt) (Only.of_below (P := fun k => k = g) hb))
      clear hb
      go_wp2
      go_ret
      exact ⟨rfl, (unhide HB).1, (unhide HB).2⟩
  · have h9 : E9 = 211 := by rw [← hE9, LE.grE, hc]; rfl
    have h8 : e9 = e := by rw [← he9, LE.grN, hE9, h9]; rfl
    rw [hc] at c11
    subst h8
    rw [h9]
    have HE := hide hE
    clear hE hE9 he9 h9 hc hK
    go_enter Tryz.func17, Tryz.ntmps17
    go_wp2
    go_ret
    exact ⟨rfl, unhide HE, Only.refl _ _⟩
end Go.Proofs.YtifjmldmilmfjaaGreatDoor
