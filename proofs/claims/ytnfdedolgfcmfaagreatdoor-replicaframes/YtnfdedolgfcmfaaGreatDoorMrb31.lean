import Derived.Test.YtnfdedolgfcmfaaGreatDoorMrb30
namespace Go.Proofs.YtnfdedolgfcmfaaGreatDoor
open Go.RowKit
set_option maxRecDepth 100000
theorem edM_below {w w' : World} {B : Nat} {p : Option Addr} {E : List (Int × Int)} (h : EdM w B p E) (hb : Below B w w') : EdM w' B p E := fun j hj => by
  obtain ⟨g, o, e, hg, q1, q2⟩ := h j hj
  exact ⟨g, o, e, hg, (hb.cell (p := ⟨g, o + j * 2, none⟩) hg).trans q1, (hb.cell (p := ⟨g, o + j * 2 + 1, none⟩) hg).trans q2⟩
set_option maxHeartbeats 16000000 in
theorem frames22 (E1 E2 : List (Int × Int)) (n1 c1 n2 c2 : Nat) (p1 p2 : Option Addr) (h1 : E1.length = n1) (h2 : E2.length = n2) (hl1 : n1 ≤ 9223372036854775807) (hl2 : n2 ≤ 9223372036854775807) (hI1 : ∀ j, j < n1 → I64 (E1.getD j (0, 0)).1 ∧ I64 (E1.getD j (0, 0)).2) (hI2 : ∀ j, j < n2 → I64 (E2.getD j (0, 0)).1 ∧ I64 (E2.getD j (0, 0)).2) (W : World) (hE1 : EdM W W.heap.size p1 E1) (hE2 : EdM W W.heap.size p2 E2) (hK : KTab W) (hG : ETy W) :
    Calls Tryz.prog 5 #[.slice p1 n1 c1, .slice p2 n2 c2] W fun e w' => e = .returned (.bool true) ∧ Below W.heap.size W w' := by
  have HAW := hide (awake22 W hK hG)
  have HKG := hide (show ∀ y, Below W.heap.size W y → KTab y ∧ ETy y from fun y h => ⟨hK.below h hK.1, hG.below h hG.lt⟩)
  have HBL := hide (fun w => blank22 128 (by decide) w)
  obtain ⟨Z, hZ⟩ : ∃ q, List.replicate 128 (zR 256) = q := ⟨_, rfl⟩
  have HZI := hide (show Z.length = 128 ∧ imB Z = true from by rw [← hZ]; exact ⟨List.length_replicate, imB_blank 128 (by decide) (by decide)⟩)
  rw [hZ] at HBL
  have HZE := hide hZ
  obtain ⟨A, hA⟩ : ∃ q, edP Z 128 E1 n1 = q := ⟨_, rfl⟩
  have HAI := hide (show A.length = 128 ∧ imB A = true from by rw [← hA]; exact ⟨by rw [edP_len, (unhide HZI).1], edP_im _ _ _ (unhide HZI).2 _⟩)
  obtain ⟨B, hB⟩ : ∃ q, edP A 128 E2 n2 = q := ⟨_, rfl⟩
  have HBI := hide (show B.length = 128 ∧ imB B = true from by rw [← hB]; exact ⟨by rw [edP_len, (unhide HAI).1], edP_im _ _ _ (unhide HAI).2 _⟩)
  have HED1 := hide (show ∀ w, Below W.heap.size W w → ∀ B9 c p, SB w B9 p Z → B9 ≤ w.heap.size → Calls Tryz.prog 13 #[.slice p 128 c, .slice p1 n1 c1] w fun e w' => ∃ g, e = .returned (.slice (some ⟨g, 0, none⟩) 128 128) ∧ w.heap.size ≤ g ∧ Blk w' g (strs A).toArray 9 ∧ Below w.heap.size w w' from fun w hw B9 c p hs hb => by
    rw [← hA]
    exact edited22 w Z 128 (unhide HZI).1 (by decide) (by decide) B9 c p hs hb E1 n1 h1 hl1 W.heap.size c1 p1 (edM_below hE1 hw) hw.size hI1)
  have HED2 := hide (show ∀ w, Below W.heap.size W w → ∀ B9 c p, SB w B9 p A → B9 ≤ w.heap.size → Calls Tryz.prog 13 #[.slice p 128 c, .slice p2 n2 c2] w fun e w' => ∃ g, e = .returned (.slice (some ⟨g, 0, none⟩) 128 128) ∧ w.heap.size ≤ g ∧ Blk w' g (strs B).toArray 9 ∧ Below w.heap.size w w' from fun w hw B9 c p hs hb => by
    rw [← hB]
    exact edited22 w A 128 (unhide HAI).1 (by decide) (by decide) B9 c p hs hb E2 n2 h2 hl2 W.heap.size c2 p2 (edM_below hE2 hw) hw.size hI2)
  clear hK hG hZ hA hB h1 h2 hl1 hl2 hI1 hI2 hE1 hE2
  go_enter Tryz.func5, Tryz.ntmps5
  go_wp2_with fail
  refine (unhide HAW).mono ?_
  rintro e w0 ⟨rfl, hb0⟩
  have HB0 := hide hb0
  clear hb0 HAW
  go_wp2_with fail
  refine (unhide HBL _).mono ?_
  rintro e w1 ⟨v1, rfl, hr1, hb1⟩
  obtain ⟨pz, cz, rfl, _⟩ := yr_form hr1
  have HW1 := hide (show Below W.heap.size W w1 from (unhide HB0).trans (hb1.mono (unhide HB0).size))
  have HE1 := hide (unhide HED1 w1 (unhide HW1) w1.heap.size cz pz (own_sb (unhide HZI).1 hr1) (Nat.le_refl _))
  clear hr1 hb1 HED1
  go_wp2_with fail
  refine (unhide HE1).mono ?_
  rintro e w2 ⟨gA, rfl, hgA, hkA, hb2⟩
  have HW2 := hide (show Below W.heap.size W w2 from (unhide HW1).trans (hb2.mono (unhide HW1).size))
  have HE2 := hide (unhide HED2 w2 (unhide HW2) w2.heap.size 128 (some ⟨gA, 0, none⟩) (Blk.sb hkA) (Nat.le_refl _))
  have HKA := hide hkA
  clear hkA hb2 hgA HE1 HED2
  go_wp2_with fail
  refine (unhide HE2).mono ?_
  rintro e w3 ⟨gB, rfl, hgB, hkB, hb3⟩
  obtain ⟨S, hS⟩ : ∃ q, w3.heap.size = q := ⟨_, rfl⟩
  have HW3 := hide (show Below W.heap.size W w3 ∧ W.heap.size ≤ S from by
    have h := (unhide HW2).trans (hb3.mono (unhide HW2).size)
    exact ⟨h, by rw [← hS]; exact h.size⟩)
  have HK3 := hide (show ∀ y, Below S w3 y → KTab y ∧ ETy y ∧ Below W.heap.size W y from fun y hy => by
    have h : Below W.heap.size W y := (unhide HW3).1.trans (hy.mono (unhide HW3).2)
    exact ⟨(unhide HKG y h).1, (unhide HKG y h).2, h⟩)
  have HAB := hide (show ∀ y, Below S w3 y → SB y S (some ⟨gA, 0, none⟩) A ∧ SB y S (some ⟨gB, 0, none⟩) B from fun y hy => by
    have k1 : SB w3 w3.heap.size (some ⟨gA, 0, none⟩) A := Blk.sb ((unhide HKA).below hb3 (unhide HKA).lt)
    have k2 : SB w3 w3.heap.size (some ⟨gB, 0, none⟩) B := Blk.sb hkB
    rw [hS] at k1 k2
    exact ⟨k1.below hy, k2.below hy⟩)
  have HPN := hide (pnew_any (fun q => S ≤ q) w3 A 128 128 S (some ⟨gA, 0, none⟩) (unhide HAI).1 ((unhide HAB w3 (Below.refl _ _)).1) (by omega) (fun q hq => by omega))
  clear hkB hb3 hgB HE2 HKA HW2 HKG
  go_wp2_with fail
  refine (unhide HPN).mono ?_
  rintro e w4 ⟨hb4, _, h4⟩
  obtain ⟨p, mp, g, rfl, _, hP4⟩ := h4 (unhide HAI).2
  have HP4 := hide hP4
  have HB4 := hide (show Below S w3 w4 from by rw [← hS]; exact hb4)
  have HPW := hide (PW.new (unhide HAI).1 (unhide HAI).2 g)
  clear hb4 h4 hP4 HPN
  have HNO := hide (pnote_any (fun q => S ≤ q) w4 p mp 128 1 0 [(1, g)] (fun _ => A) (unhide HP4) (unhide HPW) B 128 S (some ⟨gB, 0, none⟩) (unhide HBI).1 (unhide HBI).2 (unhide HAB w4 (unhide HB4)).2 (by have := (unhide HB4).size; omega) (by decide) (fun q hq => by have h1 := (unhide HB4).size; omega))
  go_wp2_with fail
  refine (unhide HNO).mono ?_
  rintro e w5 ⟨g', rfl, hP5, ho5⟩
  rw [aw_l] at hP5
  have hPW5 : PW 128 2 0 [(1, g), (2, g')] (nwI 1 B (fun _ => A)) := by
    have := (unhide HPW).note (by decide) B (unhide HBI).1 (unhide HBI).2 g'
    rwa [aw_l] at this
  have HB5 := hide ((unhide HB4).trans (ho5.hi (by have := (unhide HB4).size; omega) (fun k q => (unhide HP4).kp k (by rcases q with q | q; exact .inl q; exact .inr (.inl q)))))
  obtain ⟨im, him⟩ : ∃ q, nwI 1 B (fun _ => A) = q := ⟨_, rfl⟩
  have HIM := hide (show im ((1 : Nat) : Int) = A ∧ im ((2 : Nat) : Int) = B from by rw [← him]; exact ⟨rfl, rfl⟩)
  rw [him] at hP5 hPW5
  have HP5 := hide hP5
  have HPW5 := hide hPW5
  clear ho5 hP5 hPW5 him HNO HP4 HPW
  have HFR := hide (pframesF_any (fun q => S ≤ q) w5 p mp 128 2 0 2 [(1, g), (2, g')] im (unhide HP5) (unhide HPW5) (unhide HK3 w5 (unhide HB5)).1 rfl)
  rw [aw_n] at HFR
  obtain ⟨s0, hs0⟩ : ∃ q, fmT 128 im 0 1 = q := ⟨_, rfl⟩
  obtain ⟨s1, hs1⟩ : ∃ q, fmT 128 im 1 2 = q := ⟨_, rfl⟩
  rw [show frms 128 im 0 [1, 2] = [fmT 128 im 0 1, fmT 128 im 1 2] from rfl, hs0, hs1] at HFR
  have HSS := hide (show fmB 1 128 1 1 (rt A) (otU Z A 128) = s0 ∧ fmB 2 128 1 2 (rt B) (otU A B 128) = s1 from by
    rw [← hs0, ← hs1, ← unhide HZE]
    have i1 := (unhide HIM).1
    have i2 := (unhide HIM).2
    unfold fmT
    rw [if_pos rfl, if_neg (by decide), i1, i2]
    exact ⟨rfl, rfl⟩)
  clear hs0 hs1
  go_wp2_with fail
  refine (unhide HFR).mono ?_
  rintro e w6 ⟨v6, rfl, hr6, _, ho6⟩
  obtain ⟨pf, cf, rfl, hcf⟩ := yr_form hr6
  have HB6 := hide ((unhide HB5).trans (ho6.hi (by have := (unhide HB5).size; omega) (fun k q => (unhide HP5).kp k (.inr (.inr q)))))
  obtain ⟨gf, of, hpf, hgf, c0⟩ := own_sb (L := [s0, s1]) rfl hr6 0 (by simp)
  subst hpf
  obtain ⟨gf', of', hpf, _, c1⟩ := own_sb (L := [s0, s1]) rfl hr6 1 (by simp)
  obtain ⟨rfl, rfl⟩ : gf = gf' ∧ of = of' := by injection hpf with hpf; injection hpf with h1 h2; exact ⟨h1, h2⟩
  have c0 : w6.cell? ⟨gf, of, none⟩ = some (.string s0) := c0
  have c1 : w6.cell? ⟨gf, of + 1, none⟩ = some (.string s1) := c1
  have HRW := hide (show ∀ y, Below w6.drew.heap.size w6.drew y → y.cell? ⟨gf, of, none⟩ = some (.string s0) ∧ y.cell? ⟨gf, of + 1, none⟩ = some (.string s1) from fun y hy => ⟨(hy.cell (p := ⟨gf, of, none⟩) hgf).trans c0, (hy.cell (p := ⟨gf, of + 1, none⟩) hgf).trans c1⟩)
  have HHA := hide (show ∀ y pv cv, y.ownsRow w6.drew.heap.size 9 1 (.slice pv 128 cv) 128 (strs Z) → 128 ≤ cv → Below S w3 y → Calls Tryz.prog 22 #[.int .i64 1, .int .i64 1, .int .i64 1, .slice pv 128 cv, .slice (some ⟨gA, 0, none⟩) 128 128] y fun e w' => e = .returned (.string s0) ∧ Below y.heap.size y w' from fun y pv cv hr hc hy => by
    rw [← (unhide HSS).1]
    exact byHand22 1 1 1 128 Z A (unhide HAI).2 (unhide HAI).1 (unhide HZI).1 (by decide) (by decide) (by decide) y y.heap.size S cv 128 pv (some ⟨gA, 0, none⟩) (own_sb (unhide HZI).1 hr) (Nat.le_refl _) (unhide HAB y hy).1 (by have := hy.size; omega) (by decide) (by decide) (unhide HK3 y hy).1)
  have HHB := hide (show ∀ y, Below S w3 y → Calls Tryz.prog 22 #[.int .i64 2, .int .i64 1, .int .i64 2, .slice (some ⟨gA, 0, none⟩) 128 128, .slice (some ⟨gB, 0, none⟩) 128 128] y fun e w' => e = .returned (.string s1) ∧ Below y.heap.size y w' from fun y hy => by
    rw [← (unhide HSS).2]
    exact byHand22 2 1 2 128 A B (unhide HBI).2 (unhide HBI).1 (unhide HAI).1 (by decide) (by decide) (by decide) y S S 128 128 (some ⟨gA, 0, none⟩) (some ⟨gB, 0, none⟩) (unhide HAB y hy).1 (by have := hy.size; omega) (unhide HAB y hy).2 (by have := hy.size; omega) (by decide) (by decide) (unhide HK3 y hy).1)
  clear hr6 ho6 hcf hgf HFR HP5
  go_wp2_with fail
  refine wp_region_held_drew (S := fun W => W.cell? ⟨gf, of, none⟩ = some (.string s0) ∧ W.cell? ⟨gf, of + 1, none⟩ = some (.string s1)) (by kernel_rfl) ⟨c0, c1⟩ ?_
  intro hS
  refine wpAnyH_takeD 0 (some 46) (.slice (some ⟨gf, of, none⟩) 2 cf) rfl rfl (by kernel_rfl) (by kernel_rfl) (by kernel_rfl) (fun _ _ _ h => h) (Or.inl ⟨by rfl, fun w hSw => by obtain ⟨q1, q2⟩ := hSw; go_simp; try (intro hbad; omega)⟩) hS ?_
  simp only [Act.put, List.setIfInBounds_toArray, List.set_cons_zero, List.set_cons_succ]
  refine wpAnyH_takeD 1 (some 47) (.pointer (some ⟨gf, of, none⟩)) rfl rfl (by kernel_rfl) (by kernel_rfl) (by kernel_rfl) (fun _ _ _ h => h) (Or.inl ⟨by rfl, fun w hSw => by obtain ⟨q1, q2⟩ := hSw; go_simp; try (intro hbad; omega)⟩) hS ?_
  simp only [Act.put, List.setIfInBounds_toArray, List.set_cons_zero, List.set_cons_succ]
  refine wpAnyH_takeD 2 (some 48) (.string s0) rfl rfl (by kernel_rfl) (by kernel_rfl) (by kernel_rfl) (fun _ _ _ h => h) (Or.inl ⟨by rfl, fun w hSw => by obtain ⟨q1, q2⟩ := hSw; go_simp; try (intro hbad; omega)⟩) hS ?_
  simp only [Act.put, List.setIfInBounds_toArray, List.set_cons_zero, List.set_cons_succ]
  refine wpAnyH_takeD 4 (some 50) (.slice (some ⟨gA, 0, none⟩) 128 128) rfl rfl (by kernel_rfl) (by kernel_rfl) (by kernel_rfl) (fun _ _ _ h => h) (Or.inl ⟨by rfl, fun w hSw => by obtain ⟨q1, q2⟩ := hSw; go_simp; try (intro hbad; omega)⟩) hS ?_
  simp only [Act.put, List.setIfInBounds_toArray, List.set_cons_zero, List.set_cons_succ]
  refine wpAnyH_ready (rs := [3]) (by kernel_rfl) (by simp) ?_
  refine AllReadyH.cons rfl (fun K hK => ?_) AllReadyH.nil
  simp only [List.getElem_toArray, List.getElem_cons_succ, List.getElem_cons_zero]
  go_simp
  refine (unhide HBL _).mono ?_
  rintro e y1 ⟨v, rfl, hr1, hb1⟩
  obtain ⟨pv, cv, rfl, hcv⟩ := yr_form hr1
  have HB1 := hide (show Below S w3 y1 from (unhide HB6).drew.trans (hb1.mono (show S ≤ w6.heap.size from by have := (unhide HB6).size; omega)))
  have m1 := unhide HRW y1 hb1
  have HH1 := hide (unhide HHA y1 pv cv hr1 hcv (unhide HB1))
  have HX1 := hide hb1
  clear hr1 hcv hb1 HBL HHA
  refine hK.out _ _ m1 (fun hS => ?_)
  clear hK K
  refine wpAnyH_ready (rs := [5]) (by kernel_rfl) (by simp) ?_
  refine AllReadyH.cons rfl (fun K hK => ?_) AllReadyH.nil
  simp only [List.getElem_toArray, List.getElem_cons_succ, List.getElem_cons_zero]
  go_simp
  refine (unhide HH1).mono ?_
  rintro e y2 ⟨rfl, hb2⟩
  have HB2 := hide (show Below S w3 y2 from (unhide HB1).trans (hb2.mono (by have := (unhide HB1).size; omega)))
  have m2 := unhide HRW y2 (show Below w6.drew.heap.size w6.drew y2 from (unhide HX1).trans (hb2.mono (unhide HX1).size))
  have HH2 := hide (unhide HHB y2 (unhide HB2))
  have HX2 := hide (show Below w6.drew.heap.size w6.drew y2 from (unhide HX1).trans (hb2.mono (unhide HX1).size))
  clear hb2 HH1 HHB m1
  refine hK.out _ _ m2 (fun hS => ?_)
  clear hK K
  refine wpAnyH_takeD 6 (some 52) (.bool true) rfl rfl (by kernel_rfl) (by kernel_rfl) (by kernel_rfl) (fun _ _ _ h => h) (Or.inl ⟨by rfl, fun w hSw => by obtain ⟨q1, q2⟩ := hSw; go_simp; try (intro hbad; omega)⟩) hS ?_
  simp only [Act.put, List.setIfInBounds_toArray, List.set_cons_zero, List.set_cons_succ]
  refine wpAnyH_takeD 7 (some 53) (.bool true) rfl rfl (by kernel_rfl) (by kernel_rfl) (by kernel_rfl) (fun _ _ _ h => h) (Or.inl ⟨by rfl, fun w hSw => by obtain ⟨q1, q2⟩ := hSw; go_simp; try (intro hbad; omega)⟩) hS ?_
  simp only [Act.put, List.setIfInBounds_toArray, List.set_cons_zero, List.set_cons_succ]
  refine wpAnyH_takeD 8 (some 54) (.slice (some ⟨gf, of, none⟩) 2 cf) rfl rfl (by kernel_rfl) (by kernel_rfl) (by kernel_rfl) (fun _ _ _ h => h) (Or.inl ⟨by rfl, fun w hSw => by obtain ⟨q1, q2⟩ := hSw; go_simp; try (intro hbad; omega)⟩) hS ?_
  simp only [Act.put, List.setIfInBounds_toArray, List.set_cons_zero, List.set_cons_succ]
  refine wpAnyH_takeD 9 (some 55) (.pointer (some ⟨gf, of + 1, none⟩)) rfl rfl (by kernel_rfl) (by kernel_rfl) (by kernel_rfl) (fun _ _ _ h => h) (Or.inl ⟨by rfl, fun w hSw => by obtain ⟨q1, q2⟩ := hSw; go_simp; try (intro hbad; omega)⟩) hS ?_
  simp only [Act.put, List.setIfInBounds_toArray, List.set_cons_zero, List.set_cons_succ]
  refine wpAnyH_takeD 10 (some 56) (.string s1) rfl rfl (by kernel_rfl) (by kernel_rfl) (by kernel_rfl) (fun _ _ _ h => h) (Or.inl ⟨by rfl, fun w hSw => by obtain ⟨q1, q2⟩ := hSw; go_simp; try (intro hbad; omega)⟩) hS ?_
  simp only [Act.put, List.setIfInBounds_toArray, List.set_cons_zero, List.set_cons_succ]
  refine wpAnyH_takeD 11 (some 57) (.slice (some ⟨gA, 0, none⟩) 128 128) rfl rfl (by kernel_rfl) (by kernel_rfl) (by kernel_rfl) (fun _ _ _ h => h) (Or.inl ⟨by rfl, fun w hSw => by obtain ⟨q1, q2⟩ := hSw; go_simp; try (intro hbad; omega)⟩) hS ?_
  simp only [Act.put, List.setIfInBounds_toArray, List.set_cons_zero, List.set_cons_succ]
  refine wpAnyH_takeD 12 (some 58) (.slice (some ⟨gB, 0, none⟩) 128 128) rfl rfl (by kernel_rfl) (by kernel_rfl) (by kernel_rfl) (fun _ _ _ h => h) (Or.inl ⟨by rfl, fun w hSw => by obtain ⟨q1, q2⟩ := hSw; go_simp; try (intro hbad; omega)⟩) hS ?_
  simp only [Act.put, List.setIfInBounds_toArray, List.set_cons_zero, List.set_cons_succ]
  refine wpAnyH_ready (rs := [13]) (by kernel_rfl) (by simp) ?_
  refine AllReadyH.cons rfl (fun K hK => ?_) AllReadyH.nil
  simp only [List.getElem_toArray, List.getElem_cons_succ, List.getElem_cons_zero]
  go_simp
  refine (unhide HH2).mono ?_
  rintro e y3 ⟨rfl, hb3⟩
  have HB3 := hide (show Below S w3 y3 from (unhide HB2).trans (hb3.mono (by have := (unhide HB2).size; omega)))
  have m3 := unhide HRW y3 (show Below w6.drew.heap.size w6.drew y3 from (unhide HX2).trans (hb3.mono (unhide HX2).size))
  clear hb3 HH2 m2
  refine hK.out _ _ m3 (fun hS => ?_)
  clear hK K
  refine wpAnyH_takeD 14 (some 60) (.bool true) rfl rfl (by kernel_rfl) (by kernel_rfl) (by kernel_rfl) (fun _ _ _ h => h) (Or.inl ⟨by rfl, fun w hSw => by obtain ⟨q1, q2⟩ := hSw; go_simp; try (intro hbad; omega)⟩) hS ?_
  simp only [Act.put, List.setIfInBounds_toArray, List.set_cons_zero, List.set_cons_succ]
  refine wpAnyH_takeD 15 (some 61) (.bool true) rfl rfl (by kernel_rfl) (by kernel_rfl) (by kernel_rfl) (fun _ _ _ h => h) (Or.inl ⟨by rfl, fun w hSw => by obtain ⟨q1, q2⟩ := hSw; go_simp; try (intro hbad; omega)⟩) hS ?_
  simp only [Act.put, List.setIfInBounds_toArray, List.set_cons_zero, List.set_cons_succ]
  refine wpAnyH_takeD 16 (some 4) (.bool true) rfl rfl (by kernel_rfl) (by kernel_rfl) (by kernel_rfl) (fun _ _ _ h => h) (Or.inl ⟨by rfl, fun w hSw => by obtain ⟨q1, q2⟩ := hSw; go_simp; try (intro hbad; omega)⟩) hS ?_
  simp only [Act.put, List.setIfInBounds_toArray, List.set_cons_zero, List.set_cons_succ]
  refine wpAnyH_done (by kernel_rfl) ?_ _
  clear hS m3 c0 c1
  go_wp2
  go_ret
  exact ⟨rfl, (unhide HK3 y3 (unhide HB3)).2.2⟩
end Go.Proofs.YtnfdedolgfcmfaaGreatDoor
