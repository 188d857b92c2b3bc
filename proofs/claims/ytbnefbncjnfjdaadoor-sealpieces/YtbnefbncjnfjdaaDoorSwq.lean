import Derived.Test.YtbnefbncjnfjdaaDoorSwr
namespace Go.Proofs.YtbnefbncjnfjdaaDoor
open Go.RowKit
def errW (m : ByteArray) (v b : Int) (k : ByteArray) : Int := if m.size = 32 ∧ k.size = 32 then (if plc v b = true then 0 else 1) else 20
def wrapB (m : ByteArray) (v b : Int) (k : ByteArray) : ByteArray := if errW m v b k = 0 then laidB (secB m v b) 0 k ++ tagB (secB m v b) (laidB (secB m v b) 0 k) else ⟨#[]⟩
def errU (m : ByteArray) (v b : Int) (s : ByteArray) : Int := if m.size = 32 then (if plc v b = true then (if s.size = 48 then (if tagB (secB m v b) (s.extract 0 32) = s.extract 32 48 then 0 else 22) else 23) else 1) else 20
def unwrapB (m : ByteArray) (v b : Int) (s : ByteArray) : ByteArray := if errU m v b s = 0 then laidB (secB m v b) 0 (s.extract 0 32) else ⟨#[]⟩
theorem errW_20 {m k : ByteArray} {v b : Int} (h : ¬ (m.size = 32 ∧ k.size = 32)) : errW m v b k = 20 := by
  unfold errW
  rw [if_neg h]
theorem errW_1 {m k : ByteArray} {v b : Int} (h : m.size = 32 ∧ k.size = 32) (hp : plc v b = false) : errW m v b k = 1 := by
  unfold errW
  rw [if_pos h, if_neg (by rw [hp]; simp)]
theorem errW_0 {m k : ByteArray} {v b : Int} (h : m.size = 32 ∧ k.size = 32) (hp : plc v b = true) : errW m v b k = 0 := by
  unfold errW
  rw [if_pos h, if_pos hp]
theorem wrapB_no {m k : ByteArray} {v b : Int} (h : ¬ errW m v b k = 0) : wrapB m v b k = ⟨#[]⟩ := by
  unfold wrapB
  rw [if_neg h]
theorem wrapB_yes {m k : ByteArray} {v b : Int} (h : errW m v b k = 0) : wrapB m v b k = laidB (secB m v b) 0 k ++ tagB (secB m v b) (laidB (secB m v b) 0 k) := by
  unfold wrapB
  rw [if_pos h]
theorem errU_20 {m s : ByteArray} {v b : Int} (h : ¬ m.size = 32) : errU m v b s = 20 := by
  unfold errU
  rw [if_neg h]
theorem errU_1 {m s : ByteArray} {v b : Int} (h : m.size = 32) (hp : plc v b = false) : errU m v b s = 1 := by
  unfold errU
  rw [if_pos h, if_neg (by rw [hp]; simp)]
theorem errU_23 {m s : ByteArray} {v b : Int} (h : m.size = 32) (hp : plc v b = true) (hs : ¬ s.size = 48) : errU m v b s = 23 := by
  unfold errU
  rw [if_pos h, if_pos hp, if_neg hs]
theorem errU_22 {m s : ByteArray} {v b : Int} (h : m.size = 32) (hp : plc v b = true) (hs : s.size = 48) (ht : ¬ tagB (secB m v b) (s.extract 0 32) = s.extract 32 48) : errU m v b s = 22 := by
  unfold errU
  rw [if_pos h, if_pos hp, if_pos hs, if_neg ht]
theorem errU_0 {m s : ByteArray} {v b : Int} (h : m.size = 32) (hp : plc v b = true) (hs : s.size = 48) (ht : tagB (secB m v b) (s.extract 0 32) = s.extract 32 48) : errU m v b s = 0 := by
  unfold errU
  rw [if_pos h, if_pos hp, if_pos hs, if_pos ht]
theorem unwrapB_no {m s : ByteArray} {v b : Int} (h : ¬ errU m v b s = 0) : unwrapB m v b s = ⟨#[]⟩ := by
  unfold unwrapB
  rw [if_neg h]
theorem unwrapB_yes {m s : ByteArray} {v b : Int} (h : errU m v b s = 0) : unwrapB m v b s = laidB (secB m v b) 0 (s.extract 0 32) := by
  unfold unwrapB
  rw [if_pos h]
set_option maxRecDepth 100000 in
set_option maxHeartbeats 1000000 in
theorem wrap_any (m : ByteArray) (v b : Int) (k : ByteArray) (w : World) (hK : KTab w) :
    Calls Tryd.prog 21 #[.string m, .int .i64 v, .int .i64 b, .string k] w fun e w' => e = .returned (.tuple #[.string (wrapB m v b k), .int .i64 (errW m v b k)]) ∧ Below w.heap.size w w' := by
  by_cases h1 : m.size = 32
  · have hd1 : decide (m.size = 32) = true := by simp [h1]
    by_cases h2 : k.size = 32
    · have hd2 : decide (k.size = 32) = true := by simp [h2]
      by_cases h3 : plc v b = true
      · obtain ⟨p1, p2, p3, p4⟩ := plc_iff.1 h3
        have he := errW_0 (v := v) (b := b) ⟨h1, h2⟩ h3
        rw [wrapB_yes he, he]
        have H1 := hide (placeKey_any m v b h1 ⟨p1, p2⟩ ⟨p3, p4⟩ w hK)
        have zs := secB_size m v b
        have zl := laidB_size (secB m v b) 0 k
        have H2 := hide (fun W (hW : KTab W) => laidOn_any (secB m v b) 0 k (by omega) (by omega) W hW)
        change Hid (∀ W, KTab W → Calls Tryd.prog 29 #[.string (secB m v b), .int .i64 0, .string k] W fun e w' => e = .returned (.string (laidB (secB m v b) 0 k)) ∧ Below W.heap.size W w') at H2
        have H3 := hide (fun W (hW : KTab W) => tag_any (secB m v b) (laidB (secB m v b) 0 k) zs (by omega) W hW)
        have zt := tagB_size (secB m v b) (laidB (secB m v b) 0 k)
        rw [h2] at zl
        have HK := hide hK
        have H4 := hide h3
        clear h1 h2 h3 he hK p1 p2 p3 p4
        generalize tagB (secB m v b) (laidB (secB m v b) 0 k) = tg at *
        generalize laidB (secB m v b) 0 k = lb at *
        generalize secB m v b = sc at *
        go_enter Tryd.func21, Tryd.ntmps21
        go_wp2_with fail
        refine (isKey_any m w).mono ?_
        rintro e w1 ⟨rfl, rfl⟩
        rw [hd1]
        go_wp2_with fail
        refine (isKey_any k w1).mono ?_
        rintro e w2 ⟨rfl, rfl⟩
        rw [hd2]
        go_wp2_with fail
        refine (isPlace_any v b w2).mono ?_
        rintro e w3 ⟨rfl, rfl⟩
        rw [unhide H4]
        go_wp2_with fail
        refine (unhide H1).mono ?_
        rintro e w4 ⟨rfl, hB⟩
        have B1 := hide hB
        clear hB H1
        go_wp2_with fail
        refine (unhide H2 w4 ((unhide HK).below (unhide B1) (unhide HK).1)).mono ?_
        rintro e w5 ⟨rfl, hB⟩
        have B2 := hide ((unhide B1).trans (hB.mono (unhide B1).size))
        clear hB H2 B1
        go_wp2_with fail
        refine (unhide H3 w5 ((unhide HK).below (unhide B2) (unhide HK).1)).mono ?_
        rintro e w6 ⟨rfl, hB⟩
        have B3 := hide ((unhide B2).trans (hB.mono (unhide B2).size))
        clear hB H3 B2
        go_wp2
        go_ret2
        exact ⟨rfl, unhide B3⟩
      · have h3' : plc v b = false := by simpa using h3
        have he := errW_1 (v := v) (b := b) ⟨h1, h2⟩ h3'
        rw [wrapB_no (by omega), he]
        have H4 := hide h3'
        clear h1 h2 h3 h3' he hK
        go_enter Tryd.func21, Tryd.ntmps21
        go_wp2_with fail
        refine (isKey_any m w).mono ?_
        rintro e w1 ⟨rfl, rfl⟩
        rw [hd1]
        go_wp2_with fail
        refine (isKey_any k w1).mono ?_
        rintro e w2 ⟨rfl, rfl⟩
        rw [hd2]
        go_wp2_with fail
        refine (isPlace_any v b w2).mono ?_
        rintro e w3 ⟨rfl, rfl⟩
        rw [unhide H4]
        go_wp2
        go_ret2
        exact ⟨rfl, Below.refl _ _⟩
    · have hd2 : decide (k.size = 32) = false := by simp [h2]
      have he : errW m v b k = 20 := errW_20 (fun h => h2 h.2)
      rw [wrapB_no (by omega), he]
      clear h1 h2 he hK
      go_enter Tryd.func21, Tryd.ntmps21
      go_wp2_with fail
      refine (isKey_any m w).mono ?_
      rintro e w1 ⟨rfl, rfl⟩
      rw [hd1]
      go_wp2_with fail
      refine (isKey_any k w1).mono ?_
      rintro e w2 ⟨rfl, rfl⟩
      rw [hd2]
      go_wp2
      go_ret2
      exact ⟨rfl, Below.refl _ _⟩
  · have hd1 : decide (m.size = 32) = false := by simp [h1]
    have he : errW m v b k = 20 := errW_20 (fun h => h1 h.1)
    rw [wrapB_no (by omega), he]
    clear h1 he hK
    go_enter Tryd.func21, Tryd.ntmps21
    go_wp2_with fail
    refine (isKey_any m w).mono ?_
    rintro e w1 ⟨rfl, rfl⟩
    rw [hd1]
    go_wp2
    go_ret2
    exact ⟨rfl, Below.refl _ _⟩
set_option maxRecDepth 100000 in
set_option maxHeartbeats 1000000 in
theorem unwrap_any (m : ByteArray) (v b : Int) (s : ByteArray) (w : World) (hK : KTab w) :
    Calls Tryd.prog 22 #[.string m, .int .i64 v, .int .i64 b, .string s] w fun e w' => e = .returned (.tuple #[.string (unwrapB m v b s), .int .i64 (errU m v b s)]) ∧ Below w.heap.size w w' := by
  by_cases h1 : m.size = 32
  · have hd1 : decide (m.size = 32) = true := by simp [h1]
    by_cases h3 : plc v b = true
    · by_cases h2 : s.size = 48
      · have h2' : ((s.size : Int) != 48) = false := by simp; omega
        obtain ⟨p1, p2, p3, p4⟩ := plc_iff.1 h3
        have H1 := hide (placeKey_any m v b h1 ⟨p1, p2⟩ ⟨p3, p4⟩ w hK)
        have zs := secB_size m v b
        have zh : (s.extract 0 32).size = 32 := by rw [ByteArray.size_extract, h2]; rfl
        have zt : (s.extract 32 48).size = 16 := by rw [ByteArray.size_extract, h2]; rfl
        have H2 := hide (fun W (hW : KTab W) => laidOn_any (secB m v b) 0 (s.extract 0 32) (by omega) (by omega) W hW)
        change Hid (∀ W, KTab W → Calls Tryd.prog 29 #[.string (secB m v b), .int .i64 0, .string (s.extract 0 32)] W fun e w' => e = .returned (.string (laidB (secB m v b) 0 (s.extract 0 32))) ∧ Below W.heap.size W w') at H2
        have H3 := hide (fun W (hW : KTab W) => tag_any (secB m v b) (s.extract 0 32) zs zh W hW)
        have HS := hide (fun W => same_any (tagB (secB m v b) (s.extract 0 32)) (s.extract 32 48) (by rw [tagB_size]; omega) W)
        have HK := hide hK
        have H4 := hide h3
        by_cases h4 : tagB (secB m v b) (s.extract 0 32) = s.extract 32 48
        · have he := errU_0 h1 h3 h2 h4
          rw [unwrapB_yes he, he]
          have hd4 : decide (tagB (secB m v b) (s.extract 0 32) = s.extract 32 48) = true := by simp [h4]
          clear h1 h3 h4 he hK p1 p2 p3 p4
          generalize laidB (secB m v b) 0 (s.extract 0 32) = lb at *
          generalize tagB (secB m v b) (s.extract 0 32) = tg at *
          generalize secB m v b = sc at *
          obtain ⟨hd, hhd⟩ : ∃ hd, s.extract 0 32 = hd := ⟨_, rfl⟩
          obtain ⟨tl, htl⟩ : ∃ tl, s.extract 32 48 = tl := ⟨_, rfl⟩
          rw [hhd] at zh H2 H3
          rw [htl] at zt HS hd4
          go_enter Tryd.func22, Tryd.ntmps22
          go_wp2_with fail
          refine (isKey_any m w).mono ?_
          rintro e w1 ⟨rfl, rfl⟩
          rw [hd1]
          go_wp2_with fail
          refine (isPlace_any v b w1).mono ?_
          rintro e w2 ⟨rfl, rfl⟩
          rw [unhide H4]
          go_wp2_with fail
          refine (unhide H1).mono ?_
          rintro e w4 ⟨rfl, hB⟩
          have B1 := hide hB
          clear hB H1
          go_wp2_with fail
          refine wp_region_held_drew (S := fun _ => True) (by kernel_rfl) trivial ?_
          intro hS
          refine wpAnyH_takeD 0 (some 28) (.string sc) rfl rfl (by kernel_rfl) (by kernel_rfl) (by kernel_rfl) (fun _ _ _ h => h) (Or.inl ⟨by rfl, fun w hSw => by go_simp⟩) hS ?_
          simp only [Act.put, List.setIfInBounds_toArray, List.set_cons_zero, List.set_cons_succ]
          refine wpAnyH_takeD 1 (some 29) (.string hd) rfl rfl (by kernel_rfl) (by kernel_rfl) (by kernel_rfl) (fun _ _ _ h => h) (Or.inl ⟨by rfl, fun w hSw => by go_simp⟩) hS ?_
          simp only [Act.put, List.setIfInBounds_toArray, List.set_cons_zero, List.set_cons_succ]
          refine wpAnyH_takeD 3 (some 31) (.string s) rfl rfl (by kernel_rfl) (by kernel_rfl) (by kernel_rfl) (fun _ _ _ h => h) (Or.inl ⟨by rfl, fun w hSw => by go_simp⟩) hS ?_
          simp only [Act.put, List.setIfInBounds_toArray, List.set_cons_zero, List.set_cons_succ]
          refine wpAnyH_takeD 4 (some 32) (.string tl) rfl rfl (by kernel_rfl) (by kernel_rfl) (by kernel_rfl) (fun _ _ _ h => h) (Or.inl ⟨by rfl, fun w hSw => by go_simp⟩) hS ?_
          simp only [Act.put, List.setIfInBounds_toArray, List.set_cons_zero, List.set_cons_succ]
          refine wpAnyH_ready (rs := [2]) (by kernel_rfl) (by simp) ?_
          refine AllReadyH.cons rfl (fun K hK => ?_) AllReadyH.nil
          simp only [List.getElem_toArray, List.getElem_cons_succ, List.getElem_cons_zero]
          go_simp
          refine (unhide H3 w4.drew ((unhide HK).below (unhide B1).drew (unhide HK).1)).mono ?_
          rintro e w5 ⟨rfl, hB⟩
          have B2 := hide ((unhide B1).drew.trans (hB.mono (unhide B1).size))
          refine hK.out _ _ trivial (fun hS => ?_)
          clear hB H3 B1 hK K
          refine wpAnyH_ready (rs := [5]) (by kernel_rfl) (by simp) ?_
          refine AllReadyH.cons rfl (fun K hK => ?_) AllReadyH.nil
          simp only [List.getElem_toArray, List.getElem_cons_succ, List.getElem_cons_zero]
          go_simp
          refine (unhide HS w5).mono ?_
          rintro e w6 ⟨rfl, hB⟩
          rw [hd4]
          have B3 := hide ((unhide B2).trans (hB.mono (unhide B2).size))
          refine hK.out _ _ trivial (fun hS => ?_)
          clear hB HS B2 hK K
          refine wpAnyH_ready (rs := [6]) (by kernel_rfl) (by simp) ?_
          refine AllReadyH.cons rfl (fun K hK => ?_) AllReadyH.nil
          simp only [List.getElem_toArray, List.getElem_cons_succ, List.getElem_cons_zero]
          go_simp
          refine hK.out _ _ trivial (fun hS => ?_)
          clear hK K
          refine wpAnyH_done (by kernel_rfl) ?_ _
          go_wp2_with fail
          refine (unhide H2 w6 ((unhide HK).below (unhide B3) (unhide HK).1)).mono ?_
          rintro e w7 ⟨rfl, hB⟩
          have B4 := hide ((unhide B3).trans (hB.mono (unhide B3).size))
          clear hB H2 B3
          go_wp2
          go_ret2
          exact ⟨rfl, unhide B4⟩
        · have he := errU_22 h1 h3 h2 h4
          rw [unwrapB_no (by omega), he]
          have hd4 : decide (tagB (secB m v b) (s.extract 0 32) = s.extract 32 48) = false := by simp [h4]
          clear h1 h3 h4 he hK p1 p2 p3 p4 H2
          generalize tagB (secB m v b) (s.extract 0 32) = tg at *
          generalize secB m v b = sc at *
          obtain ⟨hd, hhd⟩ : ∃ hd, s.extract 0 32 = hd := ⟨_, rfl⟩
          obtain ⟨tl, htl⟩ : ∃ tl, s.extract 32 48 = tl := ⟨_, rfl⟩
          rw [hhd] at zh H3
          rw [htl] at zt HS hd4
          go_enter Tryd.func22, Tryd.ntmps22
          go_wp2_with fail
          refine (isKey_any m w).mono ?_
          rintro e w1 ⟨rfl, rfl⟩
          rw [hd1]
          go_wp2_with fail
          refine (isPlace_any v b w1).mono ?_
          rintro e w2 ⟨rfl, rfl⟩
          rw [unhide H4]
          go_wp2_with fail
          refine (unhide H1).mono ?_
          rintro e w4 ⟨rfl, hB⟩
          have B1 := hide hB
          clear hB H1
          go_wp2_with fail
          refine wp_region_held_drew (S := fun _ => True) (by kernel_rfl) trivial ?_
          intro hS
          refine wpAnyH_takeD 0 (some 28) (.string sc) rfl rfl (by kernel_rfl) (by kernel_rfl) (by kernel_rfl) (fun _ _ _ h => h) (Or.inl ⟨by rfl, fun w hSw => by go_simp⟩) hS ?_
          simp only [Act.put, List.setIfInBounds_toArray, List.set_cons_zero, List.set_cons_succ]
          refine wpAnyH_takeD 1 (some 29) (.string hd) rfl rfl (by kernel_rfl) (by kernel_rfl) (by kernel_rfl) (fun _ _ _ h => h) (Or.inl ⟨by rfl, fun w hSw => by go_simp⟩) hS ?_
          simp only [Act.put, List.setIfInBounds_toArray, List.set_cons_zero, List.set_cons_succ]
          refine wpAnyH_takeD 3 (some 31) (.string s) rfl rfl (by kernel_rfl) (by kernel_rfl) (by kernel_rfl) (fun _ _ _ h => h) (Or.inl ⟨by rfl, fun w hSw => by go_simp⟩) hS ?_
          simp only [Act.put, List.setIfInBounds_toArray, List.set_cons_zero, List.set_cons_succ]
          refine wpAnyH_takeD 4 (some 32) (.string tl) rfl rfl (by kernel_rfl) (by kernel_rfl) (by kernel_rfl) (fun _ _ _ h => h) (Or.inl ⟨by rfl, fun w hSw => by go_simp⟩) hS ?_
          simp only [Act.put, List.setIfInBounds_toArray, List.set_cons_zero, List.set_cons_succ]
          refine wpAnyH_ready (rs := [2]) (by kernel_rfl) (by simp) ?_
          refine AllReadyH.cons rfl (fun K hK => ?_) AllReadyH.nil
          simp only [List.getElem_toArray, List.getElem_cons_succ, List.getElem_cons_zero]
          go_simp
          refine (unhide H3 w4.drew ((unhide HK).below (unhide B1).drew (unhide HK).1)).mono ?_
          rintro e w5 ⟨rfl, hB⟩
          have B2 := hide ((unhide B1).drew.trans (hB.mono (unhide B1).size))
          refine hK.out _ _ trivial (fun hS => ?_)
          clear hB H3 B1 hK K
          refine wpAnyH_ready (rs := [5]) (by kernel_rfl) (by simp) ?_
          refine AllReadyH.cons rfl (fun K hK => ?_) AllReadyH.nil
          simp only [List.getElem_toArray, List.getElem_cons_succ, List.getElem_cons_zero]
          go_simp
          refine (unhide HS w5).mono ?_
          rintro e w6 ⟨rfl, hB⟩
          rw [hd4]
          have B3 := hide ((unhide B2).trans (hB.mono (unhide B2).size))
          refine hK.out _ _ trivial (fun hS => ?_)
          clear hB HS B2 hK K
          refine wpAnyH_ready (rs := [6]) (by kernel_rfl) (by simp) ?_
          refine AllReadyH.cons rfl (fun K hK => ?_) AllReadyH.nil
          simp only [List.getElem_toArray, List.getElem_cons_succ, List.getElem_cons_zero]
          go_simp
          refine hK.out _ _ trivial (fun hS => ?_)
          clear hK K
          refine wpAnyH_done (by kernel_rfl) ?_ _
          go_wp2
          go_ret2
          exact ⟨rfl, unhide B3⟩
      · have h2' : ((s.size : Int) != 48) = true := ne_int h2
        have he := errU_23 h1 h3 h2
        rw [unwrapB_no (by omega), he]
        have H4 := hide h3
        clear h1 h2 h3 he hK
        go_enter Tryd.func22, Tryd.ntmps22
        go_wp2_with fail
        refine (isKey_any m w).mono ?_
        rintro e w1 ⟨rfl, rfl⟩
        rw [hd1]
        go_wp2_with fail
        refine (isPlace_any v b w1).mono ?_
        rintro e w2 ⟨rfl, rfl⟩
        rw [unhide H4]
        go_wp2
        go_ret2
        exact ⟨rfl, Below.refl _ _⟩
    · have h3' : plc v b = false := by simpa using h3
      have he := errU_1 (s := s) h1 h3'
      rw [unwrapB_no (by omega), he]
      have H4 := hide h3'
      clear h1 h3 h3' he hK
      go_enter Tryd.func22, Tryd.ntmps22
      go_wp2_with fail
      refine (isKey_any m w).mono ?_
      rintro e w1 ⟨rfl, rfl⟩
      rw [hd1]
      go_wp2_with fail
      refine (isPlace_any v b w1).mono ?_
      rintro e w2 ⟨rfl, rfl⟩
      rw [unhide H4]
      go_wp2
      go_ret2
      exact ⟨rfl, Below.refl _ _⟩
  · have hd1 : decide (m.size = 32) = false := by simp [h1]
    have he : errU m v b s = 20 := errU_20 h1
    rw [unwrapB_no (by omega), he]
    clear h1 he hK
    go_enter Tryd.func22, Tryd.ntmps22
    go_wp2_with fail
    refine (isKey_any m w).mono ?_
    rintro e w1 ⟨rfl, rfl⟩
    rw [hd1]
    go_wp2
    go_ret2
    exact ⟨rfl, Below.refl _ _⟩
end Go.Proofs.YtbnefbncjnfjdaaDoor
