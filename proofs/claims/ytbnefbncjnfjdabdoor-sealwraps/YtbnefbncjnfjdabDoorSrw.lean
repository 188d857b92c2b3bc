import Derived.Test.YtbnefbncjnfjdabDoorSro
namespace Go.Proofs.YtbnefbncjnfjdabDoor
open Go.RowKit
set_option maxHeartbeats 400000 in
theorem rplace_any (v b : Int) (w : World) :
    Calls Tryd.prog 28 #[.int .i64 v, .int .i64 b] w fun e w' => e = .returned (.bool (plc v b)) ∧ w' = w := by
  by_cases h1 : 0 ≤ v
  · by_cases h2 : v ≤ 99
    · by_cases h3 : 0 ≤ b
      · by_cases h4 : b < 60
        · have HD := hide (show plc v b = true by simp [plc]; omega)
          go_enter Tryd.func28, Tryd.ntmps28
          go_wp2
          go_ret
          exact ⟨by rw [unhide HD]; rfl, rfl⟩
        · have HD := hide (show plc v b = false by simp [plc]; omega)
          have h4' : 60 ≤ b := by omega
          go_enter Tryd.func28, Tryd.ntmps28
          go_wp2
          go_ret
          exact ⟨by rw [unhide HD]; rfl, rfl⟩
      · have HD := hide (show plc v b = false by simp [plc]; omega)
        have h3' : b < 0 := by omega
        go_enter Tryd.func28, Tryd.ntmps28
        go_wp2
        go_ret
        exact ⟨by rw [unhide HD]; rfl, rfl⟩
    · have HD := hide (show plc v b = false by simp [plc]; omega)
      have h2' : 99 < v := by omega
      go_enter Tryd.func28, Tryd.ntmps28
      go_wp2
      go_ret
      exact ⟨by rw [unhide HD]; rfl, rfl⟩
  · have HD := hide (show plc v b = false by simp [plc]; omega)
    have h1' : v < 0 := by omega
    go_enter Tryd.func28, Tryd.ntmps28
    go_wp2
    go_ret
    exact ⟨by rw [unhide HD]; rfl, rfl⟩
set_option maxHeartbeats 400000 in
theorem rsecret_any (m : ByteArray) (v b : Int) (hm : m.size = 32) (hv : 0 ≤ v ∧ v ≤ 99) (hb : 0 ≤ b ∧ b < 60) (w : World) :
    Calls Tryd.prog 29 #[.string m, .int .i64 v, .int .i64 b] w fun e w' => e = .returned (.string (secB m v b)) ∧ Below w.heap.size w w' := by
  have H1 := hide (rnumber_any v 4 (by omega) (by omega) (by omega) w)
  have H2 := hide (fun W => rnumber_any b 4 (by omega) (by omega) (by omega) W)
  have z1 : (numT v 4).size = 4 := numT_size v 4
  have z2 : (numT b 4).size = 4 := numT_size b 4
  have z0 : (wrapT ++ numT v 4).size = 8 := by rw [ByteArray.size_append, z1]; rfl
  have H3 := hide (fun W => rmac_any m (wrapT ++ numT v 4 ++ numT b 4) (by omega) (by rw [ByteArray.size_append, z0, z2]; omega) W)
  change Hid (Calls Tryd.prog 38 #[.int .i64 v, .int .i64 4] w fun e w' => e = .returned (.string (numT v 4)) ∧ Below w.heap.size w w') at H1
  change Hid (∀ W, Calls Tryd.prog 38 #[.int .i64 b, .int .i64 4] W fun e w' => e = .returned (.string (numT b 4)) ∧ Below W.heap.size W w') at H2
  change Hid (∀ W, Calls Tryd.prog 23 #[.string m, .string (wrapT ++ numT v 4 ++ numT b 4)] W fun e w' => e = .returned (.string (secB m v b)) ∧ Below W.heap.size W w') at H3
  clear hv hb hm
  generalize secB m v b = sc at *
  generalize numT v 4 = nv at *
  generalize numT b 4 = nb at *
  go_enter Tryd.func29, Tryd.ntmps29
  go_wp2_with fail
  refine (unhide H1).mono ?_
  rintro e w1 ⟨rfl, hB⟩
  have B1 := hide hB
  clear hB H1
  rw [wrapT_eq] at H3 z0
  go_wp2_with fail
  refine (unhide H2 w1).mono ?_
  rintro e w2 ⟨rfl, hB⟩
  have B2 := hide ((unhide B1).trans (hB.mono (unhide B1).size))
  clear hB H2 B1
  go_wp2_with fail
  refine (unhide H3 w2).mono ?_
  rintro e w3 ⟨rfl, hB⟩
  have B3 := hide ((unhide B2).trans (hB.mono (unhide B2).size))
  clear hB H3 B2
  go_wp2
  go_ret
  exact ⟨rfl, unhide B3⟩
theorem nums_inj2 {s t : ByteArray} (h : nums s = nums t) : s = t := by
  rw [← strOfNums_nums s, ← strOfNums_nums t, h]
theorem nums_ext (t : ByteArray) (a b : Nat) : nums (t.extract a b) = ((nums t).drop a).take (b - a) := by
  simp [nums, ByteArray.data_extract, List.extract_eq_take_drop]
theorem cut48 (s : ByteArray) (h : s.size = 48) : s.extract 0 32 ++ s.extract 32 48 = s := by
  apply nums_inj2
  rw [nums_app, nums_ext, nums_ext, List.drop_zero, Nat.sub_zero, List.take_of_length_le (l := (nums s).drop 32) (by rw [List.length_drop, nums_len]; omega), List.take_append_drop]
theorem tag_same (s t : ByteArray) (h : s.size = 48) : s.extract 0 32 ++ t = s ↔ t = s.extract 32 48 := by
  constructor
  · intro e
    have e2 : nums (s.extract 0 32) ++ nums t = nums (s.extract 0 32) ++ nums (s.extract 32 48) := by rw [← nums_app, ← nums_app, e, cut48 s h]
    exact nums_inj2 (List.append_cancel_left e2)
  · intro e
    rw [e, cut48 s h]
set_option maxHeartbeats 400000 in
theorem rtagged_any (h s : ByteArray) (hh : h.size = 32) (hs : s.size = 32) (w : World) :
    Calls Tryd.prog 30 #[.string h, .string s] w fun e w' => e = .returned (.string (s ++ tagB h s)) ∧ Below w.heap.size w w' := by
  have z0 : (tagT ++ s).size = 35 := by rw [ByteArray.size_append, hs]; rfl
  have H1 := hide (rmac_any h (tagT ++ s) (by omega) (by omega) w)
  have zm := macB_size h (tagT ++ s)
  have zt : ((macB h (tagT ++ s)).extract 0 16).size = 16 := by rw [ByteArray.size_extract, zm]; rfl
  have HT := hide (show tagB h s = (macB h (tagT ++ s)).extract 0 16 from rfl)
  change Hid (Calls Tryd.prog 23 #[.string h, .string (tagT ++ s)] w fun e w' => e = .returned (.string (macB h (tagT ++ s))) ∧ Below w.heap.size w w') at H1
  rw [unhide HT]
  generalize macB h (tagT ++ s) = m at *
  clear hh z0 HT
  rw [tagT_eq] at H1
  go_enter Tryd.func30, Tryd.ntmps30
  go_wp2_with fail
  refine (unhide H1).mono ?_
  rintro e w1 ⟨rfl, hB⟩
  have B1 := hide hB
  clear hB H1
  go_wp2
  go_ret
  exact ⟨rfl, unhide B1⟩
set_option maxRecDepth 100000 in
set_option maxHeartbeats 1000000 in
theorem rwrap_any (m : ByteArray) (v b : Int) (k : ByteArray) (w : World) :
    Calls Tryd.prog 11 #[.string m, .int .i64 v, .int .i64 b, .string k] w fun e w' => e = .returned (.tuple #[.string (wrapB m v b k), .int .i64 (errW m v b k)]) ∧ Below w.heap.size w w' := by
  by_cases h1 : m.size = 32
  · have hd1 : ((m.size : Int) != 32) = false := by simp; omega
    by_cases h2 : k.size = 32
    · have hd2 : ((k.size : Int) != 32) = false := by simp; omega
      by_cases h3 : plc v b = true
      · obtain ⟨p1, p2, p3, p4⟩ := plc_iff.1 h3
        have he := errW_0 (v := v) (b := b) ⟨h1, h2⟩ h3
        rw [wrapB_yes he, he]
        have H1 := hide (fun W => rsecret_any m v b h1 ⟨p1, p2⟩ ⟨p3, p4⟩ W)
        have zs := secB_size m v b
        have zl := laidB_size (secB m v b) 0 k
        obtain ⟨pt, hP, hL⟩ := rlaidK (secB m v b) 32 k zs h2 (by omega)
        have H2 := hide hP
        have H3 := hide hL
        have H4 := hide (fun W => rtagged_any (secB m v b) (laidB (secB m v b) 0 k) zs (by omega) W)
        have H5 := hide h3
        clear h1 h2 h3 he p1 p2 p3 p4 hP hL
        generalize laidB (secB m v b) 0 k ++ tagB (secB m v b) (laidB (secB m v b) 0 k) = tg at *
        generalize laidB (secB m v b) 0 k = lb at *
        generalize secB m v b = sc at *
        go_enter Tryd.func11, Tryd.ntmps11
        go_wp2_with fail
        refine (rplace_any v b w).mono ?_
        rintro e w3 ⟨rfl, rfl⟩
        rw [unhide H5]
        go_wp2_with fail
        refine (unhide H1 _).mono ?_
        rintro e w4 ⟨rfl, hB⟩
        have B1 := hide hB
        clear hB H1
        go_wp2_with fail
        refine (unhide H2 _).mono ?_
        rintro e w5 ⟨rfl, hB⟩
        have B2 := hide ((unhide B1).trans (hB.mono (unhide B1).size))
        clear hB H2 B1
        go_wp2_with fail
        refine (unhide H3 _).mono ?_
        rintro e w6 ⟨rfl, hB⟩
        have B3 := hide ((unhide B2).trans (hB.mono (unhide B2).size))
        clear hB H3 B2
        go_wp2_with fail
        refine (unhide H4 _).mono ?_
        rintro e w7 ⟨rfl, hB⟩
        have B4 := hide ((unhide B3).trans (hB.mono (unhide B3).size))
        clear hB H4 B3
        go_wp2
        go_ret2
        exact ⟨rfl, unhide B4⟩
      · have h3' : plc v b = false := by simpa using h3
        have he := errW_1 (v := v) (b := b) ⟨h1, h2⟩ h3'
        rw [wrapB_no (by omega), he]
        have H4 := hide h3'
        clear h1 h2 h3 h3' he
        go_enter Tryd.func11, Tryd.ntmps11
        go_wp2_with fail
        refine (rplace_any v b w).mono ?_
        rintro e w3 ⟨rfl, rfl⟩
        rw [unhide H4]
        go_wp2
        go_ret2
        exact ⟨rfl, Below.refl _ _⟩
    · have hd2 : ((k.size : Int) != 32) = true := ne_int h2
      have he : errW m v b k = 20 := errW_20 (fun h => h2 h.2)
      rw [wrapB_no (by omega), he]
      clear h1 h2 he
      go_enter Tryd.func11, Tryd.ntmps11
      go_wp2
      go_ret2
      exact ⟨rfl, Below.refl _ _⟩
  · have hd1 : ((m.size : Int) != 32) = true := ne_int h1
    have he : errW m v b k = 20 := errW_20 (fun h => h1 h.1)
    rw [wrapB_no (by omega), he]
    clear h1 he
    go_enter Tryd.func11, Tryd.ntmps11
    go_wp2
    go_ret2
    exact ⟨rfl, Below.refl _ _⟩
set_option maxRecDepth 100000 in
set_option maxHeartbeats 1000000 in
theorem runwrap_any (m : ByteArray) (v b : Int) (s : ByteArray) (w : World) :
    Calls Tryd.prog 13 #[.string m, .int .i64 v, .int .i64 b, .string s] w fun e w' => e = .returned (.tuple #[.string (unwrapB m v b s), .int .i64 (errU m v b s)]) ∧ Below w.heap.size w w' := by
  by_cases h1 : m.size = 32
  · have hd1 : ((m.size : Int) != 32) = false := by simp; omega
    by_cases h3 : plc v b = true
    · by_cases h2 : s.size = 48
      · have h2' : ((s.size : Int) != 48) = false := by simp; omega
        obtain ⟨p1, p2, p3, p4⟩ := plc_iff.1 h3
        have H1 := hide (fun W => rsecret_any m v b h1 ⟨p1, p2⟩ ⟨p3, p4⟩ W)
        have zs := secB_size m v b
        have zh : (s.extract 0 32).size = 32 := by rw [ByteArray.size_extract, h2]; rfl
        obtain ⟨pt, hP, hL⟩ := rlaidK (secB m v b) 32 (s.extract 0 32) zs zh (by omega)
        have H2 := hide hP
        have H3 := hide hL
        have H4 := hide (fun W => rtagged_any (secB m v b) (s.extract 0 32) zs zh W)
        have H5 := hide h3
        by_cases h4 : tagB (secB m v b) (s.extract 0 32) = s.extract 32 48
        · have he := errU_0 h1 h3 h2 h4
          rw [unwrapB_yes he, he]
          rw [h4, cut48 s h2] at H4
          clear h1 h3 h4 he p1 p2 p3 p4 hP hL
          generalize laidB (secB m v b) 0 (s.extract 0 32) = lb at *
          generalize secB m v b = sc at *
          obtain ⟨hd, hhd⟩ : ∃ hd, s.extract 0 32 = hd := ⟨_, rfl⟩
          rw [hhd] at zh H3 H4
          go_enter Tryd.func13, Tryd.ntmps13
          go_wp2_with fail
          refine (rplace_any v b w).mono ?_
          rintro e w3 ⟨rfl, rfl⟩
          rw [unhide H5]
          go_wp2_with fail
          refine (unhide H1 _).mono ?_
          rintro e w4 ⟨rfl, hB⟩
          have B1 := hide hB
          clear hB H1
          go_wp2_with fail
          refine (unhide H4 _).mono ?_
          rintro e w5 ⟨rfl, hB⟩
          have B2 := hide ((unhide B1).trans (hB.mono (unhide B1).size))
          clear hB H4 B1
          go_wp2_with fail
          refine wp_region_held_drew (S := fun _ => True) (by kernel_rfl) trivial ?_
          intro hS
          refine wpAnyH_takeD 0 (some 35) (.string s) rfl rfl (by kernel_rfl) (by kernel_rfl) (by kernel_rfl) (fun _ _ _ h => h) (Or.inl ⟨by rfl, fun w hSw => by go_simp⟩) hS ?_
          simp only [Act.put, List.setIfInBounds_toArray, List.set_cons_zero, List.set_cons_succ]
          refine wpAnyH_takeD 1 (some 36) (.string hd) rfl rfl (by kernel_rfl) (by kernel_rfl) (by kernel_rfl) (fun _ _ _ h => h) (Or.inl ⟨by rfl, fun w hSw => by go_simp⟩) hS ?_
          simp only [Act.put, List.setIfInBounds_toArray, List.set_cons_zero, List.set_cons_succ]
          refine wpAnyH_takeD 2 (some 37) (.string sc) rfl rfl (by kernel_rfl) (by kernel_rfl) (by kernel_rfl) (fun _ _ _ h => h) (Or.inl ⟨by rfl, fun w hSw => by go_simp⟩) hS ?_
          simp only [Act.put, List.setIfInBounds_toArray, List.set_cons_zero, List.set_cons_succ]
          refine wpAnyH_ready (rs := [3]) (by kernel_rfl) (by simp) ?_
          refine AllReadyH.cons rfl (fun K hK => ?_) AllReadyH.nil
          simp only [List.getElem_toArray, List.getElem_cons_succ, List.getElem_cons_zero]
          go_simp
          refine (unhide H2 w5.drew).mono ?_
          rintro e w6 ⟨rfl, hB⟩
          have B3 := hide ((unhide B2).drew.trans (hB.mono (unhide B2).size))
          refine hK.out _ _ trivial (fun hS => ?_)
          clear hB H2 B2 hK K
          refine wpAnyH_ready (rs := [4]) (by kernel_rfl) (by simp) ?_
          refine AllReadyH.cons rfl (fun K hK => ?_) AllReadyH.nil
          simp only [List.getElem_toArray, List.getElem_cons_succ, List.getElem_cons_zero]
          go_simp
          refine (unhide H3 w6).mono ?_
          rintro e w7 ⟨rfl, hB⟩
          have B4 := hide ((unhide B3).trans (hB.mono (unhide B3).size))
          refine hK.out _ _ trivial (fun hS => ?_)
          clear hB H3 B3 hK K
          refine wpAnyH_takeD 5 (some 8) (.string lb) rfl rfl (by kernel_rfl) (by kernel_rfl) (by kernel_rfl) (fun _ _ _ h => h) (Or.inl ⟨by rfl, fun w hSw => by go_simp⟩) hS ?_
          simp only [Act.put, List.setIfInBounds_toArray, List.set_cons_zero, List.set_cons_succ]
          refine wpAnyH_takeD 6 (some 9) (.int .i64 0) rfl rfl (by kernel_rfl) (by kernel_rfl) (by kernel_rfl) (fun _ _ _ h => h) (Or.inl ⟨by rfl, fun w hSw => by go_simp⟩) hS ?_
          simp only [Act.put, List.setIfInBounds_toArray, List.set_cons_zero, List.set_cons_succ]
          refine wpAnyH_done (by kernel_rfl) ?_ _
          go_wp2
          go_ret2
          exact ⟨rfl, unhide B4⟩
        · have he := errU_22 h1 h3 h2 h4
          rw [unwrapB_no (by omega), he]
          have hq := str_ne (fun e => h4 ((tag_same s _ h2).1 e))
          clear h1 h3 h4 he p1 p2 p3 p4 hP hL H2 H3
          generalize s.extract 0 32 ++ tagB (secB m v b) (s.extract 0 32) = wt at *
          generalize secB m v b = sc at *
          obtain ⟨hd, hhd⟩ : ∃ hd, s.extract 0 32 = hd := ⟨_, rfl⟩
          rw [hhd] at zh H4
          go_enter Tryd.func13, Tryd.ntmps13
          go_wp2_with fail
          refine (rplace_any v b w).mono ?_
          rintro e w3 ⟨rfl, rfl⟩
          rw [unhide H5]
          go_wp2_with fail
          refine (unhide H1 _).mono ?_
          rintro e w4 ⟨rfl, hB⟩
          have B1 := hide hB
          clear hB H1
          go_wp2_with fail
          refine (unhide H4 _).mono ?_
          rintro e w5 ⟨rfl, hB⟩
          have B2 := hide ((unhide B1).trans (hB.mono (unhide B1).size))
          clear hB H4 B1
          go_wp2
          go_ret2
          exact ⟨rfl, unhide B2⟩
      · have h2' : ((s.size : Int) != 48) = true := ne_int h2
        have he := errU_23 h1 h3 h2
        rw [unwrapB_no (by omega), he]
        have H4 := hide h3
        clear h1 h2 h3 he
        go_enter Tryd.func13, Tryd.ntmps13
        go_wp2_with fail
        refine (rplace_any v b w).mono ?_
        rintro e w2 ⟨rfl, rfl⟩
        rw [unhide H4]
        go_wp2
        go_ret2
        exact ⟨rfl, Below.refl _ _⟩
    · have h3' : plc v b = false := by simpa using h3
      have he := errU_1 (s := s) h1 h3'
      rw [unwrapB_no (by omega), he]
      have H4 := hide h3'
      clear h1 h3 h3' he
      go_enter Tryd.func13, Tryd.ntmps13
      go_wp2_with fail
      refine (rplace_any v b w).mono ?_
      rintro e w2 ⟨rfl, rfl⟩
      rw [unhide H4]
      go_wp2
      go_ret2
      exact ⟨rfl, Below.refl _ _⟩
  · have hd1 : ((m.size : Int) != 32) = true := ne_int h1
    have he : errU m v b s = 20 := errU_20 h1
    rw [unwrapB_no (by omega), he]
    clear h1 he
    go_enter Tryd.func13, Tryd.ntmps13
    go_wp2
    go_ret2
    exact ⟨rfl, Below.refl _ _⟩
end Go.Proofs.YtbnefbncjnfjdabDoor
