import Derived.Test.YtkileaocgecckaaDoorQrb
import Derived.Test.YtkileaocgecckaaDoorQmi
import Derived.Test.YtkileaocgecckaaDoorQld
namespace Go.Proofs.YtkileaocgecckaaDoor
open Go.RowKit
set_option maxRecDepth 100000
set_option maxHeartbeats 8000000 in
theorem rclash_any (root : ByteArray) (N I0 : Int) (s s' : ByteArray) (hs : s.size ≤ 140737488354900) (hs' : s'.size ≤ 140737488354900) (P P' : List ByteArray) (q q' : Nat) (hq : P.length = q) (hq' : P'.length = q') (w : World) (c c' : Nat) (p p' : Option Addr) (hS : SB w w.heap.size p P) (hS' : SB w w.heap.size p' P') (hq9 : q ≤ 8796093022200) (hq9' : q' ≤ 8796093022200) : Calls Tryd.prog 29 #[.string root, .int .i64 N, .int .i64 I0, .string s, .slice p q c, .string s', .slice p' q' c'] w (ChQ w root N I0 s P s' P') := by
  obtain ⟨h, hh⟩ : ∃ h, w.heap.size = h := ⟨_, rfl⟩
  rw [hh] at hS hS'
  have HC1 := hide (fun W (hW : Below h w W) => rcheck_any root N I0 s (by omega) P q hq W c p ((hS.below hW).mono (by have := hW.size; omega)) hq9)
  have HC2 := hide (fun W (hW : Below h w W) => rcheck_any root N I0 s' (by omega) P' q' hq' W c' p' ((hS'.below hW).mono (by have := hW.size; omega)) hq9')
  have hch : chE root N I0 s P s' P' = if ckE root N I0 s P ≠ 0 then ckE root N I0 s P else if ckE root N I0 s' P' ≠ 0 then ckE root N I0 s' P' else if s = s' then 1 else 0 := rfl
  have HER := hide (show ∀ er z, chE root N I0 s P s' P' = er → er ≠ 0 → Below h w z → ChQ w root N I0 s P s' P' (.returned (.tuple #[.string ⟨#[]⟩, .string ⟨#[]⟩, .int .i64 er])) z from fun er z h1 h2 h3 => ⟨by rw [hh]; exact h3, _, _, by rw [h1], fun _ => ⟨rfl, rfl⟩, fun h4 => absurd (h1.symm.trans h4) h2⟩)
  have HB0 := hide (show Below h w w from Below.refl _ _)
  obtain ⟨e1, he1⟩ : ∃ z, ckE root N I0 s P = z := ⟨_, rfl⟩
  obtain ⟨e2, he2⟩ : ∃ z, ckE root N I0 s' P' = z := ⟨_, rfl⟩
  rw [he1] at HC1
  rw [he2] at HC2
  rw [he1, he2] at hch
  by_cases h1 : e1 = 0
  case neg =>
    rw [if_pos h1] at hch
    have HE := hide (fun z => unhide HER e1 z hch h1)
    have hn : (e1 != 0) = true := by simpa using h1
    clear hch HER hS hS' hq hq' he1 he2
    go_enter Tryd.func29, Tryd.ntmps29
    go_wp2_with fail
    refine (unhide HC1 _ (unhide HB0)).mono ?_
    rintro e y1 ⟨rfl, hb⟩
    have HB1 := hide (show Below h w y1 from (unhide HB0).trans (hb.mono (by omega)))
    clear hb
    go_wp2
    go_ret3
    exact unhide HE _ (unhide HB1)
  rw [if_neg (by simpa using h1)] at hch
  by_cases h2 : e2 = 0
  case neg =>
    rw [if_pos h2] at hch
    have HE := hide (fun z => unhide HER e2 z hch h2)
    have hn : (e2 != 0) = true := by simpa using h2
    subst h1
    clear hch HER hS hS' hq hq' he1 he2
    go_enter Tryd.func29, Tryd.ntmps29
    go_wp2_with fail
    refine (unhide HC1 _ (unhide HB0)).mono ?_
    rintro e y1 ⟨rfl, hb⟩
    have HB1 := hide (show Below h w y1 from (unhide HB0).trans (hb.mono (by omega)))
    clear hb
    go_wp2_with fail
    refine (unhide HC2 _ (unhide HB1)).mono ?_
    rintro e y0 ⟨rfl, hb⟩
    have HB2 := hide (show Below h w y0 from (unhide HB1).trans (hb.mono (by have := (unhide HB1).size; omega)))
    clear hb
    go_wp2
    go_ret3
    exact unhide HE _ (unhide HB2)
  rw [if_neg (by simpa using h2)] at hch
  subst h1 h2
  by_cases h3 : s = s'
  · rw [if_pos h3] at hch
    have HE := hide (fun z => unhide HER 1 z hch (by decide))
    subst h3
    clear hch HER hS hS' hq hq' he1 he2
    go_enter Tryd.func29, Tryd.ntmps29
    go_wp2_with fail
    refine (unhide HC1 _ (unhide HB0)).mono ?_
    rintro e y1 ⟨rfl, hb⟩
    have HB1 := hide (show Below h w y1 from (unhide HB0).trans (hb.mono (by omega)))
    clear hb
    go_wp2_with fail
    refine (unhide HC2 _ (unhide HB1)).mono ?_
    rintro e y0 ⟨rfl, hb⟩
    have HB2 := hide (show Below h w y0 from (unhide HB1).trans (hb.mono (by have := (unhide HB1).size; omega)))
    clear hb
    go_wp2
    go_ret3
    exact unhide HE _ (unhide HB2)
  · rw [if_neg h3] at hch
    obtain ⟨T, T', hT, hT', hl, hex⟩ := fooled he1 he2 h3
    obtain ⟨_, ⟨b1, b9, b3, b4⟩, _⟩ := ckE_ok he1
    have hne : (s.toList == s'.toList) = false := str_ne h3
    obtain ⟨n, rfl⟩ : ∃ n : Nat, N = (n : Int) := ⟨N.toNat, by omega⟩
    obtain ⟨i, rfl⟩ : ∃ i : Nat, I0 = (i : Int) := ⟨I0.toNat, by omega⟩
    rw [Int.toNat_natCast, Int.toNat_natCast] at hT hT'
    obtain ⟨m, hm⟩ : ∃ m, T.length = m + 1 := ⟨T.length - 1, by have := List.length_pos_iff.2 (up_ne hT); omega⟩
    have hm2 : m + 1 ≤ 4096 := by have := up_len _ _ _ _ _ hT (by omega); omega
    have hf : Fmd P (sd n i).length := Classical.byContradiction (fun hc => by rw [(up_tx n i s P).2 hc] at hT; cases hT)
    have hf' : Fmd P' (sd n i).length := Classical.byContradiction (fun hc => by rw [(up_tx n i s' P').2 hc] at hT'; cases hT')
    have hTq : tx (sd n i) s P q = T := by have := (up_tx n i s P).1 hf; rw [hT, hq] at this; exact (Option.some.inj this).symm
    have hTq' : tx (sd n i) s' P' q' = T' := by have := (up_tx n i s' P').1 hf'; rw [hT', hq'] at this; exact (Option.some.inj this).symm
    have HT1 := hide (fun W (hW : Below h w W) => rtexts_any n i s (by omega) P hf W c q p hq ((hS.below hW).mono (by have := hW.size; omega)) (by omega) (by omega) (by omega))
    have HT2 := hide (fun W (hW : Below h w W) => rtexts_any n i s' (by omega) P' hf' W c' q' p' hq' ((hS'.below hW).mono (by have := hW.size; omega)) (by omega) (by omega) (by omega))
    rw [hTq] at HT1
    rw [hTq'] at HT2
    have HSZ := hide (And.intro (fun t ht => up_sizes _ _ _ _ _ hT t ht) (fun t ht => up_sizes _ _ _ _ _ hT' t ht))
    have hl' : T'.length = m + 1 := by omega
    have HE := hide (show ∀ a b z, FcQ T T' a b → Below h w z → ChQ w root n i s P s' P' (.returned (.tuple #[.string a, .string b, .int .i64 0])) z from fun a b z h4 h5 => ⟨by rw [hh]; exact h5, a, b, by rw [hch], fun h6 => absurd hch h6, fun _ => ⟨T, T', by rw [Int.toNat_natCast, Int.toNat_natCast]; exact hT, by rw [Int.toNat_natCast, Int.toNat_natCast]; exact hT', h4⟩⟩)
    have HFC := hide (show ∀ k, k < m + 1 → (∀ j, j < k → ¬ Cl T T' j) → Cl T T' k → FcQ T T' (T.getD k ⟨#[]⟩) (T'.getD k ⟨#[]⟩) from fun k hk h1 h2 => ⟨k, by omega, h1, h2, rfl, rfl⟩)
    rw [hm] at hex
    have HEX := hide hex
    have HTT := hide (And.intro hm hl')
    have HSS := hide (And.intro hs hs')
    clear hch HER hl hex hm hl' hT hT' b1 b9 b3 b4 h3 hf hf' hTq hTq' hS hS' hq hq' he1 he2
    go_enter Tryd.func29, Tryd.ntmps29
    go_wp2_with fail
    refine (unhide HC1 _ (unhide HB0)).mono ?_
    rintro e y1 ⟨rfl, hb⟩
    have HB1 := hide (show Below h w y1 from (unhide HB0).trans (hb.mono (by omega)))
    clear hb
    go_wp2_with fail
    refine (unhide HC2 _ (unhide HB1)).mono ?_
    rintro e y0 ⟨rfl, hb⟩
    have HB2 := hide (show Below h w y0 from (unhide HB1).trans (hb.mono (by have := (unhide HB1).size; omega)))
    clear hb
    go_wp2_with fail
    refine (unhide HT1 _ (unhide HB2)).mono ?_
    rintro e y3 ⟨v1, rfl, ho1, hb⟩
    rw [(unhide HTT).1] at ho1
    have HB3 := hide (show Below h w y3 from (unhide HB2).trans (hb.mono (by have := (unhide HB2).size; omega)))
    have HO1 := hide ho1
    obtain ⟨g1, c1, rfl, _, _⟩ := ho1.form (by omega)
    clear ho1 hb HT1
    go_wp2_with fail
    refine (unhide HT2 _ (unhide HB3)).mono ?_
    rintro e y2 ⟨v2, rfl, ho2, hb⟩
    rw [(unhide HTT).2] at ho2
    have HBY := hide (show Below h w y2 from (unhide HB3).trans (hb.mono (by have := (unhide HB3).size; omega)))
    have HO1y := hide (own_bel (unhide HO1) hb)
    have HO2y := hide ho2
    obtain ⟨g2, c2, rfl, _, _⟩ := ho2.form (by omega)
    obtain ⟨b2, hb2⟩ : ∃ z, y2.heap.size = z := ⟨_, rfl⟩
    have hgg : g1 < b2 ∧ g2 < b2 := ⟨by rw [← hb2]; exact ((unhide HO1y).lt g1 rfl).2, by rw [← hb2]; exact (ho2.lt g2 rfl).2⟩
    have hhb : h ≤ b2 := by have := (unhide HBY).size; omega
    have HCC := hide (show ∀ k, k < m + 1 → ∀ W, Below b2 y2 W → W.cell? ⟨g1, k, none⟩ = some (.string (T.getD k ⟨#[]⟩)) ∧ W.cell? ⟨g2, k, none⟩ = some (.string (T'.getD k ⟨#[]⟩)) from fun k hk W hW => by
      have t1 := (unhide HTT).1
      have t2 := (unhide HTT).2
      refine ⟨(hW.cell (p := ⟨g1, k, none⟩) hgg.1).trans ?_, (hW.cell (p := ⟨g2, k, none⟩) hgg.2).trans ?_⟩
      · rw [World.ownsRow.cellAt (unhide HO1y) k (by omega), List.getElem?_map, List.getElem?_eq_getElem (by omega), List.getD_eq_getElem?_getD, List.getElem?_eq_getElem (by omega)]
        rfl
      · rw [World.ownsRow.cellAt (unhide HO2y) k (by omega), List.getElem?_map, List.getElem?_eq_getElem (by omega), List.getD_eq_getElem?_getD, List.getElem?_eq_getElem (by omega)]
        rfl)
    clear ho2 hb HT2 HO1 HO1y HO2y HB3
    go_wp2_with fail
    go_loopw [20] (fun i wr => ∃ k : Nat, k ≤ m + 1 ∧ i = .int .i64 (k : Int) ∧ Hid (∀ j, j < k → ¬ Cl T T' j) ∧ Hid (Below b2 y2 wr)) (fun i _ => m + 1 - (intOf i).toNat)
    case atStart => exact ⟨0, by omega, rfl, fun j hj => absurd hj (by omega), Below.refl _ _⟩
    case round =>
    obtain ⟨k, hk, rfl, HJ, HB⟩ := hrel
    obtain ⟨wi, rfl⟩ : ∃ z, z = wr := ⟨_, rfl⟩
    by_cases hkq : k < m + 1
    case neg =>
      exfalso
      obtain ⟨j, hj, hc⟩ := unhide HEX
      exact unhide HJ j (by omega) hc
    have hkq' : (k : Int) < (m : Int) + 1 := by omega
    have HC := hide (unhide HCC k hkq)
    have HFK := hide (unhide HFC k hkq (unhide HJ))
    have HCLd := hide (show Cl T T' k ↔ (T.getD k ⟨#[]⟩ ≠ T'.getD k ⟨#[]⟩ ∧ dg (T.getD k ⟨#[]⟩) = dg (T'.getD k ⟨#[]⟩)) from Iff.rfl)
    have hz1 := (unhide HSZ).1 (T.getD k ⟨#[]⟩) (getD_mem T k (by have := (unhide HTT).1; omega))
    have hz2 := (unhide HSZ).2 (T'.getD k ⟨#[]⟩) (getD_mem T' k (by have := (unhide HTT).2; omega))
    obtain ⟨t, ht⟩ : ∃ z, T.getD k ⟨#[]⟩ = z := ⟨_, rfl⟩
    obtain ⟨t', ht'⟩ : ∃ z, T'.getD k ⟨#[]⟩ = z := ⟨_, rfl⟩
    rw [ht] at HC HFK HCLd hz1
    rw [ht'] at HC HFK HCLd hz2
    have HS1 := hide (fun W => rdg_any t (by have := (unhide HSS).1; omega) W)
    have HS2 := hide (fun W => rdg_any t' (by have := (unhide HSS).2; omega) W)
    have r0 := (unhide HC wi (unhide HB)).1
    obtain ⟨d1, hd1⟩ : ∃ z, dg t = z := ⟨_, rfl⟩
    obtain ⟨d2, hd2⟩ : ∃ z, dg t' = z := ⟨_, rfl⟩
    rw [hd1] at HS1
    rw [hd2] at HS2
    rw [hd1, hd2] at HCLd
    have HDD := hide (And.intro hd1 hd2)
    clear ht ht' HFC HEX hz1 hz2 hd1 hd2 HSZ HSS
    go_wp2_with fail
    refine (unhide HS1 _).mono ?_
    rintro e y5 ⟨rfl, hb⟩
    have HB6 := hide (show Below b2 y2 y5 from (unhide HB).trans (hb.mono (by have := (unhide HB).size; omega)))
    have r1 := (unhide HC y5 (unhide HB6)).2
    clear hb r0
    go_wp2_with fail
    refine (unhide HS2 _).mono ?_
    rintro e y6 ⟨rfl, hb⟩
    have HB7 := hide (show Below b2 y2 y6 from (unhide HB6).trans (hb.mono (by have := (unhide HB6).size; omega)))
    clear hb r1 HB6 HS1 HS2
    by_cases hcl : t ≠ t' ∧ d1 = d2
    · have HFK2 := hide (unhide HFK ((unhide HCLd).2 hcl))
      have hne3 : (t.toList == t'.toList) = false := str_ne hcl.1
      obtain rfl := hcl.2
      clear HFK HCLd hcl HJ HDD
      go_wp2_with fail
      refine wp_region_held_drew (S := fun W => Below b2 y2 W) (by kernel_rfl) (unhide HB7).drew ?_
      intro hS
      refine wpAnyH_takeD 0 (some 70) (.slice (some ⟨g1, 0, none⟩) (m + 1) c1) rfl rfl (by kernel_rfl) (by kernel_rfl) (by kernel_rfl) (fun _ _ _ h => h) (Or.inl ⟨by rfl, fun w hSw => by have q0 := (unhide HC _ hSw).1; have q1 := (unhide HC _ hSw).2; clear hSw; go_simp; try (intro hbad; omega)⟩) hS ?_
      simp only [Act.put, List.setIfInBounds_toArray, List.set_cons_zero, List.set_cons_succ]
      refine wpAnyH_takeD 1 (some 71) (.int .i64 (k : Int)) rfl rfl (by kernel_rfl) (by kernel_rfl) (by kernel_rfl) (fun _ _ _ h => h) (Or.inl ⟨by rfl, fun w hSw => by have q0 := (unhide HC _ hSw).1; have q1 := (unhide HC _ hSw).2; clear hSw; go_simp; try (intro hbad; omega)⟩) hS ?_
      simp only [Act.put, List.setIfInBounds_toArray, List.set_cons_zero, List.set_cons_succ]
      refine wpAnyH_takeD 2 (some 72) (.pointer (some ⟨g1, k, none⟩)) rfl rfl (by kernel_rfl) (by kernel_rfl) (by kernel_rfl) (fun _ _ _ h => h) (Or.inl ⟨by rfl, fun w hSw => by have q0 := (unhide HC _ hSw).1; have q1 := (unhide HC _ hSw).2; clear hSw; go_simp; try (intro hbad; omega)⟩) hS ?_
      simp only [Act.put, List.setIfInBounds_toArray, List.set_cons_zero, List.set_cons_succ]
      refine wpAnyH_takeD 3 (some 73) (.string t) rfl rfl (by kernel_rfl) (by kernel_rfl) (by kernel_rfl) (fun _ _ _ h => h) (Or.inl ⟨by rfl, fun w hSw => by have q0 := (unhide HC _ hSw).1; have q1 := (unhide HC _ hSw).2; clear hSw; go_simp; try (intro hbad; omega)⟩) hS ?_
      simp only [Act.put, List.setIfInBounds_toArray, List.set_cons_zero, List.set_cons_succ]
      refine wpAnyH_takeD 4 (some 74) (.slice (some ⟨g2, 0, none⟩) (m + 1) c2) rfl rfl (by kernel_rfl) (by kernel_rfl) (by kernel_rfl) (fun _ _ _ h => h) (Or.inl ⟨by rfl, fun w hSw => by have q0 := (unhide HC _ hSw).1; have q1 := (unhide HC _ hSw).2; clear hSw; go_simp; try (intro hbad; omega)⟩) hS ?_
      simp only [Act.put, List.setIfInBounds_toArray, List.set_cons_zero, List.set_cons_succ]
      refine wpAnyH_takeD 5 (some 75) (.int .i64 (k : Int)) rfl rfl (by kernel_rfl) (by kernel_rfl) (by kernel_rfl) (fun _ _ _ h => h) (Or.inl ⟨by rfl, fun w hSw => by have q0 := (unhide HC _ hSw).1; have q1 := (unhide HC _ hSw).2; clear hSw; go_simp; try (intro hbad; omega)⟩) hS ?_
      simp only [Act.put, List.setIfInBounds_toArray, List.set_cons_zero, List.set_cons_succ]
      refine wpAnyH_takeD 6 (some 76) (.pointer (some ⟨g2, k, none⟩)) rfl rfl (by kernel_rfl) (by kernel_rfl) (by kernel_rfl) (fun _ _ _ h => h) (Or.inl ⟨by rfl, fun w hSw => by have q0 := (unhide HC _ hSw).1; have q1 := (unhide HC _ hSw).2; clear hSw; go_simp; try (intro hbad; omega)⟩) hS ?_
      simp only [Act.put, List.setIfInBounds_toArray, List.set_cons_zero, List.set_cons_succ]
      refine wpAnyH_takeD 7 (some 77) (.string t') rfl rfl (by kernel_rfl) (by kernel_rfl) (by kernel_rfl) (fun _ _ _ h => h) (Or.inl ⟨by rfl, fun w hSw => by have q0 := (unhide HC _ hSw).1; have q1 := (unhide HC _ hSw).2; clear hSw; go_simp; try (intro hbad; omega)⟩) hS ?_
      simp only [Act.put, List.setIfInBounds_toArray, List.set_cons_zero, List.set_cons_succ]
      refine wpAnyH_takeD 8 (some 78) (.bool true) rfl rfl (by kernel_rfl) (by kernel_rfl) (by kernel_rfl) (fun _ _ _ h => h) (Or.inl ⟨by rfl, fun w hSw => by have q0 := (unhide HC _ hSw).1; have q1 := (unhide HC _ hSw).2; clear hSw; go_simp; try (intro hbad; omega)⟩) hS ?_
      simp only [Act.put, List.setIfInBounds_toArray, List.set_cons_zero, List.set_cons_succ]
      refine wpAnyH_takeD 9 (some 79) (.bool true) rfl rfl (by kernel_rfl) (by kernel_rfl) (by kernel_rfl) (fun _ _ _ h => h) (Or.inl ⟨by rfl, fun w hSw => by have q0 := (unhide HC _ hSw).1; have q1 := (unhide HC _ hSw).2; clear hSw; go_simp; try (intro hbad; omega)⟩) hS ?_
      simp only [Act.put, List.setIfInBounds_toArray, List.set_cons_zero, List.set_cons_succ]
      refine wpAnyH_takeD 10 (some 80) (.string d1) rfl rfl (by kernel_rfl) (by kernel_rfl) (by kernel_rfl) (fun _ _ _ h => h) (Or.inl ⟨by rfl, fun w hSw => by have q0 := (unhide HC _ hSw).1; have q1 := (unhide HC _ hSw).2; clear hSw; go_simp; try (intro hbad; omega)⟩) hS ?_
      simp only [Act.put, List.setIfInBounds_toArray, List.set_cons_zero, List.set_cons_succ]
      refine wpAnyH_takeD 11 (some 81) (.string d1) rfl rfl (by kernel_rfl) (by kernel_rfl) (by kernel_rfl) (fun _ _ _ h => h) (Or.inl ⟨by rfl, fun w hSw => by have q0 := (unhide HC _ hSw).1; have q1 := (unhide HC _ hSw).2; clear hSw; go_simp; try (intro hbad; omega)⟩) hS ?_
      simp only [Act.put, List.setIfInBounds_toArray, List.set_cons_zero, List.set_cons_succ]
      refine wpAnyH_takeD 12 (some 82) (.bool true) rfl rfl (by kernel_rfl) (by kernel_rfl) (by kernel_rfl) (fun _ _ _ h => h) (Or.inl ⟨by rfl, fun w hSw => by have q0 := (unhide HC _ hSw).1; have q1 := (unhide HC _ hSw).2; clear hSw; go_simp; try (intro hbad; omega)⟩) hS ?_
      simp only [Act.put, List.setIfInBounds_toArray, List.set_cons_zero, List.set_cons_succ]
      refine wpAnyH_takeD 13 (some 83) (.bool true) rfl rfl (by kernel_rfl) (by kernel_rfl) (by kernel_rfl) (fun _ _ _ h => h) (Or.inl ⟨by rfl, fun w hSw => by have q0 := (unhide HC _ hSw).1; have q1 := (unhide HC _ hSw).2; clear hSw; go_simp; try (intro hbad; omega)⟩) hS ?_
      simp only [Act.put, List.setIfInBounds_toArray, List.set_cons_zero, List.set_cons_succ]
      refine wpAnyH_done (by kernel_rfl) ?_ _
      clear hne3
      go_wp2_with fail
      refine wp_region_held_drew (S := fun W => Below b2 y2 W) (by kernel_rfl) hS.drew ?_
      intro hS
      refine wpAnyH_takeD 0 (some 84) (.slice (some ⟨g1, 0, none⟩) (m + 1) c1) rfl rfl (by kernel_rfl) (by kernel_rfl) (by kernel_rfl) (fun _ _ _ h => h) (Or.inl ⟨by rfl, fun w hSw => by have q0 := (unhide HC _ hSw).1; have q1 := (unhide HC _ hSw).2; clear hSw; go_simp; try (intro hbad; omega)⟩) hS ?_
      simp only [Act.put, List.setIfInBounds_toArray, List.set_cons_zero, List.set_cons_succ]
      refine wpAnyH_takeD 1 (some 85) (.int .i64 (k : Int)) rfl rfl (by kernel_rfl) (by kernel_rfl) (by kernel_rfl) (fun _ _ _ h => h) (Or.inl ⟨by rfl, fun w hSw => by have q0 := (unhide HC _ hSw).1; have q1 := (unhide HC _ hSw).2; clear hSw; go_simp; try (intro hbad; omega)⟩) hS ?_
      simp only [Act.put, List.setIfInBounds_toArray, List.set_cons_zero, List.set_cons_succ]
      refine wpAnyH_takeD 2 (some 86) (.pointer (some ⟨g1, k, none⟩)) rfl rfl (by kernel_rfl) (by kernel_rfl) (by kernel_rfl) (fun _ _ _ h => h) (Or.inl ⟨by rfl, fun w hSw => by have q0 := (unhide HC _ hSw).1; have q1 := (unhide HC _ hSw).2; clear hSw; go_simp; try (intro hbad; omega)⟩) hS ?_
      simp only [Act.put, List.setIfInBounds_toArray, List.set_cons_zero, List.set_cons_succ]
      refine wpAnyH_takeD 3 (some 87) (.string t) rfl rfl (by kernel_rfl) (by kernel_rfl) (by kernel_rfl) (fun _ _ _ h => h) (Or.inl ⟨by rfl, fun w hSw => by have q0 := (unhide HC _ hSw).1; have q1 := (unhide HC _ hSw).2; clear hSw; go_simp; try (intro hbad; omega)⟩) hS ?_
      simp only [Act.put, List.setIfInBounds_toArray, List.set_cons_zero, List.set_cons_succ]
      refine wpAnyH_takeD 4 (some 88) (.slice (some ⟨g2, 0, none⟩) (m + 1) c2) rfl rfl (by kernel_rfl) (by kernel_rfl) (by kernel_rfl) (fun _ _ _ h => h) (Or.inl ⟨by rfl, fun w hSw => by have q0 := (unhide HC _ hSw).1; have q1 := (unhide HC _ hSw).2; clear hSw; go_simp; try (intro hbad; omega)⟩) hS ?_
      simp only [Act.put, List.setIfInBounds_toArray, List.set_cons_zero, List.set_cons_succ]
      refine wpAnyH_takeD 5 (some 89) (.int .i64 (k : Int)) rfl rfl (by kernel_rfl) (by kernel_rfl) (by kernel_rfl) (fun _ _ _ h => h) (Or.inl ⟨by rfl, fun w hSw => by have q0 := (unhide HC _ hSw).1; have q1 := (unhide HC _ hSw).2; clear hSw; go_simp; try (intro hbad; omega)⟩) hS ?_
      simp only [Act.put, List.setIfInBounds_toArray, List.set_cons_zero, List.set_cons_succ]
      refine wpAnyH_takeD 6 (some 90) (.pointer (some ⟨g2, k, none⟩)) rfl rfl (by kernel_rfl) (by kernel_rfl) (by kernel_rfl) (fun _ _ _ h => h) (Or.inl ⟨by rfl, fun w hSw => by have q0 := (unhide HC _ hSw).1; have q1 := (unhide HC _ hSw).2; clear hSw; go_simp; try (intro hbad; omega)⟩) hS ?_
      simp only [Act.put, List.setIfInBounds_toArray, List.set_cons_zero, List.set_cons_succ]
      refine wpAnyH_takeD 7 (some 91) (.string t') rfl rfl (by kernel_rfl) (by kernel_rfl) (by kernel_rfl) (fun _ _ _ h => h) (Or.inl ⟨by rfl, fun w hSw => by have q0 := (unhide HC _ hSw).1; have q1 := (unhide HC _ hSw).2; clear hSw; go_simp; try (intro hbad; omega)⟩) hS ?_
      simp only [Act.put, List.setIfInBounds_toArray, List.set_cons_zero, List.set_cons_succ]
      refine wpAnyH_takeD 8 (some 14) (.string t) rfl rfl (by kernel_rfl) (by kernel_rfl) (by kernel_rfl) (fun _ _ _ h => h) (Or.inl ⟨by rfl, fun w hSw => by have q0 := (unhide HC _ hSw).1; have q1 := (unhide HC _ hSw).2; clear hSw; go_simp; try (intro hbad; omega)⟩) hS ?_
      simp only [Act.put, List.setIfInBounds_toArray, List.set_cons_zero, List.set_cons_succ]
      refine wpAnyH_takeD 9 (some 15) (.string t') rfl rfl (by kernel_rfl) (by kernel_rfl) (by kernel_rfl) (fun _ _ _ h => h) (Or.inl ⟨by rfl, fun w hSw => by have q0 := (unhide HC _ hSw).1; have q1 := (unhide HC _ hSw).2; clear hSw; go_simp; try (intro hbad; omega)⟩) hS ?_
      simp only [Act.put, List.setIfInBounds_toArray, List.set_cons_zero, List.set_cons_succ]
      refine wpAnyH_takeD 10 (some 16) (.int .i64 0) rfl rfl (by kernel_rfl) (by kernel_rfl) (by kernel_rfl) (fun _ _ _ h => h) (Or.inl ⟨by rfl, fun w hSw => by have q0 := (unhide HC _ hSw).1; have q1 := (unhide HC _ hSw).2; clear hSw; go_simp; try (intro hbad; omega)⟩) hS ?_
      simp only [Act.put, List.setIfInBounds_toArray, List.set_cons_zero, List.set_cons_succ]
      refine wpAnyH_done (by kernel_rfl) ?_ _
      have HG := hide (unhide HE t t' _ (unhide HFK2) ((unhide HBY).trans (hS.mono hhb)))
      clear HE HFK2
      go_wp2
      go_ret3
      exact unhide HG
    · have HJ2 := hide (show ∀ j, j < k + 1 → ¬ Cl T T' j from fun j hj => by
        by_cases e : j = k
        · rw [e]; exact fun hc => hcl ((unhide HCLd).1 hc)
        · exact unhide HJ j (by omega))
      by_cases htt : t = t'
      · subst htt
        obtain rfl : d1 = d2 := by rw [← (unhide HDD).1, ← (unhide HDD).2]
        clear HFK HCLd hcl HJ HDD
        go_wp2_with fail
        refine wp_region_held_drew (S := fun W => Below b2 y2 W) (by kernel_rfl) (unhide HB7).drew ?_
        intro hS
        refine wpAnyH_takeD 0 (some 70) (.slice (some ⟨g1, 0, none⟩) (m + 1) c1) rfl rfl (by kernel_rfl) (by kernel_rfl) (by kernel_rfl) (fun _ _ _ h => h) (Or.inl ⟨by rfl, fun w hSw => by have q0 := (unhide HC _ hSw).1; have q1 := (unhide HC _ hSw).2; clear hSw; go_simp; try (intro hbad; omega)⟩) hS ?_
        simp only [Act.put, List.setIfInBounds_toArray, List.set_cons_zero, List.set_cons_succ]
        refine wpAnyH_takeD 1 (some 71) (.int .i64 (k : Int)) rfl rfl (by kernel_rfl) (by kernel_rfl) (by kernel_rfl) (fun _ _ _ h => h) (Or.inl ⟨by rfl, fun w hSw => by have q0 := (unhide HC _ hSw).1; have q1 := (unhide HC _ hSw).2; clear hSw; go_simp; try (intro hbad; omega)⟩) hS ?_
        simp only [Act.put, List.setIfInBounds_toArray, List.set_cons_zero, List.set_cons_succ]
        refine wpAnyH_takeD 2 (some 72) (.pointer (some ⟨g1, k, none⟩)) rfl rfl (by kernel_rfl) (by kernel_rfl) (by kernel_rfl) (fun _ _ _ h => h) (Or.inl ⟨by rfl, fun w hSw => by have q0 := (unhide HC _ hSw).1; have q1 := (unhide HC _ hSw).2; clear hSw; go_simp; try (intro hbad; omega)⟩) hS ?_
        simp only [Act.put, List.setIfInBounds_toArray, List.set_cons_zero, List.set_cons_succ]
        refine wpAnyH_takeD 3 (some 73) (.string t) rfl rfl (by kernel_rfl) (by kernel_rfl) (by kernel_rfl) (fun _ _ _ h => h) (Or.inl ⟨by rfl, fun w hSw => by have q0 := (unhide HC _ hSw).1; have q1 := (unhide HC _ hSw).2; clear hSw; go_simp; try (intro hbad; omega)⟩) hS ?_
        simp only [Act.put, List.setIfInBounds_toArray, List.set_cons_zero, List.set_cons_succ]
        refine wpAnyH_takeD 4 (some 74) (.slice (some ⟨g2, 0, none⟩) (m + 1) c2) rfl rfl (by kernel_rfl) (by kernel_rfl) (by kernel_rfl) (fun _ _ _ h => h) (Or.inl ⟨by rfl, fun w hSw => by have q0 := (unhide HC _ hSw).1; have q1 := (unhide HC _ hSw).2; clear hSw; go_simp; try (intro hbad; omega)⟩) hS ?_
        simp only [Act.put, List.setIfInBounds_toArray, List.set_cons_zero, List.set_cons_succ]
        refine wpAnyH_takeD 5 (some 75) (.int .i64 (k : Int)) rfl rfl (by kernel_rfl) (by kernel_rfl) (by kernel_rfl) (fun _ _ _ h => h) (Or.inl ⟨by rfl, fun w hSw => by have q0 := (unhide HC _ hSw).1; have q1 := (unhide HC _ hSw).2; clear hSw; go_simp; try (intro hbad; omega)⟩) hS ?_
        simp only [Act.put, List.setIfInBounds_toArray, List.set_cons_zero, List.set_cons_succ]
        refine wpAnyH_takeD 6 (some 76) (.pointer (some ⟨g2, k, none⟩)) rfl rfl (by kernel_rfl) (by kernel_rfl) (by kernel_rfl) (fun _ _ _ h => h) (Or.inl ⟨by rfl, fun w hSw => by have q0 := (unhide HC _ hSw).1; have q1 := (unhide HC _ hSw).2; clear hSw; go_simp; try (intro hbad; omega)⟩) hS ?_
        simp only [Act.put, List.setIfInBounds_toArray, List.set_cons_zero, List.set_cons_succ]
        refine wpAnyH_takeD 7 (some 77) (.string t) rfl rfl (by kernel_rfl) (by kernel_rfl) (by kernel_rfl) (fun _ _ _ h => h) (Or.inl ⟨by rfl, fun w hSw => by have q0 := (unhide HC _ hSw).1; have q1 := (unhide HC _ hSw).2; clear hSw; go_simp; try (intro hbad; omega)⟩) hS ?_
        simp only [Act.put, List.setIfInBounds_toArray, List.set_cons_zero, List.set_cons_succ]
        refine wpAnyH_takeD 8 (some 78) (.bool false) rfl rfl (by kernel_rfl) (by kernel_rfl) (by kernel_rfl) (fun _ _ _ h => h) (Or.inl ⟨by rfl, fun w hSw => by have q0 := (unhide HC _ hSw).1; have q1 := (unhide HC _ hSw).2; clear hSw; go_simp; try (intro hbad; omega)⟩) hS ?_
        simp only [Act.put, List.setIfInBounds_toArray, List.set_cons_zero, List.set_cons_succ]
        refine wpAnyH_takeD 9 (some 79) (.bool false) rfl rfl (by kernel_rfl) (by kernel_rfl) (by kernel_rfl) (fun _ _ _ h => h) (Or.inl ⟨by rfl, fun w hSw => by have q0 := (unhide HC _ hSw).1; have q1 := (unhide HC _ hSw).2; clear hSw; go_simp; try (intro hbad; omega)⟩) hS ?_
        simp only [Act.put, List.setIfInBounds_toArray, List.set_cons_zero, List.set_cons_succ]
        refine wpAnyH_takeD 10 (some 80) undef rfl rfl (by kernel_rfl) (by kernel_rfl) (by kernel_rfl) (fun _ _ _ h => h) (Or.inr ⟨by rfl, rfl⟩) hS ?_
        simp only [Act.put, List.setIfInBounds_toArray, List.set_cons_zero, List.set_cons_succ]
        refine wpAnyH_takeD 11 (some 81) undef rfl rfl (by kernel_rfl) (by kernel_rfl) (by kernel_rfl) (fun _ _ _ h => h) (Or.inr ⟨by rfl, rfl⟩) hS ?_
        simp only [Act.put, List.setIfInBounds_toArray, List.set_cons_zero, List.set_cons_succ]
        refine wpAnyH_takeD 12 (some 82) undef rfl rfl (by kernel_rfl) (by kernel_rfl) (by kernel_rfl) (fun _ _ _ h => h) (Or.inr ⟨by rfl, rfl⟩) hS ?_
        simp only [Act.put, List.setIfInBounds_toArray, List.set_cons_zero, List.set_cons_succ]
        refine wpAnyH_takeD 13 (some 83) (.bool false) rfl rfl (by kernel_rfl) (by kernel_rfl) (by kernel_rfl) (fun _ _ _ h => h) (Or.inl ⟨by rfl, fun w hSw => by have q0 := (unhide HC _ hSw).1; have q1 := (unhide HC _ hSw).2; clear hSw; go_simp; try (intro hbad; omega)⟩) hS ?_
        simp only [Act.put, List.setIfInBounds_toArray, List.set_cons_zero, List.set_cons_succ]
        refine wpAnyH_done (by kernel_rfl) ?_ _
        have HBN := hide hS
        go_wp2
        go_roundw
        case rel => exact ⟨k + 1, by omega, by go_num, HJ2, HBN⟩
        case measure => simp [intOf] <;> omega
      · have hnd : ¬ d1 = d2 := fun e => hcl ⟨htt, e⟩
        have hne3 : (t.toList == t'.toList) = false := str_ne htt
        have hne4 : (d1.toList == d2.toList) = false := str_ne hnd
        clear HFK HCLd hcl HJ hnd htt HDD
        go_wp2_with fail
        refine wp_region_held_drew (S := fun W => Below b2 y2 W) (by kernel_rfl) (unhide HB7).drew ?_
        intro hS
        refine wpAnyH_takeD 0 (some 70) (.slice (some ⟨g1, 0, none⟩) (m + 1) c1) rfl rfl (by kernel_rfl) (by kernel_rfl) (by kernel_rfl) (fun _ _ _ h => h) (Or.inl ⟨by rfl, fun w hSw => by have q0 := (unhide HC _ hSw).1; have q1 := (unhide HC _ hSw).2; clear hSw; go_simp; try (intro hbad; omega)⟩) hS ?_
        simp only [Act.put, List.setIfInBounds_toArray, List.set_cons_zero, List.set_cons_succ]
        refine wpAnyH_takeD 1 (some 71) (.int .i64 (k : Int)) rfl rfl (by kernel_rfl) (by kernel_rfl) (by kernel_rfl) (fun _ _ _ h => h) (Or.inl ⟨by rfl, fun w hSw => by have q0 := (unhide HC _ hSw).1; have q1 := (unhide HC _ hSw).2; clear hSw; go_simp; try (intro hbad; omega)⟩) hS ?_
        simp only [Act.put, List.setIfInBounds_toArray, List.set_cons_zero, List.set_cons_succ]
        refine wpAnyH_takeD 2 (some 72) (.pointer (some ⟨g1, k, none⟩)) rfl rfl (by kernel_rfl) (by kernel_rfl) (by kernel_rfl) (fun _ _ _ h => h) (Or.inl ⟨by rfl, fun w hSw => by have q0 := (unhide HC _ hSw).1; have q1 := (unhide HC _ hSw).2; clear hSw; go_simp; try (intro hbad; omega)⟩) hS ?_
        simp only [Act.put, List.setIfInBounds_toArray, List.set_cons_zero, List.set_cons_succ]
        refine wpAnyH_takeD 3 (some 73) (.string t) rfl rfl (by kernel_rfl) (by kernel_rfl) (by kernel_rfl) (fun _ _ _ h => h) (Or.inl ⟨by rfl, fun w hSw => by have q0 := (unhide HC _ hSw).1; have q1 := (unhide HC _ hSw).2; clear hSw; go_simp; try (intro hbad; omega)⟩) hS ?_
        simp only [Act.put, List.setIfInBounds_toArray, List.set_cons_zero, List.set_cons_succ]
        refine wpAnyH_takeD 4 (some 74) (.slice (some ⟨g2, 0, none⟩) (m + 1) c2) rfl rfl (by kernel_rfl) (by kernel_rfl) (by kernel_rfl) (fun _ _ _ h => h) (Or.inl ⟨by rfl, fun w hSw => by have q0 := (unhide HC _ hSw).1; have q1 := (unhide HC _ hSw).2; clear hSw; go_simp; try (intro hbad; omega)⟩) hS ?_
        simp only [Act.put, List.setIfInBounds_toArray, List.set_cons_zero, List.set_cons_succ]
        refine wpAnyH_takeD 5 (some 75) (.int .i64 (k : Int)) rfl rfl (by kernel_rfl) (by kernel_rfl) (by kernel_rfl) (fun _ _ _ h => h) (Or.inl ⟨by rfl, fun w hSw => by have q0 := (unhide HC _ hSw).1; have q1 := (unhide HC _ hSw).2; clear hSw; go_simp; try (intro hbad; omega)⟩) hS ?_
        simp only [Act.put, List.setIfInBounds_toArray, List.set_cons_zero, List.set_cons_succ]
        refine wpAnyH_takeD 6 (some 76) (.pointer (some ⟨g2, k, none⟩)) rfl rfl (by kernel_rfl) (by kernel_rfl) (by kernel_rfl) (fun _ _ _ h => h) (Or.inl ⟨by rfl, fun w hSw => by have q0 := (unhide HC _ hSw).1; have q1 := (unhide HC _ hSw).2; clear hSw; go_simp; try (intro hbad; omega)⟩) hS ?_
        simp only [Act.put, List.setIfInBounds_toArray, List.set_cons_zero, List.set_cons_succ]
        refine wpAnyH_takeD 7 (some 77) (.string t') rfl rfl (by kernel_rfl) (by kernel_rfl) (by kernel_rfl) (fun _ _ _ h => h) (Or.inl ⟨by rfl, fun w hSw => by have q0 := (unhide HC _ hSw).1; have q1 := (unhide HC _ hSw).2; clear hSw; go_simp; try (intro hbad; omega)⟩) hS ?_
        simp only [Act.put, List.setIfInBounds_toArray, List.set_cons_zero, List.set_cons_succ]
        refine wpAnyH_takeD 8 (some 78) (.bool true) rfl rfl (by kernel_rfl) (by kernel_rfl) (by kernel_rfl) (fun _ _ _ h => h) (Or.inl ⟨by rfl, fun w hSw => by have q0 := (unhide HC _ hSw).1; have q1 := (unhide HC _ hSw).2; clear hSw; go_simp; try (intro hbad; omega)⟩) hS ?_
        simp only [Act.put, List.setIfInBounds_toArray, List.set_cons_zero, List.set_cons_succ]
        refine wpAnyH_takeD 9 (some 79) (.bool true) rfl rfl (by kernel_rfl) (by kernel_rfl) (by kernel_rfl) (fun _ _ _ h => h) (Or.inl ⟨by rfl, fun w hSw => by have q0 := (unhide HC _ hSw).1; have q1 := (unhide HC _ hSw).2; clear hSw; go_simp; try (intro hbad; omega)⟩) hS ?_
        simp only [Act.put, List.setIfInBounds_toArray, List.set_cons_zero, List.set_cons_succ]
        refine wpAnyH_takeD 10 (some 80) (.string d1) rfl rfl (by kernel_rfl) (by kernel_rfl) (by kernel_rfl) (fun _ _ _ h => h) (Or.inl ⟨by rfl, fun w hSw => by have q0 := (unhide HC _ hSw).1; have q1 := (unhide HC _ hSw).2; clear hSw; go_simp; try (intro hbad; omega)⟩) hS ?_
        simp only [Act.put, List.setIfInBounds_toArray, List.set_cons_zero, List.set_cons_succ]
        refine wpAnyH_takeD 11 (some 81) (.string d2) rfl rfl (by kernel_rfl) (by kernel_rfl) (by kernel_rfl) (fun _ _ _ h => h) (Or.inl ⟨by rfl, fun w hSw => by have q0 := (unhide HC _ hSw).1; have q1 := (unhide HC _ hSw).2; clear hSw; go_simp; try (intro hbad; omega)⟩) hS ?_
        simp only [Act.put, List.setIfInBounds_toArray, List.set_cons_zero, List.set_cons_succ]
        refine wpAnyH_takeD 12 (some 82) (.bool false) rfl rfl (by kernel_rfl) (by kernel_rfl) (by kernel_rfl) (fun _ _ _ h => h) (Or.inl ⟨by rfl, fun w hSw => by have q0 := (unhide HC _ hSw).1; have q1 := (unhide HC _ hSw).2; clear hSw; go_simp; try (intro hbad; omega)⟩) hS ?_
        simp only [Act.put, List.setIfInBounds_toArray, List.set_cons_zero, List.set_cons_succ]
        refine wpAnyH_takeD 13 (some 83) (.bool false) rfl rfl (by kernel_rfl) (by kernel_rfl) (by kernel_rfl) (fun _ _ _ h => h) (Or.inl ⟨by rfl, fun w hSw => by have q0 := (unhide HC _ hSw).1; have q1 := (unhide HC _ hSw).2; clear hSw; go_simp; try (intro hbad; omega)⟩) hS ?_
        simp only [Act.put, List.setIfInBounds_toArray, List.set_cons_zero, List.set_cons_succ]
        refine wpAnyH_done (by kernel_rfl) ?_ _
        clear hne3 hne4
        have HBN := hide hS
        go_wp2
        go_roundw
        case rel => exact ⟨k + 1, by omega, by go_num, HJ2, HBN⟩
        case measure => simp [intOf] <;> omega
end Go.Proofs.YtkileaocgecckaaDoor
