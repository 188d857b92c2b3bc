import Derived.Test.YtkileaocgecckaaDoorQla
import Derived.Test.YtkileaocgecckaaDoorQlh
import Derived.Test.YtkileaocgecckaaDoorQrd
namespace Go.Proofs.YtkileaocgecckaaDoor
open Go.RowKit
set_option maxRecDepth 100000
set_option maxHeartbeats 4000000 in
theorem clashes19 (root : ByteArray) (N I0 : Int) (s s' : ByteArray) (hs : s.size ≤ 140737488351232) (hs' : s'.size ≤ 140737488351232) (P P' : List ByteArray) (q q' : Nat) (hq : P.length = q) (hq' : P'.length = q') (w : World) (c c' : Nat) (p p' : Option Addr) (hS : SB w w.heap.size p P) (hS' : SB w w.heap.size p' P') (hK : KTab w) (hq9 : q ≤ 8796093021952) (hpn : p = none → c = 0) (hq9' : q' ≤ 8796093021952) (hpn' : p' = none → c' = 0) : Calls Tryd.prog 7 #[.string root, .int .i64 N, .int .i64 I0, .string s, .slice p q c, .string s', .slice p' q' c'] w fun e w' => e = .returned (.bool true) ∧ Below w.heap.size w w' := by
  obtain ⟨h, hh⟩ : ∃ h, w.heap.size = h := ⟨_, rfl⟩
  rw [hh] at hS hS'
  have HKB := hide (show ∀ W, Below h w W → KTab W from fun W hW => hK.below hW (by rw [← hh]; exact hK.1))
  have HSB := hide (show ∀ W, Below h w W → SB W h p P from fun W hW => hS.below hW)
  have HSB' := hide (show ∀ W, Below h w W → SB W h p' P' from fun W hW => hS'.below hW)
  have HAW := hide (fun W (hW : Below h w W) => awake19 W (unhide HKB W hW))
  have HLE := hide (fun W (hW : Below h w W) => lent19 W P q c p hq ((unhide HSB W hW).mono (by have := hW.size; omega)) (by omega) hpn)
  have HLE' := hide (fun W (hW : Below h w W) => lent19 W P' q' c' p' hq' ((unhide HSB' W hW).mono (by have := hW.size; omega)) (by omega) hpn')
  have HCL0 := hide (fun W g1 g2 (hW : Below h w W) (hL : LnK W g1 P q (q + 8)) (hL' : LnK W g2 P' q' (q' + 8)) (hg1 : g1 < W.heap.size) (hg2 : g2 < W.heap.size) => Clash_any root N I0 s s' (by omega) (by omega) P P' q q' hq hq' W W.heap.size (q + 8) (q' + 8) (some ⟨g1, 0, none⟩) (some ⟨g2, 0, none⟩) ((hL.SB hq).mono (by omega)) ((hL'.SB hq').mono (by omega)) (Nat.le_refl _) (unhide HKB W hW) (by omega) (by omega) (by omega) (by omega))
  have HRC := hide (fun W (hW : Below h w W) => rclash_any root N I0 s s' (by omega) (by omega) P P' q q' hq hq' W c c' p p' ((unhide HSB W hW).mono (by have := hW.size; omega)) ((unhide HSB' W hW).mono (by have := hW.size; omega)) (by omega) (by omega))
  have HKE := hide (fun W g (hW : Below h w W) (hL : LnK W g P q (q + 8)) => kept19 W P g q c p h hq hL (unhide HSB W hW) (by omega))
  have HKE' := hide (fun W g (hW : Below h w W) (hL : LnK W g P' q' (q' + 8)) => kept19 W P' g q' c' p' h hq' hL (unhide HSB' W hW) (by omega))
  have HB0 := hide (show Below h w w from Below.refl _ _)
  have e8 : (q : Int) ≤ (q : Int) + 8 := by omega
  have e9 : (q' : Int) ≤ (q' : Int) + 8 := by omega
  obtain ⟨er, her⟩ : ∃ z, chE root N I0 s P s' P' = z := ⟨_, rfl⟩
  have HONE := hide (show ∀ a b a' b' : ByteArray, ((er ≠ 0 → a = ⟨#[]⟩ ∧ b = ⟨#[]⟩) ∧ (er = 0 → ∃ T T', up N.toNat I0.toNat s P = some T ∧ up N.toNat I0.toNat s' P' = some T' ∧ FcQ T T' a b)) → ((er ≠ 0 → a' = ⟨#[]⟩ ∧ b' = ⟨#[]⟩) ∧ (er = 0 → ∃ T T', up N.toNat I0.toNat s P = some T ∧ up N.toNat I0.toNat s' P' = some T' ∧ FcQ T T' a' b')) → a = a' ∧ b = b' from fun a b a' b' k1 k2 => by
    by_cases he : er = 0
    · obtain ⟨T, T', t1, t2, t3⟩ := k1.2 he
      obtain ⟨U, U', u1, u2, u3⟩ := k2.2 he
      rw [t1] at u1
      rw [t2] at u2
      cases u1
      cases u2
      exact t3.one u3
    · obtain ⟨rfl, rfl⟩ := k1.1 he
      obtain ⟨rfl, rfl⟩ := k2.1 he
      exact ⟨rfl, rfl⟩)
  unfold ChQ at HCL0 HRC
  rw [her] at HCL0 HRC
  rw [hh]
  clear hS hS' hK hq hq' hs hs' hpn hpn' her
  go_enter Tryd.func7, Tryd.ntmps7
  go_wp2_with fail
  refine (unhide HAW _ (unhide HB0)).mono ?_
  rintro e y1 ⟨rfl, hb⟩
  have HB1 := hide (show Below h w y1 from (unhide HB0).trans (hb.mono (by omega)))
  clear hb
  go_wp2_with fail
  refine (unhide HLE _ (unhide HB1)).mono ?_
  rintro e y2 ⟨rfl, HL, hb⟩
  have HB2 := hide (show Below h w y2 from (unhide HB1).trans (hb.mono (by have := (unhide HB1).size; omega)))
  obtain ⟨g1, hg1⟩ : ∃ z, y1.heap.size = z := ⟨_, rfl⟩
  rw [hg1] at HL
  have hgs : g1 < y2.heap.size := by
    obtain ⟨cur, hB, _⟩ := unhide HL
    exact hB.lt
  clear hb HB1
  go_wp2_with fail
  refine (unhide HLE' _ (unhide HB2)).mono ?_
  rintro e y3 ⟨rfl, HL', hb⟩
  have HB3 := hide (show Below h w y3 from (unhide HB2).trans (hb.mono (by have := (unhide HB2).size; omega)))
  obtain ⟨g2, hg2⟩ : ∃ z, y2.heap.size = z := ⟨_, rfl⟩
  rw [hg2] at HL'
  have hgs2 : g2 < y3.heap.size := by
    obtain ⟨cur, hB, _⟩ := unhide HL'
    exact hB.lt
  have HL1 := hide ((unhide HL).below (hb.mono (by omega)))
  obtain ⟨b2, hb2⟩ : ∃ z, y3.heap.size = z := ⟨_, rfl⟩
  have HGB := hide (show g1 < b2 ∧ g2 < b2 ∧ h ≤ b2 from by have := hb.size; have := (unhide HB3).size; omega)
  have HCL := hide (fun (W : World) (hW : Below b2 y3 W) => unhide HCL0 W g1 g2 ((unhide HB3).trans (hW.mono (unhide HGB).2.2)) ((unhide HL1).below (hW.mono (by have := (unhide HGB).1; omega))) ((unhide HL').below (hW.mono (by have := (unhide HGB).2.1; omega))) (by have := hW.size; have := (unhide HGB).1; omega) (by have := hW.size; have := (unhide HGB).2.1; omega))
  clear hb HB2 HL hgs hgs2 HCL0
  go_wp2_with fail
  refine wp_region_held_drew (S := fun W => Below b2 y3 W) (by kernel_rfl) (Below.refl _ _).drew ?_
  intro hS
  refine wpAnyH_takeD 0 (some 32) (.string root) rfl rfl (by kernel_rfl) (by kernel_rfl) (by kernel_rfl) (fun _ _ _ h => h) (Or.inl ⟨by rfl, fun w hSw => by clear hSw; go_simp; try (intro hbad; omega)⟩) hS ?_
  simp only [Act.put, List.setIfInBounds_toArray, List.set_cons_zero, List.set_cons_succ]
  refine wpAnyH_takeD 1 (some 33) (.int .i64 N) rfl rfl (by kernel_rfl) (by kernel_rfl) (by kernel_rfl) (fun _ _ _ h => h) (Or.inl ⟨by rfl, fun w hSw => by clear hSw; go_simp; try (intro hbad; omega)⟩) hS ?_
  simp only [Act.put, List.setIfInBounds_toArray, List.set_cons_zero, List.set_cons_succ]
  refine wpAnyH_takeD 2 (some 34) (.int .i64 I0) rfl rfl (by kernel_rfl) (by kernel_rfl) (by kernel_rfl) (fun _ _ _ h => h) (Or.inl ⟨by rfl, fun w hSw => by clear hSw; go_simp; try (intro hbad; omega)⟩) hS ?_
  simp only [Act.put, List.setIfInBounds_toArray, List.set_cons_zero, List.set_cons_succ]
  refine wpAnyH_takeD 3 (some 35) (.string s) rfl rfl (by kernel_rfl) (by kernel_rfl) (by kernel_rfl) (fun _ _ _ h => h) (Or.inl ⟨by rfl, fun w hSw => by clear hSw; go_simp; try (intro hbad; omega)⟩) hS ?_
  simp only [Act.put, List.setIfInBounds_toArray, List.set_cons_zero, List.set_cons_succ]
  refine wpAnyH_takeD 4 (some 36) (.slice (some ⟨g1, 0, none⟩) (q + 8) (q + 8)) rfl rfl (by kernel_rfl) (by kernel_rfl) (by kernel_rfl) (fun _ _ _ h => h) (Or.inl ⟨by rfl, fun w hSw => by clear hSw; go_simp; try (intro hbad; omega)⟩) hS ?_
  simp only [Act.put, List.setIfInBounds_toArray, List.set_cons_zero, List.set_cons_succ]
  refine wpAnyH_takeD 5 (some 37) (.slice p q c) rfl rfl (by kernel_rfl) (by kernel_rfl) (by kernel_rfl) (fun _ _ _ h => h) (Or.inl ⟨by rfl, fun w hSw => by clear hSw; go_simp; try (intro hbad; omega)⟩) hS ?_
  simp only [Act.put, List.setIfInBounds_toArray, List.set_cons_zero, List.set_cons_succ]
  refine wpAnyH_takeD 6 (some 38) (.int .i64 (q : Int)) rfl rfl (by kernel_rfl) (by kernel_rfl) (by kernel_rfl) (fun _ _ _ h => h) (Or.inl ⟨by rfl, fun w hSw => by clear hSw; go_simp; try (intro hbad; omega)⟩) hS ?_
  simp only [Act.put, List.setIfInBounds_toArray, List.set_cons_zero, List.set_cons_succ]
  refine wpAnyH_takeD 7 (some 39) (.slice (some ⟨g1, 0, none⟩) q (q + 8)) rfl rfl (by kernel_rfl) (by kernel_rfl) (by kernel_rfl) (fun _ _ _ h => h) (Or.inl ⟨by rfl, fun w hSw => by clear hSw; go_simp; try (intro hbad; omega)⟩) hS ?_
  simp only [Act.put, List.setIfInBounds_toArray, List.set_cons_zero, List.set_cons_succ]
  refine wpAnyH_takeD 8 (some 40) (.string s') rfl rfl (by kernel_rfl) (by kernel_rfl) (by kernel_rfl) (fun _ _ _ h => h) (Or.inl ⟨by rfl, fun w hSw => by clear hSw; go_simp; try (intro hbad; omega)⟩) hS ?_
  simp only [Act.put, List.setIfInBounds_toArray, List.set_cons_zero, List.set_cons_succ]
  refine wpAnyH_takeD 9 (some 41) (.slice (some ⟨g2, 0, none⟩) (q' + 8) (q' + 8)) rfl rfl (by kernel_rfl) (by kernel_rfl) (by kernel_rfl) (fun _ _ _ h => h) (Or.inl ⟨by rfl, fun w hSw => by clear hSw; go_simp; try (intro hbad; omega)⟩) hS ?_
  simp only [Act.put, List.setIfInBounds_toArray, List.set_cons_zero, List.set_cons_succ]
  refine wpAnyH_takeD 10 (some 42) (.slice p' q' c') rfl rfl (by kernel_rfl) (by kernel_rfl) (by kernel_rfl) (fun _ _ _ h => h) (Or.inl ⟨by rfl, fun w hSw => by clear hSw; go_simp; try (intro hbad; omega)⟩) hS ?_
  simp only [Act.put, List.setIfInBounds_toArray, List.set_cons_zero, List.set_cons_succ]
  refine wpAnyH_takeD 11 (some 43) (.int .i64 (q' : Int)) rfl rfl (by kernel_rfl) (by kernel_rfl) (by kernel_rfl) (fun _ _ _ h => h) (Or.inl ⟨by rfl, fun w hSw => by clear hSw; go_simp; try (intro hbad; omega)⟩) hS ?_
  simp only [Act.put, List.setIfInBounds_toArray, List.set_cons_zero, List.set_cons_succ]
  refine wpAnyH_takeD 12 (some 44) (.slice (some ⟨g2, 0, none⟩) q' (q' + 8)) rfl rfl (by kernel_rfl) (by kernel_rfl) (by kernel_rfl) (fun _ _ _ h => h) (Or.inl ⟨by rfl, fun w hSw => by clear hSw; go_simp; try (intro hbad; omega)⟩) hS ?_
  simp only [Act.put, List.setIfInBounds_toArray, List.set_cons_zero, List.set_cons_succ]
  refine wpAnyH_ready (rs := [13]) (by kernel_rfl) (by simp) ?_
  refine AllReadyH.cons rfl (fun K hK => ?_) AllReadyH.nil
  simp only [List.getElem_toArray, List.getElem_cons_succ, List.getElem_cons_zero]
  go_simp
  refine (unhide HCL _ hS).mono ?_
  rintro e y4 ⟨hbb, a, b, rfl, k1, k2⟩
  have HB4 := hide (show Below b2 y3 y4 from hS.trans (hbb.mono (by have := hS.size; omega)))
  have HAB := hide (And.intro k1 k2)
  clear hbb k1 k2 HCL
  refine hK.out _ _ (unhide HB4) (fun hS => ?_)
  clear hK K
  refine wpAnyH_takeD 14 (some 31) (.tuple #[.string a, .string b, .int .i64 er]) rfl rfl (by kernel_rfl) (by kernel_rfl) (by kernel_rfl) (fun _ _ _ h => h) (Or.inl ⟨by rfl, fun w hSw => by clear hSw; go_simp; try (intro hbad; omega)⟩) hS ?_
  simp only [Act.put, List.setIfInBounds_toArray, List.set_cons_zero, List.set_cons_succ]
  refine wpAnyH_takeD 15 (some 46) (.string a) rfl rfl (by kernel_rfl) (by kernel_rfl) (by kernel_rfl) (fun _ _ _ h => h) (Or.inl ⟨by rfl, fun w hSw => by clear hSw; go_simp; try (intro hbad; omega)⟩) hS ?_
  simp only [Act.put, List.setIfInBounds_toArray, List.set_cons_zero, List.set_cons_succ]
  refine wpAnyH_takeD 16 (some 47) (.string b) rfl rfl (by kernel_rfl) (by kernel_rfl) (by kernel_rfl) (fun _ _ _ h => h) (Or.inl ⟨by rfl, fun w hSw => by clear hSw; go_simp; try (intro hbad; omega)⟩) hS ?_
  simp only [Act.put, List.setIfInBounds_toArray, List.set_cons_zero, List.set_cons_succ]
  refine wpAnyH_takeD 17 (some 48) (.int .i64 er) rfl rfl (by kernel_rfl) (by kernel_rfl) (by kernel_rfl) (fun _ _ _ h => h) (Or.inl ⟨by rfl, fun w hSw => by clear hSw; go_simp; try (intro hbad; omega)⟩) hS ?_
  simp only [Act.put, List.setIfInBounds_toArray, List.set_cons_zero, List.set_cons_succ]
  refine wpAnyH_takeD 18 (some 18) (.string a) rfl rfl (by kernel_rfl) (by kernel_rfl) (by kernel_rfl) (fun _ _ _ h => h) (Or.inl ⟨by rfl, fun w hSw => by clear hSw; go_simp; try (intro hbad; omega)⟩) hS ?_
  simp only [Act.put, List.setIfInBounds_toArray, List.set_cons_zero, List.set_cons_succ]
  refine wpAnyH_takeD 19 (some 19) (.string b) rfl rfl (by kernel_rfl) (by kernel_rfl) (by kernel_rfl) (fun _ _ _ h => h) (Or.inl ⟨by rfl, fun w hSw => by clear hSw; go_simp; try (intro hbad; omega)⟩) hS ?_
  simp only [Act.put, List.setIfInBounds_toArray, List.set_cons_zero, List.set_cons_succ]
  refine wpAnyH_takeD 20 (some 20) (.int .i64 er) rfl rfl (by kernel_rfl) (by kernel_rfl) (by kernel_rfl) (fun _ _ _ h => h) (Or.inl ⟨by rfl, fun w hSw => by clear hSw; go_simp; try (intro hbad; omega)⟩) hS ?_
  simp only [Act.put, List.setIfInBounds_toArray, List.set_cons_zero, List.set_cons_succ]
  refine wpAnyH_done (by kernel_rfl) ?_ _
  have HB5 := hide (show Below h w y4 from (unhide HB3).trans ((unhide HB4).mono (unhide HGB).2.2))
  have HL4 := hide ((unhide HL1).below ((unhide HB4).mono (by have := (unhide HGB).1; omega)))
  have HL4' := hide ((unhide HL').below ((unhide HB4).mono (by have := (unhide HGB).2.1; omega)))
  have HG4 := hide (show g1 < y4.heap.size ∧ g2 < y4.heap.size from by have := (unhide HB4).size; have := unhide HGB; omega)
  clear hS HL1 HL' HB4 HB3
  go_wp2_with fail
  refine (unhide HRC _ (unhide HB5)).mono ?_
  rintro e y5 ⟨hbb, a', b', rfl, k1, k2⟩
  obtain ⟨rfl, rfl⟩ := unhide HONE a b a' b' (unhide HAB) ⟨k1, k2⟩
  have HB6 := hide (show Below h w y5 from (unhide HB5).trans (hbb.mono (by have := (unhide HB5).size; omega)))
  have HL5 := hide ((unhide HL4).below (hbb.mono (by have := (unhide HG4).1; omega)))
  have HL5' := hide ((unhide HL4').below (hbb.mono (by have := (unhide HG4).2; omega)))
  have HG5 := hide (show g1 < y5.heap.size ∧ g2 < y5.heap.size from by have := hbb.size; have := unhide HG4; omega)
  clear hbb k1 k2 HAB HB5 HL4 HL4' HG4 HONE HRC
  go_wp2_with fail
  refine (unhide HKE _ g1 (unhide HB6) (unhide HL5)).mono ?_
  rintro e y6 ⟨rfl, hb⟩
  have HB7 := hide (show Below h w y6 from (unhide HB6).trans (hb.mono (by have := (unhide HB6).size; omega)))
  have HL6' := hide ((unhide HL5').below (hb.mono (by have := (unhide HG5).2; omega)))
  clear hb HB6 HL5 HL5'
  go_wp2_with fail
  refine (unhide HKE' _ g2 (unhide HB7) (unhide HL6')).mono ?_
  rintro e y7 ⟨rfl, hb⟩
  have HB8 := hide (show Below h w y7 from (unhide HB7).trans (hb.mono (by have := (unhide HB7).size; omega)))
  clear hb HB7 HL6'
  go_wp2
  go_ret
  exact ⟨rfl, unhide HB8⟩
end Go.Proofs.YtkileaocgecckaaDoor
