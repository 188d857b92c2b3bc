import Derived.Test.YtifjmldmilmfjaaGreatDoorMa16
import Derived.BigQuiet
namespace Go.Proofs.YtifjmldmilmfjaaGreatDoor
open Go.RowKit
set_option maxRecDepth 100000
theorem tdiv_I64 (z : Int) (hz : I64 z) : I64 (z.tdiv 64) := by
  obtain ⟨h1, h2⟩ := hz
  by_cases r : 0 ≤ z
  · rw [Int.tdiv_eq_ediv_of_nonneg r]
    exact ⟨by omega, by omega⟩
  · have e : z.tdiv 64 = -((-z).tdiv 64) := by rw [Int.neg_tdiv, Int.neg_neg]
    rw [e, Int.tdiv_eq_ediv_of_nonneg (by omega)]
    exact ⟨by omega, by omega⟩
set_option maxHeartbeats 16000000 in
theorem all21 (key one two : Int) (ml : List ByteArray) (qm cm : Nat) (pm : Option Addr) (ol : List Int) (qo co : Nat) (po : Option Addr) (hqm : ml.length = qm) (hqo : ol.length = qo) (hqb : qo ≤ 17592186044400) (hI9 : ∀ i, I64 (ol.getD i 0)) (w : World) (hSB : SB w w.heap.size pm ml) (hIL : IL w w.heap.size po ol) (hqmb : qm ≤ 17592186044400) (hK : KTab w) (hG : ETy w) : Calls Tryz.prog 3 #[.int .i64 key, .int .i64 one, .int .i64 two, .slice pm qm cm, .slice po qo co] w fun ev w' => ev = .returned (.bool true) ∧ Below w.heap.size w w' := by
  obtain ⟨h, hh⟩ : ∃ h, w.heap.size = h := ⟨_, rfl⟩
  have hvh : 1 < h := by rw [← hh]; exact hK.1
  have hKB : ∀ W, Below h w W → KTab W ∧ ETy W := fun W hW => ⟨hK.below (by rw [← hh] at hW; exact hW) hK.1, hG.below (by rw [← hh] at hW; exact hW) hG.lt⟩
  have HKN := hide (known21 w hK hG)
  have HME := hide (fun o W (hKW : KTab W) => met_any key o two W hKW)
  rw [hh] at HKN hSB hIL ⊢
  have HKB := hide hKB
  have HSM := hide (And.intro hSB hqm)
  have HOL := hide (And.intro hqo (And.intro hI9 hIL))
  obtain ⟨i0, hi, hz3, hz1, hz2⟩ := info_parts gr_str
  have HI := hide (And.intro hi (And.intro hz3 (And.intro hz1 hz2)))
  obtain ⟨i3, hi3, hz33, hz13, hz23⟩ := info_parts gr_int
  have HI3 := hide (And.intro hi3 (And.intro hz33 (And.intro hz13 hz23)))
  clear hKB hSB hqm hqo hI9 hIL hK hG hi hz3 hz1 hz2 hi3 hz33 hz13 hz23
  go_enter Tryz.func3, Tryz.ntmps3
  go_wp2_with fail
  refine (unhide HKN).mono ?_
  rintro ev y0 ⟨rfl, hb⟩
  have HB := hide hb
  clear hb HKN
  go_wp2_with fail
  refine (unhide HME one y0 (unhide HKB _ (unhide HB)).1).mono ?_
  rintro ev y1 ⟨g1, g2, rfl, hE1, hE2, hne, hg1, hg2, hb⟩
  have hs0 := (unhide HB).size
  have HB1 := hide (show Below h w y1 from (unhide HB).trans (hb.mono (by omega)))
  have HX1 := hide (And.intro hE1 (And.intro hE2 (And.intro hne (And.intro (show h ≤ g1 by omega) (show h ≤ g2 by omega)))))
  clear hb HB hE1 hE2 hne hg1 hg2 hs0
  go_wp2_with fail
  refine (unhide HME _ y1 (unhide HKB _ (unhide HB1)).1).mono ?_
  rintro ev y2 ⟨g3, g4, rfl, hE3, hE4, hne2, hg3, hg4, hb⟩
  have HAI := hide (show ∃ gb E, AlI w h y2.heap.size gb ((y2.alloc (.cells #[.pointer (some ⟨g1, 0, none⟩), .pointer (some ⟨g2, 0, none⟩), .pointer (some ⟨g3, 0, none⟩), .pointer (some ⟨g4, 0, none⟩)] 25)).alloc (.cells #[.pointer (some ⟨g2, 0, none⟩), .pointer (some ⟨g1, 0, none⟩), .pointer (some ⟨g4, 0, none⟩), .pointer (some ⟨g3, 0, none⟩)] 25)) E ∧ Fr4 0 E from by
    obtain ⟨x1, x2, x3, x4, x5⟩ := unhide HX1
    have hs1 := (unhide HB1).size
    have k1 := x1.lt
    have k2 := x2.lt
    exact AlI.init w h y2 key one _ two g1 g2 g3 g4 ((unhide HB1).trans (hb.mono (by omega))) (x1.below hb k1) (x2.below hb k2) hE3 hE4 x4 x5 (by omega) (by omega) x3 hne2 (by omega) (by omega) (by omega) (by omega))
  clear hb hE3 hE4 hne2 hg3 hg4 HX1 HB1 HME
  obtain ⟨gb, E0, hal, hfr⟩ := unhide HAI
  obtain ⟨fb, hfb⟩ : ∃ z, y2.heap.size = z := ⟨_, rfl⟩
  rw [hfb] at hal
  obtain ⟨z2, hz2⟩ : ∃ z, (y2.alloc (.cells #[.pointer (some ⟨g1, 0, none⟩), .pointer (some ⟨g2, 0, none⟩), .pointer (some ⟨g3, 0, none⟩), .pointer (some ⟨g4, 0, none⟩)] 25)).alloc (.cells #[.pointer (some ⟨g2, 0, none⟩), .pointer (some ⟨g1, 0, none⟩), .pointer (some ⟨g4, 0, none⟩), .pointer (some ⟨g3, 0, none⟩)] 25) = z := ⟨_, rfl⟩
  rw [hz2] at hal
  have HAL := hide hal
  have hhf := hal.hf
  clear hal HAI
  go_wp2
  clear hz2 hfb
  go_loopw [18] (fun iv wr => ∃ (i : Nat) (E : Nat → LE), i ≤ 4 ∧ iv = .int .i64 (i : Int) ∧ Fr4 i E ∧ Hid (AlI w h fb gb wr E)) (fun iv _ => 4 - (intOf iv).toNat)
  case atStart => exact ⟨0, E0, by omega, rfl, hfr, HAL⟩
  case round =>
  clear HAL hfr
  obtain ⟨i, E, hi4, rfl, hFr, HAL⟩ := hrel
  obtain ⟨wi, rfl⟩ : ∃ z, z = wr := ⟨_, rfl⟩
  by_cases hi : i < 4
  · have e1 : (i : Int) < 4 := by omega
    have hj4 := pt4_lt i hi
    obtain ⟨hr, hHr, hZr, hs⟩ := hFr i hi
    obtain ⟨hs0, ht0, hm0, hq0⟩ := hs (Nat.le_refl _)
    have hr2 := (hFr (pt4 i) hj4).1
    have HFN := hide (fun s t m q => hFr.next s t m q)
    obtain ⟨Hs, hHs⟩ : ∃ z, (E i).h (E i).i = z := ⟨_, rfl⟩
    obtain ⟨Zs, hZs⟩ : ∃ z, (E i).z (E i).i = z := ⟨_, rfl⟩
    rw [hHs] at hHr
    rw [hZs] at hZr
    have HX0 := hide (show LnI w h fb gb wi (upT E i { E i with s := 0 }) (.slice none 0 0) (.slice none 0 0) 0 (frL Hs Zs ml 0) (fun j => j) from ⟨by
      rw [upT_id E i _ (by rw [LE.s0 _ hs0])]
      exact unhide HAL, World.ownsRow_nil _ _ _ _, World.ownsRow_nil _ _ _ _, frL_len _ _ _ _⟩)
    have HTE := hide (And.intro hr2 (And.intro hHr (And.intro hZr (And.intro ht0 (And.intro hm0 hq0)))))
    have HSE := hide (And.intro hr (And.intro hHs hZs))
    clear hFr hr hs hs0 ht0 hm0 hq0 hr2 hHr hZr hHs hZs HAL
    go_wp2
    go_loopw [19, 20, 21] (fun vl vo jv wr => ∃ k : Nat, k ≤ qm ∧ k ≤ 60 ∧ jv = .int .i64 (k : Int) ∧ (∀ j, j < k → (ml.getD j ⟨#[]⟩).size ≤ 4096) ∧ Hid (LnI w h fb gb wr (upT E i { E i with s := k }) vl vo k (frL Hs Zs ml k) (fun j => j))) (fun _ _ jv _ => qm - (intOf jv).toNat)
    case atStart => exact ⟨0, by omega, by omega, rfl, fun j hj => absurd hj (by omega), HX0⟩
    case round =>
    clear HX0
    obtain ⟨k, hkm, hk6, rfl, hsh, HL⟩ := hrel
    obtain ⟨wj, rfl⟩ : ∃ z, z = wr := ⟨_, rfl⟩
    have HSH := hide hsh
    clear hsh
    by_cases hkq : k < qm
    · have d1 : decide ((k : Int) < (qm : Int)) = true := decide_eq_true (by omega)
      by_cases h60 : k < 60
      · have d2 : decide ((k : Int) < 60) = true := decide_eq_true (by omega)
        have hBw := (unhide HL).al.bel
        obtain ⟨gp, op, rfl, hgp, hc⟩ := (unhide HSM).1.below hBw k (by rw [(unhide HSM).2]; exact hkq)
        obtain ⟨s, hs⟩ : ∃ z, ml.getD k ⟨#[]⟩ = z := ⟨_, rfl⟩
        rw [hs] at hc
        by_cases hl : 4096 < s.size
        · have e2 : (s.size : Int) > 4096 := by omega
          clear hs
          go_wp2
          go_ret
          exact ⟨rfl, (unhide HL).al.bel⟩
        have hs4 : s.size ≤ 4096 := by omega
        have e2 : ¬ (s.size : Int) > 4096 := by omega
        have HSN := hide (show ∀ j, j < k + 1 → (ml.getD j ⟨#[]⟩).size ≤ 4096 from fun j hj => by
          by_cases q : j = k
          · subst q; rw [hs]; exact hs4
          · exact unhide HSH j (by omega))
        have hFS : frL Hs Zs ml (k + 1) = frL Hs Zs ml k ++ [frB Hs Zs (k : Int) s] := by
          unfold frL
          rw [List.range_succ (n := k), List.map_append, ← hs]
          rfl
        obtain ⟨F, hF⟩ : ∃ z, frB Hs Zs (k : Int) s = z := ⟨_, rfl⟩
        rw [hF] at hFS
        have hd := (unhide HL).bel' (W' := wj.drew) (Below.refl _ _).drew
        obtain ⟨hr, hHs, hZs⟩ := unhide HSE
        have hen := hd.al.en i hi
        rw [upT_self] at hen
        obtain ⟨s1, s2, s3⟩ := sn_ok { E i with s := k } s hr (show k < 4611686018427387904 by omega) hs4
        have HSA := hide (lsend_any (gb i) { E i with s := k } s (by omega) wj.drew hen (unhide HKB _ hd.al.bel).1)
        have s2' : LE.snF { E i with s := k } s = F := by rw [s2, ← hF, ← hHs, ← hZs]; rfl
        have s3' : LE.snN { E i with s := k } s = { E i with s := k + 1 } := s3
        rw [s1, s2', s3'] at HSA
        have HGR0 := hide (show ∀ z1, EndM z1 (gb i) { E i with s := k + 1 } → Only (fun q => q = gb i) wj.drew z1 → LnI w h fb gb z1 (upT E i { E i with s := k + 1 }) _ _ k (frL Hs Zs ml k) (fun j => j) from fun z1 h1 h2 => by
          have := hd.put i hi _ h1 h2
          rw [upT_upT] at this
          exact this)
        obtain ⟨g1, hg1⟩ : ∃ z, gb i = z := ⟨_, rfl⟩
        obtain ⟨AT, hAT⟩ : ∃ AT : World → Prop, AT = fun y => Below h w y ∧ y.cell? ⟨fb, i, none⟩ = some (.pointer (some ⟨g1, 0, none⟩)) := ⟨_, rfl⟩
        have HAT := hide (show AT wj.drew from by rw [hAT, ← hg1]; exact ⟨hd.al.bel, hd.al.rf i hi⟩)
        rw [hg1] at HSA HGR0
        have HGR := HGR0
        have HC := hide (show ∀ y, AT y → y.cell? ⟨fb, i, none⟩ = some (.pointer (some ⟨g1, 0, none⟩)) ∧ y.cell? ⟨gp, op + k, none⟩ = some (.string s) from fun y hy => by
          rw [hAT] at hy
          obtain ⟨g9, o9, e9, _, r9⟩ := (unhide HSM).1.below hy.1 k (by rw [(unhide HSM).2]; exact hkq)
          injection e9 with e9
          injection e9 with e8 e9
          subst e8 e9
          rw [hs] at r9
          exact ⟨hy.2, r9⟩)
        have HSB := hide (show ∀ z1, EndM z1 g1 { E i with s := k + 1 } → Only (fun q => q = g1) wj.drew z1 → AT z1 from fun z1 h1 h2 => by
          rw [hAT, ← hg1]
          have := unhide HGR z1 h1 h2
          exact ⟨this.al.bel, this.al.rf i hi⟩)
        clear hAT hg1 hen s1 s2 s3 s2' s3' hd hs hBw hr hHs hZs hF HL HSH HGR0
        go_wp2_with fail
        refine wp_region_held_drew (S := AT) (by kernel_rfl) (unhide HAT) ?_
        intro hS
        refine wpAnyH_takeD 0 (some 88) (.slice (some ⟨fb, 0, none⟩) 4 4) rfl rfl (by kernel_rfl) (by kernel_rfl) (by kernel_rfl) (fun _ _ _ h => h) (Or.inl ⟨by rfl, fun w hSw => by obtain ⟨hq1, hq2⟩ := unhide HC w hSw; clear hSw; go_simp⟩) hS ?_
        simp only [Act.put, List.setIfInBounds_toArray, List.set_cons_zero, List.set_cons_succ]
        refine wpAnyH_takeD 1 (some 89) (.int .i64 (i : Int)) rfl rfl (by kernel_rfl) (by kernel_rfl) (by kernel_rfl) (fun _ _ _ h => h) (Or.inl ⟨by rfl, fun w hSw => by obtain ⟨hq1, hq2⟩ := unhide HC w hSw; clear hSw; go_simp⟩) hS ?_
        simp only [Act.put, List.setIfInBounds_toArray, List.set_cons_zero, List.set_cons_succ]
        refine wpAnyH_takeD 2 (some 90) (.pointer (some ⟨fb, i, none⟩)) rfl rfl (by kernel_rfl) (by kernel_rfl) (by kernel_rfl) (fun _ _ _ h => h) (Or.inl ⟨by rfl, fun w hSw => by obtain ⟨hq1, hq2⟩ := unhide HC w hSw; clear hSw; go_simp⟩) hS ?_
        simp only [Act.put, List.setIfInBounds_toArray, List.set_cons_zero, List.set_cons_succ]
        refine wpAnyH_takeD 3 (some 91) (.pointer (some ⟨g1, 0, none⟩)) rfl rfl (by kernel_rfl) (by kernel_rfl) (by kernel_rfl) (fun _ _ _ h => h) (Or.inl ⟨by rfl, fun w hSw => by obtain ⟨hq1, hq2⟩ := unhide HC w hSw; clear hSw; go_simp⟩) hS ?_
        simp only [Act.put, List.setIfInBounds_toArray, List.set_cons_zero, List.set_cons_succ]
        refine wpAnyH_takeD 4 (some 92) (.pointer (some ⟨g1, 0, none⟩)) rfl rfl (by kernel_rfl) (by kernel_rfl) (by kernel_rfl) (fun _ _ _ h => h) (Or.inl ⟨by rfl, fun w hSw => by obtain ⟨hq1, hq2⟩ := unhide HC w hSw; clear hSw; go_simp⟩) hS ?_
        simp only [Act.put, List.setIfInBounds_toArray, List.set_cons_zero, List.set_cons_succ]
        refine wpAnyH_takeD 5 (some 93) (.pointer (some ⟨g1, 0, none⟩)) rfl rfl (by kernel_rfl) (by kernel_rfl) (by kernel_rfl) (fun _ _ _ h => h) (Or.inl ⟨by rfl, fun w hSw => by obtain ⟨hq1, hq2⟩ := unhide HC w hSw; clear hSw; go_simp⟩) hS ?_
        simp only [Act.put, List.setIfInBounds_toArray, List.set_cons_zero, List.set_cons_succ]
        refine wpAnyH_takeD 6 (some 94) (.slice (some ⟨gp, op, none⟩) qm cm) rfl rfl (by kernel_rfl) (by kernel_rfl) (by kernel_rfl) (fun _ _ _ h => h) (Or.inl ⟨by rfl, fun w hSw => by obtain ⟨hq1, hq2⟩ := unhide HC w hSw; clear hSw; go_simp⟩) hS ?_
        simp only [Act.put, List.setIfInBounds_toArray, List.set_cons_zero, List.set_cons_succ]
        refine wpAnyH_takeD 7 (some 95) (.int .i64 (k : Int)) rfl rfl (by kernel_rfl) (by kernel_rfl) (by kernel_rfl) (fun _ _ _ h => h) (Or.inl ⟨by rfl, fun w hSw => by obtain ⟨hq1, hq2⟩ := unhide HC w hSw; clear hSw; go_simp⟩) hS ?_
        simp only [Act.put, List.setIfInBounds_toArray, List.set_cons_zero, List.set_cons_succ]
        refine wpAnyH_takeD 8 (some 96) (.pointer (some ⟨gp, op + k, none⟩)) rfl rfl (by kernel_rfl) (by kernel_rfl) (by kernel_rfl) (fun _ _ _ h => h) (Or.inl ⟨by rfl, fun w hSw => by obtain ⟨hq1, hq2⟩ := unhide HC w hSw; clear hSw; go_simp⟩) hS ?_
        simp only [Act.put, List.setIfInBounds_toArray, List.set_cons_zero, List.set_cons_succ]
        refine wpAnyH_takeD 9 (some 97) (.string s) rfl rfl (by kernel_rfl) (by kernel_rfl) (by kernel_rfl) (fun _ _ _ h => h) (Or.inl ⟨by rfl, fun w hSw => by obtain ⟨hq1, hq2⟩ := unhide HC w hSw; clear hSw; go_simp⟩) hS ?_
        simp only [Act.put, List.setIfInBounds_toArray, List.set_cons_zero, List.set_cons_succ]
        refine wpAnyH_ready (rs := [10]) (by kernel_rfl) (by simp) ?_
        refine AllReadyH.cons rfl (fun K hK => ?_) AllReadyH.nil
        simp only [List.getElem_toArray, List.getElem_cons_succ, List.getElem_cons_zero]
        go_simp
        refine (unhide HSA).mono ?_
        rintro ev z1 ⟨rfl, hE, hO⟩
        have hS9 := unhide HSB z1 hE hO
        have HL1 := hide (unhide HGR z1 hE hO)
        clear hE hO
        refine hK.out _ _ hS9 (fun hS => ?_)
        clear hK K
        refine wpAnyH_takeD 11 (some 87) (.tuple #[.string F, .int .i64 0]) rfl rfl (by kernel_rfl) (by kernel_rfl) (by kernel_rfl) (fun _ _ _ h => h) (Or.inl ⟨by rfl, fun w hSw => by obtain ⟨hq1, hq2⟩ := unhide HC w hSw; clear hSw; go_simp⟩) hS ?_
        simp only [Act.put, List.setIfInBounds_toArray, List.set_cons_zero, List.set_cons_succ]
        refine wpAnyH_takeD 12 (some 99) (.string F) rfl rfl (by kernel_rfl) (by kernel_rfl) (by kernel_rfl) (fun _ _ _ h => h) (Or.inl ⟨by rfl, fun w hSw => by obtain ⟨hq1, hq2⟩ := unhide HC w hSw; clear hSw; go_simp⟩) hS ?_
        simp only [Act.put, List.setIfInBounds_toArray, List.set_cons_zero, List.set_cons_succ]
        refine wpAnyH_takeD 13 (some 100) (.int .i64 0) rfl rfl (by kernel_rfl) (by kernel_rfl) (by kernel_rfl) (fun _ _ _ h => h) (Or.inl ⟨by rfl, fun w hSw => by obtain ⟨hq1, hq2⟩ := unhide HC w hSw; clear hSw; go_simp⟩) hS ?_
        simp only [Act.put, List.setIfInBounds_toArray, List.set_cons_zero, List.set_cons_succ]
        refine wpAnyH_takeD 14 (some 22) (.string F) rfl rfl (by kernel_rfl) (by kernel_rfl) (by kernel_rfl) (fun _ _ _ h => h) (Or.inl ⟨by rfl, fun w hSw => by obtain ⟨hq1, hq2⟩ := unhide HC w hSw; clear hSw; go_simp⟩) hS ?_
        simp only [Act.put, List.setIfInBounds_toArray, List.set_cons_zero, List.set_cons_succ]
        refine wpAnyH_takeD 15 (some 23) (.int .i64 0) rfl rfl (by kernel_rfl) (by kernel_rfl) (by kernel_rfl) (fun _ _ _ h => h) (Or.inl ⟨by rfl, fun w hSw => by obtain ⟨hq1, hq2⟩ := unhide HC w hSw; clear hSw; go_simp⟩) hS ?_
        simp only [Act.put, List.setIfInBounds_toArray, List.set_cons_zero, List.set_cons_succ]
        refine wpAnyH_done (by kernel_rfl) ?_ _
        clear hS HAT HC HSB HGR HSA hS9
        obtain ⟨pf, cf, rfl, _⟩ := gr_form (unhide HL1).f
        obtain ⟨pq, cq, rfl, _⟩ := gr_form (unhide HL1).o
        have HOf := hide ((unhide HL1).f.alloc (.cells #[.string F] 9))
        have hzB := (unhide HL1).al.sz
        go_wp2_with (refine wpList_append_lies _ rfl (.tmp 103) (.tmp 105) 22 rfl (fb + 2) 9 i0 (.string ⟨#[]⟩) 1 16 Tryz.underlying22 (unhide HI).1 (unhide HI).2.1 (unhide HI).2.2.1 (unhide HI).2.2.2 rfl (by decide) _ k _ rfl (unhide HOf) ⟨z1.heap.size, 0, none⟩ 1 1 [.string F] rfl rfl (fun q u hu => gr_new z1 9 _ q u hu) (by simp [Value.oneCell']) (by decide) (by unfold maxLen; omega) (by omega) (by simp; omega) (z1.heap.size + 1) (by simp) ?_)
        intro g5 c5 x5 ho5 hg5 hat5 hl5
        have hO5 : Only (fun q => (Value.slice pf k cf).ownBlock = some q) z1 x5 := ((Only.refl _ z1).alloc _).grown hg5 (fun _ _ e => e)
        have hs5 : x5.ownsRow (fb + 2) 3 1 (.slice pq k cq) k (idV (fun j => j) k) := owns_only (unhide HL1).o hO5 (fun q hq e => oTyp (unhide HL1).f (unhide HL1).o (by decide) q e hq)
        have hx5 := hO5.size
        have HOs := hide (hs5.alloc (.cells #[.int .i64 (k : Int)] 3))
        have HG5 := hide (And.intro ho5 (And.intro hg5 hat5))
        clear ho5 hg5 hat5 hl5 hO5 hs5 HOf
        go_wp2_with (refine wpList_append_lies _ rfl (.tmp 107) (.tmp 109) 23 rfl (fb + 2) 3 i3 (.int .i64 0) 1 8 Tryz.underlying23 (unhide HI3).1 (unhide HI3).2.1 (unhide HI3).2.2.1 (unhide HI3).2.2.2 rfl (by decide) _ k _ rfl (unhide HOs) ⟨x5.heap.size, 0, none⟩ 1 1 [.int .i64 (k : Int)] rfl rfl (fun q u hu => gr_new x5 3 _ q u hu) (by simp [Value.oneCell']) (by decide) (by unfold maxLen; omega) (by omega) (by simp; omega) (x5.heap.size + 1) (by simp) ?_)
        intro g6 c6 x6 ho6 hg6 hat6 _
        have HNX := hide (show LnI w h fb gb x6 (upT E i { E i with s := k + 1 }) (.slice (some ⟨g5, 0, none⟩) (k + 1) c5) (.slice (some ⟨g6, 0, none⟩) (k + 1) c6) (k + 1) (frL Hs Zs ml (k + 1)) (fun j => j) from by
          rw [hFS]
          exact (unhide HL1).app F (unhide HG5).1 (unhide HG5).2.1 (unhide HG5).2.2 ho6 hg6)
        clear ho6 hg6 hat6 HOs HG5 HL1 hFS
        go_wp2
        go_roundw
        case rel => exact ⟨k + 1, by omega, by omega, by go_num, unhide HSN, HNX⟩
        case measure => simp [intOf] <;> omega
      have d2 : decide ((k : Int) < 60) = false := decide_eq_false (by omega)
      obtain ⟨n, rfl⟩ : ∃ z, z = k := ⟨_, rfl⟩
      have hn6 : n ≤ 60 := hk6
      have hnm : n ≤ qm := hkm
      obtain ⟨pf, cf, rfl, _⟩ := gr_form (unhide HL).f
      obtain ⟨pq, cq, rfl, _⟩ := gr_form (unhide HL).o
      have hTen0 := Ten.id n
      go_wp2
      go_loopw [24] (fun jv wr => ∃ (j : Nat) (σ : Nat → Nat), j ≤ qo ∧ jv = .int .i64 (j : Int) ∧ Ten σ n ∧ Hid (LnI w h fb gb wr (upT E i { E i with s := n }) (.slice pf n cf) (.slice pq n cq) n (frL Hs Zs ml n) σ)) (fun jv _ => qo - (intOf jv).toNat)
      case atStart => exact ⟨0, _, by omega, rfl, hTen0, HL⟩
      case round =>
      clear HL hTen0 h60 hkq
      obtain ⟨j, σ, hjo, rfl, hTen, HL⟩ := hrel
      obtain ⟨wk, rfl⟩ : ∃ z, z = wr := ⟨_, rfl⟩
      by_cases hjq : j < qo
      · have c1 : decide ((j : Int) < (qo : Int)) = true := decide_eq_true (by omega)
        by_cases hn0 : 0 < n
        · have c2 : decide ((n : Int) > 0) = true := decide_eq_true (by omega)
          obtain ⟨go, rfl, _⟩ := gr_cell (unhide HL).o 0 hn0
          obtain ⟨gq, oq, rfl, hgq, hcq⟩ := (unhide HOL).2.2.below (unhide HL).al.bel j (by rw [(unhide HOL).1]; exact hjq)
          have hc64 := (unhide HOL).2.1 j
          obtain ⟨c, hc⟩ : ∃ z, ol.getD j 0 = z := ⟨_, rfl⟩
          rw [hc] at hcq hc64
          have HP1 := hide (fun W => pick21 c n hn0 hc64 W)
          have hd64 := tdiv_I64 c hc64
          have hw64 : IntKind.i64.wrap (c.tdiv 64) = c.tdiv 64 := wrapI_eq _ hd64.1 hd64.2
          obtain ⟨c6, hc6⟩ : ∃ z, c.tdiv 64 = z := ⟨_, rfl⟩
          rw [hc6] at hw64
          have HP2 := hide (fun W => pick21 c6 10 (by decide) (by rw [← hc6]; exact hd64) W)
          rw [show (((10 : Nat)) : Int) = 10 from rfl] at HP2
          clear hc hc64 hd64
          go_wp2_with fail
          refine (unhide HP1 _).mono ?_
          rintro e y ⟨x, hx, rfl, hy⟩
          subst y
          clear HP1
          obtain ⟨xd, hxd⟩ : ∃ z, x / 10 = z := ⟨_, rfl⟩
          have HXD := hide hxd
          have f1 : (x : Int).tdiv 10 = (xd : Int) := by rw [Int.tdiv_eq_ediv_of_nonneg (by omega)]; omega
          have hxd6 : xd ≤ 6 := by omega
          have hxx : x < 60 := by omega
          clear hxd
          go_wp2_with fail
          refine (unhide HP2 _).mono ?_
          rintro e y ⟨r2, hr2, rfl, hy⟩
          subst y
          clear HP2
          obtain ⟨yy, hyy⟩ : ∃ z, xd * 10 + r2 = z := ⟨_, rfl⟩
          have f3 : (xd : Int) * 10 + (r2 : Int) = (yy : Int) := by omega
          have hy70 : yy < 70 := by omega
          have hxy : x / 10 = yy / 10 := by have := unhide HXD; omega
          clear hyy f1 hw64 hc6
          by_cases hyn : yy < n
          · have c3 : (yy : Int) < (n : Int) := by omega
            have c4 : (x : Int) < (n : Int) := by omega
            obtain ⟨cx, fx⟩ := (unhide HL).cellO x hx
            obtain ⟨cy, fy⟩ := (unhide HL).cellO yy hyn
            have HL1 := hide ((unhide HL).sets x (σ yy) hx)
            have HL2 := hide ((unhide HL1).sets yy (σ x) hyn)
            obtain ⟨cy1, fy1⟩ := (unhide HL1).cellO yy hyn
            have hTen2 := hTen.swap x yy hx hyn hxy
            obtain ⟨v1, hv1⟩ : ∃ z, upT σ x (σ yy) yy = z := ⟨_, rfl⟩
            rw [hv1] at cy1
            obtain ⟨σ2, hσ2⟩ : ∃ z, upT (upT σ x (σ yy)) yy (σ x) = z := ⟨_, rfl⟩
            rw [hσ2] at HL2 hTen2
            obtain ⟨sx, hsx⟩ : ∃ z, σ x = z := ⟨_, rfl⟩
            obtain ⟨sy, hsy⟩ : ∃ z, σ yy = z := ⟨_, rfl⟩
            rw [hsx] at cx HL2
            rw [hsy] at cy HL1 HL2 cy1 fy1
            clear hv1 hσ2 hsx hsy HL HL1 hTen hxy hxd6
            go_wp2
            go_roundw
            case rel => exact ⟨j + 1, σ2, by omega, by go_num, hTen2, HL2⟩
            case measure => simp [intOf] <;> omega
          have c3 : ¬ (yy : Int) < (n : Int) := by omega
          clear hxy hxd6
          go_wp2
          go_roundw
          case rel => exact ⟨j + 1, σ, by omega, by go_num, hTen, HL⟩
          case measure => simp [intOf] <;> omega
        have c2 : decide ((n : Int) > 0) = false := decide_eq_false (by omega)
        have HW0 := hide (show LnI w h fb gb wk (upT (upT E i { E i with s := n }) (pt4 i) { E (pt4 i) with t := 0, m := 0, q := 0 }) (.slice pf n cf) (.slice pq n cq) n (frL Hs Zs ml n) σ from by
          obtain ⟨_, _, _, a1, a2, a3⟩ := unhide HTE
          rw [upT_id _ (pt4 i) _ (by rw [LE.t0 _ a1 a2 a3, upT_ne _ _ _ _ (pt4_ne i)])]
          exact unhide HL)
        go_wp2
        go_loopw [28] (fun jv wr => ∃ (j tt mm : Nat), j ≤ n ∧ jv = .int .i64 (j : Int) ∧ Hid (Win (tkS σ j) tt mm) ∧ Hid (LnI w h fb gb wr (upT (upT E i { E i with s := n }) (pt4 i) { E (pt4 i) with t := tt, m := mm, q := j }) (.slice pf n cf) (.slice pq n cq) n (frL Hs Zs ml n) σ)) (fun jv _ => n - (intOf jv).toNat)
        case atStart => exact ⟨0, 0, 0, by omega, rfl, hide (by rw [tkS_zero]; exact Win.zero), HW0⟩
        case round =>
        clear HW0 HL
        obtain ⟨j, tt, mm, hjn, rfl, HWN, HL⟩ := hrel
        obtain ⟨wl, rfl⟩ : ∃ z, z = wr := ⟨_, rfl⟩
        by_cases hj2 : j < n
        · have c5 : (j : Int) < (n : Int) := by omega
          obtain ⟨hvn, hv10⟩ := hTen.rng j hj2
          have hold := hTen.fresh hj2 (unhide HWN) { E (pt4 i) with t := tt, m := mm, q := j } rfl rfl
          have HWM := hide (show Win (tkS σ (j + 1)) (mkT tt (σ j)) (mkM tt mm (σ j)) from by rw [← tkS_succ]; exact (unhide HWN).mark (σ j))
          obtain ⟨go, rfl, _⟩ := gr_cell (unhide HL).o 0 (by omega)
          obtain ⟨gf, rfl, _⟩ := gr_cell (unhide HL).f 0 (by omega)
          have hd := (unhide HL).bel' (W' := wl.drew) (Below.refl _ _).drew
          obtain ⟨v, hv⟩ : ∃ z, σ j = z := ⟨_, rfl⟩
          rw [hv] at hvn hold HWM
          obtain ⟨m9, hm9⟩ : ∃ z, ml.getD v ⟨#[]⟩ = z := ⟨_, rfl⟩
          have hm4 : m9.size ≤ 4096 := by rw [← hm9]; exact unhide HSH v hvn
          obtain ⟨gp, op, rfl, hgp, _⟩ := (unhide HSM).1.below hd.al.bel v (by rw [(unhide HSM).2]; omega)
          have HCM := hide (show ∀ y, Below h w y → y.cell? ⟨gp, op + v, none⟩ = some (.string m9) from fun y hy => by
            obtain ⟨g9, o9, e9, _, r9⟩ := (unhide HSM).1.below hy v (by rw [(unhide HSM).2]; omega)
            injection e9 with e9
            injection e9 with e8 e9
            subst e8 e9
            rw [hm9] at r9
            exact r9)
          obtain ⟨F, hF⟩ : ∃ z, frB Hs Zs (v : Int) m9 = z := ⟨_, rfl⟩
          have hFg : (frL Hs Zs ml n).getD v ⟨#[]⟩ = F := by rw [frL_get _ _ _ _ _ hvn, hm9, hF]
          obtain ⟨hr2, hHr, hZr, _⟩ := unhide HTE
          have hen := hd.al.en (pt4 i) hj4
          rw [upT_self] at hen
          obtain ⟨t1, t2, t3⟩ := tk_new { E (pt4 i) with t := tt, m := mm, q := j } v m9 hr2 (by omega) hm4 hold
          have hHr' : LE.h { E (pt4 i) with t := tt, m := mm, q := j } (1 - (E (pt4 i)).i) = Hs := hHr
          have hZr' : LE.z { E (pt4 i) with t := tt, m := mm, q := j } (1 - (E (pt4 i)).i) = Zs := hZr
          rw [hHr', hZr', hF] at t1 t2 t3
          have hFz : F.size ≤ 140737488355000 := by rw [← hF, frB_size _ _ _ _ (by omega)]; omega
          have HTA := hide (ltake_any (gb (pt4 i)) { E (pt4 i) with t := tt, m := mm, q := j } F hFz (show j < 4611686018427387904 by omega) wl.drew hen (unhide HKB _ hd.al.bel).1 (unhide HKB _ hd.al.bel).2)
          obtain ⟨tt', htt⟩ : ∃ z, mkT tt v = z := ⟨_, rfl⟩
          obtain ⟨mm', hmm⟩ : ∃ z, mkM tt mm v = z := ⟨_, rfl⟩
          have t3' : LE.tkN { E (pt4 i) with t := tt, m := mm, q := j } F = { E (pt4 i) with t := tt', m := mm', q := j + 1 } := by rw [t3, ← htt, ← hmm]
          rw [t1, t2, t3'] at HTA
          rw [htt, hmm] at HWM
          have HGR := hide (show ∀ z1, EndM z1 (gb (pt4 i)) { E (pt4 i) with t := tt', m := mm', q := j + 1 } → Only (fun q => q = gb (pt4 i)) wl.drew z1 → LnI w h fb gb z1 (upT (upT E i { E i with s := n }) (pt4 i) { E (pt4 i) with t := tt', m := mm', q := j + 1 }) (.slice (some ⟨gf, 0, none⟩) n cf) (.slice (some ⟨go, 0, none⟩) n cq) n (frL Hs Zs ml n) σ from fun z1 h1 h2 => by
            have := hd.put (pt4 i) hj4 _ h1 h2
            rw [upT_upT] at this
            exact this)
          obtain ⟨g2, hg2⟩ : ∃ z, gb (pt4 i) = z := ⟨_, rfl⟩
          obtain ⟨AT, hAT⟩ : ∃ AT : World → Prop, AT = fun y => y.cell? ⟨fb + 1, i, none⟩ = some (.pointer (some ⟨g2, 0, none⟩)) ∧ y.cell? ⟨go, j, none⟩ = some (.int .i64 (v : Int)) ∧ y.cell? ⟨gf, v, none⟩ = some (.string F) := ⟨_, rfl⟩
          have HAT := hide (show AT wl.drew from by
            rw [hAT, ← hg2]
            have q1 := (hd.cellO j hj2).1
            rw [hv] at q1
            have q2 := hd.cellF v hvn
            rw [hFg] at q2
            exact ⟨hd.al.rt i hi, q1, q2⟩)
          rw [hg2] at HTA HGR
          have HC := hide (show ∀ y, AT y → y.cell? ⟨fb + 1, i, none⟩ = some (.pointer (some ⟨g2, 0, none⟩)) ∧ y.cell? ⟨go, j, none⟩ = some (.int .i64 (v : Int)) ∧ y.cell? ⟨gf, v, none⟩ = some (.string F) from fun y hy => by
            rw [hAT] at hy
            exact hy)
          have HSB := hide (show ∀ z1, EndM z1 g2 { E (pt4 i) with t := tt', m := mm', q := j + 1 } → Only (fun q => q = g2) wl.drew z1 → AT z1 from fun z1 h1 h2 => by
            rw [hAT, ← hg2]
            have h9 := unhide HGR z1 h1 h2
            have q1 := (h9.cellO j hj2).1
            rw [hv] at q1
            have q2 := h9.cellF v hvn
            rw [hFg] at q2
            exact ⟨h9.al.rt i hi, q1, q2⟩)
          have hvn2 : (v : Int) < (n : Int) := by omega
          have hvm2 : (v : Int) < (qm : Int) := by omega
          clear hAT hg2 hen t1 t2 t3 t3' hd hF hFg hFz hHr hZr hHr' hZr' hr2 hold hm9 hm4 HL HWN htt hmm hv10
          go_wp2_with fail
          refine wp_region_held_drew (S := AT) (by kernel_rfl) (unhide HAT) ?_
          intro hS
          refine wpAnyH_takeD 0 (some 165) (.slice (some ⟨fb + 1, 0, none⟩) 4 4) rfl rfl (by kernel_rfl) (by kernel_rfl) (by kernel_rfl) (fun _ _ _ h => h) (Or.inl ⟨by rfl, fun w hSw => by obtain ⟨hq1, hq2, hq3⟩ := unhide HC w hSw; clear hSw; go_simp⟩) hS ?_
          simp only [Act.put, List.setIfInBounds_toArray, List.set_cons_zero, List.set_cons_succ]
          refine wpAnyH_takeD 1 (some 166) (.int .i64 (i : Int)) rfl rfl (by kernel_rfl) (by kernel_rfl) (by kernel_rfl) (fun _ _ _ h => h) (Or.inl ⟨by rfl, fun w hSw => by obtain ⟨hq1, hq2, hq3⟩ := unhide HC w hSw; clear hSw; go_simp⟩) hS ?_
          simp only [Act.put, List.setIfInBounds_toArray, List.set_cons_zero, List.set_cons_succ]
          refine wpAnyH_takeD 2 (some 167) (.pointer (some ⟨fb + 1, i, none⟩)) rfl rfl (by kernel_rfl) (by kernel_rfl) (by kernel_rfl) (fun _ _ _ h => h) (Or.inl ⟨by rfl, fun w hSw => by obtain ⟨hq1, hq2, hq3⟩ := unhide HC w hSw; clear hSw; go_simp⟩) hS ?_
          simp only [Act.put, List.setIfInBounds_toArray, List.set_cons_zero, List.set_cons_succ]
          refine wpAnyH_takeD 3 (some 168) (.pointer (some ⟨g2, 0, none⟩)) rfl rfl (by kernel_rfl) (by kernel_rfl) (by kernel_rfl) (fun _ _ _ h => h) (Or.inl ⟨by rfl, fun w hSw => by obtain ⟨hq1, hq2, hq3⟩ := unhide HC w hSw; clear hSw; go_simp⟩) hS ?_
          simp only [Act.put, List.setIfInBounds_toArray, List.set_cons_zero, List.set_cons_succ]
          refine wpAnyH_takeD 4 (some 169) (.pointer (some ⟨g2, 0, none⟩)) rfl rfl (by kernel_rfl) (by kernel_rfl) (by kernel_rfl) (fun _ _ _ h => h) (Or.inl ⟨by rfl, fun w hSw => by obtain ⟨hq1, hq2, hq3⟩ := unhide HC w hSw; clear hSw; go_simp⟩) hS ?_
          simp only [Act.put, List.setIfInBounds_toArray, List.set_cons_zero, List.set_cons_succ]
          refine wpAnyH_takeD 5 (some 170) (.pointer (some ⟨g2, 3, none⟩)) rfl rfl (by kernel_rfl) (by kernel_rfl) (by kernel_rfl) (fun _ _ _ h => h) (Or.inl ⟨by rfl, fun w hSw => by obtain ⟨hq1, hq2, hq3⟩ := unhide HC w hSw; clear hSw; go_simp⟩) hS ?_
          simp only [Act.put, List.setIfInBounds_toArray, List.set_cons_zero, List.set_cons_succ]
          refine wpAnyH_takeD 6 (some 171) (.slice (some ⟨gf, 0, none⟩) n cf) rfl rfl (by kernel_rfl) (by kernel_rfl) (by kernel_rfl) (fun _ _ _ h => h) (Or.inl ⟨by rfl, fun w hSw => by obtain ⟨hq1, hq2, hq3⟩ := unhide HC w hSw; clear hSw; go_simp⟩) hS ?_
          simp only [Act.put, List.setIfInBounds_toArray, List.set_cons_zero, List.set_cons_succ]
          refine wpAnyH_takeD 7 (some 172) (.slice (some ⟨go, 0, none⟩) n cq) rfl rfl (by kernel_rfl) (by kernel_rfl) (by kernel_rfl) (fun _ _ _ h => h) (Or.inl ⟨by rfl, fun w hSw => by obtain ⟨hq1, hq2, hq3⟩ := unhide HC w hSw; clear hSw; go_simp⟩) hS ?_
          simp only [Act.put, List.setIfInBounds_toArray, List.set_cons_zero, List.set_cons_succ]
          refine wpAnyH_takeD 8 (some 173) (.int .i64 (j : Int)) rfl rfl (by kernel_rfl) (by kernel_rfl) (by kernel_rfl) (fun _ _ _ h => h) (Or.inl ⟨by rfl, fun w hSw => by obtain ⟨hq1, hq2, hq3⟩ := unhide HC w hSw; clear hSw; go_simp⟩) hS ?_
          simp only [Act.put, List.setIfInBounds_toArray, List.set_cons_zero, List.set_cons_succ]
          refine wpAnyH_takeD 9 (some 174) (.pointer (some ⟨go, j, none⟩)) rfl rfl (by kernel_rfl) (by kernel_rfl) (by kernel_rfl) (fun _ _ _ h => h) (Or.inl ⟨by rfl, fun w hSw => by obtain ⟨hq1, hq2, hq3⟩ := unhide HC w hSw; clear hSw; go_simp⟩) hS ?_
          simp only [Act.put, List.setIfInBounds_toArray, List.set_cons_zero, List.set_cons_succ]
          refine wpAnyH_takeD 10 (some 175) (.int .i64 (v : Int)) rfl rfl (by kernel_rfl) (by kernel_rfl) (by kernel_rfl) (fun _ _ _ h => h) (Or.inl ⟨by rfl, fun w hSw => by obtain ⟨hq1, hq2, hq3⟩ := unhide HC w hSw; clear hSw; go_simp⟩) hS ?_
          simp only [Act.put, List.setIfInBounds_toArray, List.set_cons_zero, List.set_cons_succ]
          refine wpAnyH_takeD 11 (some 176) (.pointer (some ⟨gf, v, none⟩)) rfl rfl (by kernel_rfl) (by kernel_rfl) (by kernel_rfl) (fun _ _ _ h => h) (Or.inl ⟨by rfl, fun w hSw => by obtain ⟨hq1, hq2, hq3⟩ := unhide HC w hSw; clear hSw; go_simp⟩) hS ?_
          simp only [Act.put, List.setIfInBounds_toArray, List.set_cons_zero, List.set_cons_succ]
          refine wpAnyH_takeD 12 (some 177) (.string F) rfl rfl (by kernel_rfl) (by kernel_rfl) (by kernel_rfl) (fun _ _ _ h => h) (Or.inl ⟨by rfl, fun w hSw => by obtain ⟨hq1, hq2, hq3⟩ := unhide HC w hSw; clear hSw; go_simp⟩) hS ?_
          simp only [Act.put, List.setIfInBounds_toArray, List.set_cons_zero, List.set_cons_succ]
          refine wpAnyH_ready (rs := [13]) (by kernel_rfl) (by simp) ?_
          refine AllReadyH.cons rfl (fun K hK => ?_) AllReadyH.nil
          simp only [List.getElem_toArray, List.getElem_cons_succ, List.getElem_cons_zero]
          go_simp
          refine (unhide HTA).mono ?_
          rintro ev z1 ⟨rfl, hE, hO⟩
          have hS9 := unhide HSB z1 hE hO
          have HL1 := hide (unhide HGR z1 hE hO)
          clear hE hO
          refine hK.out _ _ hS9 (fun hS => ?_)
          clear hK K
          refine wpAnyH_takeD 14 (some 164) (.tuple #[.string m9, .int .i64 0]) rfl rfl (by kernel_rfl) (by kernel_rfl) (by kernel_rfl) (fun _ _ _ h => h) (Or.inl ⟨by rfl, fun w hSw => by obtain ⟨hq1, hq2, hq3⟩ := unhide HC w hSw; clear hSw; go_simp⟩) hS ?_
          simp only [Act.put, List.setIfInBounds_toArray, List.set_cons_zero, List.set_cons_succ]
          refine wpAnyH_takeD 15 (some 179) (.string m9) rfl rfl (by kernel_rfl) (by kernel_rfl) (by kernel_rfl) (fun _ _ _ h => h) (Or.inl ⟨by rfl, fun w hSw => by obtain ⟨hq1, hq2, hq3⟩ := unhide HC w hSw; clear hSw; go_simp⟩) hS ?_
          simp only [Act.put, List.setIfInBounds_toArray, List.set_cons_zero, List.set_cons_succ]
          refine wpAnyH_takeD 16 (some 180) (.int .i64 0) rfl rfl (by kernel_rfl) (by kernel_rfl) (by kernel_rfl) (fun _ _ _ h => h) (Or.inl ⟨by rfl, fun w hSw => by obtain ⟨hq1, hq2, hq3⟩ := unhide HC w hSw; clear hSw; go_simp⟩) hS ?_
          simp only [Act.put, List.setIfInBounds_toArray, List.set_cons_zero, List.set_cons_succ]
          refine wpAnyH_takeD 17 (some 29) (.string m9) rfl rfl (by kernel_rfl) (by kernel_rfl) (by kernel_rfl) (fun _ _ _ h => h) (Or.inl ⟨by rfl, fun w hSw => by obtain ⟨hq1, hq2, hq3⟩ := unhide HC w hSw; clear hSw; go_simp⟩) hS ?_
          simp only [Act.put, List.setIfInBounds_toArray, List.set_cons_zero, List.set_cons_succ]
          refine wpAnyH_takeD 18 (some 30) (.int .i64 0) rfl rfl (by kernel_rfl) (by kernel_rfl) (by kernel_rfl) (fun _ _ _ h => h) (Or.inl ⟨by rfl, fun w hSw => by obtain ⟨hq1, hq2, hq3⟩ := unhide HC w hSw; clear hSw; go_simp⟩) hS ?_
          simp only [Act.put, List.setIfInBounds_toArray, List.set_cons_zero, List.set_cons_succ]
          refine wpAnyH_done (by kernel_rfl) ?_ _
          have hL1 := unhide HL1
          have q1 := (hL1.cellO j hj2).1
          rw [hv] at q1
          have q3 := unhide HCM _ hL1.al.bel
          clear hL1 hS hS9 HAT HC HSB HGR HTA HCM hv
          go_wp2
          go_roundw
          case rel => exact ⟨j + 1, tt', mm', by omega, by go_num, HWM, HL1⟩
          case measure => simp [intOf] <;> omega
        obtain rfl : j = n := by omega
        have c5 : ¬ (j : Int) < (j : Int) := by omega
        have HFF := hide (unhide HFN j tt mm j)
        go_wp2
        go_roundw
        case rel => exact ⟨i + 1, _, by omega, by go_num, unhide HFF, hide (unhide HL).al⟩
        case measure => simp [intOf] <;> omega
      have c1 : decide ((j : Int) < (qo : Int)) = false := decide_eq_false (by omega)
      have HW0 := hide (show LnI w h fb gb wk (upT (upT E i { E i with s := n }) (pt4 i) { E (pt4 i) with t := 0, m := 0, q := 0 }) (.slice pf n cf) (.slice pq n cq) n (frL Hs Zs ml n) σ from by
        obtain ⟨_, _, _, a1, a2, a3⟩ := unhide HTE
        rw [upT_id _ (pt4 i) _ (by rw [LE.t0 _ a1 a2 a3, upT_ne _ _ _ _ (pt4_ne i)])]
        exact unhide HL)
      go_wp2
      go_loopw [28] (fun jv wr => ∃ (j tt mm : Nat), j ≤ n ∧ jv = .int .i64 (j : Int) ∧ Hid (Win (tkS σ j) tt mm) ∧ Hid (LnI w h fb gb wr (upT (upT E i { E i with s := n }) (pt4 i) { E (pt4 i) with t := tt, m := mm, q := j }) (.slice pf n cf) (.slice pq n cq) n (frL Hs Zs ml n) σ)) (fun jv _ => n - (intOf jv).toNat)
      case atStart => exact ⟨0, 0, 0, by omega, rfl, hide (by rw [tkS_zero]; exact Win.zero), HW0⟩
      case round =>
      clear HW0 HL
      obtain ⟨j, tt, mm, hjn, rfl, HWN, HL⟩ := hrel
      obtain ⟨wl, rfl⟩ : ∃ z, z = wr := ⟨_, rfl⟩
      by_cases hj2 : j < n
      · have c5 : (j : Int) < (n : Int) := by omega
        obtain ⟨hvn, hv10⟩ := hTen.rng j hj2
        have hold := hTen.fresh hj2 (unhide HWN) { E (pt4 i) with t := tt, m := mm, q := j } rfl rfl
        have HWM := hide (show Win (tkS σ (j + 1)) (mkT tt (σ j)) (mkM tt mm (σ j)) from by rw [← tkS_succ]; exact (unhide HWN).mark (σ j))
        obtain ⟨go, rfl, _⟩ := gr_cell (unhide HL).o 0 (by omega)
        obtain ⟨gf, rfl, _⟩ := gr_cell (unhide HL).f 0 (by omega)
        have hd := (unhide HL).bel' (W' := wl.drew) (Below.refl _ _).drew
        obtain ⟨v, hv⟩ : ∃ z, σ j = z := ⟨_, rfl⟩
        rw [hv] at hvn hold HWM
        obtain ⟨m9, hm9⟩ : ∃ z, ml.getD v ⟨#[]⟩ = z := ⟨_, rfl⟩
        have hm4 : m9.size ≤ 4096 := by rw [← hm9]; exact unhide HSH v hvn
        obtain ⟨gp, op, rfl, hgp, _⟩ := (unhide HSM).1.below hd.al.bel v (by rw [(unhide HSM).2]; omega)
        have HCM := hide (show ∀ y, Below h w y → y.cell? ⟨gp, op + v, none⟩ = some (.string m9) from fun y hy => by
          obtain ⟨g9, o9, e9, _, r9⟩ := (unhide HSM).1.below hy v (by rw [(unhide HSM).2]; omega)
          injection e9 with e9
          injection e9 with e8 e9
          subst e8 e9
          rw [hm9] at r9
          exact r9)
        obtain ⟨F, hF⟩ : ∃ z, frB Hs Zs (v : Int) m9 = z := ⟨_, rfl⟩
        have hFg : (frL Hs Zs ml n).getD v ⟨#[]⟩ = F := by rw [frL_get _ _ _ _ _ hvn, hm9, hF]
        obtain ⟨hr2, hHr, hZr, _⟩ := unhide HTE
        have hen := hd.al.en (pt4 i) hj4
        rw [upT_self] at hen
        obtain ⟨t1, t2, t3⟩ := tk_new { E (pt4 i) with t := tt, m := mm, q := j } v m9 hr2 (by omega) hm4 hold
        have hHr' : LE.h { E (pt4 i) with t := tt, m := mm, q := j } (1 - (E (pt4 i)).i) = Hs := hHr
        have hZr' : LE.z { E (pt4 i) with t := tt, m := mm, q := j } (1 - (E (pt4 i)).i) = Zs := hZr
        rw [hHr', hZr', hF] at t1 t2 t3
        have hFz : F.size ≤ 140737488355000 := by rw [← hF, frB_size _ _ _ _ (by omega)]; omega
        have HTA := hide (ltake_any (gb (pt4 i)) { E (pt4 i) with t := tt, m := mm, q := j } F hFz (show j < 4611686018427387904 by omega) wl.drew hen (unhide HKB _ hd.al.bel).1 (unhide HKB _ hd.al.bel).2)
        obtain ⟨tt', htt⟩ : ∃ z, mkT tt v = z := ⟨_, rfl⟩
        obtain ⟨mm', hmm⟩ : ∃ z, mkM tt mm v = z := ⟨_, rfl⟩
        have t3' : LE.tkN { E (pt4 i) with t := tt, m := mm, q := j } F = { E (pt4 i) with t := tt', m := mm', q := j + 1 } := by rw [t3, ← htt, ← hmm]
        rw [t1, t2, t3'] at HTA
        rw [htt, hmm] at HWM
        have HGR := hide (show ∀ z1, EndM z1 (gb (pt4 i)) { E (pt4 i) with t := tt', m := mm', q := j + 1 } → Only (fun q => q = gb (pt4 i)) wl.drew z1 → LnI w h fb gb z1 (upT (upT E i { E i with s := n }) (pt4 i) { E (pt4 i) with t := tt', m := mm', q := j + 1 }) (.slice (some ⟨gf, 0, none⟩) n cf) (.slice (some ⟨go, 0, none⟩) n cq) n (frL Hs Zs ml n) σ from fun z1 h1 h2 => by
          have := hd.put (pt4 i) hj4 _ h1 h2
          rw [upT_upT] at this
          exact this)
        obtain ⟨g2, hg2⟩ : ∃ z, gb (pt4 i) = z := ⟨_, rfl⟩
        obtain ⟨AT, hAT⟩ : ∃ AT : World → Prop, AT = fun y => y.cell? ⟨fb + 1, i, none⟩ = some (.pointer (some ⟨g2, 0, none⟩)) ∧ y.cell? ⟨go, j, none⟩ = some (.int .i64 (v : Int)) ∧ y.cell? ⟨gf, v, none⟩ = some (.string F) := ⟨_, rfl⟩
        have HAT := hide (show AT wl.drew from by
          rw [hAT, ← hg2]
          have q1 := (hd.cellO j hj2).1
          rw [hv] at q1
          have q2 := hd.cellF v hvn
          rw [hFg] at q2
          exact ⟨hd.al.rt i hi, q1, q2⟩)
        rw [hg2] at HTA HGR
        have HC := hide (show ∀ y, AT y → y.cell? ⟨fb + 1, i, none⟩ = some (.pointer (some ⟨g2, 0, none⟩)) ∧ y.cell? ⟨go, j, none⟩ = some (.int .i64 (v : Int)) ∧ y.cell? ⟨gf, v, none⟩ = some (.string F) from fun y hy => by
          rw [hAT] at hy
          exact hy)
        have HSB := hide (show ∀ z1, EndM z1 g2 { E (pt4 i) with t := tt', m := mm', q := j + 1 } → Only (fun q => q = g2) wl.drew z1 → AT z1 from fun z1 h1 h2 => by
          rw [hAT, ← hg2]
          have h9 := unhide HGR z1 h1 h2
          have q1 := (h9.cellO j hj2).1
          rw [hv] at q1
          have q2 := h9.cellF v hvn
          rw [hFg] at q2
          exact ⟨h9.al.rt i hi, q1, q2⟩)
        have hvn2 : (v : Int) < (n : Int) := by omega
        have hvm2 : (v : Int) < (qm : Int) := by omega
        clear hAT hg2 hen t1 t2 t3 t3' hd hF hFg hFz hHr hZr hHr' hZr' hr2 hold hm9 hm4 HL HWN htt hmm hv10
        go_wp2_with fail
        refine wp_region_held_drew (S := AT) (by kernel_rfl) (unhide HAT) ?_
        intro hS
        refine wpAnyH_takeD 0 (some 165) (.slice (some ⟨fb + 1, 0, none⟩) 4 4) rfl rfl (by kernel_rfl) (by kernel_rfl) (by kernel_rfl) (fun _ _ _ h => h) (Or.inl ⟨by rfl, fun w hSw => by obtain ⟨hq1, hq2, hq3⟩ := unhide HC w hSw; clear hSw; go_simp⟩) hS ?_
        simp only [Act.put, List.setIfInBounds_toArray, List.set_cons_zero, List.set_cons_succ]
        refine wpAnyH_takeD 1 (some 166) (.int .i64 (i : Int)) rfl rfl (by kernel_rfl) (by kernel_rfl) (by kernel_rfl) (fun _ _ _ h => h) (Or.inl ⟨by rfl, fun w hSw => by obtain ⟨hq1, hq2, hq3⟩ := unhide HC w hSw; clear hSw; go_simp⟩) hS ?_
        simp only [Act.put, List.setIfInBounds_toArray, List.set_cons_zero, List.set_cons_succ]
        refine wpAnyH_takeD 2 (some 167) (.pointer (some ⟨fb + 1, i, none⟩)) rfl rfl (by kernel_rfl) (by kernel_rfl) (by kernel_rfl) (fun _ _ _ h => h) (Or.inl ⟨by rfl, fun w hSw => by obtain ⟨hq1, hq2, hq3⟩ := unhide HC w hSw; clear hSw; go_simp⟩) hS ?_
        simp only [Act.put, List.setIfInBounds_toArray, List.set_cons_zero, List.set_cons_succ]
        refine wpAnyH_takeD 3 (some 168) (.pointer (some ⟨g2, 0, none⟩)) rfl rfl (by kernel_rfl) (by kernel_rfl) (by kernel_rfl) (fun _ _ _ h => h) (Or.inl ⟨by rfl, fun w hSw => by obtain ⟨hq1, hq2, hq3⟩ := unhide HC w hSw; clear hSw; go_simp⟩) hS ?_
        simp only [Act.put, List.setIfInBounds_toArray, List.set_cons_zero, List.set_cons_succ]
        refine wpAnyH_takeD 4 (some 169) (.pointer (some ⟨g2, 0, none⟩)) rfl rfl (by kernel_rfl) (by kernel_rfl) (by kernel_rfl) (fun _ _ _ h => h) (Or.inl ⟨by rfl, fun w hSw => by obtain ⟨hq1, hq2, hq3⟩ := unhide HC w hSw; clear hSw; go_simp⟩) hS ?_
        simp only [Act.put, List.setIfInBounds_toArray, List.set_cons_zero, List.set_cons_succ]
        refine wpAnyH_takeD 5 (some 170) (.pointer (some ⟨g2, 3, none⟩)) rfl rfl (by kernel_rfl) (by kernel_rfl) (by kernel_rfl) (fun _ _ _ h => h) (Or.inl ⟨by rfl, fun w hSw => by obtain ⟨hq1, hq2, hq3⟩ := unhide HC w hSw; clear hSw; go_simp⟩) hS ?_
        simp only [Act.put, List.setIfInBounds_toArray, List.set_cons_zero, List.set_cons_succ]
        refine wpAnyH_takeD 6 (some 171) (.slice (some ⟨gf, 0, none⟩) n cf) rfl rfl (by kernel_rfl) (by kernel_rfl) (by kernel_rfl) (fun _ _ _ h => h) (Or.inl ⟨by rfl, fun w hSw => by obtain ⟨hq1, hq2, hq3⟩ := unhide HC w hSw; clear hSw; go_simp⟩) hS ?_
        simp only [Act.put, List.setIfInBounds_toArray, List.set_cons_zero, List.set_cons_succ]
        refine wpAnyH_takeD 7 (some 172) (.slice (some ⟨go, 0, none⟩) n cq) rfl rfl (by kernel_rfl) (by kernel_rfl) (by kernel_rfl) (fun _ _ _ h => h) (Or.inl ⟨by rfl, fun w hSw => by obtain ⟨hq1, hq2, hq3⟩ := unhide HC w hSw; clear hSw; go_simp⟩) hS ?_
        simp only [Act.put, List.setIfInBounds_toArray, List.set_cons_zero, List.set_cons_succ]
        refine wpAnyH_takeD 8 (some 173) (.int .i64 (j : Int)) rfl rfl (by kernel_rfl) (by kernel_rfl) (by kernel_rfl) (fun _ _ _ h => h) (Or.inl ⟨by rfl, fun w hSw => by obtain ⟨hq1, hq2, hq3⟩ := unhide HC w hSw; clear hSw; go_simp⟩) hS ?_
        simp only [Act.put, List.setIfInBounds_toArray, List.set_cons_zero, List.set_cons_succ]
        refine wpAnyH_takeD 9 (some 174) (.pointer (some ⟨go, j, none⟩)) rfl rfl (by kernel_rfl) (by kernel_rfl) (by kernel_rfl) (fun _ _ _ h => h) (Or.inl ⟨by rfl, fun w hSw => by obtain ⟨hq1, hq2, hq3⟩ := unhide HC w hSw; clear hSw; go_simp⟩) hS ?_
        simp only [Act.put, List.setIfInBounds_toArray, List.set_cons_zero, List.set_cons_succ]
        refine wpAnyH_takeD 10 (some 175) (.int .i64 (v : Int)) rfl rfl (by kernel_rfl) (by kernel_rfl) (by kernel_rfl) (fun _ _ _ h => h) (Or.inl ⟨by rfl, fun w hSw => by obtain ⟨hq1, hq2, hq3⟩ := unhide HC w hSw; clear hSw; go_simp⟩) hS ?_
        simp only [Act.put, List.setIfInBounds_toArray, List.set_cons_zero, List.set_cons_succ]
        refine wpAnyH_takeD 11 (some 176) (.pointer (some ⟨gf, v, none⟩)) rfl rfl (by kernel_rfl) (by kernel_rfl) (by kernel_rfl) (fun _ _ _ h => h) (Or.inl ⟨by rfl, fun w hSw => by obtain ⟨hq1, hq2, hq3⟩ := unhide HC w hSw; clear hSw; go_simp⟩) hS ?_
        simp only [Act.put, List.setIfInBounds_toArray, List.set_cons_zero, List.set_cons_succ]
        refine wpAnyH_takeD 12 (some 177) (.string F) rfl rfl (by kernel_rfl) (by kernel_rfl) (by kernel_rfl) (fun _ _ _ h => h) (Or.inl ⟨by rfl, fun w hSw => by obtain ⟨hq1, hq2, hq3⟩ := unhide HC w hSw; clear hSw; go_simp⟩) hS ?_
        simp only [Act.put, List.setIfInBounds_toArray, List.set_cons_zero, List.set_cons_succ]
        refine wpAnyH_ready (rs := [13]) (by kernel_rfl) (by simp) ?_
        refine AllReadyH.cons rfl (fun K hK => ?_) AllReadyH.nil
        simp only [List.getElem_toArray, List.getElem_cons_succ, List.getElem_cons_zero]
        go_simp
        refine (unhide HTA).mono ?_
        rintro ev z1 ⟨rfl, hE, hO⟩
        have hS9 := unhide HSB z1 hE hO
        have HL1 := hide (unhide HGR z1 hE hO)
        clear hE hO
        refine hK.out _ _ hS9 (fun hS => ?_)
        clear hK K
        refine wpAnyH_takeD 14 (some 164) (.tuple #[.string m9, .int .i64 0]) rfl rfl (by kernel_rfl) (by kernel_rfl) (by kernel_rfl) (fun _ _ _ h => h) (Or.inl ⟨by rfl, fun w hSw => by obtain ⟨hq1, hq2, hq3⟩ := unhide HC w hSw; clear hSw; go_simp⟩) hS ?_
        simp only [Act.put, List.setIfInBounds_toArray, List.set_cons_zero, List.set_cons_succ]
        refine wpAnyH_takeD 15 (some 179) (.string m9) rfl rfl (by kernel_rfl) (by kernel_rfl) (by kernel_rfl) (fun _ _ _ h => h) (Or.inl ⟨by rfl, fun w hSw => by obtain ⟨hq1, hq2, hq3⟩ := unhide HC w hSw; clear hSw; go_simp⟩) hS ?_
        simp only [Act.put, List.setIfInBounds_toArray, List.set_cons_zero, List.set_cons_succ]
        refine wpAnyH_takeD 16 (some 180) (.int .i64 0) rfl rfl (by kernel_rfl) (by kernel_rfl) (by kernel_rfl) (fun _ _ _ h => h) (Or.inl ⟨by rfl, fun w hSw => by obtain ⟨hq1, hq2, hq3⟩ := unhide HC w hSw; clear hSw; go_simp⟩) hS ?_
        simp only [Act.put, List.setIfInBounds_toArray, List.set_cons_zero, List.set_cons_succ]
        refine wpAnyH_takeD 17 (some 29) (.string m9) rfl rfl (by kernel_rfl) (by kernel_rfl) (by kernel_rfl) (fun _ _ _ h => h) (Or.inl ⟨by rfl, fun w hSw => by obtain ⟨hq1, hq2, hq3⟩ := unhide HC w hSw; clear hSw; go_simp⟩) hS ?_
        simp only [Act.put, List.setIfInBounds_toArray, List.set_cons_zero, List.set_cons_succ]
        refine wpAnyH_takeD 18 (some 30) (.int .i64 0) rfl rfl (by kernel_rfl) (by kernel_rfl) (by kernel_rfl) (fun _ _ _ h => h) (Or.inl ⟨by rfl, fun w hSw => by obtain ⟨hq1, hq2, hq3⟩ := unhide HC w hSw; clear hSw; go_simp⟩) hS ?_
        simp only [Act.put, List.setIfInBounds_toArray, List.set_cons_zero, List.set_cons_succ]
        refine wpAnyH_done (by kernel_rfl) ?_ _
        have hL1 := unhide HL1
        have q1 := (hL1.cellO j hj2).1
        rw [hv] at q1
        have q3 := unhide HCM _ hL1.al.bel
        clear hL1 hS hS9 HAT HC HSB HGR HTA HCM hv
        go_wp2
        go_roundw
        case rel => exact ⟨j + 1, tt', mm', by omega, by go_num, HWM, HL1⟩
        case measure => simp [intOf] <;> omega
      obtain rfl : j = n := by omega
      have c5 : ¬ (j : Int) < (j : Int) := by omega
      have HFF := hide (unhide HFN j tt mm j)
      go_wp2
      go_roundw
      case rel => exact ⟨i + 1, _, by omega, by go_num, unhide HFF, hide (unhide HL).al⟩
      case measure => simp [intOf] <;> omega
    have d1 : decide ((k : Int) < (qm : Int)) = false := decide_eq_false (by omega)
    obtain ⟨n, rfl⟩ : ∃ z, z = k := ⟨_, rfl⟩
    have hn6 : n ≤ 60 := hk6
    have hnm : n ≤ qm := hkm
    obtain ⟨pf, cf, rfl, _⟩ := gr_form (unhide HL).f
    obtain ⟨pq, cq, rfl, _⟩ := gr_form (unhide HL).o
    have hTen0 := Ten.id n
    go_wp2
    go_loopw [24] (fun jv wr => ∃ (j : Nat) (σ : Nat → Nat), j ≤ qo ∧ jv = .int .i64 (j : Int) ∧ Ten σ n ∧ Hid (LnI w h fb gb wr (upT E i { E i with s := n }) (.slice pf n cf) (.slice pq n cq) n (frL Hs Zs ml n) σ)) (fun jv _ => qo - (intOf jv).toNat)
    case atStart => exact ⟨0, _, by omega, rfl, hTen0, HL⟩
    case round =>
    clear HL hTen0 hkq
    obtain ⟨j, σ, hjo, rfl, hTen, HL⟩ := hrel
    obtain ⟨wk, rfl⟩ : ∃ z, z = wr := ⟨_, rfl⟩
    by_cases hjq : j < qo
    · have c1 : decide ((j : Int) < (qo : Int)) = true := decide_eq_true (by omega)
      by_cases hn0 : 0 < n
      · have c2 : decide ((n : Int) > 0) = true := decide_eq_true (by omega)
        obtain ⟨go, rfl, _⟩ := gr_cell (unhide HL).o 0 hn0
        obtain ⟨gq, oq, rfl, hgq, hcq⟩ := (unhide HOL).2.2.below (unhide HL).al.bel j (by rw [(unhide HOL).1]; exact hjq)
        have hc64 := (unhide HOL).2.1 j
        obtain ⟨c, hc⟩ : ∃ z, ol.getD j 0 = z := ⟨_, rfl⟩
        rw [hc] at hcq hc64
        have HP1 := hide (fun W => pick21 c n hn0 hc64 W)
        have hd64 := tdiv_I64 c hc64
        have hw64 : IntKind.i64.wrap (c.tdiv 64) = c.tdiv 64 := wrapI_eq _ hd64.1 hd64.2
        obtain ⟨c6, hc6⟩ : ∃ z, c.tdiv 64 = z := ⟨_, rfl⟩
        rw [hc6] at hw64
        have HP2 := hide (fun W => pick21 c6 10 (by decide) (by rw [← hc6]; exact hd64) W)
        rw [show (((10 : Nat)) : Int) = 10 from rfl] at HP2
        clear hc hc64 hd64
        go_wp2_with fail
        refine (unhide HP1 _).mono ?_
        rintro e y ⟨x, hx, rfl, hy⟩
        subst y
        clear HP1
        obtain ⟨xd, hxd⟩ : ∃ z, x / 10 = z := ⟨_, rfl⟩
        have HXD := hide hxd
        have f1 : (x : Int).tdiv 10 = (xd : Int) := by rw [Int.tdiv_eq_ediv_of_nonneg (by omega)]; omega
        have hxd6 : xd ≤ 6 := by omega
        have hxx : x < 60 := by omega
        clear hxd
        go_wp2_with fail
        refine (unhide HP2 _).mono ?_
        rintro e y ⟨r2, hr2, rfl, hy⟩
        subst y
        clear HP2
        obtain ⟨yy, hyy⟩ : ∃ z, xd * 10 + r2 = z := ⟨_, rfl⟩
        have f3 : (xd : Int) * 10 + (r2 : Int) = (yy : Int) := by omega
        have hy70 : yy < 70 := by omega
        have hxy : x / 10 = yy / 10 := by have := unhide HXD; omega
        clear hyy f1 hw64 hc6
        by_cases hyn : yy < n
        · have c3 : (yy : Int) < (n : Int) := by omega
          have c4 : (x : Int) < (n : Int) := by omega
          obtain ⟨cx, fx⟩ := (unhide HL).cellO x hx
          obtain ⟨cy, fy⟩ := (unhide HL).cellO yy hyn
          have HL1 := hide ((unhide HL).sets x (σ yy) hx)
          have HL2 := hide ((unhide HL1).sets yy (σ x) hyn)
          obtain ⟨cy1, fy1⟩ := (unhide HL1).cellO yy hyn
          have hTen2 := hTen.swap x yy hx hyn hxy
          obtain ⟨v1, hv1⟩ : ∃ z, upT σ x (σ yy) yy = z := ⟨_, rfl⟩
          rw [hv1] at cy1
          obtain ⟨σ2, hσ2⟩ : ∃ z, upT (upT σ x (σ yy)) yy (σ x) = z := ⟨_, rfl⟩
          rw [hσ2] at HL2 hTen2
          obtain ⟨sx, hsx⟩ : ∃ z, σ x = z := ⟨_, rfl⟩
          obtain ⟨sy, hsy⟩ : ∃ z, σ yy = z := ⟨_, rfl⟩
          rw [hsx] at cx HL2
          rw [hsy] at cy HL1 HL2 cy1 fy1
          clear hv1 hσ2 hsx hsy HL HL1 hTen hxy hxd6
          go_wp2
          go_roundw
          case rel => exact ⟨j + 1, σ2, by omega, by go_num, hTen2, HL2⟩
          case measure => simp [intOf] <;> omega
        have c3 : ¬ (yy : Int) < (n : Int) := by omega
        clear hxy hxd6
        go_wp2
        go_roundw
        case rel => exact ⟨j + 1, σ, by omega, by go_num, hTen, HL⟩
        case measure => simp [intOf] <;> omega
      have c2 : decide ((n : Int) > 0) = false := decide_eq_false (by omega)
      have HW0 := hide (show LnI w h fb gb wk (upT (upT E i { E i with s := n }) (pt4 i) { E (pt4 i) with t := 0, m := 0, q := 0 }) (.slice pf n cf) (.slice pq n cq) n (frL Hs Zs ml n) σ from by
        obtain ⟨_, _, _, a1, a2, a3⟩ := unhide HTE
        rw [upT_id _ (pt4 i) _ (by rw [LE.t0 _ a1 a2 a3, upT_ne _ _ _ _ (pt4_ne i)])]
        exact unhide HL)
      go_wp2
      go_loopw [28] (fun jv wr => ∃ (j tt mm : Nat), j ≤ n ∧ jv = .int .i64 (j : Int) ∧ Hid (Win (tkS σ j) tt mm) ∧ Hid (LnI w h fb gb wr (upT (upT E i { E i with s := n }) (pt4 i) { E (pt4 i) with t := tt, m := mm, q := j }) (.slice pf n cf) (.slice pq n cq) n (frL Hs Zs ml n) σ)) (fun jv _ => n - (intOf jv).toNat)
      case atStart => exact ⟨0, 0, 0, by omega, rfl, hide (by rw [tkS_zero]; exact Win.zero), HW0⟩
      case round =>
      clear HW0 HL
      obtain ⟨j, tt, mm, hjn, rfl, HWN, HL⟩ := hrel
      obtain ⟨wl, rfl⟩ : ∃ z, z = wr := ⟨_, rfl⟩
      by_cases hj2 : j < n
      · have c5 : (j : Int) < (n : Int) := by omega
        obtain ⟨hvn, hv10⟩ := hTen.rng j hj2
        have hold := hTen.fresh hj2 (unhide HWN) { E (pt4 i) with t := tt, m := mm, q := j } rfl rfl
        have HWM := hide (show Win (tkS σ (j + 1)) (mkT tt (σ j)) (mkM tt mm (σ j)) from by rw [← tkS_succ]; exact (unhide HWN).mark (σ j))
        obtain ⟨go, rfl, _⟩ := gr_cell (unhide HL).o 0 (by omega)
        obtain ⟨gf, rfl, _⟩ := gr_cell (unhide HL).f 0 (by omega)
        have hd := (unhide HL).bel' (W' := wl.drew) (Below.refl _ _).drew
        obtain ⟨v, hv⟩ : ∃ z, σ j = z := ⟨_, rfl⟩
        rw [hv] at hvn hold HWM
        obtain ⟨m9, hm9⟩ : ∃ z, ml.getD v ⟨#[]⟩ = z := ⟨_, rfl⟩
        have hm4 : m9.size ≤ 4096 := by rw [← hm9]; exact unhide HSH v hvn
        obtain ⟨gp, op, rfl, hgp, _⟩ := (unhide HSM).1.below hd.al.bel v (by rw [(unhide HSM).2]; omega)
        have HCM := hide (show ∀ y, Below h w y → y.cell? ⟨gp, op + v, none⟩ = some (.string m9) from fun y hy => by
          obtain ⟨g9, o9, e9, _, r9⟩ := (unhide HSM).1.below hy v (by rw [(unhide HSM).2]; omega)
          injection e9 with e9
          injection e9 with e8 e9
          subst e8 e9
          rw [hm9] at r9
          exact r9)
        obtain ⟨F, hF⟩ : ∃ z, frB Hs Zs (v : Int) m9 = z := ⟨_, rfl⟩
        have hFg : (frL Hs Zs ml n).getD v ⟨#[]⟩ = F := by rw [frL_get _ _ _ _ _ hvn, hm9, hF]
        obtain ⟨hr2, hHr, hZr, _⟩ := unhide HTE
        have hen := hd.al.en (pt4 i) hj4
        rw [upT_self] at hen
        obtain ⟨t1, t2, t3⟩ := tk_new { E (pt4 i) with t := tt, m := mm, q := j } v m9 hr2 (by omega) hm4 hold
        have hHr' : LE.h { E (pt4 i) with t := tt, m := mm, q := j } (1 - (E (pt4 i)).i) = Hs := hHr
        have hZr' : LE.z { E (pt4 i) with t := tt, m := mm, q := j } (1 - (E (pt4 i)).i) = Zs := hZr
        rw [hHr', hZr', hF] at t1 t2 t3
        have hFz : F.size ≤ 140737488355000 := by rw [← hF, frB_size _ _ _ _ (by omega)]; omega
        have HTA := hide (ltake_any (gb (pt4 i)) { E (pt4 i) with t := tt, m := mm, q := j } F hFz (show j < 4611686018427387904 by omega) wl.drew hen (unhide HKB _ hd.al.bel).1 (unhide HKB _ hd.al.bel).2)
        obtain ⟨tt', htt⟩ : ∃ z, mkT tt v = z := ⟨_, rfl⟩
        obtain ⟨mm', hmm⟩ : ∃ z, mkM tt mm v = z := ⟨_, rfl⟩
        have t3' : LE.tkN { E (pt4 i) with t := tt, m := mm, q := j } F = { E (pt4 i) with t := tt', m := mm', q := j + 1 } := by rw [t3, ← htt, ← hmm]
        rw [t1, t2, t3'] at HTA
        rw [htt, hmm] at HWM
        have HGR := hide (show ∀ z1, EndM z1 (gb (pt4 i)) { E (pt4 i) with t := tt', m := mm', q := j + 1 } → Only (fun q => q = gb (pt4 i)) wl.drew z1 → LnI w h fb gb z1 (upT (upT E i { E i with s := n }) (pt4 i) { E (pt4 i) with t := tt', m := mm', q := j + 1 }) (.slice (some ⟨gf, 0, none⟩) n cf) (.slice (some ⟨go, 0, none⟩) n cq) n (frL Hs Zs ml n) σ from fun z1 h1 h2 => by
          have := hd.put (pt4 i) hj4 _ h1 h2
          rw [upT_upT] at this
          exact this)
        obtain ⟨g2, hg2⟩ : ∃ z, gb (pt4 i) = z := ⟨_, rfl⟩
        obtain ⟨AT, hAT⟩ : ∃ AT : World → Prop, AT = fun y => y.cell? ⟨fb + 1, i, none⟩ = some (.pointer (some ⟨g2, 0, none⟩)) ∧ y.cell? ⟨go, j, none⟩ = some (.int .i64 (v : Int)) ∧ y.cell? ⟨gf, v, none⟩ = some (.string F) := ⟨_, rfl⟩
        have HAT := hide (show AT wl.drew from by
          rw [hAT, ← hg2]
          have q1 := (hd.cellO j hj2).1
          rw [hv] at q1
          have q2 := hd.cellF v hvn
          rw [hFg] at q2
          exact ⟨hd.al.rt i hi, q1, q2⟩)
        rw [hg2] at HTA HGR
        have HC := hide (show ∀ y, AT y → y.cell? ⟨fb + 1, i, none⟩ = some (.pointer (some ⟨g2, 0, none⟩)) ∧ y.cell? ⟨go, j, none⟩ = some (.int .i64 (v : Int)) ∧ y.cell? ⟨gf, v, none⟩ = some (.string F) from fun y hy => by
          rw [hAT] at hy
          exact hy)
        have HSB := hide (show ∀ z1, EndM z1 g2 { E (pt4 i) with t := tt', m := mm', q := j + 1 } → Only (fun q => q = g2) wl.drew z1 → AT z1 from fun z1 h1 h2 => by
          rw [hAT, ← hg2]
          have h9 := unhide HGR z1 h1 h2
          have q1 := (h9.cellO j hj2).1
          rw [hv] at q1
          have q2 := h9.cellF v hvn
          rw [hFg] at q2
          exact ⟨h9.al.rt i hi, q1, q2⟩)
        have hvn2 : (v : Int) < (n : Int) := by omega
        have hvm2 : (v : Int) < (qm : Int) := by omega
        clear hAT hg2 hen t1 t2 t3 t3' hd hF hFg hFz hHr hZr hHr' hZr' hr2 hold hm9 hm4 HL HWN htt hmm hv10
        go_wp2_with fail
        refine wp_region_held_drew (S := AT) (by kernel_rfl) (unhide HAT) ?_
        intro hS
        refine wpAnyH_takeD 0 (some 165) (.slice (some ⟨fb + 1, 0, none⟩) 4 4) rfl rfl (by kernel_rfl) (by kernel_rfl) (by kernel_rfl) (fun _ _ _ h => h) (Or.inl ⟨by rfl, fun w hSw => by obtain ⟨hq1, hq2, hq3⟩ := unhide HC w hSw; clear hSw; go_simp⟩) hS ?_
        simp only [Act.put, List.setIfInBounds_toArray, List.set_cons_zero, List.set_cons_succ]
        refine wpAnyH_takeD 1 (some 166) (.int .i64 (i : Int)) rfl rfl (by kernel_rfl) (by kernel_rfl) (by kernel_rfl) (fun _ _ _ h => h) (Or.inl ⟨by rfl, fun w hSw => by obtain ⟨hq1, hq2, hq3⟩ := unhide HC w hSw; clear hSw; go_simp⟩) hS ?_
        simp only [Act.put, List.setIfInBounds_toArray, List.set_cons_zero, List.set_cons_succ]
        refine wpAnyH_takeD 2 (some 167) (.pointer (some ⟨fb + 1, i, none⟩)) rfl rfl (by kernel_rfl) (by kernel_rfl) (by kernel_rfl) (fun _ _ _ h => h) (Or.inl ⟨by rfl, fun w hSw => by obtain ⟨hq1, hq2, hq3⟩ := unhide HC w hSw; clear hSw; go_simp⟩) hS ?_
        simp only [Act.put, List.setIfInBounds_toArray, List.set_cons_zero, List.set_cons_succ]
        refine wpAnyH_takeD 3 (some 168) (.pointer (some ⟨g2, 0, none⟩)) rfl rfl (by kernel_rfl) (by kernel_rfl) (by kernel_rfl) (fun _ _ _ h => h) (Or.inl ⟨by rfl, fun w hSw => by obtain ⟨hq1, hq2, hq3⟩ := unhide HC w hSw; clear hSw; go_simp⟩) hS ?_
        simp only [Act.put, List.setIfInBounds_toArray, List.set_cons_zero, List.set_cons_succ]
        refine wpAnyH_takeD 4 (some 169) (.pointer (some ⟨g2, 0, none⟩)) rfl rfl (by kernel_rfl) (by kernel_rfl) (by kernel_rfl) (fun _ _ _ h => h) (Or.inl ⟨by rfl, fun w hSw => by obtain ⟨hq1, hq2, hq3⟩ := unhide HC w hSw; clear hSw; go_simp⟩) hS ?_
        simp only [Act.put, List.setIfInBounds_toArray, List.set_cons_zero, List.set_cons_succ]
        refine wpAnyH_takeD 5 (some 170) (.pointer (some ⟨g2, 3, none⟩)) rfl rfl (by kernel_rfl) (by kernel_rfl) (by kernel_rfl) (fun _ _ _ h => h) (Or.inl ⟨by rfl, fun w hSw => by obtain ⟨hq1, hq2, hq3⟩ := unhide HC w hSw; clear hSw; go_simp⟩) hS ?_
        simp only [Act.put, List.setIfInBounds_toArray, List.set_cons_zero, List.set_cons_succ]
        refine wpAnyH_takeD 6 (some 171) (.slice (some ⟨gf, 0, none⟩) n cf) rfl rfl (by kernel_rfl) (by kernel_rfl) (by kernel_rfl) (fun _ _ _ h => h) (Or.inl ⟨by rfl, fun w hSw => by obtain ⟨hq1, hq2, hq3⟩ := unhide HC w hSw; clear hSw; go_simp⟩) hS ?_
        simp only [Act.put, List.setIfInBounds_toArray, List.set_cons_zero, List.set_cons_succ]
        refine wpAnyH_takeD 7 (some 172) (.slice (some ⟨go, 0, none⟩) n cq) rfl rfl (by kernel_rfl) (by kernel_rfl) (by kernel_rfl) (fun _ _ _ h => h) (Or.inl ⟨by rfl, fun w hSw => by obtain ⟨hq1, hq2, hq3⟩ := unhide HC w hSw; clear hSw; go_simp⟩) hS ?_
        simp only [Act.put, List.setIfInBounds_toArray, List.set_cons_zero, List.set_cons_succ]
        refine wpAnyH_takeD 8 (some 173) (.int .i64 (j : Int)) rfl rfl (by kernel_rfl) (by kernel_rfl) (by kernel_rfl) (fun _ _ _ h => h) (Or.inl ⟨by rfl, fun w hSw => by obtain ⟨hq1, hq2, hq3⟩ := unhide HC w hSw; clear hSw; go_simp⟩) hS ?_
        simp only [Act.put, List.setIfInBounds_toArray, List.set_cons_zero, List.set_cons_succ]
        refine wpAnyH_takeD 9 (some 174) (.pointer (some ⟨go, j, none⟩)) rfl rfl (by kernel_rfl) (by kernel_rfl) (by kernel_rfl) (fun _ _ _ h => h) (Or.inl ⟨by rfl, fun w hSw => by obtain ⟨hq1, hq2, hq3⟩ := unhide HC w hSw; clear hSw; go_simp⟩) hS ?_
        simp only [Act.put, List.setIfInBounds_toArray, List.set_cons_zero, List.set_cons_succ]
        refine wpAnyH_takeD 10 (some 175) (.int .i64 (v : Int)) rfl rfl (by kernel_rfl) (by kernel_rfl) (by kernel_rfl) (fun _ _ _ h => h) (Or.inl ⟨by rfl, fun w hSw => by obtain ⟨hq1, hq2, hq3⟩ := unhide HC w hSw; clear hSw; go_simp⟩) hS ?_
        simp only [Act.put, List.setIfInBounds_toArray, List.set_cons_zero, List.set_cons_succ]
        refine wpAnyH_takeD 11 (some 176) (.pointer (some ⟨gf, v, none⟩)) rfl rfl (by kernel_rfl) (by kernel_rfl) (by kernel_rfl) (fun _ _ _ h => h) (Or.inl ⟨by rfl, fun w hSw => by obtain ⟨hq1, hq2, hq3⟩ := unhide HC w hSw; clear hSw; go_simp⟩) hS ?_
        simp only [Act.put, List.setIfInBounds_toArray, List.set_cons_zero, List.set_cons_succ]
        refine wpAnyH_takeD 12 (some 177) (.string F) rfl rfl (by kernel_rfl) (by kernel_rfl) (by kernel_rfl) (fun _ _ _ h => h) (Or.inl ⟨by rfl, fun w hSw => by obtain ⟨hq1, hq2, hq3⟩ := unhide HC w hSw; clear hSw; go_simp⟩) hS ?_
        simp only [Act.put, List.setIfInBounds_toArray, List.set_cons_zero, List.set_cons_succ]
        refine wpAnyH_ready (rs := [13]) (by kernel_rfl) (by simp) ?_
        refine AllReadyH.cons rfl (fun K hK => ?_) AllReadyH.nil
        simp only [List.getElem_toArray, List.getElem_cons_succ, List.getElem_cons_zero]
        go_simp
        refine (unhide HTA).mono ?_
        rintro ev z1 ⟨rfl, hE, hO⟩
        have hS9 := unhide HSB z1 hE hO
        have HL1 := hide (unhide HGR z1 hE hO)
        clear hE hO
        refine hK.out _ _ hS9 (fun hS => ?_)
        clear hK K
        refine wpAnyH_takeD 14 (some 164) (.tuple #[.string m9, .int .i64 0]) rfl rfl (by kernel_rfl) (by kernel_rfl) (by kernel_rfl) (fun _ _ _ h => h) (Or.inl ⟨by rfl, fun w hSw => by obtain ⟨hq1, hq2, hq3⟩ := unhide HC w hSw; clear hSw; go_simp⟩) hS ?_
        simp only [Act.put, List.setIfInBounds_toArray, List.set_cons_zero, List.set_cons_succ]
        refine wpAnyH_takeD 15 (some 179) (.string m9) rfl rfl (by kernel_rfl) (by kernel_rfl) (by kernel_rfl) (fun _ _ _ h => h) (Or.inl ⟨by rfl, fun w hSw => by obtain ⟨hq1, hq2, hq3⟩ := unhide HC w hSw; clear hSw; go_simp⟩) hS ?_
        simp only [Act.put, List.setIfInBounds_toArray, List.set_cons_zero, List.set_cons_succ]
        refine wpAnyH_takeD 16 (some 180) (.int .i64 0) rfl rfl (by kernel_rfl) (by kernel_rfl) (by kernel_rfl) (fun _ _ _ h => h) (Or.inl ⟨by rfl, fun w hSw => by obtain ⟨hq1, hq2, hq3⟩ := unhide HC w hSw; clear hSw; go_simp⟩) hS ?_
        simp only [Act.put, List.setIfInBounds_toArray, List.set_cons_zero, List.set_cons_succ]
        refine wpAnyH_takeD 17 (some 29) (.string m9) rfl rfl (by kernel_rfl) (by kernel_rfl) (by kernel_rfl) (fun _ _ _ h => h) (Or.inl ⟨by rfl, fun w hSw => by obtain ⟨hq1, hq2, hq3⟩ := unhide HC w hSw; clear hSw; go_simp⟩) hS ?_
        simp only [Act.put, List.setIfInBounds_toArray, List.set_cons_zero, List.set_cons_succ]
        refine wpAnyH_takeD 18 (some 30) (.int .i64 0) rfl rfl (by kernel_rfl) (by kernel_rfl) (by kernel_rfl) (fun _ _ _ h => h) (Or.inl ⟨by rfl, fun w hSw => by obtain ⟨hq1, hq2, hq3⟩ := unhide HC w hSw; clear hSw; go_simp⟩) hS ?_
        simp only [Act.put, List.setIfInBounds_toArray, List.set_cons_zero, List.set_cons_succ]
        refine wpAnyH_done (by kernel_rfl) ?_ _
        have hL1 := unhide HL1
        have q1 := (hL1.cellO j hj2).1
        rw [hv] at q1
        have q3 := unhide HCM _ hL1.al.bel
        clear hL1 hS hS9 HAT HC HSB HGR HTA HCM hv
        go_wp2
        go_roundw
        case rel => exact ⟨j + 1, tt', mm', by omega, by go_num, HWM, HL1⟩
        case measure => simp [intOf] <;> omega
      obtain rfl : j = n := by omega
      have c5 : ¬ (j : Int) < (j : Int) := by omega
      have HFF := hide (unhide HFN j tt mm j)
      go_wp2
      go_roundw
      case rel => exact ⟨i + 1, _, by omega, by go_num, unhide HFF, hide (unhide HL).al⟩
      case measure => simp [intOf] <;> omega
    have c1 : decide ((j : Int) < (qo : Int)) = false := decide_eq_false (by omega)
    have HW0 := hide (show LnI w h fb gb wk (upT (upT E i { E i with s := n }) (pt4 i) { E (pt4 i) with t := 0, m := 0, q := 0 }) (.slice pf n cf) (.slice pq n cq) n (frL Hs Zs ml n) σ from by
      obtain ⟨_, _, _, a1, a2, a3⟩ := unhide HTE
      rw [upT_id _ (pt4 i) _ (by rw [LE.t0 _ a1 a2 a3, upT_ne _ _ _ _ (pt4_ne i)])]
      exact unhide HL)
    go_wp2
    go_loopw [28] (fun jv wr => ∃ (j tt mm : Nat), j ≤ n ∧ jv = .int .i64 (j : Int) ∧ Hid (Win (tkS σ j) tt mm) ∧ Hid (LnI w h fb gb wr (upT (upT E i { E i with s := n }) (pt4 i) { E (pt4 i) with t := tt, m := mm, q := j }) (.slice pf n cf) (.slice pq n cq) n (frL Hs Zs ml n) σ)) (fun jv _ => n - (intOf jv).toNat)
    case atStart => exact ⟨0, 0, 0, by omega, rfl, hide (by rw [tkS_zero]; exact Win.zero), HW0⟩
    case round =>
    clear HW0 HL
    obtain ⟨j, tt, mm, hjn, rfl, HWN, HL⟩ := hrel
    obtain ⟨wl, rfl⟩ : ∃ z, z = wr := ⟨_, rfl⟩
    by_cases hj2 : j < n
    · have c5 : (j : Int) < (n : Int) := by omega
      obtain ⟨hvn, hv10⟩ := hTen.rng j hj2
      have hold := hTen.fresh hj2 (unhide HWN) { E (pt4 i) with t := tt, m := mm, q := j } rfl rfl
      have HWM := hide (show Win (tkS σ (j + 1)) (mkT tt (σ j)) (mkM tt mm (σ j)) from by rw [← tkS_succ]; exact (unhide HWN).mark (σ j))
      obtain ⟨go, rfl, _⟩ := gr_cell (unhide HL).o 0 (by omega)
      obtain ⟨gf, rfl, _⟩ := gr_cell (unhide HL).f 0 (by omega)
      have hd := (unhide HL).bel' (W' := wl.drew) (Below.refl _ _).drew
      obtain ⟨v, hv⟩ : ∃ z, σ j = z := ⟨_, rfl⟩
      rw [hv] at hvn hold HWM
      obtain ⟨m9, hm9⟩ : ∃ z, ml.getD v ⟨#[]⟩ = z := ⟨_, rfl⟩
      have hm4 : m9.size ≤ 4096 := by rw [← hm9]; exact unhide HSH v hvn
      obtain ⟨gp, op, rfl, hgp, _⟩ := (unhide HSM).1.below hd.al.bel v (by rw [(unhide HSM).2]; omega)
      have HCM := hide (show ∀ y, Below h w y → y.cell? ⟨gp, op + v, none⟩ = some (.string m9) from fun y hy => by
        obtain ⟨g9, o9, e9, _, r9⟩ := (unhide HSM).1.below hy v (by rw [(unhide HSM).2]; omega)
        injection e9 with e9
        injection e9 with e8 e9
        subst e8 e9
        rw [hm9] at r9
        exact r9)
      obtain ⟨F, hF⟩ : ∃ z, frB Hs Zs (v : Int) m9 = z := ⟨_, rfl⟩
      have hFg : (frL Hs Zs ml n).getD v ⟨#[]⟩ = F := by rw [frL_get _ _ _ _ _ hvn, hm9, hF]
      obtain ⟨hr2, hHr, hZr, _⟩ := unhide HTE
      have hen := hd.al.en (pt4 i) hj4
      rw [upT_self] at hen
      obtain ⟨t1, t2, t3⟩ := tk_new { E (pt4 i) with t := tt, m := mm, q := j } v m9 hr2 (by omega) hm4 hold
      have hHr' : LE.h { E (pt4 i) with t := tt, m := mm, q := j } (1 - (E (pt4 i)).i) = Hs := hHr
      have hZr' : LE.z { E (pt4 i) with t := tt, m := mm, q := j } (1 - (E (pt4 i)).i) = Zs := hZr
      rw [hHr', hZr', hF] at t1 t2 t3
      have hFz : F.size ≤ 140737488355000 := by rw [← hF, frB_size _ _ _ _ (by omega)]; omega
      have HTA := hide (ltake_any (gb (pt4 i)) { E (pt4 i) with t := tt, m := mm, q := j } F hFz (show j < 4611686018427387904 by omega) wl.drew hen (unhide HKB _ hd.al.bel).1 (unhide HKB _ hd.al.bel).2)
      obtain ⟨tt', htt⟩ : ∃ z, mkT tt v = z := ⟨_, rfl⟩
      obtain ⟨mm', hmm⟩ : ∃ z, mkM tt mm v = z := ⟨_, rfl⟩
      have t3' : LE.tkN { E (pt4 i) with t := tt, m := mm, q := j } F = { E (pt4 i) with t := tt', m := mm', q := j + 1 } := by rw [t3, ← htt, ← hmm]
      rw [t1, t2, t3'] at HTA
      rw [htt, hmm] at HWM
      have HGR := hide (show ∀ z1, EndM z1 (gb (pt4 i)) { E (pt4 i) with t := tt', m := mm', q := j + 1 } → Only (fun q => q = gb (pt4 i)) wl.drew z1 → LnI w h fb gb z1 (upT (upT E i { E i with s := n }) (pt4 i) { E (pt4 i) with t := tt', m := mm', q := j + 1 }) (.slice (some ⟨gf, 0, none⟩) n cf) (.slice (some ⟨go, 0, none⟩) n cq) n (frL Hs Zs ml n) σ from fun z1 h1 h2 => by
        have := hd.put (pt4 i) hj4 _ h1 h2
        rw [upT_upT] at this
        exact this)
      obtain ⟨g2, hg2⟩ : ∃ z, gb (pt4 i) = z := ⟨_, rfl⟩
      obtain ⟨AT, hAT⟩ : ∃ AT : World → Prop, AT = fun y => y.cell? ⟨fb + 1, i, none⟩ = some (.pointer (some ⟨g2, 0, none⟩)) ∧ y.cell? ⟨go, j, none⟩ = some (.int .i64 (v : Int)) ∧ y.cell? ⟨gf, v, none⟩ = some (.string F) := ⟨_, rfl⟩
      have HAT := hide (show AT wl.drew from by
        rw [hAT, ← hg2]
        have q1 := (hd.cellO j hj2).1
        rw [hv] at q1
        have q2 := hd.cellF v hvn
        rw [hFg] at q2
        exact ⟨hd.al.rt i hi, q1, q2⟩)
      rw [hg2] at HTA HGR
      have HC := hide (show ∀ y, AT y → y.cell? ⟨fb + 1, i, none⟩ = some (.pointer (some ⟨g2, 0, none⟩)) ∧ y.cell? ⟨go, j, none⟩ = some (.int .i64 (v : Int)) ∧ y.cell? ⟨gf, v, none⟩ = some (.string F) from fun y hy => by
        rw [hAT] at hy
        exact hy)
      have HSB := hide (show ∀ z1, EndM z1 g2 { E (pt4 i) with t := tt', m := mm', q := j + 1 } → Only (fun q => q = g2) wl.drew z1 → AT z1 from fun z1 h1 h2 => by
        rw [hAT, ← hg2]
        have h9 := unhide HGR z1 h1 h2
        have q1 := (h9.cellO j hj2).1
        rw [hv] at q1
        have q2 := h9.cellF v hvn
        rw [hFg] at q2
        exact ⟨h9.al.rt i hi, q1, q2⟩)
      have hvn2 : (v : Int) < (n : Int) := by omega
      have hvm2 : (v : Int) < (qm : Int) := by omega
      clear hAT hg2 hen t1 t2 t3 t3' hd hF hFg hFz hHr hZr hHr' hZr' hr2 hold hm9 hm4 HL HWN htt hmm hv10
      go_wp2_with fail
      refine wp_region_held_drew (S := AT) (by kernel_rfl) (unhide HAT) ?_
      intro hS
      refine wpAnyH_takeD 0 (some 165) (.slice (some ⟨fb + 1, 0, none⟩) 4 4) rfl rfl (by kernel_rfl) (by kernel_rfl) (by kernel_rfl) (fun _ _ _ h => h) (Or.inl ⟨by rfl, fun w hSw => by obtain ⟨hq1, hq2, hq3⟩ := unhide HC w hSw; clear hSw; go_simp⟩) hS ?_
      simp only [Act.put, List.setIfInBounds_toArray, List.set_cons_zero, List.set_cons_succ]
      refine wpAnyH_takeD 1 (some 166) (.int .i64 (i : Int)) rfl rfl (by kernel_rfl) (by kernel_rfl) (by kernel_rfl) (fun _ _ _ h => h) (Or.inl ⟨by rfl, fun w hSw => by obtain ⟨hq1, hq2, hq3⟩ := unhide HC w hSw; clear hSw; go_simp⟩) hS ?_
      simp only [Act.put, List.setIfInBounds_toArray, List.set_cons_zero, List.set_cons_succ]
      refine wpAnyH_takeD 2 (some 167) (.pointer (some ⟨fb + 1, i, none⟩)) rfl rfl (by kernel_rfl) (by kernel_rfl) (by kernel_rfl) (fun _ _ _ h => h) (Or.inl ⟨by rfl, fun w hSw => by obtain ⟨hq1, hq2, hq3⟩ := unhide HC w hSw; clear hSw; go_simp⟩) hS ?_
      simp only [Act.put, List.setIfInBounds_toArray, List.set_cons_zero, List.set_cons_succ]
      refine wpAnyH_takeD 3 (some 168) (.pointer (some ⟨g2, 0, none⟩)) rfl rfl (by kernel_rfl) (by kernel_rfl) (by kernel_rfl) (fun _ _ _ h => h) (Or.inl ⟨by rfl, fun w hSw => by obtain ⟨hq1, hq2, hq3⟩ := unhide HC w hSw; clear hSw; go_simp⟩) hS ?_
      simp only [Act.put, List.setIfInBounds_toArray, List.set_cons_zero, List.set_cons_succ]
      refine wpAnyH_takeD 4 (some 169) (.pointer (some ⟨g2, 0, none⟩)) rfl rfl (by kernel_rfl) (by kernel_rfl) (by kernel_rfl) (fun _ _ _ h => h) (Or.inl ⟨by rfl, fun w hSw => by obtain ⟨hq1, hq2, hq3⟩ := unhide HC w hSw; clear hSw; go_simp⟩) hS ?_
      simp only [Act.put, List.setIfInBounds_toArray, List.set_cons_zero, List.set_cons_succ]
      refine wpAnyH_takeD 5 (some 170) (.pointer (some ⟨g2, 3, none⟩)) rfl rfl (by kernel_rfl) (by kernel_rfl) (by kernel_rfl) (fun _ _ _ h => h) (Or.inl ⟨by rfl, fun w hSw => by obtain ⟨hq1, hq2, hq3⟩ := unhide HC w hSw; clear hSw; go_simp⟩) hS ?_
      simp only [Act.put, List.setIfInBounds_toArray, List.set_cons_zero, List.set_cons_succ]
      refine wpAnyH_takeD 6 (some 171) (.slice (some ⟨gf, 0, none⟩) n cf) rfl rfl (by kernel_rfl) (by kernel_rfl) (by kernel_rfl) (fun _ _ _ h => h) (Or.inl ⟨by rfl, fun w hSw => by obtain ⟨hq1, hq2, hq3⟩ := unhide HC w hSw; clear hSw; go_simp⟩) hS ?_
      simp only [Act.put, List.setIfInBounds_toArray, List.set_cons_zero, List.set_cons_succ]
      refine wpAnyH_takeD 7 (some 172) (.slice (some ⟨go, 0, none⟩) n cq) rfl rfl (by kernel_rfl) (by kernel_rfl) (by kernel_rfl) (fun _ _ _ h => h) (Or.inl ⟨by rfl, fun w hSw => by obtain ⟨hq1, hq2, hq3⟩ := unhide HC w hSw; clear hSw; go_simp⟩) hS ?_
      simp only [Act.put, List.setIfInBounds_toArray, List.set_cons_zero, List.set_cons_succ]
      refine wpAnyH_takeD 8 (some 173) (.int .i64 (j : Int)) rfl rfl (by kernel_rfl) (by kernel_rfl) (by kernel_rfl) (fun _ _ _ h => h) (Or.inl ⟨by rfl, fun w hSw => by obtain ⟨hq1, hq2, hq3⟩ := unhide HC w hSw; clear hSw; go_simp⟩) hS ?_
      simp only [Act.put, List.setIfInBounds_toArray, List.set_cons_zero, List.set_cons_succ]
      refine wpAnyH_takeD 9 (some 174) (.pointer (some ⟨go, j, none⟩)) rfl rfl (by kernel_rfl) (by kernel_rfl) (by kernel_rfl) (fun _ _ _ h => h) (Or.inl ⟨by rfl, fun w hSw => by obtain ⟨hq1, hq2, hq3⟩ := unhide HC w hSw; clear hSw; go_simp⟩) hS ?_
      simp only [Act.put, List.setIfInBounds_toArray, List.set_cons_zero, List.set_cons_succ]
      refine wpAnyH_takeD 10 (some 175) (.int .i64 (v : Int)) rfl rfl (by kernel_rfl) (by kernel_rfl) (by kernel_rfl) (fun _ _ _ h => h) (Or.inl ⟨by rfl, fun w hSw => by obtain ⟨hq1, hq2, hq3⟩ := unhide HC w hSw; clear hSw; go_simp⟩) hS ?_
      simp only [Act.put, List.setIfInBounds_toArray, List.set_cons_zero, List.set_cons_succ]
      refine wpAnyH_takeD 11 (some 176) (.pointer (some ⟨gf, v, none⟩)) rfl rfl (by kernel_rfl) (by kernel_rfl) (by kernel_rfl) (fun _ _ _ h => h) (Or.inl ⟨by rfl, fun w hSw => by obtain ⟨hq1, hq2, hq3⟩ := unhide HC w hSw; clear hSw; go_simp⟩) hS ?_
      simp only [Act.put, List.setIfInBounds_toArray, List.set_cons_zero, List.set_cons_succ]
      refine wpAnyH_takeD 12 (some 177) (.string F) rfl rfl (by kernel_rfl) (by kernel_rfl) (by kernel_rfl) (fun _ _ _ h => h) (Or.inl ⟨by rfl, fun w hSw => by obtain ⟨hq1, hq2, hq3⟩ := unhide HC w hSw; clear hSw; go_simp⟩) hS ?_
      simp only [Act.put, List.setIfInBounds_toArray, List.set_cons_zero, List.set_cons_succ]
      refine wpAnyH_ready (rs := [13]) (by kernel_rfl) (by simp) ?_
      refine AllReadyH.cons rfl (fun K hK => ?_) AllReadyH.nil
      simp only [List.getElem_toArray, List.getElem_cons_succ, List.getElem_cons_zero]
      go_simp
      refine (unhide HTA).mono ?_
      rintro ev z1 ⟨rfl, hE, hO⟩
      have hS9 := unhide HSB z1 hE hO
      have HL1 := hide (unhide HGR z1 hE hO)
      clear hE hO
      refine hK.out _ _ hS9 (fun hS => ?_)
      clear hK K
      refine wpAnyH_takeD 14 (some 164) (.tuple #[.string m9, .int .i64 0]) rfl rfl (by kernel_rfl) (by kernel_rfl) (by kernel_rfl) (fun _ _ _ h => h) (Or.inl ⟨by rfl, fun w hSw => by obtain ⟨hq1, hq2, hq3⟩ := unhide HC w hSw; clear hSw; go_simp⟩) hS ?_
      simp only [Act.put, List.setIfInBounds_toArray, List.set_cons_zero, List.set_cons_succ]
      refine wpAnyH_takeD 15 (some 179) (.string m9) rfl rfl (by kernel_rfl) (by kernel_rfl) (by kernel_rfl) (fun _ _ _ h => h) (Or.inl ⟨by rfl, fun w hSw => by obtain ⟨hq1, hq2, hq3⟩ := unhide HC w hSw; clear hSw; go_simp⟩) hS ?_
      simp only [Act.put, List.setIfInBounds_toArray, List.set_cons_zero, List.set_cons_succ]
      refine wpAnyH_takeD 16 (some 180) (.int .i64 0) rfl rfl (by kernel_rfl) (by kernel_rfl) (by kernel_rfl) (fun _ _ _ h => h) (Or.inl ⟨by rfl, fun w hSw => by obtain ⟨hq1, hq2, hq3⟩ := unhide HC w hSw; clear hSw; go_simp⟩) hS ?_
      simp only [Act.put, List.setIfInBounds_toArray, List.set_cons_zero, List.set_cons_succ]
      refine wpAnyH_takeD 17 (some 29) (.string m9) rfl rfl (by kernel_rfl) (by kernel_rfl) (by kernel_rfl) (fun _ _ _ h => h) (Or.inl ⟨by rfl, fun w hSw => by obtain ⟨hq1, hq2, hq3⟩ := unhide HC w hSw; clear hSw; go_simp⟩) hS ?_
      simp only [Act.put, List.setIfInBounds_toArray, List.set_cons_zero, List.set_cons_succ]
      refine wpAnyH_takeD 18 (some 30) (.int .i64 0) rfl rfl (by kernel_rfl) (by kernel_rfl) (by kernel_rfl) (fun _ _ _ h => h) (Or.inl ⟨by rfl, fun w hSw => by obtain ⟨hq1, hq2, hq3⟩ := unhide HC w hSw; clear hSw; go_simp⟩) hS ?_
      simp only [Act.put, List.setIfInBounds_toArray, List.set_cons_zero, List.set_cons_succ]
      refine wpAnyH_done (by kernel_rfl) ?_ _
      have hL1 := unhide HL1
      have q1 := (hL1.cellO j hj2).1
      rw [hv] at q1
      have q3 := unhide HCM _ hL1.al.bel
      clear hL1 hS hS9 HAT HC HSB HGR HTA HCM hv
      go_wp2
      go_roundw
      case rel => exact ⟨j + 1, tt', mm', by omega, by go_num, HWM, HL1⟩
      case measure => simp [intOf] <;> omega
    obtain rfl : j = n := by omega
    have c5 : ¬ (j : Int) < (j : Int) := by omega
    have HFF := hide (unhide HFN j tt mm j)
    go_wp2
    go_roundw
    case rel => exact ⟨i + 1, _, by omega, by go_num, unhide HFF, hide (unhide HL).al⟩
    case measure => simp [intOf] <;> omega
  obtain rfl : i = 4 := by omega
  have e1 : ¬ (((4 : Nat)) : Int) < 4 := by omega
  go_wp2
  go_ret
  exact ⟨rfl, (unhide HAL).bel⟩
end Go.Proofs.YtifjmldmilmfjaaGreatDoor
