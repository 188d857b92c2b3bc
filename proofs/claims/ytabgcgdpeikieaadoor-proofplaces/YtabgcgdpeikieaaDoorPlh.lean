import Derived.Test.YtabgcgdpeikieaaDoorPlg
namespace Go.Proofs.YtabgcgdpeikieaaDoor
open Go.RowKit Go.Conc
set_option maxRecDepth 100000
/-- Behind the first offer: the book, the list that came out. -/
structure OnS (w0 : World) (N b g : Nat) (pl : List Nat) (n : Nat → Int) (L : Nat → List Chl) (z : World) : Prop where
  bk : Bk z b (fun i => b + 1 + i) n L
  lst : Blk z g (arr8 pl) 78
  lo : Below N w0 z
  hN : N ≤ b
  hg : b + 9 ≤ g
theorem OnS.low {w0 z z' : World} {N b g : Nat} {pl : List Nat} {n : Nat → Int} {L : Nat → List Chl} (h : OnS w0 N b g pl n L z) (hb : Below z.heap.size z z') : OnS w0 N b g pl n L z' :=
  ⟨h.bk.below hb, h.lst.below hb h.lst.lt, h.lo.trans (hb.mono (by have := h.bk.blk.lt; have := h.hN; omega)), h.hN, h.hg⟩
theorem OnS.chg {w0 z z' : World} {N b g : Nat} {pl : List Nat} {n n' : Nat → Int} {L L' : Nat → List Chl} (h : OnS w0 N b g pl n L z) (hB : Bk z' b (fun i => b + 1 + i) n' L') (hO : Only (OnB b (fun i => b + 1 + i)) z z') : OnS w0 N b g pl n' L' z' := by
  have h1 := h.hN
  have h2 := h.hg
  have h3 := h.bk.blk.lt
  refine ⟨hB, h.lst.only hO (fun q => ?_), below_onB h.lo hO (by omega) h1 (fun i _ => by omega), h1, h2⟩
  rcases q with q | ⟨i, hi, q⟩
  · omega
  · have q9 : g = b + 1 + i := q
    omega
theorem OnS.cell {w0 z : World} {N b g : Nat} {pl : List Nat} {n : Nat → Int} {L : Nat → List Chl} (h : OnS w0 N b g pl n L z) (k : Nat) (hk : k < 8) : z.cell? ⟨g, k, none⟩ = some (.int .i64 ((pl.getD k 0 : Nat) : Int)) := by
  rw [h.lst.cell]
  simp [arr8, hk]
theorem Ils.only {w w' : World} {P : Nat → Prop} {ao : Option Addr} {l : List Int} (h : Ils w ao l) (ho : Only P w w') (hp : ∀ g o p, ao = some ⟨g, o, p⟩ → ¬ P g) : Ils w' ao l := fun j hj => by
  obtain ⟨g, o, e, hg, hc⟩ := h j hj
  have := ho.size
  exact ⟨g, o, e, by omega, only_cell ho (hp g o none e) hc⟩
theorem OnS.oth {w0 z z' : World} {N b g G : Nat} {pl : List Nat} {n : Nat → Int} {L : Nat → List Chl} (h : OnS w0 N b g pl n L z) (ho : Only (fun x => x = G) z z') (h1 : b + 9 ≤ G) (h2 : G ≠ g) : OnS w0 N b g pl n L z' :=
  have h3 := h.hN
  have h4 := h.bk.blk.lt
  ⟨h.bk.only ho (by omega) (fun i hi => by show ¬ (b + 1 + i = G); omega), h.lst.only ho (fun e => h2 e.symm), h.lo.trans (ho.below (by omega) (fun k hk => by omega)), h.hN, h.hg⟩
theorem OnS.top {w0 z : World} {N b g : Nat} {pl : List Nat} {n : Nat → Int} {L : Nat → List Chl} (h : OnS w0 N b g pl n L z) : b + 9 ≤ z.heap.size ∧ g < z.heap.size := by
  have h1 := h.lst.lt
  have h2 := h.hg
  exact ⟨by omega, h1⟩
theorem offer_t {w : World} {b : Nat} {c : Nat → Nat} {n : Nat → Int} {L : Nat → List Chl} (h : Bk w b c n L) (i : Nat) (hi : i < 8) (h0 : 0 ≤ n i) (vol blk : Int) (dg wr dr : ByteArray) (hr : dr.size = 16) (hg : dg.size = 32) (hK : KTab w) (t : Int) (ht : t = (i : Int) + 1) (nn : Int) (hnn : n i % 4294967295 + 1 = nn) :
    Calls Tryd.prog 12 #[.pointer (some ⟨b, 0, none⟩), .int .i64 t, .agg #[.int .i64 vol, .int .i64 blk, .string dg, .string wr], .string dr] w fun e w' => ∃ g, e = .returned (.tuple #[.int .i64 nn, .slice (some ⟨g, 0, none⟩) 8 8, .int .i64 0]) ∧ w.heap.size ≤ g ∧ Blk w' g (arr8 (plO dr dg)) 78 ∧
      Bk w' b c (ups n i nn) (ups L i (pushL (L i) ⟨nn, vol, blk, dg, wr, fun j => (((plO dr dg).getD j 0 : Nat) : Int)⟩)) ∧ Only (OnB b c) w w' := by
  subst ht hnn
  exact offer_ok h i hi h0 vol blk dg wr dr hr hg hK
theorem take_yt {w : World} {b : Nat} {c : Nat → Nat} {n : Nat → Int} {L : Nat → List Chl} (h : Bk w b c n L) (i : Nat) (hi : i < 8) (m : Int) (x : Chl) (hm : tk m (L i) (L i).length = some x) (t : Int) (ht : t = (i : Int) + 1) :
    Calls Tryd.prog 16 #[.pointer (some ⟨b, 0, none⟩), .int .i64 t, .int .i64 m] w fun e w' => ∃ g, e = .returned (.tuple #[.agg #[.int .i64 x.v, .int .i64 x.k, .string x.d, .string x.q], .slice (some ⟨g, 5, none⟩) 8 8, .int .i64 0]) ∧ w.heap.size ≤ g ∧ Blk w' g x.cs 84 ∧ Bk w' b c n (ups L i (rmv m (L i))) ∧ Only (OnB b c) w w' := by
  subst ht
  exact take_yes h i hi m x hm
theorem take_nt {w : World} {b : Nat} {c : Nat → Nat} {n : Nat → Int} {L : Nat → List Chl} (h : Bk w b c n L) (i : Nat) (hi : i < 8) (m : Int) (hm : tk m (L i) (L i).length = none) (t : Int) (ht : t = (i : Int) + 1) :
    Calls Tryd.prog 16 #[.pointer (some ⟨b, 0, none⟩), .int .i64 t, .int .i64 m] w fun e w' => e = .returned (.tuple #[.agg #[.int .i64 0, .int .i64 0, .string ⟨#[]⟩, .string ⟨#[]⟩], .slice none 0 0, .int .i64 130]) ∧ Bk w' b c n (ups L i (rmv m (L i))) ∧ Only (OnB b c) w w' := by
  subst ht
  exact take_no h i hi m hm
set_option maxHeartbeats 4000000 in
theorem once13 (tn mo c0 : Int) (h1 : I64 tn) (h2 : I64 mo) (h3 : I64 c0) (w : World) (hK : KTab w) : Calls Tryd.prog 3 #[.int .i64 tn, .int .i64 mo, .int .i64 c0] w fun e w' => e = .returned (.bool true) ∧ Below w.heap.size w w' := by
  obtain ⟨N, hn⟩ : ∃ N, w.heap.size = N := ⟨_, rfl⟩
  have HKN := hide (known13_any w hK)
  rw [hn] at HKN
  have HKT := hide (fun (z : World) (h : Below N w z) => hK.low (w' := z) (by rw [hn]; exact h))
  have hp1 := fun W => pick13_any tn 8 (by omega) h1 W
  have hp2 := fun W => pick13_any mo 7 (by omega) h2 W
  simp only [Int.cast_ofNat_Int] at hp1 hp2
  have hq1 := pickP_lt tn 8 (by omega)
  have hq2 := pickP_lt mo 7 (by omega)
  have HP1 := hide hp1
  have HP2 := hide hp2
  obtain ⟨a, ha⟩ : ∃ a, pickP tn 8 = a := ⟨_, rfl⟩
  obtain ⟨m, hm⟩ : ∃ m, pickP mo 7 = m := ⟨_, rfl⟩
  rw [ha] at HP1 hq1
  rw [hm] at HP2 hq2
  have HOF := hide (fun (z : World) (h : Below N w z) => offer13_any c0 h3 z (unhide HKT z h))
  have HDR := hide (fun z : World => draw_any c0 z)
  clear hp1 hp2 ha hm hK h1 h2
  rw [hn]
  have w1 : IntKind.i64.wrap (1 + (a : Int)) = 1 + (a : Int) := wrapI_eq _ (by omega) (by omega)
  have e8 : (1 + (a : Int)).tmod 8 = (((a + 1) % 8 : Nat) : Int) := by
    rw [Int.tmod_eq_emod_of_nonneg (by omega)]
    omega
  obtain ⟨u, hu⟩ : ∃ u, (a + 1) % 8 = u := ⟨_, rfl⟩
  rw [hu] at e8
  have hu8 : u < 8 := by omega
  have hua : u ≠ a := by omega
  have w2 : IntKind.i64.wrap (u : Int) = (u : Int) := wrapI_eq _ (by omega) (by omega)
  have w3 : IntKind.i64.wrap (1 + (u : Int)) = 1 + (u : Int) := wrapI_eq _ (by omega) (by omega)
  clear hu
  go_enter Tryd.func3, Tryd.ntmps3
  go_wp2_with fail
  refine (unhide HKN).mono ?_
  rintro e z1 ⟨rfl, hb1⟩
  have HL1 := hide hb1
  clear hb1 HKN
  go_wp2_with fail
  refine (unhide HP1 _).mono ?_
  rintro e z ⟨rfl, rfl⟩
  have HNW := hide (bnew_any z)
  go_wp2_with fail
  refine (unhide HNW).mono ?_
  rintro e z2 ⟨rfl, hB2, hb2⟩
  have hNb : N ≤ z.heap.size := by have h9 := (unhide HL1).size; rw [hn] at h9; exact h9
  have hL2 := (unhide HL1).trans (hb2.mono hNb)
  obtain ⟨b, hb⟩ : ∃ b, z.heap.size = b := ⟨_, rfl⟩
  rw [hb] at hB2 hNb ⊢
  have HB2 := hide hB2
  have HL2 := hide hL2
  have HNb := hide hNb
  clear hB2 hb2 hNb hL2 HNW HL1 hb w1 e8 w2 w3
  clear z
  go_wp2_with fail
  refine (unhide HOF _ (unhide HL2)).mono ?_
  rintro e z3 ⟨rfl, hb⟩
  have HB3 := hide ((unhide HB2).below hb)
  have HL3 := hide ((unhide HL2).trans (hb.mono (by have := (unhide HB2).blk.lt; have := unhide HNb; omega)))
  clear hb HB2 HL2
  go_wp2_with fail
  refine (unhide HDR _).mono ?_
  rintro e z4 ⟨rfl, hb⟩
  have hB4 := (unhide HB3).below hb
  have hL4 := (unhide HL3).trans (hb.mono (by have := (unhide HB3).blk.lt; have := unhide HNb; omega))
  have HB4 := hide hB4
  have HL4 := hide hL4
  have HOK := hide (offer_t hB4 a hq1 (Int.le_refl _) (ofV c0 : Int) (ofB c0 : Int) (ofD c0) (ofW c0) (drB c0) (drB_size c0) (ofD_size c0) (unhide HKT _ hL4) (1 + (a : Int)) (by omega) 1 rfl)
  clear hb HB3 HL3 hB4 hL4 HDR
  go_wp2_with fail
  refine (unhide HOK).mono ?_
  rintro e z5 ⟨g, rfl, hg, hG, hB5, hO5⟩
  have hl5 : b + 9 ≤ g := by
    have h9 := ((unhide HB4).ch 7 (by omega)).lt
    have h8 : b + 1 + 7 < z4.heap.size := h9
    omega
  have hLo := below_onB (unhide HL4) hO5 (by have := (unhide HB4).blk.lt; have := unhide HNb; omega) (unhide HNb) (fun i _ => by have := unhide HNb; omega)
  have HPL := hide (plO_len (drB c0) (ofD c0) (drB_size c0) (ofD_size c0))
  have HPT := hide (plO_lt (drB c0) (ofD c0))
  have HPR := hide (plO_rise (drB c0) (ofD c0))
  have HS0 := hide (show OnS w N b g (plO (drB c0) (ofD c0)) (ups (fun _ => 0) a 1) (ups (fun _ => []) a (LS c0 0)) z5 from ⟨hB5, hG, hLo, unhide HNb, hl5⟩)
  obtain ⟨pl, hpl⟩ : ∃ pl, plO (drB c0) (ofD c0) = pl := ⟨_, rfl⟩
  rw [hpl] at HPL HPT HPR HS0
  have HPLE := hide hpl
  clear hg hG hB5 hO5 hl5 hLo HB4 HL4 HOK hpl
  clear z4
  simp only []
  rename_i K8 a8 K9 a9
  have A8 := hide a8
  clear a8
  go_step
  go_wp2
  refine unhide A8 _ _ ?_
  clear A8 K8
  go_wp2
  go_loopw [14] (fun i wr => ∃ k : Nat, k ≤ 8 ∧ i = .int .i64 (k : Int) ∧ OnS w N b g pl (ups (fun _ => 0) a 1) (ups (fun _ => []) a (LS c0 0)) wr) (fun i _ => 8 - (intOf i).toNat)
  case atStart => exact ⟨0, by omega, rfl, unhide HS0⟩
  case round =>
    obtain ⟨k, hk, rfl, hS⟩ := hrel
    by_cases hlt : k < 8
    · have i1 : (k : Int) < 8 := by omega
      have i2 : 0 ≤ (k : Int) := by omega
      have ck := hS.cell k hlt
      have hv := unhide HPT (pl.getD k 0) (by
        rw [List.getD_eq_getElem?_getD, List.getElem?_eq_getElem (show k < pl.length by rw [unhide HPL]; exact hlt), Option.getD_some]
        exact List.getElem_mem _)
      have HSk := hide hS
      by_cases h0 : k = 0
      · subst h0
        obtain ⟨p, hp⟩ : ∃ p, pl.getD 0 0 = p := ⟨_, rfl⟩
        rw [hp] at ck hv
        have d1 : decide ((p : Int) < 0) = false := decide_eq_false (by omega)
        have d2 : decide (255 < (p : Int)) = false := decide_eq_false (by omega)
        have q1 : ¬ ((p : Int) < 0) := by omega
        have q2 : ¬ (255 < (p : Int)) := by omega
        clear hS hp HS0
        go_wp2_with fail
        go_quiet (fail)
        go_wp2
        exact ⟨⟨1, by omega, rfl, (unhide HSk).low (below_drewN (Below.refl _ _) _)⟩, by simp [intOf]⟩
      · have cp := hS.cell (k - 1) (by omega)
        have hr := unhide HPR (k - 1) (by rw [unhide HPL]; omega)
        rw [show k - 1 + 1 = k by omega] at hr
        obtain ⟨p, hp⟩ : ∃ p, pl.getD k 0 = p := ⟨_, rfl⟩
        obtain ⟨q, hq⟩ : ∃ q, pl.getD (k - 1) 0 = q := ⟨_, rfl⟩
        rw [hp] at ck hv hr
        rw [hq] at cp hr
        have d1 : decide ((p : Int) < 0) = false := decide_eq_false (by omega)
        have d2 : decide (255 < (p : Int)) = false := decide_eq_false (by omega)
        have d3 : decide (0 < (k : Int)) = true := decide_eq_true (by omega)
        have d4 : decide ((p : Int) ≤ (q : Int)) = false := decide_eq_false (by omega)
        have q1 : ¬ ((p : Int) < 0) := by omega
        have q2 : ¬ (255 < (p : Int)) := by omega
        have q3 : 0 < (k : Int) := by omega
        have d5 : decide (0 < k) = true := decide_eq_true (by omega)
        have q6 : 0 < k := by omega
        have d6 : decide (p ≤ q) = false := decide_eq_false (by omega)
        have q4 : ¬ ((p : Int) ≤ (q : Int)) := by omega
        have q5 : ¬ (p ≤ q) := by omega
        have i3 : 0 ≤ (k : Int) - 1 := by omega
        have i4 : (k : Int) - 1 < 8 := by omega
        have w5 : IntKind.i64.wrap ((k : Int) - 1) = (k : Int) - 1 := wrapI_eq _ (by omega) (by omega)
        have w6 : ((k : Int) - 1).toNat = k - 1 := by omega
        clear hS hp hq HS0 hr h0
        go_wp2_with fail
        go_quiet (fail)
        go_wp2
        go_roundw
        case rel => exact ⟨k + 1, by omega, by go_num, (unhide HSk).low (below_drewN (Below.refl _ _) _)⟩
        case measure => simp [intOf]; omega
    · have hk' : k = 8 := by omega
      subst hk'
      have HS1 := hide hS
      clear hS hlt HS0
      go_wp2_with fail
      refine (unhide HP2 _).mono ?_
      rintro e z6 ⟨rfl, rfl⟩
      go_wp2
      go_loopw [16] (fun i wr => ∃ k : Nat, k ≤ m ∧ i = .int .i64 (k : Int) ∧ OnS w N b g pl (ups (fun _ => 0) a (1 + (k : Int))) (ups (fun _ => []) a (LS c0 k)) wr) (fun i _ => m - (intOf i).toNat)
      case atStart => exact ⟨0, by omega, rfl, unhide HS1⟩
      case round =>
        obtain ⟨k, hk, rfl, hS⟩ := hrel
        by_cases hlt : k < m
        · have i1 : (k : Int) < (m : Int) := by omega
          have HSk := hide hS
          have HOk := hide (fun (z : World) (h : Below N w z) => offer13_any (k : Int) (by unfold I64; omega) z (unhide HKT z h))
          have HDk := hide (fun z : World => draw_any (k : Int) z)
          clear hS HS1
          go_wp2_with fail
          refine (unhide HOk _ (unhide HSk).lo).mono ?_
          rintro e y1 ⟨rfl, hb⟩
          have HS2 := hide ((unhide HSk).low hb)
          clear hb HSk
          go_wp2_with fail
          refine (unhide HDk _).mono ?_
          rintro e y2 ⟨rfl, hb⟩
          have HS3 := hide ((unhide HS2).low hb)
          clear hb HS2
          have w7 : IntKind.i64.wrap (2 + (k : Int)) = 2 + (k : Int) := wrapI_eq _ (by omega) (by omega)
          have HOK := hide (offer_t (unhide HS3).bk a hq1 (by rw [ups_same]; omega) (ofV (k : Int) : Int) (ofB (k : Int) : Int) (ofD (k : Int)) (ofW (k : Int)) (drB (k : Int)) (drB_size _) (ofD_size _) (unhide HKT _ (unhide HS3).lo) (1 + (a : Int)) (by omega) (2 + (k : Int)) (by rw [ups_same]; omega))
          go_wp2_with fail
          refine (unhide HOK).mono ?_
          rintro e y3 ⟨g3, rfl, hg3, hG3, hB3, hO3⟩
          rw [ups_ups, ups_ups, ups_same] at hB3
          have HS4 := hide ((unhide HS3).chg hB3 hO3)
          clear hg3 hG3 hB3 hO3 HOK HS3 HOk HDk
          go_wp2
          go_roundw
          case rel =>
            refine ⟨k + 1, by omega, by go_num, ?_⟩
            have h9 := unhide HS4
            have e1 : (1 + ((k + 1 : Nat) : Int)) = 2 + (k : Int) := by omega
            have e2 : LS c0 (k + 1) = pushL (LS c0 k) ⟨2 + (k : Int), (ofV (k : Int) : Int), (ofB (k : Int) : Int), ofD (k : Int), ofW (k : Int), fun j => (((plO (drB (k : Int)) (ofD (k : Int))).getD j 0 : Nat) : Int)⟩ := by
              show pushL (LS c0 k) (xC (k : Int) ((k : Int) + 2)) = _
              rw [Int.add_comm]
              rfl
            rw [e1, e2]
            exact h9
          case measure => simp [intOf]; omega
        · have hk' : k = m := by omega
          subst hk'
          have i1 : ¬ ((k : Int) < (k : Int)) := by omega
          have HS5 := hide hS
          clear hS hlt HS1
          have HF := hide (LS_facts c0 k (by omega))
          have HPT1 := hide (pending_ok (unhide HS5).bk a hq1 (1 + (a : Int)) (by omega))
          rw [ups_same] at HPT1
          obtain ⟨ns, hns⟩ : ∃ l, ncs (LS c0 k) = l := ⟨_, rfl⟩
          rw [hns] at HF HPT1
          have HNS := hide hns
          clear hns
          go_wp2_with fail
          refine (unhide HPT1).mono ?_
          rintro e y1 ⟨ao, cap, rfl, hI1, hfr1, hB1, hO1⟩
          have hS6 := (unhide HS5).chg hB1 hO1
          have HPT2 := hide (pending_ok hS6.bk u hu8 (1 + (u : Int)) (by omega))
          rw [ups_ne _ _ _ _ hua] at HPT2
          have HI1 := hide hI1
          have HFR := hide (show ∀ g o p, ao = some ⟨g, o, p⟩ → b + 9 ≤ g from fun g o p e => by
            have h9 := hfr1 g o p e
            have h8 := (unhide HS5).lst.lt
            have h7 := (unhide HS5).hg
            omega)
          have HS6 := hide hS6
          clear hI1 hfr1 hB1 hO1 hS6 HPT1 HS5
          go_wp2_with fail
          refine (unhide HPT2).mono ?_
          rintro e y2 ⟨ao2, cap2, rfl, hI2, hfr2, hB2, hO2⟩
          have HS7 := hide ((unhide HS6).chg hB2 hO2)
          have hI3 := (unhide HI1).only hO2 (fun g o p e q => by
            have h9 := unhide HFR g o p e
            rcases q with q | ⟨i, hi, q⟩
            · omega
            · have q9 : g = b + 1 + i := q
              omega)
          have HI3 := hide hI3
          clear hI2 hfr2 hB2 hO2 hI3 HPT2 HS6 HI1
          have e0 : (ncs ([] : List Chl)).length = 0 := rfl
          rw [e0]
          have HT2 := hide (take_nt (unhide HS7).bk u hu8 1 (by rw [ups_ne _ _ _ _ hua]; rfl) (1 + (u : Int)) (by omega))
          rw [ups_ne _ _ _ _ hua] at HT2
          have w8 : IntKind.i64.wrap ((k : Int) + 1) = (k : Int) + 1 := wrapI_eq _ (by omega) (by omega)
          have w9 : IntKind.i64.wrap ((k : Int) + 2) = (k : Int) + 2 := wrapI_eq _ (by omega) (by omega)
          by_cases hk3 : k ≤ 3
          · have hln := (unhide HF).1.1 hk3
            have hf := (unhide HF).2
            rw [hln] at hf ⊢
            obtain ⟨g1, o1, rfl, hg1, hc1⟩ := unhide HI3 k (by omega)
            obtain ⟨g1', o1', ee, hg0, hc0⟩ := unhide HI3 0 (by omega)
            obtain ⟨rfl, rfl⟩ : g1 = g1' ∧ o1 = o1' := by injection ee with ee; injection ee with e1 e2; exact ⟨e1, e2⟩
            have hv1 : ns.getD k 0 = (k : Int) + 1 := by have := hf.1; rwa [Nat.add_sub_cancel] at this
            have hv0 : ns.getD 0 0 = 1 := by rw [hf.2]; omega
            rw [hv1] at hc1
            rw [hv0, Nat.add_zero] at hc0
            clear hf hg1 hg0 ee hv1 hv0
            have i4 : (k : Int) + 1 ≤ 4 := by omega
            have d4 : decide (4 < (k : Int) + 1) = false := decide_eq_false (by omega)
            clear HP1 HPT HPR HNb HF
            have w10 : IntKind.i64.wrap ((k : Int) + 2 - ((k : Int) + 1)) = 1 := by rw [wrapI_eq _ (by omega) (by omega)]; omega
            simp only []
            rename_i K8 a8 K9 a9
            have A8 := hide a8
            clear a8
            go_step
            go_wp2
            refine unhide A8 _ _ ?_
            clear A8 K8
            refine wp_seq_k (fun K1 hK1 => ?_)
            have HK1 := hide hK1
            clear hK1
            go_wp2
            refine unhide HK1 _ _ ?_
            clear HK1 K1
            refine wp_seq_k (fun K1 hK1 => ?_)
            have HK1 := hide hK1
            clear hK1
            go_wp2
            refine unhide HK1 _ _ ?_
            clear HK1 K1
            have w11 : IntKind.i64.wrap ((k : Int) + 1 - 1) = (k : Int) := by rw [wrapI_eq _ (by omega) (by omega)]; omega
            have i5 : 0 ≤ (k : Int) := by omega
            have i6 : (k : Int) < (k : Int) + 1 := by omega
            refine wp_seq_k (fun K1 hK1 => ?_)
            have HK1 := hide hK1
            clear hK1
            go_wp2
            refine unhide HK1 _ _ ?_
            clear HK1 K1
            clear w8 w9 w10 w11 hc1 hc0 i4 d4 i5 i6 HNS HI3 HFR
            refine wp_seq_k (fun K1 hK1 => ?_)
            have HK1 := hide hK1
            clear hK1
            go_wp2_with fail
            refine (unhide HT2).mono ?_
            rintro e y3 ⟨rfl, hB3, hO3⟩
            have hr0 : rmv 1 ([] : List Chl) = ups (fun _ => ([] : List Chl)) a (LS c0 k) u := by rw [ups_ne _ _ _ _ hua]; rfl
            rw [hr0, ups_self] at hB3
            have HS8 := hide ((unhide HS7).chg hB3 hO3)
            clear hr0 hB3 hO3 HT2 HS7
            obtain ⟨G4, hG4⟩ : ∃ G, y3.heap.size = G := ⟨_, rfl⟩
            obtain ⟨y4, hy4⟩ : ∃ Z, y3.alloc (.cells #[.int .i64 0, .int .i64 0, .string ⟨#[]⟩, .string ⟨#[]⟩] 31) = Z := ⟨_, rfl⟩
            have hly4 : Below y3.heap.size y3 y4 := by rw [← hy4]; exact (Below.refl _ _).alloc (Nat.le_refl _) _
            have hby4 : Blk y4 G4 #[.int .i64 0, .int .i64 0, .string ⟨#[]⟩, .string ⟨#[]⟩] 31 := by rw [← hy4, ← hG4]; exact Blk.new _ _ _
            have hty4 := (unhide HS8).top
            have Hy4 := hide (And.intro ((unhide HS8).low hly4) hby4)
            have HTG4 := hide (show b + 9 ≤ G4 ∧ G4 ≠ g from ⟨by omega, by omega⟩)
            clear hly4 hby4 hty4 HS8
            simp only []
            rename_i K8 a8
            have A8 := hide a8
            clear a8
            refine unhide A8 _ _ ?_
            clear A8 K8
            go_wp2_with (refine wpList_store_mid rfl 31 (.tmp 24) (.tmp 186) rfl G4 0 #[.int .i64 0, .int .i64 0, .string ⟨#[]⟩, .string ⟨#[]⟩] rfl rfl (blk_there (unhide Hy4).2 4 rfl) (by rw [sizeOff]; rfl) (by simp [Value.oneCell']) ?_)
            have hoz4 : Only (fun x => x = G4) y4 (y4.setCells G4 0 [.int .i64 0, .int .i64 0, .string ⟨#[]⟩, .string ⟨#[]⟩]) := only_cells G4 0 _ rfl
            have hwz4 := setCells_all (unhide Hy4).2 [.int .i64 0, .int .i64 0, .string ⟨#[]⟩, .string ⟨#[]⟩] rfl
            have hsz4 := (unhide Hy4).1.oth hoz4 (unhide HTG4).1 (unhide HTG4).2
            generalize y4.setCells G4 0 [.int .i64 0, .int .i64 0, .string ⟨#[]⟩, .string ⟨#[]⟩] = z4 at *
            have HSa := hide hsz4
            have HWz4 := hide hwz4
            clear hoz4 hwz4 hsz4 Hy4 hy4
            clear y4
            refine unhide HK1 _ _ ?_
            clear HK1 K1
            have htk := LS_tk c0 k hk3
            have HTY := hide (take_yt (unhide HSa).bk a hq1 1 (xC c0 1) (by rw [ups_same]; exact htk) (1 + (a : Int)) (by omega))
            rw [ups_same, ups_ups] at HTY
            clear htk HWz4
            refine wp_seq_k (fun K1 hK1 => ?_)
            have HK1 := hide hK1
            clear hK1
            go_wp2_with fail
            refine (unhide HTY).mono ?_
            rintro e y5 ⟨g2, rfl, hg2, hG2, hB5, hO5⟩
            have HSb := hide ((unhide HSa).chg hB5 hO5)
            have hG2l := hG2.lt
            have HX2 := hide (show Blk y5 g2 (xC c0 1).cs 84 ∧ b + 9 ≤ g2 from ⟨hG2, by have := (unhide HSa).top; omega⟩)
            clear hg2 hB5 hO5 HTY HSa
            obtain ⟨G6, hG6⟩ : ∃ G, y5.heap.size = G := ⟨_, rfl⟩
            obtain ⟨y6, hy6⟩ : ∃ Z, y5.alloc (.cells #[.int .i64 0, .int .i64 0, .string ⟨#[]⟩, .string ⟨#[]⟩] 31) = Z := ⟨_, rfl⟩
            have hly6 : Below y5.heap.size y5 y6 := by rw [← hy6]; exact (Below.refl _ _).alloc (Nat.le_refl _) _
            have hby6 : Blk y6 G6 #[.int .i64 0, .int .i64 0, .string ⟨#[]⟩, .string ⟨#[]⟩] 31 := by rw [← hy6, ← hG6]; exact Blk.new _ _ _
            have hty6 := (unhide HSb).top
            have Hy6 := hide (And.intro ((unhide HSb).low hly6) hby6)
            have HTG6 := hide (show b + 9 ≤ G6 ∧ G6 ≠ g from ⟨by omega, by omega⟩)
            have hX2b := (unhide HX2).1.below hly6 hG2l
            have HX3 := hide (show Blk y6 g2 (xC c0 1).cs 84 ∧ b + 9 ≤ g2 ∧ g2 ≠ G6 from ⟨hX2b, (unhide HX2).2, by omega⟩)
            clear hX2b HX2 hG2 hG2l
            clear hly6 hby6 hty6 HSb
            simp only []
            rename_i K8 a8
            have A8 := hide a8
            clear a8
            refine unhide A8 _ _ ?_
            clear A8 K8
            go_wp2_with (refine wpList_store_mid rfl 31 (.tmp 27) (.tmp 193) rfl G6 0 #[.int .i64 (ofV c0 : Int), .int .i64 (ofB c0 : Int), .string (ofD c0), .string (ofW c0)] rfl rfl (blk_there (unhide Hy6).2 4 rfl) (by rw [sizeOff]; rfl) (by simp [Value.oneCell']) ?_)
            have hoz6 : Only (fun x => x = G6) y6 (y6.setCells G6 0 [.int .i64 (ofV c0 : Int), .int .i64 (ofB c0 : Int), .string (ofD c0), .string (ofW c0)]) := only_cells G6 0 _ rfl
            have hwz6 := setCells_all (unhide Hy6).2 [.int .i64 (ofV c0 : Int), .int .i64 (ofB c0 : Int), .string (ofD c0), .string (ofW c0)] rfl
            have hsz6 := (unhide Hy6).1.oth hoz6 (unhide HTG6).1 (unhide HTG6).2
            have HX4 := hide (And.intro ((unhide HX3).1.only hoz6 (unhide HX3).2.2) (unhide HX3).2.1)
            clear HX3
            generalize y6.setCells G6 0 [.int .i64 (ofV c0 : Int), .int .i64 (ofB c0 : Int), .string (ofD c0), .string (ofW c0)] = z6 at *
            have HSc := hide hsz6
            have HWz6 := hide hwz6
            clear hoz6 hwz6 hsz6 Hy6 hy6
            clear y6
            refine unhide HK1 _ _ ?_
            clear HK1 K1
            refine wp_seq_k (fun K1 hK1 => ?_)
            have HK1 := hide hK1
            clear hK1
            go_wp2
            refine unhide HK1 _ _ ?_
            clear HK1 K1
            have d5 : decide (3 < (k : Int)) = false := decide_eq_false (by omega)
            have q5 : (k : Int) ≤ 3 := by omega
            refine wp_seq_k (fun K1 hK1 => ?_)
            have HK1 := hide hK1
            clear hK1
            go_wp2
            refine unhide HK1 _ _ ?_
            clear HK1 K1
            have hIl := ils_arr8 (unhide HSc).lst (unhide HPL)
            have hIm : Ils z6 (some ⟨g2, 5, none⟩) (pl.map (fun p : Nat => (p : Int))) := fun j hj => by
              rw [List.length_map, unhide HPL] at hj
              refine ⟨g2, 5, rfl, (unhide HX4).1.lt, ?_⟩
              rw [(unhide HX4).1.cell]
              have e9 : (pl.map (fun p : Nat => (p : Int))).getD j 0 = (((plO (drB c0) (ofD c0)).getD j 0 : Nat) : Int) := by
                rw [unhide HPLE, List.getD_eq_getElem?_getD, List.getElem?_map, List.getD_eq_getElem?_getD, List.getElem?_eq_getElem (show j < pl.length by rw [unhide HPL]; exact hj)]
                rfl
              rw [e9]
              match j, hj with
              | 0, _ => rfl | 1, _ => rfl | 2, _ => rfl | 3, _ => rfl | 4, _ => rfl | 5, _ => rfl | 6, _ => rfl | 7, _ => rfl
            have hll : (pl.map (fun p : Nat => (p : Int))).length = 8 := by rw [List.length_map]; exact unhide HPL
            have HSAME := hide (same13_any z6 (some ⟨g2, 5, none⟩) (some ⟨g, 0, none⟩) 8 8 _ _ 8 8 hll.symm hll.symm (by omega) hIm hIl)
            rw [decide_eq_true rfl] at HSAME
            clear hIl hIm hll HX4 d5 q5
            refine wp_seq_k (fun K1 hK1 => ?_)
            have HK1 := hide hK1
            clear hK1
            go_wp2_with fail
            refine (unhide HSAME).mono ?_
            rintro e z7 ⟨rfl, hb7⟩
            have HSd := hide ((unhide HSc).low hb7)
            have HWd := hide ((unhide HWz6).below hb7 (unhide HWz6).lt)
            clear hb7 HSAME HSc HWz6
            go_wp2
            refine unhide HK1 _ _ ?_
            clear HK1 K1
            have HTN := hide (take_nt (unhide HSd).bk a hq1 1 (by rw [ups_same]; exact tk_rmv _ _ _) (1 + (a : Int)) (by omega))
            refine wp_seq_k (fun K1 hK1 => ?_)
            have HK1 := hide hK1
            clear hK1
            go_wp2_with fail
            refine (unhide HTN).mono ?_
            rintro e y8 ⟨rfl, hB8, hO8⟩
            have HSe := hide ((unhide HSd).chg hB8 hO8)
            have hW8 := (unhide HWd).only hO8 (fun q => by
              have h9 := (unhide HTG6).1
              rcases q with q | ⟨i, hi, q⟩
              · omega
              · have q9 : G6 = b + 1 + i := q
                omega)
            have hW8l := hW8.lt
            clear hB8 hO8 HTN HSd HWd
            obtain ⟨G9, hG9⟩ : ∃ G, y8.heap.size = G := ⟨_, rfl⟩
            obtain ⟨y9, hy9⟩ : ∃ Z, y8.alloc (.cells #[.int .i64 0, .int .i64 0, .string ⟨#[]⟩, .string ⟨#[]⟩] 31) = Z := ⟨_, rfl⟩
            have hly9 : Below y8.heap.size y8 y9 := by rw [← hy9]; exact (Below.refl _ _).alloc (Nat.le_refl _) _
            have hby9 : Blk y9 G9 #[.int .i64 0, .int .i64 0, .string ⟨#[]⟩, .string ⟨#[]⟩] 31 := by rw [← hy9, ← hG9]; exact Blk.new _ _ _
            have hty9 := (unhide HSe).top
            have Hy9 := hide (And.intro ((unhide HSe).low hly9) hby9)
            have HTG9 := hide (show b + 9 ≤ G9 ∧ G9 ≠ g from ⟨by omega, by omega⟩)
            have HX9 := hide (show Blk y9 G6 #[.int .i64 (ofV c0 : Int), .int .i64 (ofB c0 : Int), .string (ofD c0), .string (ofW c0)] 31 ∧ G6 ≠ G9 from ⟨hW8.below hly9 hW8l, by omega⟩)
            clear hW8 hW8l
            clear hly9 hby9 hty9 HSe
            simp only []
            rename_i K8 a8
            have A8 := hide a8
            clear a8
            refine unhide A8 _ _ ?_
            clear A8 K8
            go_wp2_with (refine wpList_store_mid rfl 31 (.tmp 30) (.tmp 209) rfl G9 0 #[.int .i64 0, .int .i64 0, .string ⟨#[]⟩, .string ⟨#[]⟩] rfl rfl (blk_there (unhide Hy9).2 4 rfl) (by rw [sizeOff]; rfl) (by simp [Value.oneCell']) ?_)
            have hoz9 : Only (fun x => x = G9) y9 (y9.setCells G9 0 [.int .i64 0, .int .i64 0, .string ⟨#[]⟩, .string ⟨#[]⟩]) := only_cells G9 0 _ rfl
            have hwz9 := setCells_all (unhide Hy9).2 [.int .i64 0, .int .i64 0, .string ⟨#[]⟩, .string ⟨#[]⟩] rfl
            have hsz9 := (unhide Hy9).1.oth hoz9 (unhide HTG9).1 (unhide HTG9).2
            have HX10 := hide ((unhide HX9).1.only hoz9 (unhide HX9).2)
            clear HX9
            generalize y9.setCells G9 0 [.int .i64 0, .int .i64 0, .string ⟨#[]⟩, .string ⟨#[]⟩] = z9 at *
            have HSf := hide hsz9
            have HWz9 := hide hwz9
            clear hoz9 hwz9 hsz9 Hy9 hy9
            clear y9
            refine unhide HK1 _ _ ?_
            clear HK1 K1
            have HS37 := hide (show Blk z9.drew G6 #[.int .i64 (ofV c0 : Int), .int .i64 (ofB c0 : Int), .string (ofD c0), .string (ofW c0)] 31 ∧ Below N w z9.drew from ⟨unhide HX10, (unhide HSf).lo.drew⟩)
            clear HX10 HWz9
            go_wp2
            refine wp_region_held_drew (S := fun W => Blk W G6 #[.int .i64 (ofV c0 : Int), .int .i64 (ofB c0 : Int), .string (ofD c0), .string (ofW c0)] 31 ∧ Below N w W) (by kernel_rfl) (unhide HS37) ?_
            intro hS
            refine wpAnyH_takeD 0 (some 212) (.int .i64 0) rfl rfl (by kernel_rfl) (by kernel_rfl) (by kernel_rfl) (fun _ _ _ h => h) (Or.inl ⟨by rfl, fun w hSw => by clear hSw; go_simp⟩) hS ?_
            simp only [Act.put, List.setIfInBounds_toArray, List.set_cons_zero, List.set_cons_succ]
            refine wpAnyH_takeD 1 (some 213) (.bool true) rfl rfl (by kernel_rfl) (by kernel_rfl) (by kernel_rfl) (fun _ _ _ h => h) (Or.inl ⟨by rfl, fun w hSw => by clear hSw; go_simp⟩) hS ?_
            simp only [Act.put, List.setIfInBounds_toArray, List.set_cons_zero, List.set_cons_succ]
            refine wpAnyH_takeD 2 (some 214) (.bool true) rfl rfl (by kernel_rfl) (by kernel_rfl) (by kernel_rfl) (fun _ _ _ h => h) (Or.inl ⟨by rfl, fun w hSw => by clear hSw; go_simp⟩) hS ?_
            simp only [Act.put, List.setIfInBounds_toArray, List.set_cons_zero, List.set_cons_succ]
            refine wpAnyH_takeD 3 (some 215) (.agg [.int .i64 (ofV c0 : Int), .int .i64 (ofB c0 : Int), .string (ofD c0), .string (ofW c0)].toArray) rfl rfl (by kernel_rfl) (by kernel_rfl) (by kernel_rfl) (fun _ _ _ h => h) (yieldsIf_load_mid rfl 31 (.tmp 27) rfl G6 0 rfl [.int .i64 (ofV c0 : Int), .int .i64 (ofB c0 : Int), .string (ofD c0), .string (ofW c0)] _ (fun W hW => blk_range hW.1) Tryd.underlying31 rfl (by rw [sizeOff]; rfl)) hS ?_
            simp only [Act.put, List.setIfInBounds_toArray, List.set_cons_zero, List.set_cons_succ]
            refine wpAnyH_takeD 4 (some 216) (.int .i64 c0) rfl rfl (by kernel_rfl) (by kernel_rfl) (by kernel_rfl) (fun _ _ _ h => h) (Or.inl ⟨by rfl, fun w hSw => by clear hSw; go_simp⟩) hS ?_
            simp only [Act.put, List.setIfInBounds_toArray, List.set_cons_zero, List.set_cons_succ]
            refine wpAnyH_ready (rs := [5]) (by kernel_rfl) (by simp) ?_
            refine AllReadyH.cons rfl (fun K hK => ?_) AllReadyH.nil
            simp only [List.getElem_toArray, List.getElem_cons_succ, List.getElem_cons_zero]
            go_simp
            refine (unhide HOF _ hS.2).mono ?_
            rintro e x9 ⟨rfl, hb9⟩
            have hS9 : Blk x9 G6 #[.int .i64 (ofV c0 : Int), .int .i64 (ofB c0 : Int), .string (ofD c0), .string (ofW c0)] 31 ∧ Below N w x9 := ⟨hS.1.below hb9 hS.1.lt, hS.2.trans (hb9.mono (by have h8 := hS.2.size; rw [hn] at h8; exact h8))⟩
            refine hK.out _ _ hS9 (fun hS => ?_)
            clear hK K
            refine wpAnyH_takeD 6 (some 218) (.bool true) rfl rfl (by kernel_rfl) (by kernel_rfl) (by kernel_rfl) (fun _ _ _ h => h) (yieldsIf_eqO rfl (.tmp 215) (.tmp 217) rfl _ _ rfl rfl (run_eqO _ _ _ _)) hS ?_
            simp only [Act.put, List.setIfInBounds_toArray, List.set_cons_zero, List.set_cons_succ]
            refine wpAnyH_takeD 7 (some 219) (.bool true) rfl rfl (by kernel_rfl) (by kernel_rfl) (by kernel_rfl) (fun _ _ _ h => h) (Or.inl ⟨by rfl, fun w hSw => by clear hSw; go_simp⟩) hS ?_
            simp only [Act.put, List.setIfInBounds_toArray, List.set_cons_zero, List.set_cons_succ]
            refine wpAnyH_takeD 8 (some 220) (.bool true) rfl rfl (by kernel_rfl) (by kernel_rfl) (by kernel_rfl) (fun _ _ _ h => h) (Or.inl ⟨by rfl, fun w hSw => by clear hSw; go_simp⟩) hS ?_
            simp only [Act.put, List.setIfInBounds_toArray, List.set_cons_zero, List.set_cons_succ]
            refine wpAnyH_takeD 9 (some 221) (.bool true) rfl rfl (by kernel_rfl) (by kernel_rfl) (by kernel_rfl) (fun _ _ _ h => h) (Or.inl ⟨by rfl, fun w hSw => by clear hSw; go_simp⟩) hS ?_
            simp only [Act.put, List.setIfInBounds_toArray, List.set_cons_zero, List.set_cons_succ]
            refine wpAnyH_takeD 10 (some 222) (.bool true) rfl rfl (by kernel_rfl) (by kernel_rfl) (by kernel_rfl) (fun _ _ _ h => h) (Or.inl ⟨by rfl, fun w hSw => by clear hSw; go_simp⟩) hS ?_
            simp only [Act.put, List.setIfInBounds_toArray, List.set_cons_zero, List.set_cons_succ]
            refine wpAnyH_takeD 11 (some 223) (.bool true) rfl rfl (by kernel_rfl) (by kernel_rfl) (by kernel_rfl) (fun _ _ _ h => h) (Or.inl ⟨by rfl, fun w hSw => by clear hSw; go_simp⟩) hS ?_
            simp only [Act.put, List.setIfInBounds_toArray, List.set_cons_zero, List.set_cons_succ]
            refine wpAnyH_takeD 12 (some 224) (.int .i64 130) rfl rfl (by kernel_rfl) (by kernel_rfl) (by kernel_rfl) (fun _ _ _ h => h) (Or.inl ⟨by rfl, fun w hSw => by clear hSw; go_simp⟩) hS ?_
            simp only [Act.put, List.setIfInBounds_toArray, List.set_cons_zero, List.set_cons_succ]
            refine wpAnyH_takeD 13 (some 225) (.bool true) rfl rfl (by kernel_rfl) (by kernel_rfl) (by kernel_rfl) (fun _ _ _ h => h) (Or.inl ⟨by rfl, fun w hSw => by clear hSw; go_simp⟩) hS ?_
            simp only [Act.put, List.setIfInBounds_toArray, List.set_cons_zero, List.set_cons_succ]
            refine wpAnyH_takeD 14 (some 226) (.bool true) rfl rfl (by kernel_rfl) (by kernel_rfl) (by kernel_rfl) (fun _ _ _ h => h) (Or.inl ⟨by rfl, fun w hSw => by clear hSw; go_simp⟩) hS ?_
            simp only [Act.put, List.setIfInBounds_toArray, List.set_cons_zero, List.set_cons_succ]
            refine wpAnyH_takeD 15 (some 6) (.bool true) rfl rfl (by kernel_rfl) (by kernel_rfl) (by kernel_rfl) (fun _ _ _ h => h) (Or.inl ⟨by rfl, fun w hSw => by clear hSw; go_simp⟩) hS ?_
            simp only [Act.put, List.setIfInBounds_toArray, List.set_cons_zero, List.set_cons_succ]
            refine wpAnyH_done (by kernel_rfl) ?_ _
            have HS8 := hide hS
            clear hS
            go_wp2
            go_ret
            exact ⟨rfl, (unhide HS8).2⟩
          · have hk4 : 3 < k := by omega
            have hln := (unhide HF).1.2 hk4
            have hf := (unhide HF).2
            rw [hln] at hf ⊢
            obtain ⟨g1, o1, rfl, hg1, hc1⟩ := unhide HI3 3 (by omega)
            obtain ⟨g1', o1', ee, hg0, hc0⟩ := unhide HI3 0 (by omega)
            obtain ⟨rfl, rfl⟩ : g1 = g1' ∧ o1 = o1' := by injection ee with ee; injection ee with e1 e2; exact ⟨e1, e2⟩
            have hv1 : ns.getD 3 0 = (k : Int) + 1 := hf.1
            have hv0 : ns.getD 0 0 = (k : Int) + 2 - 4 := hf.2
            rw [hv1] at hc1
            rw [hv0, Nat.add_zero] at hc0
            clear hf hg1 hg0 ee hv1 hv0
            have i4 : 4 < (k : Int) + 1 := by omega
            have d4 : decide (4 < (k : Int) + 1) = true := decide_eq_true (by omega)
            clear HP1 HPT HPR HNb HF
            have w10 : IntKind.i64.wrap ((k : Int) + 2 - 4) = (k : Int) + 2 - 4 := wrapI_eq _ (by omega) (by omega)
            simp only []
            rename_i K8 a8 K9 a9
            have A8 := hide a8
            clear a8
            go_step
            go_wp2
            refine unhide A8 _ _ ?_
            clear A8 K8
            refine wp_seq_k (fun K1 hK1 => ?_)
            have HK1 := hide hK1
            clear hK1
            go_wp2
            refine unhide HK1 _ _ ?_
            clear HK1 K1
            refine wp_seq_k (fun K1 hK1 => ?_)
            have HK1 := hide hK1
            clear hK1
            go_wp2
            refine unhide HK1 _ _ ?_
            clear HK1 K1
            refine wp_seq_k (fun K1 hK1 => ?_)
            have HK1 := hide hK1
            clear hK1
            go_wp2
            refine unhide HK1 _ _ ?_
            clear HK1 K1
            clear w8 w9 w10 hc1 hc0 i4 d4 HNS HI3 HFR
            refine wp_seq_k (fun K1 hK1 => ?_)
            have HK1 := hide hK1
            clear hK1
            go_wp2_with fail
            refine (unhide HT2).mono ?_
            rintro e y3 ⟨rfl, hB3, hO3⟩
            have hr0 : rmv 1 ([] : List Chl) = ups (fun _ => ([] : List Chl)) a (LS c0 k) u := by rw [ups_ne _ _ _ _ hua]; rfl
            rw [hr0, ups_self] at hB3
            have HS8 := hide ((unhide HS7).chg hB3 hO3)
            clear hr0 hB3 hO3 HT2 HS7
            obtain ⟨G4, hG4⟩ : ∃ G, y3.heap.size = G := ⟨_, rfl⟩
            obtain ⟨y4, hy4⟩ : ∃ Z, y3.alloc (.cells #[.int .i64 0, .int .i64 0, .string ⟨#[]⟩, .string ⟨#[]⟩] 31) = Z := ⟨_, rfl⟩
            have hly4 : Below y3.heap.size y3 y4 := by rw [← hy4]; exact (Below.refl _ _).alloc (Nat.le_refl _) _
            have hby4 : Blk y4 G4 #[.int .i64 0, .int .i64 0, .string ⟨#[]⟩, .string ⟨#[]⟩] 31 := by rw [← hy4, ← hG4]; exact Blk.new _ _ _
            have hty4 := (unhide HS8).top
            have Hy4 := hide (And.intro ((unhide HS8).low hly4) hby4)
            have HTG4 := hide (show b + 9 ≤ G4 ∧ G4 ≠ g from ⟨by omega, by omega⟩)
            clear hly4 hby4 hty4 HS8
            simp only []
            rename_i K8 a8
            have A8 := hide a8
            clear a8
            refine unhide A8 _ _ ?_
            clear A8 K8
            go_wp2_with (refine wpList_store_mid rfl 31 (.tmp 24) (.tmp 186) rfl G4 0 #[.int .i64 0, .int .i64 0, .string ⟨#[]⟩, .string ⟨#[]⟩] rfl rfl (blk_there (unhide Hy4).2 4 rfl) (by rw [sizeOff]; rfl) (by simp [Value.oneCell']) ?_)
            have hoz4 : Only (fun x => x = G4) y4 (y4.setCells G4 0 [.int .i64 0, .int .i64 0, .string ⟨#[]⟩, .string ⟨#[]⟩]) := only_cells G4 0 _ rfl
            have hwz4 := setCells_all (unhide Hy4).2 [.int .i64 0, .int .i64 0, .string ⟨#[]⟩, .string ⟨#[]⟩] rfl
            have hsz4 := (unhide Hy4).1.oth hoz4 (unhide HTG4).1 (unhide HTG4).2
            generalize y4.setCells G4 0 [.int .i64 0, .int .i64 0, .string ⟨#[]⟩, .string ⟨#[]⟩] = z4 at *
            have HSa := hide hsz4
            have HWz4 := hide hwz4
            clear hoz4 hwz4 hsz4 Hy4 hy4
            clear y4
            refine unhide HK1 _ _ ?_
            clear HK1 K1
            have htk := LS_tk_no c0 k (by omega) hk4
            have HTY := hide (take_nt (unhide HSa).bk a hq1 1 (by rw [ups_same]; exact htk) (1 + (a : Int)) (by omega))
            clear htk HWz4
            refine wp_seq_k (fun K1 hK1 => ?_)
            have HK1 := hide hK1
            clear hK1
            go_wp2_with fail
            refine (unhide HTY).mono ?_
            rintro e y5 ⟨rfl, hB5, hO5⟩
            have HSb := hide ((unhide HSa).chg hB5 hO5)
            clear hB5 hO5 HTY HSa
            obtain ⟨G6, hG6⟩ : ∃ G, y5.heap.size = G := ⟨_, rfl⟩
            obtain ⟨y6, hy6⟩ : ∃ Z, y5.alloc (.cells #[.int .i64 0, .int .i64 0, .string ⟨#[]⟩, .string ⟨#[]⟩] 31) = Z := ⟨_, rfl⟩
            have hly6 : Below y5.heap.size y5 y6 := by rw [← hy6]; exact (Below.refl _ _).alloc (Nat.le_refl _) _
            have hby6 : Blk y6 G6 #[.int .i64 0, .int .i64 0, .string ⟨#[]⟩, .string ⟨#[]⟩] 31 := by rw [← hy6, ← hG6]; exact Blk.new _ _ _
            have hty6 := (unhide HSb).top
            have Hy6 := hide (And.intro ((unhide HSb).low hly6) hby6)
            have HTG6 := hide (show b + 9 ≤ G6 ∧ G6 ≠ g from ⟨by omega, by omega⟩)
            clear hly6 hby6 hty6 HSb
            simp only []
            rename_i K8 a8
            have A8 := hide a8
            clear a8
            refine unhide A8 _ _ ?_
            clear A8 K8
            go_wp2_with (refine wpList_store_mid rfl 31 (.tmp 27) (.tmp 193) rfl G6 0 #[.int .i64 0, .int .i64 0, .string ⟨#[]⟩, .string ⟨#[]⟩] rfl rfl (blk_there (unhide Hy6).2 4 rfl) (by rw [sizeOff]; rfl) (by simp [Value.oneCell']) ?_)
            have hoz6 : Only (fun x => x = G6) y6 (y6.setCells G6 0 [.int .i64 0, .int .i64 0, .string ⟨#[]⟩, .string ⟨#[]⟩]) := only_cells G6 0 _ rfl
            have hwz6 := setCells_all (unhide Hy6).2 [.int .i64 0, .int .i64 0, .string ⟨#[]⟩, .string ⟨#[]⟩] rfl
            have hsz6 := (unhide Hy6).1.oth hoz6 (unhide HTG6).1 (unhide HTG6).2
            generalize y6.setCells G6 0 [.int .i64 0, .int .i64 0, .string ⟨#[]⟩, .string ⟨#[]⟩] = z6 at *
            have HSc := hide hsz6
            have HWz6 := hide hwz6
            clear hoz6 hwz6 hsz6 Hy6 hy6
            clear y6
            refine unhide HK1 _ _ ?_
            clear HK1 K1
            refine wp_seq_k (fun K1 hK1 => ?_)
            have HK1 := hide hK1
            clear hK1
            go_wp2
            refine unhide HK1 _ _ ?_
            clear HK1 K1
            have d5 : decide (3 < (k : Int)) = true := decide_eq_true (by omega)
            have q5 : 3 < (k : Int) := by omega
            go_wp2
            go_ret
            exact ⟨rfl, (unhide HSc).lo⟩
end Go.Proofs.YtabgcgdpeikieaaDoor
