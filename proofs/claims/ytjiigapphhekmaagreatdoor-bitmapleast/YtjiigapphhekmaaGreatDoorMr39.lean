import Derived.Test.YtjiigapphhekmaaGreatDoorMr38
namespace Go.Proofs.YtjiigapphhekmaaGreatDoor
open Go.RowKit Go.Maps Go.Sort Go.Shelf
set_option maxRecDepth 100000 in
set_option maxHeartbeats 8000000 in
theorem least_walk (count : Int) (hc : I64 count) (p1 : Option Addr) (c1 : Nat) (l1 : List Int) (m1 : Nat) (hm1 : m1 = l1.length) (hz1 : m1 ≤ 9223372036854775807) (which : Int) (hwh : I64 which) (w : World) (hg : ETy w) (hl1 : Ints w p1 l1) (hw1 : ∀ i, I64 (l1.getD i 0)) :
    Calls Tryz.prog 3 #[.int .i64 count, .slice p1 m1 c1, .int .i64 which] w fun e w' => e = .returned (.bool true) ∧ Below w.heap.size w w' := by
  have HPK := hide (fun W => pick7_any count 1024 (by decide) hc 1024 rfl W)
  have hpl := pickP_lt count 1024 (by decide)
  obtain ⟨q, hq⟩ : ∃ q, pickP count 1024 = q := ⟨_, rfl⟩
  rw [hq] at HPK hpl
  have HKN := hide (known7_any w hg)
  have HG := hide hg
  have HWH := hide hwh
  have e1 : (1 : Int) + (q : Int) = ((q + 1 : Nat) : Int) := by omega
  obtain ⟨n, hn⟩ : ∃ n, q + 1 = n := ⟨_, rfl⟩
  rw [hn] at e1
  have hn1 : 1 ≤ n := by omega
  have hn2 : n ≤ 1024 := by omega
  have HA := hide (And.intro hm1 (And.intro hz1 (And.intro hl1 hw1)))
  clear hq hc hg hl1 hw1 hm1 hz1 hn hwh
  go_enter Tryz.func3, Tryz.ntmps3
  go_wp2_with (go_at_call 9; refine (unhide HPK _).mono ?_; rintro e w' ⟨rfl, hw'⟩; subst w')
  refine (unhide HKN).mono ?_
  rintro e x0 ⟨rfl, hb0⟩
  have hg0 : ETy x0 := (unhide HG).below hb0 (unhide HG).lt
  have HB0 := hide hb0
  have HC := hide (fresh7_any n hn1 hn2 3 (by decide) x0 hg0)
  simp only [Int.cast_ofNat_Int] at HC
  have HI := hide (ints_bel (unhide HA).2.2.1 hb0 (Nat.le_refl _))
  clear hb0 hg0 HKN
  go_wp2_with fail
  refine (unhide HC).mono ?_
  rintro e x1 ⟨b, pb, mb, rfl, hM⟩
  obtain ⟨jb, L, A, hn, T, hS, _, _, _⟩ := hM.st
  clear hM HC
  have HC := hide hS.begin
  clear hS
  go_wp2_with fail
  refine (unhide HC).mono ?_
  rintro e x2 ⟨rfl, hS, _⟩
  clear HC
  have HC := hide (drawn_any hS p1 c1 l1 m1 (unhide HA).1 (unhide HA).2.1 (unhide HI) (unhide HA).2.2.2)
  clear hS
  go_wp2_with fail
  refine (unhide HC).mono ?_
  rintro e x3 ⟨rfl, T1, hS, _⟩
  clear HC
  have HC := hide hS.list
  clear hS
  go_wp2_with fail
  refine (unhide HC).mono ?_
  rintro e x4 ⟨v1, rfl, hr1, hS, _⟩
  have hR1 := Rw.new (X := (fun x => x = mb)) hr1
  obtain ⟨pv1, cv1, rfl, _⟩ := row_form hr1
  have HC' := hide hS.count
  obtain ⟨XA, hXA⟩ : ∃ Y, Xv (fun x => x = mb) (.slice pv1 (lst T1 n).length cv1) = Y := ⟨_, rfl⟩
  rw [hXA] at hR1 HC'
  have HR1 := hide hR1
  have HXM := hide (show XA mb from by rw [← hXA]; exact .inl rfl)
  have hll := lst_len_le T1 n
  obtain ⟨ll, hl⟩ : ∃ q, (lst T1 n).length = q := ⟨_, rfl⟩
  rw [hl] at HC' HR1 hll ⊢
  have HLL := hide hl
  clear HC hr1 hS hR1 hXA hl
  go_wp2_with fail
  refine (unhide HC').mono ?_
  rintro e x5 ⟨rfl, hS, hO5⟩
  have X0 := hide (And.intro hS ((unhide HR1).only hO5))
  have hd1 : ((ll : Int) != (ll : Int)) = false := by simp
  have hd2 : decide ((n : Int) < (ll : Int)) = false := decide_eq_false (by omega)
  have hd3 : decide (n < ll) = false := decide_eq_false (by omega)
  clear HC' hS hO5 HR1
  go_wp2
  go_loopw [17, 18, 19, 20] (fun le i _ _ wr => ∃ k m : Nat, k ≤ ll ∧ le = .int .i64 (m : Int) ∧ i = .int .i64 (k : Int) ∧ LeI T1 n k m ∧ St x0 wr b jb pb mb XA 19 n 3 true L A hn T T1 ∧ Rw wr XA (.slice pv1 ll cv1) (lst T1 n)) (fun _ i _ _ _ => ll - (intOf i).toNat)
  case atStart => exact ⟨0, 0, by omega, rfl, rfl, ⟨by omega, fun j hj => absurd hj (by omega), fun i hi => absurd hi (by omega)⟩, (unhide X0).1, (unhide X0).2⟩
  case round =>
    obtain ⟨k, m, hk, rfl, rfl, hLe, hS, hR⟩ := hrel
    obtain ⟨wo, rfl⟩ : ∃ wo, wo = wr := ⟨_, rfl⟩
    clear X0
    by_cases hkn : k < ll
    · have hkn' : (k : Int) < (ll : Int) := by omega
      have hk0 : (0 : Int) ≤ (k : Int) := by omega
      have hkt : k < (lst T1 n).length := by rw [unhide HLL]; exact hkn
      obtain ⟨zi, hzi, hzn, hzT⟩ := lst_get T1 n k hkt
      obtain ⟨p', c', hv', hint⟩ := hR.form
      injection hv' with f1 f2 f3
      subst f1 f3
      obtain ⟨g, oo, rfl, hgl, cg⟩ := hint k hkt
      obtain ⟨z, hz⟩ : ∃ z : Int, (zi : Int) = z := ⟨_, rfl⟩
      rw [hzi, hz] at cg
      have HUS := hide (fun W (hb : Below wo.heap.size wo W) => (hS.below hb).used zi hzn)
      rw [hzT, hz] at HUS
      have HR := hide hR
      have hmk := hLe.1
      have d1 : decide (z < 0) = false := decide_eq_false (by omega)
      have d2 : decide ((n : Int) ≤ z) = false := decide_eq_false (by omega)
      have HPV := hide (show ∀ k', k = k' + 1 → ∃ z2 : Int, wo.cell? ⟨g, oo + k', none⟩ = some (.int .i64 z2) ∧ z2 < z from fun k' hk' => by
        obtain ⟨g2, o2, e2, _, cg2⟩ := hint k' (by omega)
        injection e2 with e2
        injection e2 with e3 e4
        subst e3 e4
        obtain ⟨z2, hz2, _, _⟩ := lst_get T1 n k' (by omega)
        have hr := lst_rise T1 n k' k (by omega) hkt
        rw [hz2, hzi, hz] at hr
        exact ⟨(z2 : Int), by rw [cg2, hz2], hr⟩)
      have HLE := hide (And.intro hLe (And.intro hkt (show (lst T1 n).getD k 0 = z from by rw [hzi, hz])))
      clear hS hR hint hLe hzT f2 hzn hzi hz hkt
      rcases Nat.eq_zero_or_pos k with hk00 | hkp
      · have d3 : decide ((0 : Int) < (k : Int)) = false := decide_eq_false (by omega)
        have d3' : decide (0 < k) = false := decide_eq_false (by omega)
        clear HPV hk00
        go_wp2_with fail
        go_quiet (fail)
        rename_i nq
        have hbq : Below wo.heap.size wo (wo.drewN nq) := below_drewN (Below.refl _ wo) nq
        have HUS' := hide (unhide HUS _ hbq)
        have HR' := hide ((unhide HR).below hbq)
        clear hbq HUS
        by_cases hzm : z = (m : Int)
        · have HL2 := hide ((unhide HLE).1.hit (unhide HLE).2.1 (by rw [(unhide HLE).2.2, hzm]))
          have hq : (z == (m : Int)) = true := by simp [hzm]
          have hm2 : m ≤ 2000 := by omega
          clear hzm
          go_wp2_with (go_at_call 16; refine (unhide HUS').mono ?_; rintro e y2 ⟨rfl, hS2, hO2⟩)
          go_roundw
          case rel => exact ⟨k + 1, m + 1, by omega, by go_num, by go_num, unhide HL2, hS2, ((unhide HR').only hO2)⟩
          case measure => simp [intOf]; omega
        · have HL2 := hide ((unhide HLE).1.miss (by rw [(unhide HLE).2.2]; exact hzm))
          have hq : (z == (m : Int)) = false := by simpa using hzm
          go_wp2_with (go_at_call 16; refine (unhide HUS').mono ?_; rintro e y2 ⟨rfl, hS2, hO2⟩)
          go_roundw
          case rel => exact ⟨k + 1, m, by omega, rfl, by go_num, unhide HL2, hS2, ((unhide HR').only hO2)⟩
          case measure => simp [intOf]; omega
      · obtain ⟨k', hk'⟩ : ∃ k', k = k' + 1 := ⟨k - 1, by omega⟩
        obtain ⟨z2, cg2, hz2⟩ := unhide HPV k' hk'
        have d3 : decide ((0 : Int) < (k : Int)) = true := decide_eq_true (by omega)
        have d3' : decide (0 < k) = true := decide_eq_true (by omega)
        have d4 : decide (z ≤ z2) = false := decide_eq_false (by omega)
        have s1 : (k : Int) - 1 = (k' : Int) := by omega
        have s2 : (0 : Int) ≤ (k' : Int) := by omega
        have s3 : (k' : Int) < (ll : Int) := by omega
        clear HPV hk' hkp hz2
        go_wp2_with fail
        go_quiet (fail)
        rename_i nq
        have hbq : Below wo.heap.size wo (wo.drewN nq) := below_drewN (Below.refl _ wo) nq
        have HUS' := hide (unhide HUS _ hbq)
        have HR' := hide ((unhide HR).below hbq)
        clear hbq HUS
        by_cases hzm : z = (m : Int)
        · have HL2 := hide ((unhide HLE).1.hit (unhide HLE).2.1 (by rw [(unhide HLE).2.2, hzm]))
          have hq : (z == (m : Int)) = true := by simp [hzm]
          have hm2 : m ≤ 2000 := by omega
          clear hzm
          go_wp2_with (go_at_call 16; refine (unhide HUS').mono ?_; rintro e y2 ⟨rfl, hS2, hO2⟩)
          go_roundw
          case rel => exact ⟨k + 1, m + 1, by omega, by go_num, by go_num, unhide HL2, hS2, ((unhide HR').only hO2)⟩
          case measure => simp [intOf]; omega
        · have HL2 := hide ((unhide HLE).1.miss (by rw [(unhide HLE).2.2]; exact hzm))
          have hq : (z == (m : Int)) = false := by simpa using hzm
          go_wp2_with (go_at_call 16; refine (unhide HUS').mono ?_; rintro e y2 ⟨rfl, hS2, hO2⟩)
          go_roundw
          case rel => exact ⟨k + 1, m, by omega, rfl, by go_num, unhide HL2, hS2, ((unhide HR').only hO2)⟩
          case measure => simp [intOf]; omega
    · have hke : k = ll := by omega
      have hkn' : ¬ (k : Int) < (ll : Int) := by omega
      subst hke
      have HLE := hide hLe
      have HR1 := hide hR
      have hm2 : m ≤ 2000 := by have := hLe.1; omega
      clear hLe hR
      rcases lea_or T1 n with ⟨p, hlea⟩ | hall
      · have hpm : m = p := (show LeI T1 n (lst T1 n).length m from by rw [unhide HLL]; exact unhide HLE).done hlea
        have hcn : ((k : Int) == (n : Int)) = false := by have := lst_lt T1 n p hlea; rw [unhide HLL] at this; simp; omega
        subst hpm
        have HC := hide (hS.alloc m hlea)
        have HLA := hide hlea
        clear hS hlea HLE
        go_wp2_with fail
        refine (unhide HC).mono ?_
        rintro e y1 ⟨rfl, hS, _⟩
        clear HC
        have HC := hide hS.list
        clear hS
        go_wp2_with fail
        refine (unhide HC).mono ?_
        rintro e y2 ⟨v2, rfl, hr2, hS, _⟩
        have hlen := flp_len' T1 m n (unhide HLA).2.1 (unhide HLA).1
        rw [unhide HLL] at hlen
        have hR2 := Rw.new (X := XA) hr2
        obtain ⟨pv2, cv2, rfl, _⟩ := row_form hr2
        obtain ⟨T2, hT2⟩ : ∃ T, flp T1 m = T := ⟨_, rfl⟩
        rw [hT2] at hlen hS hR2 ⊢
        obtain ⟨k1, hk1e⟩ : ∃ r, k + 1 = r := ⟨_, rfl⟩
        rw [hk1e] at hlen
        rw [hlen] at hS hR2 ⊢
        obtain ⟨XB, hXB⟩ : ∃ Y, Xv XA (.slice pv2 k1 cv2) = Y := ⟨_, rfl⟩
        rw [hXB] at hS hR2
        have hne : 0 < (lst T2 n).length := by omega
        have HPW := hide (fun W => pick7_any which (lst T2 n).length hne (unhide HWH) (k1 : Int) (by rw [hlen]) W)
        have hpw := pickP_lt which (lst T2 n).length hne
        obtain ⟨qq, hqq⟩ : ∃ r, pickP which (lst T2 n).length = r := ⟨_, rfl⟩
        rw [hqq] at HPW hpw
        obtain ⟨gi, hgi, hgn, hgT⟩ := lst_get T2 n qq hpw
        obtain ⟨p2', c2', hv2', hint⟩ := hR2.form
        injection hv2' with f1 f2 f3
        subst f1 f3
        obtain ⟨g2, o2, rfl, hgl2, cg2⟩ := hint qq hpw
        rw [hgi] at cg2
        have HFR := hide (hS.free gi hgn hgT)
        have HR2 := hide hR2
        have HX := hide (And.intro hlen (And.intro hgn hgT))
        have hq0 : (0 : Int) ≤ (qq : Int) := by omega
        have hq1 : (qq : Int) < (k1 : Int) := by omega
        have hpp : ((m : Int) != (m : Int)) = false := by simp
        have hk1 : (k : Int) + 1 = (k1 : Int) := by omega
        have hk2 : ((k1 : Int) != (k1 : Int)) = false := by simp
        have hkb : k1 ≤ 2000 := by omega
        have HK1 := hide hk1e
        clear HC hr2 hS hR2 hint f2 hgi hgT hgn hqq hpw hne hlen hT2 hXB HR1 hk1e
        go_wp2_with (go_at_call 9; refine (unhide HPW _).mono ?_; rintro e w' ⟨rfl, hw'⟩; subst w')
        refine (unhide HFR).mono ?_
        rintro e y3 ⟨rfl, hS3, hO3⟩
        have HR2' := hide ((unhide HR2).only hO3)
        have HC := hide (hS3.free_free gi (unhide HX).2.1 (by rw [flip_same, (unhide HX).2.2]; rfl))
        clear hS3 hO3 HFR HR2
        go_wp2_with fail
        refine (unhide HC).mono ?_
        rintro e y4 ⟨rfl, hS, hO4⟩
        have HR2 := hide ((unhide HR2').only hO4)
        clear HC hO4 HR2'
        have HC := hide hS.list
        clear hS
        go_wp2_with fail
        refine (unhide HC).mono ?_
        rintro e y5 ⟨v3, rfl, hr3, hS, hO5⟩
        have HR2' := hide (Rw.more (Y := Xv XB v3) ((unhide HR2).only hO5) (fun x q => Or.inl q))
        have hR3 := Rw.new (X := XB) hr3
        obtain ⟨pv3, cv3, rfl, _⟩ := row_form hr3
        have hlen3 := flp_len T2 gi (unhide HX).2.2 n (unhide HX).2.1
        rw [(unhide HX).1] at hlen3
        have hlen4 : (lst (flp T2 gi) n).length = k := by have := unhide HK1; omega
        have hflt := flp_filter T2 gi (unhide HX).2.2 n
        rw [hlen4] at hR3 HR2' ⊢
        rw [hflt] at hR3
        have HR3 := hide hR3
        have HFL := hide (show ((lst T2 n).filter (fun z => z != (gi : Int))).length = k from by rw [← hflt]; exact hlen4)
        have HB := hide ((unhide HB0).trans (hS.bel.mono (unhide HB0).size))
        clear HC hr3 hS hO5 HR2 hlen3 hlen4 hflt hR3
        have hkk : ((k : Int) != (k : Int)) = false := by simp
        obtain ⟨t, ht⟩ : ∃ t, lst T2 n = t := ⟨_, rfl⟩
        rw [ht] at HR2' HR3 HFL HX
        clear ht
        go_wp2
        go_loopw [30, 31] (fun j i wr => ∃ s : Nat, s ≤ k1 ∧ i = .int .i64 (s : Int) ∧ j = .int .i64 ((((t.take s).filter (fun z => z != (gi : Int))).length : Nat) : Int) ∧ Below y5.heap.size y5 wr) (fun _ i _ => k1 - (intOf i).toNat)
        case atStart => exact ⟨0, by omega, rfl, rfl, Below.refl _ _⟩
        case round =>
          obtain ⟨s, hs, rfl, rfl, hb⟩ := hrel
          obtain ⟨wz, rfl⟩ : ∃ wz, wz = wr := ⟨_, rfl⟩
          have HBZ := hide hb
          by_cases hsn : s < k1
          · have hst : s < t.length := by rw [(unhide HX).1]; exact hsn
            obtain ⟨p2'', c2'', hv2'', hint2⟩ := ((unhide HR2').below hb).form
            injection hv2'' with f1 f2 f3
            obtain ⟨g5, o5, e5, _, cg5⟩ := hint2 s hst
            rw [← f1] at e5
            injection e5 with e5
            injection e5 with e6 e7
            subst e6 e7
            obtain ⟨zs, hzs⟩ : ∃ z, t.getD s 0 = z := ⟨_, rfl⟩
            rw [hzs] at cg5
            have i0 : (0 : Int) ≤ (s : Int) := by omega
            have i1 : (s : Int) < (k1 : Int) := by omega
            by_cases hgz : zs = (gi : Int)
            · have hq2 : (zs == (gi : Int)) = true := by simp [hgz]
              have HSK := hide (flt_skip t (gi : Int) s hst (by rw [hzs, hgz]))
              clear hb hint2 f1 f2 f3 hst hgz hzs
              generalize hj : ((t.take s).filter (fun z => z != (gi : Int))).length = jj at *
              go_wp2
              go_roundw
              case rel => exact ⟨s + 1, by omega, by go_num, by rw [unhide HSK], unhide HBZ⟩
              case measure => simp [intOf]; omega
            · have hq2 : (zs == (gi : Int)) = false := by simpa using hgz
              obtain ⟨a1, a2, a3⟩ := flt_at t (gi : Int) s hst (by rw [hzs]; exact hgz)
              rw [unhide HFL] at a2
              obtain ⟨p3'', c3'', hv3'', hint3⟩ := ((unhide HR3).below hb).form
              injection hv3'' with f4 f5 f6
              obtain ⟨g6, o6, e8, _, cg6⟩ := hint3 _ (by rw [unhide HFL]; exact a2)
              rw [a1, hzs] at cg6
              rw [← f4] at e8
              subst e8
              have HST := hide a3
              have hqz : (zs != zs) = false := by simp
              clear hb hint2 hint3 f1 f2 f3 f4 f5 f6 hst hgz hzs a1 a3
              generalize ((t.take s).filter (fun z => z != (gi : Int))).length = jj at *
              have j0 : (0 : Int) ≤ (jj : Int) := by omega
              have j1 : (jj : Int) < (k : Int) := by omega
              go_wp2_with fail
              go_quiet (fail)
              go_wp2
              go_roundw
              case rel => exact ⟨s + 1, by omega, by go_num, by rw [unhide HST]; go_num, below_drewN (unhide HBZ) _⟩
              case measure => simp [intOf]; omega
          · have hsn' : ¬ (s : Int) < (k1 : Int) := by omega
            have HF := hide ((unhide HB).trans (hb.mono (unhide HB).size))
            clear hb
            generalize ((t.take s).filter (fun z => z != (gi : Int))).length = jj at *
            go_wp2
            go_ret
            exact ⟨rfl, unhide HF⟩
      · have hcn : ((k : Int) == (n : Int)) = true := by have := lst_all T1 n hall; rw [unhide HLL] at this; simp; omega
        have HC := hide (hS.alloc_full hall)
        clear hS hall HLE
        go_wp2_with fail
        refine (unhide HC).mono ?_
        rintro e y1 ⟨rfl, hS, _⟩
        have HB := hide ((unhide HB0).trans (hS.bel.mono (unhide HB0).size))
        clear HC hS
        go_wp2
        go_ret
        exact ⟨rfl, unhide HB⟩
end Go.Proofs.YtjiigapphhekmaaGreatDoor
