import Derived.Test.YtjiigapphhekmaaGreatDoorMr40
import Derived.Deep.DeepCutAuto
namespace Go.Proofs.YtjiigapphhekmaaGreatDoor
open Go.RowKit Go.Maps Go.Sort Go.Shelf
theorem tdiv_I64 (z : Int) (hz : I64 z) : I64 (z.tdiv 6) := by
  obtain ⟨a1, a2⟩ := hz
  rcases Int.lt_or_le z 0 with r | r
  · have e : z.tdiv 6 = -((-z).tdiv 6) := by rw [Int.neg_tdiv, Int.neg_neg]
    rw [e, Int.tdiv_eq_ediv_of_nonneg (by omega)]
    constructor <;> omega
  · rw [Int.tdiv_eq_ediv_of_nonneg r]
    constructor <;> omega
set_option maxRecDepth 100000 in
set_option maxHeartbeats 8000000 in
theorem dead_walk (count : Int) (hc : I64 count) (p1 : Option Addr) (c1 : Nat) (l1 : List Int) (m1 : Nat) (hm1 : m1 = l1.length) (hz1 : m1 ≤ 9223372036854775807) (p2 : Option Addr) (c2 : Nat) (l2 : List Int) (m2 : Nat) (hm2 : m2 = l2.length) (hz2 : m2 ≤ 9223372036854775807) (w : World) (hg : ETy w) (hl1 : Ints w p1 l1) (hl2 : Ints w p2 l2) (hw1 : ∀ i, I64 (l1.getD i 0)) (hw2 : ∀ i, I64 (l2.getD i 0)) :
    Calls Tryz.prog 7 #[.int .i64 count, .slice p1 m1 c1, .slice p2 m2 c2] w fun e w' => e = .returned (.bool true) ∧ Below w.heap.size w w' := by
  have HPK := hide (fun W => pick7_any count 1024 (by decide) hc 1024 rfl W)
  have hpl := pickP_lt count 1024 (by decide)
  obtain ⟨q, hq⟩ : ∃ q, pickP count 1024 = q := ⟨_, rfl⟩
  rw [hq] at HPK hpl
  have HKN := hide (known7_any w hg)
  have HA := hide (And.intro (And.intro hm1 (And.intro hz1 (And.intro hl1 hw1))) (And.intro hm2 (And.intro hl2 hw2)))
  have HG := hide hg
  have e1 : (1 : Int) + (q : Int) = ((q + 1 : Nat) : Int) := by omega
  obtain ⟨n, hn⟩ : ∃ n, q + 1 = n := ⟨_, rfl⟩
  rw [hn] at e1
  have hn1 : 1 ≤ n := by omega
  have hn2 : n ≤ 1024 := by omega
  clear hq hc hg hl1 hl2 hw1 hw2 hm1 hz1 hm2 hn
  go_enter Tryz.func7, Tryz.ntmps7
  go_wp2_with (go_at_call 9; refine (unhide HPK _).mono ?_; rintro e w' ⟨rfl, hw'⟩; subst w')
  refine (unhide HKN).mono ?_
  rintro e x0 ⟨rfl, hb0⟩
  have hg0 : ETy x0 := (unhide HG).below hb0 (unhide HG).lt
  have HB0 := hide hb0
  have HC := hide (fresh7_any n hn1 hn2 0 (by decide) x0 hg0)
  simp only [Int.cast_ofNat_Int] at HC
  have HI := hide (And.intro (ints_bel (unhide HA).1.2.2.1 hb0 (Nat.le_refl _)) (ints_bel (unhide HA).2.2.1 hb0 (Nat.le_refl _)))
  have HAA := hide (And.intro (And.intro (unhide HA).1.1 (And.intro (unhide HA).1.2.1 (unhide HA).1.2.2.2)) (And.intro (unhide HA).2.1 (unhide HA).2.2.2))
  clear hb0 hg0 HKN HA
  go_wp2_with fail
  refine (unhide HC).mono ?_
  rintro e x1 ⟨b, pb, mb, rfl, hM⟩
  obtain ⟨jb, L, A, hn, T, hS, _, _, hAl⟩ := hM.st
  clear hM HC
  have HC := hide hS.begin
  clear hS
  go_wp2_with fail
  refine (unhide HC).mono ?_
  rintro e x2 ⟨rfl, hS, _⟩
  clear HC
  have HC := hide (drawn_any hS p1 c1 l1 m1 (unhide HAA).1.1 (unhide HAA).1.2.1 (unhide HI).1 (unhide HAA).1.2.2)
  clear hS
  go_wp2_with fail
  refine (unhide HC).mono ?_
  rintro e x3 ⟨rfl, T1, hS, _⟩
  clear HC
  have HC := hide (hS.commit (by omega))
  clear hS
  go_wp2_with fail
  refine (unhide HC).mono ?_
  rintro e x4 ⟨rfl, ⟨L1, A1, hA1, hS⟩, _⟩
  have hA1l : A1.length ≤ 1000 := by omega
  clear HC hA1
  have HC := hide hS.list
  clear hS
  go_wp2_with fail
  refine (unhide HC).mono ?_
  rintro e x5 ⟨v1, rfl, hr1, hS, _⟩
  have hR1 := Rw.new (X := fun x => x = mb) hr1
  obtain ⟨pv1, cv1, hv1, _⟩ := row_form hr1
  have HV1 := hide hv1
  obtain ⟨Y, hY⟩ : ∃ Y, Xv (fun x => x = mb) v1 = Y := ⟨_, rfl⟩
  rw [hY] at hR1 hS
  clear HC hr1 hv1 hY
  have HLS := hide hS.lasts
  have HC := hide hS.bare
  have HR1 := hide hR1
  clear hS hR1
  go_wp2_with fail
  refine (unhide HC).mono ?_
  rintro e x6 ⟨rfl, hP, hO6⟩
  have HR1' := hide ((unhide HR1).only hO6)
  clear HC hO6 HR1
  have HC := hide hP.arm
  clear hP
  go_wp2_with fail
  refine (unhide HC).mono ?_
  rintro e x7 ⟨rfl, hP, hO7⟩
  have HR1 := hide ((unhide HR1').only hO7)
  clear HC hO7 HR1'
  have HC := hide (hP.flush hA1l)
  clear hP
  go_wp2_with fail
  refine (unhide HC).mono ?_
  rintro e x8 ⟨rfl, hD, hO8⟩
  have X0 := hide (And.intro hD ((unhide HR1).only hO8))
  clear HC hO8 HR1 hD
  obtain ⟨D, hDD⟩ : ∃ D : DSt, (⟨L1, L1, [], A1, 0, true⟩ : DSt) = D := ⟨_, rfl⟩
  rw [hDD] at X0
  have HDL := hide (show D.last = L1 from by rw [← hDD])
  clear hDD
  go_wp2
  go_loopw [19, 20, 21, 22] (fun i _ _ _ wr => ∃ k : Nat, k ≤ m2 ∧ i = .int .i64 (k : Int) ∧ Dd x0 wr b jb pb mb Y n true D ∧ Rw wr Y v1 (lst T1 n)) (fun i _ _ _ _ => m2 - (intOf i).toNat)
  case atStart => exact ⟨0, by omega, rfl, (unhide X0).1, (unhide X0).2⟩
  case round =>
    obtain ⟨k, hk, rfl, hD, hR⟩ := hrel
    obtain ⟨wi, rfl⟩ : ∃ wi, wi = wr := ⟨_, rfl⟩
    have HD := hide hD
    have HR := hide hR
    clear X0 hD hR
    obtain ⟨cb, hcb⟩ : ∃ cb : Bool, decide (k < m2 ∧ k < 20) = cb := ⟨_, rfl⟩
    have HCB := hide hcb
    clear hcb
    go_upto_region 16 with fail
    go_cut [100] (fun c wx => c = .bool cb ∧ wx = wi)
    case first =>
      by_cases g1 : k < m2
      · have g1' : (k : Int) < (m2 : Int) := by omega
        have g1d : decide (k < m2) = true := decide_eq_true g1
        by_cases g2 : k < 20
        · have g2' : (k : Int) < 20 := by omega
          go_wp2_with fail
          go_meet
          exact ⟨congrArg Value.bool (by rw [← unhide HCB]; exact (decide_eq_true ⟨g1, g2⟩).symm), rfl⟩
        · have g2' : ¬ (k : Int) < 20 := by omega
          go_wp2_with fail
          go_meet
          exact ⟨congrArg Value.bool (by rw [← unhide HCB]; exact (decide_eq_false (fun r => g2 r.2)).symm), rfl⟩
      · have g1' : ¬ (k : Int) < (m2 : Int) := by omega
        go_wp2_with fail
        go_meet
        exact ⟨congrArg Value.bool (by rw [← unhide HCB]; exact (decide_eq_false (fun r => g1 r.1)).symm), rfl⟩
    case rest =>
    obtain ⟨rfl, hwc⟩ := hcut
    subst wc
    cases cb with
    | true =>
      have hgo := of_decide_eq_true (unhide HCB)
      have j0 : (0 : Int) ≤ (k : Int) := by omega
      have j1 : (k : Int) < (m2 : Int) := by omega
      obtain ⟨gl, ol, rfl, hgl, hcl⟩ := (unhide HI).2 k (by have := (unhide HAA).2.1; omega)
      have hcl' : wi.cell? ⟨gl, ol + k, none⟩ = some (.int .i64 (l2.getD k 0)) := ((unhide HD).bel.cell (p := ⟨gl, ol + k, none⟩) hgl).trans hcl
      have hzI := (unhide HAA).2.2 k
      generalize l2.getD k 0 = z at *
      have HP6 := hide (fun W => pick7_any z 6 (by decide) hzI 6 rfl W)
      have hp6 := pickP_lt z 6 (by decide)
      obtain ⟨q6, hq6⟩ : ∃ r, pickP z 6 = r := ⟨_, rfl⟩
      rw [hq6] at HP6 hp6
      have hz6 := tdiv_I64 z hzI
      have hw6 : IntKind.i64.wrap (z.tdiv 6) = z.tdiv 6 := wrapI_eq _ hz6.1 hz6.2
      have HPN := hide (fun W => pick7_any (z.tdiv 6) n (by omega) hz6 (n : Int) rfl W)
      have hpn := pickP_lt (z.tdiv 6) n (by omega)
      obtain ⟨at', hat⟩ : ∃ r, pickP (z.tdiv 6) n = r := ⟨_, rfl⟩
      rw [hat] at HPN hpn
      obtain ⟨z6, hz6e⟩ : ∃ r, z.tdiv 6 = r := ⟨_, rfl⟩
      rw [hz6e] at HPN hw6
      clear hgl hcl hq6 hz6 hzI hat
      obtain rfl | rfl | rfl | rfl | rfl | rfl : q6 = 0 ∨ q6 = 1 ∨ q6 = 2 ∨ q6 = 3 ∨ q6 = 4 ∨ q6 = 5 := by omega
      · have HC := hide ((unhide HD).used at' hpn)
        simp only [Int.cast_ofNat_Int] at HP6
        go_wp2_with fail
        refine (unhide HPN _).mono ?_
        rintro e w' ⟨rfl, hw'⟩
        subst w'
        go_wp2_with fail
        refine (unhide HP6 _).mono ?_
        rintro e w' ⟨rfl, hw'⟩
        subst w'
        go_wp2_with fail
        refine (unhide HC).mono ?_
        rintro e y1 ⟨rfl, hD1, hO1⟩
        have HZ := hide (And.intro hD1 hO1)
        clear hD1 hO1 HC
        go_wp2
        go_roundw
        case rel => exact ⟨k + 1, by omega, by go_num, (unhide HZ).1, (unhide HR).only (unhide HZ).2⟩
        case measure => simp [intOf]; omega
      · have HC := hide (unhide HD).count
        simp only [Int.cast_ofNat_Int] at HP6
        go_wp2_with fail
        refine (unhide HPN _).mono ?_
        rintro e w' ⟨rfl, hw'⟩
        subst w'
        go_wp2_with fail
        refine (unhide HP6 _).mono ?_
        rintro e w' ⟨rfl, hw'⟩
        subst w'
        go_wp2_with fail
        refine (unhide HC).mono ?_
        rintro e y1 ⟨rfl, hD1, hO1⟩
        have HZ := hide (And.intro hD1 hO1)
        clear hD1 hO1 HC
        go_wp2
        go_roundw
        case rel => exact ⟨k + 1, by omega, by go_num, (unhide HZ).1, (unhide HR).only (unhide HZ).2⟩
        case measure => simp [intOf]; omega
      · have HC := hide (unhide HD).list
        simp only [Int.cast_ofNat_Int] at HP6
        go_wp2_with fail
        refine (unhide HPN _).mono ?_
        rintro e w' ⟨rfl, hw'⟩
        subst w'
        go_wp2_with fail
        refine (unhide HP6 _).mono ?_
        rintro e w' ⟨rfl, hw'⟩
        subst w'
        go_wp2_with fail
        refine (unhide HC).mono ?_
        rintro e y1 ⟨rfl, hD1, hO1⟩
        have HZ := hide (And.intro hD1 hO1)
        clear hD1 hO1 HC
        go_wp2
        go_roundw
        case rel => exact ⟨k + 1, by omega, by go_num, (unhide HZ).1, (unhide HR).only (unhide HZ).2⟩
        case measure => simp [intOf]; omega
      · have HC := hide (unhide HD).alloc
        simp only [Int.cast_ofNat_Int] at HP6
        go_wp2_with fail
        refine (unhide HPN _).mono ?_
        rintro e w' ⟨rfl, hw'⟩
        subst w'
        go_wp2_with fail
        refine (unhide HP6 _).mono ?_
        rintro e w' ⟨rfl, hw'⟩
        subst w'
        go_wp2_with fail
        refine (unhide HC).mono ?_
        rintro e y1 ⟨rfl, hD1, hO1⟩
        have HZ := hide (And.intro hD1 hO1)
        clear hD1 hO1 HC
        go_wp2
        go_roundw
        case rel => exact ⟨k + 1, by omega, by go_num, (unhide HZ).1, (unhide HR).only (unhide HZ).2⟩
        case measure => simp [intOf]; omega
      · have HC := hide ((unhide HD).free at' hpn)
        simp only [Int.cast_ofNat_Int] at HP6
        go_wp2_with fail
        refine (unhide HPN _).mono ?_
        rintro e w' ⟨rfl, hw'⟩
        subst w'
        go_wp2_with fail
        refine (unhide HP6 _).mono ?_
        rintro e w' ⟨rfl, hw'⟩
        subst w'
        go_wp2_with fail
        refine (unhide HC).mono ?_
        rintro e y1 ⟨rfl, hD1, hO1⟩
        have HZ := hide (And.intro hD1 hO1)
        clear hD1 hO1 HC
        go_wp2
        go_roundw
        case rel => exact ⟨k + 1, by omega, by go_num, (unhide HZ).1, (unhide HR).only (unhide HZ).2⟩
        case measure => simp [intOf]; omega
      · have e5 : (n : Int) + (at' : Int) = ((n + at' : Nat) : Int) := by omega
        have HC := hide ((unhide HD).free_place ((n + at' : Nat) : Int) (by omega))
        have hb5 : n + at' ≤ 5000 := by omega
        simp only [Int.cast_ofNat_Int] at HP6
        generalize n + at' = na at *
        go_wp2_with fail
        refine (unhide HPN _).mono ?_
        rintro e w' ⟨rfl, hw'⟩
        subst w'
        go_wp2_with fail
        refine (unhide HP6 _).mono ?_
        rintro e w' ⟨rfl, hw'⟩
        subst w'
        go_wp2_with fail
        refine (unhide HC).mono ?_
        rintro e y1 ⟨rfl, hy1⟩
        subst y1
        go_wp2
        go_roundw
        case rel => exact ⟨k + 1, by omega, by go_num, unhide HD, unhide HR⟩
        case measure => simp [intOf]; omega
    | false =>
      have HC := hide (unhide HD).abort
      go_wp2_with fail
      refine (unhide HC).mono ?_
      rintro e y1 ⟨rfl, hD, hO1⟩
      have HR1 := hide ((unhide HR).only hO1)
      clear HC hO1 HR HD
      have HC := hide hD.alloc_none
      clear hD
      go_wp2_with fail
      refine (unhide HC).mono ?_
      rintro e y2 ⟨rfl, hD, hO2⟩
      have HR2 := hide ((unhide HR1).only hO2)
      clear HC hO2 HR1
      have HC := hide (hD.free_none 0 (by omega))
      simp only [Int.cast_ofNat_Int] at HC
      clear hD
      go_wp2_with fail
      refine (unhide HC).mono ?_
      rintro e y3 ⟨rfl, hD, hO3⟩
      have HR3 := hide ((unhide HR2).only hO3)
      clear HC hO3 HR2
      have HC := hide (hD.free_place (-1) (by omega))
      have HD3 := hide hD
      clear hD
      go_wp2_with fail
      refine (unhide HC).mono ?_
      rintro e y4 ⟨rfl, hy4⟩
      subst y4
      clear HC
      obtain ⟨g1, g2, g3, g4, g5⟩ := unhide HLS
      have HC := hide (bytesD_any (unhide HD3).df (unhide HDL) g2 g3)
      have hgy : ETy y3 := by
        have h0 := (unhide HG).below (unhide HB0) (unhide HG).lt
        exact h0.below (unhide HD3).bel h0.lt
      have HGY := hide hgy
      clear g1 g2 g3 g4 g5 hgy
      go_wp2_with fail
      refine (unhide HC).mono ?_
      rintro e y5 ⟨b', dv, rfl, hd, hb5⟩
      obtain ⟨g1, g2, g3, g4, g5⟩ := unhide HLS
      have HC' := hide (again_any (a := 19) hd hb5 (unhide HGY) g2 g3 g4 g5 g1 2 (by decide) (by decide) (by have := pgs_le hn2; omega) hn1 hn2)
      simp only [Int.cast_ofNat_Int] at HC'
      clear hd hb5 g1 g2 g3 g4 g5 HC
      go_wp2_with fail
      refine (unhide HC').mono ?_
      rintro e y6 ⟨pb', mb', jb', A', hn', rfl, hS⟩
      clear HC'
      have HC := hide hS.list
      clear hS
      go_wp2_with fail
      refine (unhide HC).mono ?_
      rintro e y7 ⟨v4, rfl, hr4, hS, _⟩
      have hb7 : Below y3.heap.size y3 y7 := hS.bel
      have hW := (unhide HR3).below hb7
      obtain ⟨pv4, cv4, rfl, _⟩ := row_form hr4
      obtain ⟨pw, cw, hvw, hiw⟩ := hW.form
      have hv1 := unhide HV1
      rw [hv1] at hvw
      injection hvw with f1 f2 f3
      subst f1 f3
      have HC2 := hide (same7_any y7 _ _ cv4 cv1 (lst T1 n) (lst T1 n) (lst T1 n).length (lst T1 n).length rfl rfl (by have := lst_len_le T1 n; omega) (ints_own hr4) hiw)
      rw [decide_eq_true rfl] at HC2
      have HBB := hide ((unhide HB0).trans (((unhide HD3).bel.mono (unhide HB0).size).trans (hb7.mono (Nat.le_trans (unhide HB0).size (unhide HD3).bel.size))))
      subst hv1
      clear HC hr4 hS hb7 hW hiw HR3 f2 HV1
      obtain ⟨ll, hll⟩ : ∃ r, (lst T1 n).length = r := ⟨_, rfl⟩
      rw [hll] at HC2 ⊢
      clear hll
      go_wp2_with fail
      refine (unhide HC2).mono ?_
      rintro e y8 ⟨rfl, hb8⟩
      have HF := hide ((unhide HBB).trans (hb8.mono (unhide HBB).size))
      clear HC2 hb8 HBB
      go_wp2
      go_ret
      exact ⟨rfl, unhide HF⟩
end Go.Proofs.YtjiigapphhekmaaGreatDoor
