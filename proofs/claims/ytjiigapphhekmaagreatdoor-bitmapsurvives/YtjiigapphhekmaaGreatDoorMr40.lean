import Derived.Test.YtjiigapphhekmaaGreatDoorMr39
import Derived.Deep.DeepCutAuto
namespace Go.Proofs.YtjiigapphhekmaaGreatDoor
open Go.RowKit Go.Maps Go.Sort Go.Shelf
set_option maxRecDepth 100000 in
set_option maxHeartbeats 8000000 in
theorem survives_walk (count : Int) (hc : I64 count) (p1 : Option Addr) (c1 : Nat) (l1 : List Int) (m1 : Nat) (hm1 : m1 = l1.length) (hz1 : m1 ≤ 9223372036854775807) (p2 : Option Addr) (c2 : Nat) (l2 : List Int) (m2 : Nat) (hm2 : m2 = l2.length) (hz2 : m2 ≤ 9223372036854775807) (dies : Int) (hdi : I64 dies) (p4 : Option Addr) (c4 : Nat) (l4 : List Int) (m4 : Nat) (hm4 : m4 = l4.length) (_hz4 : m4 ≤ 9223372036854775807) (sl4 : m4 ≤ 17592186044415) (w : World) (hg : ETy w) (hl1 : Ints w p1 l1) (hl2 : Ints w p2 l2) (hl4 : Ints w p4 l4) (hw1 : ∀ i, I64 (l1.getD i 0)) (hw2 : ∀ i, I64 (l2.getD i 0)) (hw4 : ∀ i, I64 (l4.getD i 0)) :
    Calls Tryz.prog 8 #[.int .i64 count, .slice p1 m1 c1, .slice p2 m2 c2, .int .i64 dies, .slice p4 m4 c4] w fun e w' => e = .returned (.bool true) ∧ Below w.heap.size w w' := by
  have HPK := hide (fun W => pick7_any count 1024 (by decide) hc 1024 rfl W)
  have hpl := pickP_lt count 1024 (by decide)
  obtain ⟨q, hq⟩ : ∃ q, pickP count 1024 = q := ⟨_, rfl⟩
  rw [hq] at HPK hpl
  have HPF := hide (fun W => pick7_any dies 40 (by decide) hdi 40 rfl W)
  have hpf := pickP_lt dies 40 (by decide)
  obtain ⟨f, hf⟩ : ∃ f, pickP dies 40 = f := ⟨_, rfl⟩
  rw [hf] at HPF hpf
  have HKN := hide (known7_any w hg)
  have HA := hide (And.intro (And.intro hm1 (And.intro hz1 (And.intro hl1 hw1))) (And.intro hm2 (And.intro hz2 (And.intro hl2 hw2))))
  have HA4 := hide (And.intro hm4 (And.intro hl4 hw4))
  have HG := hide hg
  have e1 : (1 : Int) + (q : Int) = ((q + 1 : Nat) : Int) := by omega
  obtain ⟨n, hn⟩ : ∃ n, q + 1 = n := ⟨_, rfl⟩
  rw [hn] at e1
  have hn1 : 1 ≤ n := by omega
  have hn2 : n ≤ 1024 := by omega
  clear hq hc hg hl1 hl2 hw1 hw2 hm1 hz1 hm2 hz2 hn hm4 hl4 hw4 hdi hf
  go_enter Tryz.func8, Tryz.ntmps8
  go_wp2_with (go_at_call 9; refine (unhide HPK _).mono ?_; rintro e w' ⟨rfl, hw'⟩; subst w')
  refine (unhide HKN).mono ?_
  rintro e x0 ⟨rfl, hb0⟩
  have hg0 : ETy x0 := (unhide HG).below hb0 (unhide HG).lt
  have HB0 := hide hb0
  have HC := hide (fresh7_any n hn1 hn2 2 (by decide) x0 hg0)
  simp only [Int.cast_ofNat_Int] at HC
  have HI := hide (And.intro (ints_bel (unhide HA).1.2.2.1 hb0 (Nat.le_refl _)) (ints_bel (unhide HA).2.2.2.1 hb0 (Nat.le_refl _)))
  have HAA := hide (And.intro (And.intro (unhide HA).1.1 (And.intro (unhide HA).1.2.1 (unhide HA).1.2.2.2)) (And.intro (unhide HA).2.1 (And.intro (unhide HA).2.2.1 (unhide HA).2.2.2.2)))
  have HA5 := hide (And.intro (unhide HA4).1 (And.intro (ints_bel (unhide HA4).2.1 hb0 (Nat.le_refl _)) (unhide HA4).2.2))
  clear hb0 hg0 HKN HA HA4
  go_wp2_with fail
  refine (unhide HC).mono ?_
  rintro e x1 ⟨b, pb, mb, rfl, hM⟩
  obtain ⟨jb, L, A, hn, T, hS, hL, _, hAl⟩ := hM.st
  obtain rfl : hn = 0 := by
    obtain ⟨_, _, _, g4, g5⟩ := hS.lasts
    rw [hL, ld_head 19 _ (by decide)] at g4
    exact (headB_inj (by decide) g5 g4).symm
  clear hM HC hL
  have HC := hide hS.begin
  clear hS
  go_wp2_with fail
  refine (unhide HC).mono ?_
  rintro e x2 ⟨rfl, hS, _⟩
  clear HC
  have HC := hide (drawn_any hS p1 c1 l1 m1 (unhide HAA).1.1 (unhide HAA).1.2.1 (unhide HI).1 (unhide HAA).1.2.2)
  clear hS
  go_wp2_with fail
  refine (unhide HC).mono ?_
  rintro e x3 ⟨rfl, T1, hS, _⟩
  clear HC
  have HC := hide (hS.commit (by omega))
  clear hS
  go_wp2_with fail
  refine (unhide HC).mono ?_
  rintro e x4 ⟨rfl, ⟨L1, A1, hA1, hS⟩, _⟩
  have hA1l : A1.length ≤ 1000 := by omega
  clear HC hA1
  rw [show (0 + 1) % 4294967296 = 1 from rfl] at hS
  have HC := hide hS.list
  clear hS
  go_wp2_with fail
  refine (unhide HC).mono ?_
  rintro e x5 ⟨v1, rfl, hr1, hS, _⟩
  have hR1 := Rw.new (X := fun x => x = mb) hr1
  obtain ⟨pv1, cv1, hv1, _⟩ := row_form hr1
  have HV1 := hide hv1
  clear HC hr1 hv1
  have HC := hide hS.begin
  have HR1 := hide hR1
  clear hS hR1
  go_wp2_with fail
  refine (unhide HC).mono ?_
  rintro e x6 ⟨rfl, hS, hO6⟩
  have HR1' := hide ((unhide HR1).only hO6)
  clear HC hO6 HR1
  have HC := hide (drawn_any hS p2 c2 l2 m2 (unhide HAA).2.1 (unhide HAA).2.2.1 (unhide HI).2 (unhide HAA).2.2.2)
  clear hS
  go_wp2_with fail
  refine (unhide HC).mono ?_
  rintro e x7 ⟨rfl, T2, hS, hO7⟩
  have HR1 := hide ((unhide HR1').only hO7)
  clear HC hO7 HR1'
  have HC := hide hS.list
  clear hS
  go_wp2_with fail
  refine (unhide HC).mono ?_
  rintro e x8 ⟨v2, rfl, hr2, hS, hO8⟩
  have HR1' := hide (Rw.more (Y := Xv (Xv (fun x => x = mb) v1) v2) ((unhide HR1).only hO8) (fun x q => Or.inl q))
  have HR2 := hide (Rw.new (X := Xv (fun x => x = mb) v1) hr2)
  obtain ⟨pv2, cv2, hv2, _⟩ := row_form hr2
  have HV2 := hide hv2
  obtain ⟨Y, hY⟩ : ∃ Y, Xv (Xv (fun x => x = mb) v1) v2 = Y := ⟨_, rfl⟩
  rw [hY] at HR1' HR2 hS
  have HAR := hide (hS.arm f (by omega))
  have HET := hide hS.ety
  clear HC hr2 hS hO8 HR1 hv2 hY
  go_wp2_with (go_at_call 9; refine (unhide HPF _).mono ?_; rintro e w' ⟨rfl, hw'⟩; subst w')
  refine (unhide HAR).mono ?_
  rintro e x9 ⟨rfl, ⟨tx, hArm⟩, hO9⟩
  have HR1 := hide ((unhide HR1').only hO9)
  have HR2' := hide ((unhide HR2).only hO9)
  have HMS := hide (show GoodL tx ∧ StO L1 L1 ∧ MS L1 19 n T1 ∧ MS (layP L1 (natW tx)) 19 n T2 from by
    obtain ⟨S, _, _, _, _, _, _, _, a1, a2, a3, a4⟩ := hArm
    exact ⟨a1, a2, a3, a4⟩)
  have HC := hide (hArm.commit (by omega) hA1l)
  clear HAR hArm hO9 HR1' HR2
  go_wp2_with fail
  refine (unhide HC).mono ?_
  rintro e x10 ⟨er, s3, rfl, her, hdd, hDF, hO10, hp16, hcr⟩
  have HR1' := hide ((unhide HR1).only hO10)
  have HR2 := hide ((unhide HR2').only hO10)
  have HDE := hide (deadD hDF.di)
  have HER := hide (And.intro her hdd)
  have HDF := hide (And.intro hDF hcr)
  have hg10 : ETy x10 := by
    have := hDF.bel
    exact ((unhide HG).below (unhide HB0) (unhide HG).lt).below this ((unhide HG).below (unhide HB0) (unhide HG).lt).lt
  have HG10 := hide hg10
  have HPE := hide (fun W (hb : Below x10.heap.size x10 W) => pendingD (hDF.below hb).di)
  obtain ⟨Pn, hPn⟩ : ∃ P, s3.pend.length = P := ⟨_, rfl⟩
  rw [hPn] at HPE hp16
  have HPN := hide hPn
  clear HC her hdd hDF hcr hO10 hg10 hPn HR1 HR2'
  go_upto_region 15 with fail
  go_cut [110] (fun c wx => c = .bool false ∧ wx = x10)
  case first =>
    rcases (unhide HER).1 with rfl | rfl
    · have hd0 : s3.dead = false := (unhide HER).2.1 rfl
      rw [hd0] at HDE
      go_wp2_with (go_at_call 36; refine (unhide HDE).mono ?_; rintro e w' ⟨rfl, hw'⟩; subst w')
      go_meet
      exact ⟨rfl, rfl⟩
    · have hd0 : s3.dead = true := by
        cases h : s3.dead
        · exact absurd ((unhide HER).2.2 h) (by decide)
        · rfl
      rw [hd0] at HDE
      go_wp2_with (go_at_call 36; refine (unhide HDE).mono ?_; rintro e w' ⟨rfl, hw'⟩; subst w')
      go_meet
      exact ⟨rfl, rfl⟩
  case rest =>
  obtain ⟨rfl, hwc⟩ := hcut
  subst wc
  clear HDE
  obtain ⟨i0, hi, hz0, hz1', hz2'⟩ := info_parts infoI3
  have HIN := hide (And.intro hi (And.intro hz0 (And.intro hz1' hz2')))
  clear hi hz0 hz1' hz2'
  go_wp2
  go_loopw [25, 26] (fun u i wr => ∃ k : Nat, k ≤ m4 ∧ i = .int .i64 (k : Int) ∧ BkI x10 Pn k u wr) (fun _ i _ => m4 - (intOf i).toNat)
  case atStart => exact ⟨0, by omega, rfl, [], World.ownsRow_nil _ _ _ _, fun z hz => (by cases hz), Nat.le_refl _, Below.refl _ _⟩
  case round =>
    obtain ⟨k, hk, rfl, K, hR, hK, hKl, hB⟩ := hrel
    obtain ⟨wi, rfl⟩ : ∃ wi, wi = wr := ⟨_, rfl⟩
    obtain ⟨pv, cv, rfl, hcv⟩ := row_form hR
    have HR := hide hR
    have HK := hide hK
    have HB := hide hB
    obtain ⟨m, hm⟩ : ∃ m, K.length = m := ⟨_, rfl⟩
    rw [hm] at hKl ⊢
    have HM := hide hm
    have HPD := hide (unhide HPE wi hB)
    clear hR hK hB hm hcv
    obtain ⟨cb, hcb⟩ : ∃ cb : Bool, decide (k < m4 ∧ 0 < Pn) = cb := ⟨_, rfl⟩
    have HCB := hide hcb
    clear hcb
    go_upto_region 19 with fail
    go_cut [121] (fun c wx => c = .bool cb ∧ wx = wi)
    case first =>
      by_cases g1 : k < m4
      · have g1' : (k : Int) < (m4 : Int) := by omega
        have g1d : decide (k < m4) = true := decide_eq_true g1
        by_cases g2 : 0 < Pn
        · have g2' : (0 : Int) < (Pn : Int) := by omega
          go_wp2_with (go_at_call 37; refine (unhide HPD).mono ?_; rintro e w' ⟨rfl, hw'⟩; subst w')
          go_meet
          exact ⟨congrArg Value.bool (by rw [← unhide HCB]; exact (decide_eq_true ⟨g1, g2⟩).symm), rfl⟩
        · have g2' : ¬ (0 : Int) < (Pn : Int) := by omega
          go_wp2_with (go_at_call 37; refine (unhide HPD).mono ?_; rintro e w' ⟨rfl, hw'⟩; subst w')
          go_meet
          exact ⟨congrArg Value.bool (by rw [← unhide HCB]; exact (decide_eq_false (fun r => g2 r.2)).symm), rfl⟩
      · have g1' : ¬ (k : Int) < (m4 : Int) := by omega
        go_wp2_with fail
        go_meet
        exact ⟨congrArg Value.bool (by rw [← unhide HCB]; exact (decide_eq_false (fun r => g1 r.1)).symm), rfl⟩
    case rest =>
    obtain ⟨rfl, hwc⟩ := hcut
    subst wc
    cases cb with
    | true =>
      have hgo := of_decide_eq_true (unhide HCB)
      have j0 : (0 : Int) ≤ (k : Int) := by omega
      have j1 : (k : Int) < (m4 : Int) := by omega
      obtain ⟨gl, ol, rfl, hgl, hcl⟩ := (unhide HA5).2.1 k (by have := (unhide HA5).1; omega)
      have hbw : Below x0.heap.size x0 wi := (unhide HDF).1.bel.trans ((unhide HB).mono (unhide HDF).1.bel.size)
      have hcl' : wi.cell? ⟨gl, ol + k, none⟩ = some (.int .i64 (l4.getD k 0)) := (hbw.cell (p := ⟨gl, ol + k, none⟩) hgl).trans hcl
      have HPQ := hide (fun W => pick7_any (l4.getD k 0) Pn hgo.2 ((unhide HA5).2.2 k) (Pn : Int) rfl W)
      have hpq := pickP_lt (l4.getD k 0) Pn hgo.2
      generalize l4.getD k 0 = z at *
      obtain ⟨qq, hqq⟩ : ∃ r, pickP z Pn = r := ⟨_, rfl⟩
      rw [hqq] at HPQ hpq
      have HPD2 := hide (unhide HPE wi.drew ((unhide HB).drew))
      have HRA := hide (show (wi.drew.alloc (.cells #[.int .i64 (qq : Int)] 3)).ownsRow x10.heap.size 3 1 (.slice pv m cv) m (K.map (Value.int .i64)) from by
        have := owns_only (unhide HR) (Only.of_below (P := fun _ => False) (((Below.refl _ wi).drew).alloc (Nat.le_refl _) (.cells #[.int .i64 (qq : Int)] 3))) (fun _ _ q => q)
        rw [unhide HM] at this
        exact this)
      have HXB := hide (show Below x10.heap.size x10 (wi.drew.alloc (.cells #[.int .i64 (qq : Int)] 3)) from ((unhide HB).drew).alloc (unhide HB).size _)
      have hca : (wi.drew.alloc (.cells #[.int .i64 (qq : Int)] 3)).cell? ⟨gl, ol + k, none⟩ = some (.int .i64 z) := by
        exact ((((Below.refl wi.heap.size wi).drew).alloc (Nat.le_refl _) (.cells #[.int .i64 (qq : Int)] 3)).cell (p := ⟨gl, ol + k, none⟩) (World.block_lt_of_cell? wi _ hcl')).trans hcl'
      have hgx : gl < x10.heap.size := Nat.lt_of_lt_of_le hgl (unhide HDF).1.bel.size
      have hrl : ∀ r, (Value.slice pv m cv).ownBlock = some r → x10.heap.size ≤ r := fun r hr => ((unhide HRA).lt r hr).1
      clear hcl hgl hqq HPD hbw
      go_wp2_with fail
      refine wp_region_held_drew (S := fun w' => w'.cell? ⟨gl, ol + k, none⟩ = some (.int .i64 z)) (by kernel_rfl) hcl' ?_
      intro hS
      refine wpAnyH_takeD 0 (some 124) (.slice pv m cv) rfl rfl (by kernel_rfl) (by kernel_rfl) (by kernel_rfl) (fun _ _ _ h => h) (Or.inl ⟨by rfl, fun w hSw => by have q1 : _ = _ := hSw; go_simp⟩) hS ?_
      simp only [Act.put, List.setIfInBounds_toArray, List.set_cons_zero, List.set_cons_succ]
      refine wpAnyH_takeD 1 (some 125) (.slice (some ⟨gl, ol, none⟩) m4 c4) rfl rfl (by kernel_rfl) (by kernel_rfl) (by kernel_rfl) (fun _ _ _ h => h) (Or.inl ⟨by rfl, fun w hSw => by have q1 : _ = _ := hSw; go_simp⟩) hS ?_
      simp only [Act.put, List.setIfInBounds_toArray, List.set_cons_zero, List.set_cons_succ]
      refine wpAnyH_takeD 2 (some 126) (.int .i64 (k : Int)) rfl rfl (by kernel_rfl) (by kernel_rfl) (by kernel_rfl) (fun _ _ _ h => h) (Or.inl ⟨by rfl, fun w hSw => by have q1 : _ = _ := hSw; go_simp⟩) hS ?_
      simp only [Act.put, List.setIfInBounds_toArray, List.set_cons_zero, List.set_cons_succ]
      refine wpAnyH_takeD 3 (some 127) (.pointer (some ⟨gl, ol + k, none⟩)) rfl rfl (by kernel_rfl) (by kernel_rfl) (by kernel_rfl) (fun _ _ _ h => h) (Or.inl ⟨by rfl, fun w hSw => by have q1 : _ = _ := hSw; go_simp⟩) hS ?_
      simp only [Act.put, List.setIfInBounds_toArray, List.set_cons_zero, List.set_cons_succ]
      refine wpAnyH_takeD 4 (some 128) (.int .i64 z) rfl rfl (by kernel_rfl) (by kernel_rfl) (by kernel_rfl) (fun _ _ _ h => h) (Or.inl ⟨by rfl, fun w hSw => by have q1 : _ = _ := hSw; go_simp⟩) hS ?_
      simp only [Act.put, List.setIfInBounds_toArray, List.set_cons_zero, List.set_cons_succ]
      refine wpAnyH_takeD 5 (some 129) (.pointer (some ⟨b, 0, none⟩)) rfl rfl (by kernel_rfl) (by kernel_rfl) (by kernel_rfl) (fun _ _ _ h => h) (Or.inl ⟨by rfl, fun w hSw => by have q1 : _ = _ := hSw; go_simp⟩) hS ?_
      simp only [Act.put, List.setIfInBounds_toArray, List.set_cons_zero, List.set_cons_succ]
      refine wpAnyH_takeD 6 (some 130) (.pointer (some ⟨b, 0, none⟩)) rfl rfl (by kernel_rfl) (by kernel_rfl) (by kernel_rfl) (fun _ _ _ h => h) (Or.inl ⟨by rfl, fun w hSw => by have q1 : _ = _ := hSw; go_simp⟩) hS ?_
      simp only [Act.put, List.setIfInBounds_toArray, List.set_cons_zero, List.set_cons_succ]
      refine wpAnyH_takeD 7 (some 131) (.pointer (some ⟨b, 0, none⟩)) rfl rfl (by kernel_rfl) (by kernel_rfl) (by kernel_rfl) (fun _ _ _ h => h) (Or.inl ⟨by rfl, fun w hSw => by have q1 : _ = _ := hSw; go_simp⟩) hS ?_
      simp only [Act.put, List.setIfInBounds_toArray, List.set_cons_zero, List.set_cons_succ]
      refine wpAnyH_ready (rs := [8]) (by kernel_rfl) (by simp) ?_
      refine AllReadyH.cons rfl (fun K hK => ?_) AllReadyH.nil
      simp only [List.getElem_toArray, List.getElem_cons_succ, List.getElem_cons_zero]
      go_simp
      refine (unhide HPD2).mono ?_
      rintro e y1 ⟨rfl, hy1⟩
      subst hy1
      refine hK.out _ _ hcl' (fun hS => ?_)
      clear hK K
      refine wpAnyH_ready (rs := [9]) (by kernel_rfl) (by simp) ?_
      refine AllReadyH.cons rfl (fun K hK => ?_) AllReadyH.nil
      simp only [List.getElem_toArray, List.getElem_cons_succ, List.getElem_cons_zero]
      go_simp
      refine (unhide HPQ _).mono ?_
      rintro e y1 ⟨rfl, hy1⟩
      subst hy1
      refine hK.out _ _ hcl' (fun hS => ?_)
      clear hK K
      refine wpAnyH_ready (rs := [10]) (by kernel_rfl) (by simp) ?_
      refine AllReadyH.cons rfl (fun K hK => ?_) AllReadyH.nil
      simp only [List.getElem_toArray, List.getElem_cons_succ, List.getElem_cons_zero]
      go_simp
      refine hK.out _ _ hca (fun hS => ?_)
      clear hK K
      refine wpAnyH_ready (rs := [11]) (by kernel_rfl) (by simp) ?_
      refine AllReadyH.cons rfl (fun Kk hKk => ?_) AllReadyH.nil
      simp only [List.getElem_toArray, List.getElem_cons_succ, List.getElem_cons_zero]
      rw [if_pos (by rfl)]
      refine wp_append_lies _ (.tmp 124) (.tmp 134) 22 rfl x10.heap.size 3 i0 (.int .i64 0) 1 8 Tryz.underlying22 (unhide HIN).1 (unhide HIN).2.1 (unhide HIN).2.2.1 (unhide HIN).2.2.2 rfl (by decide) _ m (K.map (Value.int .i64)) rfl (unhide HRA) ⟨wi.heap.size, 0, none⟩ 1 1 [.int .i64 (qq : Int)] rfl rfl (fun r u hu => news_one wi.drew 3 _ r u hu) (by simp [Value.oneCell']) (by decide) (by unfold maxLen; omega) (by omega) (unhide HXB).size (wi.heap.size + 1) (by simp) ?_
      intro g5 cap5 x5 ho5 hg5 hgg hgl5
      have HRR := hide (show BkI x10 Pn (k + 1) (.slice (some ⟨g5, 0, none⟩) (m + 1) cap5) x5 from by
        refine ⟨K ++ [(qq : Int)], ?_, fun x hx => ?_, ?_, (unhide HXB).grown hg5 (unhide HXB).size (fun r hr => hrl r hr)⟩
        · simpa [unhide HM] using ho5
        · rcases List.mem_append.1 hx with r | r
          · exact unhide HK x r
          · simp at r; rw [r]; exact ⟨by omega, by omega⟩
        · simp [unhide HM]; omega)
      have hc5 : x5.cell? ⟨gl, ol + k, none⟩ = some (.int .i64 z) := by
        have hb5 : Below x10.heap.size x10 x5 := (unhide HXB).grown hg5 (unhide HXB).size (fun r hr => hrl r hr)
        rw [hb5.cell (p := ⟨gl, ol + k, none⟩) hgx, ← (unhide HB).cell (p := ⟨gl, ol + k, none⟩) hgx]
        exact hcl'
      simp only [Act.put, List.setIfInBounds_toArray, List.set_cons_zero, List.set_cons_succ]
      refine hKk.out _ _ hc5 (fun hS => ?_)
      clear hKk Kk ho5 hg5 hgg hgl5 HRA HXB
      refine wpAnyH_takeD 12 (some 25) (.slice (some ⟨g5, 0, none⟩) (m + 1) cap5) rfl rfl (by kernel_rfl) (by kernel_rfl) (by kernel_rfl) (fun _ _ _ h => h) (Or.inl ⟨by rfl, fun w hSw => by have q1 : _ = _ := hSw; go_simp⟩) hS ?_
      simp only [Act.put, List.setIfInBounds_toArray, List.set_cons_zero, List.set_cons_succ]
      refine wpAnyH_done (by kernel_rfl) ?_ _
      clear hS hc5 hca hcl'
      go_wp2
      go_roundw
      case rel => exact ⟨k + 1, by omega, by go_num, unhide HRR⟩
      case measure => simp [intOf]; omega
    | false =>
      have HIK := hide (ints_own (unhide HR))
      have hD := (unhide HDF).1.below (unhide HB)
      have HCR := hide (crashF hD (by rw [unhide HPN]; omega) pv K K.length cv rfl (unhide HIK) (by have := unhide HM; omega))
      obtain ⟨c1', I, hI, c2'⟩ := (unhide HDF).2.crash K (by rw [unhide HPN]; exact unhide HK)
      rw [c1', c2', unhide HM] at HCR
      have HIS := hide hI
      have HB10 := hide (And.intro ((unhide HR1').below (unhide HB)) ((unhide HR2).below (unhide HB)))
      clear hD c1' c2' hI HIK HPD
      go_wp2_with fail
      refine (unhide HCR).mono ?_
      rintro e y1 ⟨rfl, hD1, hO1⟩
      have HW1 := hide ((unhide HB10).1.only hO1)
      have HW2 := hide ((unhide HB10).2.only hO1)
      have HC := hide (bytes7_any hD1 (unhide HIS).len (unhide HIS).size)
      have HY1 := hide (And.intro hD1.bel (((unhide HG).below (unhide HB0) (unhide HG).lt).below hD1.bel ((unhide HG).below (unhide HB0) (unhide HG).lt).lt))
      clear hD1 hO1 HCR HB10
      go_wp2_with fail
      refine (unhide HC).mono ?_
      rintro e y2 ⟨b', dv, rfl, hd, hb2⟩
      obtain ⟨a1, a2, a3, a4⟩ := unhide HMS
      have h128 : 19 + pgs n ≤ 128 := by have := pgs_le hn2; omega
      have hg2 : ETy y2 := (unhide HY1).2.below hb2 (unhide HY1).2.lt
      have HC' := hide (seen_gen (n := n) (a := 19) (kp := 3) 3 (popenM hd hb2 hg2 (unhide HIS) a1 a2.len a3 a4 h128) (unhide HY1).2 (by decide) h128 hn1 hn2)
      simp only [Int.cast_ofNat_Int] at HC'
      clear hd hb2 hg2 a1 a2 a3 a4 h128 HC
      go_wp2_with fail
      refine (unhide HC').mono ?_
      rintro e y3 ⟨pb', mb', rfl, hM⟩
      obtain ⟨jb', L', A', hn', T', hS, hor⟩ := hM.st
      have HOR := hide hor
      clear HC' hM hor
      have HC := hide hS.list
      clear hS
      go_wp2_with fail
      refine (unhide HC).mono ?_
      rintro e y4 ⟨v4, rfl, hr4, hS, _⟩
      have hb4 : Below y1.heap.size y1 y4 := hS.bel
      have hW1 := (unhide HW1).below hb4
      have hW2 := (unhide HW2).below hb4
      obtain ⟨pv4, cv4, rfl, _⟩ := row_form hr4
      obtain ⟨pw1, cw1, hvw1, hiw1⟩ := hW1.form
      obtain ⟨pw2, cw2, hvw2, hiw2⟩ := hW2.form
      rw [unhide HV1] at hvw1
      rw [unhide HV2] at hvw2
      injection hvw1 with f1 f2 f3
      injection hvw2 with f4 f5 f6
      subst f1 f3 f4 f6
      have hn4 := lst_len_le T' n
      have HC2 := hide (same7_any y4 _ _ cv4 cv1 (lst T' n) (lst T1 n) (lst T' n).length (lst T1 n).length rfl rfl (by omega) (ints_own hr4) hiw1)
      have HI2 := hide (And.intro (ints_own hr4) hiw2)
      have HBB := hide ((unhide HB0).trans (((unhide HY1).1.mono (unhide HB0).size).trans (hb4.mono (Nat.le_trans (unhide HB0).size (unhide HY1).1.size))))
      have hv1 := unhide HV1
      have hv2 := unhide HV2
      subst hv1 hv2
      clear HC hr4 hS hb4 hW1 hW2 hiw1 hiw2 HW1 HW2 f2 f5 HV1 HV2 HR1' HR2
      obtain ⟨ll, hll⟩ : ∃ r, (lst T' n).length = r := ⟨_, rfl⟩
      rw [hll] at HC2 hn4 ⊢
      have HLL := hide hll
      clear hll
      obtain ⟨ol', hol⟩ : ∃ r, decide (lst T' n = lst T1 n) = r := ⟨_, rfl⟩
      rw [hol] at HC2
      have HOL := hide hol
      clear hol
      obtain ⟨ll1, hll1⟩ : ∃ r, (lst T1 n).length = r := ⟨_, rfl⟩
      rw [hll1] at HC2 ⊢
      obtain ⟨ll2, hll2⟩ : ∃ r, (lst T2 n).length = r := ⟨_, rfl⟩
      rw [hll2]
      have HLL2 := hide hll2
      clear hll1 hll2
      go_wp2_with fail
      refine (unhide HC2).mono ?_
      rintro e y5 ⟨rfl, hb5⟩
      have HC3 := hide (same7_any y5 _ _ cv4 cv2 (lst T' n) (lst T2 n) ll ll2 (unhide HLL).symm (unhide HLL2).symm (by omega) (ints_bel (unhide HI2).1 hb5 (Nat.le_refl _)) (ints_bel (unhide HI2).2 hb5 (Nat.le_refl _)))
      obtain ⟨al, hal⟩ : ∃ r, decide (lst T' n = lst T2 n) = r := ⟨_, rfl⟩
      rw [hal] at HC3
      have HAL := hide hal
      have HB5 := hide ((unhide HBB).trans (hb5.mono (unhide HBB).size))
      clear HC2 hb5 HI2 hal
      go_wp2_with fail
      refine (unhide HC3).mono ?_
      rintro e y6 ⟨rfl, hb6⟩
      have HF := hide ((unhide HB5).trans (hb6.mono (unhide HB5).size))
      clear HC3 hb6 HB5
      have hfin : al = true ∨ (al = false ∧ ol' = true ∧ er = 2) := by
        cases h : al
        · refine .inr ⟨rfl, ?_⟩
          rcases unhide HOR with r | ⟨r, r2⟩
          · have := unhide HAL
            rw [r, h] at this
            simp at this
          · refine ⟨?_, ?_⟩
            · rw [← unhide HOL, r]; simp
            · rcases (unhide HER).1 with s | s
              · rw [s] at r2; simp at r2
              · exact s
        · exact .inl rfl
      rcases hfin with rfl | ⟨rfl, rfl, rfl⟩
      · go_wp2
        go_ret
        exact ⟨rfl, unhide HF⟩
      · go_wp2
        go_ret
        exact ⟨rfl, unhide HF⟩
end Go.Proofs.YtjiigapphhekmaaGreatDoor
