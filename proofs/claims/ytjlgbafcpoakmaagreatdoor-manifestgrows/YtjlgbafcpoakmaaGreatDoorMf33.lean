import Derived.Test.YtjlgbafcpoakmaaGreatDoorMf32
import Derived.Deep.DeepCutAuto
namespace Go.Proofs.YtjlgbafcpoakmaaGreatDoor
open Go.RowKit Go.Maps Go.Sort Go.Shelf
set_option maxRecDepth 100000 in
set_option maxHeartbeats 2000000 in
theorem grows10 {w : World} (hE : ETy w) {pa : Option Addr} {l : List Int} {na ca : Nat} (hl : na = l.length) (hI : Ints w pa l) (hw : ∀ i, I64 (l.getD i 0)) (zb : Int) (hzb : I64 zb) : Calls Tryz.prog 3 #[.slice pa na ca, .int .i64 zb] w fun e w' => e = .returned (.bool true) ∧ Below w.heap.size w w' := by
  have HKN := hide (known10_any w hE)
  have HARG := hide (And.intro hE (And.intro hl (And.intro hI hw)))
  have HPI := hide (fun W => pick10_any zb 60 (by decide) hzb 60 rfl W)
  have hbb := pickP_lt zb 60 (by decide)
  generalize pickP zb 60 = bb at *
  clear hE hl hI hw hzb
  go_enter Tryz.func3, Tryz.ntmps3
  go_wp2_with fail
  refine (unhide HKN).mono ?_
  rintro e w1 ⟨rfl, hb1⟩
  obtain ⟨gb, hgb⟩ : ∃ q, w1.heap.size = q := ⟨_, rfl⟩
  obtain ⟨x1, hx1⟩ : ∃ q, w1.alloc (.cells #[.pointer none, .pointer none, .pointer none, .pointer none, .pointer none] 30) = q := ⟨_, rfl⟩
  have B1 : Blk x1 gb #[.pointer none, .pointer none, .pointer none, .pointer none, .pointer none] 30 := by rw [← hx1, ← hgb]; exact Blk.new w1 _ _
  have hb1' : Below w.heap.size w x1 := by rw [← hx1]; exact hb1.trans ((Below.refl _ w1).alloc hb1.size _)
  have HMD := hide (made_any (w0 := w) (w := x1) (n := 88) (kp := 3) (Z := fun _ => False) hb1' (unhide HARG).1 (by decide) (by decide) (by decide) (by rw [← hgb]; exact hb1.size) B1 (fun x q => q.elim))
  simp only [Int.cast_ofNat_Int] at HMD
  clear B1 hb1 hb1' HKN
  go_wp2_with fail
  refine (unhide HMD).mono ?_
  rintro e x2 ⟨rfl, b, hOp⟩
  obtain ⟨jb, pb, mb, sb, L, A, n0, T, hV2, hT, -, hA⟩ := hOp.st (m := 0) (V := V0) (fun L A n0 T hR => by rw [hR.1]; exact VS.empty L 88 V0)
  rw [hT, Tb_0] at hV2
  have HVO := hide (volumes_any hV2 2 (by decide) (by decide) (fun x q => q.elim) (by omega))
  simp only [Int.cast_ofNat_Int] at HVO
  have HLT := hide (And.intro hV2.lts hV2.bel)
  have hA' : A.length ≤ 100 := hA
  clear hOp HMD hx1 hT hA hV2 hgb
  go_wp2_with fail
  refine (unhide HVO).mono ?_
  rintro e x3 ⟨v, rfl, hrow, ⟨L3, A3, hA3, hV3⟩, O3⟩
  obtain ⟨gr, cr, hv, hcr⟩ := hrow.form (by decide)
  subst hv
  have HRW := hide hrow
  have X3 := hide (And.intro hV3 hA3)
  have HGR := hide (show x2.heap.size ≤ gr ∧ gr < x3.heap.size from hrow.lt gr rfl)
  have HMK := emake 2 (by decide)
  simp only [Int.cast_ofNat_Int] at HMK
  obtain ⟨gm, hgm⟩ : ∃ q, x3.heap.size = q := ⟨_, rfl⟩
  obtain ⟨x4, hx4⟩ : ∃ q, x3.alloc (.cells (mC 2 (fun _ _ => none)) 42) = q := ⟨_, rfl⟩
  have hmk := HMK x3
  rw [hgm, hx4] at hmk
  clear hrow hV3 hA3 HVO O3 HMK
  obtain ⟨Z, hZ⟩ : ∃ Z : Nat → Prop, Z = fun x => x = gr ∨ x = gm := ⟨_, rfl⟩
  have hb4 : Below x3.heap.size x3 x4 := by rw [← hx4]; exact (Below.refl _ x3).alloc (Nat.le_refl _) _
  have hs4 : x4.heap.size = gm + 1 := by rw [← hx4, ← hgm]; simp
  obtain ⟨⟨t1, t2, t3⟩, t4⟩ := unhide HLT
  have t5 := t4.size
  have HXX := hide (show Z gm ∧ Z gr ∧ gm ≠ gr ∧ w.heap.size ≤ gm ∧ gm ≠ mb ∧ gm ≠ sb ∧ gm ≠ gb ∧ 21 * 2 < 88 from ⟨by rw [hZ]; exact .inr rfl, by rw [hZ]; exact .inl rfl, by omega, by omega, by omega, by omega, by omega, by decide⟩)
  have hV4 := (unhide X3).1.more (Y := Z) hb4 (fun x q => by
    rw [hZ] at q
    rcases q with q | q
    · exact .inl (.inr (by rw [q]; rfl))
    · exact .inr ⟨by omega, by omega⟩)
  have hTM4 := TM_new (Z := Z) (gr := gr) (unhide HRW) rfl
  rw [hgm, hx4] at hTM4
  have hTD : TD w x4 b jb pb mb sb gb Z 88 3 2 gr 0 2 gm 138 0 x4 := ⟨L3, A3, _, VN 2, Tb 2, fun _ _ => none, by have := (unhide X3).2; omega, hV4, fun j hj => VN_r 2 j hj, fun j _ i _ => (VN_e 2 _ i).symm, hTM4⟩
  obtain ⟨-, u1, u2, u3⟩ := unhide HARG
  obtain ⟨v1, v2, v3, v4, v5, v6, v7, v8⟩ := unhide HXX
  have HTE := hide (tended_any hTD v1 v2 v3 v4 v5 v6 v7 v8 (by decide) (by decide) (by decide) (ca := ca) (cr := cr) (cm := 2) u1 u2 u3)
  clear hTD hTM4 hV4 t1 t2 t3 t4 t5 u1 u2 u3 v1 v2 v3 v4 v5 v6 v7 v8 hb4 hs4 hZ hcr HGR HRW X3 HLT hA'
  go_wp2_with fail
  refine (unhide HTE).mono ?_
  rintro e x5 ⟨rfl, L5, A5, n5, V, T, M, hA5, hV5, hr5, hM5, hTM5⟩
  clear hx4 hgm hmk HTE
  have hR1 : (V 1).r = 1 := hr5 1 (by decide)
  have hME : ∀ i, i < 60 → M 1 i = (V 1).e i := fun i hi => hM5 1 (by decide) i hi
  have HEO := hide (fun i (hi : i < 60) => hV5.vs.elim (fun _ q => q.eo 1 (by decide) i hi))
  have HGA := hide (hV5.vs.elim (fun _ q => gro_alone q 1 (by decide) bb hbb))
  clear hr5 hM5
  have HMR := hide (And.intro hR1 hME)
  obtain ⟨c0, c1, c2, c3⟩ := hV5.c
  have HCN := hide hV5.count
  have HTM := hide hTM5
  clear hV5 hTM5 hR1 hME c0 c1 c3
  go_wp2_with fail
  refine (unhide HPI _).mono ?_
  rintro e w' ⟨rfl, hw'⟩
  subst w'
  go_wp2_with fail
  refine (unhide HCN).mono ?_
  rintro e x6 ⟨rfl, hV6, O6⟩
  have hTM6 := (unhide HTM).only O6 (unhide HXX).1 (unhide HXX).2.1
  have HS6 := hide (show x6.cell? ⟨gb, 3, none⟩ = some (.pointer (some ⟨sb, 0, none⟩)) ∧ x6.cell? ⟨gr, 1, none⟩ = some (.int .i64 1) from ⟨hV6.c.2.2.2, hTM6.2.1 1 (by decide)⟩)
  have X6 := hide (And.intro (hV6.below ((Below.refl _ x6).drew)) (hTM6.below ((Below.refl _ x6).drew)))
  have hct : (lst T 88).length ≤ 88 := lst_len_le T 88
  generalize hc88 : (lst T 88).length = ct at *
  have HC88 := hide hc88
  clear hV6 hTM6 O6 HTM HCN c2 hc88
  go_wp2
  refine wp_region_held_drew (S := fun w' => w'.cell? ⟨gb, 3, none⟩ = some (.pointer (some ⟨sb, 0, none⟩)) ∧ w'.cell? ⟨gr, 1, none⟩ = some (.int .i64 1)) (by kernel_rfl) (unhide HS6) ?_
  intro hS
  generalize x6.drew = x6d at *
  refine wpAnyH_takeD 0 (some 64) (.pointer (some ⟨gb, 0, none⟩)) rfl rfl (by kernel_rfl) (by kernel_rfl) (by kernel_rfl) (fun _ _ _ h => h) (Or.inl ⟨by rfl, fun w hSw => by obtain ⟨q1, q2⟩ := hSw; go_simp⟩) hS ?_
  simp only [Act.put, List.setIfInBounds_toArray, List.set_cons_zero, List.set_cons_succ]
  refine wpAnyH_takeD 1 (some 65) (.pointer (some ⟨gb, 0, none⟩)) rfl rfl (by kernel_rfl) (by kernel_rfl) (by kernel_rfl) (fun _ _ _ h => h) (Or.inl ⟨by rfl, fun w hSw => by obtain ⟨q1, q2⟩ := hSw; go_simp⟩) hS ?_
  simp only [Act.put, List.setIfInBounds_toArray, List.set_cons_zero, List.set_cons_succ]
  refine wpAnyH_takeD 2 (some 66) (.pointer (some ⟨gb, 3, none⟩)) rfl rfl (by kernel_rfl) (by kernel_rfl) (by kernel_rfl) (fun _ _ _ h => h) (Or.inl ⟨by rfl, fun w hSw => by obtain ⟨q1, q2⟩ := hSw; go_simp⟩) hS ?_
  simp only [Act.put, List.setIfInBounds_toArray, List.set_cons_zero, List.set_cons_succ]
  refine wpAnyH_takeD 3 (some 67) (.pointer (some ⟨sb, 0, none⟩)) rfl rfl (by kernel_rfl) (by kernel_rfl) (by kernel_rfl) (fun _ _ _ h => h) (Or.inl ⟨by rfl, fun w hSw => by obtain ⟨q1, q2⟩ := hSw; go_simp⟩) hS ?_
  simp only [Act.put, List.setIfInBounds_toArray, List.set_cons_zero, List.set_cons_succ]
  refine wpAnyH_takeD 4 (some 68) (.slice (some ⟨gr, 0, none⟩) 2 cr) rfl rfl (by kernel_rfl) (by kernel_rfl) (by kernel_rfl) (fun _ _ _ h => h) (Or.inl ⟨by rfl, fun w hSw => by obtain ⟨q1, q2⟩ := hSw; go_simp⟩) hS ?_
  simp only [Act.put, List.setIfInBounds_toArray, List.set_cons_zero, List.set_cons_succ]
  refine wpAnyH_takeD 5 (some 69) (.pointer (some ⟨gr, 1, none⟩)) rfl rfl (by kernel_rfl) (by kernel_rfl) (by kernel_rfl) (fun _ _ _ h => h) (Or.inl ⟨by rfl, fun w hSw => by obtain ⟨q1, q2⟩ := hSw; go_simp⟩) hS ?_
  simp only [Act.put, List.setIfInBounds_toArray, List.set_cons_zero, List.set_cons_succ]
  refine wpAnyH_takeD 6 (some 70) (.int .i64 1) rfl rfl (by kernel_rfl) (by kernel_rfl) (by kernel_rfl) (fun _ _ _ h => h) (Or.inl ⟨by rfl, fun w hSw => by obtain ⟨q1, q2⟩ := hSw; go_simp⟩) hS ?_
  simp only [Act.put, List.setIfInBounds_toArray, List.set_cons_zero, List.set_cons_succ]
  refine wpAnyH_takeD 7 (some 71) (.int .i64 (bb : Int)) rfl rfl (by kernel_rfl) (by kernel_rfl) (by kernel_rfl) (fun _ _ _ h => h) (Or.inl ⟨by rfl, fun w hSw => by obtain ⟨q1, q2⟩ := hSw; go_simp⟩) hS ?_
  simp only [Act.put, List.setIfInBounds_toArray, List.set_cons_zero, List.set_cons_succ]
  refine wpAnyH_ready (rs := [8]) (by kernel_rfl) (by simp) ?_
  refine AllReadyH.cons rfl (fun K hK => ?_) AllReadyH.nil
  simp only [List.getElem_toArray, List.getElem_cons_succ, List.getElem_cons_zero]
  go_simp
  have HGW := (unhide X6).1.grows 1 (by decide) bb hbb
  rw [(unhide HMR).1] at HGW
  simp only [Int.cast_ofNat_Int] at HGW
  refine HGW.mono ?_
  rintro e x7 ⟨rfl, hV7, O7⟩
  have X7 := hide (And.intro hV7 ((unhide X6).2.only O7 (unhide HXX).1 (unhide HXX).2.1))
  have S7 : (fun w' => w'.cell? ⟨gb, 3, none⟩ = some (.pointer (some ⟨sb, 0, none⟩)) ∧ w'.cell? ⟨gr, 1, none⟩ = some (.int .i64 1)) x7 := ⟨(unhide X7).1.c.2.2.2, (unhide X7).2.2.1 1 (by decide)⟩
  clear hV7 O7 HGW X6
  refine hK.out _ _ S7 (fun hS => ?_)
  clear hK K
  refine wpAnyH_takeD 9 (some 63) (.tuple #[.int .i64 (gro (V 1) bb : Int), .int .i64 0]) rfl rfl (by kernel_rfl) (by kernel_rfl) (by kernel_rfl) (fun _ _ _ h => h) (Or.inl ⟨by rfl, fun w hSw => by obtain ⟨q1, q2⟩ := hSw; go_simp⟩) hS ?_
  simp only [Act.put, List.setIfInBounds_toArray, List.set_cons_zero, List.set_cons_succ]
  refine wpAnyH_takeD 10 (some 73) (.int .i64 (gro (V 1) bb : Int)) rfl rfl (by kernel_rfl) (by kernel_rfl) (by kernel_rfl) (fun _ _ _ h => h) (Or.inl ⟨by rfl, fun w hSw => by obtain ⟨q1, q2⟩ := hSw; go_simp⟩) hS ?_
  simp only [Act.put, List.setIfInBounds_toArray, List.set_cons_zero, List.set_cons_succ]
  refine wpAnyH_takeD 11 (some 74) (.int .i64 0) rfl rfl (by kernel_rfl) (by kernel_rfl) (by kernel_rfl) (fun _ _ _ h => h) (Or.inl ⟨by rfl, fun w hSw => by obtain ⟨q1, q2⟩ := hSw; go_simp⟩) hS ?_
  simp only [Act.put, List.setIfInBounds_toArray, List.set_cons_zero, List.set_cons_succ]
  refine wpAnyH_takeD 12 (some 13) (.int .i64 (gro (V 1) bb : Int)) rfl rfl (by kernel_rfl) (by kernel_rfl) (by kernel_rfl) (fun _ _ _ h => h) (Or.inl ⟨by rfl, fun w hSw => by obtain ⟨q1, q2⟩ := hSw; go_simp⟩) hS ?_
  simp only [Act.put, List.setIfInBounds_toArray, List.set_cons_zero, List.set_cons_succ]
  refine wpAnyH_takeD 13 (some 14) (.int .i64 0) rfl rfl (by kernel_rfl) (by kernel_rfl) (by kernel_rfl) (fun _ _ _ h => h) (Or.inl ⟨by rfl, fun w hSw => by obtain ⟨q1, q2⟩ := hSw; go_simp⟩) hS ?_
  simp only [Act.put, List.setIfInBounds_toArray, List.set_cons_zero, List.set_cons_succ]
  refine wpAnyH_done (by kernel_rfl) ?_ _
  clear hS HS6
  have HSS := hide S7
  clear S7
  obtain ⟨gq, hgq⟩ : ∃ q, gro (V 1) bb = q := ⟨_, rfl⟩
  have hg1 : gq ≤ 1 := by rw [← hgq]; unfold gro; split <;> omega
  rw [hgq] at HGA
  rw [hgq]
  have HGQ := hide hgq
  clear hgq
  have HCE : Hid (∀ i, i < 60 → x7.cell? ⟨gm, 120 + i * 2, none⟩ = some (.string (vtD ((V 1).e i))) ∧ (vtD ((V 1).e i)).toList.isEmpty = ((V 1).e i).isNone) := fun i hi => by
    refine ⟨?_, ?_⟩
    · rw [← (unhide HMR).2 i hi, (unhide X7).2.1.cell]
      exact mC_d 2 M 1 i (by decide) hi
    · have h0 := unhide HEO i hi
      cases hx : (V 1).e i with
      | none =>
        show (⟨#[]⟩ : ByteArray).toList.isEmpty = true
        rw [ByteArray.toList_eq]
        rfl
      | some p =>
        obtain ⟨d, t⟩ := p
        have h1 := list_ne (h0 d t hx).1
        show d.toList.isEmpty = false
        rw [List.isEmpty_eq_false_iff]
        exact h1
  obtain ⟨md, hemp⟩ := unhide HCE bb hbb
  generalize hhn : ((V 1).e bb).isNone = hn at *
  have HHN := hide hhn
  clear hhn
  have hbb' : (bb : Int) < 60 := by omega
  have hbb0 : (0 : Int) ≤ (bb : Int) := by omega
  have e1 : (bb : Int).tdiv 3 = ((bb / 3 : Nat) : Int) := by
    rw [Int.tdiv_eq_ediv_of_nonneg (by omega)]; omega
  obtain ⟨bq, hbq⟩ : ∃ q, bb / 3 = q := ⟨_, rfl⟩
  rw [hbq] at e1
  have hq20 : bq < 20 := by omega
  generalize vtD ((V 1).e bb) = dd at *
  go_wp2
  have HBQ := hide hbq
  have HMD := hide (And.intro md hemp)
  clear hbq md hemp
  go_loopw [16, 17] (fun x i wr => ∃ t p : Nat, t ≤ 3 ∧ p = 3 * bq + t ∧ x = .bool (alN (V 1) bb t) ∧ i = .int .i64 (p : Int) ∧ wr = x7) (fun _ i _ => 60 - (intOf i).toNat)
  case atStart => exact ⟨0, 3 * bq, by omega, by omega, rfl, by congr 1; omega, rfl⟩
  case round =>
    obtain ⟨t, p, ht, hp, rfl, rfl, rfl⟩ := hrel
    by_cases ht3 : t < 3
    · have hp60 : p < 60 := by omega
      have hp60' : (p : Int) < 60 := by omega
      have hp0 : (0 : Int) ≤ (p : Int) := by omega
      have hlt : (p : Int) < (bq : Int) * 3 + 3 := by omega
      obtain ⟨mp, hep⟩ := unhide HCE p hp60
      have hsu := alN_succ (V 1) bb t
      rw [unhide HBQ, ← hp] at hsu
      have HPE := hide hp
      have HT3 := hide (And.intro ht ht3)
      clear hp ht ht3
      generalize alN (V 1) bb t = al at *
      cases al with
      | false =>
        clear hep mp
        go_wp2
        go_roundw
        case rel => exact ⟨t + 1, p + 1, by have := (unhide HT3).2; omega, by have := unhide HPE; omega, by rw [hsu]; rfl, by go_num, (by first | rfl | trivial)⟩
        case measure => simp [intOf]; omega
      | true =>
        by_cases hpb : p = bb
        · subst hpb
          clear hep mp
          go_wp2
          go_roundw
          case rel => exact ⟨t + 1, p + 1, by have := (unhide HT3).2; omega, by have := unhide HPE; omega, by rw [hsu, ups_same]; rfl, by go_num, (by first | rfl | trivial)⟩
          case measure => simp [intOf]; omega
        · have hpb' : ¬ ((p : Int) = (bb : Int)) := by omega
          have hdp : decide ((p : Int) = (bb : Int)) = false := decide_eq_false hpb'
          rw [ups_other _ _ hpb] at hsu
          generalize ((V 1).e p).isNone = pn at *
          generalize vtD ((V 1).e p) = pd at *
          go_wp2
          go_roundw
          case rel => exact ⟨t + 1, p + 1, by have := (unhide HT3).2; omega, by have := unhide HPE; omega, by rw [hsu]; simp [hpb'], by go_num, (by first | rfl | trivial)⟩
          case measure => simp [intOf]; omega
    · have hlt : ¬ (p : Int) < (bq : Int) * 3 + 3 := by omega
      obtain rfl : t = 3 := by omega
      obtain ⟨c0, c1, c2, c3⟩ := (unhide X7).1.c
      have HBE := hide (unhide X7).1.begin
      obtain ⟨al, hal⟩ : ∃ q, alN (V 1) bb 3 = q := ⟨_, rfl⟩
      rw [hal]
      have HAL := hide hal
      clear hal hp ht ht3 c0 c2 c3
      go_wp2_with fail
      refine (unhide HBE).mono ?_
      rintro e x8 ⟨rfl, hV8, O8⟩
      have hTM8 := (unhide X7).2.only O8 (unhide HXX).1 (unhide HXX).2.1
      have HS8 := hide (show x8.cell? ⟨gb, 3, none⟩ = some (.pointer (some ⟨sb, 0, none⟩)) ∧ x8.cell? ⟨gr, 1, none⟩ = some (.int .i64 1) from ⟨hV8.c.2.2.2, hTM8.2.1 1 (by decide)⟩)
      have X8 := hide (And.intro (hV8.below ((Below.refl _ x8).drew)) (hTM8.below ((Below.refl _ x8).drew)))
      have HEN := hide (fun W => entry_any (-5) ⟨by decide, by decide⟩ W)
      have HDS := hide (And.intro (eD_size (-5)) (eW_size (-5)))
      generalize eD (-5) = ed at *
      generalize eW (-5) = ew at *
      clear hV8 hTM8 O8 HBE c1 X7 HCE hlt
      go_wp2
      refine wp_region_held_drew (S := fun w' => w'.cell? ⟨gb, 3, none⟩ = some (.pointer (some ⟨sb, 0, none⟩)) ∧ w'.cell? ⟨gr, 1, none⟩ = some (.int .i64 1)) (by kernel_rfl) (unhide HS8) ?_
      intro hS
      generalize x8.drew = x8d at *
      refine wpAnyH_takeD 0 (some 114) (.pointer (some ⟨gb, 0, none⟩)) rfl rfl (by kernel_rfl) (by kernel_rfl) (by kernel_rfl) (fun _ _ _ h => h) (Or.inl ⟨by rfl, fun w hSw => by obtain ⟨q1, q2⟩ := hSw; go_simp⟩) hS ?_
      simp only [Act.put, List.setIfInBounds_toArray, List.set_cons_zero, List.set_cons_succ]
      refine wpAnyH_takeD 1 (some 115) (.pointer (some ⟨gb, 0, none⟩)) rfl rfl (by kernel_rfl) (by kernel_rfl) (by kernel_rfl) (fun _ _ _ h => h) (Or.inl ⟨by rfl, fun w hSw => by obtain ⟨q1, q2⟩ := hSw; go_simp⟩) hS ?_
      simp only [Act.put, List.setIfInBounds_toArray, List.set_cons_zero, List.set_cons_succ]
      refine wpAnyH_takeD 2 (some 116) (.pointer (some ⟨gb, 3, none⟩)) rfl rfl (by kernel_rfl) (by kernel_rfl) (by kernel_rfl) (fun _ _ _ h => h) (Or.inl ⟨by rfl, fun w hSw => by obtain ⟨q1, q2⟩ := hSw; go_simp⟩) hS ?_
      simp only [Act.put, List.setIfInBounds_toArray, List.set_cons_zero, List.set_cons_succ]
      refine wpAnyH_takeD 3 (some 117) (.pointer (some ⟨sb, 0, none⟩)) rfl rfl (by kernel_rfl) (by kernel_rfl) (by kernel_rfl) (fun _ _ _ h => h) (Or.inl ⟨by rfl, fun w hSw => by obtain ⟨q1, q2⟩ := hSw; go_simp⟩) hS ?_
      simp only [Act.put, List.setIfInBounds_toArray, List.set_cons_zero, List.set_cons_succ]
      refine wpAnyH_takeD 4 (some 118) (.slice (some ⟨gr, 0, none⟩) 2 cr) rfl rfl (by kernel_rfl) (by kernel_rfl) (by kernel_rfl) (fun _ _ _ h => h) (Or.inl ⟨by rfl, fun w hSw => by obtain ⟨q1, q2⟩ := hSw; go_simp⟩) hS ?_
      simp only [Act.put, List.setIfInBounds_toArray, List.set_cons_zero, List.set_cons_succ]
      refine wpAnyH_takeD 5 (some 119) (.pointer (some ⟨gr, 1, none⟩)) rfl rfl (by kernel_rfl) (by kernel_rfl) (by kernel_rfl) (fun _ _ _ h => h) (Or.inl ⟨by rfl, fun w hSw => by obtain ⟨q1, q2⟩ := hSw; go_simp⟩) hS ?_
      simp only [Act.put, List.setIfInBounds_toArray, List.set_cons_zero, List.set_cons_succ]
      refine wpAnyH_takeD 6 (some 120) (.int .i64 1) rfl rfl (by kernel_rfl) (by kernel_rfl) (by kernel_rfl) (fun _ _ _ h => h) (Or.inl ⟨by rfl, fun w hSw => by obtain ⟨q1, q2⟩ := hSw; go_simp⟩) hS ?_
      simp only [Act.put, List.setIfInBounds_toArray, List.set_cons_zero, List.set_cons_succ]
      refine wpAnyH_takeD 7 (some 121) (.int .i64 (bb : Int)) rfl rfl (by kernel_rfl) (by kernel_rfl) (by kernel_rfl) (fun _ _ _ h => h) (Or.inl ⟨by rfl, fun w hSw => by obtain ⟨q1, q2⟩ := hSw; go_simp⟩) hS ?_
      simp only [Act.put, List.setIfInBounds_toArray, List.set_cons_zero, List.set_cons_succ]
      refine wpAnyH_ready (rs := [8]) (by kernel_rfl) (by simp) ?_
      refine AllReadyH.cons rfl (fun K hK => ?_) AllReadyH.nil
      simp only [List.getElem_toArray, List.getElem_cons_succ, List.getElem_cons_zero]
      go_simp
      refine (unhide HEN _).mono ?_
      rintro e x9 ⟨rfl, hb9⟩
      have X9 := hide (And.intro ((unhide X8).1.below hb9) ((unhide X8).2.below hb9))
      have S9 : (fun w' => w'.cell? ⟨gb, 3, none⟩ = some (.pointer (some ⟨sb, 0, none⟩)) ∧ w'.cell? ⟨gr, 1, none⟩ = some (.int .i64 1)) x9 := ⟨(unhide X9).1.c.2.2.2, (unhide X9).2.2.1 1 (by decide)⟩
      clear hb9 X8
      refine hK.out _ _ S9 (fun hS => ?_)
      clear hK K
      refine wpAnyH_ready (rs := [9]) (by kernel_rfl) (by simp) ?_
      refine AllReadyH.cons rfl (fun K hK => ?_) AllReadyH.nil
      simp only [List.getElem_toArray, List.getElem_cons_succ, List.getElem_cons_zero]
      go_simp
      have HSE := (unhide X9).1.set (by decide) 1 (by decide) bb hbb ed ew (unhide HDS).1 (unhide HDS).2 (fun _ => (unhide X9).1.vs.elim (fun _ q => q.free (by decide)))
      rw [(unhide HMR).1, unhide HGQ, unhide HC88] at HSE
      simp only [Int.cast_ofNat_Int] at HSE
      refine HSE.mono ?_
      rintro e x10 ⟨rfl, ⟨V2, T2, hV10, hP, hc2⟩, O10⟩
      have X10 := hide (And.intro hV10 ((unhide X9).2.only O10 (unhide HXX).1 (unhide HXX).2.1))
      have HP := hide (And.intro hP hc2)
      have S10 : (fun w' => w'.cell? ⟨gb, 3, none⟩ = some (.pointer (some ⟨sb, 0, none⟩)) ∧ w'.cell? ⟨gr, 1, none⟩ = some (.int .i64 1)) x10 := ⟨(unhide X10).1.c.2.2.2, (unhide X10).2.2.1 1 (by decide)⟩
      clear hV10 hP hc2 O10 HSE X9 S9
      refine hK.out _ _ S10 (fun hS => ?_)
      clear hK K
      refine wpAnyH_takeD 10 (some 113) (.tuple #[.int .i64 (gq : Int), .int .i64 0]) rfl rfl (by kernel_rfl) (by kernel_rfl) (by kernel_rfl) (fun _ _ _ h => h) (Or.inl ⟨by rfl, fun w hSw => by obtain ⟨q1, q2⟩ := hSw; go_simp⟩) hS ?_
      simp only [Act.put, List.setIfInBounds_toArray, List.set_cons_zero, List.set_cons_succ]
      refine wpAnyH_takeD 11 (some 124) (.int .i64 (gq : Int)) rfl rfl (by kernel_rfl) (by kernel_rfl) (by kernel_rfl) (fun _ _ _ h => h) (Or.inl ⟨by rfl, fun w hSw => by obtain ⟨q1, q2⟩ := hSw; go_simp⟩) hS ?_
      simp only [Act.put, List.setIfInBounds_toArray, List.set_cons_zero, List.set_cons_succ]
      refine wpAnyH_takeD 12 (some 125) (.int .i64 0) rfl rfl (by kernel_rfl) (by kernel_rfl) (by kernel_rfl) (fun _ _ _ h => h) (Or.inl ⟨by rfl, fun w hSw => by obtain ⟨q1, q2⟩ := hSw; go_simp⟩) hS ?_
      simp only [Act.put, List.setIfInBounds_toArray, List.set_cons_zero, List.set_cons_succ]
      refine wpAnyH_takeD 13 (some 19) (.int .i64 (gq : Int)) rfl rfl (by kernel_rfl) (by kernel_rfl) (by kernel_rfl) (fun _ _ _ h => h) (Or.inl ⟨by rfl, fun w hSw => by obtain ⟨q1, q2⟩ := hSw; go_simp⟩) hS ?_
      simp only [Act.put, List.setIfInBounds_toArray, List.set_cons_zero, List.set_cons_succ]
      refine wpAnyH_takeD 14 (some 20) (.int .i64 0) rfl rfl (by kernel_rfl) (by kernel_rfl) (by kernel_rfl) (fun _ _ _ h => h) (Or.inl ⟨by rfl, fun w hSw => by obtain ⟨q1, q2⟩ := hSw; go_simp⟩) hS ?_
      simp only [Act.put, List.setIfInBounds_toArray, List.set_cons_zero, List.set_cons_succ]
      refine wpAnyH_done (by kernel_rfl) ?_ _
      clear hS HS8 S10 HEN HDS
      obtain ⟨c0, c1, c2, c3⟩ := (unhide X10).1.c
      have HCN := hide (unhide X10).1.count
      have HR2 := hide (show (V2 1).r = 1 from ((unhide HP).1.1 1).trans (unhide HMR).1)
      have HSH := hide (shr_alone (unhide HP).1)
      rw [unhide HAL] at HSH
      have HSM := hide (show ((V2 1).e bb).isSome = true from by rw [(unhide HP).1.2 1 bb, if_pos ⟨rfl, rfl⟩]; rfl)
      have hc2 := (unhide HP).2
      obtain ⟨m2, hm2⟩ : ∃ q, (lst T2 88).length = q := ⟨_, rfl⟩
      rw [hm2] at HCN hc2
      have HM2 := hide hm2
      clear c0 c1 c3 HP hm2
      go_wp2_with fail
      refine (unhide HCN).mono ?_
      rintro e x11 ⟨rfl, hV11, O11⟩
      have hTM11 := (unhide X10).2.only O11 (unhide HXX).1 (unhide HXX).2.1
      have HS11 := hide (show x11.cell? ⟨gb, 3, none⟩ = some (.pointer (some ⟨sb, 0, none⟩)) ∧ x11.cell? ⟨gr, 1, none⟩ = some (.int .i64 1) from ⟨hV11.c.2.2.2, hTM11.2.1 1 (by decide)⟩)
      have X11 := hide (And.intro (hV11.below ((Below.refl _ x11).drew)) (hTM11.below ((Below.refl _ x11).drew)))
      obtain ⟨cq, hcq⟩ : ∃ q, shr (V2 1) bb = q := ⟨_, rfl⟩
      rw [hcq] at HSH
      have HCQ := hide hcq
      clear hV11 hTM11 O11 HCN c2 X10 hcq
      go_wp2
      refine wp_region_held_drew (S := fun w' => w'.cell? ⟨gb, 3, none⟩ = some (.pointer (some ⟨sb, 0, none⟩)) ∧ w'.cell? ⟨gr, 1, none⟩ = some (.int .i64 1)) (by kernel_rfl) (unhide HS11) ?_
      intro hS
      generalize x11.drew = x11d at *
      refine wpAnyH_takeD 0 (some 135) (.pointer (some ⟨gb, 0, none⟩)) rfl rfl (by kernel_rfl) (by kernel_rfl) (by kernel_rfl) (fun _ _ _ h => h) (Or.inl ⟨by rfl, fun w hSw => by obtain ⟨q1, q2⟩ := hSw; go_simp⟩) hS ?_
      simp only [Act.put, List.setIfInBounds_toArray, List.set_cons_zero, List.set_cons_succ]
      refine wpAnyH_takeD 1 (some 136) (.pointer (some ⟨gb, 0, none⟩)) rfl rfl (by kernel_rfl) (by kernel_rfl) (by kernel_rfl) (fun _ _ _ h => h) (Or.inl ⟨by rfl, fun w hSw => by obtain ⟨q1, q2⟩ := hSw; go_simp⟩) hS ?_
      simp only [Act.put, List.setIfInBounds_toArray, List.set_cons_zero, List.set_cons_succ]
      refine wpAnyH_takeD 2 (some 137) (.pointer (some ⟨gb, 3, none⟩)) rfl rfl (by kernel_rfl) (by kernel_rfl) (by kernel_rfl) (fun _ _ _ h => h) (Or.inl ⟨by rfl, fun w hSw => by obtain ⟨q1, q2⟩ := hSw; go_simp⟩) hS ?_
      simp only [Act.put, List.setIfInBounds_toArray, List.set_cons_zero, List.set_cons_succ]
      refine wpAnyH_takeD 3 (some 138) (.pointer (some ⟨sb, 0, none⟩)) rfl rfl (by kernel_rfl) (by kernel_rfl) (by kernel_rfl) (fun _ _ _ h => h) (Or.inl ⟨by rfl, fun w hSw => by obtain ⟨q1, q2⟩ := hSw; go_simp⟩) hS ?_
      simp only [Act.put, List.setIfInBounds_toArray, List.set_cons_zero, List.set_cons_succ]
      refine wpAnyH_takeD 4 (some 139) (.slice (some ⟨gr, 0, none⟩) 2 cr) rfl rfl (by kernel_rfl) (by kernel_rfl) (by kernel_rfl) (fun _ _ _ h => h) (Or.inl ⟨by rfl, fun w hSw => by obtain ⟨q1, q2⟩ := hSw; go_simp⟩) hS ?_
      simp only [Act.put, List.setIfInBounds_toArray, List.set_cons_zero, List.set_cons_succ]
      refine wpAnyH_takeD 5 (some 140) (.pointer (some ⟨gr, 1, none⟩)) rfl rfl (by kernel_rfl) (by kernel_rfl) (by kernel_rfl) (fun _ _ _ h => h) (Or.inl ⟨by rfl, fun w hSw => by obtain ⟨q1, q2⟩ := hSw; go_simp⟩) hS ?_
      simp only [Act.put, List.setIfInBounds_toArray, List.set_cons_zero, List.set_cons_succ]
      refine wpAnyH_takeD 6 (some 141) (.int .i64 1) rfl rfl (by kernel_rfl) (by kernel_rfl) (by kernel_rfl) (fun _ _ _ h => h) (Or.inl ⟨by rfl, fun w hSw => by obtain ⟨q1, q2⟩ := hSw; go_simp⟩) hS ?_
      simp only [Act.put, List.setIfInBounds_toArray, List.set_cons_zero, List.set_cons_succ]
      refine wpAnyH_takeD 7 (some 142) (.int .i64 (bb : Int)) rfl rfl (by kernel_rfl) (by kernel_rfl) (by kernel_rfl) (fun _ _ _ h => h) (Or.inl ⟨by rfl, fun w hSw => by obtain ⟨q1, q2⟩ := hSw; go_simp⟩) hS ?_
      simp only [Act.put, List.setIfInBounds_toArray, List.set_cons_zero, List.set_cons_succ]
      refine wpAnyH_ready (rs := [8]) (by kernel_rfl) (by simp) ?_
      refine AllReadyH.cons rfl (fun K hK => ?_) AllReadyH.nil
      simp only [List.getElem_toArray, List.getElem_cons_succ, List.getElem_cons_zero]
      go_simp
      have HSE := (unhide X11).1.clear (by decide) 1 (by decide) bb hbb (unhide HSM)
      rw [unhide HR2, unhide HCQ, unhide HM2] at HSE
      simp only [Int.cast_ofNat_Int] at HSE
      refine HSE.mono ?_
      rintro e x12 ⟨rfl, ⟨V3, T3, hV12, -, hc3⟩, O12⟩
      have X12 := hide (And.intro hV12 ((unhide X11).2.only O12 (unhide HXX).1 (unhide HXX).2.1))
      have S12 : (fun w' => w'.cell? ⟨gb, 3, none⟩ = some (.pointer (some ⟨sb, 0, none⟩)) ∧ w'.cell? ⟨gr, 1, none⟩ = some (.int .i64 1)) x12 := ⟨(unhide X12).1.c.2.2.2, (unhide X12).2.2.1 1 (by decide)⟩
      clear hV12 O12 HSE X11
      refine hK.out _ _ S12 (fun hS => ?_)
      clear hK K
      refine wpAnyH_takeD 9 (some 134) (.tuple #[.int .i64 (cq : Int), .int .i64 0]) rfl rfl (by kernel_rfl) (by kernel_rfl) (by kernel_rfl) (fun _ _ _ h => h) (Or.inl ⟨by rfl, fun w hSw => by obtain ⟨q1, q2⟩ := hSw; go_simp⟩) hS ?_
      simp only [Act.put, List.setIfInBounds_toArray, List.set_cons_zero, List.set_cons_succ]
      refine wpAnyH_takeD 10 (some 144) (.int .i64 (cq : Int)) rfl rfl (by kernel_rfl) (by kernel_rfl) (by kernel_rfl) (fun _ _ _ h => h) (Or.inl ⟨by rfl, fun w hSw => by obtain ⟨q1, q2⟩ := hSw; go_simp⟩) hS ?_
      simp only [Act.put, List.setIfInBounds_toArray, List.set_cons_zero, List.set_cons_succ]
      refine wpAnyH_takeD 11 (some 145) (.int .i64 0) rfl rfl (by kernel_rfl) (by kernel_rfl) (by kernel_rfl) (fun _ _ _ h => h) (Or.inl ⟨by rfl, fun w hSw => by obtain ⟨q1, q2⟩ := hSw; go_simp⟩) hS ?_
      simp only [Act.put, List.setIfInBounds_toArray, List.set_cons_zero, List.set_cons_succ]
      refine wpAnyH_takeD 12 (some 23) (.int .i64 (cq : Int)) rfl rfl (by kernel_rfl) (by kernel_rfl) (by kernel_rfl) (fun _ _ _ h => h) (Or.inl ⟨by rfl, fun w hSw => by obtain ⟨q1, q2⟩ := hSw; go_simp⟩) hS ?_
      simp only [Act.put, List.setIfInBounds_toArray, List.set_cons_zero, List.set_cons_succ]
      refine wpAnyH_takeD 13 (some 24) (.int .i64 0) rfl rfl (by kernel_rfl) (by kernel_rfl) (by kernel_rfl) (fun _ _ _ h => h) (Or.inl ⟨by rfl, fun w hSw => by obtain ⟨q1, q2⟩ := hSw; go_simp⟩) hS ?_
      simp only [Act.put, List.setIfInBounds_toArray, List.set_cons_zero, List.set_cons_succ]
      refine wpAnyH_done (by kernel_rfl) ?_ _
      clear hS HS11 S12
      obtain ⟨c0, c1, c2, c3⟩ := (unhide X12).1.c
      have HCN := hide (unhide X12).1.count
      obtain ⟨o3, ho3⟩ : ∃ q, (lst T3 88).length = q := ⟨_, rfl⟩
      rw [ho3] at HCN hc3
      clear c0 c1 c3 ho3
      go_wp2_with fail
      refine (unhide HCN).mono ?_
      rintro e x13 ⟨rfl, hV13, O13⟩
      have hTM13 := (unhide X12).2.only O13 (unhide HXX).1 (unhide HXX).2.1
      obtain ⟨c0, c1, c2, c3⟩ := hV13.c
      have HAB := hide hV13.abort
      have X13 := hide hTM13
      clear hV13 hTM13 O13 HCN X12 c0 c2 c3
      go_wp2_with fail
      refine (unhide HAB).mono ?_
      rintro e x14 ⟨rfl, hV14, O14⟩
      have hTM14 := (unhide X13).only O14 (unhide HXX).1 (unhide HXX).2.1
      have HS14 := hide (show x14.cell? ⟨gb, 3, none⟩ = some (.pointer (some ⟨sb, 0, none⟩)) ∧ x14.cell? ⟨gr, 1, none⟩ = some (.int .i64 1) from ⟨hV14.c.2.2.2, hTM14.2.1 1 (by decide)⟩)
      have X14 := hide (And.intro (hV14.below ((Below.refl _ x14).drew)) (hTM14.below ((Below.refl _ x14).drew)))
      clear hV14 hTM14 O14 HAB X13 c1
      obtain ⟨R, hR⟩ : ∃ R : Nat → World → Prop, R = fun gl wx => Blk wx gl #[.string (vtD ((V 1).e bb)), .string (vtW ((V 1).e bb))] 41 ∧ Blk wx gm (mC 2 M) 42 ∧ Below w.heap.size w wx := ⟨_, rfl⟩
      have HR := hide hR
      have HR' := hide (show ∀ gl wx, (Blk wx gl #[.string (vtD ((V 1).e bb)), .string (vtW ((V 1).e bb))] 41 ∧ Blk wx gm (mC 2 M) 42 ∧ Below w.heap.size w wx) → R gl wx from fun gl wx q => by rw [hR]; exact q)
      have HGT := hide (fun (Y : Nat → Prop) W L A hn (G : VSt w W b jb pb mb sb gb Y 88 3 0 false L A hn 2 V T 2 V T) => G.get 1 (by decide) bb hbb)
      rw [(unhide HMR).1] at HGT
      simp only [Int.cast_ofNat_Int] at HGT
      obtain ⟨ge, hge⟩ : ∃ q, gErr ((V 1).e bb) = q := ⟨_, rfl⟩
      rw [hge] at HGT
      have HGE := hide hge
      have HVD := hide (show vtD ((V 1).e bb) = vtD (M 1 bb) ∧ vtW ((V 1).e bb) = vtW (M 1 bb) from by rw [(unhide HMR).2 bb hbb]; exact ⟨rfl, rfl⟩)
      generalize vtD ((V 1).e bb) = od at *
      generalize vtW ((V 1).e bb) = ot at *
      clear hR hge
      go_wp2
      go_cut [28, 29] (fun q e wx => e = .int .i64 ge ∧ ∃ gl, q = .pointer (some ⟨gl, 0, none⟩) ∧ R gl wx)
      case first =>
        refine wp_region_held_drew (S := fun w' => w'.cell? ⟨gb, 3, none⟩ = some (.pointer (some ⟨sb, 0, none⟩)) ∧ w'.cell? ⟨gr, 1, none⟩ = some (.int .i64 1)) (by kernel_rfl) (unhide HS14) ?_
        intro hS
        generalize x14.drew = x15 at *
        refine wpAnyH_takeD 0 (some 160) (.pointer (some ⟨gb, 0, none⟩)) rfl rfl (by kernel_rfl) (by kernel_rfl) (by kernel_rfl) (fun _ _ _ h => h) (Or.inl ⟨by rfl, fun w hSw => by obtain ⟨q1, q2⟩ := hSw; go_simp⟩) hS ?_
        simp only [Act.put, List.setIfInBounds_toArray, List.set_cons_zero, List.set_cons_succ]
        refine wpAnyH_takeD 1 (some 161) (.pointer (some ⟨gb, 0, none⟩)) rfl rfl (by kernel_rfl) (by kernel_rfl) (by kernel_rfl) (fun _ _ _ h => h) (Or.inl ⟨by rfl, fun w hSw => by obtain ⟨q1, q2⟩ := hSw; go_simp⟩) hS ?_
        simp only [Act.put, List.setIfInBounds_toArray, List.set_cons_zero, List.set_cons_succ]
        refine wpAnyH_takeD 2 (some 162) (.pointer (some ⟨gb, 3, none⟩)) rfl rfl (by kernel_rfl) (by kernel_rfl) (by kernel_rfl) (fun _ _ _ h => h) (Or.inl ⟨by rfl, fun w hSw => by obtain ⟨q1, q2⟩ := hSw; go_simp⟩) hS ?_
        simp only [Act.put, List.setIfInBounds_toArray, List.set_cons_zero, List.set_cons_succ]
        refine wpAnyH_takeD 3 (some 163) (.pointer (some ⟨sb, 0, none⟩)) rfl rfl (by kernel_rfl) (by kernel_rfl) (by kernel_rfl) (fun _ _ _ h => h) (Or.inl ⟨by rfl, fun w hSw => by obtain ⟨q1, q2⟩ := hSw; go_simp⟩) hS ?_
        simp only [Act.put, List.setIfInBounds_toArray, List.set_cons_zero, List.set_cons_succ]
        refine wpAnyH_takeD 4 (some 164) (.slice (some ⟨gr, 0, none⟩) 2 cr) rfl rfl (by kernel_rfl) (by kernel_rfl) (by kernel_rfl) (fun _ _ _ h => h) (Or.inl ⟨by rfl, fun w hSw => by obtain ⟨q1, q2⟩ := hSw; go_simp⟩) hS ?_
        simp only [Act.put, List.setIfInBounds_toArray, List.set_cons_zero, List.set_cons_succ]
        refine wpAnyH_takeD 5 (some 165) (.pointer (some ⟨gr, 1, none⟩)) rfl rfl (by kernel_rfl) (by kernel_rfl) (by kernel_rfl) (fun _ _ _ h => h) (Or.inl ⟨by rfl, fun w hSw => by obtain ⟨q1, q2⟩ := hSw; go_simp⟩) hS ?_
        simp only [Act.put, List.setIfInBounds_toArray, List.set_cons_zero, List.set_cons_succ]
        refine wpAnyH_takeD 6 (some 166) (.int .i64 1) rfl rfl (by kernel_rfl) (by kernel_rfl) (by kernel_rfl) (fun _ _ _ h => h) (Or.inl ⟨by rfl, fun w hSw => by obtain ⟨q1, q2⟩ := hSw; go_simp⟩) hS ?_
        simp only [Act.put, List.setIfInBounds_toArray, List.set_cons_zero, List.set_cons_succ]
        refine wpAnyH_takeD 7 (some 167) (.int .i64 (bb : Int)) rfl rfl (by kernel_rfl) (by kernel_rfl) (by kernel_rfl) (fun _ _ _ h => h) (Or.inl ⟨by rfl, fun w hSw => by obtain ⟨q1, q2⟩ := hSw; go_simp⟩) hS ?_
        simp only [Act.put, List.setIfInBounds_toArray, List.set_cons_zero, List.set_cons_succ]
        refine wpAnyH_ready (rs := [8, 12]) (by kernel_rfl) (by simp) ?_
        refine AllReadyH.cons rfl (fun K hK => ?_) (AllReadyH.cons rfl (fun K hK => ?_) AllReadyH.nil)
        all_goals simp only [List.getElem_toArray, List.getElem_cons_succ, List.getElem_cons_zero]
        · go_simp
          refine (unhide HGT _ x15 _ _ _ (unhide X14).1).mono ?_
          rintro e y1 ⟨rfl, hVy, Oy⟩
          have hTy := (unhide X14).2.only Oy (unhide HXX).1 (unhide HXX).2.1
          have SY1 : (fun w' => w'.cell? ⟨gb, 3, none⟩ = some (.pointer (some ⟨sb, 0, none⟩)) ∧ w'.cell? ⟨gr, 1, none⟩ = some (.int .i64 1)) y1 := ⟨hVy.c.2.2.2, hTy.2.1 1 (by decide)⟩
          refine hK.out _ _ SY1 (fun hS => ?_)
          clear hK K Oy
          refine wpAnyH_takeD 9 (some 159) (.tuple #[.agg #[.string od, .string ot], .int .i64 ge]) rfl rfl (by kernel_rfl) (by kernel_rfl) (by kernel_rfl) (fun _ _ _ h => h) (Or.inl ⟨by rfl, fun w hSw => by obtain ⟨q1, q2⟩ := hSw; go_simp⟩) hS ?_
          simp only [Act.put, List.setIfInBounds_toArray, List.set_cons_zero, List.set_cons_succ]
          refine wpAnyH_takeD 10 (some 169) (.agg #[.string od, .string ot]) rfl rfl (by kernel_rfl) (by kernel_rfl) (by kernel_rfl) (fun _ _ _ h => h) (Or.inl ⟨by rfl, fun w hSw => by obtain ⟨q1, q2⟩ := hSw; go_simp⟩) hS ?_
          simp only [Act.put, List.setIfInBounds_toArray, List.set_cons_zero, List.set_cons_succ]
          refine wpAnyH_takeD 11 (some 170) (.int .i64 ge) rfl rfl (by kernel_rfl) (by kernel_rfl) (by kernel_rfl) (fun _ _ _ h => h) (Or.inl ⟨by rfl, fun w hSw => by obtain ⟨q1, q2⟩ := hSw; go_simp⟩) hS ?_
          simp only [Act.put, List.setIfInBounds_toArray, List.set_cons_zero, List.set_cons_succ]
          refine wpAnyH_ready (rs := [12]) (by kernel_rfl) (by simp) ?_
          refine AllReadyH.cons rfl (fun K hK => ?_) AllReadyH.nil
          simp only [List.getElem_toArray, List.getElem_cons_succ, List.getElem_cons_zero]
          go_simp
          obtain ⟨gl, hgle⟩ : ∃ q, y1.heap.size = q := ⟨_, rfl⟩
          obtain ⟨xa, hxa⟩ : ∃ q, y1.alloc (.cells #[.string ⟨#[]⟩, .string ⟨#[]⟩] 41) = q := ⟨_, rfl⟩
          rw [hgle, hxa]
          have hba : Below y1.heap.size y1 xa := by rw [← hxa]; exact (Below.refl _ y1).alloc (Nat.le_refl _) _
          have BG : Blk xa gl #[.string ⟨#[]⟩, .string ⟨#[]⟩] 41 := by rw [← hxa, ← hgle]; exact Blk.new y1 _ _
          have BM := hTy.1.below hba hTy.1.lt
          have BB := hVy.bel.trans (hba.mono hVy.bel.size)
          have SG : (fun w' => w'.cell? ⟨gb, 3, none⟩ = some (.pointer (some ⟨sb, 0, none⟩)) ∧ w'.cell? ⟨gr, 1, none⟩ = some (.int .i64 1)) xa := ⟨(hVy.below hba).c.2.2.2, (hTy.below hba).2.1 1 (by decide)⟩
          have hgn : gl ≠ gm := by have := hTy.1.lt; omega
          have hgb : gl ≠ gb := by have := hVy.lts.2.2; omega
          have hgr : gl ≠ gr := by have := World.block_lt_of_cell? y1 _ SY1.2; show gl ≠ gr; have h2 : gr < y1.heap.size := this; omega
          have hgl : w.heap.size ≤ gl := by rw [← hgle]; exact hVy.bel.size
          refine hK.out _ _ SG (fun hS => ?_)
          clear hK K hba hVy hTy SY1 hxa
          refine wpAnyH_ready (rs := [13]) (by kernel_rfl) (by simp) ?_
          refine AllReadyH.cons rfl (fun K hK => ?_) AllReadyH.nil
          simp only [List.getElem_toArray, List.getElem_cons_succ, List.getElem_cons_zero]
          have s0 : xa.cell? ⟨gl, 0, none⟩ = some (.string ⟨#[]⟩) := BG.cell 0
          have s1 : xa.cell? ⟨gl, 1, none⟩ = some (.string ⟨#[]⟩) := BG.cell 1
          have f0 := BG.frozen 0
          have f1 := BG.frozen 1
          go_simp
          have B9 : Blk ((xa.setCell ⟨gl, 0, none⟩ (.string od)).setCell ⟨gl, 1, none⟩ (.string ot)) gl #[.string od, .string ot] 41 := (BG.set 0 (.string od)).set 1 (.string ot)
          have O9 := ((Only.refl (fun x => x = gl) xa).setCell ⟨gl, 0, none⟩ (.string od) (fun _ => rfl)).setCell ⟨gl, 1, none⟩ (.string ot) (fun _ => rfl)
          have HRR := hide (unhide HR' gl _ ⟨B9, BM.only O9 (fun q => hgn q.symm), (BB.setCell (p := ⟨gl, 0, none⟩) hgl (.string od)).setCell (p := ⟨gl, 1, none⟩) hgl (.string ot)⟩)
          refine hK.out _ _ ⟨only_cell O9 SG.1 (fun q => hgb q.symm), only_cell O9 SG.2 (fun q => hgr q.symm)⟩ (fun hS => ?_)
          clear hK K s0 s1 f0 f1 B9 O9
          refine wpAnyH_takeD 14 (some 29) (.int .i64 ge) rfl rfl (by kernel_rfl) (by kernel_rfl) (by kernel_rfl) (fun _ _ _ h => h) (Or.inl ⟨by rfl, fun w hSw => by obtain ⟨q1, q2⟩ := hSw; go_simp⟩) hS ?_
          simp only [Act.put, List.setIfInBounds_toArray, List.set_cons_zero, List.set_cons_succ]
          refine wpAnyH_done (by kernel_rfl) ?_ _
          clear hS
          go_wp2_with fail
          go_meet
          exact ⟨rfl, gl, rfl, unhide HRR⟩
        · go_simp
          obtain ⟨gl, hgle⟩ : ∃ q, x15.heap.size = q := ⟨_, rfl⟩
          obtain ⟨xa, hxa⟩ : ∃ q, x15.alloc (.cells #[.string ⟨#[]⟩, .string ⟨#[]⟩] 41) = q := ⟨_, rfl⟩
          rw [hgle, hxa]
          have hba : Below x15.heap.size x15 xa := by rw [← hxa]; exact (Below.refl _ x15).alloc (Nat.le_refl _) _
          have BA : Blk xa gl #[.string ⟨#[]⟩, .string ⟨#[]⟩] 41 := by rw [← hxa, ← hgle]; exact Blk.new x15 _ _
          have hgn : gl ≠ gm := by have := (unhide X14).2.1.lt; omega
          have hgb : gl ≠ gb := by have := (unhide X14).1.lts.2.2; omega
          have hgr : gl ≠ gr := by have := World.block_lt_of_cell? x15 _ hS.2; have h2 : gr < x15.heap.size := this; omega
          have hgl : w.heap.size ≤ gl := by rw [← hgle]; exact (unhide X14).1.bel.size
          have hVa := (unhide X14).1.more (Y := fun x => Z x ∨ x = gl) hba (fun x q => q.imp_right (fun r => ⟨by omega, by rw [r]; exact BA.lt⟩))
          have hTa := (unhide X14).2.below hba
          refine hK.out _ _ ⟨hVa.c.2.2.2, hTa.2.1 1 (by decide)⟩ (fun hS => ?_)
          clear hK K hba hxa
          refine wpAnyH_ready (rs := [8]) (by kernel_rfl) (by simp) ?_
          refine AllReadyH.cons rfl (fun K hK => ?_) AllReadyH.nil
          simp only [List.getElem_toArray, List.getElem_cons_succ, List.getElem_cons_zero]
          go_simp
          refine (unhide HGT _ xa _ _ _ hVa).mono ?_
          rintro e y1 ⟨rfl, hVy, Oy⟩
          have hTy := hTa.only (Oy.mono (fun _ _ q r => q (.inl r))) (unhide HXX).1 (unhide HXX).2.1
          have BG := BA.only Oy (fun q => q (.inr rfl))
          have BM := hTy.1
          have BB := hVy.bel
          have SG : (fun w' => w'.cell? ⟨gb, 3, none⟩ = some (.pointer (some ⟨sb, 0, none⟩)) ∧ w'.cell? ⟨gr, 1, none⟩ = some (.int .i64 1)) y1 := ⟨hVy.c.2.2.2, hTy.2.1 1 (by decide)⟩
          refine hK.out _ _ SG (fun hS => ?_)
          clear hK K Oy hTa hVa BA hVy hTy
          refine wpAnyH_takeD 9 (some 159) (.tuple #[.agg #[.string od, .string ot], .int .i64 ge]) rfl rfl (by kernel_rfl) (by kernel_rfl) (by kernel_rfl) (fun _ _ _ h => h) (Or.inl ⟨by rfl, fun w hSw => by obtain ⟨q1, q2⟩ := hSw; go_simp⟩) hS ?_
          simp only [Act.put, List.setIfInBounds_toArray, List.set_cons_zero, List.set_cons_succ]
          refine wpAnyH_takeD 10 (some 169) (.agg #[.string od, .string ot]) rfl rfl (by kernel_rfl) (by kernel_rfl) (by kernel_rfl) (fun _ _ _ h => h) (Or.inl ⟨by rfl, fun w hSw => by obtain ⟨q1, q2⟩ := hSw; go_simp⟩) hS ?_
          simp only [Act.put, List.setIfInBounds_toArray, List.set_cons_zero, List.set_cons_succ]
          refine wpAnyH_takeD 11 (some 170) (.int .i64 ge) rfl rfl (by kernel_rfl) (by kernel_rfl) (by kernel_rfl) (fun _ _ _ h => h) (Or.inl ⟨by rfl, fun w hSw => by obtain ⟨q1, q2⟩ := hSw; go_simp⟩) hS ?_
          simp only [Act.put, List.setIfInBounds_toArray, List.set_cons_zero, List.set_cons_succ]
          refine wpAnyH_ready (rs := [13]) (by kernel_rfl) (by simp) ?_
          refine AllReadyH.cons rfl (fun K hK => ?_) AllReadyH.nil
          simp only [List.getElem_toArray, List.getElem_cons_succ, List.getElem_cons_zero]
          have s0 : y1.cell? ⟨gl, 0, none⟩ = some (.string ⟨#[]⟩) := BG.cell 0
          have s1 : y1.cell? ⟨gl, 1, none⟩ = some (.string ⟨#[]⟩) := BG.cell 1
          have f0 := BG.frozen 0
          have f1 := BG.frozen 1
          go_simp
          have B9 : Blk ((y1.setCell ⟨gl, 0, none⟩ (.string od)).setCell ⟨gl, 1, none⟩ (.string ot)) gl #[.string od, .string ot] 41 := (BG.set 0 (.string od)).set 1 (.string ot)
          have O9 := ((Only.refl (fun x => x = gl) y1).setCell ⟨gl, 0, none⟩ (.string od) (fun _ => rfl)).setCell ⟨gl, 1, none⟩ (.string ot) (fun _ => rfl)
          have HRR := hide (unhide HR' gl _ ⟨B9, BM.only O9 (fun q => hgn q.symm), (BB.setCell (p := ⟨gl, 0, none⟩) hgl (.string od)).setCell (p := ⟨gl, 1, none⟩) hgl (.string ot)⟩)
          refine hK.out _ _ ⟨only_cell O9 SG.1 (fun q => hgb q.symm), only_cell O9 SG.2 (fun q => hgr q.symm)⟩ (fun hS => ?_)
          clear hK K s0 s1 f0 f1 B9 O9
          refine wpAnyH_takeD 14 (some 29) (.int .i64 ge) rfl rfl (by kernel_rfl) (by kernel_rfl) (by kernel_rfl) (fun _ _ _ h => h) (Or.inl ⟨by rfl, fun w hSw => by obtain ⟨q1, q2⟩ := hSw; go_simp⟩) hS ?_
          simp only [Act.put, List.setIfInBounds_toArray, List.set_cons_zero, List.set_cons_succ]
          refine wpAnyH_done (by kernel_rfl) ?_ _
          clear hS
          go_wp2_with fail
          go_meet
          exact ⟨rfl, gl, rfl, unhide HRR⟩
      case rest =>
        obtain ⟨rfl, gl, rfl, hRR⟩ := hcut
        rw [unhide HR] at hRR
        obtain ⟨B5, BM, hBe⟩ := hRR
        have a0 : wc.cell? ⟨gl, 0, none⟩ = some (.string od) := B5.cell 0
        have a1 : wc.cell? ⟨gl, 1, none⟩ = some (.string ot) := B5.cell 1
        have m0 : wc.cell? ⟨gm, 120 + bb * 2, none⟩ = some (.string od) := by
          rw [BM.cell, (unhide HVD).1]
          exact mC_d 2 M 1 bb (by decide) hbb
        have m1 : wc.cell? ⟨gm, 120 + bb * 2 + 1, none⟩ = some (.string ot) := by
          rw [BM.cell, (unhide HVD).2]
          exact mC_w 2 M 1 bb (by decide) hbb
        have hgq : gq = if al = true ∧ hn = true then 1 else 0 := by
          have h0 := unhide HGA
          rw [unhide HAL] at h0
          rw [h0]
          have h1 : (V 1).e bb = none ↔ hn = true := by rw [← unhide HHN, Option.isNone_iff_eq_none]
          simp only [h1]
        have hcq : cq = if al = true then 1 else 0 := unhide HSH
        have hge : ge = if hn = true then 103 else 0 := by
          rw [← unhide HGE, ← unhide HHN, gErr]
          cases (V 1).e bb <;> rfl
        have HBE := hide hBe.drew
        have HBF := hide hBe
        clear HGA HSH HGE HHN HAL HCQ HGQ HC88 HGT HR HR' HVD B5 BM hBe HMR HS14 X14 HMD HBQ HM2 HSM HR2 hg1
        cases al with
        | false =>
          cases hn with
          | false =>
            obtain rfl : gq = 0 := by rw [hgq]; rfl
            obtain rfl : cq = 0 := by rw [hcq]; rfl
            obtain rfl : ge = 0 := by rw [hge]; rfl
            have eo : (o3 : Int) = (ct : Int) := by omega
            rw [eo]
            clear eo hgq hcq hge hc2 hc3
            go_wp2
            refine wp_region_held_drew (S := fun w' => w'.cell? ⟨gl, 0, none⟩ = some (.string od) ∧ w'.cell? ⟨gl, 1, none⟩ = some (.string ot) ∧ w'.cell? ⟨gm, 120 + bb * 2, none⟩ = some (.string od) ∧ w'.cell? ⟨gm, 120 + bb * 2 + 1, none⟩ = some (.string ot)) (by kernel_rfl) ⟨a0, a1, m0, m1⟩ ?_
            intro hS
            generalize wc.drew = wd at *
            refine wpAnyH_takeD 0 (some 239) (.agg #[.string od, .string ot]) rfl rfl (by kernel_rfl) (by kernel_rfl) (by kernel_rfl) (fun _ _ _ h => h) (Or.inl ⟨by rfl, fun w hSw => by obtain ⟨q1, q2, q3, q4⟩ := hSw; go_simp⟩) hS ?_
            simp only [Act.put, List.setIfInBounds_toArray, List.set_cons_zero, List.set_cons_succ]
            refine wpAnyH_takeD 1 (some 240) (.slice (some ⟨gm, 0, none⟩) 2 2) rfl rfl (by kernel_rfl) (by kernel_rfl) (by kernel_rfl) (fun _ _ _ h => h) (Or.inl ⟨by rfl, fun w hSw => by obtain ⟨q1, q2, q3, q4⟩ := hSw; go_simp⟩) hS ?_
            simp only [Act.put, List.setIfInBounds_toArray, List.set_cons_zero, List.set_cons_succ]
            refine wpAnyH_takeD 2 (some 241) (.int .i64 (bb : Int)) rfl rfl (by kernel_rfl) (by kernel_rfl) (by kernel_rfl) (fun _ _ _ h => h) (Or.inl ⟨by rfl, fun w hSw => by obtain ⟨q1, q2, q3, q4⟩ := hSw; go_simp⟩) hS ?_
            simp only [Act.put, List.setIfInBounds_toArray, List.set_cons_zero, List.set_cons_succ]
            refine wpAnyH_takeD 3 (some 242) (.pointer (some ⟨gm, 120, none⟩)) rfl rfl (by kernel_rfl) (by kernel_rfl) (by kernel_rfl) (fun _ _ _ h => h) (Or.inl ⟨by rfl, fun w hSw => by obtain ⟨q1, q2, q3, q4⟩ := hSw; go_simp⟩) hS ?_
            simp only [Act.put, List.setIfInBounds_toArray, List.set_cons_zero, List.set_cons_succ]
            refine wpAnyH_takeD 4 (some 243) (.pointer (some ⟨gm, 120 + bb * 2, none⟩)) rfl rfl (by kernel_rfl) (by kernel_rfl) (by kernel_rfl) (fun _ _ _ h => h) (Or.inl ⟨by rfl, fun w hSw => by obtain ⟨q1, q2, q3, q4⟩ := hSw; go_simp⟩) hS ?_
            simp only [Act.put, List.setIfInBounds_toArray, List.set_cons_zero, List.set_cons_succ]
            refine wpAnyH_takeD 5 (some 244) (.agg #[.string od, .string ot]) rfl rfl (by kernel_rfl) (by kernel_rfl) (by kernel_rfl) (fun _ _ _ h => h) (Or.inl ⟨by rfl, fun w hSw => by obtain ⟨q1, q2, q3, q4⟩ := hSw; go_simp⟩) hS ?_
            simp only [Act.put, List.setIfInBounds_toArray, List.set_cons_zero, List.set_cons_succ]
            refine wpAnyH_takeD 6 (some 245) (.bool true) rfl rfl (by kernel_rfl) (by kernel_rfl) (by kernel_rfl) (fun _ _ _ h => h) (Or.inl ⟨by rfl, fun w hSw => by obtain ⟨q1, q2, q3, q4⟩ := hSw; go_simp⟩) hS ?_
            simp only [Act.put, List.setIfInBounds_toArray, List.set_cons_zero, List.set_cons_succ]
            refine wpAnyH_takeD 7 (some 246) (.bool true) rfl rfl (by kernel_rfl) (by kernel_rfl) (by kernel_rfl) (fun _ _ _ h => h) (Or.inl ⟨by rfl, fun w hSw => by obtain ⟨q1, q2, q3, q4⟩ := hSw; go_simp⟩) hS ?_
            simp only [Act.put, List.setIfInBounds_toArray, List.set_cons_zero, List.set_cons_succ]
            refine wpAnyH_takeD 8 (some 247) (.int .i64 0) rfl rfl (by kernel_rfl) (by kernel_rfl) (by kernel_rfl) (fun _ _ _ h => h) (Or.inl ⟨by rfl, fun w hSw => by obtain ⟨q1, q2, q3, q4⟩ := hSw; go_simp⟩) hS ?_
            simp only [Act.put, List.setIfInBounds_toArray, List.set_cons_zero, List.set_cons_succ]
            refine wpAnyH_takeD 9 (some 248) (.bool true) rfl rfl (by kernel_rfl) (by kernel_rfl) (by kernel_rfl) (fun _ _ _ h => h) (Or.inl ⟨by rfl, fun w hSw => by obtain ⟨q1, q2, q3, q4⟩ := hSw; go_simp⟩) hS ?_
            simp only [Act.put, List.setIfInBounds_toArray, List.set_cons_zero, List.set_cons_succ]
            refine wpAnyH_takeD 10 (some 249) (.bool true) rfl rfl (by kernel_rfl) (by kernel_rfl) (by kernel_rfl) (fun _ _ _ h => h) (Or.inl ⟨by rfl, fun w hSw => by obtain ⟨q1, q2, q3, q4⟩ := hSw; go_simp⟩) hS ?_
            simp only [Act.put, List.setIfInBounds_toArray, List.set_cons_zero, List.set_cons_succ]
            refine wpAnyH_takeD 11 (some 4) (.bool true) rfl rfl (by kernel_rfl) (by kernel_rfl) (by kernel_rfl) (fun _ _ _ h => h) (Or.inl ⟨by rfl, fun w hSw => by obtain ⟨q1, q2, q3, q4⟩ := hSw; go_simp⟩) hS ?_
            simp only [Act.put, List.setIfInBounds_toArray, List.set_cons_zero, List.set_cons_succ]
            refine wpAnyH_done (by kernel_rfl) ?_ _
            clear hS
            go_wp2
            go_ret
            exact ⟨rfl, unhide HBE⟩
          | true =>
            obtain rfl : gq = 0 := by rw [hgq]; rfl
            obtain rfl : cq = 0 := by rw [hcq]; rfl
            obtain rfl : ge = 103 := by rw [hge]; rfl
            have eo : (o3 : Int) = (ct : Int) := by omega
            rw [eo]
            clear eo hgq hcq hge hc2 hc3
            go_wp2
            go_ret
            exact ⟨rfl, unhide HBF⟩
        | true =>
          cases hn with
          | false =>
            obtain rfl : gq = 0 := by rw [hgq]; rfl
            obtain rfl : cq = 1 := by rw [hcq]; rfl
            obtain rfl : ge = 0 := by rw [hge]; rfl
            have eo : (o3 : Int) = (ct : Int) - 1 := by omega
            rw [eo]
            clear eo hgq hcq hge hc2 hc3
            go_wp2
            refine wp_region_held_drew (S := fun w' => w'.cell? ⟨gl, 0, none⟩ = some (.string od) ∧ w'.cell? ⟨gl, 1, none⟩ = some (.string ot) ∧ w'.cell? ⟨gm, 120 + bb * 2, none⟩ = some (.string od) ∧ w'.cell? ⟨gm, 120 + bb * 2 + 1, none⟩ = some (.string ot)) (by kernel_rfl) ⟨a0, a1, m0, m1⟩ ?_
            intro hS
            generalize wc.drew = wd at *
            refine wpAnyH_takeD 0 (some 239) (.agg #[.string od, .string ot]) rfl rfl (by kernel_rfl) (by kernel_rfl) (by kernel_rfl) (fun _ _ _ h => h) (Or.inl ⟨by rfl, fun w hSw => by obtain ⟨q1, q2, q3, q4⟩ := hSw; go_simp⟩) hS ?_
            simp only [Act.put, List.setIfInBounds_toArray, List.set_cons_zero, List.set_cons_succ]
            refine wpAnyH_takeD 1 (some 240) (.slice (some ⟨gm, 0, none⟩) 2 2) rfl rfl (by kernel_rfl) (by kernel_rfl) (by kernel_rfl) (fun _ _ _ h => h) (Or.inl ⟨by rfl, fun w hSw => by obtain ⟨q1, q2, q3, q4⟩ := hSw; go_simp⟩) hS ?_
            simp only [Act.put, List.setIfInBounds_toArray, List.set_cons_zero, List.set_cons_succ]
            refine wpAnyH_takeD 2 (some 241) (.int .i64 (bb : Int)) rfl rfl (by kernel_rfl) (by kernel_rfl) (by kernel_rfl) (fun _ _ _ h => h) (Or.inl ⟨by rfl, fun w hSw => by obtain ⟨q1, q2, q3, q4⟩ := hSw; go_simp⟩) hS ?_
            simp only [Act.put, List.setIfInBounds_toArray, List.set_cons_zero, List.set_cons_succ]
            refine wpAnyH_takeD 3 (some 242) (.pointer (some ⟨gm, 120, none⟩)) rfl rfl (by kernel_rfl) (by kernel_rfl) (by kernel_rfl) (fun _ _ _ h => h) (Or.inl ⟨by rfl, fun w hSw => by obtain ⟨q1, q2, q3, q4⟩ := hSw; go_simp⟩) hS ?_
            simp only [Act.put, List.setIfInBounds_toArray, List.set_cons_zero, List.set_cons_succ]
            refine wpAnyH_takeD 4 (some 243) (.pointer (some ⟨gm, 120 + bb * 2, none⟩)) rfl rfl (by kernel_rfl) (by kernel_rfl) (by kernel_rfl) (fun _ _ _ h => h) (Or.inl ⟨by rfl, fun w hSw => by obtain ⟨q1, q2, q3, q4⟩ := hSw; go_simp⟩) hS ?_
            simp only [Act.put, List.setIfInBounds_toArray, List.set_cons_zero, List.set_cons_succ]
            refine wpAnyH_takeD 5 (some 244) (.agg #[.string od, .string ot]) rfl rfl (by kernel_rfl) (by kernel_rfl) (by kernel_rfl) (fun _ _ _ h => h) (Or.inl ⟨by rfl, fun w hSw => by obtain ⟨q1, q2, q3, q4⟩ := hSw; go_simp⟩) hS ?_
            simp only [Act.put, List.setIfInBounds_toArray, List.set_cons_zero, List.set_cons_succ]
            refine wpAnyH_takeD 6 (some 245) (.bool true) rfl rfl (by kernel_rfl) (by kernel_rfl) (by kernel_rfl) (fun _ _ _ h => h) (Or.inl ⟨by rfl, fun w hSw => by obtain ⟨q1, q2, q3, q4⟩ := hSw; go_simp⟩) hS ?_
            simp only [Act.put, List.setIfInBounds_toArray, List.set_cons_zero, List.set_cons_succ]
            refine wpAnyH_takeD 7 (some 246) (.bool true) rfl rfl (by kernel_rfl) (by kernel_rfl) (by kernel_rfl) (fun _ _ _ h => h) (Or.inl ⟨by rfl, fun w hSw => by obtain ⟨q1, q2, q3, q4⟩ := hSw; go_simp⟩) hS ?_
            simp only [Act.put, List.setIfInBounds_toArray, List.set_cons_zero, List.set_cons_succ]
            refine wpAnyH_takeD 8 (some 247) (.int .i64 0) rfl rfl (by kernel_rfl) (by kernel_rfl) (by kernel_rfl) (fun _ _ _ h => h) (Or.inl ⟨by rfl, fun w hSw => by obtain ⟨q1, q2, q3, q4⟩ := hSw; go_simp⟩) hS ?_
            simp only [Act.put, List.setIfInBounds_toArray, List.set_cons_zero, List.set_cons_succ]
            refine wpAnyH_takeD 9 (some 248) (.bool true) rfl rfl (by kernel_rfl) (by kernel_rfl) (by kernel_rfl) (fun _ _ _ h => h) (Or.inl ⟨by rfl, fun w hSw => by obtain ⟨q1, q2, q3, q4⟩ := hSw; go_simp⟩) hS ?_
            simp only [Act.put, List.setIfInBounds_toArray, List.set_cons_zero, List.set_cons_succ]
            refine wpAnyH_takeD 10 (some 249) (.bool true) rfl rfl (by kernel_rfl) (by kernel_rfl) (by kernel_rfl) (fun _ _ _ h => h) (Or.inl ⟨by rfl, fun w hSw => by obtain ⟨q1, q2, q3, q4⟩ := hSw; go_simp⟩) hS ?_
            simp only [Act.put, List.setIfInBounds_toArray, List.set_cons_zero, List.set_cons_succ]
            refine wpAnyH_takeD 11 (some 4) (.bool true) rfl rfl (by kernel_rfl) (by kernel_rfl) (by kernel_rfl) (fun _ _ _ h => h) (Or.inl ⟨by rfl, fun w hSw => by obtain ⟨q1, q2, q3, q4⟩ := hSw; go_simp⟩) hS ?_
            simp only [Act.put, List.setIfInBounds_toArray, List.set_cons_zero, List.set_cons_succ]
            refine wpAnyH_done (by kernel_rfl) ?_ _
            clear hS
            go_wp2
            go_ret
            exact ⟨rfl, unhide HBE⟩
          | true =>
            obtain rfl : gq = 1 := by rw [hgq]; rfl
            obtain rfl : cq = 1 := by rw [hcq]; rfl
            obtain rfl : ge = 103 := by rw [hge]; rfl
            have eo : (o3 : Int) = (ct : Int) := by omega
            rw [eo]
            clear eo hgq hcq hge hc2 hc3
            go_wp2
            go_ret
            exact ⟨rfl, unhide HBF⟩
end Go.Proofs.YtjlgbafcpoakmaaGreatDoor
