import Derived.Test.YtabgcgdpeikieaaDoorPld
namespace Go.Proofs.YtabgcgdpeikieaaDoor
open Go.RowKit Go.Conc
set_option maxRecDepth 100000
theorem wf_I64 {z : Int} (h : (Lit.int .i64 z).wf = true) : I64 z := by
  simpa [I64, Lit.wf, IntKind.min, IntKind.max, IntKind.signed, IntKind.bits] using h
/-- Eight places in memory, as a list that can be read. -/
theorem ils_arr8 {w : World} {g : Nat} {pl : List Nat} {T : TypeId} (h : Blk w g (arr8 pl) T) (hl : pl.length = 8) : Ils w (some ⟨g, 0, none⟩) (pl.map (fun p : Nat => (p : Int))) := fun j hj => by
  rw [List.length_map, hl] at hj
  refine ⟨g, 0, rfl, h.lt, ?_⟩
  rw [Nat.zero_add, h.cell]
  simp only [arr8, List.getElem?_toArray, List.getElem?_map, List.getElem?_range hj, Option.map_some]
  rw [List.getD_eq_getElem?_getD, List.getD_eq_getElem?_getD, List.getElem?_map, List.getElem?_eq_getElem (show j < pl.length by omega)]
  rfl
theorem plO_len (dr dg : ByteArray) (hr : dr.size = 16) (hg : dg.size = 32) : (plO dr dg).length = 8 := by
  unfold plO
  rw [if_pos ⟨hr, hg⟩]
  obtain ⟨h1, h2⟩ := plS_chs (bts (dvS dr dg 32)) (bts (dvS dr dg 8160)) (bts_lt _) (bts_lt _)
  exact plR_len h1 h2
theorem plO_lt (dr dg : ByteArray) (p : Nat) (h : p ∈ plO dr dg) : p < 256 := by
  unfold plO at h
  split at h
  · unfold plR at h
    exact List.mem_range.1 (List.mem_filter.1 h).1
  · cases h
set_option maxHeartbeats 4000000 in
theorem tells13 (s : ByteArray) (d at' by' : Int) (ha : I64 at') (hb : I64 by') (w : World) (hK : KTab w) : Calls Tryd.prog 5 #[.string s, .int .i64 d, .int .i64 at', .int .i64 by'] w fun e w' => e = .returned (.bool true) ∧ Below w.heap.size w w' := by
  obtain ⟨N, hn⟩ : ∃ N, w.heap.size = N := ⟨_, rfl⟩
  have HKN := hide (known13_any w hK)
  rw [hn] at HKN
  have HKT := hide (fun (z : World) (h : Below N w z) => hK.low (w' := z) (by rw [hn]; exact h))
  clear hK
  rw [hn]
  by_cases hs : s.size = 256
  · have i0 : (s.size : Int) = 256 := by omega
    have HDR := hide (fun z => draw_any d z)
    have HSM := hide (fun (z : World) (h : Below N w z) => sum_any s z (unhide HKT z h) (by omega))
    have hp1 := fun W => pick13_any at' 256 (by omega) ha W
    have hp2 := fun W => pick13_any by' 255 (by omega) hb W
    simp only [Int.cast_ofNat_Int] at hp1 hp2
    have HP1 := hide hp1
    have hq1 := pickP_lt at' 256 (by omega)
    have hq2 := pickP_lt by' 255 (by omega)
    have HP2 := hide hp2
    obtain ⟨n, hnn⟩ : ∃ n, pickP at' 256 = n := ⟨_, rfl⟩
    obtain ⟨q, hqq⟩ : ∃ q, pickP by' 255 = q := ⟨_, rfl⟩
    rw [hnn] at HP1 hq1
    rw [hqq] at HP2 hq2
    obtain ⟨dr, hdr⟩ : ∃ x, drB d = x := ⟨_, rfl⟩
    obtain ⟨dg, hdg⟩ : ∃ x, strOfNums (sha (nums s)) = x := ⟨_, rfl⟩
    have hr : dr.size = 16 := by rw [← hdr, drB_size]
    have hg : dg.size = 32 := by rw [← hdg, strOfNums_size, sha_len]
    simp only [hdr] at HDR
    simp only [hdg] at HSM
    have HPO := hide (fun (z : World) (h : Below N w z) => places_ok dr dg z hr hg (unhide HKT z h))
    have HPL := hide (plO_len dr dg hr hg)
    have HPT := hide (plO_lt dr dg)
    obtain ⟨pl, hpl⟩ : ∃ pl, plO dr dg = pl := ⟨_, rfl⟩
    rw [hpl] at HPL HPT
    simp only [hpl] at HPO
    have HSZ := hide hs
    clear hp1 hp2 hnn hqq hdr hdg hr hg hpl hs ha hb
    go_enter Tryd.func5, Tryd.ntmps5
    go_wp2_with fail
    refine (unhide HKN).mono ?_
    rintro e z1 ⟨rfl, hb1⟩
    have HL1 := hide hb1
    clear hb1 HKN
    go_wp2_with fail
    refine (unhide HDR _).mono ?_
    rintro e z2 ⟨rfl, hb⟩
    have HL2 := hide ((unhide HL1).trans (hb.mono (by have := (unhide HL1).size; omega)))
    clear hb HL1
    go_wp2_with fail
    refine (unhide HSM _ (unhide HL2)).mono ?_
    rintro e z3 ⟨rfl, hb⟩
    have HL3 := hide ((unhide HL2).trans (hb.mono (by have := (unhide HL2).size; omega)))
    clear hb HL2
    go_wp2_with fail
    refine (unhide HPO _ (unhide HL3)).mono ?_
    rintro e z4 ⟨g, rfl, hgz, hG, hb⟩
    have HL4 := hide ((unhide HL3).trans (hb.mono (by have := (unhide HL3).size; omega)))
    have HG4 := hide hG
    obtain ⟨cap, z5, hrun, hBs, hbel⟩ := Bsl.of_string z4 s (by have := unhide HSZ; omega)
    have hG5 := hG.below hbel hG.lt
    have HG5 := hide hG5
    have HL5 := hide ((unhide HL4).trans (hbel.mono (by have := (unhide HL4).size; omega)))
    have hA5 := hBs.2.2.2.2.1
    have hgm : g < z4.heap.size := hG.lt
    have hm5 : z4.heap.size < z5.heap.size := hBs.2.1
    obtain ⟨M, hM⟩ : ∃ M, z4.heap.size = M := ⟨_, rfl⟩
    rw [hM] at hrun hA5 hgm hm5
    have hNM : N ≤ M := by have h9 := (unhide HL4).size; rw [hn, hM] at h9; exact h9
    have HNM := hide hNM
    have HA5 := hide hA5
    have HGM := hide hgm
    have HM5 := hide hm5
    clear hb hgz hG HL3 hBs hbel hG5 HG4 HL4 hM hNM hA5 hgm hm5
    go_wp2_with fail
    refine (unhide HP1 _).mono ?_
    rintro e z6 ⟨rfl, rfl⟩
    clear hrun
    go_wp2_with fail
    have hlen : (nums s).length = 256 := by rw [nums_len]; exact unhide HSZ
    have c1 := (unhide HA5).get0 n (by omega)
    have f1 := (unhide HA5).free0 n (by omega)
    have hx := nums_bytes s n
    have hne := xor_ne ((nums s).getD n 0) hx.1 hx.2 q hq2
    obtain ⟨x, hxx⟩ : ∃ x, (nums s).getD n 0 = x := ⟨_, rfl⟩
    rw [hxx] at c1 hne hx
    obtain ⟨x0, x1⟩ := hx
    have HXX := hide hxx
    have HNE := hide hne
    have j1 : 0 ≤ (n : Int) := by omega
    have j2 : (n : Int) < 256 := by omega
    have w1 : IntKind.i64.wrap (1 + (q : Int)) = 1 + (q : Int) := wrapI_eq _ (by omega) (by omega)
    have HLEN := hide hlen
    clear hxx hne hlen
    refine wp_region_still_tail 12 (by kernel_rfl) (by kernel_rfl) ?_
    simp only [List.take_succ_cons, List.take_zero, List.drop_succ_cons, List.drop_zero]
    iterate 7 still_step
    still_call (unhide HP2 _)
    iterate 4 still_step
    refine wpStill_nil ?_
    change wpList _ _ _ _ _ z6.drew
    rename_i K8 a8
    have A8 := hide a8
    clear a8
    go_wp2
    obtain ⟨yv, hyv⟩ : ∃ y, bits BinOp.xor IntKind.u8 x (1 + (q : Int)) = y := ⟨_, rfl⟩
    rw [hyv] at HNE ⊢
    have hA7 := ((unhide HA5).set0 n (by rw [unhide HLEN]; omega) yv).drew
    have hG7 : Blk (z6.setCell ⟨M, n, none⟩ (.int .u8 yv)).drew g (arr8 pl) 78 := (unhide HG5).other _ _ (by show M ≠ g; have := unhide HGM; omega)
    have hL7 : Below N w (z6.setCell ⟨M, n, none⟩ (.int .u8 yv)).drew := ((unhide HL5).setCell (p := ⟨M, n, none⟩) (unhide HNM) _).drew
    have hm7 : M < (z6.setCell ⟨M, n, none⟩ (.int .u8 yv)).drew.heap.size := by
      show M < (z6.setCell ⟨M, n, none⟩ (.int .u8 yv)).heap.size
      rw [World.size_setCell]
      exact unhide HM5
    generalize (z6.setCell ⟨M, n, none⟩ (.int .u8 yv)).drew = z7 at *
    have hpc : ∀ k, k < 8 → z7.cell? ⟨g, k, none⟩ = some (.int .i64 ((pl.getD k 0 : Nat) : Int)) := fun k hk => by
      rw [hG7.cell]
      simp [arr8, hk]
    have HPC := hide hpc
    have HA7 := hide hA7
    have HG7 := hide hG7
    have HL7 := hide hL7
    have HM7 := hide hm7
    clear hA7 hG7 hL7 hm7 hpc hyv c1 f1 HA5 HG5 HL5 HM5 HP1 HP2 HDR HSM HPO x0 x1 j1 j2 w1
    refine unhide A8 _ _ ?_
    clear A8 K8
    go_wp2
    go_loopw [14, 15] (fun v i wr => wr = z7 ∧ ∃ k : Nat, k ≤ 8 ∧ i = .int .i64 (k : Int) ∧ v = .bool (decide (n ∈ pl.take k))) (fun _ i _ => 8 - (intOf i).toNat)
    case atStart => exact ⟨rfl, 0, by omega, rfl, by simp⟩
    case round =>
      obtain ⟨rfl, k, hk, rfl, rfl⟩ := hrel
      by_cases hlt : k < 8
      · have i1 : (k : Int) < 8 := by omega
        have i2 : 0 ≤ (k : Int) := by omega
        have hc := unhide HPC k hlt
        have htk : pl.take (k + 1) = pl.take k ++ [pl.getD k 0] := by
          rw [List.take_add_one, List.getElem?_eq_getElem (show k < pl.length by have := unhide HPL; omega)]
          simp [show k < pl.length by have := unhide HPL; omega]
        have HTK := hide htk
        obtain ⟨p, hp⟩ : ∃ p, pl.getD k 0 = p := ⟨_, rfl⟩
        rw [hp] at hc HTK
        clear htk hp
        by_cases hm : n ∈ pl.take k
        · rw [decide_eq_true hm]
          go_wp2
          go_roundw
          case rel => exact ⟨trivial, k + 1, by omega, by go_num, by rw [unhide HTK, decide_eq_true (List.mem_append.2 (.inl hm))]⟩
          case measure => simp [intOf]; omega
        · rw [decide_eq_false hm]
          by_cases he : n = p
          · have e1 : ((p : Int) == (n : Int)) = true := by rw [beq_iff_eq]; omega
            have e2 : (p : Int) = (n : Int) := by omega
            go_wp2
            go_roundw
            case rel => exact ⟨trivial, k + 1, by omega, by go_num, by rw [unhide HTK, decide_eq_true (List.mem_append.2 (.inr (by simp [he])))]⟩
            case measure => simp [intOf]; omega
          · have e1 : ((p : Int) == (n : Int)) = false := by rw [beq_eq_false_iff_ne]; omega
            have e2 : ¬ ((p : Int) = (n : Int)) := by omega
            have e3 : ¬ (p = n) := by omega
            go_wp2
            go_roundw
            case rel =>
              refine ⟨trivial, k + 1, by omega, by go_num, ?_⟩
              have h9 : ¬ (n ∈ pl.take k ++ [p]) := fun q => by
                rcases List.mem_append.1 q with q | q
                · exact hm q
                · exact he (List.mem_singleton.1 q)
              rw [unhide HTK, decide_eq_false h9]
            case measure => simp [intOf]; omega
      · have hk' : k = 8 := by omega
        subst hk'
        rw [List.take_of_length_le (by rw [unhide HPL]; exact Nat.le_refl _)]
        obtain ⟨lI, hlI⟩ : ∃ l, pl.map (fun p : Nat => (p : Int)) = l := ⟨_, rfl⟩
        have hll : lI.length = 8 := by rw [← hlI, List.length_map]; exact unhide HPL
        have hI := ils_arr8 (unhide HG7) (unhide HPL)
        rw [hlI] at hI
        have hok : ∀ p, p ∈ lI → 0 ≤ p ∧ p < 256 := fun p hp => by
          rw [← hlI, List.mem_map] at hp
          obtain ⟨m, hm, rfl⟩ := hp
          have := unhide HPT m hm
          omega
        obtain ⟨s2, hs2⟩ : ∃ x, strOfNums ((nums s).set n yv) = x := ⟨_, rfl⟩
        have hz2 : s2.size = 256 := by rw [← hs2, strOfNums_size, List.length_set]; exact unhide HLEN
        have hT := tells_iff s n (by have := unhide HSZ; omega) yv (unhide HNE).2.1 (unhide HNE).2.2 (by rw [unhide HXX]; exact (unhide HNE).1) pl
        rw [hlI, hs2] at hT
        have e1 : smS s lI = strOfNums (smL s lI) := by unfold smS; rw [if_pos ⟨unhide HSZ, hok⟩]
        have e2 : smS s2 lI = strOfNums (smL s2 lI) := by unfold smS; rw [if_pos ⟨hz2, hok⟩]
        have e3 : smE s lI = 0 := by unfold smE; rw [if_pos ⟨unhide HSZ, hok⟩]
        have e4 : smE s2 lI = 0 := by unfold smE; rw [if_pos ⟨hz2, hok⟩]
        have h1 := sample_any (w := wr) s lI (some ⟨g, 0, none⟩) 8 hI (by omega)
        rw [e1, e3, hll] at h1
        have HS2 := hide (fun (z : World) (hb : Below wr.heap.size wr z) => sample_any (w := z) s2 lI (some ⟨g, 0, none⟩) 8 (hI.below hb) (by omega))
        simp only [e2, e4, hll] at HS2
        have hz1 : (strOfNums (smL s lI)).size = 8 := by rw [strOfNums_size]; simp [smL, hll]
        obtain ⟨t1, ht1⟩ : ∃ t, strOfNums (smL s lI) = t := ⟨_, rfl⟩
        obtain ⟨t2, ht2⟩ : ∃ t, strOfNums (smL s2 lI) = t := ⟨_, rfl⟩
        rw [ht1] at h1 hT hz1
        rw [ht2] at hT
        simp only [ht2] at HS2
        have HS1 := hide h1
        have HT := hide hT
        have j8 : (t1.size : Int) = 8 := by omega
        have HCV := hide (fun (z : World) (hb : Below wr.heap.size wr z) => run_convert_bytes_arg (P := Tryd.prog) z 47 5 Tryd.underlying47 Tryd.underlying5 M 0 s.size cap ((nums s).set n yv) (by rw [List.length_set, nums_len]) (fun i hi => by
          have h9 := ((unhide HA7).below hb (unhide HM7)).get i (by rw [List.length_set, nums_len]; exact hi)
          exact h9) 9 Tryd.underlying9)
        simp only [hs2] at HCV
        clear h1 hT hz1 ht1 ht2 e1 e2 e3 e4 hI hok hll hlI hs2 hz2 hlt HPC
        go_wp2_with fail
        refine (unhide HS1).mono ?_
        rintro e y1 ⟨rfl, hb1⟩
        have hcv := unhide HCV y1 hb1
        have HB1 := hide hb1
        clear hb1 HS1
        go_wp2_with fail
        refine (unhide HS2 _ (unhide HB1)).mono ?_
        rintro e y2 ⟨rfl, hb2⟩
        have HB2 := hide ((unhide HL7).trans (((unhide HB1).trans (hb2.mono (unhide HB1).size)).mono (by have h9 := (unhide HL7).size; rw [hn] at h9; exact h9)))
        clear hb2 hcv HS2 HB1 HCV
        by_cases hm : n ∈ pl
        · have hne := str_ne ((unhide HT).2 hm)
          rw [decide_eq_true hm]
          go_wp2
          go_ret
          exact ⟨rfl, unhide HB2⟩
        · have heq : t1 = t2 := Classical.byContradiction fun q => hm ((unhide HT).1 q)
          rw [decide_eq_false hm]
          subst heq
          have hse : (t1.toList == t1.toList) = true := by simp
          clear HT
          go_wp2
          go_ret
          exact ⟨rfl, unhide HB2⟩
  · have i0 : ¬ ((s.size : Int) = 256) := by omega
    go_enter Tryd.func5, Tryd.ntmps5
    go_wp2_with fail
    refine (unhide HKN).mono ?_
    rintro e z1 ⟨rfl, hb1⟩
    have HL1 := hide hb1
    clear hb1 HKN HKT
    go_wp2
    go_ret
    exact ⟨rfl, unhide HL1⟩
end Go.Proofs.YtabgcgdpeikieaaDoor
