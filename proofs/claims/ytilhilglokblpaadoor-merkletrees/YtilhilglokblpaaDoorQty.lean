import Derived.Test.YtilhilglokblpaaDoorQtx
import Derived.Test.YtilhilglokblpaaDoorOpt
import Derived.BigQuiet
namespace Go.Proofs.YtilhilglokblpaaDoor
open Go.RowKit
set_option maxRecDepth 100000
set_option maxHeartbeats 16000000 in
theorem trees19 (kf of nf : Nat → Int) (sf : Nat → ByteArray) (q c : Nat) (p : Option Addr) (hI : ∀ i, i < q → I64 (of i) ∧ I64 (nf i) ∧ (sf i).size ≤ 140737488351232) (hq9 : q ≤ 9223372036854775807) (w : World) (hOp : OpT w w.heap.size p q kf of nf sf) (hK : KTab w) (hT : BTab w) : Calls Tryd.prog 4 #[.slice p q c] w fun e w' => e = .returned (.bool true) ∧ Below w.heap.size w w' := by
  obtain ⟨h, hh⟩ : ∃ h, w.heap.size = h := ⟨_, rfl⟩
  have HKB := hide (show ∀ W, Below h w W → KTab W from fun W hW => hK.below hW (by rw [← hh]; exact hK.1))
  have HTB := hide (show ∀ W, Below h w W → BTab W from fun W hW => hT.below hW (by rw [← hh]; exact hT.1))
  have hvh : 2 < h := by rw [← hh]; exact hK.1
  rw [hh] at hOp
  have HOP := hide (show ∀ W, Below h w W → OpT W h p q kf of nf sf from fun W hW => hOp.below hW)
  have HII := hide hI
  have HAW := hide (fun W (hW : Below h w W) => awake19 W (unhide HKB W hW))
  have HB0 := hide (show Below h w w from Below.refl _ _)
  obtain ⟨i0, hi, hz3, hz1, hz2⟩ := info_parts gr_str
  have HI := hide (And.intro hi (And.intro hz3 (And.intro hz1 hz2)))
  rw [hh]
  clear hOp hI hK hT hi hz3 hz1 hz2
  go_enter Tryd.func4, Tryd.ntmps4
  go_wp2_with fail
  refine (unhide HAW _ (unhide HB0)).mono ?_
  rintro e y1 ⟨rfl, hb⟩
  have HB1 := hide (show Below h w y1 from (unhide HB0).trans (hb.mono (by have := (unhide HB0).size; omega)))
  clear hb HB0 HAW
  obtain ⟨b, hbb⟩ : ∃ z, y1.heap.size = z := ⟨_, rfl⟩
  have hhb : h ≤ b := by have := (unhide HB1).size; omega
  obtain ⟨z1, hz1⟩ : ∃ z, y1.alloc (.cells #[.slice none 0 0, .slice none 0 0] 39) = z := ⟨_, rfl⟩
  have hs1 : z1.heap.size = b + 1 := by rw [← hz1, ← hbb]; simp
  have HX0 := hide (show Blk z1 b #[.slice none 0 0, .slice none 0 0] 39 from by rw [← hz1, ← hbb]; exact Blk.new y1 _ _)
  have HX1 := hide (show Below h w z1 from by rw [← hz1]; exact (unhide HB1).alloc (by omega) _)
  have HNA := hide (tnew_any z1)
  rw [hs1] at HNA
  go_wp2_with fail
  refine (unhide HNA).mono ?_
  rintro e z2 ⟨rfl, ht1, hb2, hs2⟩
  have hs2' : z2.heap.size = b + 1 + 1 := hs2
  have HT1 := hide ht1
  have HX2 := hide (show Below h w z2 from (unhide HX1).trans (hb2.mono (by omega)))
  have HX3 := hide (show Blk z2 b #[.slice none 0 0, .slice none 0 0] 39 from (unhide HX0).below hb2 (by omega))
  have HNB := hide (tnew_any z2)
  rw [hs2'] at HNB
  clear ht1 hb2 hs2 HNA HX0 HX1
  go_wp2_with fail
  refine (unhide HNB).mono ?_
  rintro e z3 ⟨rfl, ht2, hb3, hs3⟩
  have hs3' : z3.heap.size = b + 3 := by omega
  obtain ⟨z4, hz4⟩ : ∃ z, z3.alloc (.cells #[.pointer (some ⟨b + 1, 0, none⟩), .pointer (some ⟨b + 1 + 1, 0, none⟩)] 25) = z := ⟨_, rfl⟩
  have HTS := hide (show TsI w h b z4 (fun _ => []) (fun _ => []) (fun _ => .slice none 0 0) from by
    have hbel : Below z3.heap.size z3 z4 := by rw [← hz4]; exact (Below.refl _ _).alloc (Nat.le_refl _) _
    refine TsI.init w h b z4 (((unhide HX2).trans (hb3.mono (by omega))).trans (hbel.mono (by omega))) hhb (((unhide HX3).below hb3 (by omega)).below hbel (by omega)) (((unhide HT1).below hb3 (by omega)).below hbel (by omega)) (ht2.below hbel (by omega)) ?_
    rw [← hz4, ← hs3']
    exact Blk.new z3 _ _)
  have c0 := (unhide HTS).cellT 0 (by omega)
  have c1 := (unhide HTS).cellT 1 (by omega)
  clear ht2 hb3 hs3 HT1 HX2 HX3 HNB HB1
  go_wp2
  go_loopw [6] (fun iv wr => ∃ (i : Nat) (L : Nat → List ByteArray) (V : Nat → Value), i ≤ q ∧ iv = .int .i64 (i : Int) ∧ Hid (TsI w h b wr L L V)) (fun iv _ => q - (intOf iv).toNat)
  case atStart => exact ⟨0, _, _, by omega, rfl, HTS⟩
  case round =>
  clear HTS c0 c1 hz4 hs3' hs2' hs1 hz1 hbb
  obtain ⟨i, L, V, hiq, rfl, HTS⟩ := hrel
  obtain ⟨wi, rfl⟩ : ∃ z, z = wr := ⟨_, rfl⟩
  by_cases hiq2 : i < q
  · have e1 : (i : Int) < (q : Int) := by omega
    obtain ⟨gp, op, rfl, hgp, hc0, hc1, hc2, hc3⟩ := unhide HOP wi (unhide HTS).bel i hiq2
    obtain ⟨hO, hN, hSz⟩ := unhide HII i hiq2
    have HC3 := hide (show ∀ y, Below h w y → y.cell? ⟨gp, op + i * 4 + 3, none⟩ = some (.string (sf i)) from fun y hy => by
      obtain ⟨g9, o9, e9, _, _, _, _, r9⟩ := unhide HOP y hy i hiq2
      injection e9 with e9
      injection e9 with e8 e9
      subst e8 e9
      exact r9)
    generalize sf i = x at *
    generalize kf i = kd at *
    have HPK := hide (fun W => pick19 (of i) 2 (by decide) hO W)
    rw [show (((2 : Nat)) : Int) = 2 from rfl] at HPK
    have HPM := hide (fun W => pick19 (nf i) 5000 (by decide) hN W)
    rw [show (((5000 : Nat)) : Int) = 5000 from rfl] at HPM
    generalize of i = ofi at *
    generalize nf i = nfi at *
    clear hO hN hc3
    go_wp2_with fail
    refine (unhide HPK _).mono ?_
    rintro e y ⟨k, hk2, rfl, hy⟩
    subst y
    clear HPK hc1
    by_cases k1 : kd = 1
    · subst k1
      clear HPM hc2
      have HTS0 := hide (((unhide HTS).bel' (Below.refl _ _).drew).tre k hk2)
      obtain ⟨l', hl'⟩ : ∃ z, (if (L k).length = 4096 then L k else L k ++ [x]) = z := ⟨_, rfl⟩
      have HAD := hide (fun hT => tadd_any (L k) x (by omega) (b + 1 + k) wi.drew hT (unhide HKB _ ((unhide HTS).bel' (Below.refl _ _).drew).bel) (by omega))
      rw [hl'] at HAD
      obtain ⟨AT, hAT⟩ : ∃ AT : World → Prop, AT = fun y => Below h w y ∧ y.cell? ⟨b + 3, k, none⟩ = some (.pointer (some ⟨b + 1 + k, 0, none⟩)) := ⟨_, rfl⟩
      have HAT := hide (show AT wi.drew from by rw [hAT]; exact ⟨((unhide HTS).bel' (Below.refl _ _).drew).bel, ((unhide HTS).bel' (Below.refl _ _).drew).cellT k hk2⟩)
      have HC := hide (show ∀ y, AT y → y.cell? ⟨b + 3, k, none⟩ = some (.pointer (some ⟨b + 1 + k, 0, none⟩)) ∧ y.cell? ⟨gp, op + i * 4 + 3, none⟩ = some (.string x) from fun y hy => by
        rw [hAT] at hy
        exact ⟨hy.2, unhide HC3 y hy.1⟩)
      have HGR := hide (show ∀ y4, TrM y4 (b + 1 + k) l' → Touch (b + 1 + k) wi.drew y4 → TsI w h b y4 (upF L k l') L V from fun y4 h1 h2 => ((unhide HTS).bel' (Below.refl _ _).drew).grow k hk2 l' h2 h1)
      have HSA := hide (show ∀ y4, TrM y4 (b + 1 + k) l' → Touch (b + 1 + k) wi.drew y4 → AT y4 from fun y4 h1 h2 => by
        rw [hAT]
        have := unhide HGR y4 h1 h2
        exact ⟨this.bel, this.cellT k hk2⟩)
      have hk0 : (k : Int) < 2 := by omega
      clear hAT HTS
      go_wp2_with fail
      refine wp_region_held_drew (S := AT) (by kernel_rfl) (unhide HAT) ?_
      intro hS
      refine wpAnyH_takeD 0 (some 48) (.slice (some ⟨b + 3, 0, none⟩) 2 2) rfl rfl (by kernel_rfl) (by kernel_rfl) (by kernel_rfl) (fun _ _ _ h => h) (Or.inl ⟨by rfl, fun w hSw => by obtain ⟨hq1, hq2⟩ := unhide HC w hSw; clear hSw; go_simp⟩) hS ?_
      simp only [Act.put, List.setIfInBounds_toArray, List.set_cons_zero, List.set_cons_succ]
      refine wpAnyH_takeD 1 (some 49) (.int .i64 (k : Int)) rfl rfl (by kernel_rfl) (by kernel_rfl) (by kernel_rfl) (fun _ _ _ h => h) (Or.inl ⟨by rfl, fun w hSw => by obtain ⟨hq1, hq2⟩ := unhide HC w hSw; clear hSw; go_simp⟩) hS ?_
      simp only [Act.put, List.setIfInBounds_toArray, List.set_cons_zero, List.set_cons_succ]
      refine wpAnyH_takeD 2 (some 50) (.pointer (some ⟨b + 3, k, none⟩)) rfl rfl (by kernel_rfl) (by kernel_rfl) (by kernel_rfl) (fun _ _ _ h => h) (Or.inl ⟨by rfl, fun w hSw => by obtain ⟨hq1, hq2⟩ := unhide HC w hSw; clear hSw; go_simp⟩) hS ?_
      simp only [Act.put, List.setIfInBounds_toArray, List.set_cons_zero, List.set_cons_succ]
      refine wpAnyH_takeD 3 (some 51) (.pointer (some ⟨b + 1 + k, 0, none⟩)) rfl rfl (by kernel_rfl) (by kernel_rfl) (by kernel_rfl) (fun _ _ _ h => h) (Or.inl ⟨by rfl, fun w hSw => by obtain ⟨hq1, hq2⟩ := unhide HC w hSw; clear hSw; go_simp⟩) hS ?_
      simp only [Act.put, List.setIfInBounds_toArray, List.set_cons_zero, List.set_cons_succ]
      refine wpAnyH_takeD 4 (some 52) (.slice (some ⟨gp, op, none⟩) q c) rfl rfl (by kernel_rfl) (by kernel_rfl) (by kernel_rfl) (fun _ _ _ h => h) (Or.inl ⟨by rfl, fun w hSw => by obtain ⟨hq1, hq2⟩ := unhide HC w hSw; clear hSw; go_simp⟩) hS ?_
      simp only [Act.put, List.setIfInBounds_toArray, List.set_cons_zero, List.set_cons_succ]
      refine wpAnyH_takeD 5 (some 53) (.int .i64 (i : Int)) rfl rfl (by kernel_rfl) (by kernel_rfl) (by kernel_rfl) (fun _ _ _ h => h) (Or.inl ⟨by rfl, fun w hSw => by obtain ⟨hq1, hq2⟩ := unhide HC w hSw; clear hSw; go_simp⟩) hS ?_
      simp only [Act.put, List.setIfInBounds_toArray, List.set_cons_zero, List.set_cons_succ]
      refine wpAnyH_takeD 6 (some 54) (.pointer (some ⟨gp, op + i * 4, none⟩)) rfl rfl (by kernel_rfl) (by kernel_rfl) (by kernel_rfl) (fun _ _ _ h => h) (Or.inl ⟨by rfl, fun w hSw => by obtain ⟨hq1, hq2⟩ := unhide HC w hSw; clear hSw; go_simp⟩) hS ?_
      simp only [Act.put, List.setIfInBounds_toArray, List.set_cons_zero, List.set_cons_succ]
      refine wpAnyH_takeD 7 (some 55) (.pointer (some ⟨gp, op + i * 4 + 3, none⟩)) rfl rfl (by kernel_rfl) (by kernel_rfl) (by kernel_rfl) (fun _ _ _ h => h) (Or.inl ⟨by rfl, fun w hSw => by obtain ⟨hq1, hq2⟩ := unhide HC w hSw; clear hSw; go_simp⟩) hS ?_
      simp only [Act.put, List.setIfInBounds_toArray, List.set_cons_zero, List.set_cons_succ]
      refine wpAnyH_takeD 8 (some 56) (.string x) rfl rfl (by kernel_rfl) (by kernel_rfl) (by kernel_rfl) (fun _ _ _ h => h) (Or.inl ⟨by rfl, fun w hSw => by obtain ⟨hq1, hq2⟩ := unhide HC w hSw; clear hSw; go_simp⟩) hS ?_
      simp only [Act.put, List.setIfInBounds_toArray, List.set_cons_zero, List.set_cons_succ]
      refine wpAnyH_ready (rs := [9]) (by kernel_rfl) (by simp) ?_
      refine AllReadyH.cons rfl (fun K hK => ?_) AllReadyH.nil
      simp only [List.getElem_toArray, List.getElem_cons_succ, List.getElem_cons_zero]
      go_simp
      refine (unhide HAD (unhide HTS0)).mono ?_
      rintro e y4 ⟨rfl, hT4, ht4⟩
      have hS9 := unhide HSA y4 hT4 ht4
      have HTS4 := hide (unhide HGR _ hT4 ht4)
      clear hT4 ht4
      refine hK.out _ _ hS9 (fun hS => ?_)
      clear hK K
      refine wpAnyH_done (by kernel_rfl) ?_ _
      clear hS HAT HC HSA HGR HAD HTS0 hS9
      have HTS5 := HTS4
      obtain ⟨pk, ck, hvk, _, hck1, hck2⟩ := (unhide HTS5).form k hk2
      have hln := (unhide HTS5).len k hk2
      obtain ⟨n, hn⟩ : ∃ z, (L k).length = z := ⟨_, rfl⟩
      rw [hn] at hvk hck1 hln
      have cv1 := ((unhide HTS5).cellV k hk2).1
      have fv1 := ((unhide HTS5).cellV k hk2).2
      rw [hvk] at cv1
      by_cases hn4 : n < 4096
      · have e4 : (n : Int) < 4096 := by omega
        have hl2 : l' = L k ++ [x] := by rw [← hl', if_neg (by omega)]
        have HB4 := hide (show Below h w y4.drew from ((unhide HTS5).bel' (Below.refl _ _).drew).bel)
        have hzb := (unhide HTS5).sz
        have HBA := hide (show Below h w ((y4.alloc (.cells #[.string x] 9)).drew) from ((unhide HTS5).bel.alloc (by omega) _).drew)
        have HBS := hide (show b + 4 ≤ ((y4.alloc (.cells #[.string x] 9)).drew).heap.size from by simp; omega)
        have HOW := hide (show ((y4.alloc (.cells #[.string x] 9)).drew).ownsRow (b + 4) 9 1 (.slice pk n ck) n ((L k).map Value.string) from by
          have := (((unhide HTS5).own k hk2).alloc (.cells #[.string x] 9)).drew
          rw [hvk, hn] at this
          exact this)
        have HAP := hide (show ∀ g5 cap5 x5, x5.ownsRow (b + 4) 9 1 (.slice (some ⟨g5, 0, none⟩) (n + 1) cap5) (n + 1) ((L k).map Value.string ++ [.string x]) → ((y4.alloc (.cells #[.string x] 9)).drew).grownBy x5 (Value.slice pk n ck).ownBlock → ((Value.slice pk n ck).ownBlock = some g5 ∨ g5 = y4.heap.size + 1) → TsI w h b (x5.setCell ⟨b, k, none⟩ (.slice (some ⟨g5, 0, none⟩) (n + 1) cap5)) (upF L k l') (upF L k l') (upF V k (.slice (some ⟨g5, 0, none⟩) (n + 1) cap5)) ∧ Below h w x5 ∧ Below h w (x5.setCell ⟨b, k, none⟩ (.slice (some ⟨g5, 0, none⟩) (n + 1) cap5)) ∧ x5.cell? ⟨b, k, none⟩ = some (.slice pk n ck) ∧ x5.frozen? ⟨b, k, none⟩ = false from fun g5 cap5 x5 a1 a2 a3 => by
          have hx := (unhide HTS5).bel' (Below.refl _ _).drew
          rw [← hvk] at a2 a3
          have hap := hx.app k hk2 x (by omega) (by rw [hn]; exact hn4) (g5 := g5) (cap5 := cap5) (x5 := x5) (by rw [hn]; exact a1) a2 a3
          rw [hn, ← hl2] at hap
          have hB : Below (b + 4) y4.drew x5 := ((Below.refl _ y4.drew).alloc hx.sz (.cells #[.string x] 9)).grown a2 (by simp; omega) (fun q hq => ((hx.own k hk2).lt q hq).1)
          have hcv := hx.cellV k hk2
          rw [hvk] at hcv
          have hbz : b < y4.drew.heap.size := by have := hx.sz; omega
          exact ⟨hap, hx.bel.trans (hB.mono (by omega)), hap.bel, (hB.cell (p := ⟨b, k, none⟩) (by show b < b + 4; omega)).trans hcv.1, (hx.box.below hB (by omega)).frozen k⟩)
        have cA1 : ((y4.alloc (.cells #[.string x] 9)).drew).cell? ⟨b, k, none⟩ = some (.slice pk n ck) := (((Below.refl y4.heap.size y4).alloc (Nat.le_refl _) (.cells #[.string x] 9)).cell (p := ⟨b, k, none⟩) (by show b < _; omega)).trans cv1
        have cA2 : (y4.alloc (.cells #[.string x] 9)).cell? ⟨b, k, none⟩ = some (.slice pk n ck) := cA1
        clear hn hvk hl' hl2 HTS4 HTS5
        go_wp2_with fail
        refine wp_region_held_drew (S := fun W => Below h w W) (by kernel_rfl) (unhide HB4) ?_
        intro hS
        refine wpAnyH_takeD 0 (some 63) (.int .i64 (k : Int)) rfl rfl (by kernel_rfl) (by kernel_rfl) (by kernel_rfl) (fun _ _ _ h => h) (Or.inl ⟨by rfl, fun w hSw => by have hq2 := unhide HC3 w hSw; clear hSw; go_simp⟩) hS ?_
        simp only [Act.put, List.setIfInBounds_toArray, List.set_cons_zero, List.set_cons_succ]
        refine wpAnyH_takeD 1 (some 64) (.int .i64 (k : Int)) rfl rfl (by kernel_rfl) (by kernel_rfl) (by kernel_rfl) (fun _ _ _ h => h) (Or.inl ⟨by rfl, fun w hSw => by have hq2 := unhide HC3 w hSw; clear hSw; go_simp⟩) hS ?_
        simp only [Act.put, List.setIfInBounds_toArray, List.set_cons_zero, List.set_cons_succ]
        refine wpAnyH_takeD 2 (some 65) (.pointer (some ⟨b, k, none⟩)) rfl rfl (by kernel_rfl) (by kernel_rfl) (by kernel_rfl) (fun _ _ _ h => h) (Or.inl ⟨by rfl, fun w hSw => by have hq2 := unhide HC3 w hSw; clear hSw; go_simp⟩) hS ?_
        simp only [Act.put, List.setIfInBounds_toArray, List.set_cons_zero, List.set_cons_succ]
        refine wpAnyH_takeD 4 (some 67) (.slice (some ⟨gp, op, none⟩) q c) rfl rfl (by kernel_rfl) (by kernel_rfl) (by kernel_rfl) (fun _ _ _ h => h) (Or.inl ⟨by rfl, fun w hSw => by have hq2 := unhide HC3 w hSw; clear hSw; go_simp⟩) hS ?_
        simp only [Act.put, List.setIfInBounds_toArray, List.set_cons_zero, List.set_cons_succ]
        refine wpAnyH_takeD 5 (some 68) (.int .i64 (i : Int)) rfl rfl (by kernel_rfl) (by kernel_rfl) (by kernel_rfl) (fun _ _ _ h => h) (Or.inl ⟨by rfl, fun w hSw => by have hq2 := unhide HC3 w hSw; clear hSw; go_simp⟩) hS ?_
        simp only [Act.put, List.setIfInBounds_toArray, List.set_cons_zero, List.set_cons_succ]
        refine wpAnyH_takeD 6 (some 69) (.pointer (some ⟨gp, op + i * 4, none⟩)) rfl rfl (by kernel_rfl) (by kernel_rfl) (by kernel_rfl) (fun _ _ _ h => h) (Or.inl ⟨by rfl, fun w hSw => by have hq2 := unhide HC3 w hSw; clear hSw; go_simp⟩) hS ?_
        simp only [Act.put, List.setIfInBounds_toArray, List.set_cons_zero, List.set_cons_succ]
        refine wpAnyH_takeD 7 (some 70) (.pointer (some ⟨gp, op + i * 4 + 3, none⟩)) rfl rfl (by kernel_rfl) (by kernel_rfl) (by kernel_rfl) (fun _ _ _ h => h) (Or.inl ⟨by rfl, fun w hSw => by have hq2 := unhide HC3 w hSw; clear hSw; go_simp⟩) hS ?_
        simp only [Act.put, List.setIfInBounds_toArray, List.set_cons_zero, List.set_cons_succ]
        refine wpAnyH_takeD 8 (some 71) (.string x) rfl rfl (by kernel_rfl) (by kernel_rfl) (by kernel_rfl) (fun _ _ _ h => h) (Or.inl ⟨by rfl, fun w hSw => by have hq2 := unhide HC3 w hSw; clear hSw; go_simp⟩) hS ?_
        simp only [Act.put, List.setIfInBounds_toArray, List.set_cons_zero, List.set_cons_succ]
        refine wpAnyH_ready (rs := [3, 9]) (by kernel_rfl) (by simp) ?_
        refine AllReadyH.cons rfl (fun K hK => ?_) (AllReadyH.cons rfl (fun K hK => ?_) AllReadyH.nil)
        · simp only [List.getElem_toArray, List.getElem_cons_succ, List.getElem_cons_zero]
          go_simp
          refine hK.out _ _ hS (fun hS => ?_)
          clear hK K
          refine wpAnyH_ready (rs := [9]) (by kernel_rfl) (by simp) ?_
          refine AllReadyH.cons rfl (fun K hK => ?_) AllReadyH.nil
          simp only [List.getElem_toArray, List.getElem_cons_succ, List.getElem_cons_zero]
          go_simp
          refine hK.out _ _ (unhide HBA) (fun hS => ?_)
          clear hK K
          refine wpAnyH_ready (rs := [10]) (by kernel_rfl) (by simp) ?_
          refine AllReadyH.cons rfl (fun Kk hKk => ?_) AllReadyH.nil
          simp only [List.getElem_toArray, List.getElem_cons_succ, List.getElem_cons_zero]
          rw [if_pos (by rfl)]
          refine wp_append_lies _ (.tmp 66) (.tmp 72) 22 rfl (b + 4) 9 i0 (.string ⟨#[]⟩) 1 16 Tryd.underlying22 (unhide HI).1 (unhide HI).2.1 (unhide HI).2.2.1 (unhide HI).2.2.2 rfl (by decide) _ n _ rfl (unhide HOW) ⟨y4.heap.size, 0, none⟩ 1 1 [.string x] rfl rfl (fun q u hu => gr_new y4 9 _ q u hu) (by simp [Value.oneCell']) (by decide) (by unfold maxLen; omega) (by omega) (unhide HBS) (y4.heap.size + 1) (by simp) ?_
          intro g5 cap5 x5 ho5 hg5 hgg hgl5
          obtain ⟨hnew, hb5, hb6, cl5, fl5⟩ := unhide HAP g5 cap5 x5 ho5 hg5 hgg
          have HTN := hide hnew
          simp only [Act.put, List.setIfInBounds_toArray, List.set_cons_zero, List.set_cons_succ]
          refine hKk.out _ _ hb5 (fun hS => ?_)
          clear hKk Kk ho5 hg5 hgg hgl5 hnew
          refine wpAnyH_takeD 11 (some 74) (.pointer (some ⟨b, k, none⟩)) rfl rfl (by kernel_rfl) (by kernel_rfl) (by kernel_rfl) (fun _ _ _ h => h) (Or.inl ⟨by rfl, fun w hSw => by have hq2 := unhide HC3 w hSw; clear hSw; go_simp⟩) hS ?_
          simp only [Act.put, List.setIfInBounds_toArray, List.set_cons_zero, List.set_cons_succ]
          refine wpAnyH_ready (rs := [12]) (by kernel_rfl) (by simp) ?_
          refine AllReadyH.cons rfl (fun K hK => ?_) AllReadyH.nil
          simp only [List.getElem_toArray, List.getElem_cons_succ, List.getElem_cons_zero]
          go_simp
          refine hK.out _ _ hb6 (fun hS => ?_)
          clear hK K
          refine wpAnyH_done (by kernel_rfl) ?_ _
          clear hS cl5 fl5 hb5 hb6
          clear HB4 HBA HBS HOW HAP cA1 cA2 cv1 fv1
          go_wp2
          go_roundw
          case rel => exact ⟨i + 1, upF L k l', _, by omega, by go_num, HTN⟩
          case measure => simp [intOf] <;> omega
        · simp only [List.getElem_toArray, List.getElem_cons_succ, List.getElem_cons_zero]
          go_simp
          refine hK.out _ _ (unhide HBA) (fun hS => ?_)
          clear hK K
          refine wpAnyH_ready (rs := [3]) (by kernel_rfl) (by simp) ?_
          refine AllReadyH.cons rfl (fun K hK => ?_) AllReadyH.nil
          simp only [List.getElem_toArray, List.getElem_cons_succ, List.getElem_cons_zero]
          go_simp
          refine hK.out _ _ (unhide HBA) (fun hS => ?_)
          clear hK K
          refine wpAnyH_ready (rs := [10]) (by kernel_rfl) (by simp) ?_
          refine AllReadyH.cons rfl (fun Kk hKk => ?_) AllReadyH.nil
          simp only [List.getElem_toArray, List.getElem_cons_succ, List.getElem_cons_zero]
          rw [if_pos (by rfl)]
          refine wp_append_lies _ (.tmp 66) (.tmp 72) 22 rfl (b + 4) 9 i0 (.string ⟨#[]⟩) 1 16 Tryd.underlying22 (unhide HI).1 (unhide HI).2.1 (unhide HI).2.2.1 (unhide HI).2.2.2 rfl (by decide) _ n _ rfl (unhide HOW) ⟨y4.heap.size, 0, none⟩ 1 1 [.string x] rfl rfl (fun q u hu => gr_new y4 9 _ q u hu) (by simp [Value.oneCell']) (by decide) (by unfold maxLen; omega) (by omega) (unhide HBS) (y4.heap.size + 1) (by simp) ?_
          intro g5 cap5 x5 ho5 hg5 hgg hgl5
          obtain ⟨hnew, hb5, hb6, cl5, fl5⟩ := unhide HAP g5 cap5 x5 ho5 hg5 hgg
          have HTN := hide hnew
          simp only [Act.put, List.setIfInBounds_toArray, List.set_cons_zero, List.set_cons_succ]
          refine hKk.out _ _ hb5 (fun hS => ?_)
          clear hKk Kk ho5 hg5 hgg hgl5 hnew
          refine wpAnyH_takeD 11 (some 74) (.pointer (some ⟨b, k, none⟩)) rfl rfl (by kernel_rfl) (by kernel_rfl) (by kernel_rfl) (fun _ _ _ h => h) (Or.inl ⟨by rfl, fun w hSw => by have hq2 := unhide HC3 w hSw; clear hSw; go_simp⟩) hS ?_
          simp only [Act.put, List.setIfInBounds_toArray, List.set_cons_zero, List.set_cons_succ]
          refine wpAnyH_ready (rs := [12]) (by kernel_rfl) (by simp) ?_
          refine AllReadyH.cons rfl (fun K hK => ?_) AllReadyH.nil
          simp only [List.getElem_toArray, List.getElem_cons_succ, List.getElem_cons_zero]
          go_simp
          refine hK.out _ _ hb6 (fun hS => ?_)
          clear hK K
          refine wpAnyH_done (by kernel_rfl) ?_ _
          clear hS cl5 fl5 hb5 hb6
          clear HB4 HBA HBS HOW HAP cA1 cA2 cv1 fv1
          go_wp2
          go_roundw
          case rel => exact ⟨i + 1, upF L k l', _, by omega, by go_num, HTN⟩
          case measure => simp [intOf] <;> omega
      · have e4 : ¬ (n : Int) < 4096 := by omega
        have hl2 : l' = L k := by rw [← hl', if_pos (by omega)]
        have HTN := hide (show TsI w h b y4 L L V from by
          have := unhide HTS5
          rw [hl2, upF_id] at this
          exact this)
        clear hn hvk hl' hl2 HTS4 HTS5
        go_wp2
        go_roundw
        case rel => exact ⟨i + 1, L, V, by omega, by go_num, HTN⟩
        case measure => simp [intOf] <;> omega
    have d1 : (kd == 1) = false := by simpa using k1
    by_cases k5 : kd = 5
    · subst k5
      go_wp2_with fail
      refine (unhide HPM _).mono ?_
      rintro e y ⟨m0, hm0, rfl, hy⟩
      subst y
      clear HPM hc2 hc0 d1 k1
      go_wp2
      go_loopw [8] (fun nv wr => ∃ (m : Nat) (L : Nat → List ByteArray) (V : Nat → Value), m < 5000 ∧ nv = .int .i64 (m : Int) ∧ Hid (TsI w h b wr L L V)) (fun nv _ => (intOf nv).toNat)
      case atStart => exact ⟨m0, _, _, hm0, rfl, HTS⟩
      case round =>
      clear HTS
      obtain ⟨m, L, V, hm5, rfl, HTS⟩ := hrel
      obtain ⟨wi, rfl⟩ : ∃ z, z = wr := ⟨_, rfl⟩
      by_cases hm0 : 0 < m
      · have e5 : (m : Int) > 0 := by omega
        have HTS0 := hide (((unhide HTS).bel' (Below.refl _ _).drew).tre k hk2)
        obtain ⟨l', hl'⟩ : ∃ z, (if (L k).length = 4096 then L k else L k ++ [x]) = z := ⟨_, rfl⟩
        have HAD := hide (fun hT => tadd_any (L k) x (by omega) (b + 1 + k) wi.drew hT (unhide HKB _ ((unhide HTS).bel' (Below.refl _ _).drew).bel) (by omega))
        rw [hl'] at HAD
        obtain ⟨AT, hAT⟩ : ∃ AT : World → Prop, AT = fun y => Below h w y ∧ y.cell? ⟨b + 3, k, none⟩ = some (.pointer (some ⟨b + 1 + k, 0, none⟩)) := ⟨_, rfl⟩
        have HAT := hide (show AT wi.drew from by rw [hAT]; exact ⟨((unhide HTS).bel' (Below.refl _ _).drew).bel, ((unhide HTS).bel' (Below.refl _ _).drew).cellT k hk2⟩)
        have HC := hide (show ∀ y, AT y → y.cell? ⟨b + 3, k, none⟩ = some (.pointer (some ⟨b + 1 + k, 0, none⟩)) ∧ y.cell? ⟨gp, op + i * 4 + 3, none⟩ = some (.string x) from fun y hy => by
          rw [hAT] at hy
          exact ⟨hy.2, unhide HC3 y hy.1⟩)
        have HGR := hide (show ∀ y4, TrM y4 (b + 1 + k) l' → Touch (b + 1 + k) wi.drew y4 → TsI w h b y4 (upF L k l') L V from fun y4 h1 h2 => ((unhide HTS).bel' (Below.refl _ _).drew).grow k hk2 l' h2 h1)
        have HSA := hide (show ∀ y4, TrM y4 (b + 1 + k) l' → Touch (b + 1 + k) wi.drew y4 → AT y4 from fun y4 h1 h2 => by
          rw [hAT]
          have := unhide HGR y4 h1 h2
          exact ⟨this.bel, this.cellT k hk2⟩)
        have hk0 : (k : Int) < 2 := by omega
        clear hAT HTS
        go_wp2_with fail
        refine wp_region_held_drew (S := AT) (by kernel_rfl) (unhide HAT) ?_
        intro hS
        refine wpAnyH_takeD 0 (some 87) (.slice (some ⟨b + 3, 0, none⟩) 2 2) rfl rfl (by kernel_rfl) (by kernel_rfl) (by kernel_rfl) (fun _ _ _ h => h) (Or.inl ⟨by rfl, fun w hSw => by obtain ⟨hq1, hq2⟩ := unhide HC w hSw; clear hSw; go_simp⟩) hS ?_
        simp only [Act.put, List.setIfInBounds_toArray, List.set_cons_zero, List.set_cons_succ]
        refine wpAnyH_takeD 1 (some 88) (.int .i64 (k : Int)) rfl rfl (by kernel_rfl) (by kernel_rfl) (by kernel_rfl) (fun _ _ _ h => h) (Or.inl ⟨by rfl, fun w hSw => by obtain ⟨hq1, hq2⟩ := unhide HC w hSw; clear hSw; go_simp⟩) hS ?_
        simp only [Act.put, List.setIfInBounds_toArray, List.set_cons_zero, List.set_cons_succ]
        refine wpAnyH_takeD 2 (some 89) (.pointer (some ⟨b + 3, k, none⟩)) rfl rfl (by kernel_rfl) (by kernel_rfl) (by kernel_rfl) (fun _ _ _ h => h) (Or.inl ⟨by rfl, fun w hSw => by obtain ⟨hq1, hq2⟩ := unhide HC w hSw; clear hSw; go_simp⟩) hS ?_
        simp only [Act.put, List.setIfInBounds_toArray, List.set_cons_zero, List.set_cons_succ]
        refine wpAnyH_takeD 3 (some 90) (.pointer (some ⟨b + 1 + k, 0, none⟩)) rfl rfl (by kernel_rfl) (by kernel_rfl) (by kernel_rfl) (fun _ _ _ h => h) (Or.inl ⟨by rfl, fun w hSw => by obtain ⟨hq1, hq2⟩ := unhide HC w hSw; clear hSw; go_simp⟩) hS ?_
        simp only [Act.put, List.setIfInBounds_toArray, List.set_cons_zero, List.set_cons_succ]
        refine wpAnyH_takeD 4 (some 91) (.slice (some ⟨gp, op, none⟩) q c) rfl rfl (by kernel_rfl) (by kernel_rfl) (by kernel_rfl) (fun _ _ _ h => h) (Or.inl ⟨by rfl, fun w hSw => by obtain ⟨hq1, hq2⟩ := unhide HC w hSw; clear hSw; go_simp⟩) hS ?_
        simp only [Act.put, List.setIfInBounds_toArray, List.set_cons_zero, List.set_cons_succ]
        refine wpAnyH_takeD 5 (some 92) (.int .i64 (i : Int)) rfl rfl (by kernel_rfl) (by kernel_rfl) (by kernel_rfl) (fun _ _ _ h => h) (Or.inl ⟨by rfl, fun w hSw => by obtain ⟨hq1, hq2⟩ := unhide HC w hSw; clear hSw; go_simp⟩) hS ?_
        simp only [Act.put, List.setIfInBounds_toArray, List.set_cons_zero, List.set_cons_succ]
        refine wpAnyH_takeD 6 (some 93) (.pointer (some ⟨gp, op + i * 4, none⟩)) rfl rfl (by kernel_rfl) (by kernel_rfl) (by kernel_rfl) (fun _ _ _ h => h) (Or.inl ⟨by rfl, fun w hSw => by obtain ⟨hq1, hq2⟩ := unhide HC w hSw; clear hSw; go_simp⟩) hS ?_
        simp only [Act.put, List.setIfInBounds_toArray, List.set_cons_zero, List.set_cons_succ]
        refine wpAnyH_takeD 7 (some 94) (.pointer (some ⟨gp, op + i * 4 + 3, none⟩)) rfl rfl (by kernel_rfl) (by kernel_rfl) (by kernel_rfl) (fun _ _ _ h => h) (Or.inl ⟨by rfl, fun w hSw => by obtain ⟨hq1, hq2⟩ := unhide HC w hSw; clear hSw; go_simp⟩) hS ?_
        simp only [Act.put, List.setIfInBounds_toArray, List.set_cons_zero, List.set_cons_succ]
        refine wpAnyH_takeD 8 (some 95) (.string x) rfl rfl (by kernel_rfl) (by kernel_rfl) (by kernel_rfl) (fun _ _ _ h => h) (Or.inl ⟨by rfl, fun w hSw => by obtain ⟨hq1, hq2⟩ := unhide HC w hSw; clear hSw; go_simp⟩) hS ?_
        simp only [Act.put, List.setIfInBounds_toArray, List.set_cons_zero, List.set_cons_succ]
        refine wpAnyH_ready (rs := [9]) (by kernel_rfl) (by simp) ?_
        refine AllReadyH.cons rfl (fun K hK => ?_) AllReadyH.nil
        simp only [List.getElem_toArray, List.getElem_cons_succ, List.getElem_cons_zero]
        go_simp
        refine (unhide HAD (unhide HTS0)).mono ?_
        rintro e y4 ⟨rfl, hT4, ht4⟩
        have hS9 := unhide HSA y4 hT4 ht4
        have HTS4 := hide (unhide HGR _ hT4 ht4)
        clear hT4 ht4
        refine hK.out _ _ hS9 (fun hS => ?_)
        clear hK K
        refine wpAnyH_done (by kernel_rfl) ?_ _
        clear hS HAT HC HSA HGR HAD HTS0 hS9
        have HTS5 := HTS4
        obtain ⟨pk, ck, hvk, _, hck1, hck2⟩ := (unhide HTS5).form k hk2
        have hln := (unhide HTS5).len k hk2
        obtain ⟨n, hn⟩ : ∃ z, (L k).length = z := ⟨_, rfl⟩
        rw [hn] at hvk hck1 hln
        have cv1 := ((unhide HTS5).cellV k hk2).1
        have fv1 := ((unhide HTS5).cellV k hk2).2
        rw [hvk] at cv1
        by_cases hn4 : n < 4096
        · have e4 : (n : Int) < 4096 := by omega
          have hl2 : l' = L k ++ [x] := by rw [← hl', if_neg (by omega)]
          have HB4 := hide (show Below h w y4.drew from ((unhide HTS5).bel' (Below.refl _ _).drew).bel)
          have hzb := (unhide HTS5).sz
          have HBA := hide (show Below h w ((y4.alloc (.cells #[.string x] 9)).drew) from ((unhide HTS5).bel.alloc (by omega) _).drew)
          have HBS := hide (show b + 4 ≤ ((y4.alloc (.cells #[.string x] 9)).drew).heap.size from by simp; omega)
          have HOW := hide (show ((y4.alloc (.cells #[.string x] 9)).drew).ownsRow (b + 4) 9 1 (.slice pk n ck) n ((L k).map Value.string) from by
            have := (((unhide HTS5).own k hk2).alloc (.cells #[.string x] 9)).drew
            rw [hvk, hn] at this
            exact this)
          have HAP := hide (show ∀ g5 cap5 x5, x5.ownsRow (b + 4) 9 1 (.slice (some ⟨g5, 0, none⟩) (n + 1) cap5) (n + 1) ((L k).map Value.string ++ [.string x]) → ((y4.alloc (.cells #[.string x] 9)).drew).grownBy x5 (Value.slice pk n ck).ownBlock → ((Value.slice pk n ck).ownBlock = some g5 ∨ g5 = y4.heap.size + 1) → TsI w h b (x5.setCell ⟨b, k, none⟩ (.slice (some ⟨g5, 0, none⟩) (n + 1) cap5)) (upF L k l') (upF L k l') (upF V k (.slice (some ⟨g5, 0, none⟩) (n + 1) cap5)) ∧ Below h w x5 ∧ Below h w (x5.setCell ⟨b, k, none⟩ (.slice (some ⟨g5, 0, none⟩) (n + 1) cap5)) ∧ x5.cell? ⟨b, k, none⟩ = some (.slice pk n ck) ∧ x5.frozen? ⟨b, k, none⟩ = false from fun g5 cap5 x5 a1 a2 a3 => by
            have hx := (unhide HTS5).bel' (Below.refl _ _).drew
            rw [← hvk] at a2 a3
            have hap := hx.app k hk2 x (by omega) (by rw [hn]; exact hn4) (g5 := g5) (cap5 := cap5) (x5 := x5) (by rw [hn]; exact a1) a2 a3
            rw [hn, ← hl2] at hap
            have hB : Below (b + 4) y4.drew x5 := ((Below.refl _ y4.drew).alloc hx.sz (.cells #[.string x] 9)).grown a2 (by simp; omega) (fun q hq => ((hx.own k hk2).lt q hq).1)
            have hcv := hx.cellV k hk2
            rw [hvk] at hcv
            have hbz : b < y4.drew.heap.size := by have := hx.sz; omega
            exact ⟨hap, hx.bel.trans (hB.mono (by omega)), hap.bel, (hB.cell (p := ⟨b, k, none⟩) (by show b < b + 4; omega)).trans hcv.1, (hx.box.below hB (by omega)).frozen k⟩)
          have cA1 : ((y4.alloc (.cells #[.string x] 9)).drew).cell? ⟨b, k, none⟩ = some (.slice pk n ck) := (((Below.refl y4.heap.size y4).alloc (Nat.le_refl _) (.cells #[.string x] 9)).cell (p := ⟨b, k, none⟩) (by show b < _; omega)).trans cv1
          have cA2 : (y4.alloc (.cells #[.string x] 9)).cell? ⟨b, k, none⟩ = some (.slice pk n ck) := cA1
          clear hn hvk hl' hl2 HTS4 HTS5
          go_wp2_with fail
          refine wp_region_held_drew (S := fun W => Below h w W) (by kernel_rfl) (unhide HB4) ?_
          intro hS
          refine wpAnyH_takeD 0 (some 102) (.int .i64 (k : Int)) rfl rfl (by kernel_rfl) (by kernel_rfl) (by kernel_rfl) (fun _ _ _ h => h) (Or.inl ⟨by rfl, fun w hSw => by have hq2 := unhide HC3 w hSw; clear hSw; go_simp⟩) hS ?_
          simp only [Act.put, List.setIfInBounds_toArray, List.set_cons_zero, List.set_cons_succ]
          refine wpAnyH_takeD 1 (some 103) (.int .i64 (k : Int)) rfl rfl (by kernel_rfl) (by kernel_rfl) (by kernel_rfl) (fun _ _ _ h => h) (Or.inl ⟨by rfl, fun w hSw => by have hq2 := unhide HC3 w hSw; clear hSw; go_simp⟩) hS ?_
          simp only [Act.put, List.setIfInBounds_toArray, List.set_cons_zero, List.set_cons_succ]
          refine wpAnyH_takeD 2 (some 104) (.pointer (some ⟨b, k, none⟩)) rfl rfl (by kernel_rfl) (by kernel_rfl) (by kernel_rfl) (fun _ _ _ h => h) (Or.inl ⟨by rfl, fun w hSw => by have hq2 := unhide HC3 w hSw; clear hSw; go_simp⟩) hS ?_
          simp only [Act.put, List.setIfInBounds_toArray, List.set_cons_zero, List.set_cons_succ]
          refine wpAnyH_takeD 4 (some 106) (.slice (some ⟨gp, op, none⟩) q c) rfl rfl (by kernel_rfl) (by kernel_rfl) (by kernel_rfl) (fun _ _ _ h => h) (Or.inl ⟨by rfl, fun w hSw => by have hq2 := unhide HC3 w hSw; clear hSw; go_simp⟩) hS ?_
          simp only [Act.put, List.setIfInBounds_toArray, List.set_cons_zero, List.set_cons_succ]
          refine wpAnyH_takeD 5 (some 107) (.int .i64 (i : Int)) rfl rfl (by kernel_rfl) (by kernel_rfl) (by kernel_rfl) (fun _ _ _ h => h) (Or.inl ⟨by rfl, fun w hSw => by have hq2 := unhide HC3 w hSw; clear hSw; go_simp⟩) hS ?_
          simp only [Act.put, List.setIfInBounds_toArray, List.set_cons_zero, List.set_cons_succ]
          refine wpAnyH_takeD 6 (some 108) (.pointer (some ⟨gp, op + i * 4, none⟩)) rfl rfl (by kernel_rfl) (by kernel_rfl) (by kernel_rfl) (fun _ _ _ h => h) (Or.inl ⟨by rfl, fun w hSw => by have hq2 := unhide HC3 w hSw; clear hSw; go_simp⟩) hS ?_
          simp only [Act.put, List.setIfInBounds_toArray, List.set_cons_zero, List.set_cons_succ]
          refine wpAnyH_takeD 7 (some 109) (.pointer (some ⟨gp, op + i * 4 + 3, none⟩)) rfl rfl (by kernel_rfl) (by kernel_rfl) (by kernel_rfl) (fun _ _ _ h => h) (Or.inl ⟨by rfl, fun w hSw => by have hq2 := unhide HC3 w hSw; clear hSw; go_simp⟩) hS ?_
          simp only [Act.put, List.setIfInBounds_toArray, List.set_cons_zero, List.set_cons_succ]
          refine wpAnyH_takeD 8 (some 110) (.string x) rfl rfl (by kernel_rfl) (by kernel_rfl) (by kernel_rfl) (fun _ _ _ h => h) (Or.inl ⟨by rfl, fun w hSw => by have hq2 := unhide HC3 w hSw; clear hSw; go_simp⟩) hS ?_
          simp only [Act.put, List.setIfInBounds_toArray, List.set_cons_zero, List.set_cons_succ]
          refine wpAnyH_ready (rs := [3, 9]) (by kernel_rfl) (by simp) ?_
          refine AllReadyH.cons rfl (fun K hK => ?_) (AllReadyH.cons rfl (fun K hK => ?_) AllReadyH.nil)
          · simp only [List.getElem_toArray, List.getElem_cons_succ, List.getElem_cons_zero]
            go_simp
            refine hK.out _ _ hS (fun hS => ?_)
            clear hK K
            refine wpAnyH_ready (rs := [9]) (by kernel_rfl) (by simp) ?_
            refine AllReadyH.cons rfl (fun K hK => ?_) AllReadyH.nil
            simp only [List.getElem_toArray, List.getElem_cons_succ, List.getElem_cons_zero]
            go_simp
            refine hK.out _ _ (unhide HBA) (fun hS => ?_)
            clear hK K
            refine wpAnyH_ready (rs := [10]) (by kernel_rfl) (by simp) ?_
            refine AllReadyH.cons rfl (fun Kk hKk => ?_) AllReadyH.nil
            simp only [List.getElem_toArray, List.getElem_cons_succ, List.getElem_cons_zero]
            rw [if_pos (by rfl)]
            refine wp_append_lies _ (.tmp 105) (.tmp 111) 22 rfl (b + 4) 9 i0 (.string ⟨#[]⟩) 1 16 Tryd.underlying22 (unhide HI).1 (unhide HI).2.1 (unhide HI).2.2.1 (unhide HI).2.2.2 rfl (by decide) _ n _ rfl (unhide HOW) ⟨y4.heap.size, 0, none⟩ 1 1 [.string x] rfl rfl (fun q u hu => gr_new y4 9 _ q u hu) (by simp [Value.oneCell']) (by decide) (by unfold maxLen; omega) (by omega) (unhide HBS) (y4.heap.size + 1) (by simp) ?_
            intro g5 cap5 x5 ho5 hg5 hgg hgl5
            obtain ⟨hnew, hb5, hb6, cl5, fl5⟩ := unhide HAP g5 cap5 x5 ho5 hg5 hgg
            have HTN := hide hnew
            simp only [Act.put, List.setIfInBounds_toArray, List.set_cons_zero, List.set_cons_succ]
            refine hKk.out _ _ hb5 (fun hS => ?_)
            clear hKk Kk ho5 hg5 hgg hgl5 hnew
            refine wpAnyH_takeD 11 (some 113) (.pointer (some ⟨b, k, none⟩)) rfl rfl (by kernel_rfl) (by kernel_rfl) (by kernel_rfl) (fun _ _ _ h => h) (Or.inl ⟨by rfl, fun w hSw => by have hq2 := unhide HC3 w hSw; clear hSw; go_simp⟩) hS ?_
            simp only [Act.put, List.setIfInBounds_toArray, List.set_cons_zero, List.set_cons_succ]
            refine wpAnyH_ready (rs := [12]) (by kernel_rfl) (by simp) ?_
            refine AllReadyH.cons rfl (fun K hK => ?_) AllReadyH.nil
            simp only [List.getElem_toArray, List.getElem_cons_succ, List.getElem_cons_zero]
            go_simp
            refine hK.out _ _ hb6 (fun hS => ?_)
            clear hK K
            refine wpAnyH_done (by kernel_rfl) ?_ _
            clear hS cl5 fl5 hb5 hb6
            clear HB4 HBA HBS HOW HAP cA1 cA2 cv1 fv1
            go_wp2
            go_roundw
            case rel => exact ⟨m - 1, upF L k l', _, by omega, by go_num, HTN⟩
            case measure => simp [intOf] <;> omega
          · simp only [List.getElem_toArray, List.getElem_cons_succ, List.getElem_cons_zero]
            go_simp
            refine hK.out _ _ (unhide HBA) (fun hS => ?_)
            clear hK K
            refine wpAnyH_ready (rs := [3]) (by kernel_rfl) (by simp) ?_
            refine AllReadyH.cons rfl (fun K hK => ?_) AllReadyH.nil
            simp only [List.getElem_toArray, List.getElem_cons_succ, List.getElem_cons_zero]
            go_simp
            refine hK.out _ _ (unhide HBA) (fun hS => ?_)
            clear hK K
            refine wpAnyH_ready (rs := [10]) (by kernel_rfl) (by simp) ?_
            refine AllReadyH.cons rfl (fun Kk hKk => ?_) AllReadyH.nil
            simp only [List.getElem_toArray, List.getElem_cons_succ, List.getElem_cons_zero]
            rw [if_pos (by rfl)]
            refine wp_append_lies _ (.tmp 105) (.tmp 111) 22 rfl (b + 4) 9 i0 (.string ⟨#[]⟩) 1 16 Tryd.underlying22 (unhide HI).1 (unhide HI).2.1 (unhide HI).2.2.1 (unhide HI).2.2.2 rfl (by decide) _ n _ rfl (unhide HOW) ⟨y4.heap.size, 0, none⟩ 1 1 [.string x] rfl rfl (fun q u hu => gr_new y4 9 _ q u hu) (by simp [Value.oneCell']) (by decide) (by unfold maxLen; omega) (by omega) (unhide HBS) (y4.heap.size + 1) (by simp) ?_
            intro g5 cap5 x5 ho5 hg5 hgg hgl5
            obtain ⟨hnew, hb5, hb6, cl5, fl5⟩ := unhide HAP g5 cap5 x5 ho5 hg5 hgg
            have HTN := hide hnew
            simp only [Act.put, List.setIfInBounds_toArray, List.set_cons_zero, List.set_cons_succ]
            refine hKk.out _ _ hb5 (fun hS => ?_)
            clear hKk Kk ho5 hg5 hgg hgl5 hnew
            refine wpAnyH_takeD 11 (some 113) (.pointer (some ⟨b, k, none⟩)) rfl rfl (by kernel_rfl) (by kernel_rfl) (by kernel_rfl) (fun _ _ _ h => h) (Or.inl ⟨by rfl, fun w hSw => by have hq2 := unhide HC3 w hSw; clear hSw; go_simp⟩) hS ?_
            simp only [Act.put, List.setIfInBounds_toArray, List.set_cons_zero, List.set_cons_succ]
            refine wpAnyH_ready (rs := [12]) (by kernel_rfl) (by simp) ?_
            refine AllReadyH.cons rfl (fun K hK => ?_) AllReadyH.nil
            simp only [List.getElem_toArray, List.getElem_cons_succ, List.getElem_cons_zero]
            go_simp
            refine hK.out _ _ hb6 (fun hS => ?_)
            clear hK K
            refine wpAnyH_done (by kernel_rfl) ?_ _
            clear hS cl5 fl5 hb5 hb6
            clear HB4 HBA HBS HOW HAP cA1 cA2 cv1 fv1
            go_wp2
            go_roundw
            case rel => exact ⟨m - 1, upF L k l', _, by omega, by go_num, HTN⟩
            case measure => simp [intOf] <;> omega
        · have e4 : ¬ (n : Int) < 4096 := by omega
          have hl2 : l' = L k := by rw [← hl', if_pos (by omega)]
          have HTN := hide (show TsI w h b y4 L L V from by
            have := unhide HTS5
            rw [hl2, upF_id] at this
            exact this)
          clear hn hvk hl' hl2 HTS4 HTS5
          go_wp2
          go_roundw
          case rel => exact ⟨m - 1, L, V, by omega, by go_num, HTN⟩
          case measure => simp [intOf] <;> omega
      obtain rfl : m = 0 := by omega
      have e5 : ¬ (((0 : Nat)) : Int) > 0 := by omega
      go_wp2
      go_roundw
      case rel => exact ⟨i + 1, L, V, by omega, by go_num, HTS⟩
      case measure => simp [intOf] <;> omega
    have d5 : (kd == 5) = false := by simpa using k5
    by_cases k2 : kd = 2
    · subst k2
      obtain ⟨AT, hAT⟩ : ∃ AT : World → Prop, AT = fun y => TsI w h b y L L V := ⟨_, rfl⟩
      have HAT := hide (show AT wi.drew from by rw [hAT]; exact (unhide HTS).bel' (Below.refl _ _).drew)
      obtain ⟨pk, ck, hvk, _, hck1, hck2⟩ := (unhide HTS).form k hk2
      have hln := (unhide HTS).len k hk2
      have hsht := (unhide HTS).sht k hk2
      obtain ⟨l, hl⟩ : ∃ z, L k = z := ⟨_, rfl⟩
      obtain ⟨n, hn⟩ : ∃ z, l.length = z := ⟨_, rfl⟩
      rw [hl, hn] at hvk hck1
      rw [hl, hn] at hln
      rw [hl] at hsht
      have HC := hide (show ∀ y, AT y → y.cell? ⟨b + 3, k, none⟩ = some (.pointer (some ⟨b + 1 + k, 0, none⟩)) ∧ y.cell? ⟨b, k, none⟩ = some (.slice pk n ck) from fun y hy => by
        rw [hAT] at hy
        exact ⟨hy.cellT k hk2, by rw [← hvk]; exact (hy.cellV k hk2).1⟩)
      have HA3 := hide (show ∀ y z, AT y → Below y.heap.size y z → AT z from fun y z hy hz => by
        rw [hAT] at hy ⊢
        exact hy.bel' hz)
      have HSZ := hide (fun y (hy : AT y) => size_any (b + 1 + k) n y (by rw [hAT] at hy; have := (hy.tre k hk2).cell; rw [hl, hn] at this; exact this))
      have HKP := hide (fun y (hy : AT y) => kept_any (b + 1 + k) n hln y (by rw [hAT] at hy; have := (hy.tre k hk2).cell; rw [hl, hn] at this; exact this))
      have HRT := hide (fun y (hy : AT y) => troot_any l (b + 1 + k) y (by rw [hAT] at hy; have := hy.tre k hk2; rw [hl] at this; exact this) (unhide HKB _ (by rw [hAT] at hy; exact hy.bel)) (unhide HTB _ (by rw [hAT] at hy; exact hy.bel)))
      have HSB := hide (show ∀ y, AT y → SB y y.heap.size pk l from fun y hy => by
        rw [hAT] at hy
        obtain ⟨p9, c9, e9, s9, _⟩ := hy.form k hk2
        rw [hvk] at e9
        injection e9 with e9
        subst e9
        rw [hl] at s9
        exact s9)
      have HRR := hide (fun y (hy : AT y) => rroot_any n l hn y y.heap.size ck pk (unhide HSB _ hy) (Nat.le_refl _) hsht (by omega) hck1 hck2)
      have HRO := hide (fun y (hy : AT y) => root_any l n hn y y.heap.size ck pk (unhide HSB _ hy) (Nat.le_refl _) (unhide HKB _ (by rw [hAT] at hy; exact hy.bel)) hsht (by omega) hck1 hck2)
      have HAX := hide (show ∀ y, AT y → TsI w h b y L L V from fun y hy => by rw [hAT] at hy; exact hy)
      obtain ⟨rr, hrr⟩ : ∃ z, rt l = z := ⟨_, rfl⟩
      rw [hrr] at HRT HRR HRO
      clear hrr hAT hsht hl hn hvk HSB
      have hk0 : (k : Int) < 2 := by omega
      clear HTS
      clear HPM hc2 HC3
      go_wp2_with fail
      refine wp_region_held_drew (S := AT) (by kernel_rfl) (unhide HAT) ?_
      intro hS
      refine wpAnyH_takeD 0 (some 116) (.slice (some ⟨b + 3, 0, none⟩) 2 2) rfl rfl (by kernel_rfl) (by kernel_rfl) (by kernel_rfl) (fun _ _ _ h => h) (Or.inl ⟨by rfl, fun w hSw => by obtain ⟨hq1, hq2⟩ := unhide HC w hSw; clear hSw; go_simp⟩) hS ?_
      simp only [Act.put, List.setIfInBounds_toArray, List.set_cons_zero, List.set_cons_succ]
      refine wpAnyH_takeD 1 (some 117) (.int .i64 (k : Int)) rfl rfl (by kernel_rfl) (by kernel_rfl) (by kernel_rfl) (fun _ _ _ h => h) (Or.inl ⟨by rfl, fun w hSw => by obtain ⟨hq1, hq2⟩ := unhide HC w hSw; clear hSw; go_simp⟩) hS ?_
      simp only [Act.put, List.setIfInBounds_toArray, List.set_cons_zero, List.set_cons_succ]
      refine wpAnyH_takeD 2 (some 118) (.pointer (some ⟨b + 3, k, none⟩)) rfl rfl (by kernel_rfl) (by kernel_rfl) (by kernel_rfl) (fun _ _ _ h => h) (Or.inl ⟨by rfl, fun w hSw => by obtain ⟨hq1, hq2⟩ := unhide HC w hSw; clear hSw; go_simp⟩) hS ?_
      simp only [Act.put, List.setIfInBounds_toArray, List.set_cons_zero, List.set_cons_succ]
      refine wpAnyH_takeD 3 (some 119) (.pointer (some ⟨b + 1 + k, 0, none⟩)) rfl rfl (by kernel_rfl) (by kernel_rfl) (by kernel_rfl) (fun _ _ _ h => h) (Or.inl ⟨by rfl, fun w hSw => by obtain ⟨hq1, hq2⟩ := unhide HC w hSw; clear hSw; go_simp⟩) hS ?_
      simp only [Act.put, List.setIfInBounds_toArray, List.set_cons_zero, List.set_cons_succ]
      refine wpAnyH_takeD 5 (some 121) (.int .i64 (k : Int)) rfl rfl (by kernel_rfl) (by kernel_rfl) (by kernel_rfl) (fun _ _ _ h => h) (Or.inl ⟨by rfl, fun w hSw => by obtain ⟨hq1, hq2⟩ := unhide HC w hSw; clear hSw; go_simp⟩) hS ?_
      simp only [Act.put, List.setIfInBounds_toArray, List.set_cons_zero, List.set_cons_succ]
      refine wpAnyH_takeD 6 (some 122) (.pointer (some ⟨b, k, none⟩)) rfl rfl (by kernel_rfl) (by kernel_rfl) (by kernel_rfl) (fun _ _ _ h => h) (Or.inl ⟨by rfl, fun w hSw => by obtain ⟨hq1, hq2⟩ := unhide HC w hSw; clear hSw; go_simp⟩) hS ?_
      simp only [Act.put, List.setIfInBounds_toArray, List.set_cons_zero, List.set_cons_succ]
      refine wpAnyH_takeD 7 (some 123) (.slice pk n ck) rfl rfl (by kernel_rfl) (by kernel_rfl) (by kernel_rfl) (fun _ _ _ h => h) (Or.inl ⟨by rfl, fun w hSw => by obtain ⟨hq1, hq2⟩ := unhide HC w hSw; clear hSw; go_simp⟩) hS ?_
      simp only [Act.put, List.setIfInBounds_toArray, List.set_cons_zero, List.set_cons_succ]
      refine wpAnyH_takeD 8 (some 124) (.int .i64 (n : Int)) rfl rfl (by kernel_rfl) (by kernel_rfl) (by kernel_rfl) (fun _ _ _ h => h) (Or.inl ⟨by rfl, fun w hSw => by obtain ⟨hq1, hq2⟩ := unhide HC w hSw; clear hSw; go_simp⟩) hS ?_
      simp only [Act.put, List.setIfInBounds_toArray, List.set_cons_zero, List.set_cons_succ]
      refine wpAnyH_ready (rs := [4]) (by kernel_rfl) (by simp) ?_
      refine AllReadyH.cons rfl (fun K hK => ?_) AllReadyH.nil
      simp only [List.getElem_toArray, List.getElem_cons_succ, List.getElem_cons_zero]
      go_simp
      refine (unhide HSZ _ hS).mono ?_
      rintro e y ⟨rfl, hy⟩
      subst y
      refine hK.out _ _ hS (fun hS => ?_)
      clear hK K
      refine wpAnyH_takeD 9 (some 125) (.bool false) rfl rfl (by kernel_rfl) (by kernel_rfl) (by kernel_rfl) (fun _ _ _ h => h) (Or.inl ⟨by rfl, fun w hSw => by obtain ⟨hq1, hq2⟩ := unhide HC w hSw; clear hSw; go_simp⟩) hS ?_
      simp only [Act.put, List.setIfInBounds_toArray, List.set_cons_zero, List.set_cons_succ]
      refine wpAnyH_done (by kernel_rfl) ?_ _
      have HTN := hide (unhide HAX _ hS)
      clear hS HAT HAX HA3 HC HSZ HKP HRT HRR HRO
      go_wp2
      go_roundw
      case rel => exact ⟨i + 1, L, V, by omega, by go_num, HTN⟩
      case measure => simp [intOf] <;> omega
    have d2 : (kd == 2) = false := by simpa using k2
    by_cases k3 : kd = 3
    · subst k3
      obtain ⟨AT, hAT⟩ : ∃ AT : World → Prop, AT = fun y => TsI w h b y L L V := ⟨_, rfl⟩
      have HAT := hide (show AT wi.drew from by rw [hAT]; exact (unhide HTS).bel' (Below.refl _ _).drew)
      obtain ⟨pk, ck, hvk, _, hck1, hck2⟩ := (unhide HTS).form k hk2
      have hln := (unhide HTS).len k hk2
      have hsht := (unhide HTS).sht k hk2
      obtain ⟨l, hl⟩ : ∃ z, L k = z := ⟨_, rfl⟩
      obtain ⟨n, hn⟩ : ∃ z, l.length = z := ⟨_, rfl⟩
      rw [hl, hn] at hvk hck1
      rw [hl, hn] at hln
      rw [hl] at hsht
      have HC := hide (show ∀ y, AT y → y.cell? ⟨b + 3, k, none⟩ = some (.pointer (some ⟨b + 1 + k, 0, none⟩)) ∧ y.cell? ⟨b, k, none⟩ = some (.slice pk n ck) from fun y hy => by
        rw [hAT] at hy
        exact ⟨hy.cellT k hk2, by rw [← hvk]; exact (hy.cellV k hk2).1⟩)
      have HA3 := hide (show ∀ y z, AT y → Below y.heap.size y z → AT z from fun y z hy hz => by
        rw [hAT] at hy ⊢
        exact hy.bel' hz)
      have HSZ := hide (fun y (hy : AT y) => size_any (b + 1 + k) n y (by rw [hAT] at hy; have := (hy.tre k hk2).cell; rw [hl, hn] at this; exact this))
      have HKP := hide (fun y (hy : AT y) => kept_any (b + 1 + k) n hln y (by rw [hAT] at hy; have := (hy.tre k hk2).cell; rw [hl, hn] at this; exact this))
      have HRT := hide (fun y (hy : AT y) => troot_any l (b + 1 + k) y (by rw [hAT] at hy; have := hy.tre k hk2; rw [hl] at this; exact this) (unhide HKB _ (by rw [hAT] at hy; exact hy.bel)) (unhide HTB _ (by rw [hAT] at hy; exact hy.bel)))
      have HSB := hide (show ∀ y, AT y → SB y y.heap.size pk l from fun y hy => by
        rw [hAT] at hy
        obtain ⟨p9, c9, e9, s9, _⟩ := hy.form k hk2
        rw [hvk] at e9
        injection e9 with e9
        subst e9
        rw [hl] at s9
        exact s9)
      have HRR := hide (fun y (hy : AT y) => rroot_any n l hn y y.heap.size ck pk (unhide HSB _ hy) (Nat.le_refl _) hsht (by omega) hck1 hck2)
      have HRO := hide (fun y (hy : AT y) => root_any l n hn y y.heap.size ck pk (unhide HSB _ hy) (Nat.le_refl _) (unhide HKB _ (by rw [hAT] at hy; exact hy.bel)) hsht (by omega) hck1 hck2)
      have HAX := hide (show ∀ y, AT y → TsI w h b y L L V from fun y hy => by rw [hAT] at hy; exact hy)
      obtain ⟨rr, hrr⟩ : ∃ z, rt l = z := ⟨_, rfl⟩
      rw [hrr] at HRT HRR HRO
      clear hrr hAT hsht hl hn hvk HSB
      have hk0 : (k : Int) < 2 := by omega
      clear HTS
      clear HPM hc2 HC3
      go_wp2_with fail
      refine wp_region_held_drew (S := AT) (by kernel_rfl) (unhide HAT) ?_
      intro hS
      refine wpAnyH_takeD 0 (some 128) (.slice (some ⟨b + 3, 0, none⟩) 2 2) rfl rfl (by kernel_rfl) (by kernel_rfl) (by kernel_rfl) (fun _ _ _ h => h) (Or.inl ⟨by rfl, fun w hSw => by obtain ⟨hq1, hq2⟩ := unhide HC w hSw; clear hSw; go_simp⟩) hS ?_
      simp only [Act.put, List.setIfInBounds_toArray, List.set_cons_zero, List.set_cons_succ]
      refine wpAnyH_takeD 1 (some 129) (.int .i64 (k : Int)) rfl rfl (by kernel_rfl) (by kernel_rfl) (by kernel_rfl) (fun _ _ _ h => h) (Or.inl ⟨by rfl, fun w hSw => by obtain ⟨hq1, hq2⟩ := unhide HC w hSw; clear hSw; go_simp⟩) hS ?_
      simp only [Act.put, List.setIfInBounds_toArray, List.set_cons_zero, List.set_cons_succ]
      refine wpAnyH_takeD 2 (some 130) (.pointer (some ⟨b + 3, k, none⟩)) rfl rfl (by kernel_rfl) (by kernel_rfl) (by kernel_rfl) (fun _ _ _ h => h) (Or.inl ⟨by rfl, fun w hSw => by obtain ⟨hq1, hq2⟩ := unhide HC w hSw; clear hSw; go_simp⟩) hS ?_
      simp only [Act.put, List.setIfInBounds_toArray, List.set_cons_zero, List.set_cons_succ]
      refine wpAnyH_takeD 3 (some 131) (.pointer (some ⟨b + 1 + k, 0, none⟩)) rfl rfl (by kernel_rfl) (by kernel_rfl) (by kernel_rfl) (fun _ _ _ h => h) (Or.inl ⟨by rfl, fun w hSw => by obtain ⟨hq1, hq2⟩ := unhide HC w hSw; clear hSw; go_simp⟩) hS ?_
      simp only [Act.put, List.setIfInBounds_toArray, List.set_cons_zero, List.set_cons_succ]
      refine wpAnyH_takeD 5 (some 133) (.int .i64 (k : Int)) rfl rfl (by kernel_rfl) (by kernel_rfl) (by kernel_rfl) (fun _ _ _ h => h) (Or.inl ⟨by rfl, fun w hSw => by obtain ⟨hq1, hq2⟩ := unhide HC w hSw; clear hSw; go_simp⟩) hS ?_
      simp only [Act.put, List.setIfInBounds_toArray, List.set_cons_zero, List.set_cons_succ]
      refine wpAnyH_takeD 6 (some 134) (.pointer (some ⟨b, k, none⟩)) rfl rfl (by kernel_rfl) (by kernel_rfl) (by kernel_rfl) (fun _ _ _ h => h) (Or.inl ⟨by rfl, fun w hSw => by obtain ⟨hq1, hq2⟩ := unhide HC w hSw; clear hSw; go_simp⟩) hS ?_
      simp only [Act.put, List.setIfInBounds_toArray, List.set_cons_zero, List.set_cons_succ]
      refine wpAnyH_takeD 7 (some 135) (.slice pk n ck) rfl rfl (by kernel_rfl) (by kernel_rfl) (by kernel_rfl) (fun _ _ _ h => h) (Or.inl ⟨by rfl, fun w hSw => by obtain ⟨hq1, hq2⟩ := unhide HC w hSw; clear hSw; go_simp⟩) hS ?_
      simp only [Act.put, List.setIfInBounds_toArray, List.set_cons_zero, List.set_cons_succ]
      refine wpAnyH_ready (rs := [4]) (by kernel_rfl) (by simp) ?_
      refine AllReadyH.cons rfl (fun K hK => ?_) AllReadyH.nil
      simp only [List.getElem_toArray, List.getElem_cons_succ, List.getElem_cons_zero]
      go_simp
      refine (unhide HRT _ hS).mono ?_
      rintro e y5 ⟨rfl, hb⟩
      have hS9 := unhide HA3 _ _ hS hb
      clear hb
      refine hK.out _ _ hS9 (fun hS => ?_)
      clear hK K
      refine wpAnyH_ready (rs := [8]) (by kernel_rfl) (by simp) ?_
      refine AllReadyH.cons rfl (fun K hK => ?_) AllReadyH.nil
      simp only [List.getElem_toArray, List.getElem_cons_succ, List.getElem_cons_zero]
      go_simp
      refine (unhide HRR _ hS).mono ?_
      rintro e y6 ⟨rfl, hb⟩
      have hS9 := unhide HA3 _ _ hS hb
      clear hb
      refine hK.out _ _ hS9 (fun hS => ?_)
      clear hK K
      refine wpAnyH_takeD 9 (some 137) (.bool false) rfl rfl (by kernel_rfl) (by kernel_rfl) (by kernel_rfl) (fun _ _ _ h => h) (Or.inl ⟨by rfl, fun w hSw => by obtain ⟨hq1, hq2⟩ := unhide HC w hSw; clear hSw; go_simp⟩) hS ?_
      simp only [Act.put, List.setIfInBounds_toArray, List.set_cons_zero, List.set_cons_succ]
      refine wpAnyH_done (by kernel_rfl) ?_ _
      have HTN := hide (unhide HAX _ hS)
      clear hS HAT HAX HA3 HC HSZ HKP HRT HRR HRO
      go_wp2
      go_roundw
      case rel => exact ⟨i + 1, L, V, by omega, by go_num, HTN⟩
      case measure => simp [intOf] <;> omega
    have d3 : (kd == 3) = false := by simpa using k3
    by_cases k4 : kd = 4
    · subst k4
      obtain ⟨AT, hAT⟩ : ∃ AT : World → Prop, AT = fun y => TsI w h b y L L V := ⟨_, rfl⟩
      have HAT := hide (show AT wi.drew from by rw [hAT]; exact (unhide HTS).bel' (Below.refl _ _).drew)
      obtain ⟨pk, ck, hvk, _, hck1, hck2⟩ := (unhide HTS).form k hk2
      have hln := (unhide HTS).len k hk2
      have hsht := (unhide HTS).sht k hk2
      obtain ⟨l, hl⟩ : ∃ z, L k = z := ⟨_, rfl⟩
      obtain ⟨n, hn⟩ : ∃ z, l.length = z := ⟨_, rfl⟩
      rw [hl, hn] at hvk hck1
      rw [hl, hn] at hln
      rw [hl] at hsht
      have HC := hide (show ∀ y, AT y → y.cell? ⟨b + 3, k, none⟩ = some (.pointer (some ⟨b + 1 + k, 0, none⟩)) ∧ y.cell? ⟨b, k, none⟩ = some (.slice pk n ck) from fun y hy => by
        rw [hAT] at hy
        exact ⟨hy.cellT k hk2, by rw [← hvk]; exact (hy.cellV k hk2).1⟩)
      have HA3 := hide (show ∀ y z, AT y → Below y.heap.size y z → AT z from fun y z hy hz => by
        rw [hAT] at hy ⊢
        exact hy.bel' hz)
      have HSZ := hide (fun y (hy : AT y) => size_any (b + 1 + k) n y (by rw [hAT] at hy; have := (hy.tre k hk2).cell; rw [hl, hn] at this; exact this))
      have HKP := hide (fun y (hy : AT y) => kept_any (b + 1 + k) n hln y (by rw [hAT] at hy; have := (hy.tre k hk2).cell; rw [hl, hn] at this; exact this))
      have HRT := hide (fun y (hy : AT y) => troot_any l (b + 1 + k) y (by rw [hAT] at hy; have := hy.tre k hk2; rw [hl] at this; exact this) (unhide HKB _ (by rw [hAT] at hy; exact hy.bel)) (unhide HTB _ (by rw [hAT] at hy; exact hy.bel)))
      have HSB := hide (show ∀ y, AT y → SB y y.heap.size pk l from fun y hy => by
        rw [hAT] at hy
        obtain ⟨p9, c9, e9, s9, _⟩ := hy.form k hk2
        rw [hvk] at e9
        injection e9 with e9
        subst e9
        rw [hl] at s9
        exact s9)
      have HRR := hide (fun y (hy : AT y) => rroot_any n l hn y y.heap.size ck pk (unhide HSB _ hy) (Nat.le_refl _) hsht (by omega) hck1 hck2)
      have HRO := hide (fun y (hy : AT y) => root_any l n hn y y.heap.size ck pk (unhide HSB _ hy) (Nat.le_refl _) (unhide HKB _ (by rw [hAT] at hy; exact hy.bel)) hsht (by omega) hck1 hck2)
      have HAX := hide (show ∀ y, AT y → TsI w h b y L L V from fun y hy => by rw [hAT] at hy; exact hy)
      obtain ⟨rr, hrr⟩ : ∃ z, rt l = z := ⟨_, rfl⟩
      rw [hrr] at HRT HRR HRO
      clear hrr hAT hsht hl hn hvk HSB
      have hk0 : (k : Int) < 2 := by omega
      clear HTS
      clear HPM hc2 HC3
      go_wp2_with fail
      refine wp_region_held_drew (S := AT) (by kernel_rfl) (unhide HAT) ?_
      intro hS
      refine wpAnyH_takeD 0 (some 140) (.slice (some ⟨b + 3, 0, none⟩) 2 2) rfl rfl (by kernel_rfl) (by kernel_rfl) (by kernel_rfl) (fun _ _ _ h => h) (Or.inl ⟨by rfl, fun w hSw => by obtain ⟨hq1, hq2⟩ := unhide HC w hSw; clear hSw; go_simp⟩) hS ?_
      simp only [Act.put, List.setIfInBounds_toArray, List.set_cons_zero, List.set_cons_succ]
      refine wpAnyH_takeD 1 (some 141) (.int .i64 (k : Int)) rfl rfl (by kernel_rfl) (by kernel_rfl) (by kernel_rfl) (fun _ _ _ h => h) (Or.inl ⟨by rfl, fun w hSw => by obtain ⟨hq1, hq2⟩ := unhide HC w hSw; clear hSw; go_simp⟩) hS ?_
      simp only [Act.put, List.setIfInBounds_toArray, List.set_cons_zero, List.set_cons_succ]
      refine wpAnyH_takeD 2 (some 142) (.pointer (some ⟨b + 3, k, none⟩)) rfl rfl (by kernel_rfl) (by kernel_rfl) (by kernel_rfl) (fun _ _ _ h => h) (Or.inl ⟨by rfl, fun w hSw => by obtain ⟨hq1, hq2⟩ := unhide HC w hSw; clear hSw; go_simp⟩) hS ?_
      simp only [Act.put, List.setIfInBounds_toArray, List.set_cons_zero, List.set_cons_succ]
      refine wpAnyH_takeD 3 (some 143) (.pointer (some ⟨b + 1 + k, 0, none⟩)) rfl rfl (by kernel_rfl) (by kernel_rfl) (by kernel_rfl) (fun _ _ _ h => h) (Or.inl ⟨by rfl, fun w hSw => by obtain ⟨hq1, hq2⟩ := unhide HC w hSw; clear hSw; go_simp⟩) hS ?_
      simp only [Act.put, List.setIfInBounds_toArray, List.set_cons_zero, List.set_cons_succ]
      refine wpAnyH_takeD 5 (some 145) (.int .i64 (k : Int)) rfl rfl (by kernel_rfl) (by kernel_rfl) (by kernel_rfl) (fun _ _ _ h => h) (Or.inl ⟨by rfl, fun w hSw => by obtain ⟨hq1, hq2⟩ := unhide HC w hSw; clear hSw; go_simp⟩) hS ?_
      simp only [Act.put, List.setIfInBounds_toArray, List.set_cons_zero, List.set_cons_succ]
      refine wpAnyH_takeD 6 (some 146) (.pointer (some ⟨b, k, none⟩)) rfl rfl (by kernel_rfl) (by kernel_rfl) (by kernel_rfl) (fun _ _ _ h => h) (Or.inl ⟨by rfl, fun w hSw => by obtain ⟨hq1, hq2⟩ := unhide HC w hSw; clear hSw; go_simp⟩) hS ?_
      simp only [Act.put, List.setIfInBounds_toArray, List.set_cons_zero, List.set_cons_succ]
      refine wpAnyH_takeD 7 (some 147) (.slice pk n ck) rfl rfl (by kernel_rfl) (by kernel_rfl) (by kernel_rfl) (fun _ _ _ h => h) (Or.inl ⟨by rfl, fun w hSw => by obtain ⟨hq1, hq2⟩ := unhide HC w hSw; clear hSw; go_simp⟩) hS ?_
      simp only [Act.put, List.setIfInBounds_toArray, List.set_cons_zero, List.set_cons_succ]
      refine wpAnyH_takeD 8 (some 148) (.int .i64 (n : Int)) rfl rfl (by kernel_rfl) (by kernel_rfl) (by kernel_rfl) (fun _ _ _ h => h) (Or.inl ⟨by rfl, fun w hSw => by obtain ⟨hq1, hq2⟩ := unhide HC w hSw; clear hSw; go_simp⟩) hS ?_
      simp only [Act.put, List.setIfInBounds_toArray, List.set_cons_zero, List.set_cons_succ]
      refine wpAnyH_ready (rs := [4]) (by kernel_rfl) (by simp) ?_
      refine AllReadyH.cons rfl (fun K hK => ?_) AllReadyH.nil
      simp only [List.getElem_toArray, List.getElem_cons_succ, List.getElem_cons_zero]
      go_simp
      refine (unhide HKP _ hS).mono ?_
      rintro e y ⟨rfl, hy⟩
      subst y
      refine hK.out _ _ hS (fun hS => ?_)
      clear hK K
      refine wpAnyH_ready (rs := [9]) (by kernel_rfl) (by simp) ?_
      refine AllReadyH.cons rfl (fun K hK => ?_) AllReadyH.nil
      simp only [List.getElem_toArray, List.getElem_cons_succ, List.getElem_cons_zero]
      go_simp
      refine (rkept_any n (by omega) _).mono ?_
      rintro e y ⟨rfl, hy⟩
      subst y
      refine hK.out _ _ hS (fun hS => ?_)
      clear hK K
      refine wpAnyH_takeD 10 (some 150) (.bool false) rfl rfl (by kernel_rfl) (by kernel_rfl) (by kernel_rfl) (fun _ _ _ h => h) (Or.inl ⟨by rfl, fun w hSw => by obtain ⟨hq1, hq2⟩ := unhide HC w hSw; clear hSw; go_simp⟩) hS ?_
      simp only [Act.put, List.setIfInBounds_toArray, List.set_cons_zero, List.set_cons_succ]
      refine wpAnyH_done (by kernel_rfl) ?_ _
      have HTN := hide (unhide HAX _ hS)
      clear hS HAT HAX HA3 HC HSZ HKP HRT HRR HRO
      go_wp2
      go_roundw
      case rel => exact ⟨i + 1, L, V, by omega, by go_num, HTN⟩
      case measure => simp [intOf] <;> omega
    have d4 : (kd == 4) = false := by simpa using k4
    clear HPM hc2 HC3
    go_wp2
    go_roundw
    case rel => exact ⟨i + 1, L, V, by omega, by go_num, HTS⟩
    case measure => simp [intOf] <;> omega
  obtain rfl : i = q := by omega
  have e1 : ¬ (i : Int) < (i : Int) := by omega
  clear HOP HII
  go_wp2
  go_loopw [9] (fun jv wr => ∃ j : Nat, j ≤ 100 ∧ jv = .int .i64 (j : Int) ∧ Hid (TsI w h b wr L L V)) (fun jv _ => 100 - (intOf jv).toNat)
  case atStart => exact ⟨0, by omega, rfl, HTS⟩
  case round =>
  clear HTS e1
  obtain ⟨j, hj, rfl, HTS⟩ := hrel
  obtain ⟨wi, rfl⟩ : ∃ z, z = wr := ⟨_, rfl⟩
  by_cases hj1 : j < 100
  · have e2 : (j : Int) < 100 := by omega
    obtain ⟨g, hg⟩ : ∃ z, wi.heap.size = z := ⟨_, rfl⟩
    have hgh : h ≤ g := by have := (unhide HTS).bel.size; have := (unhide HTS).sz; omega
    have HNA := hide (tnew_any wi)
    rw [hg] at HNA
    have HSZ0 := hide (fun W (hT : TrM W g []) => size_any g 0 W hT.cell)
    rw [show (((0 : Nat)) : Int) = 0 from rfl] at HSZ0
    have HSZ1 := hide (fun W (hT : TrM W g [(⟨#[122]⟩ : ByteArray)]) => size_any g 1 W hT.cell)
    rw [show (((1 : Nat)) : Int) = 1 from rfl] at HSZ1
    have HAD9 := hide (fun W (hT : TrM W g []) (hW : Below h w W) => tadd_any [] ⟨#[122]⟩ (by decide) g W hT (unhide HKB _ hW) (by omega))
    rw [if_neg (by decide), List.nil_append] at HAD9
    have HRT9 := hide (fun W (hT : TrM W g [(⟨#[122]⟩ : ByteArray)]) (hW : Below h w W) => troot_any [⟨#[122]⟩] g W hT (unhide HKB _ hW) (unhide HTB _ hW))
    have HRR9 := hide (fun W p (hS : SB W W.heap.size p [(⟨#[122]⟩ : ByteArray)]) => rroot_any 1 [⟨#[122]⟩] rfl W W.heap.size 1 p hS (Nat.le_refl _) (fun j hj => by
      obtain rfl : j = 0 := by simpa using hj
      decide) (by decide) (by decide) (by decide))
    obtain ⟨r9, hr9⟩ : ∃ z, rt [(⟨#[122]⟩ : ByteArray)] = z := ⟨_, rfl⟩
    rw [hr9] at HRT9 HRR9
    clear hr9
    go_wp2_with fail
    refine (unhide HNA).mono ?_
    rintro e y1 ⟨rfl, ht, hb, hs⟩
    have HT1 := hide ht
    have HB1 := hide (show Below g wi y1 from hb)
    have HW1 := hide (show Below h w y1 from (unhide HTS).bel.trans (hb.mono (by omega)))
    have hgz : g < y1.heap.size := by omega
    clear ht hb hs HNA
    go_wp2_with fail
    refine (unhide HSZ0 _ (unhide HT1)).mono ?_
    rintro e y ⟨rfl, hy⟩
    subst y
    go_wp2_with fail
    refine (unhide HAD9 _ (unhide HT1) (unhide HW1)).mono ?_
    rintro e y2 ⟨rfl, ht, hto⟩
    have HT2 := hide ht
    have HB2 := hide (show Below g wi y2 from (unhide HB1).trans hto.1)
    have HW2 := hide (show Below h w y2 from (unhide HW1).trans (hto.1.mono (by omega)))
    have hgz2 : g < y2.heap.size := by have := hto.1.size; omega
    clear ht hto HAD9 HT1 HB1 HW1 HSZ0 hgz
    go_wp2_with fail
    refine (unhide HSZ1 _ (unhide HT2)).mono ?_
    rintro e y ⟨rfl, hy⟩
    subst y
    go_wp2_with fail
    refine (unhide HRT9 _ (unhide HT2) (unhide HW2)).mono ?_
    rintro e y3 ⟨rfl, hb⟩
    have HB3 := hide (show Below g wi y3 from (unhide HB2).trans (hb.mono (by omega)))
    have hgz3 : g < y3.heap.size := by have := hb.size; omega
    have HS3 := hide (show SB (y3.alloc (.cells #[.string ⟨#[122]⟩] 9)) (y3.alloc (.cells #[.string ⟨#[122]⟩] 9)).heap.size (some ⟨y3.heap.size, 0, none⟩) [(⟨#[122]⟩ : ByteArray)] from own_SB rfl (own_one y3 0 (.string ⟨#[122]⟩) (Nat.zero_le _)))
    clear hb HT2 HB2 HW2 HSZ1 HRT9 hgz2
    go_wp2_with fail
    refine (unhide HRR9 _ _ (unhide HS3)).mono ?_
    rintro e y4 ⟨rfl, hb⟩
    have HTN := hide (show TsI w h b y4 L L V from (unhide HTS).bel' (by
      rw [hg]
      exact ((unhide HB3).alloc (by omega) _).trans (hb.mono (by simp; omega))))
    clear hb HS3 HB3 HRR9 HTS hg hgz3
    go_wp2
    go_roundw
    case rel => exact ⟨j + 1, by omega, by go_num, HTN⟩
    case measure => simp [intOf] <;> omega
  obtain rfl : j = 100 := by omega
  have e2 : ¬ (((100 : Nat)) : Int) < 100 := by omega
  go_wp2
  go_loopw [11] (fun jv wr => ∃ k : Nat, k ≤ 2 ∧ jv = .int .i64 (k : Int) ∧ Hid (TsI w h b wr L L V)) (fun jv _ => 2 - (intOf jv).toNat)
  case atStart => exact ⟨0, by omega, rfl, HTS⟩
  case round =>
  clear HTS e2
  obtain ⟨k, hk, rfl, HTS⟩ := hrel
  obtain ⟨wi, rfl⟩ : ∃ z, z = wr := ⟨_, rfl⟩
  by_cases hk2 : k < 2
  · obtain ⟨AT, hAT⟩ : ∃ AT : World → Prop, AT = fun y => TsI w h b y L L V := ⟨_, rfl⟩
    have HAT := hide (show AT wi from by rw [hAT]; exact (unhide HTS).bel' (Below.refl _ _))
    obtain ⟨pk, ck, hvk, _, hck1, hck2⟩ := (unhide HTS).form k hk2
    have hln := (unhide HTS).len k hk2
    have hsht := (unhide HTS).sht k hk2
    obtain ⟨l, hl⟩ : ∃ z, L k = z := ⟨_, rfl⟩
    obtain ⟨n, hn⟩ : ∃ z, l.length = z := ⟨_, rfl⟩
    rw [hl, hn] at hvk hck1
    rw [hl, hn] at hln
    rw [hl] at hsht
    have HC := hide (show ∀ y, AT y → y.cell? ⟨b + 3, k, none⟩ = some (.pointer (some ⟨b + 1 + k, 0, none⟩)) ∧ y.cell? ⟨b, k, none⟩ = some (.slice pk n ck) from fun y hy => by
      rw [hAT] at hy
      exact ⟨hy.cellT k hk2, by rw [← hvk]; exact (hy.cellV k hk2).1⟩)
    have HA3 := hide (show ∀ y z, AT y → Below y.heap.size y z → AT z from fun y z hy hz => by
      rw [hAT] at hy ⊢
      exact hy.bel' hz)
    have HSZ := hide (fun y (hy : AT y) => size_any (b + 1 + k) n y (by rw [hAT] at hy; have := (hy.tre k hk2).cell; rw [hl, hn] at this; exact this))
    have HKP := hide (fun y (hy : AT y) => kept_any (b + 1 + k) n hln y (by rw [hAT] at hy; have := (hy.tre k hk2).cell; rw [hl, hn] at this; exact this))
    have HRT := hide (fun y (hy : AT y) => troot_any l (b + 1 + k) y (by rw [hAT] at hy; have := hy.tre k hk2; rw [hl] at this; exact this) (unhide HKB _ (by rw [hAT] at hy; exact hy.bel)) (unhide HTB _ (by rw [hAT] at hy; exact hy.bel)))
    have HSB := hide (show ∀ y, AT y → SB y y.heap.size pk l from fun y hy => by
      rw [hAT] at hy
      obtain ⟨p9, c9, e9, s9, _⟩ := hy.form k hk2
      rw [hvk] at e9
      injection e9 with e9
      subst e9
      rw [hl] at s9
      exact s9)
    have HRR := hide (fun y (hy : AT y) => rroot_any n l hn y y.heap.size ck pk (unhide HSB _ hy) (Nat.le_refl _) hsht (by omega) hck1 hck2)
    have HRO := hide (fun y (hy : AT y) => root_any l n hn y y.heap.size ck pk (unhide HSB _ hy) (Nat.le_refl _) (unhide HKB _ (by rw [hAT] at hy; exact hy.bel)) hsht (by omega) hck1 hck2)
    have HAX := hide (show ∀ y, AT y → TsI w h b y L L V from fun y hy => by rw [hAT] at hy; exact hy)
    obtain ⟨rr, hrr⟩ : ∃ z, rt l = z := ⟨_, rfl⟩
    rw [hrr] at HRT HRR HRO
    clear hrr hAT hsht hl hn hvk HSB
    have hk0 : (k : Int) < 2 := by omega
    clear HTS
    obtain ⟨cT, cV⟩ := unhide HC wi (unhide HAT)
    go_wp2_with fail
    refine (unhide HRO _ (unhide HAT)).mono ?_
    rintro e y7 ⟨rfl, hb⟩
    have HAT2 := hide (show AT y7.drew from unhide HA3 _ _ (unhide HAT) hb.drew)
    clear hb HAT cT cV
    go_wp2_with fail
    refine wp_region_held_drew (S := AT) (by kernel_rfl) (unhide HAT2) ?_
    intro hS
    refine wpAnyH_takeD 0 (some 183) (.slice (some ⟨b + 3, 0, none⟩) 2 2) rfl rfl (by kernel_rfl) (by kernel_rfl) (by kernel_rfl) (fun _ _ _ h => h) (Or.inl ⟨by rfl, fun w hSw => by obtain ⟨hq1, hq2⟩ := unhide HC w hSw; clear hSw; go_simp⟩) hS ?_
    simp only [Act.put, List.setIfInBounds_toArray, List.set_cons_zero, List.set_cons_succ]
    refine wpAnyH_takeD 1 (some 184) (.int .i64 (k : Int)) rfl rfl (by kernel_rfl) (by kernel_rfl) (by kernel_rfl) (fun _ _ _ h => h) (Or.inl ⟨by rfl, fun w hSw => by obtain ⟨hq1, hq2⟩ := unhide HC w hSw; clear hSw; go_simp⟩) hS ?_
    simp only [Act.put, List.setIfInBounds_toArray, List.set_cons_zero, List.set_cons_succ]
    refine wpAnyH_takeD 2 (some 185) (.pointer (some ⟨b + 3, k, none⟩)) rfl rfl (by kernel_rfl) (by kernel_rfl) (by kernel_rfl) (fun _ _ _ h => h) (Or.inl ⟨by rfl, fun w hSw => by obtain ⟨hq1, hq2⟩ := unhide HC w hSw; clear hSw; go_simp⟩) hS ?_
    simp only [Act.put, List.setIfInBounds_toArray, List.set_cons_zero, List.set_cons_succ]
    refine wpAnyH_takeD 3 (some 186) (.pointer (some ⟨b + 1 + k, 0, none⟩)) rfl rfl (by kernel_rfl) (by kernel_rfl) (by kernel_rfl) (fun _ _ _ h => h) (Or.inl ⟨by rfl, fun w hSw => by obtain ⟨hq1, hq2⟩ := unhide HC w hSw; clear hSw; go_simp⟩) hS ?_
    simp only [Act.put, List.setIfInBounds_toArray, List.set_cons_zero, List.set_cons_succ]
    refine wpAnyH_takeD 5 (some 188) (.int .i64 (k : Int)) rfl rfl (by kernel_rfl) (by kernel_rfl) (by kernel_rfl) (fun _ _ _ h => h) (Or.inl ⟨by rfl, fun w hSw => by obtain ⟨hq1, hq2⟩ := unhide HC w hSw; clear hSw; go_simp⟩) hS ?_
    simp only [Act.put, List.setIfInBounds_toArray, List.set_cons_zero, List.set_cons_succ]
    refine wpAnyH_takeD 6 (some 189) (.pointer (some ⟨b, k, none⟩)) rfl rfl (by kernel_rfl) (by kernel_rfl) (by kernel_rfl) (fun _ _ _ h => h) (Or.inl ⟨by rfl, fun w hSw => by obtain ⟨hq1, hq2⟩ := unhide HC w hSw; clear hSw; go_simp⟩) hS ?_
    simp only [Act.put, List.setIfInBounds_toArray, List.set_cons_zero, List.set_cons_succ]
    refine wpAnyH_takeD 7 (some 190) (.slice pk n ck) rfl rfl (by kernel_rfl) (by kernel_rfl) (by kernel_rfl) (fun _ _ _ h => h) (Or.inl ⟨by rfl, fun w hSw => by obtain ⟨hq1, hq2⟩ := unhide HC w hSw; clear hSw; go_simp⟩) hS ?_
    simp only [Act.put, List.setIfInBounds_toArray, List.set_cons_zero, List.set_cons_succ]
    refine wpAnyH_takeD 8 (some 191) (.int .i64 (n : Int)) rfl rfl (by kernel_rfl) (by kernel_rfl) (by kernel_rfl) (fun _ _ _ h => h) (Or.inl ⟨by rfl, fun w hSw => by obtain ⟨hq1, hq2⟩ := unhide HC w hSw; clear hSw; go_simp⟩) hS ?_
    simp only [Act.put, List.setIfInBounds_toArray, List.set_cons_zero, List.set_cons_succ]
    refine wpAnyH_ready (rs := [4]) (by kernel_rfl) (by simp) ?_
    refine AllReadyH.cons rfl (fun K hK => ?_) AllReadyH.nil
    simp only [List.getElem_toArray, List.getElem_cons_succ, List.getElem_cons_zero]
    go_simp
    refine (unhide HSZ _ hS).mono ?_
    rintro e y ⟨rfl, hy⟩
    subst y
    refine hK.out _ _ hS (fun hS => ?_)
    clear hK K
    refine wpAnyH_takeD 9 (some 192) (.bool false) rfl rfl (by kernel_rfl) (by kernel_rfl) (by kernel_rfl) (fun _ _ _ h => h) (Or.inl ⟨by rfl, fun w hSw => by obtain ⟨hq1, hq2⟩ := unhide HC w hSw; clear hSw; go_simp⟩) hS ?_
    simp only [Act.put, List.setIfInBounds_toArray, List.set_cons_zero, List.set_cons_succ]
    refine wpAnyH_takeD 10 (some 193) (.bool false) rfl rfl (by kernel_rfl) (by kernel_rfl) (by kernel_rfl) (fun _ _ _ h => h) (Or.inl ⟨by rfl, fun w hSw => by obtain ⟨hq1, hq2⟩ := unhide HC w hSw; clear hSw; go_simp⟩) hS ?_
    simp only [Act.put, List.setIfInBounds_toArray, List.set_cons_zero, List.set_cons_succ]
    refine wpAnyH_takeD 11 (some 194) (.string rr) rfl rfl (by kernel_rfl) (by kernel_rfl) (by kernel_rfl) (fun _ _ _ h => h) (Or.inl ⟨by rfl, fun w hSw => by obtain ⟨hq1, hq2⟩ := unhide HC w hSw; clear hSw; go_simp⟩) hS ?_
    simp only [Act.put, List.setIfInBounds_toArray, List.set_cons_zero, List.set_cons_succ]
    refine wpAnyH_takeD 12 (some 195) (.slice (some ⟨b + 3, 0, none⟩) 2 2) rfl rfl (by kernel_rfl) (by kernel_rfl) (by kernel_rfl) (fun _ _ _ h => h) (Or.inl ⟨by rfl, fun w hSw => by obtain ⟨hq1, hq2⟩ := unhide HC w hSw; clear hSw; go_simp⟩) hS ?_
    simp only [Act.put, List.setIfInBounds_toArray, List.set_cons_zero, List.set_cons_succ]
    refine wpAnyH_takeD 13 (some 196) (.int .i64 (k : Int)) rfl rfl (by kernel_rfl) (by kernel_rfl) (by kernel_rfl) (fun _ _ _ h => h) (Or.inl ⟨by rfl, fun w hSw => by obtain ⟨hq1, hq2⟩ := unhide HC w hSw; clear hSw; go_simp⟩) hS ?_
    simp only [Act.put, List.setIfInBounds_toArray, List.set_cons_zero, List.set_cons_succ]
    refine wpAnyH_takeD 14 (some 197) (.pointer (some ⟨b + 3, k, none⟩)) rfl rfl (by kernel_rfl) (by kernel_rfl) (by kernel_rfl) (fun _ _ _ h => h) (Or.inl ⟨by rfl, fun w hSw => by obtain ⟨hq1, hq2⟩ := unhide HC w hSw; clear hSw; go_simp⟩) hS ?_
    simp only [Act.put, List.setIfInBounds_toArray, List.set_cons_zero, List.set_cons_succ]
    refine wpAnyH_takeD 15 (some 198) (.pointer (some ⟨b + 1 + k, 0, none⟩)) rfl rfl (by kernel_rfl) (by kernel_rfl) (by kernel_rfl) (fun _ _ _ h => h) (Or.inl ⟨by rfl, fun w hSw => by obtain ⟨hq1, hq2⟩ := unhide HC w hSw; clear hSw; go_simp⟩) hS ?_
    simp only [Act.put, List.setIfInBounds_toArray, List.set_cons_zero, List.set_cons_succ]
    refine wpAnyH_ready (rs := [16]) (by kernel_rfl) (by simp) ?_
    refine AllReadyH.cons rfl (fun K hK => ?_) AllReadyH.nil
    simp only [List.getElem_toArray, List.getElem_cons_succ, List.getElem_cons_zero]
    go_simp
    refine (unhide HRT _ hS).mono ?_
    rintro e y5 ⟨rfl, hb⟩
    have hS9 := unhide HA3 _ _ hS hb
    clear hb
    refine hK.out _ _ hS9 (fun hS => ?_)
    clear hK K
    refine wpAnyH_takeD 17 (some 200) (.bool false) rfl rfl (by kernel_rfl) (by kernel_rfl) (by kernel_rfl) (fun _ _ _ h => h) (Or.inl ⟨by rfl, fun w hSw => by obtain ⟨hq1, hq2⟩ := unhide HC w hSw; clear hSw; go_simp⟩) hS ?_
    simp only [Act.put, List.setIfInBounds_toArray, List.set_cons_zero, List.set_cons_succ]
    refine wpAnyH_takeD 18 (some 201) (.bool false) rfl rfl (by kernel_rfl) (by kernel_rfl) (by kernel_rfl) (fun _ _ _ h => h) (Or.inl ⟨by rfl, fun w hSw => by obtain ⟨hq1, hq2⟩ := unhide HC w hSw; clear hSw; go_simp⟩) hS ?_
    simp only [Act.put, List.setIfInBounds_toArray, List.set_cons_zero, List.set_cons_succ]
    refine wpAnyH_takeD 19 (some 202) (.bool false) rfl rfl (by kernel_rfl) (by kernel_rfl) (by kernel_rfl) (fun _ _ _ h => h) (Or.inl ⟨by rfl, fun w hSw => by obtain ⟨hq1, hq2⟩ := unhide HC w hSw; clear hSw; go_simp⟩) hS ?_
    simp only [Act.put, List.setIfInBounds_toArray, List.set_cons_zero, List.set_cons_succ]
    refine wpAnyH_takeD 20 (some 203) (.string rr) rfl rfl (by kernel_rfl) (by kernel_rfl) (by kernel_rfl) (fun _ _ _ h => h) (Or.inl ⟨by rfl, fun w hSw => by obtain ⟨hq1, hq2⟩ := unhide HC w hSw; clear hSw; go_simp⟩) hS ?_
    simp only [Act.put, List.setIfInBounds_toArray, List.set_cons_zero, List.set_cons_succ]
    refine wpAnyH_takeD 21 (some 204) (.int .i64 (k : Int)) rfl rfl (by kernel_rfl) (by kernel_rfl) (by kernel_rfl) (fun _ _ _ h => h) (Or.inl ⟨by rfl, fun w hSw => by obtain ⟨hq1, hq2⟩ := unhide HC w hSw; clear hSw; go_simp⟩) hS ?_
    simp only [Act.put, List.setIfInBounds_toArray, List.set_cons_zero, List.set_cons_succ]
    refine wpAnyH_takeD 22 (some 205) (.pointer (some ⟨b, k, none⟩)) rfl rfl (by kernel_rfl) (by kernel_rfl) (by kernel_rfl) (fun _ _ _ h => h) (Or.inl ⟨by rfl, fun w hSw => by obtain ⟨hq1, hq2⟩ := unhide HC w hSw; clear hSw; go_simp⟩) hS ?_
    simp only [Act.put, List.setIfInBounds_toArray, List.set_cons_zero, List.set_cons_succ]
    refine wpAnyH_takeD 23 (some 206) (.slice pk n ck) rfl rfl (by kernel_rfl) (by kernel_rfl) (by kernel_rfl) (fun _ _ _ h => h) (Or.inl ⟨by rfl, fun w hSw => by obtain ⟨hq1, hq2⟩ := unhide HC w hSw; clear hSw; go_simp⟩) hS ?_
    simp only [Act.put, List.setIfInBounds_toArray, List.set_cons_zero, List.set_cons_succ]
    refine wpAnyH_ready (rs := [24]) (by kernel_rfl) (by simp) ?_
    refine AllReadyH.cons rfl (fun K hK => ?_) AllReadyH.nil
    simp only [List.getElem_toArray, List.getElem_cons_succ, List.getElem_cons_zero]
    go_simp
    refine (unhide HRR _ hS).mono ?_
    rintro e y6 ⟨rfl, hb⟩
    have hS9 := unhide HA3 _ _ hS hb
    clear hb
    refine hK.out _ _ hS9 (fun hS => ?_)
    clear hK K
    refine wpAnyH_takeD 25 (some 208) (.bool false) rfl rfl (by kernel_rfl) (by kernel_rfl) (by kernel_rfl) (fun _ _ _ h => h) (Or.inl ⟨by rfl, fun w hSw => by obtain ⟨hq1, hq2⟩ := unhide HC w hSw; clear hSw; go_simp⟩) hS ?_
    simp only [Act.put, List.setIfInBounds_toArray, List.set_cons_zero, List.set_cons_succ]
    refine wpAnyH_takeD 26 (some 209) (.bool false) rfl rfl (by kernel_rfl) (by kernel_rfl) (by kernel_rfl) (fun _ _ _ h => h) (Or.inl ⟨by rfl, fun w hSw => by obtain ⟨hq1, hq2⟩ := unhide HC w hSw; clear hSw; go_simp⟩) hS ?_
    simp only [Act.put, List.setIfInBounds_toArray, List.set_cons_zero, List.set_cons_succ]
    refine wpAnyH_done (by kernel_rfl) ?_ _
    have HTN := hide (unhide HAX _ hS)
    clear hS HAT2 HAX HA3 HC HSZ HKP HRT HRR HRO
    go_wp2
    go_roundw
    case rel => exact ⟨k + 1, by omega, by go_num, HTN⟩
    case measure => simp [intOf] <;> omega
  obtain rfl : k = 2 := by omega
  have e3 : ¬ (((2 : Nat)) : Int) < 2 := by omega
  go_wp2
  go_ret
  exact ⟨rfl, (unhide HTS).bel⟩
end Go.Proofs.YtilhilglokblpaaDoor
