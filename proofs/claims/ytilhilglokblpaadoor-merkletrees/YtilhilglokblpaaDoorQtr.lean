import Derived.Test.YtilhilglokblpaaDoorQtz
namespace Go.Proofs.YtilhilglokblpaaDoor
open Go.RowKit
set_option maxRecDepth 100000
set_option maxHeartbeats 2000000 in
theorem troot_any (l : List ByteArray) (g : Nat) (w : World) (hT : TrM w g l) (hK : KTab w) (hB : BTab w) : Calls Tryd.prog 8 #[.pointer (some ⟨g, 0, none⟩)] w fun e w' => e = .returned (.string (rt l)) ∧ Below w.heap.size w w' := by
  obtain ⟨h, hh⟩ : ∃ h, w.heap.size = h := ⟨_, rfl⟩
  have hc := hT.cell
  have hgh : g < h := by rw [← hh]; exact hT.1
  rw [hh]
  by_cases h0 : l = []
  · subst h0
    have HSU := hide (sumOf_any ⟨#[]⟩ w hK (by decide))
    rw [← rt_nil] at HSU
    have HTX := hide (fun W => text_any (rt []) (rt_size []) W)
    change w.cell? ⟨g, 0, none⟩ = some (.int .i64 0) at hc
    generalize dC (rt []) = cn at *
    generalize rt [] = r at *
    clear hT hK hB
    go_enter Tryd.func8, Tryd.ntmps8
    go_wp2_with fail
    refine (unhide HSU).mono ?_
    rintro e y1 ⟨rfl, hb1⟩
    have HB1 := hide hb1
    clear hb1
    go_wp2_with fail
    refine (unhide HTX _).mono ?_
    rintro e y2 ⟨rfl, hb2⟩
    have HB2 := hide (show Below h w y2 from by rw [← hh]; exact (unhide HB1).trans (hb2.mono (unhide HB1).size))
    clear hb2
    go_wp2
    go_ret
    exact ⟨rfl, unhide HB2⟩
  obtain ⟨n, hn⟩ : ∃ n, l.length = n := ⟨_, rfl⟩
  have hn1 : 1 ≤ n := by rw [← hn]; exact List.length_pos_iff.2 h0
  have hn2 : n ≤ 4096 := by rw [← hn]; exact hT.2.1
  rw [hn] at hc
  have b0 : ((n : Int) == 0) = false := by simp; omega
  have b1 : (n : Int) ≤ 4096 := by omega
  have HTZ := hide (tz_any n hn1 hn2 w hB)
  have HPA := hide (show ∀ p, p < 13 → n / 2 ^ p % 2 = 1 → Arr w g (1 + p * 32) .u8 (nums (rt (sg l p))) from fun p hp hb => by
    rw [Nat.mul_comm p 32]
    obtain ⟨d, _, e2, e3⟩ := hT.2.2.2 p hp
    rw [e3 (by rw [hn]; exact hb)] at e2
    exact e2)
  obtain ⟨x1, hx1⟩ : ∃ q, w.alloc (.cells #[.int .u8 0, .int .u8 0, .int .u8 0, .int .u8 0, .int .u8 0, .int .u8 0, .int .u8 0, .int .u8 0, .int .u8 0, .int .u8 0, .int .u8 0, .int .u8 0, .int .u8 0, .int .u8 0, .int .u8 0, .int .u8 0, .int .u8 0, .int .u8 0, .int .u8 0, .int .u8 0, .int .u8 0, .int .u8 0, .int .u8 0, .int .u8 0, .int .u8 0, .int .u8 0, .int .u8 0, .int .u8 0, .int .u8 0, .int .u8 0, .int .u8 0, .int .u8 0] 46) = q := ⟨_, rfl⟩
  have HE1 := hide (show x1.heap.size = h + 1 from by rw [← hx1]; simp [hh])
  have HA := hide (show Arr x1 h 0 .u8 (List.replicate 32 0) from by rw [← hx1, ← hh]; exact zD_new w)
  have HB0 := hide (show Below h w x1 from by rw [← hx1, ← hh]; exact (Below.refl _ w).alloc (Nat.le_refl _) _)
  have HKB := hide (show ∀ W, Below h w W → KTab W from fun W hW => hK.below hW (by rw [← hh]; exact hK.1))
  have HCB := hide (show ∀ W, Below h w W → W.cell? ⟨g, 0, none⟩ = some (.int .i64 (n : Int)) from fun W hW => (hW.cell (p := ⟨g, 0, none⟩) hgh).trans hc)
  clear hT hK hB h0
  go_enter Tryd.func8, Tryd.ntmps8
  go_wp2_with fail
  refine (unhide HTZ).mono ?_
  rintro e y1 ⟨p0, q1, q2, q3, rfl, hy⟩
  rw [hy]
  clear hy y1
  have c1 : (p0 : Int) < 13 := by omega
  have HR0 := hide ((unhide HPA p0 (by omega) q3).range)
  rw [show (nums (rt (sg l p0))).map (Value.int .u8) = dC (rt (sg l p0)) from rfl] at HR0
  have HL0 := hide (dC_len _ (rt_size (sg l p0)))
  have HO0 := hide (dC_all (rt (sg l p0)))
  have HTH := hide (show x1.there h 0 32 from by have := (unhide HA).there; simpa using this)
  obtain ⟨x2, hx2⟩ : ∃ q, x1.setCells h 0 (dC (rt (sg l p0))) = q := ⟨_, rfl⟩
  have HS0 := hide (show Arr x2 h 0 .u8 (nums (rt (tl l (p0 + 1)))) ∧ Below h w x2 from by
    rw [tl_least l p0 (by rw [hn]; exact q3) (by rw [hn]; exact q2), ← hx2]
    exact ⟨(unhide HA).setCells _ (by rw [nums_len, rt_size]; simp), below_setCells (Nat.le_refl _) _ _ (unhide HB0)⟩)
  generalize dC (rt (sg l p0)) = c0 at *
  go_wp2_with (first | refine wpList_load_mid rfl 46 (.tmp 23) rfl g (1 + p0 * 32) rfl _ _ (unhide HR0) Tryd.underlying46 rfl (by rw [szD, unhide HL0]) ?_ | refine wpList_store_mid rfl 46 (.tmp 4) (.tmp 24) rfl h 0 c0.toArray rfl rfl (by simpa [unhide HL0] using unhide HTH) (by rw [szD]; simp [unhide HL0]) (unhide HO0) ?_)
  go_loopw [5] (fun i wr => ∃ p : Nat, p ≤ 13 ∧ p0 < p ∧ i = .int .i64 (p : Int) ∧ Hid (Arr wr h 0 .u8 (nums (rt (tl l p)))) ∧ Hid (Below h w wr)) (fun i _ => 13 - (intOf i).toNat)
  case atStart => exact ⟨p0 + 1, by omega, by omega, by go_num, hide (unhide HS0).1, hide (unhide HS0).2⟩
  case round =>
  obtain ⟨p, hp, hlp, rfl, HAR, HBR⟩ := hrel
  obtain ⟨wi, rfl⟩ : ∃ z, z = wr := ⟨_, rfl⟩
  have hhw : h < wi.heap.size := by
    have := (unhide HAR).there
    rw [nums_len, rt_size] at this
    have h9 := (unhide HAR).get0 0 (by rw [nums_len, rt_size]; omega)
    exact World.block_lt_of_cell? wi _ h9
  have HRG := hide ((unhide HAR).range)
  rw [show (nums (rt (tl l p))).map (Value.int .u8) = dC (rt (tl l p)) from rfl] at HRG
  have HLR := hide (dC_len _ (rt_size (tl l p)))
  by_cases hp13 : p < 13
  case neg =>
    obtain rfl : p = 13 := by omega
    have HTX := hide (fun W => text_any (rt l) (rt_size l) W)
    rw [tl_all l 13 (by rw [hn]; omega)] at HRG HLR
    generalize dC (rt l) = cn at *
    clear HAR
    go_wp2_with (first | refine wpList_load_mid rfl 46 (.tmp 4) rfl h 0 rfl _ _ (unhide HRG) Tryd.underlying46 rfl (by rw [szD, unhide HLR]) ?_ | fail)
    refine (unhide HTX _).mono ?_
    rintro e y2 ⟨rfl, hb2⟩
    have HB2 := hide (show Below h w y2 from (unhide HBR).trans (hb2.mono (by omega)))
    clear hb2
    go_wp2
    go_ret
    exact ⟨rfl, unhide HB2⟩
  have d1 : (p : Int) < 13 := by omega
  have HHP := hide (hasPeak_any g n p hn2 (by omega) wi (unhide HCB wi (unhide HBR)))
  by_cases hbit : n / 2 ^ p % 2 = 1
  · rw [decide_eq_true hbit] at HHP
    have HG := hide ((unhide HPA p hp13 hbit).below (unhide HBR) hgh)
    have HRP := hide (unhide HG).range
    rw [show (nums (rt (sg l p))).map (Value.int .u8) = dC (rt (sg l p)) from rfl] at HRP
    have HLP := hide (dC_len _ (rt_size (sg l p)))
    have hne : n % 2 ^ p ≠ 0 := by
      intro h9
      have e1 : n = 2 ^ p * (n / 2 ^ p) := by have := Nat.div_add_mod n (2 ^ p); omega
      generalize n / 2 ^ p = z at e1
      have e4 : 2 ^ p = 2 ^ p0 * 2 * 2 ^ (p - (p0 + 1)) := by
        rw [← Nat.pow_succ, ← Nat.pow_add]
        congr 1
        omega
      have e5 : n / 2 ^ p0 = 2 * (2 ^ (p - (p0 + 1)) * z) := by
        rw [e1, e4, Nat.mul_assoc, Nat.mul_assoc]
        exact Nat.mul_div_cancel_left _ (Nat.two_pow_pos p0)
      rw [e5, Nat.mul_mod_right] at q3
      cases q3
    have hst := rt_step l p (by rw [hn]; exact hbit) (by rw [hn]; exact hne)
    have HOV := hide (fun W (hW : Below h w W) => over_any (rt (sg l p)) (rt (tl l p)) (rt_size _) (rt_size _) W (unhide HKB W hW))
    rw [← hst] at HOV
    have HLN := hide (dC_len _ (rt_size (tl l (p + 1))))
    have HON := hide (dC_all (rt (tl l (p + 1))))
    have HNL := hide (show (nums (rt (tl l p))).length = 32 from by rw [nums_len, rt_size])
    have HNN := hide (show (nums (rt (tl l (p + 1)))).length = 32 from by rw [nums_len, rt_size])
    have HNC := hide (show (nums (rt (tl l (p + 1)))).map (Value.int .u8) = dC (rt (tl l (p + 1))) from rfl)
    obtain ⟨AT, hAT⟩ : ∃ AT : World → Prop, AT = fun y => (∃ q : List Int, q.length = 32 ∧ Arr y h 0 .u8 q) ∧ Below h w y ∧ h < y.heap.size ∧ y.rangeAt g (1 + p * 32) (dC (rt (sg l p))) := ⟨_, rfl⟩
    have HAT := hide (show AT wi.drew from by rw [hAT]; exact ⟨⟨_, unhide HNL, (unhide HAR).drew⟩, (unhide HBR).drew, hhw, rangeAt_drew (unhide HRP)⟩)
    have HA1 := hide (show ∀ y, AT y → y.rangeAt g (1 + p * 32) (dC (rt (sg l p))) from fun y hy => by rw [hAT] at hy; exact hy.2.2.2)
    have HA2 := hide (rangeAt_drew (unhide HRG))
    have HA3 := hide (show ∀ y, AT y → Below h w y from fun y hy => by rw [hAT] at hy; exact hy.2.1)
    have HA4 := hide (show ∀ y z, AT y → Below y.heap.size y z → AT z from fun y z hy hz => by
      rw [hAT] at hy ⊢
      obtain ⟨⟨q, i1, i2⟩, i3, i4, i5⟩ := hy
      exact ⟨⟨q, i1, i2.below hz i4⟩, i3.trans (hz.mono (by omega)), Nat.lt_of_lt_of_le i4 hz.size, rangeAt_below i5 hz (by omega)⟩)
    have HA5 := hide (show ∀ y, AT y → y.there h 0 32 ∧ Hid (Arr (y.setCells h 0 (dC (rt (tl l (p + 1))))) h 0 .u8 (nums (rt (tl l (p + 1))))) ∧ Hid (Below h w (y.setCells h 0 (dC (rt (tl l (p + 1)))))) ∧ AT (y.setCells h 0 (dC (rt (tl l (p + 1))))) from fun y hy => by
      rw [hAT] at hy ⊢
      obtain ⟨⟨q, i1, i2⟩, i3, i4, i5⟩ := hy
      have j1 := i2.setCells (nums (rt (tl l (p + 1)))) ((unhide HNN).trans i1.symm)
      rw [unhide HNC] at j1
      have j2 : Below h w (y.setCells h 0 (dC (rt (tl l (p + 1))))) := below_setCells (Nat.le_refl _) _ _ i3
      have j3 : Below h y (y.setCells h 0 (dC (rt (tl l (p + 1))))) := below_setCells (Nat.le_refl _) _ _ (Below.refl _ _)
      exact ⟨by have := i2.there; rw [i1] at this; exact this, j1, j2, ⟨_, unhide HNN, j1⟩, j2, Nat.lt_of_lt_of_le i4 j3.size, rangeAt_below i5 j3 hgh⟩)
    clear hAT HNL HNN HNC HAR HBR HRG HRP HG hst
    generalize dC (rt (tl l (p + 1))) = cn at *
    generalize dC (rt (sg l p)) = ca at *
    generalize dC (rt (tl l p)) = cb at *
    go_wp2_with fail
    refine (unhide HHP).mono ?_
    rintro e y2 ⟨rfl, hy2⟩
    rw [hy2]
    clear hy2 y2
    go_wp2_with fail
    refine wp_region_held_drew (S := fun W => AT W) (by kernel_rfl) (unhide HAT) ?_
    intro hS
    refine wpAnyH_takeD 0 (some 34) (.pointer (some ⟨g, 0, none⟩)) rfl rfl (by kernel_rfl) (by kernel_rfl) (by kernel_rfl) (fun _ _ _ h => h) (Or.inl ⟨by rfl, fun w hSw => by clear hSw; go_simp; try (intro hbad; omega)⟩) hS ?_
    simp only [Act.put, List.setIfInBounds_toArray, List.set_cons_zero, List.set_cons_succ]
    refine wpAnyH_takeD 1 (some 35) (.int .i64 (p : Int)) rfl rfl (by kernel_rfl) (by kernel_rfl) (by kernel_rfl) (fun _ _ _ h => h) (Or.inl ⟨by rfl, fun w hSw => by clear hSw; go_simp; try (intro hbad; omega)⟩) hS ?_
    simp only [Act.put, List.setIfInBounds_toArray, List.set_cons_zero, List.set_cons_succ]
    refine wpAnyH_takeD 2 (some 36) (.pointer (some ⟨g, 0, none⟩)) rfl rfl (by kernel_rfl) (by kernel_rfl) (by kernel_rfl) (fun _ _ _ h => h) (Or.inl ⟨by rfl, fun w hSw => by clear hSw; go_simp; try (intro hbad; omega)⟩) hS ?_
    simp only [Act.put, List.setIfInBounds_toArray, List.set_cons_zero, List.set_cons_succ]
    refine wpAnyH_takeD 3 (some 37) (.pointer (some ⟨g, 1, none⟩)) rfl rfl (by kernel_rfl) (by kernel_rfl) (by kernel_rfl) (fun _ _ _ h => h) (Or.inl ⟨by rfl, fun w hSw => by clear hSw; go_simp; try (intro hbad; omega)⟩) hS ?_
    simp only [Act.put, List.setIfInBounds_toArray, List.set_cons_zero, List.set_cons_succ]
    refine wpAnyH_takeD 4 (some 38) (.pointer (some ⟨g, 1 + p * 32, none⟩)) rfl rfl (by kernel_rfl) (by kernel_rfl) (by kernel_rfl) (fun _ _ _ h => h) (Or.inl ⟨by rfl, fun w hSw => by clear hSw; go_simp; try (intro hbad; omega)⟩) hS ?_
    simp only [Act.put, List.setIfInBounds_toArray, List.set_cons_zero, List.set_cons_succ]
    refine wpAnyH_takeD 5 (some 39) (.agg ca.toArray) rfl rfl (by kernel_rfl) (by kernel_rfl) (by kernel_rfl) (fun _ _ _ h => h) (yieldsIf_load_mid (by rfl) 46 (.tmp 38) rfl g (1 + p * 32) rfl _ _ (fun w hSw => unhide HA1 w hSw) Tryd.underlying46 rfl (by rw [szD, unhide HLP])) hS ?_
    simp only [Act.put, List.setIfInBounds_toArray, List.set_cons_zero, List.set_cons_succ]
    refine wpAnyH_ready (rs := [6]) (by kernel_rfl) (by simp) ?_
    refine AllReadyH.cons rfl (fun K hK => ?_) AllReadyH.nil
    simp only [List.getElem_toArray, List.getElem_cons_succ, List.getElem_cons_zero]
    refine wp_load_mid 46 (.tmp 4) rfl h 0 rfl _ _ (unhide HA2) Tryd.underlying46 rfl (by rw [szD, unhide HLR]) ?_
    simp only [Act.put, List.setIfInBounds_toArray, List.set_cons_zero, List.set_cons_succ]
    refine hK.out _ _ hS (fun hS => ?_)
    clear hK K
    refine wpAnyH_ready (rs := [7]) (by kernel_rfl) (by simp) ?_
    refine AllReadyH.cons rfl (fun K hK => ?_) AllReadyH.nil
    simp only [List.getElem_toArray, List.getElem_cons_succ, List.getElem_cons_zero]
    go_simp
    refine (unhide HOV _ (unhide HA3 _ hS)).mono ?_
    rintro e y3 ⟨rfl, hb3⟩
    have hS9 := unhide HA4 _ _ hS hb3
    clear hb3
    refine hK.out _ _ hS9 (fun hS => ?_)
    clear hK K
    refine wpAnyH_ready (rs := [8]) (by kernel_rfl) (by simp) ?_
    refine AllReadyH.cons rfl (fun K hK => ?_) AllReadyH.nil
    rw [if_pos (by rfl)]
    have HTH := hide (unhide HA5 _ hS).1
    have HAN := (unhide HA5 _ hS).2.1
    have HBN := (unhide HA5 _ hS).2.2.1
    refine wp_store_mid 46 (.tmp 4) (.tmp 41) rfl h 0 cn.toArray rfl rfl (by simpa [unhide HLN] using unhide HTH) (by rw [szD]; simp [unhide HLN]) (unhide HON) ?_
    simp only [List.getElem_toArray, List.getElem_cons_succ, List.getElem_cons_zero, Act.put]
    refine hK.out _ _ (unhide HA5 _ hS).2.2.2 (fun hS => ?_)
    clear hK K
    refine wpAnyH_done (by kernel_rfl) ?_ _
    go_wp2
    go_roundw
    case rel => exact ⟨p + 1, by omega, by omega, by go_num, HAN, HBN⟩
    case measure => simp [intOf] <;> omega
  · rw [decide_eq_false hbit] at HHP
    rw [← tl_skip l p (by rw [hn]; omega)] at HAR
    clear HRG HLR
    go_wp2_with fail
    refine (unhide HHP).mono ?_
    rintro e y2 ⟨rfl, hy2⟩
    rw [hy2]
    clear hy2 y2
    go_wp2
    go_roundw
    case rel => exact ⟨p + 1, by omega, by omega, by go_num, HAR, HBR⟩
    case measure => simp [intOf] <;> omega
end Go.Proofs.YtilhilglokblpaaDoor
