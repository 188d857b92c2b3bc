import Derived.Test.YtilhilglokblpaaDoorQts
import Derived.Test.YtilhilglokblpaaDoorQmj
namespace Go.Proofs.YtilhilglokblpaaDoor
open Go.RowKit
set_option maxRecDepth 100000
theorem Touch.far {b c h : Nat} {w y : World} (ht : Touch b w y) (hh : w.heap.size = h) (hb : b ≤ h) (hc : h ≤ c) (o : Nat) (vs : List Value) : Touch b w (y.setCells c o vs) := by
  have k : Below h y (y.setCells c o vs) := below_setCells hc _ _ (Below.refl _ _)
  exact ⟨ht.1.trans (k.mono hb), fun j hj hs => (k.block j (by omega)).trans (ht.2 j hj hs)⟩
theorem Touch.news {b h : Nat} {w y z : World} (ht : Touch b w y) (hh : w.heap.size = h) (hb : b ≤ h) (k : Below y.heap.size y z) : Touch b w z := by
  have hs := ht.1.size
  exact ⟨ht.1.trans (k.mono (by omega)), fun j hj hk => (k.block j (by omega)).trans (ht.2 j hj hk)⟩
theorem built_d0 : Tryd.prog.built 46 [] = some (dC zB).toArray := by
  rw [zB_cells]
  kernel_rfl
set_option maxHeartbeats 4000000 in
theorem tadd_any (l : List ByteArray) (x : ByteArray) (hx : x.size ≤ 140737488355000) (g : Nat) (w : World) (hT : TrM w g l) (hK : KTab w) (hv : 2 < g) : Calls Tryd.prog 9 #[.pointer (some ⟨g, 0, none⟩), .string x] w fun e w' => e = .returned (.tuple #[]) ∧ TrM w' g (if l.length = 4096 then l else l ++ [x]) ∧ Touch g w w' := by
  obtain ⟨h, hh⟩ : ∃ h, w.heap.size = h := ⟨_, rfl⟩
  have hc := hT.cell
  have hgh : g < h := by rw [← hh]; exact hT.1
  by_cases hF : l.length = 4096
  · rw [if_pos hF]
    have HT := hide hT
    rw [hF] at hc
    clear hT hK
    go_enter Tryd.func9, Tryd.ntmps9
    go_wp2
    exact ⟨rfl, .tuple #[], by simp [results], rfl, unhide HT, Touch.refl _ _⟩
  rw [if_neg hF]
  obtain ⟨n, hn⟩ : ∃ n, l.length = n := ⟨_, rfl⟩
  have hn2 : n < 4096 := by have := hT.2.1; omega
  rw [hn] at hc hF
  have b0 : ((n : Int) == 4096) = false := by simp; omega
  have b1 : (n : Int) < 4096 := by omega
  obtain ⟨R, hR⟩ : ∃ R : Nat → ByteArray, R = fun p => rt ((l ++ [x]).drop (n + 1 - 2 ^ p)) := ⟨_, rfl⟩
  have HRZ := hide (show ∀ p, (R p).size = 32 from fun p => by rw [hR]; exact rt_size _)
  have HRN := hide (show ∀ p, (nums (R p)).length = 32 from fun p => by rw [nums_len, unhide HRZ])
  have hR0 : R 0 = dg (mk0 ++ x) := by
    rw [hR]
    show rt ((l ++ [x]).drop (n + 1 - 2 ^ 0)) = _
    rw [show n + 1 - 2 ^ 0 = l.length by omega, List.drop_left' rfl, rt_one]
    rfl
  have HST := hide (show ∀ p, n % 2 ^ p = 2 ^ p - 1 → n / 2 ^ p % 2 = 1 → n % 2 ^ (p + 1) = 2 ^ (p + 1) - 1 ∧ R (p + 1) = ndB (rt (sg l p)) (R p) from fun p a b => by
    have := ad_step l x p (by rw [hn]; exact a) (by rw [hn]; exact b)
    rw [hn] at this
    rw [hR]
    exact this)
  have HDN := hide (show ∀ (W : World) p, PT W g l (p + 1) → g < W.heap.size → p < 13 → n % 2 ^ p = 2 ^ p - 1 → n / 2 ^ p % 2 = 0 → Arr W g (1 + p * 32) .u8 (nums (R p)) → TrM (W.setCell ⟨g, 0, none⟩ (.int .i64 ((n : Int) + 1))) g (l ++ [x]) from fun W p a b c d e f => by
    have := PT.done (x := x) a b (by rw [hn]; exact hn2) c (by rw [hn]; exact d) (by rw [hn]; exact e) (by rw [hn]; rw [hR] at f; exact f)
    rw [hn] at this
    exact this)
  have hsz : (mk0 ++ x).size < 2305843009213693952 := by rw [ByteArray.size_append, mk0_size]; omega
  have HLT := hide (fun W => leafText_any x hx W)
  have HSU := hide (sumOf_any (mk0 ++ x) w hK hsz)
  rw [← hR0] at HSU
  have HKT := hide (show ∀ W, Touch g w W → KTab W from fun W hW => hK.touch hW hv)
  have HPT := hide hT.pt
  have HPC := hide (show ∀ (W : World) p, PT W g l p → W.cell? ⟨g, 0, none⟩ = some (.int .i64 (n : Int)) ∧ W.frozen? ⟨g, 0, none⟩ = false from fun W p hW => by
    have h1 := hW.1.get0 0 (by simp)
    have h2 := hW.1.free0 0 (by simp)
    rw [hn] at h1
    exact ⟨by simpa using h1, h2⟩)
  have HSG := hide (show ∀ (W : World) p, PT W g l p → p < 13 → n / 2 ^ p % 2 = 1 → W.rangeAt g (1 + p * 32) (dC (rt (sg l p))) from fun W p hW hp hb => by
    obtain ⟨d, _, e2, e3⟩ := hW.2 p hp
    rw [e3 (Nat.le_refl _) (by rw [hn]; exact hb)] at e2
    exact e2.range)
  generalize mk0 ++ x = u at *
  clear hT hK hR hR0 hsz
  go_enter Tryd.func9, Tryd.ntmps9
  go_wp2_with fail
  refine (unhide HLT _).mono ?_
  rintro e y0 ⟨rfl, hy0⟩
  rw [hy0]
  clear hy0 y0
  go_wp2_with fail
  refine (unhide HSU).mono ?_
  rintro e y1 ⟨rfl, hb1⟩
  obtain ⟨c, hcc⟩ : ∃ c, y1.heap.size = c := ⟨_, rfl⟩
  have hhc : h ≤ c := by rw [← hcc, ← hh]; exact hb1.size
  obtain ⟨x1, hx1⟩ : ∃ q, y1.alloc (.cells #[.int .u8 0, .int .u8 0, .int .u8 0, .int .u8 0, .int .u8 0, .int .u8 0, .int .u8 0, .int .u8 0, .int .u8 0, .int .u8 0, .int .u8 0, .int .u8 0, .int .u8 0, .int .u8 0, .int .u8 0, .int .u8 0, .int .u8 0, .int .u8 0, .int .u8 0, .int .u8 0, .int .u8 0, .int .u8 0, .int .u8 0, .int .u8 0, .int .u8 0, .int .u8 0, .int .u8 0, .int .u8 0, .int .u8 0, .int .u8 0, .int .u8 0, .int .u8 0] 46) = q := ⟨_, rfl⟩
  have HA := hide (show Arr x1 c 0 .u8 (List.replicate 32 0) from by rw [← hx1, ← hcc]; exact zD_new y1)
  have HTH := hide (show x1.there c 0 32 from by have := (unhide HA).there; simpa using this)
  have HT1 := hide (show Touch g w x1 from by
    rw [← hx1]
    exact ((Touch.refl g w).news hh (by omega) hb1).news hh (by omega) ((Below.refl _ y1).alloc (Nat.le_refl _) _))
  have HP1 := hide (show PT x1 g l 0 from (unhide HPT).below (B := h) (by
    rw [← hx1, ← hh]
    exact (hb1).alloc (by exact hb1.size) _) hgh)
  have HZ1 := hide (show x1.heap.size = c + 1 from by rw [← hx1]; simp [hcc])
  obtain ⟨x2, hx2⟩ : ∃ q, x1.setCells c 0 (dC (R 0)) = q := ⟨_, rfl⟩
  have HS0 := hide (show Arr x2 c 0 .u8 (nums (R 0)) ∧ PT x2 g l 0 ∧ Touch g w x2 ∧ c < x2.heap.size from by
    rw [← hx2]
    have k : Below 0 x1 (x1.setCells c 0 (dC (R 0))) := below_setCells (Nat.zero_le _) _ _ (Below.refl _ _)
    have hz := unhide HZ1
    exact ⟨(unhide HA).setCells _ (by rw [unhide HRN]; simp), (unhide HP1).apart (by omega) _, (unhide HT1).far hh (by omega) hhc _ _, by have := k.size; omega⟩)
  have HL0 := hide (dC_len _ (unhide HRZ 0))
  have HO0 := hide (dC_all (R 0))
  generalize dC (R 0) = c0 at *
  clear hb1
  go_wp2_with (first | refine wpList_store_mid rfl 46 (.tmp 4) (.tmp 13) rfl c 0 c0.toArray rfl rfl (by simpa [unhide HL0] using unhide HTH) (by rw [szD]; simp [unhide HL0]) (unhide HO0) ?_ | fail)
  go_loopw [5] (fun i wr => ∃ p : Nat, p ≤ 12 ∧ n % 2 ^ p = 2 ^ p - 1 ∧ i = .int .i64 (p : Int) ∧ Hid (Arr wr c 0 .u8 (nums (R p))) ∧ Hid (PT wr g l p) ∧ Hid (Touch g w wr) ∧ Hid (c < wr.heap.size)) (fun i _ => 13 - (intOf i).toNat)
  case atStart => exact ⟨0, by omega, by simp [Nat.mod_one], by go_num, hide (unhide HS0).1, hide (unhide HS0).2.1, hide (unhide HS0).2.2.1, hide (unhide HS0).2.2.2⟩
  case round =>
  obtain ⟨p, hp, hmod, rfl, HAR, HPR, HTR, HCR⟩ := hrel
  obtain ⟨wi, rfl⟩ : ∃ z, z = wr := ⟨_, rfl⟩
  have HHP := hide (hasPeak_any g n p (by omega) (by omega) wi (unhide HPC wi p (unhide HPR)).1)
  have HRG := hide ((unhide HAR).range)
  rw [show (nums (R p)).map (Value.int .u8) = dC (R p) from rfl] at HRG
  have HLR := hide (dC_len _ (unhide HRZ p))
  have d1 : (p : Int) < 13 := by omega
  by_cases hbit : n / 2 ^ p % 2 = 1
  · rw [decide_eq_true hbit] at HHP
    have hp12 : p < 12 := by
      apply Nat.lt_of_not_le
      intro h9
      obtain rfl : p = 12 := by omega
      rw [Nat.div_eq_of_lt (by omega)] at hbit
      omega
    have hst := unhide HST p hmod hbit
    have hmo := hst.1
    have HOV := hide (fun W (hW : Touch g w W) => over_any (rt (sg l p)) (R p) (rt_size _) (unhide HRZ p) W (unhide HKT W hW))
    rw [← hst.2] at HOV
    have HLP := hide (dC_len _ (rt_size (sg l p)))
    have HLN := hide (dC_len _ (unhide HRZ (p + 1)))
    have HON := hide (dC_all (R (p + 1)))
    have HNC := hide (show (nums (R (p + 1))).map (Value.int .u8) = dC (R (p + 1)) from rfl)
    obtain ⟨AT, hAT⟩ : ∃ AT : World → Prop, AT = fun y => (∃ q : List Int, q.length = 32 ∧ Arr y c 0 .u8 q) ∧ PT y g l p ∧ Touch g w y ∧ c < y.heap.size := ⟨_, rfl⟩
    have HAT := hide (show AT wi.drew from by rw [hAT]; exact ⟨⟨_, unhide HRN p, (unhide HAR).drew⟩, ⟨(unhide HPR).1, (unhide HPR).2⟩, (unhide HTR).drew, unhide HCR⟩)
    have HA1 := hide (show ∀ y, AT y → y.rangeAt g (1 + p * 32) (dC (rt (sg l p))) from fun y hy => by rw [hAT] at hy; exact unhide HSG y p hy.2.1 (by omega) hbit)
    have HA2 := hide (rangeAt_drew (unhide HRG))
    have HA3 := hide (show ∀ y, AT y → Touch g w y from fun y hy => by rw [hAT] at hy; exact hy.2.2.1)
    have HA4 := hide (show ∀ y z, AT y → Below y.heap.size y z → AT z from fun y z hy hz => by
      rw [hAT] at hy ⊢
      obtain ⟨⟨q, i1, i2⟩, i3, i4, i5⟩ := hy
      have hs := i4.1.size
      exact ⟨⟨q, i1, i2.below hz i5⟩, i3.below hz (by omega), i4.news hh (by omega) hz, Nat.lt_of_lt_of_le i5 hz.size⟩)
    have HA5 := hide (show ∀ y, AT y → y.there c 0 32 ∧ Hid (Arr (y.setCells c 0 (dC (R (p + 1)))) c 0 .u8 (nums (R (p + 1)))) ∧ AT (y.setCells c 0 (dC (R (p + 1)))) from fun y hy => by
      rw [hAT] at hy ⊢
      obtain ⟨⟨q, i1, i2⟩, i3, i4, i5⟩ := hy
      have j1 := i2.setCells (nums (R (p + 1))) ((unhide HRN _).trans i1.symm)
      rw [unhide HNC] at j1
      have j3 : Below 0 y (y.setCells c 0 (dC (R (p + 1)))) := below_setCells (Nat.zero_le _) _ _ (Below.refl _ _)
      exact ⟨by have := i2.there; rw [i1] at this; exact this, j1, ⟨_, unhide HRN _, j1⟩, i3.apart (by omega) _, i4.far hh (by omega) hhc _ _, Nat.lt_of_lt_of_le i5 j3.size⟩)
    have HA6 := hide (show ∀ y, AT y → Arr y c 0 .u8 (nums (R (p + 1))) → y.there g (1 + p * 32) 32 ∧ Hid (Arr (y.setCells g (1 + p * 32) (dC zB)) c 0 .u8 (nums (R (p + 1)))) ∧ Hid (PT (y.setCells g (1 + p * 32) (dC zB)) g l (p + 1)) ∧ Hid (Touch g w (y.setCells g (1 + p * 32) (dC zB))) ∧ Hid (c < (y.setCells g (1 + p * 32) (dC zB)).heap.size) from fun y hy ha => by
      rw [hAT] at hy
      obtain ⟨_, i3, i4, i5⟩ := hy
      have j3 : Below 0 y (y.setCells g (1 + p * 32) (dC zB)) := below_setCells (Nat.zero_le _) _ _ (Below.refl _ _)
      exact ⟨i3.there p (by omega), hide (ha.setCells_apart _ _ _ (.inl (by omega))), hide (i3.put (by omega) zB zB_size).1, hide (Touch.setCells _ _ i4), hide (Nat.lt_of_lt_of_le i5 j3.size)⟩)
    have HLZ := hide (dC_len _ zB_size)
    have HOZ := hide (dC_all zB)
    have HBZ := hide built_d0
    clear hAT HNC HAR HPR HTR HCR HRG hst
    generalize dC (R (p + 1)) = cn at *
    generalize dC (rt (sg l p)) = ca at *
    generalize dC (R p) = cb at *
    generalize dC zB = cz at *
    go_wp2_with fail
    refine (unhide HHP).mono ?_
    rintro e y2 ⟨rfl, hy2⟩
    rw [hy2]
    clear hy2 y2
    go_wp2_with fail
    refine wp_region_held_drew (S := fun W => AT W) (by kernel_rfl) (unhide HAT) ?_
    intro hS
    refine wpAnyH_takeD 0 (some 19) (.pointer (some ⟨g, 0, none⟩)) rfl rfl (by kernel_rfl) (by kernel_rfl) (by kernel_rfl) (fun _ _ _ h => h) (Or.inl ⟨by rfl, fun w hSw => by clear hSw; go_simp; try (intro hbad; omega)⟩) hS ?_
    simp only [Act.put, List.setIfInBounds_toArray, List.set_cons_zero, List.set_cons_succ]
    refine wpAnyH_takeD 1 (some 20) (.int .i64 (p : Int)) rfl rfl (by kernel_rfl) (by kernel_rfl) (by kernel_rfl) (fun _ _ _ h => h) (Or.inl ⟨by rfl, fun w hSw => by clear hSw; go_simp; try (intro hbad; omega)⟩) hS ?_
    simp only [Act.put, List.setIfInBounds_toArray, List.set_cons_zero, List.set_cons_succ]
    refine wpAnyH_takeD 2 (some 21) (.pointer (some ⟨g, 0, none⟩)) rfl rfl (by kernel_rfl) (by kernel_rfl) (by kernel_rfl) (fun _ _ _ h => h) (Or.inl ⟨by rfl, fun w hSw => by clear hSw; go_simp; try (intro hbad; omega)⟩) hS ?_
    simp only [Act.put, List.setIfInBounds_toArray, List.set_cons_zero, List.set_cons_succ]
    refine wpAnyH_takeD 3 (some 22) (.pointer (some ⟨g, 1, none⟩)) rfl rfl (by kernel_rfl) (by kernel_rfl) (by kernel_rfl) (fun _ _ _ h => h) (Or.inl ⟨by rfl, fun w hSw => by clear hSw; go_simp; try (intro hbad; omega)⟩) hS ?_
    simp only [Act.put, List.setIfInBounds_toArray, List.set_cons_zero, List.set_cons_succ]
    refine wpAnyH_takeD 4 (some 23) (.pointer (some ⟨g, 1 + p * 32, none⟩)) rfl rfl (by kernel_rfl) (by kernel_rfl) (by kernel_rfl) (fun _ _ _ h => h) (Or.inl ⟨by rfl, fun w hSw => by clear hSw; go_simp; try (intro hbad; omega)⟩) hS ?_
    simp only [Act.put, List.setIfInBounds_toArray, List.set_cons_zero, List.set_cons_succ]
    refine wpAnyH_takeD 5 (some 24) (.agg ca.toArray) rfl rfl (by kernel_rfl) (by kernel_rfl) (by kernel_rfl) (fun _ _ _ h => h) (yieldsIf_load_mid (by rfl) 46 (.tmp 23) rfl g (1 + p * 32) rfl _ _ (fun w hSw => unhide HA1 w hSw) Tryd.underlying46 rfl (by rw [szD, unhide HLP])) hS ?_
    simp only [Act.put, List.setIfInBounds_toArray, List.set_cons_zero, List.set_cons_succ]
    refine wpAnyH_ready (rs := [6]) (by kernel_rfl) (by simp) ?_
    refine AllReadyH.cons rfl (fun K hK => ?_) AllReadyH.nil
    simp only [List.getElem_toArray, List.getElem_cons_succ, List.getElem_cons_zero]
    refine wp_load_mid 46 (.tmp 4) rfl c 0 rfl _ _ (unhide HA2) Tryd.underlying46 rfl (by rw [szD, unhide HLR]) ?_
    simp only [Act.put, List.setIfInBounds_toArray, List.set_cons_zero, List.set_cons_succ]
    refine hK.out _ _ hS (fun hS => ?_)
    clear hK K
    refine wpAnyH_ready (rs := [7]) (by kernel_rfl) (by simp) ?_
    refine AllReadyH.cons rfl (fun K hK => ?_) AllReadyH.nil
    simp only [List.getElem_toArray, List.getElem_cons_succ, List.getElem_cons_zero]
    go_simp
    refine (unhide HOV _ (unhide HA3 _ hS)).mono ?_
    rintro e y3 ⟨rfl, hb3⟩
    have hS9 := unhide HA4 _ _ hS hb3
    clear hb3
    refine hK.out _ _ hS9 (fun hS => ?_)
    clear hK K
    refine wpAnyH_ready (rs := [8]) (by kernel_rfl) (by simp) ?_
    refine AllReadyH.cons rfl (fun K hK => ?_) AllReadyH.nil
    rw [if_pos (by rfl)]
    have HTHc := hide (unhide HA5 _ hS).1
    have HAN := (unhide HA5 _ hS).2.1
    have HSN := hide (unhide HA5 _ hS).2.2
    refine wp_store_mid 46 (.tmp 4) (.tmp 26) rfl c 0 cn.toArray rfl rfl (by simpa [unhide HLN] using unhide HTHc) (by rw [szD]; simp [unhide HLN]) (unhide HON) ?_
    simp only [List.getElem_toArray, List.getElem_cons_succ, List.getElem_cons_zero, Act.put]
    refine hK.out _ _ (unhide HSN) (fun hS => ?_)
    clear hK K
    refine wpAnyH_done (by kernel_rfl) ?_ _
    have H6 := hide (unhide HA6 _ (unhide HSN) (unhide HAN))
    have HTG := hide (unhide H6).1
    obtain ⟨y5, hy5⟩ : ∃ q, World.setCells y3 c 0 cn = q := ⟨_, rfl⟩
    rw [hy5] at H6 HTG
    rw [hy5]
    clear HSN HAN hy5 HTHc hS hS9
    go_wp2_with (first | refine wpList_built0 rfl 46 rfl cz.toArray (unhide HBZ) ?_ | refine wpList_store_mid rfl 46 (.tmp 32) (.tmp 29) rfl g (1 + p * 32) cz.toArray rfl rfl (by simpa [unhide HLZ] using unhide HTG) (by rw [szD]; simp [unhide HLZ]) (unhide HOZ) ?_ | fail)
    go_roundw
    case rel => exact ⟨p + 1, by omega, hmo, by go_num, (unhide H6).2.1, (unhide H6).2.2.1, (unhide H6).2.2.2.1, (unhide H6).2.2.2.2⟩
    case measure => simp [intOf] <;> omega
  · rw [decide_eq_false hbit] at HHP
    have hbit0 : n / 2 ^ p % 2 = 0 := by omega
    obtain ⟨AT, hAT⟩ : ∃ AT : World → Prop, AT = fun y => Arr y c 0 .u8 (nums (R p)) ∧ PT y g l p ∧ Touch g w y ∧ c < y.heap.size := ⟨_, rfl⟩
    have HAT := hide (show AT wi.drew from by rw [hAT]; exact ⟨(unhide HAR).drew, ⟨(unhide HPR).1, (unhide HPR).2⟩, (unhide HTR).drew, unhide HCR⟩)
    have HA1 := hide (show ∀ y, AT y → y.rangeAt c 0 (dC (R p)) from fun y hy => by rw [hAT] at hy; exact hy.1.range)
    have HA5 := hide (show ∀ y, AT y → y.there g (1 + p * 32) 32 ∧ Hid ((y.setCells g (1 + p * 32) (dC (R p))).cell? ⟨g, 0, none⟩ = some (.int .i64 (n : Int)) ∧ (y.setCells g (1 + p * 32) (dC (R p))).frozen? ⟨g, 0, none⟩ = false) ∧ Hid (TrM ((y.setCells g (1 + p * 32) (dC (R p))).setCell ⟨g, 0, none⟩ (.int .i64 ((n : Int) + 1))) g (l ++ [x])) ∧ Hid (Touch g w ((y.setCells g (1 + p * 32) (dC (R p))).setCell ⟨g, 0, none⟩ (.int .i64 ((n : Int) + 1)))) ∧ AT (y.setCells g (1 + p * 32) (dC (R p))) from fun y hy => by
      rw [hAT] at hy
      obtain ⟨i1, i3, i4, i5⟩ := hy
      have j := i3.put (by omega) (R p) (unhide HRZ p)
      have j3 : Below 0 y (y.setCells g (1 + p * 32) (dC (R p))) := below_setCells (Nat.zero_le _) _ _ (Below.refl _ _)
      exact ⟨i3.there p (by omega), hide (unhide HPC _ _ j.1), hide (unhide HDN _ p j.1 (by have := j3.size; omega) (by omega) hmod hbit0 j.2), hide ((Touch.setCells _ _ i4).setCell _ _), by rw [hAT]; exact ⟨i1.setCells_apart _ _ _ (.inl (by omega)), ⟨j.1.1, fun q hq => by
        obtain ⟨d, a1, a2, a3⟩ := j.1.2 q hq
        refine ⟨d, a1, a2, fun h8 h9 => a3 ?_ h9⟩
        by_cases h7 : q = p
        · subst h7; rw [hn] at h9; omega
        · omega⟩, Touch.setCells _ _ i4, Nat.lt_of_lt_of_le i5 j3.size⟩⟩)
    have HOR := hide (dC_all (R p))
    clear hAT HAR HPR HTR HCR HRG
    generalize dC (R p) = cb at *
    go_wp2_with fail
    refine (unhide HHP).mono ?_
    rintro e y2 ⟨rfl, hy2⟩
    rw [hy2]
    clear hy2 y2
    go_wp2_with fail
    refine wp_region_held_drew (S := fun W => AT W) (by kernel_rfl) (unhide HAT) ?_
    intro hS
    refine wpAnyH_takeD 0 (some 33) (.pointer (some ⟨g, 0, none⟩)) rfl rfl (by kernel_rfl) (by kernel_rfl) (by kernel_rfl) (fun _ _ _ h => h) (Or.inl ⟨by rfl, fun w hSw => by clear hSw; go_simp; try (intro hbad; omega)⟩) hS ?_
    simp only [Act.put, List.setIfInBounds_toArray, List.set_cons_zero, List.set_cons_succ]
    refine wpAnyH_takeD 1 (some 34) (.int .i64 (p : Int)) rfl rfl (by kernel_rfl) (by kernel_rfl) (by kernel_rfl) (fun _ _ _ h => h) (Or.inl ⟨by rfl, fun w hSw => by clear hSw; go_simp; try (intro hbad; omega)⟩) hS ?_
    simp only [Act.put, List.setIfInBounds_toArray, List.set_cons_zero, List.set_cons_succ]
    refine wpAnyH_takeD 2 (some 35) (.agg cb.toArray) rfl rfl (by kernel_rfl) (by kernel_rfl) (by kernel_rfl) (fun _ _ _ h => h) (yieldsIf_load_mid (by rfl) 46 (.tmp 4) rfl c 0 rfl _ _ (fun w hSw => unhide HA1 w hSw) Tryd.underlying46 rfl (by rw [szD, unhide HLR])) hS ?_
    simp only [Act.put, List.setIfInBounds_toArray, List.set_cons_zero, List.set_cons_succ]
    refine wpAnyH_takeD 3 (some 36) (.pointer (some ⟨g, 0, none⟩)) rfl rfl (by kernel_rfl) (by kernel_rfl) (by kernel_rfl) (fun _ _ _ h => h) (Or.inl ⟨by rfl, fun w hSw => by clear hSw; go_simp; try (intro hbad; omega)⟩) hS ?_
    simp only [Act.put, List.setIfInBounds_toArray, List.set_cons_zero, List.set_cons_succ]
    refine wpAnyH_takeD 4 (some 37) (.pointer (some ⟨g, 1, none⟩)) rfl rfl (by kernel_rfl) (by kernel_rfl) (by kernel_rfl) (fun _ _ _ h => h) (Or.inl ⟨by rfl, fun w hSw => by clear hSw; go_simp; try (intro hbad; omega)⟩) hS ?_
    simp only [Act.put, List.setIfInBounds_toArray, List.set_cons_zero, List.set_cons_succ]
    refine wpAnyH_takeD 5 (some 38) (.pointer (some ⟨g, 1 + p * 32, none⟩)) rfl rfl (by kernel_rfl) (by kernel_rfl) (by kernel_rfl) (fun _ _ _ h => h) (Or.inl ⟨by rfl, fun w hSw => by clear hSw; go_simp; try (intro hbad; omega)⟩) hS ?_
    simp only [Act.put, List.setIfInBounds_toArray, List.set_cons_zero, List.set_cons_succ]
    refine wpAnyH_ready (rs := [6]) (by kernel_rfl) (by simp) ?_
    refine AllReadyH.cons rfl (fun K hK => ?_) AllReadyH.nil
    rw [if_pos (by rfl)]
    have HTG := hide (unhide HA5 _ hS).1
    have HCE := (unhide HA5 _ hS).2.1
    have HEN := hide (And.intro (unhide HA5 _ hS).2.2.1 (unhide HA5 _ hS).2.2.2.1)
    have HSN := hide (unhide HA5 _ hS).2.2.2.2
    refine wp_store_mid 46 (.tmp 38) (.tmp 35) rfl g (1 + p * 32) cb.toArray rfl rfl (by simpa [unhide HLR] using unhide HTG) (by rw [szD]; simp [unhide HLR]) (unhide HOR) ?_
    simp only [List.getElem_toArray, List.getElem_cons_succ, List.getElem_cons_zero, Act.put]
    refine hK.out _ _ (unhide HSN) (fun hS => ?_)
    clear hK K
    refine wpAnyH_done (by kernel_rfl) ?_ _
    obtain ⟨y5, hy5⟩ : ∃ q, World.setCells wi.drew g (1 + p * 32) cb = q := ⟨_, rfl⟩
    rw [hy5] at HEN HCE
    rw [hy5]
    have hce := (unhide HCE).1
    have hfe := (unhide HCE).2
    clear HCE hy5 hS HSN
    go_wp2
    exact ⟨rfl, .tuple #[], by simp [results], rfl, unhide (unhide HEN).1, unhide (unhide HEN).2⟩
end Go.Proofs.YtilhilglokblpaaDoor
