import Derived.Test.YtabgcgdpeikieaaDoorPdf
namespace Go.Proofs.YtabgcgdpeikieaaDoor
open Go.RowKit
set_option maxRecDepth 100000
/-- While places are chosen: a block of noughts, the choice behind it. -/
structure CSt (w0 : World) (n : Nat) (S : List Nat) (w : World) : Prop where
  z : Blk w n #[.int .i64 0, .int .i64 0, .int .i64 0, .int .i64 0, .int .i64 0, .int .i64 0, .int .i64 0, .int .i64 0] 78
  c : Blk w (n + 1) (chA S) 114
  lo : Below n w0 w
  sz : n + 2 ≤ w.heap.size
theorem CSt.below {w0 w w' : World} {n B : Nat} {S : List Nat} (h : CSt w0 n S w) (hb : Below B w w') (hB : w.heap.size ≤ B) : CSt w0 n S w' :=
  have := h.sz
  ⟨h.z.below hb (by omega), h.c.below hb (by omega), h.lo.trans (hb.mono (by omega)), by have := hb.size; omega⟩
theorem CSt.chg {w0 w w' : World} {n : Nat} {S S' : List Nat} (h : CSt w0 n S w) (hc : Blk w' (n + 1) (chA S') 114) (ho : Only (fun x => x = n + 1) w w') : CSt w0 n S' w' :=
  have := h.sz
  ⟨h.z.only ho (by omega), hc, h.lo.trans (ho.below (by omega) (fun k hk => by omega)), by have := ho.size; omega⟩
theorem chA_zero : Tryd.zeroCells114 = chA [] := by kernel_rfl
set_option maxHeartbeats 4000000 in
theorem choose_any {w : World} {g1 g2 : Nat} {dr dg : ByteArray} (h1 : Blk w g1 #[.string dr] 9) (h2 : Blk w g2 #[.string dg] 9) (hr : dr.size = 16) (hg : dg.size = 32) (hK : KTab w) :
    Calls Tryd.prog 51 #[.func (.func 49) #[] #[.pointer (some ⟨g1, 0, none⟩), .pointer (some ⟨g2, 0, none⟩)]] w fun e w' => e = .returned (.agg (arr8 (plR (plS (bts (dvS dr dg 32)) (bts (dvS dr dg 8160)))))) ∧ Below w.heap.size w w' := by
  obtain ⟨n, hn⟩ : ∃ n, w.heap.size = n := ⟨_, rfl⟩
  obtain ⟨y, hy⟩ : ∃ Z, (w.alloc (.cells #[.int .i64 0, .int .i64 0, .int .i64 0, .int .i64 0, .int .i64 0, .int .i64 0, .int .i64 0, .int .i64 0] 78)).alloc (.cells Tryd.zeroCells114 114) = Z := ⟨_, rfl⟩
  have hC : CSt w n [] y := by
    rw [← hy]
    have b1 := (Blk.new w 78 #[.int .i64 0, .int .i64 0, .int .i64 0, .int .i64 0, .int .i64 0, .int .i64 0, .int .i64 0, .int .i64 0]).alloc (.cells Tryd.zeroCells114 114)
    have b2 := Blk.new (w.alloc (.cells #[.int .i64 0, .int .i64 0, .int .i64 0, .int .i64 0, .int .i64 0, .int .i64 0, .int .i64 0, .int .i64 0] 78)) 114 Tryd.zeroCells114
    rw [World.size_alloc, chA_zero] at b2
    rw [hn] at b1 b2
    rw [chA_zero] at b1 ⊢
    refine ⟨b1, b2, ?_, by rw [World.size_alloc, World.size_alloc]; omega⟩
    rw [← hn]
    exact ((Below.refl _ _).alloc (Nat.le_refl _) _).alloc (by rw [World.size_alloc]; omega) _
  have HD := hide (show ∀ (W : World) (m : Nat), m ≤ 8160 → Below n w W → Calls Tryd.prog 49 #[.int .i64 (m : Int), .pointer (some ⟨g1, 0, none⟩), .pointer (some ⟨g2, 0, none⟩)] W fun e w' => e = .returned (.string (dvS dr dg m)) ∧ Below W.heap.size W w' from fun W m hm hb => by
    rw [← hn] at hb
    exact derived_any (h1.below hb h1.lt) (h2.below hb h2.lt) hr hg m hm (hK.below hb hK.1))
  have H32 := hide (dvS_size dr dg 32)
  have H81 := hide (dvS_size dr dg 8160)
  obtain ⟨s32, h32⟩ : ∃ s, dvS dr dg 32 = s := ⟨_, rfl⟩
  obtain ⟨s81, h81⟩ : ∃ s, dvS dr dg 8160 = s := ⟨_, rfl⟩
  rw [h32] at H32 ⊢
  rw [h81] at H81 ⊢
  have HE32 := hide h32
  have HE81 := hide h81
  have HC := hide hC
  clear h1 h2 hr hg hK hC h32 h81
  rw [hn]
  go_enter Tryd.func51, Tryd.ntmps51
  go_wp2_with fail
  have hq1 := unhide HD y 32 (by omega) (unhide HC).lo
  rw [unhide HE32] at hq1
  refine hq1.mono ?_
  clear hq1
  rintro e y1 ⟨rfl, hb1⟩
  have HC1 := hide ((unhide HC).below hb1 (Nat.le_refl _))
  clear hb1 HC hy
  clear y
  have HB1 := hide (cbytes_any (unhide HC1).c Chs.nil s32 (by have := unhide H32; omega))
  go_wp2_with (go_at_call 61; refine (unhide HB1).mono ?_; rintro e y2 ⟨rfl, hb2, ho2⟩; have HC2 := hide ((unhide HC1).chg hb2 ho2); clear hb2 ho2)
  clear HB1 HC1
  clear y1
  obtain ⟨S1, hS1⟩ : ∃ S, addsP [] (bts s32) = S := ⟨_, rfl⟩
  rw [hS1] at HC2
  have HS1 := hide hS1
  have HX1 := hide (show Chs S1 from by rw [← hS1]; exact Chs.nil.adds _ (bts_lt s32))
  clear hS1
  have HF := hide (isFull_any (unhide HC2).c)
  rename_i K3 a3 K2 a2 K1 a1
  have hK3 : ∀ (t8 t9 t10 t11 t12 : Value) (S2 : List Nat) (wr : World), CSt w n S2 wr → Chs S2 → addsP S2 (List.range 256) = plS (bts s32) (bts s81) →
      K3 ⟨#[.func (.func 49) #[] #[.pointer (some ⟨g1, 0, none⟩), .pointer (some ⟨g2, 0, none⟩)], undef, .pointer (some ⟨n, 0, none⟩), .pointer (some ⟨n + 1, 0, none⟩), undef, .func (.func 49) #[] #[.pointer (some ⟨g1, 0, none⟩), .pointer (some ⟨g2, 0, none⟩)], .string s32, .tuple #[], t8, t9, t10, t11, t12, undef, undef, undef, undef, undef, undef, undef], []⟩ wr := by
    intro t8 t9 t10 t11 t12 S2 wr0 hC hX hP
    refine a3 _ _ ?_
    have HC := hide hC
    have HX := hide hX
    have HP := hide hP
    clear a3 a2 a1 HF HC2 HX1 HS1 HD hC hX hP H32 H81 HE32 HE81
    clear K1 K2 K3
    go_wp2
    go_loopw [13] (fun i wr => ∃ k : Nat, k ≤ 256 ∧ i = .int .i64 (k : Int) ∧ CSt w n (addsP S2 (List.range k)) wr) (fun i _ => 256 - (intOf i).toNat)
    case atStart => exact ⟨0, by omega, rfl, unhide HC⟩
    case round =>
      obtain ⟨k, hk, rfl, hC⟩ := hrel
      have hXk : Chs (addsP S2 (List.range k)) := (unhide HX).adds _ (fun p hp => by have := List.mem_range.1 hp; omega)
      by_cases hlt : k < 256
      · have i1 : (k : Int) < 256 := by omega
        have HA := hide (cadd_any hC.c hXk.len k hlt)
        have HCk := hide hC
        have HE := hide (show addsP S2 (List.range (k + 1)) = addP (addsP S2 (List.range k)) k by rw [List.range_succ, addsP_snoc])
        clear hC hXk HC HX HP
        go_wp2_with (go_at_call 63; refine (unhide HA).mono ?_; rintro e z ⟨rfl, hb2, ho2⟩; have HC2 := hide ((unhide HCk).chg hb2 ho2); clear hb2 ho2)
        go_roundw
        case rel =>
          refine ⟨k + 1, by omega, by go_num, ?_⟩
          rw [unhide HE]
          exact unhide HC2
        case measure => simp [intOf]; omega
      · have hk' : k = 256 := by omega
        subst hk'
        have h8 := adds_range (unhide HX)
        rw [unhide HP] at hC hXk h8
        have HR := hide (rising_any hC.c hXk h8)
        have HCk := hide hC
        have HPL := hide (show (arr8 (plR (plS (bts s32) (bts s81)))).size = 8 by simp [arr8])
        have H1 := hide (show (arr8 (plR (plS (bts s32) (bts s81)))).all (·.oneCell') = true by simp [arr8, Value.oneCell'])
        obtain ⟨A, hA⟩ : ∃ A, arr8 (plR (plS (bts s32) (bts s81))) = A := ⟨_, rfl⟩
        rw [hA] at HR HPL H1
        have HAE := hide hA
        clear hC hXk h8 HC HX HP hA hlt
        go_wp2_with (first | (go_at_call 64; refine (unhide HR).mono ?_; rintro e z ⟨rfl, hb2⟩; have HCz := hide ((unhide HCk).below hb2 (Nat.le_refl _)); clear hb2) | refine wpList_store_mid rfl 78 (.tmp 2) (.tmp 19) rfl n 0 A rfl rfl (by rw [unhide HPL]; exact blk_there (unhide HCz).z 8 rfl) (by rw [sizePla, unhide HPL]) (unhide H1) ?_)
        simp only [Act.put]
        have hW : Blk (z.setCells n 0 A.toList) n A 78 := by
          have := setCells_all (unhide HCz).z A.toList (by rw [Array.length_toList, unhide HPL]; rfl)
          simpa using this
        refine bodyPost_ret (results_cell rfl _ _ _ ⟨n, 0, none⟩ rfl _ (iload_blk _ _ hW Tryd.underlying78 rfl (by rw [sizePla, unhide HPL]))) rfl ?_
        exact ⟨by rw [unhide HAE], below_setCells (Nat.le_refl _) _ _ (unhide HCz).lo⟩
  have HK3 := hide hK3
  clear hK3 a3
  by_cases h8 : S1.length = 8
  · rw [decide_eq_true h8] at HF
    have HP := hide (show addsP S1 (List.range 256) = plS (bts s32) (bts s81) by unfold plS; rw [unhide HS1, if_pos h8])
    clear h8
    refine (unhide HF).mono ?_
    rintro e z ⟨rfl, rfl⟩
    simp only []
    go_wp2
    exact unhide HK3 _ _ _ _ _ S1 _ (unhide HC2) (unhide HX1) (unhide HP)
  · rw [decide_eq_false h8] at HF
    have HP := hide (show addsP (addsP S1 (bts s81)) (List.range 256) = plS (bts s32) (bts s81) by unfold plS; rw [unhide HS1, if_neg h8])
    clear h8
    refine (unhide HF).mono ?_
    rintro e z ⟨rfl, rfl⟩
    simp only []
    go_wp2_with fail
    have hq1 := unhide HD z 8160 (by omega) (unhide HC2).lo
    rw [unhide HE81] at hq1
    refine hq1.mono ?_
    clear hq1
    rintro e y3 ⟨rfl, hb1⟩
    have HC3 := hide ((unhide HC2).below hb1 (Nat.le_refl _))
    clear hb1
    have HB1 := hide (cbytes_any (unhide HC3).c (unhide HX1) s81 (by have := unhide H81; omega))
    go_wp2_with (go_at_call 61; refine (unhide HB1).mono ?_; rintro e y2 ⟨rfl, hb2, ho2⟩; have HC4 := hide ((unhide HC3).chg hb2 ho2); clear hb2 ho2)
    exact unhide HK3 _ _ _ _ _ _ _ (unhide HC4) ((unhide HX1).adds _ (bts_lt s81)) (unhide HP)
end Go.Proofs.YtabgcgdpeikieaaDoor
