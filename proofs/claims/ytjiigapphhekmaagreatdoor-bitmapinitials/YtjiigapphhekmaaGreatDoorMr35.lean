import Derived.Test.YtjiigapphhekmaaGreatDoorMr34
import Derived.ScopeJumps
namespace Go.Proofs.YtjiigapphhekmaaGreatDoor
open Go.RowKit Go.Maps Go.Sort Go.Shelf
theorem jump_ret {l : Nat} {J : Act → World → Prop} {Q : Exit → Act → World → Prop} {ac : Act} {wc : World} : Exit.jump l J Q .ret ac wc = Q .ret ac wc := rfl
theorem Kept.read {w0 w : World} {b jb pb mb : Nat} {X : Nat → Prop} {a n : Nat} {S : PS} {L : List ByteArray} {A : List (Nat × Nat)} {hn : Nat} {Mw Mn : List ByteArray} {T : Nat → Bool} {wr : World} (h : Kept w0 w b jb pb mb X a n S L A hn Mw Mn T wr) (k : Nat) (hk : k < pgs n) : ∃ bd, Pg n T k bd (Mn.getD (a + k) ByteArray.empty) ∧ Calls Tryz.prog 41 #[.pointer (some ⟨mb, 0, none⟩), .int .i64 (k : Int)] wr fun e w' => e = .returned (.tuple #[.string bd, .int .i64 0]) ∧ Kept w0 w b jb pb mb X a n S L A hn Mw Mn T w' := by
  obtain ⟨S', h2, h3, h4, h5⟩ := h
  obtain ⟨bd, hp, hc⟩ := h2.read k hk
  refine ⟨bd, hp, hc.mono ?_⟩
  rintro e w' ⟨rfl, S2, k1, k2, k3, k4⟩
  exact ⟨rfl, S2, k1, k2.trans h3, k3.trans h4, h5.trans k4 (fun _ _ q => q)⟩
theorem Kept.below {w0 w : World} {b jb pb mb : Nat} {X : Nat → Prop} {a n : Nat} {S : PS} {L : List ByteArray} {A : List (Nat × Nat)} {hn : Nat} {Mw Mn : List ByteArray} {T : Nat → Bool} {wr w' : World} (h : Kept w0 w b jb pb mb X a n S L A hn Mw Mn T wr) (hb : Below wr.heap.size wr w') : Kept w0 w b jb pb mb X a n S L A hn Mw Mn T w' := by
  obtain ⟨S', h2, h3, h4, h5⟩ := h
  exact ⟨S', h2.below hb, h3, h4, h5.trans (Only.of_below (P := fun x => ¬ X x) hb) (fun _ _ q => q)⟩
theorem Kept.mb {w0 w : World} {b jb pb mb : Nat} {X : Nat → Prop} {a n : Nat} {S : PS} {L : List ByteArray} {A : List (Nat × Nat)} {hn : Nat} {Mw Mn : List ByteArray} {T : Nat → Bool} {wr : World} (h : Kept w0 w b jb pb mb X a n S L A hn Mw Mn T wr) : MB wr mb pb a n := by
  obtain ⟨S', h2, h3, h4, h5⟩ := h
  exact h2.mp
set_option maxRecDepth 100000 in
set_option maxHeartbeats 4000000 in
theorem malloc_none {w0 w : World} {b jb pb mb : Nat} {X : Nat → Prop} {a n : Nat} {S : PS} {L : List ByteArray} {A : List (Nat × Nat)} {hn : Nat} {Mw Mn : List ByteArray} {T : Nat → Bool} (h : BG w0 w b jb pb mb X a n S L A hn Mw Mn T) (ho : S.op = false) : Calls Tryz.prog 17 #[.pointer (some ⟨mb, 0, none⟩)] w fun e w' => e = .returned (.tuple #[.int .i64 0, .int .i64 61]) ∧ Kept w0 w b jb pb mb X a n S L A hn Mw Mn T w' := by
  have HC := hide h.changeable
  rw [ho] at HC
  clear h ho
  go_enter Tryz.func17, Tryz.ntmps17
  go_wp2
  go_step3
  go_wp2_with fail
  refine (unhide HC).mono ?_
  rintro e x1 ⟨rfl, h1, hO1⟩
  have H1 := hide (And.intro h1 hO1)
  clear h1 hO1 HC
  go_wp2
  rw [Exit.noGoto_ret]
  go_ret2
  exact ⟨rfl, S, (unhide H1).1, rfl, Tk.refl _, (unhide H1).2⟩
set_option maxRecDepth 100000 in
set_option maxHeartbeats 4000000 in
theorem malloc_ok {w0 w : World} {b jb pb mb : Nat} {X : Nat → Prop} {a n : Nat} {S : PS} {L : List ByteArray} {A : List (Nat × Nat)} {hn : Nat} {Mw Mn : List ByteArray} {T : Nat → Bool} (h : BG w0 w b jb pb mb X a n S L A hn Mw Mn T) (ho : S.op = true) (p : Nat) (hl : Lea T n p) (hr : roomB S ((a + p / 256 : Nat) : Int) = true) : Calls Tryz.prog 17 #[.pointer (some ⟨mb, 0, none⟩)] w fun e w' => e = .returned (.tuple #[.int .i64 (p : Int), .int .i64 0]) ∧ Turned w0 w b jb pb mb X a n S L A hn Mw T p w' := by
  have hn2 := h.n2
  have hn1 := h.n1
  have h4 := pgs_le h.n2
  have hpk := pgs_lt hl.1
  have hpn := hl.1
  have HPO := hide (fun W => pagesOf_any n hn2 W)
  have HC := hide h.changeable
  rw [ho] at HC
  have HRM := hide (And.intro ho hr)
  have HL := hide hl
  have hpg : pgs n = (n + 255) / 256 := rfl
  clear h ho hl hr
  obtain ⟨P0, hP0⟩ : ∃ q, pgs n = q := ⟨_, rfl⟩
  rw [hP0] at HPO h4 hpg hpk
  have HP0 := hide hP0
  clear hP0
  go_enter Tryz.func17, Tryz.ntmps17
  go_wp2
  refine wp_scope_jumps 0 (fun ac wc => ∃ (t1 t2 t3 t6 t7 t8 t9 t10 t11 t12 t13 t14 t15 t16 t17 t18 t19 t20 t21 t22 t23 t24 t25 t26 t27 t28 t29 t30 t31 t32 t33 t34 t35 t36 t37 t38 t39 t40 t41 t42 t43 t44 t45 t46 t47 t48 t49 t50 t51 t52 : Value) (bd : ByteArray), ac = ⟨#[.pointer (some ⟨mb, 0, none⟩), t1, t2, t3, .int .i64 (p : Int), .string bd, t6, t7, t8, t9, t10, t11, t12, t13, t14, t15, t16, t17, t18, t19, t20, t21, t22, t23, t24, t25, t26, t27, t28, t29, t30, t31, t32, t33, t34, t35, t36, t37, t38, t39, t40, t41, t42, t43, t44, t45, t46, t47, t48, t49, t50, t51, t52], []⟩ ∧ Pg n T (p / 256) bd (Mn.getD (a + p / 256) ByteArray.empty) ∧ Kept w0 w b jb pb mb X a n S L A hn Mw Mn T wc) (fun _ _ => 0) rfl ?_ ?_
  · go_wp2_with fail
    refine (unhide HC).mono ?_
    rintro e x1 ⟨rfl, h1, hO1⟩
    have c2 := h1.mp.c2
    have X1 := hide (show Kept w0 w b jb pb mb X a n S L A hn Mw Mn T x1 from ⟨S, h1, rfl, Tk.refl _, hO1⟩)
    clear h1 hO1 HC
    go_wp2_with (go_at_call 40; refine (unhide HPO _).mono ?_; rintro e w' ⟨rfl, hw'⟩; subst w')
    go_loopw [4, 5, 6, 17] (fun _ _ _ i wr => ∃ k : Nat, k ≤ p / 256 ∧ i = .int .i64 (k : Int) ∧ Kept w0 w b jb pb mb X a n S L A hn Mw Mn T wr) (fun _ _ _ i _ => P0 - (intOf i).toNat)
    case atStart => exact ⟨0, by omega, rfl, unhide X1⟩
    case round =>
      obtain ⟨k, hk, rfl, hI⟩ := hrel
      obtain ⟨wo, rfl⟩ : ∃ wo, wo = wr := ⟨_, rfl⟩
      clear X1 c2
      have hkn : k < P0 := by omega
      have hkn' : (k : Int) < (P0 : Int) := by omega
      obtain ⟨bd, hpg', hc⟩ := hI.read k (by rw [unhide HP0]; exact hkn)
      have HCR := hide hc
      have HPG := hide hpg'
      have hbd := hpg'.1
      clear hI hc hpg'
      go_wp2_with fail
      refine (unhide HCR).mono ?_
      rintro e y1 ⟨rfl, hI1⟩
      have HPI := hide (placesIn_any hI1.mb hn2 k (by rw [unhide HP0]; exact hkn))
      have HI1 := hide hI1
      clear hI1 HCR
      obtain ⟨pn, hpn'⟩ : ∃ q, pin n k = q := ⟨_, rfl⟩
      rw [hpn'] at HPI
      have hpn2 : pn ≤ 256 ∧ 256 * k + pn ≤ n ∧ (pn = 256 ∨ 256 * k + pn = n) := by unfold pin at hpn'; omega
      clear hpn'
      go_wp2_with fail
      refine (unhide HPI).mono ?_
      rintro e y2 ⟨rfl, hb2⟩
      have X2 := hide ((unhide HI1).below hb2)
      clear HI1 HPI hb2
      have HFO := hide (fun W => firstOf_any k (by omega) W)
      go_wp2
      go_loopw [4, 32] (fun _ i wr => ∃ j : Nat, j ≤ pn ∧ 256 * k + j ≤ p ∧ i = .int .i64 (j : Int) ∧ Kept w0 w b jb pb mb X a n S L A hn Mw Mn T wr) (fun _ i _ => pn - (intOf i).toNat)
      case atStart => exact ⟨0, by omega, by omega, rfl, unhide X2⟩
      case round =>
        obtain ⟨j, hj, hjp, rfl, hJ⟩ := hrel
        obtain ⟨wi, rfl⟩ : ∃ wi, wi = wr := ⟨_, rfl⟩
        clear X2
        have HJ := hide hJ
        clear hJ
        by_cases hjn : j < pn
        · have hjn' : (j : Int) < (pn : Int) := by omega
          have HTK := hide (fun W => isTaken_any bd hbd (256 * k + j) (by omega) W)
          have hbit : bitB bd (256 * k + j) = T (256 * k + j) := (unhide HPG).bit _ (by omega) (by omega)
          rw [hbit] at HTK
          have e1 : ((256 * k : Nat) : Int) + (j : Int) = ((256 * k + j : Nat) : Int) := by omega
          have hfm : 256 * k < 2000 := by omega
          clear hbit
          obtain ⟨mm, hmm⟩ : ∃ q, 256 * k + j = q := ⟨_, rfl⟩
          have hmb : mm < 2000 := by omega
          rw [hmm] at HTK e1
          have HMM := hide hmm
          obtain ⟨fk, hfk⟩ : ∃ q, 256 * k = q := ⟨_, rfl⟩
          rw [hfk] at HFO e1 hfm
          have HFK := hide hfk
          clear hmm hfk
          go_wp2_with (go_at_call 43; refine (unhide HFO _).mono ?_; rintro e w' ⟨rfl, hw'⟩; subst w')
          refine (unhide HTK _).mono ?_
          rintro e y3 ⟨rfl, hb3⟩
          have HJ1 := hide ((unhide HJ).below hb3)
          clear hb3 HTK HJ
          by_cases hmp : mm < p
          · have hT : T mm = true := (unhide HL).2.2 mm hmp
            rw [hT]
            clear hT
            go_wp2
            go_roundw
            case rel => exact ⟨j + 1, by omega, by have := unhide HMM; omega, by go_num, unhide HJ1⟩
            case measure => simp [intOf]; omega
          · have hme : mm = p := by have := unhide HMM; omega
            have hT : T mm = false := by rw [hme]; exact (unhide HL).2.1
            rw [hT]
            clear hT hmp
            go_wp2
            go_step3
            have hkp : p / 256 = k := by have := unhide HMM; omega
            refine ⟨rfl, _, _, _, _, _, _, _, _, _, _, _, _, _, _, _, _, _, _, _, _, _, _, _, _, _, _, _, _, _, _, _, _, _, _, _, _, _, _, _, _, _, _, _, _, _, _, _, _, _, _, bd, rfl, by rw [hkp]; exact unhide HPG, unhide HJ1⟩
        · have hjn' : ¬ (j : Int) < (pn : Int) := by omega
          have hk1 : k + 1 ≤ p / 256 := by omega
          go_wp2
          go_roundw
          case rel => exact ⟨k + 1, hk1, by go_num, unhide HJ⟩
          case measure => simp [intOf]; omega
  · rintro ac wc ⟨t1, t2, t3, t6, t7, t8, t9, t10, t11, t12, t13, t14, t15, t16, t17, t18, t19, t20, t21, t22, t23, t24, t25, t26, t27, t28, t29, t30, t31, t32, t33, t34, t35, t36, t37, t38, t39, t40, t41, t42, t43, t44, t45, t46, t47, t48, t49, t50, t51, t52, bd, rfl, hpg', hK⟩
    obtain ⟨S', k1, k2, k3, k4⟩ := hK
    have HTU := hide (BG.turn k1 (k2.trans (unhide HRM).1) p hpn bd hpg' (by rw [show roomB S' _ = roomB S ((a + p / 256 : Nat) : Int) from by unfold roomB; rw [k3.1]]; exact (unhide HRM).2))
    have HX := hide (And.intro k3 k4)
    clear k1 k2 k3 k4 hpg' HC
    conv => arg 2; whnf
    go_wp2_with (go_at_call 48; refine (unhide HTU).mono ?_; rintro e x4 ⟨rfl, hTu⟩)
    rw [jump_ret]
    go_ret2
    obtain ⟨S2, M2, m1, m2, m3, m4⟩ := hTu
    exact ⟨rfl, S2, M2, m1, m2, ⟨by rw [← (unhide HX).1.1]; exact m3.1, m3.2.trans (unhide HX).1.2⟩, (unhide HX).2.trans m4 (fun _ _ q => q)⟩
set_option maxRecDepth 100000 in
set_option maxHeartbeats 4000000 in
theorem malloc_full {w0 w : World} {b jb pb mb : Nat} {X : Nat → Prop} {a n : Nat} {S : PS} {L : List ByteArray} {A : List (Nat × Nat)} {hn : Nat} {Mw Mn : List ByteArray} {T : Nat → Bool} (h : BG w0 w b jb pb mb X a n S L A hn Mw Mn T) (ho : S.op = true) (hall : ∀ i, i < n → T i = true) : Calls Tryz.prog 17 #[.pointer (some ⟨mb, 0, none⟩)] w fun e w' => e = .returned (.tuple #[.int .i64 0, .int .i64 70]) ∧ Kept w0 w b jb pb mb X a n S L A hn Mw Mn T w' := by
  have hn2 := h.n2
  have hn1 := h.n1
  have h4 := pgs_le h.n2
  have HPO := hide (fun W => pagesOf_any n hn2 W)
  have HC := hide h.changeable
  rw [ho] at HC
  have HL := hide hall
  have hpg : pgs n = (n + 255) / 256 := rfl
  clear h ho hall
  obtain ⟨P0, hP0⟩ : ∃ q, pgs n = q := ⟨_, rfl⟩
  rw [hP0] at HPO h4 hpg
  have HP0 := hide hP0
  clear hP0
  go_enter Tryz.func17, Tryz.ntmps17
  go_wp2
  go_step3
  go_wp2_with fail
  refine (unhide HC).mono ?_
  rintro e x1 ⟨rfl, h1, hO1⟩
  have c2 := h1.mp.c2
  have X1 := hide (show Kept w0 w b jb pb mb X a n S L A hn Mw Mn T x1 from ⟨S, h1, rfl, Tk.refl _, hO1⟩)
  clear h1 hO1 HC
  go_wp2_with (go_at_call 40; refine (unhide HPO _).mono ?_; rintro e w' ⟨rfl, hw'⟩; subst w')
  go_loopw [4, 5, 6, 17] (fun _ _ _ i wr => ∃ k : Nat, k ≤ P0 ∧ i = .int .i64 (k : Int) ∧ Kept w0 w b jb pb mb X a n S L A hn Mw Mn T wr) (fun _ _ _ i _ => P0 - (intOf i).toNat)
  case atStart => exact ⟨0, by omega, rfl, unhide X1⟩
  case round =>
    obtain ⟨k, hk, rfl, hI⟩ := hrel
    obtain ⟨wo, rfl⟩ : ∃ wo, wo = wr := ⟨_, rfl⟩
    clear X1 c2
    by_cases hkn : k < P0
    · have hkn' : (k : Int) < (P0 : Int) := by omega
      obtain ⟨bd, hpg', hc⟩ := hI.read k (by rw [unhide HP0]; exact hkn)
      have HCR := hide hc
      have HPG := hide hpg'
      have hbd := hpg'.1
      clear hI hc hpg'
      go_wp2_with fail
      refine (unhide HCR).mono ?_
      rintro e y1 ⟨rfl, hI1⟩
      have HPI := hide (placesIn_any hI1.mb hn2 k (by rw [unhide HP0]; exact hkn))
      have HI1 := hide hI1
      clear hI1 HCR
      obtain ⟨pn, hpn'⟩ : ∃ q, pin n k = q := ⟨_, rfl⟩
      rw [hpn'] at HPI
      have hpn2 : pn ≤ 256 ∧ 256 * k + pn ≤ n ∧ (pn = 256 ∨ 256 * k + pn = n) := by unfold pin at hpn'; omega
      clear hpn'
      go_wp2_with fail
      refine (unhide HPI).mono ?_
      rintro e y2 ⟨rfl, hb2⟩
      have X2 := hide ((unhide HI1).below hb2)
      clear HI1 HPI hb2
      have HFO := hide (fun W => firstOf_any k (by omega) W)
      go_wp2
      go_loopw [4, 32] (fun _ i wr => ∃ j : Nat, j ≤ pn ∧ i = .int .i64 (j : Int) ∧ Kept w0 w b jb pb mb X a n S L A hn Mw Mn T wr) (fun _ i _ => pn - (intOf i).toNat)
      case atStart => exact ⟨0, by omega, rfl, unhide X2⟩
      case round =>
        obtain ⟨j, hj, rfl, hJ⟩ := hrel
        obtain ⟨wi, rfl⟩ : ∃ wi, wi = wr := ⟨_, rfl⟩
        clear X2
        have HJ := hide hJ
        clear hJ
        by_cases hjn : j < pn
        · have hjn' : (j : Int) < (pn : Int) := by omega
          have HTK := hide (fun W => isTaken_any bd hbd (256 * k + j) (by omega) W)
          have hbit : bitB bd (256 * k + j) = true := by rw [(unhide HPG).bit _ (by omega) (by omega)]; exact unhide HL _ (by omega)
          rw [hbit] at HTK
          have e1 : ((256 * k : Nat) : Int) + (j : Int) = ((256 * k + j : Nat) : Int) := by omega
          have hfm : 256 * k < 2000 := by omega
          clear hbit
          obtain ⟨mm, hmm⟩ : ∃ q, 256 * k + j = q := ⟨_, rfl⟩
          have hmb : mm < 2000 := by omega
          rw [hmm] at HTK e1
          obtain ⟨fk, hfk⟩ : ∃ q, 256 * k = q := ⟨_, rfl⟩
          rw [hfk] at HFO e1 hfm
          clear hmm hfk
          go_wp2_with (first | (go_at_call 43; refine (unhide HFO _).mono ?_; rintro e w' ⟨rfl, hw'⟩; subst w') | (go_at_call 44; refine (unhide HTK _).mono ?_; rintro e y3 ⟨rfl, hb3⟩))
          go_roundw
          case rel => exact ⟨j + 1, by omega, by go_num, (unhide HJ).below hb3⟩
          case measure => simp [intOf]; omega
        · have hjn' : ¬ (j : Int) < (pn : Int) := by omega
          go_wp2
          go_roundw
          case rel => exact ⟨k + 1, by omega, by go_num, unhide HJ⟩
          case measure => simp [intOf]; omega
    · have hkn' : ¬ (k : Int) < (P0 : Int) := by omega
      have HI := hide hI
      clear hI
      go_wp2
      go_ret2
      exact ⟨rfl, unhide HI⟩
end Go.Proofs.YtjiigapphhekmaaGreatDoor
