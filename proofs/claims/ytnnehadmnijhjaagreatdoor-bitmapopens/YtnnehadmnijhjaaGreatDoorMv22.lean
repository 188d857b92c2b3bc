import Derived.Test.YtnnehadmnijhjaaGreatDoorMv21
import Derived.ScopeJumps
import Derived.Test.YtnnehadmnijhjaaGreatDoorMv15
namespace Go.Proofs.YtnnehadmnijhjaaGreatDoor
open Go.RowKit Go.Maps Go.Sort Go.Shelf
theorem jump_ret {l : Nat} {J : Act → World → Prop} {Q : Exit → Act → World → Prop} {ac : Act} {wc : World} : Exit.jump l J Q .ret ac wc = Q .ret ac wc := rfl
theorem Kept.read {w0 w : World} {b jb pb mb : Nat} {X : Nat → Prop} {a n : Nat} {S : PS} {L : List ByteArray} {A : List (Nat × Nat)} {hn : Nat} {Mw Mn : List ByteArray} {T : Nat → Bool} {wr : World} (h : Kept w0 w b jb pb mb X a n S L A hn Mw Mn T wr) (k : Nat) (hk : k < pgs n) : ∃ bd, Pg n T k bd (Mn.getD (a + k) ByteArray.empty) ∧ Calls Tryz.prog 39 #[.pointer (some ⟨mb, 0, none⟩), .int .i64 (k : Int)] wr fun e w' => e = .returned (.tuple #[.string bd, .int .i64 0]) ∧ Kept w0 w b jb pb mb X a n S L A hn Mw Mn T w' := by
  obtain ⟨S', h2, h3, h4, h5⟩ := h
  obtain ⟨bd, hp, hc⟩ := h2.read k hk
  refine ⟨bd, hp, hc.mono ?_⟩
  rintro e w' ⟨rfl, S2, k1, k2, k3, k4⟩
  exact ⟨rfl, S2, k1, k2.trans h3, k3.trans h4, h5.trans k4 (fun _ _ q => q)⟩
theorem Kept.below {w0 w : World} {b jb pb mb : Nat} {X : Nat → Prop} {a n : Nat} {S : PS} {L : List ByteArray} {A : List (Nat × Nat)} {hn : Nat} {Mw Mn : List ByteArray} {T : Nat → Bool} {wr w' : World} (h : Kept w0 w b jb pb mb X a n S L A hn Mw Mn T wr) (hb : Below wr.heap.size wr w') : Kept w0 w b jb pb mb X a n S L A hn Mw Mn T w' := by
  obtain ⟨S', h2, h3, h4, h5⟩ := h
  exact ⟨S', h2.below hb, h3, h4, h5.trans (Only.of_below (P := fun x => ¬ X x) hb) (fun _ _ q => q)⟩
theorem Kept.mb {w0 w : World} {b jb pb mb : Nat} {X : Nat → Prop} {a n : Nat} {S : PS} {L : List ByteArray} {A : List (Nat × Nat)} {hn : Nat} {Mw Mn : List ByteArray} {T : Nat → Bool} {wr : World} (h : Kept w0 w b jb pb mb X a n S L A hn Mw Mn T wr) : MB wr mb pb a n := by
  obtain ⟨S', h2, h3, h4, h5⟩ := h
  exact h2.mp
set_option maxRecDepth 100000 in
set_option maxHeartbeats 4000000 in
theorem malloc_none {w0 w : World} {b jb pb mb : Nat} {X : Nat → Prop} {a n : Nat} {S : PS} {L : List ByteArray} {A : List (Nat × Nat)} {hn : Nat} {Mw Mn : List ByteArray} {T : Nat → Bool} (h : BG w0 w b jb pb mb X a n S L A hn Mw Mn T) (ho : S.op = false) : Calls Tryz.prog 25 #[.pointer (some ⟨mb, 0, none⟩)] w fun e w' => e = .returned (.tuple #[.int .i64 0, .int .i64 61]) ∧ Kept w0 w b jb pb mb X a n S L A hn Mw Mn T w' := by
  have HC := hide h.changeable
  rw [ho] at HC
  clear h ho
  go_enter Tryz.func25, Tryz.ntmps25
  go_wp2
  go_step3
  go_wp2_with fail
  refine (unhide HC).mono ?_
  rintro e x1 ⟨rfl, h1, hO1⟩
  have H1 := hide (And.intro h1 hO1)
  clear h1 hO1 HC
  go_wp2
  rw [Exit.noGoto_ret]
  go_ret2
  exact ⟨rfl, S, (unhide H1).1, rfl, Tk.refl _, (unhide H1).2⟩
set_option maxRecDepth 100000 in
set_option maxHeartbeats 4000000 in
theorem malloc_ok {w0 w : World} {b jb pb mb : Nat} {X : Nat → Prop} {a n : Nat} {S : PS} {L : List ByteArray} {A : List (Nat × Nat)} {hn : Nat} {Mw Mn : List ByteArray} {T : Nat → Bool} (h : BG w0 w b jb pb mb X a n S L A hn Mw Mn T) (ho : S.op = true) (p : Nat) (hl : Lea T n p) (hr : roomB S ((a + p / 256 : Nat) : Int) = true) : Calls Tryz.prog 25 #[.pointer (some ⟨mb, 0, none⟩)] w fun e w' => e = .returned (.tuple #[.int .i64 (p : Int), .int .i64 0]) ∧ Turned w0 w b jb pb mb X a n S L A hn Mw T p w' := by
  have hn2 := h.n2
  have hn1 := h.n1
  have h4 := pgs_le h.n2
  have hpk := pgs_lt hl.1
  have hpn := hl.1
  have HPO := hide (fun W => pagesOf_any n hn2 W)
  have HC := hide h.changeable
  rw [ho] at HC
  have HRM := hide (And.intro ho hr)
  have HL := hide hl
  have hpg : pgs n = (n + 255) / 256 := rfl
  clear h ho hl hr
  obtain ⟨P0, hP0⟩ : ∃ q, pgs n = q := ⟨_, rfl⟩
  rw [hP0] at HPO h4 hpg hpk
  have HP0 := hide hP0
  clear hP0
  go_enter Tryz.func25, Tryz.ntmps25
  go_wp2
  refine wp_scope_jumps 0 (fun ac wc => ∃ (t1 t2 t3 t6 t7 t8 t9 t10 t11 t12 t13 t14 t15 t16 t17 t18 t19 t20 t21 t22 t23 t24 t25 t26 t27 t28 t29 t30 t31 t32 t33 t34 t35 t36 t37 t38 t39 t40 t41 t42 t43 t44 t45 t46 t47 t48 t49 t50 t51 t52 : Value) (bd : ByteArray), ac = ⟨#[.pointer (some ⟨mb, 0, none⟩), t1, t2, t3, .int .i64 (p : Int), .string bd, t6, t7, t8, t9, t10, t11, t12, t13, t14, t15, t16, t17, t18, t19, t20, t21, t22, t23, t24, t25, t26, t27, t28, t29, t30, t31, t32, t33, t34, t35, t36, t37, t38, t39, t40, t41, t42, t43, t44, t45, t46, t47, t48, t49, t50, t51, t52], []⟩ ∧ Pg n T (p / 256) bd (Mn.getD (a + p / 256) ByteArray.empty) ∧ Kept w0 w b jb pb mb X a n S L A hn Mw Mn T wc) (fun _ _ => 0) rfl ?_ ?_
  · go_wp2_with fail
    refine (unhide HC).mono ?_
    rintro e x1 ⟨rfl, h1, hO1⟩
    have c2 := h1.mp.c2
    have X1 := hide (show Kept w0 w b jb pb mb X a n S L A hn Mw Mn T x1 from ⟨S, h1, rfl, Tk.refl _, hO1⟩)
    clear h1 hO1 HC
    go_wp2_with (go_at_call 38; refine (unhide HPO _).mono ?_; rintro e w' ⟨rfl, hw'⟩; subst w')
    go_loopw [4, 5, 6, 17] (fun _ _ _ i wr => ∃ k : Nat, k ≤ p / 256 ∧ i = .int .i64 (k : Int) ∧ Kept w0 w b jb pb mb X a n S L A hn Mw Mn T wr) (fun _ _ _ i _ => P0 - (intOf i).toNat)
    case atStart => exact ⟨0, by omega, rfl, unhide X1⟩
    case round =>
      obtain ⟨k, hk, rfl, hI⟩ := hrel
      obtain ⟨wo, rfl⟩ : ∃ wo, wo = wr := ⟨_, rfl⟩
      clear X1 c2
      have hkn : k < P0 := by omega
      have hkn' : (k : Int) < (P0 : Int) := by omega
      obtain ⟨bd, hpg', hc⟩ := hI.read k (by rw [unhide HP0]; exact hkn)
      have HCR := hide hc
      have HPG := hide hpg'
      have hbd := hpg'.1
      clear hI hc hpg'
      go_wp2_with fail
      refine (unhide HCR).mono ?_
      rintro e y1 ⟨rfl, hI1⟩
      have HPI := hide (placesIn_any hI1.mb hn2 k (by rw [unhide HP0]; exact hkn))
      have HI1 := hide hI1
      clear hI1 HCR
      obtain ⟨pn, hpn'⟩ : ∃ q, pin n k = q := ⟨_, rfl⟩
      rw [hpn'] at HPI
      have hpn2 : pn ≤ 256 ∧ 256 * k + pn ≤ n ∧ (pn = 256 ∨ 256 * k + pn = n) := by unfold pin at hpn'; omega
      clear hpn'
      go_wp2_with fail
      refine (unhide HPI).mono ?_
      rintro e y2 ⟨rfl, hb2⟩
      have X2 := hide ((unhide HI1).below hb2)
      clear HI1 HPI hb2
      have HFO := hide (fun W => firstOf_any k (by omega) W)
      go_wp2
      go_loopw [4, 32] (fun _ i wr => ∃ j : Nat, j ≤ pn ∧ 256 * k + j ≤ p ∧ i = .int .i64 (j : Int) ∧ Kept w0 w b jb pb mb X a n S L A hn Mw Mn T wr) (fun _ i _ => pn - (intOf i).toNat)
      case atStart => exact ⟨0, by omega, by omega, rfl, unhide X2⟩
      case round =>
        obtain ⟨j, hj, hjp, rfl, hJ⟩ := hrel
        obtain ⟨wi, rfl⟩ : ∃ wi, wi = wr := ⟨_, rfl⟩
        clear X2
        have HJ := hide hJ
        clear hJ
        by_cases hjn : j < pn
        · have hjn' : (j : Int) < (pn : Int) := by omega
          have HTK := hide (fun W => isTaken_any bd hbd (256 * k + j) (by omega) W)
          have hbit : bitB bd (256 * k + j) = T (256 * k + j) := (unhide HPG).bit _ (by omega) (by omega)
          rw [hbit] at HTK
          have e1 : ((256 * k : Nat) : Int) + (j : Int) = ((256 * k + j : Nat) : Int) := by omega
          have hfm : 256 * k < 2000 := by omega
          clear hbit
          obtain ⟨mm, hmm⟩ : ∃ q, 256 * k + j = q := ⟨_, rfl⟩
          have hmb : mm < 2000 := by omega
          rw [hmm] at HTK e1
          have HMM := hide hmm
          obtain ⟨fk, hfk⟩ : ∃ q, 256 * k = q := ⟨_, rfl⟩
          rw [hfk] at HFO e1 hfm
          have HFK := hide hfk
          clear hmm hfk
          go_wp2_with (go_at_call 45; refine (unhide HFO _).mono ?_; rintro e w' ⟨rfl, hw'⟩; subst w')
          refine (unhide HTK _).mono ?_
          rintro e y3 ⟨rfl, hb3⟩
          have HJ1 := hide ((unhide HJ).below hb3)
          clear hb3 HTK HJ
          by_cases hmp : mm < p
          · have hT : T mm = true := (unhide HL).2.2 mm hmp
            rw [hT]
            clear hT
            go_wp2
            go_roundw
            case rel => exact ⟨j + 1, by omega, by have := unhide HMM; omega, by go_num, unhide HJ1⟩
            case measure => simp [intOf]; omega
          · have hme : mm = p := by have := unhide HMM; omega
            have hT : T mm = false := by rw [hme]; exact (unhide HL).2.1
            rw [hT]
            clear hT hmp
            go_wp2
            go_step3
            have hkp : p / 256 = k := by have := unhide HMM; omega
            refine ⟨rfl, _, _, _, _, _, _, _, _, _, _, _, _, _, _, _, _, _, _, _, _, _, _, _, _, _, _, _, _, _, _, _, _, _, _, _, _, _, _, _, _, _, _, _, _, _, _, _, _, _, _, bd, rfl, by rw [hkp]; exact unhide HPG, unhide HJ1⟩
        · have hjn' : ¬ (j : Int) < (pn : Int) := by omega
          have hk1 : k + 1 ≤ p / 256 := by omega
          go_wp2
          go_roundw
          case rel => exact ⟨k + 1, hk1, by go_num, unhide HJ⟩
          case measure => simp [intOf]; omega
  · rintro ac wc ⟨t1, t2, t3, t6, t7, t8, t9, t10, t11, t12, t13, t14, t15, t16, t17, t18, t19, t20, t21, t22, t23, t24, t25, t26, t27, t28, t29, t30, t31, t32, t33, t34, t35, t36, t37, t38, t39, t40, t41, t42, t43, t44, t45, t46, t47, t48, t49, t50, t51, t52, bd, rfl, hpg', hK⟩
    obtain ⟨S', k1, k2, k3, k4⟩ := hK
    have HTU := hide (BG.turn k1 (k2.trans (unhide HRM).1) p hpn bd hpg' (by rw [show roomB S' _ = roomB S ((a + p / 256 : Nat) : Int) from by unfold roomB; rw [k3.1]]; exact (unhide HRM).2))
    have HX := hide (And.intro k3 k4)
    clear k1 k2 k3 k4 hpg' HC
    conv => arg 2; whnf
    go_wp2_with (go_at_call 55; refine (unhide HTU).mono ?_; rintro e x4 ⟨rfl, hTu⟩)
    rw [jump_ret]
    go_ret2
    obtain ⟨S2, M2, m1, m2, m3, m4⟩ := hTu
    exact ⟨rfl, S2, M2, m1, m2, ⟨by rw [← (unhide HX).1.1]; exact m3.1, m3.2.trans (unhide HX).1.2⟩, (unhide HX).2.trans m4 (fun _ _ q => q)⟩
end Go.Proofs.YtnnehadmnijhjaaGreatDoor

namespace Go.Proofs.YtnnehadmnijhjaaGreatDoor
open Go.RowKit Go.Maps Go.Sort Go.Shelf
def zb : ByteArray := strOfNums (List.replicate 32 0)
theorem zb_size : zb.size = 32 := by rw [zb, strOfNums_size, List.length_replicate]
theorem zb_bit (i : Nat) : bitB zb i = false := by
  have hb : Bytes (List.replicate 32 0) := fun j => by
    rw [List.getD_eq_getElem?_getD, List.getElem?_replicate]
    split <;> simp
  have h : byN zb (i % 256 / 8) = 0 := by
    unfold byN zb
    rw [nums_strOfNums _ hb, List.getD_eq_getElem?_getD, List.getElem?_replicate]
    split <;> rfl
  unfold bitB
  rw [h]
  exact Nat.zero_testBit _
/-- The pages of an empty map. -/
def pgZ (m : Nat) : List ByteArray := (List.range m).map fun k => pgT k zb
theorem pgZ_len (m : Nat) : (pgZ m).length = m := by simp [pgZ]
theorem pgZ_succ (m : Nat) : strs (pgZ (m + 1)) = strs (pgZ m) ++ [.string (pgT m zb)] := by simp [pgZ, strs, List.range_succ]
theorem pgZ_at (m k : Nat) (h : k < m) : (pgZ m).getD k ByteArray.empty = pgT k zb := by simp [pgZ, List.getD_eq_getElem?_getD, h]
def InI (w : World) (m : Nat) (u : Value) (wr : World) : Prop := wr.ownsRow w.heap.size 9 1 u m (strs (pgZ m)) ∧ Below w.heap.size w wr
set_option maxRecDepth 100000 in
set_option maxHeartbeats 2000000 in
theorem minitial_any (n : Nat) (hn1 : 1 ≤ n) (hn2 : n ≤ 1024) (w : World) : Calls Tryz.prog 79 #[.int .i64 (n : Int)] w fun e w' => ∃ v, e = .returned (.tuple #[v, .int .i64 0]) ∧ InI w (pgs n) v w' := by
  obtain ⟨i0, hi, hz0, hz1, hz2⟩ := info_parts infoS
  have HI := hide (And.intro hi (And.intro hz0 (And.intro hz1 hz2)))
  clear hi hz0 hz1 hz2
  have HCN := hide (fun W => isCount_any (n : Int) W)
  rw [decide_eq_true (show (1 : Int) ≤ (n : Int) by omega), decide_eq_true (show (n : Int) ≤ 1024 by omega)] at HCN
  have HPO := hide (fun W => pagesOf_any n hn2 W)
  have h4 := pgs_le hn2
  have HRP := hide (fun W => rep_ok 32 W (by decide))
  have HZB := hide (show strOfNums (List.replicate 32 0) = zb from rfl)
  obtain ⟨Z, hZ⟩ : ∃ Z, strOfNums (List.replicate 32 0) = Z := ⟨_, rfl⟩
  rw [hZ] at HRP HZB
  clear hZ
  simp only [Int.cast_ofNat_Int] at HRP
  generalize pgs n = P0 at *
  go_enter Tryz.func79, Tryz.ntmps79
  go_wp2_with (first | (go_at_call 36; refine (unhide HCN _).mono ?_; rintro e w' ⟨rfl, hw'⟩; subst w') | (go_at_call 38; refine (unhide HPO _).mono ?_; rintro e w' ⟨rfl, hw'⟩; subst w'))
  go_loopw [4, 11] (fun u i wr => ∃ k : Nat, k ≤ P0 ∧ i = .int .i64 (k : Int) ∧ InI w k u wr) (fun _ i _ => P0 - (intOf i).toNat)
  case atStart => exact ⟨0, by omega, rfl, World.ownsRow_nil _ _ _ _, Below.refl _ _⟩
  case round =>
    obtain ⟨k, hk, rfl, hR, hB⟩ := hrel
    obtain ⟨wo, rfl⟩ : ∃ wo, wo = wr := ⟨_, rfl⟩
    obtain ⟨pv, cv, rfl, hcv⟩ := row_form hR
    by_cases hkn : k < P0
    · have hkn' : (k : Int) < (P0 : Int) := by omega
      have HR := hide hR
      have HB := hide hB
      clear hR hB hcv
      go_wp2_with fail
      refine (unhide HRP _).mono ?_
      rintro e y1 ⟨rfl, hb1⟩
      have HSE := hide (sectorOf_any k Z y1)
      have HB1 := hide hb1
      obtain ⟨t, ht⟩ : ∃ t, pgT k Z = t := ⟨_, rfl⟩
      rw [ht] at HSE
      have HT := hide (show pgT k zb = t from by rw [← ht, unhide HZB])
      clear hb1 ht
      go_wp2_with fail
      refine (unhide HSE).mono ?_
      rintro e y2 ⟨rfl, hb2⟩
      have hB2 : Below wo.heap.size wo y2 := (unhide HB1).trans (hb2.mono (unhide HB1).size)
      have HRA := hide (show (y2.alloc (.cells #[.string t] 9)).ownsRow w.heap.size 9 1 (.slice pv k cv) k (strs (pgZ k)) from (owns_only (unhide HR) (Only.of_below (P := fun _ => False) hB2) (fun _ _ q => q)).alloc _)
      have HXB := hide ((unhide HB).trans ((hB2.alloc hB2.size (.cells #[.string t] 9)).mono (unhide HB).size))
      clear hb2 hB2 HSE HB1
      go_wp2_with (refine wpList_append_own _ rfl (.tmp 14) (.tmp 18) 22 rfl w.heap.size 9 i0 (.string ⟨#[]⟩) 1 16 Tryz.underlying22 (unhide HI).1 (unhide HI).2.1 (unhide HI).2.2.1 (unhide HI).2.2.2 rfl (by decide) _ k (strs (pgZ k)) rfl (unhide HRA) ⟨y2.heap.size, 0, none⟩ 1 1 [.string t] rfl rfl (fun q u hu => news_one y2 9 _ q u hu) (by simp [Value.oneCell']) (by unfold maxLen; omega) (by omega) (unhide HXB).size ?_)
      intro v5 x5 ho5 hg5 _
      have HRR := hide (show InI w (k + 1) v5 x5 from ⟨by rw [pgZ_succ, unhide HT]; exact ho5, (unhide HXB).grown hg5 (unhide HXB).size (fun q hq => ((unhide HRA).lt q hq).1)⟩)
      clear ho5 hg5 HRA HXB HT
      go_wp2
      go_roundw
      case rel => exact ⟨k + 1, by omega, by go_num, unhide HRR⟩
      case measure => simp [intOf]; omega
    · have hke : k = P0 := by omega
      have hkn' : ¬ (k : Int) < (P0 : Int) := by omega
      subst hke
      have HF := hide (show InI w k (.slice pv k cv) wo from ⟨hR, hB⟩)
      clear hR hB hcv
      go_wp2
      go_ret2
      exact ⟨_, rfl, unhide HF⟩
/-- What is laid down, from sector a on: the first m of l. -/
def prN (a : Nat) (l : List ByteArray) (m : Nat) : List (Nat × ByteArray) := (List.range m).map fun i => (a + i, l.getD i ByteArray.empty)
theorem prN_succ (a : Nat) (l : List ByteArray) (m : Nat) : prN a l (m + 1) = prN a l m ++ [(a + m, l.getD m ByteArray.empty)] := by simp [prN, List.range_succ]
theorem prN_len (a : Nat) (l : List ByteArray) (m : Nat) : (prN a l m).length = m := by simp [prN]
def prA (a m : Nat) : List (Nat × Nat) := (List.range m).map fun i => (0, a + i)
theorem prA_len (a m : Nat) : (prA a m).length = m := by simp [prA]
theorem prA_succ (a m : Nat) : prA a (m + 1) = prA a m ++ [(0, a + m)] := by simp [prA, List.range_succ]
def layS (a : Nat) (l : List ByteArray) (m : Nat) : DSt := ⟨L0, layP L0 (prN a l m), prN a l m, A0 ++ prA a m, 0, false⟩
/-- The disk behind laid. -/
def ldL (a : Nat) (l : List ByteArray) : List ByteArray := layP L0 (prN a l l.length)
def ldA (a : Nat) (l : List ByteArray) : List (Nat × Nat) := A0 ++ prA a l.length ++ [(1, 0)]
theorem layS_write (a : Nat) (l : List ByteArray) (m : Nat) (h : a + m < 128) (ht : (l.getD m ByteArray.empty).size = 256) : writeE (layS a l m) ((a + m : Nat) : Int) (l.getD m ByteArray.empty) = 0 ∧ writeS (layS a l m) ((a + m : Nat) : Int) (l.getD m ByteArray.empty) = layS a l (m + 1) := by
  obtain ⟨h1, h2⟩ := writeA (s := layS a l m) ⟨rfl, rfl⟩ (a + m) (by show a + m < L0.length; rw [L0_len]; exact h) _ ht
  refine ⟨h1, ?_⟩
  rw [h2]
  unfold layS
  simp only
  rw [prN_succ, prA_succ, layP_app, List.append_assoc]
  rfl
theorem layS_flush (a : Nat) (l : List ByteArray) : flushE (layS a l l.length) = 0 ∧ flushS (layS a l l.length) = rs (ldL a l) (ldA a l) := by
  obtain ⟨h1, h2⟩ := flushA (s := layS a l l.length) ⟨rfl, rfl⟩
  exact ⟨h1, by rw [h2]; rfl⟩
set_option maxRecDepth 100000 in
set_option maxHeartbeats 2000000 in
theorem blaid_any (p : Option Addr) (c : Nat) (l : List ByteArray) (a m : Nat) (hm : m = l.length) (hz : ∀ i, i < l.length → (l.getD i ByteArray.empty).size = 256) (h19 : 19 ≤ a) (h128 : a + l.length ≤ 128) (w : World) (hS : Strs w p l) : Calls Tryz.prog 6 #[.slice p m c, .int .i64 (a : Int)] w fun e w' => ∃ b, e = .returned (.pointer (some ⟨b, 0, none⟩)) ∧ DI w w' b (rs (ldL a l) (ldA a l)) := by
  have HNW := hide (new128 w)
  have HL := hide (And.intro hz hS)
  have hm128 : a + m ≤ 128 := by omega
  have HM := hide hm
  clear hz hS hm h128
  go_enter Tryz.func6, Tryz.ntmps6
  go_wp2_with fail
  refine (unhide HNW).mono ?_
  rintro e x1 ⟨b, rfl, v, h1, h5, h6⟩
  have HF := hide (format_any x1 w.heap.size b v _ h1 h5.size h6 (Nat.zero_le _) (Nat.zero_le _))
  rw [format_rs] at HF
  have H1 := hide (And.intro h1 (And.intro h5 h6))
  clear h1 h5 h6 HNW
  go_wp2_with fail
  refine (unhide HF).mono ?_
  rintro e x2 ⟨rfl, v2, k1, k2, k3⟩
  have hb2 := DI.only (unhide H1).1 (unhide H1).2.1 k2
  have hS2 : Sane (rs L0 A0) := by
    have := layR_sane [(1, headB 0 [])] _ (unhide H1).2.2
    rw [format_rs] at this
    exact this
  have X0 := hide (show DI w x2 b (layS a l 0) from ⟨v2, k1, hb2, hS2⟩)
  clear k1 k2 k3 hb2 hS2 H1 HF
  go_wp2
  go_loopw [6, 7] (fun er i wr => ∃ k : Nat, k ≤ m ∧ er = .int .i64 0 ∧ i = .int .i64 (k : Int) ∧ DI w wr b (layS a l k)) (fun _ i _ => m - (intOf i).toNat)
  case atStart => exact ⟨0, by omega, rfl, rfl, unhide X0⟩
  case round =>
    obtain ⟨k, hk, rfl, rfl, hD⟩ := hrel
    obtain ⟨wo, rfl⟩ : ∃ wo, wo = wr := ⟨_, rfl⟩
    clear X0
    by_cases hkn : k < m
    · have hkn' : (k : Int) < (m : Int) := by omega
      have hdk : decide ((k : Int) < (m : Int)) = true := decide_eq_true hkn'
      have hk0 : (0 : Int) ≤ (k : Int) := by omega
      have hkl : k < l.length := by have := unhide HM; omega
      obtain ⟨g, oo, rfl, hgl, cg⟩ := (unhide HL).2 k hkl
      have cg' : wo.cell? ⟨g, oo + k, none⟩ = some (.string (l.getD k ByteArray.empty)) := by rw [hD.bel.cell hgl]; exact cg
      have HWR := hide (writeD hD (by show (prN a l k).length ≤ _; rw [prN_len]; omega) (by show (A0 ++ prA a k).length ≤ _; rw [List.length_append, prA_len]; have : A0.length = 2 := rfl; omega) ((a + k : Nat) : Int) (l.getD k ByteArray.empty))
      obtain ⟨w1, w2⟩ := layS_write a l k (by omega) ((unhide HL).1 k hkl)
      rw [w1, w2] at HWR
      have e1 : (a : Int) + (k : Int) = ((a + k : Nat) : Int) := by omega
      have hq : a + k ≤ 1000 := by omega
      clear hD w1 w2 cg
      generalize a + k = ak at *
      generalize l.getD k ByteArray.empty = t at *
      go_wp2_with (go_at_call 30; refine (unhide HWR).mono ?_; rintro e y1 ⟨rfl, hD1⟩)
      go_roundw
      case rel => exact ⟨k + 1, by omega, rfl, by go_num, hD1⟩
      case measure => simp [intOf]; omega
    · have hke : k = m := by omega
      have hkn' : ¬ (k : Int) < (m : Int) := by omega
      have hdk : decide ((k : Int) < (m : Int)) = false := decide_eq_false hkn'
      have hkl : k = l.length := by have := unhide HM; omega
      rw [hkl] at hD
      have HFL := hide (flushD hD (by show (prN a l l.length).length ≤ _; rw [prN_len]; omega) (by show (A0 ++ prA a l.length).length ≤ _; rw [List.length_append, prA_len]; have : A0.length = 2 := rfl; omega))
      rw [(layS_flush a l).1, (layS_flush a l).2] at HFL
      clear hD hkl
      go_wp2_with (go_at_call 9; refine (unhide HFL).mono ?_; rintro e y1 ⟨rfl, hD1⟩)
      go_ret
      exact ⟨b, rfl, hD1⟩
end Go.Proofs.YtnnehadmnijhjaaGreatDoor

namespace Go.Proofs.YtnnehadmnijhjaaGreatDoor
open Go.RowKit Go.Maps Go.Sort Go.Shelf
set_option maxRecDepth 100000 in
set_option maxHeartbeats 2000000 in
theorem stray_ok {w : World} {mb pb a n : Nat} (h : MB w mb pb a n) (hn : n ≤ 1024) (k : Nat) (hk : k < pgs n) (T : Nat → Bool) (bd s : ByteArray) (hp : Pg n T k bd s) : Calls Tryz.prog 40 #[.pointer (some ⟨mb, 0, none⟩), .int .i64 (k : Int), .string bd] w fun e w' => e = .returned (.bool false) ∧ Below w.heap.size w w' := by
  have h4 := pgs_le hn
  have hpg : pgs n = (n + 255) / 256 := rfl
  have HPI := hide (placesIn_any h hn k hk)
  have HFO := hide (fun W => firstOf_any k (by omega) W)
  have hbit : ∀ i, i < 256 - pin n k → bitB bd (256 * k + pin n k + i) = false := fun i hi => by
    rw [Nat.add_assoc, bitB_page, hp.2.2 _ (by unfold pin at *; omega), decide_eq_false (by unfold pin at *; omega)]
    rfl
  have HBT := hide hbit
  have hbd := hp.1
  have hpn2 : pin n k ≤ 256 := by unfold pin; omega
  obtain ⟨pn, hpn⟩ : ∃ q, pin n k = q := ⟨_, rfl⟩
  rw [hpn] at HPI HBT hpn2
  have hkk : k ≤ 4 := by omega
  clear h hp hpg h4 hk hbit hpn
  go_enter Tryz.func40, Tryz.ntmps40
  go_wp2_with fail
  refine (unhide HPI).mono ?_
  rintro e x1 ⟨rfl, hb1⟩
  have HB1 := hide hb1
  have e0 : (256 : Int) - (pn : Int) = ((256 - pn : Nat) : Int) := by omega
  have hr : 256 - pn ≤ 256 := by omega
  obtain ⟨R, hR⟩ : ∃ q, 256 - pn = q := ⟨_, rfl⟩
  rw [hR] at e0 hr HBT
  clear hb1 HPI
  go_wp2
  go_loopw [14] (fun i wr => ∃ j : Nat, j ≤ R ∧ i = .int .i64 (j : Int) ∧ Below w.heap.size w wr) (fun i _ => R - (intOf i).toNat)
  case atStart => exact ⟨0, by omega, rfl, unhide HB1⟩
  case round =>
    obtain ⟨j, hj, rfl, hB⟩ := hrel
    obtain ⟨wo, rfl⟩ : ∃ wo, wo = wr := ⟨_, rfl⟩
    by_cases hjn : j < R
    · have hjn' : (j : Int) < (R : Int) := by omega
      have HTK := hide (fun W => isTaken_any bd hbd (256 * k + pn + j) (by omega) W)
      rw [unhide HBT j hjn] at HTK
      have e1 : ((256 * k : Nat) : Int) + (pn : Int) = ((256 * k + pn : Nat) : Int) := by omega
      have e2 : ((256 * k + pn : Nat) : Int) + (j : Int) = ((256 * k + pn + j : Nat) : Int) := by omega
      have q1 : 256 * k + pn + j < 10000 := by omega
      have q2 : 256 * k + pn < 10000 := by omega
      have q3 : 256 * k < 10000 := by omega
      have HB := hide hB
      clear hB
      generalize 256 * k + pn + j = m3 at *
      generalize 256 * k + pn = m2 at *
      generalize 256 * k = m1 at *
      go_wp2_with (first | (go_at_call 45; refine (unhide HFO _).mono ?_; rintro e w' ⟨rfl, hw'⟩; subst w') | (go_at_call 46; refine (unhide HTK _).mono ?_; rintro e y1 ⟨rfl, hb3⟩))
      go_roundw
      case rel => exact ⟨j + 1, by omega, by go_num, (unhide HB).trans (hb3.mono (unhide HB).size)⟩
      case measure => simp [intOf]; omega
    · have hjn' : ¬ (j : Int) < (R : Int) := by omega
      have HB := hide hB
      clear hB
      go_wp2
      go_ret
      exact ⟨rfl, unhide HB⟩
/-- What Open of a right map leaves. -/
def Opened (w0 w : World) (b jb pb : Nat) (X : Nat → Prop) (a n : Nat) (S : PS) (L : List ByteArray) (A : List (Nat × Nat)) (hn : Nat) (Mw Mn : List ByteArray) (T : Nat → Bool) (mb : Nat) (w' : World) : Prop :=
  w.heap.size ≤ mb ∧ ∃ S', BG w0 w' b jb pb mb (fun x => X x ∨ x = mb) a n S' L A hn Mw Mn T ∧ S'.op = S.op ∧ Tk S' S ∧ Only (fun x => ¬ X x) w w'
set_option maxRecDepth 100000 in
set_option maxHeartbeats 4000000 in
theorem mopen_ok {w0 w : World} {b jb pb : Nat} {X : Nat → Prop} {a n : Nat} {S : PS} {L : List ByteArray} {A : List (Nat × Nat)} {hn : Nat} {Mw Mn : List ByteArray} {T : Nat → Bool} (K : PK w0 w b jb pb S X) (hg : ETy w0) (hs : Seen S L A hn Mw Mn) (hm : MS Mn a n T) (h19 : 19 ≤ a) (h128 : a + pgs n ≤ 128) (hn1 : 1 ≤ n) (hn2 : n ≤ 1024) :
    Calls Tryz.prog 10 #[.pointer (some ⟨pb, 0, none⟩), .int .i64 (a : Int), .int .i64 (n : Int)] w fun e w' => ∃ mb, e = .returned (.tuple #[.pointer (some ⟨mb, 0, none⟩), .int .i64 0]) ∧ Opened w0 w b jb pb X a n S L A hn Mw Mn T mb w' := by
  have h4 := pgs_le hn2
  have HCN := hide (fun W => isCount_any (n : Int) W)
  rw [decide_eq_true (show (1 : Int) ≤ (n : Int) by omega), decide_eq_true (show (n : Int) ≤ 1024 by omega)] at HCN
  have HPO := hide (fun W => pagesOf_any n hn2 W)
  have HSZ := hide (show Calls Tryz.prog 37 #[.pointer (some ⟨pb, 0, none⟩)] w fun e w' => e = .returned (.int .i64 128) ∧ w' = w from by
    obtain ⟨bw, bv, ov, Ki⟩ := K
    have := Ki.size
    rw [hs.rst.s, show ((rs L A).last.length : Int) = 128 from by show ((L.length : Nat) : Int) = 128; rw [hs.len]; rfl] at this
    exact this)
  have ha0 : decide ((a : Int) < 0) = false := decide_eq_false (by omega)
  have ha1 : decide ((128 : Int) - (pgs n : Int) < (a : Int)) = false := decide_eq_false (by omega)
  have HM0 := hide (show ∀ W mb, Below w.heap.size w W → MB W mb pb a n → mb = w.heap.size → mb < W.heap.size → Kept w0 w b jb pb mb (fun x => X x ∨ x = mb) a n S L A hn Mw Mn T W from fun W mb hb hM hmb hlt => by
    refine ⟨S, ⟨K.more hb (fun x hx => ?_), hM, .inr rfl, hg, hs, hm, h19, h128, hn1, hn2⟩, rfl, Tk.refl _, Only.of_below hb⟩
    rcases hx with q | q
    · exact .inl q
    · rw [q]; exact .inr ⟨by omega, hlt⟩)
  have HXL := hide (show ∀ x, X x → x < w.heap.size from fun x hx => K.lt x hx)
  have hpq : pgs n ≤ 4 := h4
  have HP0 := hide (show ∀ k, k < pgs n → k < pgs n from fun _ q => q)
  obtain ⟨P0, hP0⟩ : ∃ q, pgs n = q := ⟨_, rfl⟩
  rw [hP0] at HPO ha1 hpq
  have HPE := hide hP0
  clear K hs hm hg h4 h128 hP0 HP0 hn1 h19
  go_enter Tryz.func10, Tryz.ntmps10
  go_wp2_with (first | (go_at_call 36; refine (unhide HCN _).mono ?_; rintro e w' ⟨rfl, hw'⟩; subst w') | (go_at_call 38; refine (unhide HPO _).mono ?_; rintro e w' ⟨rfl, hw'⟩; subst w') | (go_at_call 37; refine (unhide HSZ).mono ?_; rintro e w' ⟨rfl, hw'⟩; subst w'))
  obtain ⟨mb, hmb⟩ : ∃ q, w.heap.size = q := ⟨_, rfl⟩
  obtain ⟨x1, hx1⟩ : ∃ q, w.alloc (.cells #[.pointer (some ⟨pb, 0, none⟩), .int .i64 (a : Int), .int .i64 (n : Int)] 80) = q := ⟨_, rfl⟩
  rw [hx1, hmb]
  have X1 := hide (unhide HM0 x1 mb (by rw [← hx1]; exact (Below.refl _ _).alloc (Nat.le_refl _) _) (by rw [← hx1, ← hmb]; exact Blk.new w _ _) hmb.symm (by rw [← hx1, ← hmb]; simp))
  have HMB := hide hmb
  clear hx1 hmb HM0 ha0 ha1
  go_loopw [10, 11, 39] (fun _ _ i wr => ∃ k : Nat, k ≤ P0 ∧ i = .int .i64 (k : Int) ∧ Kept w0 w b jb pb mb (fun x => X x ∨ x = mb) a n S L A hn Mw Mn T wr) (fun _ _ i _ => P0 - (intOf i).toNat)
  case atStart => exact ⟨0, by omega, rfl, unhide X1⟩
  case round =>
    obtain ⟨k, hk, rfl, hI⟩ := hrel
    obtain ⟨wo, rfl⟩ : ∃ wo, wo = wr := ⟨_, rfl⟩
    clear X1
    by_cases hkn : k < P0
    · have hkn' : (k : Int) < (P0 : Int) := by omega
      obtain ⟨bd, hpg', hc⟩ := hI.read k (by rw [unhide HPE]; exact hkn)
      have HCR := hide hc
      have HPG := hide hpg'
      clear hI hc hpg'
      go_wp2_with fail
      refine (unhide HCR).mono ?_
      rintro e y1 ⟨rfl, hI1⟩
      have HST := hide (stray_ok hI1.mb hn2 k (by rw [unhide HPE]; exact hkn) T bd _ (unhide HPG))
      have HI1 := hide hI1
      clear hI1 HCR HPG
      go_wp2_with (go_at_call 40; refine (unhide HST).mono ?_; rintro e y2 ⟨rfl, hb2⟩)
      go_roundw
      case rel => exact ⟨k + 1, by omega, by go_num, (unhide HI1).below hb2⟩
      case measure => simp [intOf]; omega
    · have hkn' : ¬ (k : Int) < (P0 : Int) := by omega
      have HI := hide hI
      clear hI
      go_wp2
      go_ret2
      obtain ⟨S', k1, k2, k3, k4⟩ := unhide HI
      refine ⟨mb, rfl, by rw [unhide HMB]; exact Nat.le_refl _, S', k1, k2, k3, k4.widen (fun x hx q r => q (.inl r))⟩
end Go.Proofs.YtnnehadmnijhjaaGreatDoor

namespace Go.Proofs.YtnnehadmnijhjaaGreatDoor
open Go.RowKit Go.Maps Go.Sort Go.Shelf
/-- The disk beneath a pool is armed. -/
theorem armP {w0 w : World} {b jb pb : Nat} {S : PS} {X : Nat → Prop} (K : PK w0 w b jb pb S X) (n : Int) (hn : n ≤ 9223372036854775807) (hl : (armS S.s n).last = S.s.last) :
    Calls Tryz.prog 8 #[.pointer (some ⟨b, 0, none⟩), .int .i64 n] w fun e w' => e = .returned (.int .i64 (armE S.s n)) ∧ PK w0 w' b jb pb { S with s := armS S.s n } X ∧ Only (fun x => ¬ X x) w w' := by
  obtain ⟨bw, bv, ov, K⟩ := K
  refine (armK K.jk n hn).mono ?_
  rintro ev w' ⟨rfl, hJ, hO⟩
  have np : ∀ x, Pf pb bw bv ov x → ¬ ¬ (X x ∨ Pf pb bw bv ov x) := fun x q r => r (.inr q)
  refine ⟨rfl, ⟨bw, bv, ov, hJ, K.blk.only hO (np _ (.inl rfl)), K.tx.only hO (np _ (.inr (.inl rfl))), K.hn.only hO (np _ (.inr (.inr (.inl rfl)))) (fun x q => np _ (.inr (.inr (.inr q)))), K.ne, K.lo1, K.lo2, K.lo3, K.xn, K.hk, K.kp, K.t16, ?_⟩, hO.mono (fun x _ q r => q (.inl r))⟩
  show ∀ p ∈ S.tx, 19 ≤ p.1 ∧ p.1 < ((armS S.s n).last.length : Int) ∧ p.2.size = 256
  rw [hl]
  exact K.tok
end Go.Proofs.YtnnehadmnijhjaaGreatDoor

namespace Go.Proofs.YtnnehadmnijhjaaGreatDoor
open Go.RowKit Go.Maps Go.Sort Go.Shelf
/-- A pool that was opened on a disk with a map's pages. -/
def PoolM (w0 : World) (b a n kp : Nat) (R : List ByteArray → List (Nat × Nat) → (Nat → Bool) → Prop) (e : Ending) (w' : World) : Prop :=
  ∃ jb pb S L A n0 T, e = .returned (.tuple #[.pointer (some ⟨pb, 0, none⟩), .int .i64 0]) ∧ PK w0 w' b jb pb S (fun _ => False) ∧ Seen S L A n0 L L ∧ S.op = false ∧ (S.tx = [] ∧ S.keep = kp) ∧ MS L a n T ∧ R L A T
/-- A map that was opened on it. -/
def MapM (w0 : World) (b a n kp : Nat) (R : List ByteArray → List (Nat × Nat) → (Nat → Bool) → Prop) (pb mb : Nat) (w' : World) : Prop :=
  ∃ jb S L A n0 T, BG w0 w' b jb pb mb (fun x => x = mb) a n S L A n0 L L T ∧ S.op = false ∧ (S.tx = [] ∧ S.keep = kp) ∧ R L A T
set_option maxRecDepth 100000 in
set_option maxHeartbeats 1000000 in
theorem seen_gen {w0 w : World} {b a n kp : Nat} {R : List ByteArray → List (Nat × Nat) → (Nat → Bool) → Prop} (keep : Int) (hO : Calls Tryz.prog 7 #[.pointer (some ⟨b, 0, none⟩), .int .i64 keep] w (PoolM w0 b a n kp R)) (hg : ETy w0) (h19 : 19 ≤ a) (h128 : a + pgs n ≤ 128) (hn1 : 1 ≤ n) (hn2 : n ≤ 1024) :
    Calls Tryz.prog 23 #[.pointer (some ⟨b, 0, none⟩), .int .i64 keep, .int .i64 (a : Int), .int .i64 (n : Int)] w fun e w' => ∃ pb mb, e = .returned (.tuple #[.pointer (some ⟨pb, 0, none⟩), .pointer (some ⟨mb, 0, none⟩)]) ∧ MapM w0 b a n kp R pb mb w' := by
  have HO := hide hO
  have HQ := hide (And.intro hg (And.intro h19 (And.intro h128 (And.intro hn1 hn2))))
  clear hO hg h19 h128 hn1 hn2
  go_enter Tryz.func23, Tryz.ntmps23
  go_wp2_with fail
  refine (unhide HO).mono ?_
  rintro e x1 ⟨jb, pb, S, L, A, n0, T, rfl, K, hs, ho, ht, hm, hR⟩
  obtain ⟨hg, h19, h128, hn1, hn2⟩ := unhide HQ
  have HM := hide (mopen_ok K hg hs hm h19 h128 hn1 hn2)
  have HR := hide (And.intro ho (And.intro ht hR))
  clear K hs ho ht hm hR hg h19 h128 hn1 hn2 HO HQ
  go_wp2_with fail
  refine (unhide HM).mono ?_
  rintro e x2 ⟨mb, rfl, _, S', k1, k2, k3, _⟩
  have HK := hide (show MapM w0 b a n kp R pb mb x2 from ⟨jb, S', L, A, n0, T, k1.less (fun x q => .inr q) rfl, k2.trans (unhide HR).1, ⟨k3.1.trans (unhide HR).2.1.1, k3.2.trans (unhide HR).2.1.2⟩, (unhide HR).2.2⟩)
  clear k1 k2 k3 HM HR
  go_wp2
  go_ret2
  exact ⟨pb, mb, rfl, unhide HK⟩
/-- Open of a disk at rest whose head is clear. -/
theorem popen_rest {w0 w : World} {b : Nat} {v : DV} {L : List ByteArray} {A : List (Nat × Nat)} {a n : Nat} {T : Nat → Bool} (h : Dk w w0.heap.size b v (rs L A)) (h0 : Below w0.heap.size w0 w) (hg : ETy w) (hS : Sane (rs L A)) (n0 : Nat) (hn0 : n0 < 4294967296) (hL : L.length = 128) (hz : ∀ t ∈ L, t.size = 256) (hh : L.getD 1 ByteArray.empty = headB n0 []) (ha : A.length ≤ 10000000) (keep : Nat) (hk : keep ≤ 64) (hm : MS L a n T) (R : List ByteArray → List (Nat × Nat) → (Nat → Bool) → Prop) (hR : R L A T) :
    Calls Tryz.prog 7 #[.pointer (some ⟨b, 0, none⟩), .int .i64 (keep : Int)] w (PoolM w0 b a n keep R) := by
  have hO := open_clear h hg h0.size hS n0 hn0 (by omega) hh ha
  refine (popen_any w b keep hk (fun jp ag er w1 => er = 0 ∧ ∃ jb, jp = some ⟨jb, 0, none⟩ ∧ JK w0 w1 b jb (rs L A) ((n0 + 1) % 4294967296) false (fun _ => False)) (hO.mono (fun e w1 q => by
    obtain ⟨jb, rfl, hJ⟩ := q
    exact ⟨_, _, _, rfl, rfl, jb, rfl, JI.jk (JNew.ji h h0 hS hJ)⟩))).mono ?_
  rintro e w' ⟨jp, ag, er, w1, ⟨rfl, jb, rfl, hJ⟩, q | ⟨_, pb, bw, bv, rfl, hP⟩⟩
  · exact absurd rfl q.1
  · exact ⟨jb, pb, restP L A ((n0 + 1) % 4294967296) keep, L, A, n0, T, rfl, POk.pk hJ hk hP, ⟨⟨rfl, rfl, rfl, rfl⟩, hL, hz, hh, hn0, fun k _ _ => rfl, hL, hL, fun k _ _ => rfl, fun _ => rfl, fun p hp => by cases hp⟩, rfl, ⟨rfl, rfl⟩, hm, hR⟩
theorem pr_pair (a : Nat) (l : List ByteArray) (m : Nat) : (prN a l m).Pairwise (fun x y => x.1 ≠ y.1) := by
  unfold prN
  refine List.pairwise_map.2 ((List.nodup_range (n := m)).imp (fun h => ?_))
  simp only
  omega
theorem ld_at (a : Nat) (l : List ByteArray) (h : a + l.length ≤ 128) (k : Nat) (hk : k < l.length) : (ldL a l).getD (a + k) ByteArray.empty = l.getD k ByteArray.empty :=
  layP_in _ _ _ _ (pr_pair a l _) (List.mem_map.2 ⟨k, List.mem_range.2 hk, rfl⟩) (by rw [L0_len]; omega)
theorem ld_head (a : Nat) (l : List ByteArray) (h : 19 ≤ a) : (ldL a l).getD 1 ByteArray.empty = headB 0 [] := by
  unfold ldL
  rw [layP_skip _ _ _ (fun p hp => by
    obtain ⟨i, _, rfl⟩ := List.mem_map.1 hp
    simp only
    omega)]
  exact head0
theorem ld_len (a : Nat) (l : List ByteArray) : (ldL a l).length = 128 := by unfold ldL; rw [layP_len, L0_len]
theorem ld_size (a : Nat) (l : List ByteArray) (hz : ∀ i, i < l.length → (l.getD i ByteArray.empty).size = 256) : ∀ t ∈ ldL a l, t.size = 256 :=
  layP_size _ _ L0_size (fun p hp => by
    obtain ⟨i, hi, rfl⟩ := List.mem_map.1 hp
    exact hz i (List.mem_range.1 hi))
theorem ldA_len (a : Nat) (l : List ByteArray) : (ldA a l).length = l.length + 3 := by
  unfold ldA
  rw [List.length_append, List.length_append, prA_len]
  show 2 + l.length + 1 = _
  omega
theorem ms_zero (a n : Nat) (_hn : n ≤ 1024) (h : a + pgs n ≤ 128) : MS (ldL a (pgZ (pgs n))) a n (fun _ => false) := fun k hk => by
  refine ⟨zb, zb_size, ?_, fun j _ => by rw [zb_bit]; simp⟩
  rw [ld_at a _ (by rw [pgZ_len]; exact h) k (by rw [pgZ_len]; exact hk), pgZ_at _ _ hk]
/-- What freshAt leaves. -/
def FreshM (w : World) (a n keep : Nat) (b pb mb : Nat) (w' : World) : Prop :=
  MapM w b a n keep (fun L A T => L = ldL a (pgZ (pgs n)) ∧ T = (fun _ => false) ∧ A.length ≤ 100) pb mb w'
set_option maxRecDepth 100000 in
set_option maxHeartbeats 1000000 in
theorem freshAt_any (n : Nat) (hn1 : 1 ≤ n) (hn2 : n ≤ 1024) (keep : Nat) (hk : keep ≤ 64) (a : Nat) (h19 : 19 ≤ a) (h128 : a + pgs n ≤ 128) (w : World) (hg : ETy w) :
    Calls Tryz.prog 47 #[.int .i64 (n : Int), .int .i64 (keep : Int), .int .i64 (a : Int)] w fun e w' => ∃ b pb mb, e = .returned (.tuple #[.pointer (some ⟨b, 0, none⟩), .pointer (some ⟨pb, 0, none⟩), .pointer (some ⟨mb, 0, none⟩)]) ∧ FreshM w a n keep b pb mb w' := by
  have h4 := pgs_le hn2
  have HIN := hide (minitial_any n hn1 hn2 w)
  have HQ := hide (And.intro hn1 (And.intro hn2 (And.intro hk (And.intro h19 (And.intro h128 hg)))))
  clear hg hn1 hk h19 h128
  go_enter Tryz.func47, Tryz.ntmps47
  go_wp2_with fail
  refine (unhide HIN).mono ?_
  rintro e x1 ⟨v, rfl, hR, hB⟩
  obtain ⟨hn1, hn2', hk, h19, h128, hg⟩ := unhide HQ
  have hR' : x1.ownsRow w.heap.size 9 1 v (pgZ (pgs n)).length (strs (pgZ (pgs n))) := by rw [pgZ_len]; exact hR
  obtain ⟨pv, cv, rfl, hst⟩ := Strs.own hR'
  have hz : ∀ i, i < (pgZ (pgs n)).length → ((pgZ (pgs n)).getD i ByteArray.empty).size = 256 := fun i hi => by
    rw [pgZ_len] at hi
    rw [pgZ_at _ _ hi]
    exact pgT_size i (by omega) zb zb_size
  have HLD := hide (blaid_any pv cv (pgZ (pgs n)) a (pgZ (pgs n)).length rfl hz h19 (by rw [pgZ_len]; exact h128) x1 hst)
  have HB := hide (And.intro hB hz)
  clear hR hB hR' hst hz HIN
  obtain ⟨ll, hll⟩ : ∃ q, (pgZ (pgs n)).length = q := ⟨_, rfl⟩
  rw [hll] at HLD ⊢
  clear hll
  go_wp2_with fail
  refine (unhide HLD).mono ?_
  rintro e x2 ⟨b, rfl, dv, d1, d2, d3⟩
  obtain ⟨hB, hz⟩ := unhide HB
  have hb2 : Below w.heap.size w x2 := hB.trans (d2.mono hB.size)
  have HSE := hide (seen_gen (n := n) (a := a) (kp := keep) (keep : Int) (popen_rest (T := fun _ => false) (n := n) (a := a) (Dk.lower d1 hB.size) hb2 (hg.below hb2 hg.lt) d3 0 (by decide) (ld_len _ _) (ld_size a _ hz) (ld_head a _ h19) (by rw [ldA_len, pgZ_len]; omega) keep hk (ms_zero a n hn2 h128) (fun L A T => L = ldL a (pgZ (pgs n)) ∧ T = (fun _ => false) ∧ A.length ≤ 100) ⟨rfl, rfl, by rw [ldA_len, pgZ_len]; omega⟩) hg h19 h128 hn1 hn2)
  clear d1 d2 d3 hb2 hB hz hn1 hn2' hk h19 h128 hg HLD HB
  go_wp2_with fail
  refine (unhide HSE).mono ?_
  rintro e x3 ⟨pb, mb, rfl, hM⟩
  have HM := hide hM
  clear hM HSE
  go_wp2
  go_ret3
  exact ⟨b, pb, mb, rfl, unhide HM⟩
theorem fresh7_any (n : Nat) (hn1 : 1 ≤ n) (hn2 : n ≤ 1024) (keep : Nat) (hk : keep ≤ 64) (w : World) (hg : ETy w) :
    Calls Tryz.prog 18 #[.int .i64 (n : Int), .int .i64 (keep : Int)] w fun e w' => ∃ b pb mb, e = .returned (.tuple #[.pointer (some ⟨b, 0, none⟩), .pointer (some ⟨pb, 0, none⟩), .pointer (some ⟨mb, 0, none⟩)]) ∧ FreshM w 19 n keep b pb mb w' := by
  have HF := hide (freshAt_any n hn1 hn2 keep hk 19 (by decide) (by have := pgs_le hn2; omega) w hg)
  clear hn1 hn2 hk hg
  simp only [Int.cast_ofNat_Int] at HF
  go_enter Tryz.func18, Tryz.ntmps18
  go_wp2_with (go_at_call 47; refine (unhide HF).mono ?_; rintro e x3 ⟨b, pb, mb, rfl, hM⟩)
  go_ret3
  exact ⟨b, pb, mb, rfl, hM⟩
end Go.Proofs.YtnnehadmnijhjaaGreatDoor
