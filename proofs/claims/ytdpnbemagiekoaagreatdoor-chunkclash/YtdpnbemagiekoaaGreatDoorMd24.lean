import Derived.Test.YtdpnbemagiekoaaGreatDoorMd23
import Derived.ScopeJumps
import Derived.Test.YtdpnbemagiekoaaGreatDoorMd16
import Derived.Test.YtdpnbemagiekoaaGreatDoorMd20
import Derived.DeepKeys4
namespace Go.Proofs.YtdpnbemagiekoaaGreatDoor
open Go.RowKit Go.Maps Go.Sort Go.Shelf
theorem jump_ret {l : Nat} {J : Act → World → Prop} {Q : Exit → Act → World → Prop} {ac : Act} {wc : World} : Exit.jump l J Q .ret ac wc = Q .ret ac wc := rfl
theorem Kept.read {w0 w : World} {b jb pb mb : Nat} {X : Nat → Prop} {a n : Nat} {S : PS} {L : List ByteArray} {A : List (Nat × Nat)} {hn : Nat} {Mw Mn : List ByteArray} {T : Nat → Bool} {wr : World} (h : Kept w0 w b jb pb mb X a n S L A hn Mw Mn T wr) (k : Nat) (hk : k < pgs n) : ∃ bd, Pg n T k bd (Mn.getD (a + k) ByteArray.empty) ∧ Calls Tryz.prog 141 #[.pointer (some ⟨mb, 0, none⟩), .int .i64 (k : Int)] wr fun e w' => e = .returned (.tuple #[.string bd, .int .i64 0]) ∧ Kept w0 w b jb pb mb X a n S L A hn Mw Mn T w' := by
  obtain ⟨S', h2, h3, h4, h5⟩ := h
  obtain ⟨bd, hp, hc⟩ := h2.read k hk
  refine ⟨bd, hp, hc.mono ?_⟩
  rintro e w' ⟨rfl, S2, k1, k2, k3, k4⟩
  exact ⟨rfl, S2, k1, k2.trans h3, k3.trans h4, h5.trans k4 (fun _ _ q => q)⟩
theorem Kept.below {w0 w : World} {b jb pb mb : Nat} {X : Nat → Prop} {a n : Nat} {S : PS} {L : List ByteArray} {A : List (Nat × Nat)} {hn : Nat} {Mw Mn : List ByteArray} {T : Nat → Bool} {wr w' : World} (h : Kept w0 w b jb pb mb X a n S L A hn Mw Mn T wr) (hb : Below wr.heap.size wr w') : Kept w0 w b jb pb mb X a n S L A hn Mw Mn T w' := by
  obtain ⟨S', h2, h3, h4, h5⟩ := h
  exact ⟨S', h2.below hb, h3, h4, h5.trans (Only.of_below (P := fun x => ¬ X x) hb) (fun _ _ q => q)⟩
theorem Kept.mb {w0 w : World} {b jb pb mb : Nat} {X : Nat → Prop} {a n : Nat} {S : PS} {L : List ByteArray} {A : List (Nat × Nat)} {hn : Nat} {Mw Mn : List ByteArray} {T : Nat → Bool} {wr : World} (h : Kept w0 w b jb pb mb X a n S L A hn Mw Mn T wr) : MB wr mb pb a n := by
  obtain ⟨S', h2, h3, h4, h5⟩ := h
  exact h2.mp
set_option maxRecDepth 100000 in
set_option maxHeartbeats 4000000 in
theorem malloc_none {w0 w : World} {b jb pb mb : Nat} {X : Nat → Prop} {a n : Nat} {S : PS} {L : List ByteArray} {A : List (Nat × Nat)} {hn : Nat} {Mw Mn : List ByteArray} {T : Nat → Bool} (h : BG w0 w b jb pb mb X a n S L A hn Mw Mn T) (ho : S.op = false) : Calls Tryz.prog 172 #[.pointer (some ⟨mb, 0, none⟩)] w fun e w' => e = .returned (.tuple #[.int .i64 0, .int .i64 61]) ∧ Kept w0 w b jb pb mb X a n S L A hn Mw Mn T w' := by
  have HC := hide h.changeable
  rw [ho] at HC
  clear h ho
  go_enter Tryz.func172, Tryz.ntmps172
  go_wp2
  go_step3
  go_wp2_with fail
  refine (unhide HC).mono ?_
  rintro e x1 ⟨rfl, h1, hO1⟩
  have H1 := hide (And.intro h1 hO1)
  clear h1 hO1 HC
  go_wp2
  rw [Exit.noGoto_ret]
  go_ret2
  exact ⟨rfl, S, (unhide H1).1, rfl, Tk.refl _, (unhide H1).2⟩
set_option maxRecDepth 100000 in
set_option maxHeartbeats 4000000 in
theorem malloc_ok {w0 w : World} {b jb pb mb : Nat} {X : Nat → Prop} {a n : Nat} {S : PS} {L : List ByteArray} {A : List (Nat × Nat)} {hn : Nat} {Mw Mn : List ByteArray} {T : Nat → Bool} (h : BG w0 w b jb pb mb X a n S L A hn Mw Mn T) (ho : S.op = true) (p : Nat) (hl : Lea T n p) (hr : roomB S ((a + p / 256 : Nat) : Int) = true) : Calls Tryz.prog 172 #[.pointer (some ⟨mb, 0, none⟩)] w fun e w' => e = .returned (.tuple #[.int .i64 (p : Int), .int .i64 0]) ∧ Turned w0 w b jb pb mb X a n S L A hn Mw T p w' := by
  have hn2 := h.n2
  have hn1 := h.n1
  have h4 := pgs_le h.n2
  have hpk := pgs_lt hl.1
  have hpn := hl.1
  have HPO := hide (fun W => pagesOf_any n hn2 W)
  have HC := hide h.changeable
  rw [ho] at HC
  have HRM := hide (And.intro ho hr)
  have HL := hide hl
  have hpg : pgs n = (n + 255) / 256 := rfl
  clear h ho hl hr
  obtain ⟨P0, hP0⟩ : ∃ q, pgs n = q := ⟨_, rfl⟩
  rw [hP0] at HPO h4 hpg hpk
  have HP0 := hide hP0
  clear hP0
  go_enter Tryz.func172, Tryz.ntmps172
  go_wp2
  refine wp_scope_jumps 0 (fun ac wc => ∃ (t1 t2 t3 t6 t7 t8 t9 t10 t11 t12 t13 t14 t15 t16 t17 t18 t19 t20 t21 t22 t23 t24 t25 t26 t27 t28 t29 t30 t31 t32 t33 t34 t35 t36 t37 t38 t39 t40 t41 t42 t43 t44 t45 t46 t47 t48 t49 t50 t51 t52 : Value) (bd : ByteArray), ac = ⟨#[.pointer (some ⟨mb, 0, none⟩), t1, t2, t3, .int .i64 (p : Int), .string bd, t6, t7, t8, t9, t10, t11, t12, t13, t14, t15, t16, t17, t18, t19, t20, t21, t22, t23, t24, t25, t26, t27, t28, t29, t30, t31, t32, t33, t34, t35, t36, t37, t38, t39, t40, t41, t42, t43, t44, t45, t46, t47, t48, t49, t50, t51, t52], []⟩ ∧ Pg n T (p / 256) bd (Mn.getD (a + p / 256) ByteArray.empty) ∧ Kept w0 w b jb pb mb X a n S L A hn Mw Mn T wc) (fun _ _ => 0) rfl ?_ ?_
  · go_wp2_with fail
    refine (unhide HC).mono ?_
    rintro e x1 ⟨rfl, h1, hO1⟩
    have c2 := h1.mp.c2
    have X1 := hide (show Kept w0 w b jb pb mb X a n S L A hn Mw Mn T x1 from ⟨S, h1, rfl, Tk.refl _, hO1⟩)
    clear h1 hO1 HC
    go_wp2_with (go_at_call 93; refine (unhide HPO _).mono ?_; rintro e w' ⟨rfl, hw'⟩; subst w')
    go_loopw [4, 5, 6, 17] (fun _ _ _ i wr => ∃ k : Nat, k ≤ p / 256 ∧ i = .int .i64 (k : Int) ∧ Kept w0 w b jb pb mb X a n S L A hn Mw Mn T wr) (fun _ _ _ i _ => P0 - (intOf i).toNat)
    case atStart => exact ⟨0, by omega, rfl, unhide X1⟩
    case round =>
      obtain ⟨k, hk, rfl, hI⟩ := hrel
      obtain ⟨wo, rfl⟩ : ∃ wo, wo = wr := ⟨_, rfl⟩
      clear X1 c2
      have hkn : k < P0 := by omega
      have hkn' : (k : Int) < (P0 : Int) := by omega
      obtain ⟨bd, hpg', hc⟩ := hI.read k (by rw [unhide HP0]; exact hkn)
      have HCR := hide hc
      have HPG := hide hpg'
      have hbd := hpg'.1
      clear hI hc hpg'
      go_wp2_with fail
      refine (unhide HCR).mono ?_
      rintro e y1 ⟨rfl, hI1⟩
      have HPI := hide (placesIn_any hI1.mb hn2 k (by rw [unhide HP0]; exact hkn))
      have HI1 := hide hI1
      clear hI1 HCR
      obtain ⟨pn, hpn'⟩ : ∃ q, pin n k = q := ⟨_, rfl⟩
      rw [hpn'] at HPI
      have hpn2 : pn ≤ 256 ∧ 256 * k + pn ≤ n ∧ (pn = 256 ∨ 256 * k + pn = n) := by unfold pin at hpn'; omega
      clear hpn'
      go_wp2_with fail
      refine (unhide HPI).mono ?_
      rintro e y2 ⟨rfl, hb2⟩
      have X2 := hide ((unhide HI1).below hb2)
      clear HI1 HPI hb2
      have HFO := hide (fun W => firstOf_any k (by omega) W)
      go_wp2
      go_loopw [4, 32] (fun _ i wr => ∃ j : Nat, j ≤ pn ∧ 256 * k + j ≤ p ∧ i = .int .i64 (j : Int) ∧ Kept w0 w b jb pb mb X a n S L A hn Mw Mn T wr) (fun _ i _ => pn - (intOf i).toNat)
      case atStart => exact ⟨0, by omega, by omega, rfl, unhide X2⟩
      case round =>
        obtain ⟨j, hj, hjp, rfl, hJ⟩ := hrel
        obtain ⟨wi, rfl⟩ : ∃ wi, wi = wr := ⟨_, rfl⟩
        clear X2
        have HJ := hide hJ
        clear hJ
        by_cases hjn : j < pn
        · have hjn' : (j : Int) < (pn : Int) := by omega
          have HTK := hide (fun W => isTaken_any bd hbd (256 * k + j) (by omega) W)
          have hbit : bitB bd (256 * k + j) = T (256 * k + j) := (unhide HPG).bit _ (by omega) (by omega)
          rw [hbit] at HTK
          have e1 : ((256 * k : Nat) : Int) + (j : Int) = ((256 * k + j : Nat) : Int) := by omega
          have hfm : 256 * k < 2000 := by omega
          clear hbit
          obtain ⟨mm, hmm⟩ : ∃ q, 256 * k + j = q := ⟨_, rfl⟩
          have hmb : mm < 2000 := by omega
          rw [hmm] at HTK e1
          have HMM := hide hmm
          obtain ⟨fk, hfk⟩ : ∃ q, 256 * k = q := ⟨_, rfl⟩
          rw [hfk] at HFO e1 hfm
          have HFK := hide hfk
          clear hmm hfk
          go_wp2_with (go_at_call 206; refine (unhide HFO _).mono ?_; rintro e w' ⟨rfl, hw'⟩; subst w')
          refine (unhide HTK _).mono ?_
          rintro e y3 ⟨rfl, hb3⟩
          have HJ1 := hide ((unhide HJ).below hb3)
          clear hb3 HTK HJ
          by_cases hmp : mm < p
          · have hT : T mm = true := (unhide HL).2.2 mm hmp
            rw [hT]
            clear hT
            go_wp2
            go_roundw
            case rel => exact ⟨j + 1, by omega, by have := unhide HMM; omega, by go_num, unhide HJ1⟩
            case measure => simp [intOf]; omega
          · have hme : mm = p := by have := unhide HMM; omega
            have hT : T mm = false := by rw [hme]; exact (unhide HL).2.1
            rw [hT]
            clear hT hmp
            go_wp2
            go_step3
            have hkp : p / 256 = k := by have := unhide HMM; omega
            refine ⟨rfl, _, _, _, _, _, _, _, _, _, _, _, _, _, _, _, _, _, _, _, _, _, _, _, _, _, _, _, _, _, _, _, _, _, _, _, _, _, _, _, _, _, _, _, _, _, _, _, _, _, _, bd, rfl, by rw [hkp]; exact unhide HPG, unhide HJ1⟩
        · have hjn' : ¬ (j : Int) < (pn : Int) := by omega
          have hk1 : k + 1 ≤ p / 256 := by omega
          go_wp2
          go_roundw
          case rel => exact ⟨k + 1, hk1, by go_num, unhide HJ⟩
          case measure => simp [intOf]; omega
  · rintro ac wc ⟨t1, t2, t3, t6, t7, t8, t9, t10, t11, t12, t13, t14, t15, t16, t17, t18, t19, t20, t21, t22, t23, t24, t25, t26, t27, t28, t29, t30, t31, t32, t33, t34, t35, t36, t37, t38, t39, t40, t41, t42, t43, t44, t45, t46, t47, t48, t49, t50, t51, t52, bd, rfl, hpg', hK⟩
    obtain ⟨S', k1, k2, k3, k4⟩ := hK
    have HTU := hide (BG.turn k1 (k2.trans (unhide HRM).1) p hpn bd hpg' (by rw [show roomB S' _ = roomB S ((a + p / 256 : Nat) : Int) from by unfold roomB; rw [k3.1]]; exact (unhide HRM).2))
    have HX := hide (And.intro k3 k4)
    clear k1 k2 k3 k4 hpg' HC
    conv => arg 2; whnf
    go_wp2_with (go_at_call 197; refine (unhide HTU).mono ?_; rintro e x4 ⟨rfl, hTu⟩)
    rw [jump_ret]
    go_ret2
    obtain ⟨S2, M2, m1, m2, m3, m4⟩ := hTu
    exact ⟨rfl, S2, M2, m1, m2, ⟨by rw [← (unhide HX).1.1]; exact m3.1, m3.2.trans (unhide HX).1.2⟩, (unhide HX).2.trans m4 (fun _ _ q => q)⟩
end Go.Proofs.YtdpnbemagiekoaaGreatDoor

namespace Go.Proofs.YtdpnbemagiekoaaGreatDoor
open Go.RowKit Go.Maps Go.Sort Go.Shelf
def zb : ByteArray := strOfNums (List.replicate 32 0)
theorem zb_size : zb.size = 32 := by rw [zb, strOfNums_size, List.length_replicate]
theorem zb_bit (i : Nat) : bitB zb i = false := by
  have hb : Bytes (List.replicate 32 0) := fun j => by
    rw [List.getD_eq_getElem?_getD, List.getElem?_replicate]
    split <;> simp
  have h : byN zb (i % 256 / 8) = 0 := by
    unfold byN zb
    rw [nums_strOfNums _ hb, List.getD_eq_getElem?_getD, List.getElem?_replicate]
    split <;> rfl
  unfold bitB
  rw [h]
  exact Nat.zero_testBit _
/-- The pages of an empty map. -/
def pgZ (m : Nat) : List ByteArray := (List.range m).map fun k => pgT k zb
theorem pgZ_len (m : Nat) : (pgZ m).length = m := by simp [pgZ]
theorem pgZ_succ (m : Nat) : strs (pgZ (m + 1)) = strs (pgZ m) ++ [.string (pgT m zb)] := by simp [pgZ, strs, List.range_succ]
theorem pgZ_at (m k : Nat) (h : k < m) : (pgZ m).getD k ByteArray.empty = pgT k zb := by simp [pgZ, List.getD_eq_getElem?_getD, h]
def InI (w : World) (m : Nat) (u : Value) (wr : World) : Prop := wr.ownsRow w.heap.size 9 1 u m (strs (pgZ m)) ∧ Below w.heap.size w wr
set_option maxRecDepth 100000 in
set_option maxHeartbeats 2000000 in
theorem minitial_any (n : Nat) (hn1 : 1 ≤ n) (hn2 : n ≤ 1024) (w : World) : Calls Tryz.prog 38 #[.int .i64 (n : Int)] w fun e w' => ∃ v, e = .returned (.tuple #[v, .int .i64 0]) ∧ InI w (pgs n) v w' := by
  obtain ⟨i0, hi, hz0, hz1, hz2⟩ := info_parts infoS
  have HI := hide (And.intro hi (And.intro hz0 (And.intro hz1 hz2)))
  clear hi hz0 hz1 hz2
  have HCN := hide (fun W => isCount_any (n : Int) W)
  rw [decide_eq_true (show (1 : Int) ≤ (n : Int) by omega), decide_eq_true (show (n : Int) ≤ 1024 by omega)] at HCN
  have HPO := hide (fun W => pagesOf_any n hn2 W)
  have h4 := pgs_le hn2
  have HRP := hide (fun W => rep_ok 32 W (by decide))
  have HZB := hide (show strOfNums (List.replicate 32 0) = zb from rfl)
  obtain ⟨Z, hZ⟩ : ∃ Z, strOfNums (List.replicate 32 0) = Z := ⟨_, rfl⟩
  rw [hZ] at HRP HZB
  clear hZ
  simp only [Int.cast_ofNat_Int] at HRP
  generalize pgs n = P0 at *
  go_enter Tryz.func38, Tryz.ntmps38
  go_wp2_with (first | (go_at_call 92; refine (unhide HCN _).mono ?_; rintro e w' ⟨rfl, hw'⟩; subst w') | (go_at_call 93; refine (unhide HPO _).mono ?_; rintro e w' ⟨rfl, hw'⟩; subst w'))
  go_loopw [4, 11] (fun u i wr => ∃ k : Nat, k ≤ P0 ∧ i = .int .i64 (k : Int) ∧ InI w k u wr) (fun _ i _ => P0 - (intOf i).toNat)
  case atStart => exact ⟨0, by omega, rfl, World.ownsRow_nil _ _ _ _, Below.refl _ _⟩
  case round =>
    obtain ⟨k, hk, rfl, hR, hB⟩ := hrel
    obtain ⟨wo, rfl⟩ : ∃ wo, wo = wr := ⟨_, rfl⟩
    obtain ⟨pv, cv, rfl, hcv⟩ := row_form hR
    by_cases hkn : k < P0
    · have hkn' : (k : Int) < (P0 : Int) := by omega
      have HR := hide hR
      have HB := hide hB
      clear hR hB hcv
      go_wp2_with fail
      refine (unhide HRP _).mono ?_
      rintro e y1 ⟨rfl, hb1⟩
      have HSE := hide (sectorOf_any k Z y1)
      have HB1 := hide hb1
      obtain ⟨t, ht⟩ : ∃ t, pgT k Z = t := ⟨_, rfl⟩
      rw [ht] at HSE
      have HT := hide (show pgT k zb = t from by rw [← ht, unhide HZB])
      clear hb1 ht
      go_wp2_with fail
      refine (unhide HSE).mono ?_
      rintro e y2 ⟨rfl, hb2⟩
      have hB2 : Below wo.heap.size wo y2 := (unhide HB1).trans (hb2.mono (unhide HB1).size)
      have HRA := hide (show (y2.alloc (.cells #[.string t] 9)).ownsRow w.heap.size 9 1 (.slice pv k cv) k (strs (pgZ k)) from (owns_only (unhide HR) (Only.of_below (P := fun _ => False) hB2) (fun _ _ q => q)).alloc _)
      have HXB := hide ((unhide HB).trans ((hB2.alloc hB2.size (.cells #[.string t] 9)).mono (unhide HB).size))
      clear hb2 hB2 HSE HB1
      go_wp2_with (refine wpList_append_own _ rfl (.tmp 14) (.tmp 18) 62 rfl w.heap.size 9 i0 (.string ⟨#[]⟩) 1 16 Tryz.underlying62 (unhide HI).1 (unhide HI).2.1 (unhide HI).2.2.1 (unhide HI).2.2.2 rfl (by decide) _ k (strs (pgZ k)) rfl (unhide HRA) ⟨y2.heap.size, 0, none⟩ 1 1 [.string t] rfl rfl (fun q u hu => news_one y2 9 _ q u hu) (by simp [Value.oneCell']) (by unfold maxLen; omega) (by omega) (unhide HXB).size ?_)
      intro v5 x5 ho5 hg5 _
      have HRR := hide (show InI w (k + 1) v5 x5 from ⟨by rw [pgZ_succ, unhide HT]; exact ho5, (unhide HXB).grown hg5 (unhide HXB).size (fun q hq => ((unhide HRA).lt q hq).1)⟩)
      clear ho5 hg5 HRA HXB HT
      go_wp2
      go_roundw
      case rel => exact ⟨k + 1, by omega, by go_num, unhide HRR⟩
      case measure => simp [intOf]; omega
    · have hke : k = P0 := by omega
      have hkn' : ¬ (k : Int) < (P0 : Int) := by omega
      subst hke
      have HF := hide (show InI w k (.slice pv k cv) wo from ⟨hR, hB⟩)
      clear hR hB hcv
      go_wp2
      go_ret2
      exact ⟨_, rfl, unhide HF⟩
/-- What is laid down, from sector a on: the first m of l. -/
def prN (a : Nat) (l : List ByteArray) (m : Nat) : List (Nat × ByteArray) := (List.range m).map fun i => (a + i, l.getD i ByteArray.empty)
theorem prN_succ (a : Nat) (l : List ByteArray) (m : Nat) : prN a l (m + 1) = prN a l m ++ [(a + m, l.getD m ByteArray.empty)] := by simp [prN, List.range_succ]
theorem prN_len (a : Nat) (l : List ByteArray) (m : Nat) : (prN a l m).length = m := by simp [prN]
end Go.Proofs.YtdpnbemagiekoaaGreatDoor

namespace Go.Proofs.YtdpnbemagiekoaaGreatDoor
open Go.RowKit Go.Maps Go.Sort Go.Shelf
set_option maxRecDepth 100000 in
set_option maxHeartbeats 2000000 in
theorem stray_ok {w : World} {mb pb a n : Nat} (h : MB w mb pb a n) (hn : n ≤ 1024) (k : Nat) (hk : k < pgs n) (T : Nat → Bool) (bd s : ByteArray) (hp : Pg n T k bd s) : Calls Tryz.prog 142 #[.pointer (some ⟨mb, 0, none⟩), .int .i64 (k : Int), .string bd] w fun e w' => e = .returned (.bool false) ∧ Below w.heap.size w w' := by
  have h4 := pgs_le hn
  have hpg : pgs n = (n + 255) / 256 := rfl
  have HPI := hide (placesIn_any h hn k hk)
  have HFO := hide (fun W => firstOf_any k (by omega) W)
  have hbit : ∀ i, i < 256 - pin n k → bitB bd (256 * k + pin n k + i) = false := fun i hi => by
    rw [Nat.add_assoc, bitB_page, hp.2.2 _ (by unfold pin at *; omega), decide_eq_false (by unfold pin at *; omega)]
    rfl
  have HBT := hide hbit
  have hbd := hp.1
  have hpn2 : pin n k ≤ 256 := by unfold pin; omega
  obtain ⟨pn, hpn⟩ : ∃ q, pin n k = q := ⟨_, rfl⟩
  rw [hpn] at HPI HBT hpn2
  have hkk : k ≤ 4 := by omega
  clear h hp hpg h4 hk hbit hpn
  go_enter Tryz.func142, Tryz.ntmps142
  go_wp2_with fail
  refine (unhide HPI).mono ?_
  rintro e x1 ⟨rfl, hb1⟩
  have HB1 := hide hb1
  have e0 : (256 : Int) - (pn : Int) = ((256 - pn : Nat) : Int) := by omega
  have hr : 256 - pn ≤ 256 := by omega
  obtain ⟨R, hR⟩ : ∃ q, 256 - pn = q := ⟨_, rfl⟩
  rw [hR] at e0 hr HBT
  clear hb1 HPI
  go_wp2
  go_loopw [14] (fun i wr => ∃ j : Nat, j ≤ R ∧ i = .int .i64 (j : Int) ∧ Below w.heap.size w wr) (fun i _ => R - (intOf i).toNat)
  case atStart => exact ⟨0, by omega, rfl, unhide HB1⟩
  case round =>
    obtain ⟨j, hj, rfl, hB⟩ := hrel
    obtain ⟨wo, rfl⟩ : ∃ wo, wo = wr := ⟨_, rfl⟩
    by_cases hjn : j < R
    · have hjn' : (j : Int) < (R : Int) := by omega
      have HTK := hide (fun W => isTaken_any bd hbd (256 * k + pn + j) (by omega) W)
      rw [unhide HBT j hjn] at HTK
      have e1 : ((256 * k : Nat) : Int) + (pn : Int) = ((256 * k + pn : Nat) : Int) := by omega
      have e2 : ((256 * k + pn : Nat) : Int) + (j : Int) = ((256 * k + pn + j : Nat) : Int) := by omega
      have q1 : 256 * k + pn + j < 10000 := by omega
      have q2 : 256 * k + pn < 10000 := by omega
      have q3 : 256 * k < 10000 := by omega
      have HB := hide hB
      clear hB
      generalize 256 * k + pn + j = m3 at *
      generalize 256 * k + pn = m2 at *
      generalize 256 * k = m1 at *
      go_wp2_with (first | (go_at_call 206; refine (unhide HFO _).mono ?_; rintro e w' ⟨rfl, hw'⟩; subst w') | (go_at_call 146; refine (unhide HTK _).mono ?_; rintro e y1 ⟨rfl, hb3⟩))
      go_roundw
      case rel => exact ⟨j + 1, by omega, by go_num, (unhide HB).trans (hb3.mono (unhide HB).size)⟩
      case measure => simp [intOf]; omega
    · have hjn' : ¬ (j : Int) < (R : Int) := by omega
      have HB := hide hB
      clear hB
      go_wp2
      go_ret
      exact ⟨rfl, unhide HB⟩
/-- What Open of a right map leaves. -/
def Opened (w0 w : World) (b jb pb : Nat) (X : Nat → Prop) (a n : Nat) (S : PS) (L : List ByteArray) (A : List (Nat × Nat)) (hn : Nat) (Mw Mn : List ByteArray) (T : Nat → Bool) (mb : Nat) (w' : World) : Prop :=
  w.heap.size ≤ mb ∧ ∃ S', BG w0 w' b jb pb mb (fun x => X x ∨ x = mb) a n S' L A hn Mw Mn T ∧ S'.op = S.op ∧ Tk S' S ∧ Only (fun x => ¬ X x) w w'
set_option maxRecDepth 100000 in
set_option maxHeartbeats 4000000 in
theorem mopen_ok {w0 w : World} {b jb pb : Nat} {X : Nat → Prop} {a n : Nat} {S : PS} {L : List ByteArray} {A : List (Nat × Nat)} {hn : Nat} {Mw Mn : List ByteArray} {T : Nat → Bool} (K : PK w0 w b jb pb S X) (hg : ETy w0) (hs : Seen S L A hn Mw Mn) (hm : MS Mn a n T) (h19 : 19 ≤ a) (h128 : a + pgs n ≤ 128) (hn1 : 1 ≤ n) (hn2 : n ≤ 1024) :
    Calls Tryz.prog 72 #[.pointer (some ⟨pb, 0, none⟩), .int .i64 (a : Int), .int .i64 (n : Int)] w fun e w' => ∃ mb, e = .returned (.tuple #[.pointer (some ⟨mb, 0, none⟩), .int .i64 0]) ∧ Opened w0 w b jb pb X a n S L A hn Mw Mn T mb w' := by
  have h4 := pgs_le hn2
  have HCN := hide (fun W => isCount_any (n : Int) W)
  rw [decide_eq_true (show (1 : Int) ≤ (n : Int) by omega), decide_eq_true (show (n : Int) ≤ 1024 by omega)] at HCN
  have HPO := hide (fun W => pagesOf_any n hn2 W)
  have HSZ := hide (show Calls Tryz.prog 140 #[.pointer (some ⟨pb, 0, none⟩)] w fun e w' => e = .returned (.int .i64 128) ∧ w' = w from by
    obtain ⟨bw, bv, ov, Ki⟩ := K
    have := Ki.size
    rw [hs.rst.s, show ((rs L A).last.length : Int) = 128 from by show ((L.length : Nat) : Int) = 128; rw [hs.len]; rfl] at this
    exact this)
  have ha0 : decide ((a : Int) < 0) = false := decide_eq_false (by omega)
  have ha1 : decide ((128 : Int) - (pgs n : Int) < (a : Int)) = false := decide_eq_false (by omega)
  have HM0 := hide (show ∀ W mb, Below w.heap.size w W → MB W mb pb a n → mb = w.heap.size → mb < W.heap.size → Kept w0 w b jb pb mb (fun x => X x ∨ x = mb) a n S L A hn Mw Mn T W from fun W mb hb hM hmb hlt => by
    refine ⟨S, ⟨K.more hb (fun x hx => ?_), hM, .inr rfl, hg, hs, hm, h19, h128, hn1, hn2⟩, rfl, Tk.refl _, Only.of_below hb⟩
    rcases hx with q | q
    · exact .inl q
    · rw [q]; exact .inr ⟨by omega, hlt⟩)
  have HXL := hide (show ∀ x, X x → x < w.heap.size from fun x hx => K.lt x hx)
  have hpq : pgs n ≤ 4 := h4
  have HP0 := hide (show ∀ k, k < pgs n → k < pgs n from fun _ q => q)
  obtain ⟨P0, hP0⟩ : ∃ q, pgs n = q := ⟨_, rfl⟩
  rw [hP0] at HPO ha1 hpq
  have HPE := hide hP0
  clear K hs hm hg h4 h128 hP0 HP0 hn1 h19
  go_enter Tryz.func72, Tryz.ntmps72
  go_wp2_with (first | (go_at_call 92; refine (unhide HCN _).mono ?_; rintro e w' ⟨rfl, hw'⟩; subst w') | (go_at_call 93; refine (unhide HPO _).mono ?_; rintro e w' ⟨rfl, hw'⟩; subst w') | (go_at_call 140; refine (unhide HSZ).mono ?_; rintro e w' ⟨rfl, hw'⟩; subst w'))
  obtain ⟨mb, hmb⟩ : ∃ q, w.heap.size = q := ⟨_, rfl⟩
  obtain ⟨x1, hx1⟩ : ∃ q, w.alloc (.cells #[.pointer (some ⟨pb, 0, none⟩), .int .i64 (a : Int), .int .i64 (n : Int)] 195) = q := ⟨_, rfl⟩
  rw [hx1, hmb]
  have X1 := hide (unhide HM0 x1 mb (by rw [← hx1]; exact (Below.refl _ _).alloc (Nat.le_refl _) _) (by rw [← hx1, ← hmb]; exact Blk.new w _ _) hmb.symm (by rw [← hx1, ← hmb]; simp))
  have HMB := hide hmb
  clear hx1 hmb HM0 ha0 ha1
  go_loopw [10, 11, 39] (fun _ _ i wr => ∃ k : Nat, k ≤ P0 ∧ i = .int .i64 (k : Int) ∧ Kept w0 w b jb pb mb (fun x => X x ∨ x = mb) a n S L A hn Mw Mn T wr) (fun _ _ i _ => P0 - (intOf i).toNat)
  case atStart => exact ⟨0, by omega, rfl, unhide X1⟩
  case round =>
    obtain ⟨k, hk, rfl, hI⟩ := hrel
    obtain ⟨wo, rfl⟩ : ∃ wo, wo = wr := ⟨_, rfl⟩
    clear X1
    by_cases hkn : k < P0
    · have hkn' : (k : Int) < (P0 : Int) := by omega
      obtain ⟨bd, hpg', hc⟩ := hI.read k (by rw [unhide HPE]; exact hkn)
      have HCR := hide hc
      have HPG := hide hpg'
      clear hI hc hpg'
      go_wp2_with fail
      refine (unhide HCR).mono ?_
      rintro e y1 ⟨rfl, hI1⟩
      have HST := hide (stray_ok hI1.mb hn2 k (by rw [unhide HPE]; exact hkn) T bd _ (unhide HPG))
      have HI1 := hide hI1
      clear hI1 HCR HPG
      go_wp2_with (go_at_call 142; refine (unhide HST).mono ?_; rintro e y2 ⟨rfl, hb2⟩)
      go_roundw
      case rel => exact ⟨k + 1, by omega, by go_num, (unhide HI1).below hb2⟩
      case measure => simp [intOf]; omega
    · have hkn' : ¬ (k : Int) < (P0 : Int) := by omega
      have HI := hide hI
      clear hI
      go_wp2
      go_ret2
      obtain ⟨S', k1, k2, k3, k4⟩ := unhide HI
      refine ⟨mb, rfl, by rw [unhide HMB]; exact Nat.le_refl _, S', k1, k2, k3, k4.widen (fun x hx q r => q (.inl r))⟩
end Go.Proofs.YtdpnbemagiekoaaGreatDoor

namespace Go.Proofs.YtdpnbemagiekoaaGreatDoor
open Go.RowKit Go.Maps Go.ChangeMaps Go.MapKept
theorem mapM_someI {α β : Type} (f : α → Option β) (g : α → β) : ∀ (L : List α), (∀ x ∈ L, f x = some (g x)) → L.mapM f = some (L.map g)
  | [], _ => rfl
  | x :: r, h => by
    rw [List.mapM_cons, h x (by simp), mapM_someI f g r (fun y hy => h y (by simp [hy]))]
    rfl
theorem flat1 {α β : Type} (f : α → β) : ∀ L : List α, (L.flatMap fun x => [f x]) = L.map f
  | [] => rfl
  | x :: r => by rw [List.flatMap_cons, flat1 f r]; rfl
theorem laidOutI : laidOutB Tryz.prog = true := by kernel_rfl
theorem keyRow : (99 : TypeId) < Tryz.prog.types.size := of_decide_eq_true (by kernel_rfl)
theorem keyWide : (match Tryz.prog.underlying 99 with | some (.array _ _) | some (.struct _) => true | _ => false) = true := by kernel_rfl
set_option maxRecDepth 100000 in
theorem lawKey : Keyed Tryz.prog 99 := Keyed.of_law (deep_law_laid laidOutI (m := 2) (by omega) keyRow (by kernel_rfl) keyWide)
theorem keyCells : Tryz.prog.cellsOf 99 = 32 := by kernel_rfl
theorem keyType : Tryz.prog.keyType 99 = true := by kernel_rfl
theorem types_succ : ∃ n, Tryz.prog.types.size = n + 1 := ⟨Tryz.prog.types.size - 1, by have : 0 < Tryz.prog.types.size := Nat.lt_of_le_of_lt (Nat.zero_le _) keyRow; omega⟩
theorem bytes1 (n : Nat) : bytesBE 1 n = [UInt8.ofNat (n % 256)] := rfl
theorem lits_u8 (m : Nat) (x : Int) (h0 : 0 ≤ x) (h1 : x < 256) : Tryz.prog.keyLits (m + 1) 5 [.int .u8 x] = some [.int .u8 x] := by
  have hw : (Lit.int .u8 x).wf = true := by simp [Lit.wf, IntKind.min, IntKind.max, IntKind.signed, IntKind.bits]; omega
  simp [Program.keyLits, Tryz.underlying5, hw]
theorem cells5 : Tryz.prog.cellsOf 5 = 1 := by kernel_rfl
set_option maxRecDepth 100000 in
theorem keyOf_key (d : ByteArray) (hd : d.size = 32) : keyOf Tryz.prog 99 (.agg (kC d).toArray) = some (.string d.data.toList) := by
  have hl := kC_len d hd
  have hf : (Value.agg (kC d).toArray).formed Tryz.prog 99 = true := by
    simp [Value.formed, Tryz.underlying99, keyCells, hl]
  have hk : Tryz.prog.keyLits (Tryz.prog.types.size + 1) 99 (kC d) = some ((List.range 32).map fun i => Lit.int .u8 ((nums d).getD i 0)) := by
    obtain ⟨m, hm⟩ := types_succ
    rw [hm]
    unfold Program.keyLits
    rw [Tryz.underlying99]
    simp only [keyCells, hl, if_true, cells5, Nat.mul_one]
    rw [mapM_someI _ (fun i => [Lit.int .u8 ((nums d).getD i 0)]) (List.range 32) (fun i hi => by
      have hi' := List.mem_range.1 hi
      have hb := nums_bytes d i
      have e : ((kC d).drop i).take 1 = [.int .u8 ((nums d).getD i 0)] := by
        have hn : i < (nums d).length := by rw [nums_len, hd]; exact hi'
        rw [List.drop_eq_getElem_cons (by rw [hl]; exact hi')]
        simp [kC, hn]
      rw [e]
      exact lits_u8 m _ hb.1 hb.2)]
    simp only [Option.map_some, Option.some.injEq]
    generalize List.range 32 = R
    induction R with
    | nil => rfl
    | cons a r ih => rw [List.map_cons, List.flatten_cons, ih]; rfl
  unfold keyOf
  rw [Tryz.underlying99]
  simp only [keyType, hf, Value.cells, Bool.and_self, if_true, hk, Option.map_some]
  congr 2
  unfold keyBytes
  have h1 : ∀ i, (Lit.int .u8 ((nums d).getD i 0)).keyBytes = [UInt8.ofNat ((nums d).getD i 0).toNat] := fun i => by
    have hb := nums_bytes d i
    generalize (nums d).getD i 0 = x at *
    show bytesBE 1 (x % 256).toNat = _
    rw [bytes1]
    congr 2
    omega
  rw [List.flatMap_map]
  simp only [h1]
  have h2 : ((List.range 32).flatMap fun i => [UInt8.ofNat ((nums d).getD i 0).toNat]) = (nums d).map (fun x => UInt8.ofNat x.toNat) := by
    have hn : (nums d).length = 32 := by rw [nums_len, hd]
    rw [← hn]
    generalize nums d = l
    rw [flat1 (fun i => UInt8.ofNat (l.getD i 0).toNat)]
    apply List.ext_getElem
    · simp
    · intro i h1 h2
      simp at h1
      simp [h1]
  rw [h2]
  unfold nums
  have h3 : ∀ x : UInt8, UInt8.ofNat ((x.toNat : Nat) : Int).toNat = x := fun x => by simp
  rw [List.map_map]
  have h4 : ((fun x : Int => UInt8.ofNat x.toNat) ∘ fun x : UInt8 => (x.toNat : Int)) = id := by funext x; exact h3 x
  rw [h4, List.map_id]
/-- The row of entries in memory. -/
def ER (w : World) (eb n : Nat) (T : Nat → En) : Prop := ∃ cs : List Value, Blk w eb cs.toArray 104 ∧ cs.length = 33 * n ∧ ∀ i, i < n → (cs.drop (i * 33)).take 33 = enC (T i)
theorem ER.lt {w : World} {eb n : Nat} {T : Nat → En} (h : ER w eb n T) : eb < w.heap.size := by
  obtain ⟨cs, h1, _⟩ := h
  exact h1.lt
theorem ER.only {w w' : World} {eb n : Nat} {T : Nat → En} {P : Nat → Prop} (h : ER w eb n T) (ho : Only P w w') (hp : ¬ P eb) : ER w' eb n T := by
  obtain ⟨cs, h1, h2⟩ := h
  exact ⟨cs, h1.only ho hp, h2⟩
theorem ER.below {w w' : World} {eb n : Nat} {T : Nat → En} (h : ER w eb n T) (hb : Below w.heap.size w w') : ER w' eb n T := h.only (Only.of_below (P := fun _ => False) hb) (fun q => q)
theorem ER.range {w : World} {eb n : Nat} {T : Nat → En} (h : ER w eb n T) (i : Nat) (hi : i < n) : w.rangeAt eb (i * 33) (enC (T i)) := by
  obtain ⟨cs, h1, h2, h3⟩ := h
  intro j v hv
  rw [← h3 i hi] at hv
  rw [h1.cell]
  rw [List.getElem?_take] at hv
  split at hv
  · rw [List.getElem?_drop] at hv
    simpa using hv
  · cases hv
theorem ER.there {w : World} {eb n : Nat} {T : Nat → En} (h : ER w eb n T) (i : Nat) (hi : i < n) : w.there eb (i * 33) 33 := by
  obtain ⟨cs, h1, h2, h3⟩ := h
  intro j hj
  refine ⟨?_, h1.frozen _⟩
  rw [h1.cell]
  simp
  omega
theorem ER.set {w : World} {eb n : Nat} {T : Nat → En} (h : ER w eb n T) (p : Nat) (hp : p < n) (e : En) (he : EnOk e) : ER (w.setCells eb (p * 33) (enC e)) eb n (upd T p e) := by
  obtain ⟨cs, h1, h2, h3⟩ := h
  have hle := enC_len e he
  have hpl : (cs.take (p * 33)).length = p * 33 := by rw [List.length_take]; omega
  have hb := setCells_blk (enC e) (cs.take (p * 33)) (cs.drop (p * 33 + 33)) h1 ((cs.drop (p * 33)).take 33) (by rw [hle, List.length_take, List.length_drop]; omega) (by
    congr 1
    rw [List.append_assoc, ← List.drop_drop (i := 33) (j := p * 33), List.take_append_drop, List.take_append_drop])
  rw [hpl] at hb
  refine ⟨_, hb, ?_, fun i hi => ?_⟩
  · rw [List.length_append, List.length_append, hpl, hle, List.length_drop]
    omega
  · by_cases e1 : i = p
    · subst e1
      rw [List.append_assoc, List.drop_append_of_le_length (by omega), List.drop_of_length_le (by omega), List.nil_append, List.take_append_of_le_length (by omega), List.take_of_length_le (by omega)]
      unfold upd
      rw [if_pos rfl]
    · unfold upd
      rw [if_neg e1, ← h3 i hi]
      by_cases e2 : i < p
      · rw [List.append_assoc, List.drop_append_of_le_length (by omega), List.take_append_of_le_length (by rw [List.length_drop]; omega), List.drop_take, List.take_take]
        congr 1
        omega
      · rw [List.drop_append, List.drop_of_length_le (by rw [List.length_append, hpl, hle]; omega), List.nil_append, List.length_append, hpl, hle, List.drop_drop]
        congr 2
        omega
theorem ER.ne {w : World} {eb n : Nat} {T : Nat → En} (h : ER w eb n T) {b : Nat} {cur : Array Value} {U : TypeId} (hb : Blk w b cur U) (hU : U ≠ 104) : eb ≠ b := fun e => by
  obtain ⟨cs, h1, _⟩ := h
  subst e
  have := (show w.heap[eb]? = _ from h1).symm.trans hb
  simp at this
  exact hU this.2.symm
/-- What the map of places tells. -/
def PD (D : DataW Unit) (T : Nat → En) : Prop := (∀ kl, has D kl = true → ∃ i d c, T i = some (d, c) ∧ kl = .string d.data.toList) ∧ ∀ i d c, T i = some (d, c) → has D (.string d.data.toList) = true ∧ ∀ z, D.atKey (.string d.data.toList) z = .lit (.int .i64 (i : Int))
def PM (w : World) (bm n : Nat) (T : Nat → En) : Prop := ∃ D, w.ownsMap Tryz.prog 99 (plainElem Tryz.prog 3) bm n D ∧ PD D T
theorem PM.lt {w : World} {bm n : Nat} {T : Nat → En} (h : PM w bm n T) : bm < w.heap.size := by
  obtain ⟨D, h1, _⟩ := h
  exact h1.lt
theorem PM.only {w w' : World} {bm n : Nat} {T : Nat → En} {P : Nat → Prop} (h : PM w bm n T) (ho : Only P w w') (hp : ¬ P bm) : PM w' bm n T := by
  obtain ⟨D, h1, h2⟩ := h
  have hlt := h1.lt
  obtain ⟨es, clock, hb, F, hs, hD⟩ := h1
  exact ⟨D, ⟨es, clock, (ho.2 bm hlt hp).trans hb, F, hs, hD⟩, h2⟩
theorem PM.below {w w' : World} {bm n : Nat} {T : Nat → En} (h : PM w bm n T) (hb : Below w.heap.size w w') : PM w' bm n T := h.only (Only.of_below (P := fun _ => False) hb) (fun q => q)
theorem PM.ne {w : World} {bm n : Nat} {T : Nat → En} (h : PM w bm n T) {b : Nat} {cur : Array Value} {U : TypeId} (hb : Blk w b cur U) : bm ≠ b := fun e => by
  obtain ⟨D, ⟨es, clock, hm, _⟩, _⟩ := h
  subst e
  have := (show w.heap[bm]? = _ from hb).symm.trans hm
  simp at this
theorem PM.made (w : World) (n : Nat) : PM (w.alloc (.map #[] 0)) w.heap.size n (fun _ => none) :=
  ⟨_, (World.ownsMap_made w _ _ _).mono (Nat.zero_le _), ⟨fun kl h => (by cases h), fun i d c h => (by cases h)⟩⟩
theorem zero3 (w : World) : (zeroValue 3).run Tryz.prog w = .ok (.int .i64 0) w := by kernel_rfl
theorem data_inj {d d' : ByteArray} (h : Lit.string d.data.toList = Lit.string d'.data.toList) : d = d' := ba_eq (by injection h)
theorem PM.hit {w : World} {bm n : Nat} {T : Nat → En} (h : PM w bm n T) {i : Nat} {d : ByteArray} {c : Nat} (hT : T i = some (d, c)) (hd : d.size = 32) :
    (Instr.lookup 92 (.map (some bm)) (.agg (kC d).toArray) true).run Tryz.prog w = .ok (.tuple #[.int .i64 (i : Int), .bool true]) w := by
  obtain ⟨D, h1, h2⟩ := h
  have hz0 : plainElem (H := Unit) Tryz.prog 3 (.int .i64 0) = some (.lit (.int .i64 0), []) := plainElem_int Tryz.underlying3 (by decide)
  obtain ⟨v, ps, hrun, hv⟩ := h1.look_ok lawKey Tryz.underlying92 (zero3 w) hz0 (keyOf_key d hd)
  obtain ⟨q1, q2⟩ := h2.2 i d c hT
  rw [q2] at hv
  obtain ⟨a, rfl, hz, _⟩ := plainElem_int_inv Tryz.underlying3 hv
  rw [hrun, q1]
  have : (i : Int) = a := by simpa using congrArg Prod.fst hz
  rw [this]
theorem PM.miss {w : World} {bm n : Nat} {T : Nat → En} (h : PM w bm n T) {d : ByteArray} (hd : d.size = 32) (hT : ∀ i c, T i ≠ some (d, c)) :
    (Instr.lookup 92 (.map (some bm)) (.agg (kC d).toArray) true).run Tryz.prog w = .ok (.tuple #[.int .i64 0, .bool false]) w := by
  obtain ⟨D, h1, h2⟩ := h
  have hz0 : plainElem (H := Unit) Tryz.prog 3 (.int .i64 0) = some (.lit (.int .i64 0), []) := plainElem_int Tryz.underlying3 (by decide)
  obtain ⟨v, ps, hrun, hv⟩ := h1.look_ok lawKey Tryz.underlying92 (zero3 w) hz0 (keyOf_key d hd)
  have hh : has D (.string d.data.toList) = false := by
    cases hq : has D (.string d.data.toList) with
    | false => rfl
    | true =>
      obtain ⟨i, d', c, e1, e2⟩ := h2.1 _ hq
      rw [← data_inj e2] at e1
      exact absurd e1 (hT i c)
  rw [atKey_of_not_has hh] at hv
  obtain ⟨a, rfl, hz, _⟩ := plainElem_int_inv Tryz.underlying3 hv
  rw [hrun, hh]
  have : (0 : Int) = a := by simpa using congrArg Prod.fst hz
  rw [this]
theorem nodup_subL {α : Type} [DecidableEq α] : ∀ (a b : List α), a.Nodup → (∀ x ∈ a, x ∈ b) → a.length ≤ b.length
  | [], _, _, _ => Nat.zero_le _
  | x :: r, b, h, hs => by
    obtain ⟨h1, h2⟩ := List.nodup_cons.1 h
    have hx := hs x (by simp)
    have ih := nodup_subL r (b.erase x) h2 (fun y hy => by
      have hne : y ≠ x := fun e => h1 (by rw [← e]; exact hy)
      exact (List.mem_erase_of_ne hne).2 (hs y (by simp [hy])))
    rw [List.length_erase_of_mem hx] at ih
    have := List.length_pos_of_mem hx
    simp only [List.length_cons]
    omega
/-- As many keys as places, at most. -/
theorem pd_size {D : DataW Unit} {T : Nat → En} {n m bm : Nat} {w : World} (h0 : w.ownsMap Tryz.prog 99 (plainElem Tryz.prog 3) bm m D) (h : PD D T) (hT : TOk n T) : Maps.size D ≤ n := by
  obtain ⟨es, rfl, hp, hkl⟩ := h0.entries lawKey
  rw [size_eq]
  have hn : (es.map (·.1)).Nodup := List.pairwise_map.2 hp
  have hs := @nodup_subL Lit (fun a b => Classical.propDecidable (a = b)) (es.map (·.1)) ((List.range n).map fun i => Lit.string (enD (T i)).data.toList) hn (fun x hx => by
    obtain ⟨p, hp', rfl⟩ := List.mem_map.1 hx
    have hh : has (.map es) p.1 = true := by
      rw [has_eq, List.any_eq_true]
      exact ⟨p, hp', WideAt.sameKey_self (hkl p hp')⟩
    obtain ⟨i, d, c, e1, e2⟩ := h.1 _ hh
    refine List.mem_map.2 ⟨i, List.mem_range.2 (hT.lt e1), ?_⟩
    rw [e1, e2]
    rfl)
  simpa using hs
theorem keyLitS (l : List UInt8) : WideAt.IsKeyLit (.string l) := by trivial
theorem PM.del {w : World} {bm n : Nat} {T : Nat → En} (h : PM w bm n T) (hT : TOk n T) {p : Nat} {d : ByteArray} {c : Nat} (hp : T p = some (d, c)) (ty : TypeId) :
    ∃ w', (Builtin.delete_ #[92, 99] ty #[.map (some bm), .agg (kC d).toArray]).run Tryz.prog w = .ok (.tuple #[]) w' ∧ PM w' bm n (upd T p none) ∧ Only (fun x => x = bm) w w' ∧ w'.heap.size = w.heap.size := by
  obtain ⟨D, h1, h2⟩ := h
  obtain ⟨w', hrun, hm, ht⟩ := h1.drop lawKey Tryz.underlying92 (keyOf_key d ((hT.ok p d c hp).1)) ty
  refine ⟨w', hrun, ⟨_, hm, fun kl hk => ?_, fun i d' c' hi => ?_⟩, Only.turned ht, turned_size ht⟩
  · have hne : kl ≠ .string d.data.toList := fun e => by
      rw [e, has_del_same] at hk
      cases hk
    rw [has_del_other hne] at hk
    obtain ⟨i, d', c', e1, e2⟩ := h2.1 kl hk
    refine ⟨i, d', c', ?_, e2⟩
    unfold upd
    rw [if_neg (fun e => ?_)]
    · exact e1
    · rw [e, hp] at e1
      injection e1 with e1
      injection e1 with e1
      exact hne (by rw [e2, e1])
  · unfold upd at hi
    by_cases e : i = p
    · rw [if_pos e] at hi
      cases hi
    · rw [if_neg e] at hi
      have hne : Lit.string d'.data.toList ≠ .string d.data.toList := fun q => by
        rw [data_inj q] at hi
        exact e (hT.one i p d c' c hi hp)
      obtain ⟨q1, q2⟩ := h2.2 i d' c' hi
      exact ⟨by rw [has_del_other hne]; exact q1, fun z => by rw [atKey_del_other hne]; exact q2 z⟩
theorem PM.put {w : World} {bm n : Nat} {T : Nat → En} (h : PM w bm n T) (hT : TOk n T) (hn : n ≤ 1024) {p : Nat} (hpn : p < n) (hp : T p = none) {d : ByteArray} {c : Nat} (hd : EnOk (some (d, c))) (hf : ∀ i c', T i ≠ some (d, c')) :
    ∃ w', (Instr.mapUpdate 92 (.map (some bm)) (.agg (kC d).toArray) (.int .i64 (p : Int))).run Tryz.prog w = .ok () w' ∧ PM w' bm n (upd T p (some (d, c))) ∧ Only (fun x => x = bm) w w' ∧ w'.heap.size = w.heap.size := by
  obtain ⟨D, h1, h2⟩ := h
  obtain ⟨w', hrun, hm, ht⟩ := h1.store lawKey Tryz.underlying92 (by unfold maxLen; omega) (keyOf_key d ((hd d c rfl).1)) (plainElem_int Tryz.underlying3 (wf_of (k := (p : Int)) (by omega) (by omega)))
  have hD := h1.isMap
  have hPD : PD (D.put (.string d.data.toList) (.lit (.int .i64 (p : Int)))) (upd T p (some (d, c))) := by
    refine ⟨fun kl hk => ?_, fun i d' c' hi => ?_⟩
    · by_cases hne : kl = .string d.data.toList
      · exact ⟨p, d, c, by unfold upd; rw [if_pos rfl], hne⟩
      · rw [has_put_other hne] at hk
        obtain ⟨i, d', c', e1, e2⟩ := h2.1 kl hk
        refine ⟨i, d', c', ?_, e2⟩
        unfold upd
        rw [if_neg (fun e => by rw [e, hp] at e1; cases e1)]
        exact e1
    · unfold upd at hi
      by_cases e : i = p
      · rw [if_pos e] at hi
        injection hi with hi
        injection hi with hi1 hi2
        subst hi1 e
        exact ⟨has_put_same hD (keyLitS _) _, fun z => atKey_put_same hD (keyLitS _) _ z⟩
      · rw [if_neg e] at hi
        have hne : Lit.string d'.data.toList ≠ .string d.data.toList := fun q => by
          rw [data_inj q] at hi
          exact hf i c' hi
        obtain ⟨q1, q2⟩ := h2.2 i d' c' hi
        exact ⟨by rw [has_put_other hne]; exact q1, fun z => by rw [atKey_put_other hne]; exact q2 z⟩
  have hTO : TOk n (upd T p (some (d, c))) := hT.upd p hpn _ hd (fun d' c' e j c'' hj => by
    have e1 : d = d' := congrArg (fun q : En => (q.getD (d, 0)).1) e
    subst e1
    exact absurd hj (hf j c''))
  exact ⟨w', hrun, ⟨_, (ownsMap_tight hm).mono (pd_size hm hPD hTO), hPD⟩, Only.turned ht, turned_size ht⟩
end Go.Proofs.YtdpnbemagiekoaaGreatDoor
