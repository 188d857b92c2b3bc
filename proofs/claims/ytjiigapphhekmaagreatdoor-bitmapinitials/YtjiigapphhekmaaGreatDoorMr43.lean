import Derived.Test.YtjiigapphhekmaaGreatDoorMr38
import Derived.Test.YtjiigapphhekmaaGreatDoorMr42
import Derived.Deep.DeepCutAuto
namespace Go.Proofs.YtjiigapphhekmaaGreatDoor
open Go.RowKit Go.Maps Go.Sort Go.Shelf
/-- The bytes of page k, as the document lays them: behind j bits. -/
def bdL (T : Nat → Bool) (k : Nat) : Nat → List Int
  | 0 => List.replicate 32 0
  | j + 1 => if T (256 * k + j) then (bdL T k j).set (j / 8) ((bdL T k j).getD (j / 8) 0 + ((2 ^ (j % 8) : Nat) : Int)) else bdL T k j
theorem bdL_len (T : Nat → Bool) (k : Nat) : ∀ j, (bdL T k j).length = 32
  | 0 => by simp [bdL]
  | j + 1 => by
    rw [bdL]
    split
    · rw [List.length_set]; exact bdL_len T k j
    · exact bdL_len T k j
theorem pow_mono8 (a b : Nat) (h : a ≤ b) : 2 ^ a ≤ 2 ^ b := Nat.pow_le_pow_right (by decide) h
theorem bdL_bound (T : Nat → Bool) (k : Nat) : ∀ j m, 0 ≤ (bdL T k j).getD m 0 ∧ (bdL T k j).getD m 0 < ((2 ^ min 8 (j - 8 * m) : Nat) : Int)
  | 0, m => by
    have : (bdL T k 0).getD m 0 = 0 := by
      rw [bdL, List.getD_eq_getElem?_getD, List.getElem?_replicate]
      split <;> rfl
    rw [this]
    have := Nat.two_pow_pos (min 8 (0 - 8 * m))
    omega
  | j + 1, m => by
    obtain ⟨h1, h2⟩ := bdL_bound T k j m
    have hm : 2 ^ min 8 (j - 8 * m) ≤ 2 ^ min 8 (j + 1 - 8 * m) := pow_mono8 _ _ (by omega)
    rw [bdL]
    split
    · have hl := bdL_len T k j
      rw [List.getD_eq_getElem?_getD, List.getElem?_set]
      by_cases e : j / 8 = m
      · rw [if_pos e]
        split
        · rw [e]
          have e1 : min 8 (j - 8 * m) = j % 8 := by omega
          have e2 : min 8 (j + 1 - 8 * m) = j % 8 + 1 := by omega
          rw [e1] at h2
          rw [e2, Nat.pow_succ]
          simp only [Option.getD_some]
          omega
        · simp only [Option.getD_none]
          have := Nat.two_pow_pos (min 8 (j + 1 - 8 * m))
          omega
      · rw [if_neg e, ← List.getD_eq_getElem?_getD]
        omega
    · omega
theorem bdL_bytes (T : Nat → Bool) (k j : Nat) : Bytes (bdL T k j) := fun m => by
  obtain ⟨h1, h2⟩ := bdL_bound T k j m
  have : 2 ^ min 8 (j - 8 * m) ≤ 2 ^ 8 := pow_mono8 _ _ (by omega)
  have h8 : (2 : Nat) ^ 8 = 256 := by decide
  omega
theorem bdL_fits (T : Nat → Bool) (k j : Nat) : (bdL T k j).getD (j / 8) 0 + ((2 ^ (j % 8) : Nat) : Int) < 256 := by
  obtain ⟨h1, h2⟩ := bdL_bound T k j (j / 8)
  rw [show min 8 (j - 8 * (j / 8)) = j % 8 by omega] at h2
  have : 2 ^ (j % 8 + 1) ≤ 2 ^ 8 := pow_mono8 _ _ (by omega)
  have h8 : (2 : Nat) ^ 8 = 256 := by decide
  rw [Nat.pow_succ] at this
  omega
def bdB (T : Nat → Bool) (n k : Nat) : ByteArray := strOfNums (bdL T k (pin n k))
theorem bdB_size (T : Nat → Bool) (n k : Nat) : (bdB T n k).size = 32 := by rw [bdB, strOfNums_size, bdL_len]
theorem bdB_zero (n k : Nat) : bdB (fun _ => false) n k = zb := by
  unfold bdB zb
  congr 1
  generalize pin n k = j
  induction j with
  | zero => rfl
  | succ j ih => rw [bdL]; exact ih
/-- The document's pages of a set. -/
def pagesL (T : Nat → Bool) (n m : Nat) : List ByteArray := (List.range m).map fun k => pgT k (bdB T n k)
theorem pagesL_succ (T : Nat → Bool) (n m : Nat) : strs (pagesL T n (m + 1)) = strs (pagesL T n m) ++ [.string (pgT m (bdB T n m))] := by simp [pagesL, strs, List.range_succ]
theorem pagesL_zero (n m : Nat) : pagesL (fun _ => false) n m = pgZ m := by
  unfold pagesL pgZ
  refine List.map_congr_left (fun k _ => ?_)
  rw [bdB_zero]
/-- Truths in memory. -/
def Bls (w : World) (p : Option Addr) (T : Nat → Bool) (n : Nat) : Prop := ∀ j, j < n → ∃ g o, p = some ⟨g, o, none⟩ ∧ g < w.heap.size ∧ w.cell? ⟨g, o + j, none⟩ = some (.bool (T j))
theorem rmany_any (z : Int) (w : World) : Calls Tryz.prog 27 #[.int .i64 z] w fun e w' => e = .returned (.int .i64 (if 1 ≤ z ∧ z ≤ 1024 then (pgs z.toNat : Int) else 0)) ∧ w' = w := by
  by_cases h1 : z < 1
  · rw [if_neg (by omega)]
    have d1 : decide (z < 1) = true := decide_eq_true h1
    clear h1
    go_enter Tryz.func27, Tryz.ntmps27
    go_wp2
    go_ret
    exact ⟨rfl, rfl⟩
  · have d1 : decide (z < 1) = false := decide_eq_false h1
    by_cases h2 : 1024 < z
    · rw [if_neg (by omega)]
      have d2 : decide (1024 < z) = true := decide_eq_true h2
      clear h1 h2
      go_enter Tryz.func27, Tryz.ntmps27
      go_wp2
      go_ret
      exact ⟨rfl, rfl⟩
    · rw [if_pos (by omega)]
      have d2 : decide (1024 < z) = false := decide_eq_false h2
      have e1 : (z + 256 - 1).tdiv 256 = (pgs z.toNat : Int) := by
        rw [Int.tdiv_eq_ediv_of_nonneg (by omega)]; unfold pgs; omega
      have hq : pgs z.toNat ≤ 4 := pgs_le (by omega)
      generalize pgs z.toNat = q at *
      go_enter Tryz.func27, Tryz.ntmps27
      go_wp2
      go_ret
      exact ⟨rfl, rfl⟩
def RpP (w : World) (T : Nat → Bool) (n m : Nat) (u : Value) (wr : World) : Prop := wr.ownsRow w.heap.size 9 1 u m (strs (pagesL T n m)) ∧ Below w.heap.size w wr
set_option maxRecDepth 100000 in
set_option maxHeartbeats 4000000 in
theorem rpages_any (p : Option Addr) (c n : Nat) (hn1 : 1 ≤ n) (hn2 : n ≤ 1024) (T : Nat → Bool) (w : World) (hT : Bls w p T n) : Calls Tryz.prog 49 #[.slice p n c] w fun e w' => ∃ v, e = .returned v ∧ RpP w T n (pgs n) v w' := by
  obtain ⟨i0, hi, hz0, hz1, hz2⟩ := info_parts infoS
  have HI := hide (And.intro hi (And.intro hz0 (And.intro hz1 hz2)))
  clear hi hz0 hz1 hz2
  have h4 := pgs_le hn2
  have hpg : pgs n = (n + 255) / 256 := rfl
  have HT := hide hT
  clear hT
  generalize pgs n = P0 at *
  go_enter Tryz.func49, Tryz.ntmps49
  go_wp2
  go_loopw [3, 4] (fun u i wr => ∃ k : Nat, k ≤ P0 ∧ i = .int .i64 (k : Int) ∧ RpP w T n k u wr) (fun _ i _ => P0 - (intOf i).toNat)
  case atStart => exact ⟨0, by omega, rfl, World.ownsRow_nil _ _ _ _, Below.refl _ _⟩
  case round =>
    obtain ⟨k, hk, rfl, hR, hB⟩ := hrel
    obtain ⟨wo, rfl⟩ : ∃ wo, wo = wr := ⟨_, rfl⟩
    obtain ⟨pv, cv, rfl, hcv⟩ := row_form hR
    have HR := hide hR
    have HB := hide hB
    clear hR hB hcv
    have em : (256 : Int) * (k : Int) = ((256 * k : Nat) : Int) := by omega
    have hfm : 256 * k ≤ 2000 := by omega
    by_cases hkn : k < P0
    · have hkn' : ((256 * k : Nat) : Int) < (n : Int) := by omega
      have hpin : pin n k = min 256 (n - 256 * k) := rfl
      have hmk := run_make_u8 32 32 (by omega) (by omega) wo
      simp only [Int.cast_ofNat_Int] at hmk
      have X0 := hide (show KeyInv wo (bdL T k 0) (wo.alloc (.cells ((List.replicate 32 (0 : Int)).map (Value.int .u8)).toArray 5)) from ⟨arr_new wo .u8 _ 5 _ rfl, (Below.refl _ _).alloc (Nat.le_refl _) _, by simp⟩)
      generalize hx : wo.alloc (.cells ((List.replicate 32 (0 : Int)).map (Value.int .u8)).toArray 5) = x2 at *
      clear hx
      obtain ⟨fk, hfk⟩ : ∃ q, 256 * k = q := ⟨_, rfl⟩
      rw [hfk] at em hkn' hfm
      have HFK := hide hfk
      obtain ⟨PN, hPN⟩ : ∃ q, pin n k = q := ⟨_, rfl⟩
      rw [hPN, hfk] at hpin
      have HPN := hide hPN
      clear hfk hPN
      obtain ⟨gb, hgb⟩ : ∃ q, wo.heap.size = q := ⟨_, rfl⟩
      rw [hgb] at hmk
      have HGB := hide hgb
      clear hgb
      go_wp2
      go_loopw [6] (fun j wr => ∃ t : Nat, t ≤ PN ∧ j = .int .i64 (t : Int) ∧ KeyInv wo (bdL T k t) wr) (fun j _ => PN - (intOf j).toNat)
      case atStart => exact ⟨0, by omega, rfl, unhide X0⟩
      case round =>
        obtain ⟨t, ht, rfl, hK⟩ := hrel
        obtain ⟨wi, rfl⟩ : ∃ wi, wi = wr := ⟨_, rfl⟩
        clear X0 hmk
        have HK := hide hK
        clear hK
        obtain ⟨cb, hcb⟩ : ∃ cb : Bool, decide (t < 256 ∧ fk + t < n) = cb := ⟨_, rfl⟩
        have HCB := hide hcb
        clear hcb
        have et : (fk : Int) + (t : Int) = ((fk + t : Nat) : Int) := by omega
        have ht256 : t ≤ 256 := by omega
        go_upto_region 7 with fail
        go_cut [27] (fun c wx => c = .bool cb ∧ wx = wi)
        case first =>
          by_cases g1 : t < 256
          · have g1' : (t : Int) < 256 := by omega
            have g1d : decide ((t : Int) < 256) = true := decide_eq_true g1'
            by_cases g2 : fk + t < n
            · have g2' : ((fk + t : Nat) : Int) < (n : Int) := by omega
              generalize fk + t = ft at *
              go_wp2_with fail
              go_meet
              exact ⟨congrArg Value.bool (by rw [← unhide HCB]; exact (decide_eq_true ⟨g1, g2⟩).symm), rfl⟩
            · have g2' : ¬ ((fk + t : Nat) : Int) < (n : Int) := by omega
              have hft : fk + t ≤ 5000 := by omega
              generalize fk + t = ft at *
              go_wp2_with fail
              go_meet
              exact ⟨congrArg Value.bool (by rw [← unhide HCB]; exact (decide_eq_false (fun r => g2 r.2)).symm), rfl⟩
          · have g1' : ¬ (t : Int) < 256 := by omega
            go_wp2_with fail
            go_meet
            exact ⟨congrArg Value.bool (by rw [← unhide HCB]; exact (decide_eq_false (fun r => g1 r.1)).symm), rfl⟩
        case rest =>
        obtain ⟨rfl, hwc⟩ := hcut
        subst wc
        cases cb with
        | true =>
          have hgo := of_decide_eq_true (unhide HCB)
          obtain ⟨g, oo, rfl, hgl, cg⟩ := (unhide HT) (fk + t) hgo.2
          have hbw : Below w.heap.size w wi := (unhide HB).trans ((unhide HK).2.1.mono (unhide HB).size)
          have cg' : wi.cell? ⟨g, oo + (fk + t), none⟩ = some (.bool (T (fk + t))) := (hbw.cell (p := ⟨g, oo + (fk + t), none⟩) hgl).trans cg
          have s0 : (0 : Int) ≤ ((fk + t : Nat) : Int) := by omega
          have s1 : ((fk + t : Nat) : Int) < (n : Int) := by omega
          have hft : fk + t ≤ 5000 := by omega
          have htl : t < PN := by omega
          have HST := hide (show bdL T k (t + 1) = if T (fk + t) then (bdL T k t).set (t / 8) ((bdL T k t).getD (t / 8) 0 + ((2 ^ (t % 8) : Nat) : Int)) else bdL T k t from by rw [bdL, unhide HFK])
          clear hbw cg hgl
          generalize fk + t = ft at *
          cases hTf : T ft with
          | false =>
            rw [hTf] at cg' HST
            simp only [Bool.false_eq_true, if_false] at HST
            clear hTf
            go_wp2
            go_roundw
            case rel => exact ⟨t + 1, by omega, by go_num, by rw [unhide HST]; exact unhide HK⟩
            case measure => simp [intOf]; omega
          | true =>
            rw [hTf] at cg' HST
            simp only [if_true] at HST
            have hlen := bdL_len T k t
            have hfit := bdL_fits T k t
            have hlo := (bdL_bound T k t (t / 8)).1
            have c1 := (unhide HK).1.get0 (t / 8) (by omega)
            have f1 := (unhide HK).1.free0 (t / 8) (by omega)
            have HPUT := hide (show ∀ W v, KeyInv wo (bdL T k t) W → v = (bdL T k t).getD (t / 8) 0 + ((2 ^ (t % 8) : Nat) : Int) → KeyInv wo (bdL T k (t + 1)) (W.setCell ⟨wo.heap.size, t / 8, none⟩ (.int .u8 v)).drew from fun W v h e => by
              have h' := h.put (l' := bdL T k (t + 1)) (t / 8) (by omega) v (by rw [e, unhide HST])
              exact ⟨h'.1, h'.2.1.drew, h'.2.2⟩)
            have dq : (t : Int).tdiv 8 = ((t / 8 : Nat) : Int) := by rw [Int.tdiv_eq_ediv_of_nonneg (by omega)]; omega
            have dr : (t : Int).tmod 8 = ((t % 8 : Nat) : Int) := by rw [Int.tmod_eq_emod_of_nonneg (by omega)]; omega
            have hq32 : t / 8 < 32 := by omega
            have hr8 : t % 8 < 8 := Nat.mod_lt _ (by decide)
            have j0 : (0 : Int) ≤ ((t / 8 : Nat) : Int) := by omega
            have j1 : ((t / 8 : Nat) : Int) < 32 := by omega
            have hgbe := unhide HGB
            rw [hgbe] at c1 f1 HPUT
            generalize (bdL T k t).getD (t / 8) 0 = x at *
            have HS := hide (show ∀ cc : Int, cc = ((2 ^ (t % 8) : Nat) : Int) → IntKind.u8.wrap (x + cc) = x + cc from fun cc hc => by
              have hcp : 0 ≤ cc := by rw [hc]; exact Int.natCast_nonneg _
              rw [← hc] at hfit
              rw [IntKind.wrap_u8]
              omega)
            have HXX := hide (And.intro hlo hfit)
            clear hTf hlen hfit hlo hgbe
            have hwq : IntKind.i64.wrap ((t / 8 : Nat) : Int) = ((t / 8 : Nat) : Int) := wrapI_eq _ (by omega) (by omega)
            have hwr : IntKind.i64.wrap ((t % 8 : Nat) : Int) = ((t % 8 : Nat) : Int) := wrapI_eq _ (by omega) (by omega)
            generalize t / 8 = qd at *
            generalize t % 8 = r at *
            obtain rfl | rfl | rfl | rfl | rfl | rfl | rfl | rfl : r = 0 ∨ r = 1 ∨ r = 2 ∨ r = 3 ∨ r = 4 ∨ r = 5 ∨ r = 6 ∨ r = 7 := by omega
            all_goals
              have hsum := unhide HS _ rfl
              simp only [Nat.reducePow, Int.cast_ofNat_Int] at hsum dr hwr
              clear HS
              go_wp2_with fail
              go_still_tail 13, (by kernel_rfl)
              change wpList _ _ _ _ _ wi.drew
              go_wp2
              go_roundw
              case rel => exact ⟨t + 1, by omega, by go_num, unhide HPUT wi _ (unhide HK) (by have hh := unhide HXX; simp only [Nat.reducePow, Int.cast_ofNat_Int] at hh ⊢; omega)⟩
              case measure => simp [intOf]; omega
        | false =>
          have htp : t = PN := by
            have hno := of_decide_eq_false (unhide HCB)
            omega
          subst htp
          have hlen := bdL_len T k t
          have hA := (unhide HK).1
          have hcv' := run_convert_bytes_arg (P := Tryz.prog) wi 46 5 Tryz.underlying46 Tryz.underlying5 wo.heap.size 0 32 32 (bdL T k t) hlen (fun i hi => hA.get i (by omega)) 9 Tryz.underlying9
          rw [unhide HGB] at hcv'
          have HBD := hide (show strOfNums (bdL T k t) = bdB T n k from by rw [bdB, unhide HPN])
          obtain ⟨bd, hbd⟩ : ∃ q, strOfNums (bdL T k t) = q := ⟨_, rfl⟩
          rw [hbd] at hcv' HBD
          have HMK := hide (fun W => rmake_any 3 (k : Int) bd W)
          have HPG := hide (show makeB 3 (k : Int) bd = pgT k (bdB T n k) from by rw [unhide HBD]; rfl)
          obtain ⟨pg, hpg'⟩ : ∃ q, makeB 3 (k : Int) bd = q := ⟨_, rfl⟩
          rw [hpg'] at HMK HPG
          generalize errM 3 (k : Int) bd.size = er at *
          have HB2 := hide ((unhide HB).trans ((unhide HK).2.1.mono (unhide HB).size))
          have HR2 := hide (owns_only (unhide HR) (Only.of_below (P := fun _ => False) (unhide HK).2.1) (fun _ _ q => q))
          clear hlen hA hbd hpg' HR HB HK
          go_wp2_with fail
          refine (unhide HMK _).mono ?_
          rintro e y1 ⟨rfl, hb1⟩
          have HRA := hide (show (y1.alloc (.cells #[.string pg] 9)).ownsRow w.heap.size 9 1 (.slice pv k cv) k (strs (pagesL T n k)) from (owns_only (unhide HR2) (Only.of_below (P := fun _ => False) hb1) (fun _ _ q => q)).alloc _)
          have HXB := hide (show Below w.heap.size w (y1.alloc (.cells #[.string pg] 9)) from ((unhide HB2).trans (hb1.mono (unhide HB2).size)).alloc ((unhide HB2).trans (hb1.mono (unhide HB2).size)).size _)
          clear hb1 HB2 HR2 HMK
          go_wp2_with (refine wpList_append_own _ rfl (.tmp 58) (.tmp 60) 42 rfl w.heap.size 9 i0 (.string ⟨#[]⟩) 1 16 Tryz.underlying42 (unhide HI).1 (unhide HI).2.1 (unhide HI).2.2.1 (unhide HI).2.2.2 rfl (by decide) _ k (strs (pagesL T n k)) rfl (unhide HRA) ⟨y1.heap.size, 0, none⟩ 1 1 [.string pg] rfl rfl (fun q u hu => news_one y1 9 _ q u hu) (by simp [Value.oneCell']) (by unfold maxLen; omega) (by omega) (unhide HXB).size ?_)
          intro v5 x5 ho5 hg5 _
          have HRR := hide (show RpP w T n (k + 1) v5 x5 from ⟨by rw [pagesL_succ, ← unhide HPG]; exact ho5, (unhide HXB).grown hg5 (unhide HXB).size (fun q hq => ((unhide HRA).lt q hq).1)⟩)
          clear ho5 hg5 HRA HXB HPG
          go_wp2
          go_roundw
          case rel => exact ⟨k + 1, by omega, by go_num, unhide HRR⟩
          case measure => simp [intOf]; omega
    · have hke : k = P0 := by omega
      have hkn' : ¬ ((256 * k : Nat) : Int) < (n : Int) := by omega
      clear hpg
      subst hke
      have HF := hide (show RpP w T n k (.slice pv k cv) wo from ⟨unhide HR, unhide HB⟩)
      clear HR HB
      generalize 256 * k = fk at *
      go_wp2
      go_ret
      exact ⟨_, rfl, unhide HF⟩
set_option maxRecDepth 100000 in
set_option maxHeartbeats 1000000 in
theorem rinitial_ok (n : Nat) (hn1 : 1 ≤ n) (hn2 : n ≤ 1024) (w : World) : Calls Tryz.prog 19 #[.int .i64 (n : Int)] w fun e w' => ∃ v, e = .returned (.tuple #[v, .int .i64 0]) ∧ InI w (pgs n) v w' := by
  have HM := hide (fun W => rmany_any (n : Int) W)
  rw [if_pos (by omega), Int.toNat_natCast] at HM
  have h4 := pgs_le hn2
  have hp : 1 ≤ pgs n := by unfold pgs; omega
  have hmk := run_make_b n (by omega) w
  have HPG := hide (show Calls Tryz.prog 49 #[.slice (some ⟨w.heap.size, 0, none⟩) n n] (w.alloc (.cells (bools (List.replicate n false)) 4)) fun e w' => ∃ v, e = .returned v ∧ RpP (w.alloc (.cells (bools (List.replicate n false)) 4)) (fun _ => false) n (pgs n) v w' from rpages_any _ n n hn1 hn2 (fun _ => false) _ (fun j hj => ⟨w.heap.size, 0, rfl, by simp, by
    rw [Nat.zero_add, (Blk.new w 4 (bools (List.replicate n false))).cell j, bools_at _ j (by simpa using hj)]
    simp [List.getD_eq_getElem?_getD, hj]⟩))
  have HB := hide (show Below w.heap.size w (w.alloc (.cells (bools (List.replicate n false)) 4)) from (Below.refl _ _).alloc (Nat.le_refl _) _)
  generalize w.alloc (.cells (bools (List.replicate n false)) 4) = x1 at *
  have hq0 : (((pgs n : Nat) : Int) == 0) = false := by simp; omega
  generalize hP : pgs n = P0 at *
  clear hP h4 hp
  go_enter Tryz.func19, Tryz.ntmps19
  go_wp2_with (go_at_call 27; refine (unhide HM _).mono ?_; rintro e w' ⟨rfl, hw'⟩; subst w')
  refine (unhide HPG).mono ?_
  rintro e x2 ⟨v, rfl, hR, hb⟩
  have HR := hide (show InI w P0 v x2 from ⟨by
    rw [← pagesL_zero n P0]
    obtain ⟨h1, h2⟩ := hR
    exact ⟨h1, by
      rcases h2 with q | ⟨g, cap, cu, q, hg0, hgb, q1, q2, q3, q4⟩
      · exact .inl q
      · exact .inr ⟨g, cap, cu, q, Nat.le_trans (unhide HB).size hg0, hgb, q1, q2, q3, q4⟩⟩, (unhide HB).trans (hb.mono (unhide HB).size)⟩)
  clear hR hb HPG
  go_wp2
  go_ret2
  exact ⟨v, rfl, unhide HR⟩
theorem rinitial_bad (z : Int) (hz : ¬ (1 ≤ z ∧ z ≤ 1024)) (w : World) : Calls Tryz.prog 19 #[.int .i64 z] w fun e w' => e = .returned (.tuple #[.slice none 0 0, .int .i64 1]) ∧ w' = w := by
  have HM := hide (fun W => rmany_any z W)
  rw [if_neg hz] at HM
  clear hz
  go_enter Tryz.func19, Tryz.ntmps19
  go_wp2_with (go_at_call 27; refine (unhide HM _).mono ?_; rintro e w' ⟨rfl, hw'⟩; subst w')
  go_ret2
  exact ⟨rfl, rfl⟩
theorem minitial_bad (z : Int) (hz : ¬ (1 ≤ z ∧ z ≤ 1024)) (w : World) : Calls Tryz.prog 20 #[.int .i64 z] w fun e w' => e = .returned (.tuple #[.slice none 0 0, .int .i64 1]) ∧ w' = w := by
  have HM := hide (fun W => isCount_any z W)
  rw [show (decide (1 ≤ z) && decide (z ≤ 1024)) = false from by
    by_cases q : 1 ≤ z
    · rw [decide_eq_false (fun r => hz ⟨q, r⟩)]; simp
    · rw [decide_eq_false q]; rfl] at HM
  clear hz
  go_enter Tryz.func20, Tryz.ntmps20
  go_wp2_with (go_at_call 50; refine (unhide HM _).mono ?_; rintro e w' ⟨rfl, hw'⟩; subst w')
  go_ret2
  exact ⟨rfl, rfl⟩
set_option maxRecDepth 100000 in
set_option maxHeartbeats 1000000 in
theorem texts7_any (w : World) (p1 p2 : Option Addr) (c1 c2 : Nat) (l : List ByteArray) (n : Nat) (hn : n = l.length) (hz : n ≤ 1000000) (h1 : Strs w p1 l) (h2 : Strs w p2 l) : Calls Tryz.prog 21 #[.slice p1 n c1, .slice p2 n c2] w fun e w' => e = .returned (.bool true) ∧ Below w.heap.size w w' := by
  have HL := hide (And.intro hn (And.intro h1 h2))
  have hnn : ((n : Int) != (n : Int)) = false := by simp
  clear hn h1 h2
  go_enter Tryz.func21, Tryz.ntmps21
  go_wp2
  go_loopw [5] (fun i wr => ∃ k : Nat, k ≤ n ∧ i = .int .i64 (k : Int) ∧ Below w.heap.size w wr) (fun i _ => n - (intOf i).toNat)
  case atStart => exact ⟨0, by omega, rfl, Below.refl _ _⟩
  case round =>
    obtain ⟨k, hk, rfl, hb⟩ := hrel
    obtain ⟨wo, rfl⟩ : ∃ wo, wo = wr := ⟨_, rfl⟩
    have XB := hide hb
    clear hb
    by_cases hkn : k < n
    · obtain ⟨g1, o1, rfl, q1, d1⟩ := (unhide HL).2.1 k (by have := (unhide HL).1; omega)
      obtain ⟨g2, o2, rfl, q2, d2⟩ := (unhide HL).2.2 k (by have := (unhide HL).1; omega)
      have e1 := ((unhide XB).cell (p := ⟨g1, o1 + k, none⟩) q1).trans d1
      have e2 := ((unhide XB).cell (p := ⟨g2, o2 + k, none⟩) q2).trans d2
      generalize l.getD k ByteArray.empty = z at *
      clear q1 q2 d1 d2
      have j0 : 0 ≤ (k : Int) := by omega
      have j1 : (k : Int) < (n : Int) := by omega
      go_wp2_with fail
      go_quiet (fail)
      go_wp2
      go_roundw
      case rel => exact ⟨k + 1, by omega, by go_num, below_drewN (unhide XB) _⟩
      case measure => simp [intOf]; omega
    · have e1 : ¬ (k : Int) < (n : Int) := by omega
      go_wp2
      go_ret
      exact ⟨rfl, unhide XB⟩
end Go.Proofs.YtjiigapphhekmaaGreatDoor
