import Derived.Test.YtnfcnpolflfpfaaGreatDoorMr36
import Derived.Test.YtnfcnpolflfpfaaGreatDoorMr33
import Derived.Test.YtnfcnpolflfpfaaGreatDoorMr25
import Derived.Test.YtnfcnpolflfpfaaGreatDoorMr24
namespace Go.Proofs.YtnfcnpolflfpfaaGreatDoor
open Go.RowKit Go.Maps
/-- What stands below m. -/
def restr (T : Nat → En) (m : Nat) : Nat → En := fun i => if i < m then T i else none
theorem restr_ok {n : Nat} {T : Nat → En} (h : TOk n T) (m : Nat) : TOk n (restr T m) := by
  refine ⟨fun i => ?_, fun i hi => ?_, fun i j d c c' hi hj => ?_⟩
  · unfold restr
    split
    · exact h.ok i
    · exact fun _ _ h => by cases h
  · unfold restr
    split
    · exact h.out i hi
    · rfl
  · unfold restr at hi hj
    split at hi
    · split at hj
      · exact h.one i j d c c' hi hj
      · cases hj
    · cases hi
theorem restr_step (T : Nat → En) (m : Nat) : upd (restr T m) m (T m) = restr T (m + 1) := by
  funext i
  unfold upd restr
  by_cases e : i = m
  · subst e; rw [if_pos rfl, if_pos (by omega)]
  · rw [if_neg e]
    by_cases q : i < m
    · rw [if_pos q, if_pos (by omega)]
    · rw [if_neg q, if_neg (by omega)]
theorem restr_none (T : Nat → En) (m : Nat) (h : T m = none) : restr T m = restr T (m + 1) := by
  rw [← restr_step, upd_self _ _ _ (by unfold restr; rw [if_neg (by omega), h])]
theorem restr_all {n : Nat} {T : Nat → En} (h : TOk n T) (m : Nat) (hm : n ≤ m) : restr T m = T := by
  funext i
  unfold restr
  split
  · rfl
  · exact (h.out i (by omega)).symm
theorem restr_zero (T : Nat → En) : restr T 0 = fun _ => none := by
  funext i
  unfold restr
  rw [if_neg (by omega)]
/-- What take leaves. -/
def TakeInv (w0 w : World) (mb mo eb bm n : Nat) (T : Nat → En) (wr : World) : Prop := MM wr mb mo eb bm n T ∧ Only (fun x => x = eb ∨ x = bm) w wr ∧ Below w0.heap.size w0 wr
theorem TakeInv.below {w0 w : World} {mb mo eb bm n : Nat} {T : Nat → En} {wr w' : World} (h : TakeInv w0 w mb mo eb bm n T wr) (hb : Below wr.heap.size wr w') : TakeInv w0 w mb mo eb bm n T w' :=
  ⟨h.1.below hb, h.2.1.trans (Only.of_below (P := fun x => x = eb ∨ x = bm) hb) (fun _ _ q => q), h.2.2.trans (hb.mono h.2.2.size)⟩
theorem TakeInv.set {w0 w : World} {mb mo eb bm n : Nat} {T U : Nat → En} {wr w' : World} (h : TakeInv w0 w mb mo eb bm n T wr) (h1 : w0.heap.size ≤ eb) (h2 : w0.heap.size ≤ bm) (hs : SetPost mb mo eb bm n U wr w') : TakeInv w0 w mb mo eb bm n U w' :=
  ⟨hs.1, h.2.1.trans hs.2 (fun _ _ q => q), h.2.2.trans (hs.2.below h.2.2.size (fun k hk q => by omega))⟩
set_option maxRecDepth 100000 in
set_option maxHeartbeats 2000000 in
theorem itake_any {w0 w : World} {mb mo eb bm n : Nat} {T : Nat → En} (hT : TOk n T) (hn : n ≤ 1024) (k : Nat) (hk : k < ipgs n) (h : MM w mb mo eb bm n (restr T (6 * k))) (hg : ETy w0) (h0 : Below w0.heap.size w0 w) (he : w0.heap.size ≤ eb) (hb : w0.heap.size ≤ bm) :
    Calls Tryz.prog 64 #[.pointer (some ⟨mb, mo, none⟩), .int .i64 (k : Int), .string (ibd T k)] w fun e w' => e = .returned (.bool true) ∧ TakeInv w0 w mb mo eb bm n (restr T (6 * k + 6)) w' := by
  have hk2 := ipgs_le hn
  have hbs := ibd_size T hT.ok k
  have HSL := hide (fun (j : Nat) (hj : j < 6) (W : World) => by
    have := slot_nat (ibd T k) 37 j (by decide) (by rw [hbs]; decide) (by rw [hbs]; omega) W
    rw [ibd_slot T hT.ok k j hj] at this
    exact this : ∀ j : Nat, j < 6 → ∀ W, Calls Tryz.prog 120 #[.string (ibd T k), .int .i64 ((37 : Nat) : Int), .int .i64 (j : Int)] W fun e w' => e = .returned (.tuple #[.string (slB (T (6 * k + j))), .int .i64 0]) ∧ Below W.heap.size W w')
  have X0 := hide (show TakeInv w0 w mb mo eb bm n (restr T (6 * k)) w from ⟨h, Only.refl _ _, h0⟩)
  have HQ := hide (And.intro hT (And.intro hn (And.intro hg (And.intro he hb))))
  have HFO := hide (fun W => ifirstOf_any k (by omega) W)
  have hkk : k ≤ 1000 := by omega
  clear h h0 hg he hb hbs hk hk2 hT hn
  generalize ibd T k = body at *
  go_enter Tryz.func64, Tryz.ntmps64
  go_wp2
  go_loopw [15] (fun i wr => ∃ j : Nat, j ≤ 6 ∧ i = .int .i64 (j : Int) ∧ TakeInv w0 w mb mo eb bm n (restr T (6 * k + j)) wr) (fun i _ => 6 - (intOf i).toNat)
  case atStart => exact ⟨0, by omega, rfl, unhide X0⟩
  case round =>
    obtain ⟨j, hj, rfl, hI⟩ := hrel
    obtain ⟨wo, rfl⟩ : ∃ wo, wo = wr := ⟨_, rfl⟩
    clear X0
    by_cases hjn : j < 6
    · have hjn' : (j : Int) < 6 := by omega
      obtain ⟨ee, hee⟩ : ∃ q, T (6 * k + j) = q := ⟨_, rfl⟩
      have HS1 := hide (unhide HSL j hjn)
      rw [hee] at HS1
      have hok : EnOk ee := by rw [← hee]; exact (unhide HQ).1.ok _
      have HI := hide hI
      have HEE := hide hee
      have HEL := hide (enC_len ee hok)
      have HE1 := hide (ent_all ee)
      have HOK := hide hok
      clear hI hee hok
      go_wp2_with fail
      refine (unhide HS1 _).mono ?_
      rintro e y1 ⟨rfl, hb1⟩
      have hI1 := (unhide HI).below hb1
      have HI1 := hide hI1
      have HEN := hide (entryOf_any rep_ok ee (unhide HOK) y1 ((unhide HQ).2.2.1.below hI1.2.2 (unhide HQ).2.2.1.lt))
      clear hb1 hI1 HI HS1
      go_wp2_with fail
      refine (unhide HEN).mono ?_
      rintro e y2 ⟨rfl, hb2⟩
      have hI2 := (unhide HI1).below hb2
      obtain ⟨g, hgg⟩ : ∃ q, y2.heap.size = q := ⟨_, rfl⟩
      obtain ⟨y3, hy3⟩ : ∃ q, (y2.alloc (.cells #[.int .u8 0, .int .u8 0, .int .u8 0, .int .u8 0, .int .u8 0, .int .u8 0, .int .u8 0, .int .u8 0, .int .u8 0, .int .u8 0, .int .u8 0, .int .u8 0, .int .u8 0, .int .u8 0, .int .u8 0, .int .u8 0, .int .u8 0, .int .u8 0, .int .u8 0, .int .u8 0, .int .u8 0, .int .u8 0, .int .u8 0, .int .u8 0, .int .u8 0, .int .u8 0, .int .u8 0, .int .u8 0, .int .u8 0, .int .u8 0, .int .u8 0, .int .u8 0, .int .i64 0] 157)).setCells g 0 (enC ee) = q := ⟨_, rfl⟩
      have BZ : Blk (y2.alloc (.cells #[.int .u8 0, .int .u8 0, .int .u8 0, .int .u8 0, .int .u8 0, .int .u8 0, .int .u8 0, .int .u8 0, .int .u8 0, .int .u8 0, .int .u8 0, .int .u8 0, .int .u8 0, .int .u8 0, .int .u8 0, .int .u8 0, .int .u8 0, .int .u8 0, .int .u8 0, .int .u8 0, .int .u8 0, .int .u8 0, .int .u8 0, .int .u8 0, .int .u8 0, .int .u8 0, .int .u8 0, .int .u8 0, .int .u8 0, .int .u8 0, .int .u8 0, .int .u8 0, .int .i64 0] 157)) g #[.int .u8 0, .int .u8 0, .int .u8 0, .int .u8 0, .int .u8 0, .int .u8 0, .int .u8 0, .int .u8 0, .int .u8 0, .int .u8 0, .int .u8 0, .int .u8 0, .int .u8 0, .int .u8 0, .int .u8 0, .int .u8 0, .int .u8 0, .int .u8 0, .int .u8 0, .int .u8 0, .int .u8 0, .int .u8 0, .int .u8 0, .int .u8 0, .int .u8 0, .int .u8 0, .int .u8 0, .int .u8 0, .int .u8 0, .int .u8 0, .int .u8 0, .int .u8 0, .int .i64 0] 157 := by rw [← hgg]; exact Blk.new y2 _ _
      have HTZ := hide (blk_there BZ 33 rfl)
      have B3 : Blk y3 g (enC ee).toArray 157 := by
        rw [← hy3]
        have := setCells_blk (enC ee) [] [] BZ (#[.int .u8 0, .int .u8 0, .int .u8 0, .int .u8 0, .int .u8 0, .int .u8 0, .int .u8 0, .int .u8 0, .int .u8 0, .int .u8 0, .int .u8 0, .int .u8 0, .int .u8 0, .int .u8 0, .int .u8 0, .int .u8 0, .int .u8 0, .int .u8 0, .int .u8 0, .int .u8 0, .int .u8 0, .int .u8 0, .int .u8 0, .int .u8 0, .int .u8 0, .int .u8 0, .int .u8 0, .int .u8 0, .int .u8 0, .int .u8 0, .int .u8 0, .int .u8 0, .int .i64 0] : Array Value).toList (by rw [unhide HEL]; rfl) (by simp)
        simpa using this
      have hb3 : Below y2.heap.size y2 y3 := by rw [← hy3, hgg]; exact below_setCells (Nat.le_refl _) _ _ ((Below.refl _ _).alloc (by omega) _)
      have hI3 := hI2.below hb3
      have hgl : mb < g ∧ eb < g ∧ bm < g := ⟨by rw [← hgg]; exact hI2.1.lt, by rw [← hgg]; exact hI2.1.er.lt, by rw [← hgg]; exact hI2.1.pm.lt⟩
      have R3 := (blk_ent (enD_size _ (unhide HOK)) B3).2.1
      have HR3 := hide R3
      have HN := hide (isNone_any (enD ee) (enD_size _ (unhide HOK)) (enT ee : Int) y3)
      have X3 := hide (And.intro B3 (And.intro hI3 hgl))
      have HY3 := hide hy3
      have HGG := hide hgg
      clear hb2 hI2 BZ B3 hb3 hI3 hgl R3 HEN HI1 hy3
      rw [show (enC ee) = eC (enD ee) (enT ee : Int) from rfl] at HY3
      go_wp2_with (first | refine wpList_store_mid rfl 157 (.tmp 10) (.tmp 27) rfl g 0 (enC ee).toArray (by rw [← unhide HGG]; rfl) rfl (by rw [List.size_toArray, unhide HEL]; exact unhide HTZ) (by rw [sizeEnt, List.size_toArray, unhide HEL]) (unhide HE1) ?_ | refine wpList_load_mid rfl 157 (.tmp 10) rfl g 0 (by rw [← unhide HGG]; rfl) (enC ee) _ (by rw [← unhide HY3] at HR3; exact unhide HR3) Tryz.underlying157 rfl (by rw [sizeEnt]; exact congrArg some (unhide HEL).symm) ?_)
      refine Calls.mono (show Calls Tryz.prog 93 _ _ _ from by rw [← unhide HY3] at HN; exact unhide HN) ?_
      rintro e y4 ⟨rfl, hb4⟩
      have hb4' : Below y3.heap.size y3 y4 := by rw [← unhide HY3]; exact hb4
      have hB3l := (unhide X3).1.lt
      have B4 : Blk y4 g (enC ee).toArray 157 := (unhide X3).1.below hb4' hB3l
      have hI4 := (unhide X3).2.1.below hb4'
      have hgl := (unhide X3).2.2
      have X4 := hide (And.intro B4 (And.intro hI4 hgl))
      clear hb4 hb4' hB3l B4 hI4 hgl X3 HN HR3 HTZ HY3
      by_cases hnn : ee = none
      · have hz : (((enT ee : Nat) : Int) == 0) = true := by rw [hnn]; rfl
        have HNN := hide hnn
        rw [hz]
        clear hnn hz
        generalize slB ee = sb
        generalize (enC ee).toArray = xs
        go_wp2
        go_roundw
        case rel => exact ⟨j + 1, by omega, by go_num, by rw [← Nat.add_assoc, ← restr_none T (6 * k + j) ((unhide HEE).trans (unhide HNN))]; exact (unhide X4).2.1⟩
        case measure => simp [intOf]; omega
      · obtain ⟨⟨d, c⟩, hdc⟩ : ∃ q, ee = some q := Option.ne_none_iff_exists'.1 hnn
        subst hdc
        obtain ⟨hd, hc1, hc2⟩ := unhide HOK d c rfl
        have hz : (((enT (some (d, c)) : Nat) : Int) == 0) = false := by simp [enT]; omega
        rw [hz]
        have hlt : 6 * k + j < n := (unhide HQ).1.lt (unhide HEE)
        have hn := (unhide HQ).2.1
        have e1 : ((6 * k : Nat) : Int) + (j : Int) = ((6 * k + j : Nat) : Int) := by omega
        have q6 : 6 * k < 100000 := by omega
        have K4 := (blk_ent hd (unhide X4).1).2.2.2
        have HK4 := hide K4
        have HKL := hide (kC_len d hd)
        have hmiss : ∀ i c', restr T (6 * k + j) i ≠ some (d, c') := fun i c' q => by
          unfold restr at q
          split at q
          · rename_i hi
            have := (unhide HQ).1.one i (6 * k + j) d c' c q (unhide HEE)
            omega
          · cases q
        have HFI := hide (ifind_gen (unhide X4).2.1.1 d hd 0 false (fun W hW => hW.miss hd hmiss))
        have HMI := hide hmiss
        have HLT := hide (And.intro hlt (And.intro hn (And.intro hd (And.intro hc1 hc2))))
        clear hnn hz K4 hmiss hlt hn hd hc1 hc2
        obtain ⟨pl, hpl⟩ : ∃ q, 6 * k + j = q := ⟨_, rfl⟩
        obtain ⟨f6, hf6⟩ : ∃ q, 6 * k = q := ⟨_, rfl⟩
        have HFO' := hide (unhide HFO)
        rw [hf6] at HFO' e1 q6
        have HPL := hide hpl
        rw [← hf6] at e1
        rw [hpl] at e1
        have hpq : pl < 100000 := by omega
        rw [hf6] at e1
        clear hpl hf6
        go_wp2_with (first | (go_at_call 122; refine (unhide HFO' _).mono ?_; rintro e w' ⟨rfl, hw'⟩; subst w') | refine wpList_load_mid rfl 154 (.tmp 39) rfl g 0 (by rfl) _ _ (unhide HK4) Tryz.underlying154 rfl (by rw [sizeKey, unhide HKL]) ?_)
        refine (unhide HFI).mono ?_
        rintro e y5 ⟨rfl, hb5⟩
        have hI5 := (unhide X4).2.1.below hb5
        have B5 : Blk y5 g (enC (some (d, c))).toArray 157 := (unhide X4).1.below hb5 (unhide X4).1.lt
        have HR5 := hide (blk_ent (unhide HLT).2.2.1 B5).2.1
        have HHA := hide (ihas_any hI5.1 (pl : Int))
        rw [decide_eq_true (show (0 : Int) ≤ (pl : Int) by omega), decide_eq_true (show (pl : Int) < (n : Int) by have := (unhide HLT).1; rw [unhide HPL] at this; omega)] at HHA
        have HSE := hide (show Calls Tryz.prog 123 #[.pointer (some ⟨mb, mo, none⟩), .int .i64 (pl : Int), .agg (enC (some (d, c))).toArray] y5 fun ev w' => ev = .returned (.tuple #[]) ∧ SetPost mb mo eb bm n (restr T (pl + 1)) y5 w' from by
          have hp := unhide HPL
          subst hp
          have := iset_any hI5.1 (restr_ok (unhide HQ).1 _) (unhide HLT).2.1 (6 * k + j) (unhide HLT).1 (some (d, c)) (unhide HOK) (fun d' c' e j' c'' hj' => by
            obtain ⟨rfl, rfl⟩ : d = d' ∧ c = c' := by simpa using e
            exact absurd hj' (unhide HMI j' c''))
          rw [← unhide HEE, restr_step, unhide HEE] at this
          exact this)
        have HI5 := hide hI5
        clear hb5 hI5 B5 HFI HK4 X4
        generalize slB (some (d, c)) = sb
        go_wp2_with (first | (go_at_call 86; refine (unhide HHA).mono ?_; rintro e w' ⟨rfl, hw'⟩; subst w') | refine wpList_load_mid rfl 157 (.tmp 10) rfl g 0 (by rfl) (enC (some (d, c))) _ (unhide HR5) Tryz.underlying157 rfl (by rw [sizeEnt]; exact congrArg some (unhide HEL).symm) ?_)
        refine (unhide HSE).mono ?_
        rintro e y6 ⟨rfl, hs6⟩
        have HI6 := hide ((unhide HI5).set (unhide HQ).2.2.2.1 (unhide HQ).2.2.2.2 hs6)
        clear hs6 HSE HI5 HHA HR5
        generalize (enC (some (d, c))).toArray = xs
        go_wp2
        go_roundw
        case rel => exact ⟨j + 1, by omega, by go_num, by rw [← Nat.add_assoc, unhide HPL]; exact unhide HI6⟩
        case measure => simp [intOf]; omega
    · have hjn' : ¬ (j : Int) < 6 := by omega
      have hj6 : j = 6 := by omega
      have HI := hide hI
      have H6 := hide hj6
      clear hI hj6
      go_wp2
      go_ret
      have := unhide HI
      rw [unhide H6] at this
      exact ⟨rfl, this⟩
end Go.Proofs.YtnfcnpolflfpfaaGreatDoor

namespace Go.Proofs.YtnfcnpolflfpfaaGreatDoor
open Go.RowKit Go.Maps Go.Sort Go.Shelf
theorem cSec_at (l : List Int) (d : Int) (M : List ByteArray) (hM : M.length = 128) (j : Nat) (hj : j < 128) : ∀ k, (cSec l d M k).getD j ByteArray.empty = (txAt (cTx l d k) (j : Int)).getD (M.getD j ByteArray.empty)
  | 0 => rfl
  | k + 1 => by
    have ih := cSec_at l d M hM j hj k
    obtain ⟨a1, a2⟩ := cK_lo l k
    rw [cSec, cTx, at_put (cTx_srt l d k)]
    by_cases h : (j : Int) = cK l k
    · have e : (cK l k).toNat = j := by omega
      rw [if_pos h, e, getD_set_same _ _ _ (by rw [cSec_len, hM]; exact hj)]
      rfl
    · rw [if_neg h, getD_set_other _ _ _ _ (by omega), ih]
/-- Sectors of noughts, up to k. -/
def zG (k : Nat) : List ByteArray := (List.range 128).map fun i => if i < k then zero256 else ⟨#[]⟩
theorem zG_len (k : Nat) : (zG k).length = 128 := by simp [zG]
theorem zG_step (k : Nat) : (zG k).set k zero256 = zG (k + 1) := by
  apply List.ext_getElem
  · simp [zG]
  · intro j a b
    simp only [zG, List.getElem_set, List.getElem_map, List.getElem_range]
    by_cases e : k = j
    · subst e; simp
    · rw [if_neg e]
      by_cases h : j < k
      · rw [if_pos h, if_pos (by omega)]
      · rw [if_neg h, if_neg (by omega)]
theorem zG_start : zG 0 = List.replicate 128 ⟨#[]⟩ := by
  refine List.eq_replicate_iff.2 ⟨zG_len 0, fun x hx => ?_⟩
  obtain ⟨j, _, rfl⟩ := List.mem_map.1 hx
  rw [if_neg (by omega)]
theorem zG_at (k : Nat) (h2 : k < 128) : (zG 128).getD k ByteArray.empty = zero256 := by
  simp [zG, List.getD_eq_getElem?_getD, h2]
/-- What the first transaction makes, as the law lays it and as the disk has it. -/
theorem was_eq (l : List Int) (n : Nat) (hn : n ≤ 16) (k : Nat) (h1 : 19 ≤ k) (h2 : k < 128) : (comL L0 1 (cTx l 0 n)).getD k ByteArray.empty = (cSec l 0 (zG 128) n).getD k ByteArray.empty := by
  rw [com_free L0 1 _ (cTx_good l 0 n hn).len k h1, tx_lay (cTx_srt l 0 n) (fun p hp => (cTx_mem l 0 n p hp).1) L0 k (by rw [L0_len]; exact h2), cSec_at l 0 _ (zG_len 128) k h2, L0_free k h1 h2, zG_at k h2]
theorem now_eq (l : List Int) (n : Nat) (O W : List ByteArray) (hO : O.length = 128) (hW : W.length = 128) (h : ∀ k, 19 ≤ k → k < 128 → O.getD k ByteArray.empty = W.getD k ByteArray.empty) (k : Nat) (h1 : 19 ≤ k) (h2 : k < 128) : (layP O (natW (cTx l 21 n))).getD k ByteArray.empty = (cSec l 21 W n).getD k ByteArray.empty := by
  rw [tx_lay (cTx_srt l 21 n) (fun p hp => (cTx_mem l 21 n p hp).1) O k (by rw [hO]; exact h2), cSec_at l 21 _ hW k h2, h k h1 h2]
theorem StA.weak {O : List ByteArray} {l : List Wr1} {I : List ByteArray} {m x : Bool} (h : StA O l (m || x) I) : StA O l m I := by
  rcases h with ⟨q, r⟩ | q
  · exact .inl ⟨q, by cases m <;> simp_all⟩
  · exact .inr q
theorem DF.less {w0 w : World} {b : Nat} {s : DSt} {X Y : Nat → Prop} (h : DF w0 w b s X) (hy : ∀ x, Y x → X x) : DF w0 w b s Y := by
  obtain ⟨v, h1, h2, h3, h4⟩ := h
  exact ⟨v, h1, h2, h3, fun x hx => h4 x (hy x hx)⟩
theorem PK.df {w0 w : World} {b jb pb : Nat} {S : PS} {X : Nat → Prop} (K : PK w0 w b jb pb S X) : DF w0 w b S.s X := by
  obtain ⟨bw, bv, ov, K⟩ := K
  exact K.jk.df.less (fun x q => .inl q)
/-- The disk beneath a pool is armed. -/
theorem armP {w0 w : World} {b jb pb : Nat} {S : PS} {X : Nat → Prop} (K : PK w0 w b jb pb S X) (n : Int) (hn : n ≤ 9223372036854775807) (hl : (armS S.s n).last = S.s.last) :
    Calls Tryz.prog 27 #[.pointer (some ⟨b, 0, none⟩), .int .i64 n] w fun e w' => e = .returned (.int .i64 (armE S.s n)) ∧ PK w0 w' b jb pb { S with s := armS S.s n } X ∧ Only (fun x => ¬ X x) w w' := by
  obtain ⟨bw, bv, ov, K⟩ := K
  refine (armK K.jk n hn).mono ?_
  rintro ev w' ⟨rfl, hJ, hO⟩
  have np : ∀ x, Pf pb bw bv ov x → ¬ ¬ (X x ∨ Pf pb bw bv ov x) := fun x q r => r (.inr q)
  refine ⟨rfl, ⟨bw, bv, ov, hJ, K.blk.only hO (np _ (.inl rfl)), K.tx.only hO (np _ (.inr (.inl rfl))), K.hn.only hO (np _ (.inr (.inr (.inl rfl)))) (fun x q => np _ (.inr (.inr (.inr q)))), K.ne, K.lo1, K.lo2, K.lo3, K.xn, K.hk, K.kp, K.t16, ?_⟩, hO.mono (fun x _ q r => q (.inl r))⟩
  show ∀ p ∈ S.tx, 19 ≤ p.1 ∧ p.1 < ((armS S.s n).last.length : Int) ∧ p.2.size = 256
  rw [hl]
  exact K.tok
/-- A pool's commit on a disk that may die. -/
theorem commitP_at {S : PS} {O : List ByteArray} {A : List (Nat × Nat)} {f : Nat} (hs : S.s = ⟨O, O, [], A, (f : Int), false⟩) (hnx : S.nx = 2) (hjl : S.jl = false) (hlost : S.lost = false) (ho : S.op = true) (hO : StO O O) (hl : GoodL S.tx) (hf : f ≤ 1000000) :
    ∃ e s', commitPE S = e ∧ (commitPS S).s = s' ∧ (e = 0 ∨ e = 2) ∧ s'.pend.length ≤ 16 ∧ s'.acts.length ≤ A.length + 38 ∧ Crashed (StA O S.tx (decide (e = 0))) s' := by
  obtain ⟨e, s', nx, lost, hc, he, h1, h2, h3⟩ := commit_at hO hl A f hf
  have hc' : commitR S.s S.nx S.jl S.tx = ⟨e, s', nx, lost⟩ := by rw [hs, hnx, hjl]; exact hc
  refine ⟨e, s', ?_, ?_, he, h1, h2, h3⟩
  · unfold commitPE
    rw [ho, hlost, hc']
    rfl
  · unfold commitPS
    rw [ho, hlost, if_neg (by decide), if_neg (by decide)]
    split
    · show (commitR S.s S.nx S.jl S.tx).s = s'
      rw [hc']
    · show (commitR S.s S.nx S.jl S.tx).s = s'
      rw [hc']
/-- Pools over a disk that may die. -/
theorem popenF {w0 w : World} {b : Nat} {O I : List ByteArray} {l : List Wr1} {must : Bool} {A : List (Nat × Nat)} {f : Nat} {X : Nat → Prop} (h : DF w0 w b ⟨I, I, [], A, (f : Int), false⟩ X) (hg : ETy w) (h2 : f ≤ 1000000) (hA : StA O l must I) (hl : GoodL l) (hO : O.length = 128) (ha : A.length ≤ 1000000) (keep : Nat) (hk : keep ≤ 64) :
    Calls Tryz.prog 25 #[.pointer (some ⟨b, 0, none⟩), .int .i64 (keep : Int)] w fun e w' => ∃ pp er s', e = .returned (.tuple #[.pointer pp, .int .i64 er]) ∧ ((er = 0 ∧ ∃ pb, pp = some ⟨pb, 0, none⟩) ∨ (er = 2 ∧ pp = none ∧ 1 ≤ f)) ∧ DF w0 w' b s' X ∧ Only (fun x => ¬ X x) w w' ∧ s'.pend.length ≤ 16 ∧ s'.acts.length ≤ A.length + 19 ∧ Crashed (StA O l must) s' := by
  refine (popen_any w b keep hk (fun jp ag er w1 => ∃ s', DF w0 w1 b s' X ∧ Only (fun x => ¬ X x) w w1 ∧ (er = 0 ∨ (er = 2 ∧ 1 ≤ f)) ∧ s'.pend.length ≤ 16 ∧ s'.acts.length ≤ A.length + 19 ∧ Crashed (StA O l must) s') ((openG h hg h2 hA hl hO ha).mono (fun e w1 q => by
    obtain ⟨jp, ag, er, s', q1, q2, q3, q4, q5, q6, q7⟩ := q
    exact ⟨jp, ag, er, q1, s', q2, q3, q4, q5, q6, fun ps r1 r2 => (q7 ps r1 r2).weak⟩))).mono ?_
  rintro e w' ⟨jp, ag, er, w1, ⟨s', q2, q3, q4, q5, q6, q7⟩, ⟨r1, r2, rfl⟩ | ⟨rfl, pb, bw, bv, r2, hP⟩⟩
  · rcases q4 with q | q
    · exact absurd q r1
    · exact ⟨none, er, s', r2, .inr ⟨q.1, rfl, q.2⟩, q2, q3, q5, q6, q7⟩
  · have hb := hP.2.2.2.2.2.2.2
    exact ⟨_, 0, s', r2, .inl ⟨rfl, pb, rfl⟩, q2.below hb, q3.trans (Only.of_below (P := fun x => ¬ X x) hb) (fun _ _ q => q), q5, q6, q7⟩
/-- What the last journal is. -/
def OpY (O : List ByteArray) (l : List Wr1) (must : Bool) (w0 : World) (b : Nat) (e : Ending) (w' : World) : Prop :=
  ∃ jb ag I A n, e = .returned (.tuple #[.pointer (some ⟨jb, 0, none⟩), .bool ag, .int .i64 0]) ∧ JK w0 w' b jb (rs I A) ((n + 1) % 4294967296) false (fun _ => False) ∧ n < 4294967296 ∧ I.length = 128 ∧ (∀ t ∈ I, t.size = 256) ∧ I.getD 1 ByteArray.empty = headB n [] ∧ ((freeQ I O ∧ must = false) ∨ freeQ I (layP O (natW l)))
theorem jnew_jk {w0 w w' : World} {b : Nat} {v : DV} {s s0 : DSt} {jb nx : Nat} (h : Dk w w0.heap.size b v s0) (h0 : Below w0.heap.size w0 w) (hs : Sane s) (hN : JNew w0.heap.size b v s jb nx w w') : JK w0 w' b jb s nx false (fun _ => False) := by
  obtain ⟨v', j1, j2, j3, j4, j5, j6⟩ := hN
  exact ⟨v', j1, j2, j3, Nat.le_trans h0.size j4, DI.only h h0 j5, hs, fun x hx => hx.elim⟩
theorem openY {w0 w : World} {b : Nat} {v : DV} {O I : List ByteArray} {l : List Wr1} {must : Bool} (h : Dk w w0.heap.size b v (rs I [])) (h0 : Below w0.heap.size w0 w) (hg : ETy w) (hA : StA O l must I) (hl : GoodL l) (hO : O.length = 128) :
    Calls Tryz.prog 69 #[.pointer (some ⟨b, 0, none⟩)] w (OpY O l must w0 b) := by
  have hIl := hA.len
  have hS : Sane (rs I []) := Sane.fresh I (by omega) (by omega)
  obtain ⟨r1, r2⟩ := read_rs I [] 1 (by omega)
  rw [show ((1 : Nat) : Int) = 1 from rfl] at r1 r2
  have hsz : (I.getD 1 ByteArray.empty).size = 256 := hA.size _ (by simp [List.getD_eq_getElem?_getD, show 1 < I.length by omega])
  have hAs := hA.size
  refine (open_any w w0.heap.size b v _ h hg h0.size hS (by rw [r2, hsz]; decide) (Nat.zero_le _) (Nat.zero_le _)).mono ?_
  intro e w' hP
  rcases hP with ⟨q, _⟩ | ⟨_, n', H, ok, hn', hR, hc⟩
  · exact absurd r1 q
  · rw [r2] at hR
    have clear : ∀ n, n < 4294967296 → I.getD 1 ByteArray.empty = headB n [] → ((freeQ I O ∧ must = false) ∨ freeQ I (layP O (natW l))) → OpY O l must w0 b e w' := fun n hn hh hst => by
      rw [hh] at hR
      obtain ⟨e1, e2, e3⟩ := rhp_clear n hn _ _ _ _ hR
      have e1' : n' = n := by omega
      subst e1' e2 e3
      rcases hc with ⟨q, _⟩ | ⟨_, _, jb, ev, hN⟩ | ⟨_, q, _⟩ | ⟨_, q, _⟩
      · cases q
      · exact ⟨jb, false, I, [], n', ev, jnew_jk h h0 hS hN, hn', hIl, hAs, hh, hst⟩
      · simp at q
      · simp at q
    rcases hA with ⟨q, qm⟩ | q | q
    · exact clear 1 (by decide) q.head (.inl ⟨q.free, qm⟩)
    · rw [q.head, show (((rs I []).last.length : Nat) : Int) = 128 by show ((I.length : Nat) : Int) = 128; rw [hIl]; rfl] at hR
      obtain ⟨e1, e2, e3⟩ := rhp_set 2 (by decide) 128 _ _ _ _ (secs16 l hl) (homes_ok l hl) hR
      have e1' : n' = 2 := by omega
      subst e1' e2 e3
      have h16 := filled_len l hl.len
      have hL : redoL (rs I []) (secs (filled l)) = filled l := by
        refine List.ext_getElem (by rw [redoL_len, secs16 l hl, h16]) (fun i q1 q2 => ?_)
        have hi : i < 16 := by omega
        rw [← getD_of q1, ← getD_of q2, redoL_at _ _ i (by rw [secs16 l hl]; exact hi), secs_at _ i (by omega), (read_rs I [] (2 + i) (by omega)).2, q.recs i hi]
      have e1 := lay_rs I [] (filled l) (by rw [hIl]; exact fill_ok l hl)
      have e2 := lay_rs (layP I (natW (filled l))) ([] ++ actW (filled l) ++ [(1, 0)]) [(1, headB 2 [])] (head_ok _ (by rw [layP_len, hIl]; decide) 2 _ (by simp))
      have hrr : redoR (rs I []) 2 (secs (filled l)) = (0, rs (layP (layP I (natW (filled l))) [(1, headB 2 [])]) ([] ++ actW (filled l) ++ [(1, 0)] ++ actW [(1, headB 2 [])] ++ [(1, 0)])) := by
        rw [redoR, hL, e1, if_pos rfl]
        simp only
        rw [e2]
        rfl
      have hsn : Sane (redoR (rs I []) 2 (secs (filled l))).2 := by
        unfold redoR
        split
        · exact layR_sane _ _ (layR_sane _ _ hS)
        · exact layR_sane _ _ hS
      rw [hrr] at hc hsn
      have hN := q.done hl hO
      rcases hc with ⟨q', _⟩ | ⟨_, q', _⟩ | ⟨_, _, q', _⟩ | ⟨_, _, q', jb, ev, hJ⟩
      · cases q'
      · rw [secs16 l hl] at q'; cases q'
      · exact absurd rfl q'
      · exact ⟨jb, true, _, _, 2, ev, jnew_jk h h0 hsn hJ, by decide, hN.len, hN.size, hN.head, .inr hN.free⟩
    · exact clear 2 (by decide) q.head (.inr q.free)
/-- The last pool: it sees what the disk has. -/
theorem popenY {w0 w : World} {b : Nat} {v : DV} {O I : List ByteArray} {l : List Wr1} {must : Bool} (h : Dk w w0.heap.size b v (rs I [])) (h0 : Below w0.heap.size w0 w) (hg : ETy w) (hA : StA O l must I) (hl : GoodL l) (hO : O.length = 128) :
    Calls Tryz.prog 25 #[.pointer (some ⟨b, 0, none⟩), .int .i64 3] w fun e w' => ∃ jb pb S I' A' n, e = .returned (.tuple #[.pointer (some ⟨pb, 0, none⟩), .int .i64 0]) ∧ PK w0 w' b jb pb S (fun _ => False) ∧ Seen S I' A' n I' I' ∧ ((freeQ I' O ∧ must = false) ∨ freeQ I' (layP O (natW l))) := by
  refine (popen_any w b 3 (by decide) (fun jp ag er w1 => er = 0 ∧ ∃ jb I A n, jp = some ⟨jb, 0, none⟩ ∧ JK w0 w1 b jb (rs I A) ((n + 1) % 4294967296) false (fun _ => False) ∧ n < 4294967296 ∧ I.length = 128 ∧ (∀ t ∈ I, t.size = 256) ∧ I.getD 1 ByteArray.empty = headB n [] ∧ ((freeQ I O ∧ must = false) ∨ freeQ I (layP O (natW l)))) ((openY h h0 hg hA hl hO).mono (fun e w1 q => by
    obtain ⟨jb, ag, I', A', n, q1, q2⟩ := q
    exact ⟨_, ag, 0, q1, rfl, jb, I', A', n, rfl, q2⟩))).mono ?_
  rintro e w' ⟨jp, ag, er, w1, ⟨rfl, jb, I', A', n, rfl, q1, q2, q3, q4, q5, q6⟩, r | ⟨_, pb, bw, bv, rfl, hP⟩⟩
  · exact absurd rfl r.1
  · exact ⟨jb, pb, restP I' A' ((n + 1) % 4294967296) 3, I', A', n, rfl, POk.pk q1 (by decide) hP, ⟨⟨rfl, rfl, rfl, rfl⟩, q3, q4, q5, q2, fun k _ _ => rfl, q3, q3, fun k _ _ => rfl, fun _ => rfl, fun p hp => by cases hp⟩, q6⟩
end Go.Proofs.YtnfcnpolflfpfaaGreatDoor
