import Derived.Test.YtnfcnpolflfpfaaGreatDoorMr36
import Derived.Test.YtnfcnpolflfpfaaGreatDoorMr33
import Derived.Test.YtnfcnpolflfpfaaGreatDoorMr25
import Derived.Test.YtnfcnpolflfpfaaGreatDoorMr24
namespace Go.Proofs.YtnfcnpolflfpfaaGreatDoor
open Go.RowKit Go.Maps
/-- What stands below m. -/
def restr (T : Nat → En) (m : Nat) : Nat → En := fun i => if i < m then T i else none
theorem restr_ok {n : Nat} {T : Nat → En} (h : TOk n T) (m : Nat) : TOk n (restr T m) := by
  refine ⟨fun i => ?_, fun i hi => ?_, fun i j d c c' hi hj => ?_⟩
  · unfold restr
    split
    · exact h.ok i
    · exact fun _ _ h => by cases h
  · unfold restr
    split
    · exact h.out i hi
    · rfl
  · unfold restr at hi hj
    split at hi
    · split at hj
      · exact h.one i j d c c' hi hj
      · cases hj
    · cases hi
theorem restr_step (T : Nat → En) (m : Nat) : upd (restr T m) m (T m) = restr T (m + 1) := by
  funext i
  unfold upd restr
  by_cases e : i = m
  · subst e; rw [if_pos rfl, if_pos (by omega)]
  · rw [if_neg e]
    by_cases q : i < m
    · rw [if_pos q, if_pos (by omega)]
    · rw [if_neg q, if_neg (by omega)]
theorem restr_none (T : Nat → En) (m : Nat) (h : T m = none) : restr T m = restr T (m + 1) := by
  rw [← restr_step, upd_self _ _ _ (by unfold restr; rw [if_neg (by omega), h])]
theorem restr_all {n : Nat} {T : Nat → En} (h : TOk n T) (m : Nat) (hm : n ≤ m) : restr T m = T := by
  funext i
  unfold restr
  split
  · rfl
  · exact (h.out i (by omega)).symm
theorem restr_zero (T : Nat → En) : restr T 0 = fun _ => none := by
  funext i
  unfold restr
  rw [if_neg (by omega)]
/-- What take leaves. -/
def TakeInv (w0 w : World) (mb mo eb bm n : Nat) (T : Nat → En) (wr : World) : Prop := MM wr mb mo eb bm n T ∧ Only (fun x => x = eb ∨ x = bm) w wr ∧ Below w0.heap.size w0 wr
theorem TakeInv.below {w0 w : World} {mb mo eb bm n : Nat} {T : Nat → En} {wr w' : World} (h : TakeInv w0 w mb mo eb bm n T wr) (hb : Below wr.heap.size wr w') : TakeInv w0 w mb mo eb bm n T w' :=
  ⟨h.1.below hb, h.2.1.trans (Only.of_below (P := fun x => x = eb ∨ x = bm) hb) (fun _ _ q => q), h.2.2.trans (hb.mono h.2.2.size)⟩
theorem TakeInv.set {w0 w : World} {mb mo eb bm n : Nat} {T U : Nat → En} {wr w' : World} (h : TakeInv w0 w mb mo eb bm n T wr) (h1 : w0.heap.size ≤ eb) (h2 : w0.heap.size ≤ bm) (hs : SetPost mb mo eb bm n U wr w') : TakeInv w0 w mb mo eb bm n U w' :=
  ⟨hs.1, h.2.1.trans hs.2 (fun _ _ q => q), h.2.2.trans (hs.2.below h.2.2.size (fun k hk q => by omega))⟩
set_option maxRecDepth 100000 in
set_option maxHeartbeats 2000000 in
theorem itake_any {w0 w : World} {mb mo eb bm n : Nat} {T : Nat → En} (hT : TOk n T) (hn : n ≤ 1024) (k : Nat) (hk : k < ipgs n) (h : MM w mb mo eb bm n (restr T (6 * k))) (hg : ETy w0) (h0 : Below w0.heap.size w0 w) (he : w0.heap.size ≤ eb) (hb : w0.heap.size ≤ bm) :
    Calls Tryz.prog 64 #[.pointer (some ⟨mb, mo, none⟩), .int .i64 (k : Int), .string (ibd T k)] w fun e w' => e = .returned (.bool true) ∧ TakeInv w0 w mb mo eb bm n (restr T (6 * k + 6)) w' := by
  have hk2 := ipgs_le hn
  have hbs := ibd_size T hT.ok k
  have HSL := hide (fun (j : Nat) (hj : j < 6) (W : World) => by
    have := slot_nat (ibd T k) 37 j (by decide) (by rw [hbs]; decide) (by rw [hbs]; omega) W
    rw [ibd_slot T hT.ok k j hj] at this
    exact this : ∀ j : Nat, j < 6 → ∀ W, Calls Tryz.prog 120 #[.string (ibd T k), .int .i64 ((37 : Nat) : Int), .int .i64 (j : Int)] W fun e w' => e = .returned (.tuple #[.string (slB (T (6 * k + j))), .int .i64 0]) ∧ Below W.heap.size W w')
  have X0 := hide (show TakeInv w0 w mb mo eb bm n (restr T (6 * k)) w from ⟨h, Only.refl _ _, h0⟩)
  have HQ := hide (And.intro hT (And.intro hn (And.intro hg (And.intro he hb))))
  have HFO := hide (fun W => ifirstOf_any k (by omega) W)
  have hkk : k ≤ 1000 := by omega
  clear h h0 hg he hb hbs hk hk2 hT hn
  generalize ibd T k = body at *
  go_enter Tryz.func64, Tryz.ntmps64
  go_wp2
  go_loopw [15] (fun i wr => ∃ j : Nat, j ≤ 6 ∧ i = .int .i64 (j : Int) ∧ TakeInv w0 w mb mo eb bm n (restr T (6 * k + j)) wr) (fun i _ => 6 - (intOf i).toNat)
  case atStart => exact ⟨0, by omega, rfl, unhide X0⟩
  case round =>
    obtain ⟨j, hj, rfl, hI⟩ := hrel
    obtain ⟨wo, rfl⟩ : ∃ wo, wo = wr := ⟨_, rfl⟩
    clear X0
    by_cases hjn : j < 6
    · have hjn' : (j : Int) < 6 := by omega
      obtain ⟨ee, hee⟩ : ∃ q, T (6 * k + j) = q := ⟨_, rfl⟩
      have HS1 := hide (unhide HSL j hjn)
      rw [hee] at HS1
      have hok : EnOk ee := by rw [← hee]; exact (unhide HQ).1.ok _
      have HI := hide hI
      have HEE := hide hee
      have HEL := hide (enC_len ee hok)
      have HE1 := hide (ent_all ee)
      have HOK := hide hok
      clear hI hee hok
      go_wp2_with fail
      refine (unhide HS1 _).mono ?_
      rintro e y1 ⟨rfl, hb1⟩
      have hI1 := (unhide HI).below hb1
      have HI1 := hide hI1
      have HEN := hide (entryOf_any rep_ok ee (unhide HOK) y1 ((unhide HQ).2.2.1.below hI1.2.2 (unhide HQ).2.2.1.lt))
      clear hb1 hI1 HI HS1
      go_wp2_with fail
      refine (unhide HEN).mono ?_
      rintro e y2 ⟨rfl, hb2⟩
      have hI2 := (unhide HI1).below hb2
      obtain ⟨g, hgg⟩ : ∃ q, y2.heap.size = q := ⟨_, rfl⟩
      obtain ⟨y3, hy3⟩ : ∃ q, (y2.alloc (.cells #[.int .u8 0, .int .u8 0, .int .u8 0, .int .u8 0, .int .u8 0, .int .u8 0, .int .u8 0, .int .u8 0, .int .u8 0, .int .u8 0, .int .u8 0, .int .u8 0, .int .u8 0, .int .u8 0, .int .u8 0, .int .u8 0, .int .u8 0, .int .u8 0, .int .u8 0, .int .u8 0, .int .u8 0, .int .u8 0, .int .u8 0, .int .u8 0, .int .u8 0, .int .u8 0, .int .u8 0, .int .u8 0, .int .u8 0, .int .u8 0, .int .u8 0, .int .u8 0, .int .i64 0] 157)).setCells g 0 (enC ee) = q := ⟨_, rfl⟩
      have BZ : Blk (y2.alloc (.cells #[.int .u8 0, .int .u8 0, .int .u8 0, .int .u8 0, .int .u8 0, .int .u8 0, .int .u8 0, .int .u8 0, .int .u8 0, .int .u8 0, .int .u8 0, .int .u8 0, .int .u8 0, .int .u8 0, .int .u8 0, .int .u8 0, .int .u8 0, .int .u8 0, .int .u8 0, .int .u8 0, .int .u8 0, .int .u8 0, .int .u8 0, .int .u8 0, .int .u8 0, .int .u8 0, .int .u8 0, .int .u8 0, .int .u8 0, .int .u8 0, .int .u8 0, .int .u8 0, .int .i64 0] 157)) g #[.int .u8 0, .int .u8 0, .int .u8 0, .int .u8 0, .int .u8 0, .int .u8 0, .int .u8 0, .int .u8 0, .int .u8 0, .int .u8 0, .int .u8 0, .int .u8 0, .int .u8 0, .int .u8 0, .int .u8 0, .int .u8 0, .int .u8 0, .int .u8 0, .int .u8 0, .int .u8 0, .int .u8 0, .int .u8 0, .int .u8 0, .int .u8 0, .int .u8 0, .int .u8 0, .int .u8 0, .int .u8 0, .int .u8 0, .int .u8 0, .int .u8 0, .int .u8 0, .int .i64 0] 157 := by rw [← hgg]; exact Blk.new y2 _ _
      have HTZ := hide (blk_there BZ 33 rfl)
      have B3 : Blk y3 g (enC ee).toArray 157 := by
        rw [← hy3]
        have := setCells_blk (enC ee) [] [] BZ (#[.int .u8 0, .int .u8 0, .int .u8 0, .int .u8 0, .int .u8 0, .int .u8 0, .int .u8 0, .int .u8 0, .int .u8 0, .int .u8 0, .int .u8 0, .int .u8 0, .int .u8 0, .int .u8 0, .int .u8 0, .int .u8 0, .int .u8 0, .int .u8 0, .int .u8 0, .int .u8 0, .int .u8 0, .int .u8 0, .int .u8 0, .int .u8 0, .int .u8 0, .int .u8 0, .int .u8 0, .int .u8 0, .int .u8 0, .int .u8 0, .int .u8 0, .int .u8 0, .int .i64 0] : Array Value).toList (by rw [unhide HEL]; rfl) (by simp)
        simpa using this
      have hb3 : Below y2.heap.size y2 y3 := by rw [← hy3, hgg]; exact below_setCells (Nat.le_refl _) _ _ ((Below.refl _ _).alloc (by omega) _)
      have hI3 := hI2.below hb3
      have hgl : mb < g ∧ eb < g ∧ bm < g := ⟨by rw [← hgg]; exact hI2.1.lt, by rw [← hgg]; exact hI2.1.er.lt, by rw [← hgg]; exact hI2.1.pm.lt⟩
      have R3 := (blk_ent (enD_size _ (unhide HOK)) B3).2.1
      have HR3 := hide R3
      have HN := hide (isNone_any (enD ee) (enD_size _ (unhide HOK)) (enT ee : Int) y3)
      have X3 := hide (And.intro B3 (And.intro hI3 hgl))
      have HY3 := hide hy3
      have HGG := hide hgg
      clear hb2 hI2 BZ B3 hb3 hI3 hgl R3 HEN HI1 hy3
      rw [show (enC ee) = eC (enD ee) (enT ee : Int) from rfl] at HY3
      go_wp2_with (first | refine wpList_store_mid rfl 157 (.tmp 10) (.tmp 27) rfl g 0 (enC ee).toArray (by rw [← unhide HGG]; rfl) rfl (by rw [List.size_toArray, unhide HEL]; exact unhide HTZ) (by rw [sizeEnt, List.size_toArray, unhide HEL]) (unhide HE1) ?_ | refine wpList_load_mid rfl 157 (.tmp 10) rfl g 0 (by rw [← unhide HGG]; rfl) (enC ee) _ (by rw [← unhide HY3] at HR3; exact unhide HR3) Tryz.underlying157 rfl (by rw [sizeEnt]; exact congrArg some (unhide HEL).symm) ?_)
      refine Calls.mono (show Calls Tryz.prog 93 _ _ _ from by rw [← unhide HY3] at HN; exact unhide HN) ?_
      rintro e y4 ⟨rfl, hb4⟩
      have hb4' : Below y3.heap.size y3 y4 := by rw [← unhide HY3]; exact hb4
      have hB3l := (unhide X3).1.lt
      have B4 : Blk y4 g (enC ee).toArray 157 := (unhide X3).1.below hb4' hB3l
      have hI4 := (unhide X3).2.1.below hb4'
      have hgl := (unhide X3).2.2
      have X4 := hide (And.intro B4 (And.intro hI4 hgl))
      clear hb4 hb4' hB3l B4 hI4 hgl X3 HN HR3 HTZ HY3
      by_cases hnn : ee = none
      · have hz : (((enT ee : Nat) : Int) == 0) = true := by rw [hnn]; rfl
        have HNN := hide hnn
        rw [hz]
        clear hnn hz
        generalize slB ee = sb
        generalize (enC ee).toArray = xs
        go_wp2
        go_roundw
        case rel => exact ⟨j + 1, by omega, by go_num, by rw [← Nat.add_assoc, ← restr_none T (6 * k + j) ((unhide HEE).trans (unhide HNN))]; exact (unhide X4).2.1⟩
        case measure => simp [intOf]; omega
      · obtain ⟨⟨d, c⟩, hdc⟩ : ∃ q, ee = some q := Option.ne_none_iff_exists'.1 hnn
        subst hdc
        obtain ⟨hd, hc1, hc2⟩ := unhide HOK d c rfl
        have hz : (((enT (some (d, c)) : Nat) : Int) == 0) = false := by simp [enT]; omega
        rw [hz]
        have hlt : 6 * k + j < n := (unhide HQ).1.lt (unhide HEE)
        have hn := (unhide HQ).2.1
        have e1 : ((6 * k : Nat) : Int) + (j : Int) = ((6 * k + j : Nat) : Int) := by omega
        have q6 : 6 * k < 100000 := by omega
        have K4 := (blk_ent hd (unhide X4).1).2.2.2
        have HK4 := hide K4
        have HKL := hide (kC_len d hd)
        have hmiss : ∀ i c', restr T (6 * k + j) i ≠ some (d, c') := fun i c' q => by
          unfold restr at q
          split at q
          · rename_i hi
            have := (unhide HQ).1.one i (6 * k + j) d c' c q (unhide HEE)
            omega
          · cases q
        have HFI := hide (ifind_gen (unhide X4).2.1.1 d hd 0 false (fun W hW => hW.miss hd hmiss))
        have HMI := hide hmiss
        have HLT := hide (And.intro hlt (And.intro hn (And.intro hd (And.intro hc1 hc2))))
        clear hnn hz K4 hmiss hlt hn hd hc1 hc2
        obtain ⟨pl, hpl⟩ : ∃ q, 6 * k + j = q := ⟨_, rfl⟩
        obtain ⟨f6, hf6⟩ : ∃ q, 6 * k = q := ⟨_, rfl⟩
        have HFO' := hide (unhide HFO)
        rw [hf6] at HFO' e1 q6
        have HPL := hide hpl
        rw [← hf6] at e1
        rw [hpl] at e1
        have hpq : pl < 100000 := by omega
        rw [hf6] at e1
        clear hpl hf6
        go_wp2_with (first | (go_at_call 122; refine (unhide HFO' _).mono ?_; rintro e w' ⟨rfl, hw'⟩; subst w') | refine wpList_load_mid rfl 154 (.tmp 39) rfl g 0 (by rfl) _ _ (unhide HK4) Tryz.underlying154 rfl (by rw [sizeKey, unhide HKL]) ?_)
        refine (unhide HFI).mono ?_
        rintro e y5 ⟨rfl, hb5⟩
        have hI5 := (unhide X4).2.1.below hb5
        have B5 : Blk y5 g (enC (some (d, c))).toArray 157 := (unhide X4).1.below hb5 (unhide X4).1.lt
        have HR5 := hide (blk_ent (unhide HLT).2.2.1 B5).2.1
        have HHA := hide (ihas_any hI5.1 (pl : Int))
        rw [decide_eq_true (show (0 : Int) ≤ (pl : Int) by omega), decide_eq_true (show (pl : Int) < (n : Int) by have := (unhide HLT).1; rw [unhide HPL] at this; omega)] at HHA
        have HSE := hide (show Calls Tryz.prog 123 #[.pointer (some ⟨mb, mo, none⟩), .int .i64 (pl : Int), .agg (enC (some (d, c))).toArray] y5 fun ev w' => ev = .returned (.tuple #[]) ∧ SetPost mb mo eb bm n (restr T (pl + 1)) y5 w' from by
          have hp := unhide HPL
          subst hp
          have := iset_any hI5.1 (restr_ok (unhide HQ).1 _) (unhide HLT).2.1 (6 * k + j) (unhide HLT).1 (some (d, c)) (unhide HOK) (fun d' c' e j' c'' hj' => by
            obtain ⟨rfl, rfl⟩ : d = d' ∧ c = c' := by simpa using e
            exact absurd hj' (unhide HMI j' c''))
          rw [← unhide HEE, restr_step, unhide HEE] at this
          exact this)
        have HI5 := hide hI5
        clear hb5 hI5 B5 HFI HK4 X4
        generalize slB (some (d, c)) = sb
        go_wp2_with (first | (go_at_call 86; refine (unhide HHA).mono ?_; rintro e w' ⟨rfl, hw'⟩; subst w') | refine wpList_load_mid rfl 157 (.tmp 10) rfl g 0 (by rfl) (enC (some (d, c))) _ (unhide HR5) Tryz.underlying157 rfl (by rw [sizeEnt]; exact congrArg some (unhide HEL).symm) ?_)
        refine (unhide HSE).mono ?_
        rintro e y6 ⟨rfl, hs6⟩
        have HI6 := hide ((unhide HI5).set (unhide HQ).2.2.2.1 (unhide HQ).2.2.2.2 hs6)
        clear hs6 HSE HI5 HHA HR5
        generalize (enC (some (d, c))).toArray = xs
        go_wp2
        go_roundw
        case rel => exact ⟨j + 1, by omega, by go_num, by rw [← Nat.add_assoc, unhide HPL]; exact unhide HI6⟩
        case measure => simp [intOf]; omega
    · have hjn' : ¬ (j : Int) < 6 := by omega
      have hj6 : j = 6 := by omega
      have HI := hide hI
      have H6 := hide hj6
      clear hI hj6
      go_wp2
      go_ret
      have := unhide HI
      rw [unhide H6] at this
      exact ⟨rfl, this⟩
end Go.Proofs.YtnfcnpolflfpfaaGreatDoor

namespace Go.Proofs.YtnfcnpolflfpfaaGreatDoor
open Go.RowKit Go.Maps Go.Sort Go.Shelf
/-- Sectors of noughts, up to k. -/
def zG (k : Nat) : List ByteArray := (List.range 128).map fun i => if i < k then zero256 else ⟨#[]⟩
theorem DF.less {w0 w : World} {b : Nat} {s : DSt} {X Y : Nat → Prop} (h : DF w0 w b s X) (hy : ∀ x, Y x → X x) : DF w0 w b s Y := by
  obtain ⟨v, h1, h2, h3, h4⟩ := h
  exact ⟨v, h1, h2, h3, fun x hx => h4 x (hy x hx)⟩
theorem PK.df {w0 w : World} {b jb pb : Nat} {S : PS} {X : Nat → Prop} (K : PK w0 w b jb pb S X) : DF w0 w b S.s X := by
  obtain ⟨bw, bv, ov, K⟩ := K
  exact K.jk.df.less (fun x q => .inl q)
/-- The disk beneath a pool is armed. -/
theorem armP {w0 w : World} {b jb pb : Nat} {S : PS} {X : Nat → Prop} (K : PK w0 w b jb pb S X) (n : Int) (hn : n ≤ 9223372036854775807) (hl : (armS S.s n).last = S.s.last) :
    Calls Tryz.prog 27 #[.pointer (some ⟨b, 0, none⟩), .int .i64 n] w fun e w' => e = .returned (.int .i64 (armE S.s n)) ∧ PK w0 w' b jb pb { S with s := armS S.s n } X ∧ Only (fun x => ¬ X x) w w' := by
  obtain ⟨bw, bv, ov, K⟩ := K
  refine (armK K.jk n hn).mono ?_
  rintro ev w' ⟨rfl, hJ, hO⟩
  have np : ∀ x, Pf pb bw bv ov x → ¬ ¬ (X x ∨ Pf pb bw bv ov x) := fun x q r => r (.inr q)
  refine ⟨rfl, ⟨bw, bv, ov, hJ, K.blk.only hO (np _ (.inl rfl)), K.tx.only hO (np _ (.inr (.inl rfl))), K.hn.only hO (np _ (.inr (.inr (.inl rfl)))) (fun x q => np _ (.inr (.inr (.inr q)))), K.ne, K.lo1, K.lo2, K.lo3, K.xn, K.hk, K.kp, K.t16, ?_⟩, hO.mono (fun x _ q r => q (.inl r))⟩
  show ∀ p ∈ S.tx, 19 ≤ p.1 ∧ p.1 < ((armS S.s n).last.length : Int) ∧ p.2.size = 256
  rw [hl]
  exact K.tok
/-- What the last journal is. -/
def OpY (O : List ByteArray) (l : List Wr1) (must : Bool) (w0 : World) (b : Nat) (e : Ending) (w' : World) : Prop :=
  ∃ jb ag I A n, e = .returned (.tuple #[.pointer (some ⟨jb, 0, none⟩), .bool ag, .int .i64 0]) ∧ JK w0 w' b jb (rs I A) ((n + 1) % 4294967296) false (fun _ => False) ∧ n < 4294967296 ∧ I.length = 128 ∧ (∀ t ∈ I, t.size = 256) ∧ I.getD 1 ByteArray.empty = headB n [] ∧ ((freeQ I O ∧ must = false) ∨ freeQ I (layP O (natW l)))
theorem jnew_jk {w0 w w' : World} {b : Nat} {v : DV} {s s0 : DSt} {jb nx : Nat} (h : Dk w w0.heap.size b v s0) (h0 : Below w0.heap.size w0 w) (hs : Sane s) (hN : JNew w0.heap.size b v s jb nx w w') : JK w0 w' b jb s nx false (fun _ => False) := by
  obtain ⟨v', j1, j2, j3, j4, j5, j6⟩ := hN
  exact ⟨v', j1, j2, j3, Nat.le_trans h0.size j4, DI.only h h0 j5, hs, fun x hx => hx.elim⟩
end Go.Proofs.YtnfcnpolflfpfaaGreatDoor
