import Derived.Test.YtdpnbemagiekoaaGreatDoorMe27
set_option maxHeartbeats 2000000
set_option maxRecDepth 100000
namespace Go.Proofs.YtdpnbemagiekoaaGreatDoor
section
open Go.RowKit Go.Maps
def zBF (T : Nat -> En) (m : Nat) : Nat -> En := fun i => if i < m then T i else none
theorem zMS {n : Nat} {T : Nat -> En} (h : TOk n T) (m : Nat) : TOk n (zBF T m) := by
 refine ⟨fun i => ?_, fun i hi => ?_, fun i j d c c' hi hj => ?_⟩
 ·unfold zBF
  split
  ·exact h.ok i
  ·exact fun _ _ h => by cases h
 ·unfold zBF
  split
  ·exact h.out i hi
  ·rfl
 ·unfold zBF at hi hj
  split at hi
  ·split at hj
   ·exact h.one i j d c c' hi hj
   ·cases hj
  ·cases hi
theorem zFa (T : Nat -> En) (m : Nat) : upd (zBF T m) m (T m) = zBF T (m + 1) := by
 funext i
 unfold upd zBF
 by_cases e : i = m
 ·subst e; rw [if_pos rfl, if_pos (by omega)]
 ·rw [if_neg e]
  by_cases q : i < m
  ·rw [if_pos q, if_pos (by omega)]
  ·rw [if_neg q, if_neg (by omega)]
theorem zJI (T : Nat -> En) (m : Nat) (h : T m = none) : zBF T m = zBF T (m + 1) := by
 rw [<- zFa, zFW _ _ _ (by unfold zBF; rw [if_neg (by omega), h])]
theorem zLf {n : Nat} {T : Nat -> En} (h : TOk n T) (m : Nat) (hm : n <= m) : zBF T m = T := by
 funext i
 unfold zBF
 split
 ·rfl
 ·exact (h.out i (by omega)).symm
theorem zFg (T : Nat -> En) : zBF T 0 = fun _ => none := by
 funext i
 unfold zBF
 rw [if_neg (by omega)]
def TakeInv (w0 w : World) (mb mo eb bm n : Nat) (T : Nat -> En) (wr : World) : Prop := MM wr mb mo eb bm n T /\ Only (fun x => x = eb ∨ x = bm) w wr /\ Below w0.heap.size w0 wr
theorem TakeInv.below {w0 w : World} {mb mo eb bm n : Nat} {T : Nat -> En} {wr w' : World} (h : TakeInv w0 w mb mo eb bm n T wr) (hb : Below wr.heap.size wr w') : TakeInv w0 w mb mo eb bm n T w' :=
 ⟨h.1.below hb, h.2.1.trans (Only.of_below (P := fun x => x = eb ∨ x = bm) hb) (fun _ _ q => q), h.2.2.trans (hb.mono h.2.2.size)⟩
theorem TakeInv.set {w0 w : World} {mb mo eb bm n : Nat} {T U : Nat -> En} {wr w' : World} (h : TakeInv w0 w mb mo eb bm n T wr) (h1 : w0.heap.size <= eb) (h2 : w0.heap.size <= bm) (hs : zBI mb mo eb bm n U wr w') : TakeInv w0 w mb mo eb bm n U w' :=
 ⟨hs.1, h.2.1.trans hs.2 (fun _ _ q => q), h.2.2.trans (hs.2.below h.2.2.size (fun k hk q => by omega))⟩
theorem zJV {w0 w : World} {mb mo eb bm n : Nat} {T : Nat -> En} (hT : TOk n T) (hn : n <= 1024) (k : Nat) (hk : k < ipgs n) (h : MM w mb mo eb bm n (zBF T (6 * k))) (hg : ETy w0) (h0 : Below w0.heap.size w0 w) (he : w0.heap.size <= eb) (hb : w0.heap.size <= bm) :
  Calls Tryz.prog 62 #[.pointer (some ⟨mb, mo, none⟩), .int .i64 (k : Int), .string (ibd T k)] w fun e w' => e = .returned (.bool true) /\ TakeInv w0 w mb mo eb bm n (zBF T (6 * k + 6)) w' := by
 have hk2 := zEt hn
 have hbs := zEd T hT.ok k
 have HSL := uB (fun (j : Nat) (hj : j < 6) (W : World) => by
  have := zM2 (ibd T k) 37 j (by decide) (by rw [hbs]; decide) (by rw [hbs]; omega) W
  rw [zMt T hT.ok k j hj] at this
  exact this : ∀ j : Nat, j < 6 -> ∀ W, Calls Tryz.prog 125 #[.string (ibd T k), .int .i64 ((37 : Nat) : Int), .int .i64 (j : Int)] W fun e w' => e = .returned (.tuple #[.string (slB (T (6 * k + j))), .int .i64 0]) /\ Below W.heap.size W w')
 have X0 := uB (show TakeInv w0 w mb mo eb bm n (zBF T (6 * k)) w from ⟨h, Only.refl _ _, h0⟩)
 have HQ := uB (And.intro hT (And.intro hn (And.intro hg (And.intro he hb))))
 have HFO := uB (fun W => zD6 k (by omega) W)
 have hkk : k <= 1000 := by omega
 clear h h0 hg he hb hbs hk hk2 hT hn
 generalize ibd T k = body at *
 go_enter Tryz.func62, Tryz.ntmps62
 go_wp2
 go_loopw [15] (fun i wr => ∃ j : Nat, j <= 6 /\ i = .int .i64 (j : Int) /\ TakeInv w0 w mb mo eb bm n (zBF T (6 * k + j)) wr) (fun i _ => 6 - (intOf i).toNat)
 case atStart => exact ⟨0, by omega, rfl, uA X0⟩
 case round =>
  obtain ⟨j, hj, rfl, hI⟩ := hrel
  obtain ⟨wo, rfl⟩ : ∃ wo, wo = wr := ⟨_, rfl⟩
  clear X0
  by_cases hjn : j < 6
  ·have hjn' : (j : Int) < 6 := by omega
   obtain ⟨ee, hee⟩ : ∃ q, T (6 * k + j) = q := ⟨_, rfl⟩
   have HS1 := uB (uA HSL j hjn)
   rw [hee] at HS1
   have hok : EnOk ee := by rw [<- hee]; exact (uA HQ).1.ok _
   have HI := uB hI
   have HEE := uB hee
   have HEL := uB (zA0 ee hok)
   have HE1 := uB (zBV ee)
   have HOK := uB hok
   clear hI hee hok
   go_wp2_with fail
   refine (uA HS1 _).mono ?_
   rintro e y1 ⟨rfl, hb1⟩
   have hI1 := (uA HI).below hb1
   have HI1 := uB hI1
   have HEN := uB (zHq zCv ee (uA HOK) y1 ((uA HQ).2.2.1.below hI1.2.2 (uA HQ).2.2.1.lt))
   clear hb1 hI1 HI HS1
   go_wp2_with fail
   refine (uA HEN).mono ?_
   rintro e y2 ⟨rfl, hb2⟩
   have hI2 := (uA HI1).below hb2
   obtain ⟨g, hgg⟩ : ∃ q, y2.heap.size = q := ⟨_, rfl⟩
   obtain ⟨y3, hy3⟩ : ∃ q, (y2.alloc (.cells #[.int .u8 0, .int .u8 0, .int .u8 0, .int .u8 0, .int .u8 0, .int .u8 0, .int .u8 0, .int .u8 0, .int .u8 0, .int .u8 0, .int .u8 0, .int .u8 0, .int .u8 0, .int .u8 0, .int .u8 0, .int .u8 0, .int .u8 0, .int .u8 0, .int .u8 0, .int .u8 0, .int .u8 0, .int .u8 0, .int .u8 0, .int .u8 0, .int .u8 0, .int .u8 0, .int .u8 0, .int .u8 0, .int .u8 0, .int .u8 0, .int .u8 0, .int .u8 0, .int .i64 0] 104)).setCells g 0 (enC ee) = q := ⟨_, rfl⟩
   have BZ : Blk (y2.alloc (.cells #[.int .u8 0, .int .u8 0, .int .u8 0, .int .u8 0, .int .u8 0, .int .u8 0, .int .u8 0, .int .u8 0, .int .u8 0, .int .u8 0, .int .u8 0, .int .u8 0, .int .u8 0, .int .u8 0, .int .u8 0, .int .u8 0, .int .u8 0, .int .u8 0, .int .u8 0, .int .u8 0, .int .u8 0, .int .u8 0, .int .u8 0, .int .u8 0, .int .u8 0, .int .u8 0, .int .u8 0, .int .u8 0, .int .u8 0, .int .u8 0, .int .u8 0, .int .u8 0, .int .i64 0] 104)) g #[.int .u8 0, .int .u8 0, .int .u8 0, .int .u8 0, .int .u8 0, .int .u8 0, .int .u8 0, .int .u8 0, .int .u8 0, .int .u8 0, .int .u8 0, .int .u8 0, .int .u8 0, .int .u8 0, .int .u8 0, .int .u8 0, .int .u8 0, .int .u8 0, .int .u8 0, .int .u8 0, .int .u8 0, .int .u8 0, .int .u8 0, .int .u8 0, .int .u8 0, .int .u8 0, .int .u8 0, .int .u8 0, .int .u8 0, .int .u8 0, .int .u8 0, .int .u8 0, .int .i64 0] 104 := by rw [<- hgg]; exact Blk.new y2 _ _
   have HTZ := uB (zAN BZ 33 rfl)
   have B3 : Blk y3 g (enC ee).toArray 104 := by
    rw [<- hy3]
    have := zAr (enC ee) [] [] BZ (#[.int .u8 0, .int .u8 0, .int .u8 0, .int .u8 0, .int .u8 0, .int .u8 0, .int .u8 0, .int .u8 0, .int .u8 0, .int .u8 0, .int .u8 0, .int .u8 0, .int .u8 0, .int .u8 0, .int .u8 0, .int .u8 0, .int .u8 0, .int .u8 0, .int .u8 0, .int .u8 0, .int .u8 0, .int .u8 0, .int .u8 0, .int .u8 0, .int .u8 0, .int .u8 0, .int .u8 0, .int .u8 0, .int .u8 0, .int .u8 0, .int .u8 0, .int .u8 0, .int .i64 0] : Array Value).toList (by rw [uA HEL]; rfl) (by simp)
    simpa using this
   have hb3 : Below y2.heap.size y2 y3 := by rw [<- hy3, hgg]; exact zAc (Nat.le_refl _) _ _ ((Below.refl _ _).alloc (by omega) _)
   have hI3 := hI2.below hb3
   have hgl : mb < g /\ eb < g /\ bm < g := ⟨by rw [<- hgg]; exact hI2.1.lt, by rw [<- hgg]; exact hI2.1.er.lt, by rw [<- hgg]; exact hI2.1.pm.lt⟩
   have R3 := (zAn (zAg _ (uA HOK)) B3).2.1
   have HR3 := uB R3
   have HN := uB (zAD (enD ee) (zAg _ (uA HOK)) (enT ee : Int) y3)
   have X3 := uB (And.intro B3 (And.intro hI3 hgl))
   have HY3 := uB hy3
   have HGG := uB hgg
   clear hb2 hI2 BZ B3 hb3 hI3 hgl R3 HEN HI1 hy3
   rw [show (enC ee) = eC (enD ee) (enT ee : Int) from rfl] at HY3
   go_wp2_with (first | refine wpList_store_mid rfl 104 (.tmp 10) (.tmp 27) rfl g 0 (enC ee).toArray (by rw [<- uA HGG]; rfl) rfl (by rw [List.size_toArray, uA HEL]; exact uA HTZ) (by rw [zAk, List.size_toArray, uA HEL]) (uA HE1) ?_ | refine wpList_load_mid rfl 104 (.tmp 10) rfl g 0 (by rw [<- uA HGG]; rfl) (enC ee) _ (by rw [<- uA HY3] at HR3; exact uA HR3) Tryz.underlying104 rfl (by rw [zAk]; exact congrArg some (uA HEL).symm) ?_)
   refine Calls.mono (show Calls Tryz.prog 127 _ _ _ from by rw [<- uA HY3] at HN; exact uA HN) ?_
   rintro e y4 ⟨rfl, hb4⟩
   have hb4' : Below y3.heap.size y3 y4 := by rw [<- uA HY3]; exact hb4
   have hB3l := (uA X3).1.lt
   have B4 : Blk y4 g (enC ee).toArray 104 := (uA X3).1.below hb4' hB3l
   have hI4 := (uA X3).2.1.below hb4'
   have hgl := (uA X3).2.2
   have X4 := uB (And.intro B4 (And.intro hI4 hgl))
   clear hb4 hb4' hB3l B4 hI4 hgl X3 HN HR3 HTZ HY3
   by_cases hnn : ee = none
   ·have hz : (((enT ee : Nat) : Int) == 0) = true := by rw [hnn]; rfl
    have HNN := uB hnn
    rw [hz]
    clear hnn hz
    generalize slB ee = sb
    generalize (enC ee).toArray = xs
    go_wp2
    go_roundw
    case rel => exact ⟨j + 1, by omega, by go_num, by rw [<- Nat.add_assoc, <- zJI T (6 * k + j) ((uA HEE).trans (uA HNN))]; exact (uA X4).2.1⟩
    case measure => simp [intOf]; omega
   ·obtain ⟨⟨d, c⟩, hdc⟩ : ∃ q, ee = some q := Option.ne_none_iff_exists'.1 hnn
    subst hdc
    obtain ⟨hd, hc1, hc2⟩ := uA HOK d c rfl
    have hz : (((enT (some (d, c)) : Nat) : Int) == 0) = false := by simp [enT]; omega
    rw [hz]
    have hlt : 6 * k + j < n := (uA HQ).1.lt (uA HEE)
    have hn := (uA HQ).2.1
    have e1 : ((6 * k : Nat) : Int) + (j : Int) = ((6 * k + j : Nat) : Int) := by omega
    have q6 : 6 * k < 100000 := by omega
    have K4 := (zAn hd (uA X4).1).2.2.2
    have HK4 := uB K4
    have HKL := uB (zBm d hd)
    have hmiss : ∀ i c', zBF T (6 * k + j) i ≠ some (d, c') := fun i c' q => by
     unfold zBF at q
     split at q
     ·rename_i hi
      have := (uA HQ).1.one i (6 * k + j) d c' c q (uA HEE)
      omega
     ·cases q
    have HFI := uB (zBX (uA X4).2.1.1 d hd 0 false (fun W hW => hW.miss hd hmiss))
    have HMI := uB hmiss
    have HLT := uB (And.intro hlt (And.intro hn (And.intro hd (And.intro hc1 hc2))))
    clear hnn hz K4 hmiss hlt hn hd hc1 hc2
    obtain ⟨pl, hpl⟩ : ∃ q, 6 * k + j = q := ⟨_, rfl⟩
    obtain ⟨f6, hf6⟩ : ∃ q, 6 * k = q := ⟨_, rfl⟩
    have HFO' := uB (uA HFO)
    rw [hf6] at HFO' e1 q6
    have HPL := uB hpl
    rw [<- hf6] at e1
    rw [hpl] at e1
    have hpq : pl < 100000 := by omega
    rw [hf6] at e1
    clear hpl hf6
    go_wp2_with (first | (go_at_call 108; refine (uA HFO' _).mono ?_; rintro e w' ⟨rfl, hw'⟩; subst w') | refine wpList_load_mid rfl 99 (.tmp 39) rfl g 0 (by rfl) _ _ (uA HK4) Tryz.underlying99 rfl (by rw [zBp, uA HKL]) ?_)
    refine (uA HFI).mono ?_
    rintro e y5 ⟨rfl, hb5⟩
    have hI5 := (uA X4).2.1.below hb5
    have B5 : Blk y5 g (enC (some (d, c))).toArray 104 := (uA X4).1.below hb5 (uA X4).1.lt
    have HR5 := uB (zAn (uA HLT).2.2.1 B5).2.1
    have HHA := uB (zC5 hI5.1 (pl : Int))
    rw [decide_eq_true (show (0 : Int) <= (pl : Int) by omega), decide_eq_true (show (pl : Int) < (n : Int) by have := (uA HLT).1; rw [uA HPL] at this; omega)] at HHA
    have HSE := uB (show Calls Tryz.prog 110 #[.pointer (some ⟨mb, mo, none⟩), .int .i64 (pl : Int), .agg (enC (some (d, c))).toArray] y5 fun ev w' => ev = .returned (.tuple #[]) /\ zBI mb mo eb bm n (zBF T (pl + 1)) y5 w' from by
     have hp := uA HPL
     subst hp
     have := zIn hI5.1 (zMS (uA HQ).1 _) (uA HLT).2.1 (6 * k + j) (uA HLT).1 (some (d, c)) (uA HOK) (fun d' c' e j' c'' hj' => by
      obtain ⟨rfl, rfl⟩ : d = d' /\ c = c' := by simpa using e
      exact absurd hj' (uA HMI j' c''))
     rw [<- uA HEE, zFa, uA HEE] at this
     exact this)
    have HI5 := uB hI5
    clear hb5 hI5 B5 HFI HK4 X4
    generalize slB (some (d, c)) = sb
    go_wp2_with (first | (go_at_call 47; refine (uA HHA).mono ?_; rintro e w' ⟨rfl, hw'⟩; subst w') | refine wpList_load_mid rfl 104 (.tmp 10) rfl g 0 (by rfl) (enC (some (d, c))) _ (uA HR5) Tryz.underlying104 rfl (by rw [zAk]; exact congrArg some (uA HEL).symm) ?_)
    refine (uA HSE).mono ?_
    rintro e y6 ⟨rfl, hs6⟩
    have HI6 := uB ((uA HI5).set (uA HQ).2.2.2.1 (uA HQ).2.2.2.2 hs6)
    clear hs6 HSE HI5 HHA HR5
    generalize (enC (some (d, c))).toArray = xs
    go_wp2
    go_roundw
    case rel => exact ⟨j + 1, by omega, by go_num, by rw [<- Nat.add_assoc, uA HPL]; exact uA HI6⟩
    case measure => simp [intOf]; omega
  ·have hjn' : ¬ (j : Int) < 6 := by omega
   have hj6 : j = 6 := by omega
   have HI := uB hI
   have H6 := uB hj6
   clear hI hj6
   go_wp2
   go_ret
   have := uA HI
   rw [uA H6] at this
   exact ⟨rfl, this⟩
end
section
open Go.RowKit Go.Maps Go.Sort Go.Shelf
theorem DF.less {w0 w : World} {b : Nat} {s : DSt} {X Y : Nat -> Prop} (h : DF w0 w b s X) (hy : ∀ x, Y x -> X x) : DF w0 w b s Y := by
 obtain ⟨v, h1, h2, h3, h4⟩ := h
 exact ⟨v, h1, h2, h3, fun x hx => h4 x (hy x hx)⟩
theorem PK.df {w0 w : World} {b jb pb : Nat} {S : PS} {X : Nat -> Prop} (K : PK w0 w b jb pb S X) : DF w0 w b S.s X := by
 obtain ⟨bw, bv, ov, K⟩ := K
 exact K.jk.df.less (fun x q => .inl q)
theorem armP {w0 w : World} {b jb pb : Nat} {S : PS} {X : Nat -> Prop} (K : PK w0 w b jb pb S X) (n : Int) (hn : n <= 9223372036854775807) (hl : (armS S.s n).last = S.s.last) :
  Calls Tryz.prog 30 #[.pointer (some ⟨b, 0, none⟩), .int .i64 n] w fun e w' => e = .returned (.int .i64 (armE S.s n)) /\ PK w0 w' b jb pb { S with s := armS S.s n } X /\ Only (fun x => ¬ X x) w w' := by
 obtain ⟨bw, bv, ov, K⟩ := K
 refine (armK K.jk n hn).mono ?_
 rintro ev w' ⟨rfl, hJ, hO⟩
 have np : ∀ x, Pf pb bw bv ov x -> ¬ ¬ (X x ∨ Pf pb bw bv ov x) := fun x q r => r (.inr q)
 refine ⟨rfl, ⟨bw, bv, ov, hJ, K.blk.only hO (np _ (.inl rfl)), K.tx.only hO (np _ (.inr (.inl rfl))), K.hn.only hO (np _ (.inr (.inr (.inl rfl)))) (fun x q => np _ (.inr (.inr (.inr q)))), K.ne, K.lo1, K.lo2, K.lo3, K.xn, K.hk, K.kp, K.t16, ?_⟩, hO.mono (fun x _ q r => q (.inl r))⟩
 show ∀ p ∈ S.tx, 19 <= p.1 /\ p.1 < ((armS S.s n).last.length : Int) /\ p.2.size = 256
 rw [hl]
 exact K.tok
def OpY (O : List ByteArray) (l : List Wr1) (must : Bool) (w0 : World) (b : Nat) (e : Ending) (w' : World) : Prop :=
 ∃ jb ag I A n, e = .returned (.tuple #[.pointer (some ⟨jb, 0, none⟩), .bool ag, .int .i64 0]) /\ JK w0 w' b jb (rs I A) ((n + 1) % 4294967296) false (fun _ => False) /\ n < 4294967296 /\ I.length = 128 /\ (∀ t ∈ I, t.size = 256) /\ I.getD 1 ByteArray.empty = zAq n [] /\ ((zF9 I O /\ must = false) ∨ zF9 I (layP O (natW l)))
theorem zKI {w0 w w' : World} {b : Nat} {v : DV} {s s0 : DSt} {jb nx : Nat} (h : Dk w w0.heap.size b v s0) (h0 : Below w0.heap.size w0 w) (hs : Sane s) (hN : JNew w0.heap.size b v s jb nx w w') : JK w0 w' b jb s nx false (fun _ => False) := by
 obtain ⟨v', j1, j2, j3, j4, j5, j6⟩ := hN
 exact ⟨v', j1, j2, j3, Nat.le_trans h0.size j4, DI.only h h0 j5, hs, fun x hx => hx.elim⟩
end
section
open Go.RowKit Go.Maps Go.Sort Go.Shelf
structure IH (w : World) (mb pb a : Nat) : Prop where
 c0 : w.cell? ⟨mb, 0, none⟩ = some (.pointer (some ⟨pb, 0, none⟩))
 c1 : w.cell? ⟨mb, 1, none⟩ = some (.int .i64 (a : Int))
 lt : mb < w.heap.size
theorem IH.only {w w' : World} {mb pb a : Nat} {P : Nat -> Prop} (h : IH w mb pb a) (ho : Only P w w') (hp : ¬ P mb) : IH w' mb pb a := by
 have e := ho.2 mb h.lt hp
 exact ⟨by rw [World.cell?_of_block (a := ⟨mb, 0, none⟩) e]; exact h.c0, by rw [World.cell?_of_block (a := ⟨mb, 1, none⟩) e]; exact h.c1, Nat.lt_of_lt_of_le h.lt ho.size⟩
theorem IH.below {w w' : World} {mb pb a : Nat} (h : IH w mb pb a) (hb : Below w.heap.size w w') : IH w' mb pb a := h.only (Only.of_below (P := fun _ => False) hb) (fun q => q)
def irdE (S : PS) (i k : Nat) : Int := if (zAx S (i : Int)).2.1 = 0 then (if ibOk (zAx S (i : Int)).1 k then 0 else 83) else (zAx S (i : Int)).2.1
def irdT (S : PS) (i k : Nat) : ByteArray := if (zAx S (i : Int)).2.1 = 0 then ibT (zAx S (i : Int)).1 k else ⟨#[]⟩
theorem zKn {w0 w : World} {b jb pb mb : Nat} {S : PS} {X : Nat -> Prop} {a : Nat} (K : PK w0 w b jb pb S X) (hM : IH w mb pb a) (hX : X mb) (hg : ETy w0) (ha : a <= 1000000) (k : Nat) (hk : k <= 1000000) (hT : (zBb S.s ((a + k : Nat) : Int)).size <= maxLen) (hs : (zAx S ((a + k : Nat) : Int)).1.size <= 9223372036854775807) :
  Calls Tryz.prog 61 #[.pointer (some ⟨mb, 0, none⟩), .int .i64 (k : Int)] w fun e w' => e = .returned (.tuple #[.string (irdT S (a + k) k), .int .i64 (irdE S (a + k) k)]) /\ PK w0 w' b jb pb (zAx S ((a + k : Nat) : Int)).2.2 X /\ Only (fun x => ¬ X x) w w' := by
 have c0 := hM.c0
 have c1 := hM.c1
 have Kd : PK w0 w.drew b jb pb S X := K.below ((Below.refl _ w).drew)
 have HRD := uB (zDw Kd ((a + k : Nat) : Int) hT)
 have HMB := uB (show ∀ W, Only (fun x => ¬ X x) w.drew W -> IH W mb pb a from fun W ho => IH.only (IH.below hM ((Below.refl _ w).drew)) ho (fun q => q hX))
 have HG := uB hg
 have HE := uB (show irdE S (a + k) k = (if (zAx S ((a + k : Nat) : Int)).2.1 = 0 then (if ibOk (zAx S ((a + k : Nat) : Int)).1 k then 0 else 83) else (zAx S ((a + k : Nat) : Int)).2.1) from rfl)
 have HTT := uB (show irdT S (a + k) k = (if (zAx S ((a + k : Nat) : Int)).2.1 = 0 then ibT (zAx S ((a + k : Nat) : Int)).1 k else ⟨#[]⟩) from rfl)
 have e1 : (a : Int) + (k : Int) = ((a + k : Nat) : Int) := by omega
 have hq : a + k <= 2000000 := by omega
 have hwq : IntKind.i64.wrap ((a + k : Nat) : Int) = ((a + k : Nat) : Int) := zAB _ (by omega) (by omega)
 generalize irdE S (a + k) k = re at *
 generalize irdT S (a + k) k = rt at *
 generalize (zAx S ((a + k : Nat) : Int)).1 = t at *
 generalize (zAx S ((a + k : Nat) : Int)).2.1 = er at *
 generalize (zAx S ((a + k : Nat) : Int)).2.2 = S2 at *
 generalize a + k = ak at *
 clear hM K Kd hT hg
 go_enter Tryz.func61, Tryz.ntmps61
 go_wp2
 refine wp_region_held_drew (S := fun w' => w'.cell? ⟨mb, 0, none⟩ = some (.pointer (some ⟨pb, 0, none⟩)) /\ w'.cell? ⟨mb, 1, none⟩ = some (.int .i64 (a : Int))) (by kernel_rfl) ⟨c0, c1⟩ ?_
 intro hS
 refine yL 0 (some 11) (.pointer (some ⟨mb, 0, none⟩)) rfl (fun w hSw => by obtain ⟨q1, q2⟩ := hSw; go_simp) hS ?_
 refine yL 1 (some 12) (.pointer (some ⟨mb, 0, none⟩)) rfl (fun w hSw => by obtain ⟨q1, q2⟩ := hSw; go_simp) hS ?_
 refine yL 2 (some 13) (.pointer (some ⟨mb, 0, none⟩)) rfl (fun w hSw => by obtain ⟨q1, q2⟩ := hSw; go_simp) hS ?_
 refine yL 3 (some 14) (.pointer (some ⟨pb, 0, none⟩)) rfl (fun w hSw => by obtain ⟨q1, q2⟩ := hSw; go_simp) hS ?_
 refine yL 4 (some 15) (.pointer (some ⟨mb, 0, none⟩)) rfl (fun w hSw => by obtain ⟨q1, q2⟩ := hSw; go_simp) hS ?_
 refine yL 5 (some 16) (.pointer (some ⟨mb, 0, none⟩)) rfl (fun w hSw => by obtain ⟨q1, q2⟩ := hSw; go_simp) hS ?_
 refine yL 6 (some 17) (.pointer (some ⟨mb, 1, none⟩)) rfl (fun w hSw => by obtain ⟨q1, q2⟩ := hSw; go_simp) hS ?_
 refine yL 7 (some 18) (.int .i64 (a : Int)) rfl (fun w hSw => by obtain ⟨q1, q2⟩ := hSw; go_simp) hS ?_
 refine yL 8 (some 19) (.int .i64 (k : Int)) rfl (fun w hSw => by obtain ⟨q1, q2⟩ := hSw; go_simp) hS ?_
 refine yL 9 (some 20) (.int .i64 (ak : Int)) rfl (fun w hSw => by obtain ⟨q1, q2⟩ := hSw; go_simp) hS ?_
 refine wpAnyH_ready (rs := [10]) (by kernel_rfl) (by simp) ?_
 refine AllReadyH.cons rfl (fun K hK => ?_) AllReadyH.nil
 simp only [List.getElem_toArray, List.getElem_cons_succ, List.getElem_cons_zero]
 go_simp
 refine (uA HRD).mono ?_
 rintro e x1 ⟨rfl, K1, hO1⟩
 have hM1 := uA HMB x1 hO1
 have c0' := hM1.c0
 have c1' := hM1.c1
 have HK1 := uB (And.intro K1 (show Only (fun x => ¬ X x) w x1 from (Only.of_below (P := fun x => ¬ X x) ((Below.refl _ w).drew)).trans hO1 (fun _ _ q => q)))
 clear K1 hO1 hM1 HRD HMB
 refine hK.out _ _ ⟨c0', c1'⟩ (fun hS => ?_)
 clear hK K
 refine yL 11 (some 10) (.tuple #[.string t, .int .i64 er]) rfl (fun w hSw => by obtain ⟨q1, q2⟩ := hSw; go_simp) hS ?_
 refine yL 12 (some 22) (.string t) rfl (fun w hSw => by obtain ⟨q1, q2⟩ := hSw; go_simp) hS ?_
 refine yL 13 (some 23) (.int .i64 er) rfl (fun w hSw => by obtain ⟨q1, q2⟩ := hSw; go_simp) hS ?_
 refine yL 14 (some 6) (.string t) rfl (fun w hSw => by obtain ⟨q1, q2⟩ := hSw; go_simp) hS ?_
 refine yL 15 (some 7) (.int .i64 er) rfl (fun w hSw => by obtain ⟨q1, q2⟩ := hSw; go_simp) hS ?_
 refine wpAnyH_done (by kernel_rfl) ?_ _
 clear hS c0 c1 c0' c1'
 by_cases he : er = 0
 ·subst he
  have hG1 : ETy x1 := (uA HG).below (uA HK1).1.bel (uA HG).lt
  have HBD := uB (zHs t hs k x1 hG1)
  clear hG1 hs
  have hE := uA HE
  have hT := uA HTT
  rw [if_pos rfl] at hE hT
  by_cases hd : ibOk t k
  ·rw [if_pos hd] at hE
   rw [decide_eq_true hd] at HBD
   have HRR := uB (And.intro hE hT)
   clear hE hT HE HTT hd
   go_wp2_with (go_at_call 124; refine (uA HBD).mono ?_; rintro e x2 ⟨rfl, hb2⟩)
   go_ret2
   rw [(uA HRR).1, (uA HRR).2]
   exact ⟨rfl, (uA HK1).1.below hb2, (uA HK1).2.trans (Only.of_below (P := fun x => ¬ X x) hb2) (fun _ _ q => q)⟩
  ·rw [if_neg hd] at hE
   have hbt : ibT t k = ⟨#[]⟩ := by rw [ibT, if_neg hd]
   rw [hbt] at hT HBD
   rw [decide_eq_false hd] at HBD
   have HRR := uB (And.intro hE hT)
   clear hE hT HE HTT hd hbt
   go_wp2_with (go_at_call 124; refine (uA HBD).mono ?_; rintro e x2 ⟨rfl, hb2⟩)
   go_ret2
   rw [(uA HRR).1, (uA HRR).2]
   exact ⟨rfl, (uA HK1).1.below hb2, (uA HK1).2.trans (Only.of_below (P := fun x => ¬ X x) hb2) (fun _ _ q => q)⟩
 ·have hE := uA HE
  have hT := uA HTT
  rw [if_neg he] at hE hT
  have HRR := uB (And.intro hE hT)
  have hne : (er != 0) = true := by simpa using he
  clear hE hT HE HTT he hs
  go_wp2
  go_ret2
  rw [(uA HRR).1, (uA HRR).2]
  exact ⟨rfl, (uA HK1).1, (uA HK1).2⟩
theorem zEq {w0 w : World} {b jb pb mb : Nat} {S : PS} {X : Nat -> Prop} {a : Nat} (K : PK w0 w b jb pb S X) (hM : IH w mb pb a) (hX : X mb) :
  Calls Tryz.prog 49 #[.pointer (some ⟨mb, 0, none⟩)] w fun e w' => e = .returned (.bool S.op) /\ PK w0 w' b jb pb (chgS S) X /\ Only (fun x => ¬ X x) w w' := by
 have c0 := hM.c0
 have HBG := uB (zCC K)
 have HMB := uB (show ∀ W, Only (fun x => ¬ X x) w W -> IH W mb pb a from fun W ho => hM.only ho (fun q => q hX))
 clear K hM
 cases ho : S.op with
 | true =>
  rw [show zAU S = 60 from by simp [zAU, ho], show zAG S = S from by simp [zAG, ho]] at HBG
  have HC := uB (show chgS S = S from by simp [chgS, ho])
  clear ho
  go_enter Tryz.func49, Tryz.ntmps49
  go_wp2_with (go_at_call 11; refine (uA HBG).mono ?_; rintro e x1 ⟨rfl, K1, hO1⟩)
  go_ret
  rw [uA HC]
  exact ⟨rfl, K1, hO1⟩
 | false =>
  cases hl : S.lost with
  | true =>
   rw [show zAU S = 2 from by simp [zAU, ho, hl], show zAG S = S from by simp [zAG, ho, hl]] at HBG
   have HC := uB (show chgS S = S from by simp [chgS, ho, hl])
   clear ho hl
   go_enter Tryz.func49, Tryz.ntmps49
   go_wp2_with (go_at_call 11; refine (uA HBG).mono ?_; rintro e x1 ⟨rfl, K1, hO1⟩)
   go_ret
   rw [uA HC]
   exact ⟨rfl, K1, hO1⟩
  | false =>
   rw [show zAU S = 0 from by simp [zAU, ho, hl], show zAG S = { S with op := true } from by simp [zAG, ho, hl]] at HBG
   have HC := uB (show chgS S = endS { S with op := true } from by simp [chgS, ho, hl, endS])
   have HAE := uB (show zDk { S with op := true } = 0 /\ zDn { S with op := true } = endS { S with op := true } from by simp [zDk, zDn])
   clear ho hl
   go_enter Tryz.func49, Tryz.ntmps49
   go_wp2_with fail
   refine (uA HBG).mono ?_
   rintro e x1 ⟨rfl, K1, hO1⟩
   have c0' := (uA HMB x1 hO1).c0
   have HAB := uB (zFA K1)
   rw [(uA HAE).1, (uA HAE).2] at HAB
   have HO1 := uB hO1
   clear K1 hO1 HBG c0
   go_wp2_with fail
   refine (uA HAB).mono ?_
   rintro e x2 ⟨rfl, K2, hO2⟩
   have HK2 := uB (And.intro K2 ((uA HO1).trans hO2 (fun _ _ q => q)))
   clear K2 hO2 HAB
   go_wp2
   go_ret
   rw [uA HC]
   exact ⟨rfl, (uA HK2).1, (uA HK2).2⟩
def Ics (pb a eb bm n : Nat) : Array Value := #[.pointer (some ⟨pb, 0, none⟩), .int .i64 (a : Int), .slice (some ⟨eb, 0, none⟩) n n, .map (some bm)]
def Xf (Y : Nat -> Prop) (xb eb bm : Nat) : Nat -> Prop := fun x => Y x ∨ x = xb ∨ x = eb ∨ x = bm
structure IM (w0 w : World) (xb pb a eb bm n : Nat) (T : Nat -> En) : Prop where
 blk : Blk w xb (Ics pb a eb bm n) 96
 er : ER w eb n T
 pm : PM w bm n T
 lo : w0.heap.size <= xb /\ w0.heap.size <= eb /\ w0.heap.size <= bm
theorem IM.ih {w0 w : World} {xb pb a eb bm n : Nat} {T : Nat -> En} (h : IM w0 w xb pb a eb bm n T) : IH w xb pb a := ⟨by rw [h.blk.cell]; rfl, by rw [h.blk.cell]; rfl, h.blk.lt⟩
theorem zPe {w : World} {eb bm n : Nat} {T U : Nat -> En} (h : ER w eb n T) (k : PM w bm n U) : eb ≠ bm := by
 obtain ⟨cs, h1, _⟩ := h
 exact fun e => k.ne h1 e.symm
theorem IM.mm {w0 w : World} {xb pb a eb bm n : Nat} {T : Nat -> En} (h : IM w0 w xb pb a eb bm n T) : MM w xb 2 eb bm n T :=
 ⟨by rw [h.blk.cell]; rfl, by rw [h.blk.cell]; rfl, h.er, h.pm, fun e => h.er.ne h.blk (by decide) e.symm, fun e => h.pm.ne h.blk e.symm, zPe h.er h.pm, h.blk.lt⟩
theorem IM.only {w0 w w' : World} {xb pb a eb bm n : Nat} {T : Nat -> En} {P : Nat -> Prop} (h : IM w0 w xb pb a eb bm n T) (ho : Only P w w') (h1 : ¬ P xb) (h2 : ¬ P eb) (h3 : ¬ P bm) : IM w0 w' xb pb a eb bm n T := ⟨h.blk.only ho h1, h.er.only ho h2, h.pm.only ho h3, h.lo⟩
theorem IM.below {w0 w w' : World} {xb pb a eb bm n : Nat} {T : Nat -> En} (h : IM w0 w xb pb a eb bm n T) (hb : Below w.heap.size w w') : IM w0 w' xb pb a eb bm n T := h.only (Only.of_below (P := fun _ => False) hb) (fun q => q) (fun q => q) (fun q => q)
structure IG (w0 w : World) (b jb pb xb eb bm : Nat) (Y : Nat -> Prop) (a n : Nat) (S : PS) (L : List ByteArray) (A : List (Nat × Nat)) (hn : Nat) (Mw Mn : List ByteArray) (T U : Nat -> En) : Prop where
 pk : PK w0 w b jb pb S (Xf Y xb eb bm)
 im : IM w0 w xb pb a eb bm n U
 ny : ¬ Y xb /\ ¬ Y eb /\ ¬ Y bm
 ety : ETy w0
 seen : Seen S L A hn Mw Mn
 is : IS Mn a n T
 ok : TOk n T
 oku : TOk n U
 lo : 19 <= a
 hi : a + ipgs n <= 128
 n1 : 1 <= n
 n2 : n <= 96
theorem Tk2 (S : PS) : S.tx = S.tx /\ S.keep = S.keep := ⟨rfl, rfl⟩
def IKept (w0 w : World) (b jb pb xb eb bm : Nat) (Y : Nat -> Prop) (a n : Nat) (S : PS) (L : List ByteArray) (A : List (Nat × Nat)) (hn : Nat) (Mw Mn : List ByteArray) (T U : Nat -> En) (w' : World) : Prop :=
 ∃ S', IG w0 w' b jb pb xb eb bm Y a n S' L A hn Mw Mn T U /\ S'.op = S.op /\ (S'.tx = S.tx /\ S'.keep = S.keep) /\ Only (fun x => ¬ Xf Y xb eb bm x) w w'
theorem IG.next {w0 w : World} {b jb pb xb eb bm : Nat} {Y : Nat -> Prop} {a n : Nat} {S : PS} {L : List ByteArray} {A : List (Nat × Nat)} {hn : Nat} {Mw Mn : List ByteArray} {T U : Nat -> En} (h : IG w0 w b jb pb xb eb bm Y a n S L A hn Mw Mn T U) {w' : World} {S' : PS} {L' : List ByteArray} {A' : List (Nat × Nat)} {hn' : Nat} {Mw' Mn' : List ByteArray} {T' : Nat -> En} (K : PK w0 w' b jb pb S' (Xf Y xb eb bm)) (ho : Only (fun x => ¬ Xf Y xb eb bm x) w w') (hs : Seen S' L' A' hn' Mw' Mn') (hm : IS Mn' a n T') (hT : TOk n T') : IG w0 w' b jb pb xb eb bm Y a n S' L' A' hn' Mw' Mn' T' U :=
 ⟨K, h.im.only ho (fun q => q (.inr (.inl rfl))) (fun q => q (.inr (.inr (.inl rfl)))) (fun q => q (.inr (.inr (.inr rfl)))), h.ny, h.ety, hs, hm, hT, h.oku, h.lo, h.hi, h.n1, h.n2⟩
theorem IG.below {w0 w : World} {b jb pb xb eb bm : Nat} {Y : Nat -> Prop} {a n : Nat} {S : PS} {L : List ByteArray} {A : List (Nat × Nat)} {hn : Nat} {Mw Mn : List ByteArray} {T U : Nat -> En} (h : IG w0 w b jb pb xb eb bm Y a n S L A hn Mw Mn T U) {w' : World} (hb : Below w.heap.size w w') : IG w0 w' b jb pb xb eb bm Y a n S L A hn Mw Mn T U :=
 ⟨h.pk.below hb, h.im.below hb, h.ny, h.ety, h.seen, h.is, h.ok, h.oku, h.lo, h.hi, h.n1, h.n2⟩
theorem IG.more {w0 w : World} {b jb pb xb eb bm : Nat} {Y : Nat -> Prop} {a n : Nat} {S : PS} {L : List ByteArray} {A : List (Nat × Nat)} {hn : Nat} {Mw Mn : List ByteArray} {T U : Nat -> En} (h : IG w0 w b jb pb xb eb bm Y a n S L A hn Mw Mn T U) {w' : World} {Z : Nat -> Prop} (hb : Below w.heap.size w w') (hz : ∀ x, Z x -> Y x ∨ (w.heap.size <= x /\ x < w'.heap.size)) : IG w0 w' b jb pb xb eb bm Z a n S L A hn Mw Mn T U := by
 have h1 := h.im.blk.lt
 have h2 := h.im.er.lt
 have h3 := h.im.pm.lt
 refine ⟨h.pk.more hb (fun x hx => ?_), h.im.below hb, ⟨fun q => ?_, fun q => ?_, fun q => ?_⟩, h.ety, h.seen, h.is, h.ok, h.oku, h.lo, h.hi, h.n1, h.n2⟩
 ·rcases hx with q | q
  ·rcases hz x q with r | r
   ·exact .inl (.inl r)
   ·exact .inr r
  ·exact .inl (.inr q)
 ·rcases hz _ q with r | r
  ·exact h.ny.1 r
  ·omega
 ·rcases hz _ q with r | r
  ·exact h.ny.2.1 r
  ·omega
 ·rcases hz _ q with r | r
  ·exact h.ny.2.2 r
  ·omega
theorem IG.less {w0 w : World} {b jb pb xb eb bm : Nat} {Y : Nat -> Prop} {a n : Nat} {S : PS} {L : List ByteArray} {A : List (Nat × Nat)} {hn : Nat} {Mw Mn : List ByteArray} {T U : Nat -> En} (h : IG w0 w b jb pb xb eb bm Y a n S L A hn Mw Mn T U) {Z : Nat -> Prop} (hz : ∀ x, Z x -> Y x) : IG w0 w b jb pb xb eb bm Z a n S L A hn Mw Mn T U := h.more (Below.refl _ _) (fun x q => .inl (hz x q))
theorem IG.poke {w0 w : World} {b jb pb xb eb bm : Nat} {Y : Nat -> Prop} {a n : Nat} {S : PS} {L : List ByteArray} {A : List (Nat × Nat)} {hn : Nat} {Mw Mn : List ByteArray} {T U : Nat -> En} (h : IG w0 w b jb pb xb eb bm Y a n S L A hn Mw Mn T U) {w' : World} {Z P : Nat -> Prop} (ho : Only P w w') (hP : ∀ x, P x -> x < w.heap.size -> Y x) (hlo : ∀ x, P x -> w0.heap.size <= x) (hz : ∀ x, Z x -> Y x ∨ (w.heap.size <= x /\ x < w'.heap.size)) : IG w0 w' b jb pb xb eb bm Z a n S L A hn Mw Mn T U := by
 have h1 := h.im.blk.lt
 have h2 := h.im.er.lt
 have h3 := h.im.pm.lt
 refine ⟨h.pk.poke ho (fun x q r => .inl (hP x q r)) hlo (fun x hx => ?_), h.im.only ho (fun q => h.ny.1 (hP _ q h1)) (fun q => h.ny.2.1 (hP _ q h2)) (fun q => h.ny.2.2 (hP _ q h3)), ⟨fun q => ?_, fun q => ?_, fun q => ?_⟩, h.ety, h.seen, h.is, h.ok, h.oku, h.lo, h.hi, h.n1, h.n2⟩
 ·rcases hx with q | q
  ·rcases hz x q with r | r
   ·exact .inl (.inl r)
   ·exact .inr r
  ·exact .inl (.inr q)
 ·rcases hz _ q with r | r
  ·exact h.ny.1 r
  ·omega
 ·rcases hz _ q with r | r
  ·exact h.ny.2.1 r
  ·omega
 ·rcases hz _ q with r | r
  ·exact h.ny.2.2 r
  ·omega
theorem IG.srt {w0 w : World} {b jb pb xb eb bm : Nat} {Y : Nat -> Prop} {a n : Nat} {S : PS} {L : List ByteArray} {A : List (Nat × Nat)} {hn : Nat} {Mw Mn : List ByteArray} {T U : Nat -> En} (h : IG w0 w b jb pb xb eb bm Y a n S L A hn Mw Mn T U) : Srt S.tx := by
 obtain ⟨bw, bv, ov, K⟩ := h.pk
 exact K.tx.2
theorem zE7 {w0 w : World} {b jb pb xb : Nat} {X : Nat -> Prop} {a n : Nat} {S : PS} {L : List ByteArray} {A : List (Nat × Nat)} {hn : Nat} {Mw Mn : List ByteArray} {T : Nat -> En} (K : PK w0 w b jb pb S X) (hM : IH w xb pb a) (hX : X xb) (hg : ETy w0) (hs : Seen S L A hn Mw Mn) (hi : IS Mn a n T) (hT : TOk n T) (h19 : 19 <= a) (h128 : a + ipgs n <= 128) (k : Nat) (hk : k < ipgs n) :
  Calls Tryz.prog 61 #[.pointer (some ⟨xb, 0, none⟩), .int .i64 (k : Int)] w fun e w' => e = .returned (.tuple #[.string (ibd T k), .int .i64 0]) /\ ∃ S', PK w0 w' b jb pb S' X /\ Seen S' L A hn Mw Mn /\ S'.op = S.op /\ (S'.tx = S.tx /\ S'.keep = S.keep) /\ Only (fun x => ¬ X x) w w' := by
 have hp := hi k hk
 have hbs := zEd T hT.ok k
 obtain ⟨r1, r2, r3, r4, r5⟩ := hs.read (a + k) (by omega) (by omega)
 have hsz : (Mn.getD (a + k) ByteArray.empty).size = 256 := by rw [hp]; exact zGb k (by omega) _ hbs
 obtain ⟨q1, q2⟩ := zOg k (by omega) _ hbs
 rw [<- hp] at q1 q2
 have e1 : irdE S (a + k) k = 0 := by rw [irdE, r2, if_pos rfl, r1, if_pos q1]
 have e2 : irdT S (a + k) k = ibd T k := by rw [irdT, r2, if_pos rfl, r1, q2]
 have hc := zKn K hM hX hg (by omega) k (by omega) (zCB hs.rst (a + k) (by rw [hs.len]; omega) hs.siz) (by rw [r1, hsz]; decide)
 rw [e1, e2] at hc
 refine hc.mono ?_
 rintro e w' ⟨rfl, K', ho⟩
 exact ⟨rfl, _, K', r3, r4, ⟨r5, (zCs hs.rst (a + k) (by rw [hs.len]; omega)).2.2.2.2⟩, ho⟩
theorem IG.read {w0 w : World} {b jb pb xb eb bm : Nat} {Y : Nat -> Prop} {a n : Nat} {S : PS} {L : List ByteArray} {A : List (Nat × Nat)} {hn : Nat} {Mw Mn : List ByteArray} {T U : Nat -> En} (h : IG w0 w b jb pb xb eb bm Y a n S L A hn Mw Mn T U) (k : Nat) (hk : k < ipgs n) : Calls Tryz.prog 61 #[.pointer (some ⟨xb, 0, none⟩), .int .i64 (k : Int)] w fun e w' => e = .returned (.tuple #[.string (ibd T k), .int .i64 0]) /\ IKept w0 w b jb pb xb eb bm Y a n S L A hn Mw Mn T U w' := by
 refine (zE7 h.pk h.im.ih (.inr (.inl rfl)) h.ety h.seen h.is h.ok h.lo h.hi k hk).mono ?_
 rintro e w' ⟨rfl, S', K, hs, k1, k2, ho⟩
 exact ⟨rfl, S', h.next K ho hs h.is h.ok, k1, k2, ho⟩
theorem IG.changeable {w0 w : World} {b jb pb xb eb bm : Nat} {Y : Nat -> Prop} {a n : Nat} {S : PS} {L : List ByteArray} {A : List (Nat × Nat)} {hn : Nat} {Mw Mn : List ByteArray} {T U : Nat -> En} (h : IG w0 w b jb pb xb eb bm Y a n S L A hn Mw Mn T U) : Calls Tryz.prog 49 #[.pointer (some ⟨xb, 0, none⟩)] w fun e w' => e = .returned (.bool S.op) /\ IG w0 w' b jb pb xb eb bm Y a n S L A hn Mw Mn T U /\ Only (fun x => ¬ Xf Y xb eb bm x) w w' := by
 have hc := zEq h.pk h.im.ih (.inr (.inl rfl))
 have e : chgS S = S := by
  unfold chgS
  cases ho : S.op with
  | true => rfl
  | false =>
   have ht := h.seen.cl ho
   rw [h.seen.rst.lost]
   obtain ⟨s, nx, jl, op, tx, keep, hh, hits, mis, lost⟩ := S
   simp only at ho ht
   subst ho ht
   rfl
 rw [e] at hc
 refine hc.mono ?_
 rintro e w' ⟨rfl, K, hO⟩
 exact ⟨rfl, h.next K hO h.seen h.is h.ok, hO⟩
end
end Go.Proofs.YtdpnbemagiekoaaGreatDoor
