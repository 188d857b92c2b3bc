import Derived.Test.YtdpnbemagiekoaaGreatDoorMe24
import Derived.Deep.AppendLies
import Derived.ScopeJumps
set_option maxHeartbeats 4000000
set_option maxRecDepth 100000
namespace Go.Proofs.YtdpnbemagiekoaaGreatDoor
section
open Go.RowKit Go.Maps Go.Sort Go.Shelf
def Xv (X : Nat -> Prop) (u : Value) (x : Nat) : Prop := X x ∨ u.ownBlock = some x
def BLs (w0 w : World) (b jb pb mb : Nat) (X : Nat -> Prop) (a n : Nat) (S : PS) (L : List ByteArray) (A : List (Nat × Nat)) (hn : Nat) (Mw Mn : List ByteArray) (T : Nat -> Bool) (m : Nat) (u : Value) (wr : World) : Prop :=
 wr.ownsRow w.heap.size 3 1 u (lst T m).length ((lst T m).map (Value.int .i64)) /\ ∃ S', BG w0 wr b jb pb mb (Xv X u) a n S' L A hn Mw Mn T /\ S'.op = S.op /\ Tk S' S /\ Only (fun x => ¬ X x) w wr
theorem BLs.below {w0 w : World} {b jb pb mb : Nat} {X : Nat -> Prop} {a n : Nat} {S : PS} {L : List ByteArray} {A : List (Nat × Nat)} {hn : Nat} {Mw Mn : List ByteArray} {T : Nat -> Bool} {m : Nat} {u : Value} {wr w' : World} (h : BLs w0 w b jb pb mb X a n S L A hn Mw Mn T m u wr) (hb : Below wr.heap.size wr w') : BLs w0 w b jb pb mb X a n S L A hn Mw Mn T m u w' := by
 obtain ⟨h1, S', h2, h3, h4, h5⟩ := h
 exact ⟨zAh h1 (Only.of_below (P := fun _ => False) hb) (fun _ _ q => q), S', h2.below hb, h3, h4, h5.trans (Only.of_below (P := fun x => ¬ X x) hb) (fun _ _ q => q)⟩
theorem BLs.read {w0 w : World} {b jb pb mb : Nat} {X : Nat -> Prop} {a n : Nat} {S : PS} {L : List ByteArray} {A : List (Nat × Nat)} {hn : Nat} {Mw Mn : List ByteArray} {T : Nat -> Bool} {m : Nat} {u : Value} {wr : World} (h : BLs w0 w b jb pb mb X a n S L A hn Mw Mn T m u wr) (k : Nat) (hk : k < pgs n) : ∃ bd, Pg n T k bd (Mn.getD (a + k) ByteArray.empty) /\ Calls Tryz.prog 141 #[.pointer (some ⟨mb, 0, none⟩), .int .i64 (k : Int)] wr fun e w' => e = .returned (.tuple #[.string bd, .int .i64 0]) /\ BLs w0 w b jb pb mb X a n S L A hn Mw Mn T m u w' := by
 obtain ⟨h1, S', h2, h3, h4, h5⟩ := h
 obtain ⟨bd, hp, hc⟩ := h2.read k hk
 refine ⟨bd, hp, hc.mono ?_⟩
 rintro e w' ⟨rfl, S2, k1, k2, k3, k4⟩
 exact ⟨rfl, zAh h1 k4 (fun x hx q => q (.inr hx)), S2, k1, k2.trans h3, k3.trans h4, h5.trans k4 (fun x _ q r => q (.inl r))⟩
theorem BLs.mb {w0 w : World} {b jb pb mb : Nat} {X : Nat -> Prop} {a n : Nat} {S : PS} {L : List ByteArray} {A : List (Nat × Nat)} {hn : Nat} {Mw Mn : List ByteArray} {T : Nat -> Bool} {m : Nat} {u : Value} {wr : World} (h : BLs w0 w b jb pb mb X a n S L A hn Mw Mn T m u wr) : MB wr mb pb a n := by
 obtain ⟨h1, S', h2, h3, h4, h5⟩ := h
 exact h2.mp
theorem BLs.skip {w0 w : World} {b jb pb mb : Nat} {X : Nat -> Prop} {a n : Nat} {S : PS} {L : List ByteArray} {A : List (Nat × Nat)} {hn : Nat} {Mw Mn : List ByteArray} {T : Nat -> Bool} {m : Nat} {u : Value} {wr : World} (h : BLs w0 w b jb pb mb X a n S L A hn Mw Mn T m u wr) (ht : T m = false) : BLs w0 w b jb pb mb X a n S L A hn Mw Mn T (m + 1) u wr := by
 unfold BLs
 rw [zIf, ht]
 exact h
theorem BLs.grow {w0 w : World} {b jb pb mb : Nat} {X : Nat -> Prop} {a n : Nat} {S : PS} {L : List ByteArray} {A : List (Nat × Nat)} {hn : Nat} {Mw Mn : List ByteArray} {T : Nat -> Bool} {m : Nat} {u : Value} {wr w1 w' : World} (h : BLs w0 w b jb pb mb X a n S L A hn Mw Mn T m u wr) (ht : T m = true) (hb : Below wr.heap.size wr w1) {g len cap : Nat} (ho : w'.ownsRow w.heap.size 3 1 (.slice (some ⟨g, 0, none⟩) len cap) ((lst T m).length + 1) ((lst T m).map (Value.int .i64) ++ [.int .i64 (m : Int)])) (hg : w1.grownBy w' u.ownBlock) (hgg : u.ownBlock = some g ∨ g = w1.heap.size) (hgl : g < w'.heap.size) (hX : ∀ x, X x -> x < w.heap.size) (hw : w0.heap.size <= w.heap.size) (hxm : X mb) : BLs w0 w b jb pb mb X a n S L A hn Mw Mn T (m + 1) (.slice (some ⟨g, 0, none⟩) len cap) w' := by
 obtain ⟨h1, S', h2, h3, h4, h5⟩ := h.below hb
 have hO : Only (fun q => u.ownBlock = some q) w1 w' := (Only.refl _ _).grown hg (fun q _ e => e)
 have hlo : ∀ x, u.ownBlock = some x -> w.heap.size <= x := fun x hx => (h1.lt x hx).1
 unfold BLs
 rw [zIf, ht]
 refine ⟨by simpa using ho, S', ?_, h3, h4, h5.trans hO (fun x hx q r => by have := hlo x q; have := hX x r; omega)⟩
 refine h2.poke hO (fun x hx _ => .inr hx) (fun x hx => by have := hlo x hx; omega) (fun x hx => ?_) (.inl hxm) (fun q => by have := hlo mb q; have := hX mb hxm; omega)
 rcases hx with q | q
 ·exact .inl (.inl q)
 ·have e : g = x := by simpa [Value.ownBlock] using q
  subst e
  rcases hgg with r | r
  ·exact .inl (.inr r)
  ·exact .inr ⟨by omega, hgl⟩
theorem zLr {w0 w : World} {b jb pb mb : Nat} {X : Nat -> Prop} {a n : Nat} {S : PS} {L : List ByteArray} {A : List (Nat × Nat)} {hn : Nat} {Mw Mn : List ByteArray} {T : Nat -> Bool} (h : BG w0 w b jb pb mb X a n S L A hn Mw Mn T) : Calls Tryz.prog 143 #[.pointer (some ⟨mb, 0, none⟩)] w fun e w' => ∃ v, e = .returned (.tuple #[v, .int .i64 0]) /\ BLs w0 w b jb pb mb X a n S L A hn Mw Mn T n v w' := by
 obtain ⟨i0, hi, hz0, hz1, hz2⟩ := info_parts zIH
 have HI := uB (And.intro hi (And.intro hz0 (And.intro hz1 hz2)))
 clear hi hz0 hz1 hz2
 have c2 := h.mp.c2
 have hn2 := h.n2
 have hn1 := h.n1
 have h4 := zC8 h.n2
 have HPO := uB (fun W => zB9 n hn2 W)
 have HXX := uB (show (∀ x, X x -> x < w.heap.size) /\ w0.heap.size <= w.heap.size /\ X mb from ⟨fun x hx => h.pk.lt x hx, h.size, h.xm⟩)
 have X0 := uB (show BLs w0 w b jb pb mb X a n S L A hn Mw Mn T 0 (.slice none 0 0) w from ⟨World.ownsRow_nil _ _ _ _, S, h.less (fun x hx => by
  rcases hx with q | q
  ·exact q
  ·simp [Value.ownBlock] at q) (.inl h.xm), rfl, Tk.refl _, Only.refl _ _⟩)
 have hpg : pgs n = (n + 255) / 256 := rfl
 clear h
 obtain ⟨P0, hP0⟩ : ∃ q, pgs n = q := ⟨_, rfl⟩
 rw [hP0] at HPO h4 hpg
 have HP0 := uB hP0
 clear hP0
 go_enter Tryz.func143, Tryz.ntmps143
 go_wp2_with (go_at_call 93; refine (uA HPO _).mono ?_; rintro e w' ⟨rfl, hw'⟩; subst w')
 go_loopw [4, 15] (fun u i wr => ∃ k : Nat, k <= P0 /\ i = .int .i64 (k : Int) /\ BLs w0 w b jb pb mb X a n S L A hn Mw Mn T (min n (256 * k)) u wr) (fun _ i _ => P0 - (intOf i).toNat)
 case atStart => exact ⟨0, by omega, rfl, by rw [Nat.mul_zero, Nat.min_zero]; exact uA X0⟩
 case round =>
  obtain ⟨k, hk, rfl, hI⟩ := hrel
  obtain ⟨wo, rfl⟩ : ∃ wo, wo = wr := ⟨_, rfl⟩
  clear X0 c2
  obtain ⟨pv, cv, rfl, hcv⟩ := zAy hI.1
  by_cases hkn : k < P0
  ·have hkn' : (k : Int) < (P0 : Int) := by omega
   obtain ⟨bd, hpg', hc⟩ := hI.read k (by rw [uA HP0]; exact hkn)
   have HC := uB hc
   have hm : min n (256 * k) = 256 * k := by omega
   rw [hm] at HC ⊢
   have HPG := uB hpg'
   have hbd := hpg'.1
   clear hI hc hpg' hcv
   go_wp2_with fail
   refine (uA HC).mono ?_
   rintro e x1 ⟨rfl, hI1⟩
   have HPI := uB (zCn hI1.mb hn2 k (by rw [uA HP0]; exact hkn))
   have HI1 := uB hI1
   clear hI1 HC
   obtain ⟨pn, hpn⟩ : ∃ q, pin n k = q := ⟨_, rfl⟩
   rw [hpn] at HPI
   have hpn2 : pn <= 256 /\ 256 * k + pn <= n /\ (pn = 256 ∨ 256 * k + pn = n) := by unfold pin at hpn; omega
   clear hpn
   go_wp2_with fail
   refine (uA HPI).mono ?_
   rintro e x2 ⟨rfl, hb2⟩
   have X2 := uB ((uA HI1).below hb2)
   clear HI1 HPI hb2
   obtain ⟨lm, hlm⟩ : ∃ q, (lst T (256 * k)).length = q := ⟨_, rfl⟩
   rw [hlm] at X2 ⊢
   clear hlm
   have HFO := uB (fun W => zCc k (by omega) W)
   go_wp2
   go_loopw [4, 30] (fun u i wr => ∃ j : Nat, j <= pn /\ i = .int .i64 (j : Int) /\ BLs w0 w b jb pb mb X a n S L A hn Mw Mn T (256 * k + j) u wr) (fun _ i _ => pn - (intOf i).toNat)
   case atStart => exact ⟨0, by omega, rfl, uA X2⟩
   case round =>
    obtain ⟨j, hj, rfl, hJ⟩ := hrel
    obtain ⟨wi, rfl⟩ : ∃ wi, wi = wr := ⟨_, rfl⟩
    clear X2
    obtain ⟨pw, cw, rfl, hcw⟩ := zAy hJ.1
    by_cases hjn : j < pn
    ·have hjn' : (j : Int) < (pn : Int) := by omega
     have HTK := uB (fun W => zBn bd hbd (256 * k + j) (by omega) W)
     have hbit : bitB bd (256 * k + j) = T (256 * k + j) := (uA HPG).bit _ (by omega) (by omega)
     rw [hbit] at HTK
     have e1 : ((256 * k : Nat) : Int) + (j : Int) = ((256 * k + j : Nat) : Int) := by omega
     have hlen : (lst T (256 * k + j)).length <= 2000 := by have := zJE T (256 * k + j); omega
     have HJ := uB hJ
     have hrl : ∀ q, (Value.slice pw (lst T (256 * k + j)).length cw).ownBlock = some q -> w.heap.size <= q := fun q hq => (hJ.1.lt q hq).1
     have HRL := uB hrl
     have hws : w.heap.size <= wi.heap.size := hJ.2.elim (fun _ q => q.2.2.2.size)
     clear hJ hbit hcw hrl
     have hfm : 256 * k < 2000 := by omega
     obtain ⟨mm, hmm⟩ : ∃ q, 256 * k + j = q := ⟨_, rfl⟩
     have hmb : mm < 2000 := by omega
     rw [hmm] at HTK e1 HJ hlen HRL ⊢
     have HMM := uB hmm
     obtain ⟨fk, hfk⟩ : ∃ q, 256 * k = q := ⟨_, rfl⟩
     rw [hfk] at HFO e1 hfm
     clear hmm hfk
     go_wp2_with (go_at_call 206; refine (uA HFO _).mono ?_; rintro e w' ⟨rfl, hw'⟩; subst w')
     refine (uA HTK _).mono ?_
     rintro e y1 ⟨rfl, hb1⟩
     have HJ1 := uB ((uA HJ).below hb1)
     have hws1 : w.heap.size <= y1.heap.size := Nat.le_trans hws hb1.size
     clear hb1 HTK HJ
     cases hT : T mm with
     | true =>
      have HRA := uB (show (y1.alloc (.cells #[.int .i64 (mm : Int)] 3)).ownsRow w.heap.size 3 1 (.slice pw (lst T mm).length cw) (lst T mm).length ((lst T mm).map (Value.int .i64)) from (uA HJ1).1.alloc _)
      have HT := uB hT
      clear hT
      obtain ⟨ll, hll⟩ : ∃ q, (lst T mm).length = q := ⟨_, rfl⟩
      rw [hll] at HRA hlen ⊢
      have HLL := uB hll
      clear hll
      go_wp2_with (refine wpList_append_lies _ rfl (.tmp 40) (.tmp 42) 53 rfl w.heap.size 3 i0 (.int .i64 0) 1 8 Tryz.underlying53 (uA HI).1 (uA HI).2.1 (uA HI).2.2.1 (uA HI).2.2.2 rfl (by decide) _ ll ((lst T mm).map (Value.int .i64)) rfl (uA HRA) ⟨y1.heap.size, 0, none⟩ 1 1 [.int .i64 (mm : Int)] rfl rfl (fun q u hu => zB7 y1 3 _ q u hu) (by simp [Value.oneCell']) (by decide) (by unfold maxLen; omega) (by omega) (by simp; omega) (y1.heap.size + 1) (by simp) ?_)
      intro g5 cap5 x5 ho5 hg5 hgg hgl
      have HRR := uB (show BLs w0 w b jb pb mb X a n S L A hn Mw Mn T (mm + 1) (.slice (some ⟨g5, 0, none⟩) (ll + 1) cap5) x5 from by
       have h0 := uA HJ1
       rw [uA HLL] at h0
       refine BLs.grow h0 (uA HT) ((Below.refl _ y1).alloc (Nat.le_refl _) (.cells #[.int .i64 (mm : Int)] 3)) (by rw [uA HLL]; exact ho5) hg5 (by
        rcases hgg with q | q
        ·exact .inl q
        ·exact .inr (by rw [q]; simp)) hgl (uA HXX).1 (uA HXX).2.1 (uA HXX).2.2)
      clear ho5 hg5 hgg hgl HRA HJ1 HLL HT
      go_wp2
      go_roundw
      case rel => exact ⟨j + 1, by omega, by go_num, by rw [<- Nat.add_assoc, uA HMM]; exact uA HRR⟩
      case measure => simp [intOf]; omega
     | false =>
      have HRR := uB ((uA HJ1).skip hT)
      clear hT HJ1
      generalize (lst T mm).length = ll at *
      go_wp2
      go_roundw
      case rel => exact ⟨j + 1, by omega, by go_num, by rw [<- Nat.add_assoc, uA HMM]; exact uA HRR⟩
      case measure => simp [intOf]; omega
    ·have hje : j = pn := by omega
     have hjn' : ¬ (j : Int) < (pn : Int) := by omega
     have HRR := uB (show BLs w0 w b jb pb mb X a n S L A hn Mw Mn T (min n (256 * (k + 1))) (.slice pw (lst T (256 * k + j)).length cw) wi from by rw [show min n (256 * (k + 1)) = 256 * k + j by omega]; exact hJ)
     clear hJ hcw
     generalize (lst T (256 * k + j)).length = ll at *
     go_wp2
     go_roundw
     case rel => exact ⟨k + 1, by omega, by go_num, uA HRR⟩
     case measure => simp [intOf]; omega
  ·have hke : k = P0 := by omega
   have hkn' : ¬ (k : Int) < (P0 : Int) := by omega
   have hm : min n (256 * k) = n := by omega
   rw [hm] at hI ⊢
   have HR := uB hI
   clear hI hcv
   generalize (lst T n).length = ll at *
   go_wp2
   go_ret2
   exact ⟨_, rfl, uA HR⟩
theorem zJk {w0 w : World} {b jb pb mb : Nat} {X : Nat -> Prop} {a n : Nat} {S : PS} {L : List ByteArray} {A : List (Nat × Nat)} {hn : Nat} {Mw Mn : List ByteArray} {T : Nat -> Bool} (h : BG w0 w b jb pb mb X a n S L A hn Mw Mn T) : Calls Tryz.prog 75 #[.pointer (some ⟨mb, 0, none⟩)] w fun e w' => e = .returned (.tuple #[.int .i64 ((lst T n).length : Int), .int .i64 0]) /\ Kept w0 w b jb pb mb X a n S L A hn Mw Mn T w' := by
 have HL := uB (zLr h)
 have HX := uB h.xm
 clear h
 go_enter Tryz.func75, Tryz.ntmps75
 go_wp2_with fail
 refine (uA HL).mono ?_
 rintro e w' ⟨v, rfl, hI⟩
 obtain ⟨pv, cv, rfl, hcv⟩ := zAy hI.1
 have HI := uB hI
 clear hI hcv HL
 obtain ⟨ll, hll⟩ : ∃ q, (lst T n).length = q := ⟨_, rfl⟩
 rw [hll] at HI ⊢
 have HLL := uB hll
 clear hll
 go_wp2
 go_ret2
 obtain ⟨_, S', k1, k2, k3, k4⟩ := uA HI
 exact ⟨by rw [uA HLL]; rfl, S', k1.less (fun x q => .inl q) (uA HX), k2, k3, k4⟩
theorem zKS {w0 w : World} {b jb pb mb : Nat} {X : Nat -> Prop} {a n : Nat} {S : PS} {L : List ByteArray} {A : List (Nat × Nat)} {hn : Nat} {Mw Mn : List ByteArray} {T : Nat -> Bool} (h : BG w0 w b jb pb mb X a n S L A hn Mw Mn T) (i : Nat) (hi : i < n) : Calls Tryz.prog 76 #[.pointer (some ⟨mb, 0, none⟩), .int .i64 (i : Int)] w fun e w' => e = .returned (.tuple #[.bool (T i), .int .i64 0]) /\ Kept w0 w b jb pb mb X a n S L A hn Mw Mn T w' := by
 have hn2 := h.n2
 have HH := uB (zEe h.mp (i : Int))
 rw [decide_eq_true (show (0 : Int) <= (i : Int) by omega), decide_eq_true (show (i : Int) < (n : Int) by omega)] at HH
 obtain ⟨bd, hp, hc⟩ := h.read (i / 256) (zFx hi)
 have HP := uB (fun W => zCy i (by omega) W)
 have HC := uB hc
 have HTK := uB (fun W => zBn bd hp.1 i (by omega) W)
 rw [hp.bit i hi rfl] at HTK
 clear hc hp h
 generalize i / 256 = ik at *
 generalize T i = ti at *
 go_enter Tryz.func76, Tryz.ntmps76
 go_wp2_with (first
  | (go_at_call 144; refine (uA HH).mono ?_; rintro e w' ⟨rfl, hw'⟩; subst w')
  | (go_at_call 145; refine (uA HP _).mono ?_; rintro e w' ⟨rfl, hw'⟩; subst w'))
 refine (uA HC).mono ?_
 rintro e x1 ⟨rfl, hK⟩
 have HK := uB hK
 clear hK HC HH
 go_wp2_with (go_at_call 146; refine (uA HTK _).mono ?_; rintro e x2 ⟨rfl, hb2⟩)
 go_ret2
 obtain ⟨S', k1, k2, k3, k4⟩ := uA HK
 exact ⟨rfl, S', k1.below hb2, k2, k3, k4.trans (Only.of_below (P := fun x => ¬ X x) hb2) (fun _ _ q => q)⟩
end
section
open Go.RowKit Go.Maps Go.Sort Go.Shelf
def zID (w0 w : World) (b jb pb mb : Nat) (X : Nat -> Prop) (a n : Nat) (S : PS) (L : List ByteArray) (A : List (Nat × Nat)) (hn : Nat) (Mw : List ByteArray) (T : Nat -> Bool) (p : Nat) (w' : World) : Prop :=
 ∃ S' Mn', BG w0 w' b jb pb mb X a n S' L A hn Mw Mn' (flp T p) /\ S'.op = true /\ ((∃ t : ByteArray, t.size = 256 /\ S'.tx = zBU ((a + p / 256 : Nat) : Int) t S.tx) /\ S'.keep = S.keep) /\ Only (fun x => ¬ X x) w w'
theorem BG.turn {w0 w : World} {b jb pb mb : Nat} {X : Nat -> Prop} {a n : Nat} {S : PS} {L : List ByteArray} {A : List (Nat × Nat)} {hn : Nat} {Mw Mn : List ByteArray} {T : Nat -> Bool} (h : BG w0 w b jb pb mb X a n S L A hn Mw Mn T) (ho : S.op = true) (p : Nat) (hp : p < n) (bd : ByteArray) (hpg : Pg n T (p / 256) bd (Mn.getD (a + p / 256) ByteArray.empty)) (hr : zAQ S ((a + p / 256 : Nat) : Int) = true) :
  Calls Tryz.prog 197 #[.pointer (some ⟨mb, 0, none⟩), .string bd, .int .i64 (p : Int)] w fun e w' => e = .returned (.int .i64 0) /\ zID w0 w b jb pb mb X a n S L A hn Mw T p w' := by
 have h4 := zC8 h.n2
 have hpk := zFx hp
 have hlo := h.lo
 have hhi := h.hi
 have hn2 := h.n2
 have hc := zLc h.pk h.mp h.xm (by omega) bd hpg.1 p (by omega) (by omega)
 have hts : (pgT (p / 256) (zBW bd p)).size = 256 := zEl _ (by omega) _ (by rw [zDV]; exact hpg.1)
 obtain ⟨r1, r2, r3, r4⟩ := h.seen.write h.srt ho (a + p / 256) (by omega) (by omega) _ hts hr
 rw [r1] at hc
 refine hc.mono ?_
 rintro e w' ⟨rfl, K, hO⟩
 refine ⟨rfl, _, _, h.next K hO r2 (h.ms.turn p hp bd hpg (by rw [h.seen.ln]; exact hhi)), r3, ⟨⟨_, hts, r4⟩, (zDP h.seen.rst _ _).2.2⟩, hO⟩
theorem BG.changeable {w0 w : World} {b jb pb mb : Nat} {X : Nat -> Prop} {a n : Nat} {S : PS} {L : List ByteArray} {A : List (Nat × Nat)} {hn : Nat} {Mw Mn : List ByteArray} {T : Nat -> Bool} (h : BG w0 w b jb pb mb X a n S L A hn Mw Mn T) : Calls Tryz.prog 196 #[.pointer (some ⟨mb, 0, none⟩)] w fun e w' => e = .returned (.bool S.op) /\ BG w0 w' b jb pb mb X a n S L A hn Mw Mn T /\ Only (fun x => ¬ X x) w w' := by
 have hc := zE0 h.pk h.mp h.xm
 have e : chgS S = S := by
  unfold chgS
  cases ho : S.op with
  | true => rfl
  | false =>
   have ht := h.seen.cl ho
   rw [h.seen.rst.lost]
   obtain ⟨s, nx, jl, op, tx, keep, hh, hits, mis, lost⟩ := S
   simp only at ho ht
   subst ho ht
   rfl
 rw [e] at hc
 refine hc.mono ?_
 rintro e w' ⟨rfl, K, hO⟩
 exact ⟨rfl, h.next K hO h.seen h.ms, hO⟩
theorem zOL {w0 w : World} {b jb pb mb : Nat} {X : Nat -> Prop} {a n : Nat} {S : PS} {L : List ByteArray} {A : List (Nat × Nat)} {hn : Nat} {Mw Mn : List ByteArray} {T : Nat -> Bool} (h : BG w0 w b jb pb mb X a n S L A hn Mw Mn T) (ho : S.op = false) (i : Nat) (hi : i < n) : Calls Tryz.prog 129 #[.pointer (some ⟨mb, 0, none⟩), .int .i64 (i : Int)] w fun e w' => e = .returned (.int .i64 61) /\ Kept w0 w b jb pb mb X a n S L A hn Mw Mn T w' := by
 have HH := uB (zEe h.mp (i : Int))
 rw [decide_eq_true (show (0 : Int) <= (i : Int) by omega), decide_eq_true (show (i : Int) < (n : Int) by omega)] at HH
 have HC := uB h.changeable
 rw [ho] at HC
 clear h ho hi
 go_enter Tryz.func129, Tryz.ntmps129
 go_wp2_with (first | (go_at_call 144; refine (uA HH).mono ?_; rintro e w' ⟨rfl, hw'⟩; subst w'))
 refine (uA HC).mono ?_
 rintro e x1 ⟨rfl, h1, hO1⟩
 have H1 := uB (And.intro h1 hO1)
 clear h1 hO1 HC HH
 go_wp2
 go_ret
 exact ⟨rfl, S, (uA H1).1, rfl, Tk.refl _, (uA H1).2⟩
theorem zOK {w0 w : World} {b jb pb mb : Nat} {X : Nat -> Prop} {a n : Nat} {S : PS} {L : List ByteArray} {A : List (Nat × Nat)} {hn : Nat} {Mw Mn : List ByteArray} {T : Nat -> Bool} (h : BG w0 w b jb pb mb X a n S L A hn Mw Mn T) (ho : S.op = true) (i : Nat) (hi : i < n) (hT : T i = false) : Calls Tryz.prog 129 #[.pointer (some ⟨mb, 0, none⟩), .int .i64 (i : Int)] w fun e w' => e = .returned (.int .i64 71) /\ Kept w0 w b jb pb mb X a n S L A hn Mw Mn T w' := by
 have hn2 := h.n2
 have HH := uB (zEe h.mp (i : Int))
 rw [decide_eq_true (show (0 : Int) <= (i : Int) by omega), decide_eq_true (show (i : Int) < (n : Int) by omega)] at HH
 have HC := uB h.changeable
 rw [ho] at HC
 have HPO := uB (fun W => zCy i (by omega) W)
 have HPL := uB (zFx hi)
 have HIB := uB (show i < 1000000 by omega)
 obtain ⟨ik, hik⟩ : ∃ q, i / 256 = q := ⟨_, rfl⟩
 rw [hik] at HPO HPL
 have HIK := uB hik
 clear h ho hik
 go_enter Tryz.func129, Tryz.ntmps129
 go_wp2_with (first | (go_at_call 144; refine (uA HH).mono ?_; rintro e w' ⟨rfl, hw'⟩; subst w'))
 refine (uA HC).mono ?_
 rintro e x1 ⟨rfl, h1, hO1⟩
 obtain ⟨bd, hpg, hrd⟩ := h1.read ik (uA HPL)
 have HR := uB hrd
 have HTK := uB (fun W => zBn bd hpg.1 i (uA HIB) W)
 rw [hpg.bit i hi (uA HIK), hT] at HTK
 have HO1 := uB hO1
 clear hrd hpg h1 hO1 HC HH
 go_wp2_with (first | (go_at_call 145; refine (uA HPO _).mono ?_; rintro e w' ⟨rfl, hw'⟩; subst w'))
 refine (uA HR).mono ?_
 rintro e x2 ⟨rfl, hK⟩
 have HK := uB hK
 clear hK HR
 go_wp2_with (go_at_call 146; refine (uA HTK _).mono ?_; rintro e x3 ⟨rfl, hb3⟩)
 go_ret
 obtain ⟨S', k1, k2, k3, k4⟩ := uA HK
 exact ⟨rfl, S', k1.below hb3, k2, k3, ((uA HO1).trans k4 (fun _ _ q => q)).trans (Only.of_below (P := fun x => ¬ X x) hb3) (fun _ _ q => q)⟩
theorem zLU {w0 w : World} {b jb pb mb : Nat} {X : Nat -> Prop} {a n : Nat} {S : PS} {L : List ByteArray} {A : List (Nat × Nat)} {hn : Nat} {Mw Mn : List ByteArray} {T : Nat -> Bool} (h : BG w0 w b jb pb mb X a n S L A hn Mw Mn T) (ho : S.op = true) (i : Nat) (hi : i < n) (hT : T i = true) (hr : zAQ S ((a + i / 256 : Nat) : Int) = true) : Calls Tryz.prog 129 #[.pointer (some ⟨mb, 0, none⟩), .int .i64 (i : Int)] w fun e w' => e = .returned (.int .i64 0) /\ zID w0 w b jb pb mb X a n S L A hn Mw T i w' := by
 have hn2 := h.n2
 have HH := uB (zEe h.mp (i : Int))
 rw [decide_eq_true (show (0 : Int) <= (i : Int) by omega), decide_eq_true (show (i : Int) < (n : Int) by omega)] at HH
 have HC := uB h.changeable
 rw [ho] at HC
 have HPO := uB (fun W => zCy i (by omega) W)
 have HPL := uB (zFx hi)
 have HIB := uB (show i < 1000000 by omega)
 have HRM := uB (And.intro ho hr)
 obtain ⟨ik, hik⟩ : ∃ q, i / 256 = q := ⟨_, rfl⟩
 rw [hik] at HPO HPL
 have HIK := uB hik
 clear h ho hik hr
 go_enter Tryz.func129, Tryz.ntmps129
 go_wp2_with (first | (go_at_call 144; refine (uA HH).mono ?_; rintro e w' ⟨rfl, hw'⟩; subst w'))
 refine (uA HC).mono ?_
 rintro e x1 ⟨rfl, h1, hO1⟩
 obtain ⟨bd, hpg, hrd⟩ := h1.read ik (uA HPL)
 have HR := uB hrd
 have HTK := uB (fun W => zBn bd hpg.1 i (uA HIB) W)
 rw [hpg.bit i hi (uA HIK), hT] at HTK
 have HO1 := uB hO1
 have HPG := uB hpg
 clear hrd hpg h1 hO1 HC HH
 go_wp2_with (first | (go_at_call 145; refine (uA HPO _).mono ?_; rintro e w' ⟨rfl, hw'⟩; subst w'))
 refine (uA HR).mono ?_
 rintro e x2 ⟨rfl, hK⟩
 have HK := uB hK
 clear hK HR
 go_wp2_with fail
 refine (uA HTK _).mono ?_
 rintro e x3 ⟨rfl, hb3⟩
 obtain ⟨S', k1, k2, k3, k4⟩ := uA HK
 have HTU := uB (BG.turn (k1.below hb3) (k2.trans (uA HRM).1) i hi bd (by rw [uA HIK]; exact uA HPG) (by rw [show zAQ S' _ = zAQ S ((a + i / 256 : Nat) : Int) from by unfold zAQ; rw [k3.1]]; exact (uA HRM).2))
 have HX := uB (And.intro k3 (((uA HO1).trans k4 (fun _ _ q => q)).trans (Only.of_below (P := fun x => ¬ X x) hb3) (fun _ _ q => q)))
 clear k1 k2 k3 k4 hb3 HTK HK
 go_wp2_with (go_at_call 197; refine (uA HTU).mono ?_; rintro e x4 ⟨rfl, hTu⟩)
 go_ret
 obtain ⟨S2, M2, m1, m2, m3, m4⟩ := hTu
 exact ⟨rfl, S2, M2, m1, m2, ⟨by rw [<- (uA HX).1.1]; exact m3.1, m3.2.trans (uA HX).1.2⟩, (uA HX).2.trans m4 (fun _ _ q => q)⟩
end
section
open Go.RowKit Go.Maps Go.Sort Go.Shelf
theorem zML {l : Nat} {J : Act -> World -> Prop} {Q : Exit -> Act -> World -> Prop} {ac : Act} {wc : World} : Exit.jump l J Q .ret ac wc = Q .ret ac wc := rfl
theorem Kept.read {w0 w : World} {b jb pb mb : Nat} {X : Nat -> Prop} {a n : Nat} {S : PS} {L : List ByteArray} {A : List (Nat × Nat)} {hn : Nat} {Mw Mn : List ByteArray} {T : Nat -> Bool} {wr : World} (h : Kept w0 w b jb pb mb X a n S L A hn Mw Mn T wr) (k : Nat) (hk : k < pgs n) : ∃ bd, Pg n T k bd (Mn.getD (a + k) ByteArray.empty) /\ Calls Tryz.prog 141 #[.pointer (some ⟨mb, 0, none⟩), .int .i64 (k : Int)] wr fun e w' => e = .returned (.tuple #[.string bd, .int .i64 0]) /\ Kept w0 w b jb pb mb X a n S L A hn Mw Mn T w' := by
 obtain ⟨S', h2, h3, h4, h5⟩ := h
 obtain ⟨bd, hp, hc⟩ := h2.read k hk
 refine ⟨bd, hp, hc.mono ?_⟩
 rintro e w' ⟨rfl, S2, k1, k2, k3, k4⟩
 exact ⟨rfl, S2, k1, k2.trans h3, k3.trans h4, h5.trans k4 (fun _ _ q => q)⟩
theorem Kept.below {w0 w : World} {b jb pb mb : Nat} {X : Nat -> Prop} {a n : Nat} {S : PS} {L : List ByteArray} {A : List (Nat × Nat)} {hn : Nat} {Mw Mn : List ByteArray} {T : Nat -> Bool} {wr w' : World} (h : Kept w0 w b jb pb mb X a n S L A hn Mw Mn T wr) (hb : Below wr.heap.size wr w') : Kept w0 w b jb pb mb X a n S L A hn Mw Mn T w' := by
 obtain ⟨S', h2, h3, h4, h5⟩ := h
 exact ⟨S', h2.below hb, h3, h4, h5.trans (Only.of_below (P := fun x => ¬ X x) hb) (fun _ _ q => q)⟩
theorem Kept.mb {w0 w : World} {b jb pb mb : Nat} {X : Nat -> Prop} {a n : Nat} {S : PS} {L : List ByteArray} {A : List (Nat × Nat)} {hn : Nat} {Mw Mn : List ByteArray} {T : Nat -> Bool} {wr : World} (h : Kept w0 w b jb pb mb X a n S L A hn Mw Mn T wr) : MB wr mb pb a n := by
 obtain ⟨S', h2, h3, h4, h5⟩ := h
 exact h2.mp
theorem zNF {w0 w : World} {b jb pb mb : Nat} {X : Nat -> Prop} {a n : Nat} {S : PS} {L : List ByteArray} {A : List (Nat × Nat)} {hn : Nat} {Mw Mn : List ByteArray} {T : Nat -> Bool} (h : BG w0 w b jb pb mb X a n S L A hn Mw Mn T) (ho : S.op = false) : Calls Tryz.prog 172 #[.pointer (some ⟨mb, 0, none⟩)] w fun e w' => e = .returned (.tuple #[.int .i64 0, .int .i64 61]) /\ Kept w0 w b jb pb mb X a n S L A hn Mw Mn T w' := by
 have HC := uB h.changeable
 rw [ho] at HC
 clear h ho
 go_enter Tryz.func172, Tryz.ntmps172
 go_wp2
 go_step3
 go_wp2_with fail
 refine (uA HC).mono ?_
 rintro e x1 ⟨rfl, h1, hO1⟩
 have H1 := uB (And.intro h1 hO1)
 clear h1 hO1 HC
 go_wp2
 rw [Exit.noGoto_ret]
 go_ret2
 exact ⟨rfl, S, (uA H1).1, rfl, Tk.refl _, (uA H1).2⟩
theorem zKC {w0 w : World} {b jb pb mb : Nat} {X : Nat -> Prop} {a n : Nat} {S : PS} {L : List ByteArray} {A : List (Nat × Nat)} {hn : Nat} {Mw Mn : List ByteArray} {T : Nat -> Bool} (h : BG w0 w b jb pb mb X a n S L A hn Mw Mn T) (ho : S.op = true) (p : Nat) (hl : Lea T n p) (hr : zAQ S ((a + p / 256 : Nat) : Int) = true) : Calls Tryz.prog 172 #[.pointer (some ⟨mb, 0, none⟩)] w fun e w' => e = .returned (.tuple #[.int .i64 (p : Int), .int .i64 0]) /\ zID w0 w b jb pb mb X a n S L A hn Mw T p w' := by
 have hn2 := h.n2
 have hn1 := h.n1
 have h4 := zC8 h.n2
 have hpk := zFx hl.1
 have hpn := hl.1
 have HPO := uB (fun W => zB9 n hn2 W)
 have HC := uB h.changeable
 rw [ho] at HC
 have HRM := uB (And.intro ho hr)
 have HL := uB hl
 have hpg : pgs n = (n + 255) / 256 := rfl
 clear h ho hl hr
 obtain ⟨P0, hP0⟩ : ∃ q, pgs n = q := ⟨_, rfl⟩
 rw [hP0] at HPO h4 hpg hpk
 have HP0 := uB hP0
 clear hP0
 go_enter Tryz.func172, Tryz.ntmps172
 go_wp2
 refine wp_scope_jumps 0 (fun ac wc => ∃ (t1 t2 t3 t6 t7 t8 t9 t10 t11 t12 t13 t14 t15 t16 t17 t18 t19 t20 t21 t22 t23 t24 t25 t26 t27 t28 t29 t30 t31 t32 t33 t34 t35 t36 t37 t38 t39 t40 t41 t42 t43 t44 t45 t46 t47 t48 t49 t50 t51 t52 : Value) (bd : ByteArray), ac = ⟨#[.pointer (some ⟨mb, 0, none⟩), t1, t2, t3, .int .i64 (p : Int), .string bd, t6, t7, t8, t9, t10, t11, t12, t13, t14, t15, t16, t17, t18, t19, t20, t21, t22, t23, t24, t25, t26, t27, t28, t29, t30, t31, t32, t33, t34, t35, t36, t37, t38, t39, t40, t41, t42, t43, t44, t45, t46, t47, t48, t49, t50, t51, t52], []⟩ /\ Pg n T (p / 256) bd (Mn.getD (a + p / 256) ByteArray.empty) /\ Kept w0 w b jb pb mb X a n S L A hn Mw Mn T wc) (fun _ _ => 0) rfl ?_ ?_
 ·go_wp2_with fail
  refine (uA HC).mono ?_
  rintro e x1 ⟨rfl, h1, hO1⟩
  have c2 := h1.mp.c2
  have X1 := uB (show Kept w0 w b jb pb mb X a n S L A hn Mw Mn T x1 from ⟨S, h1, rfl, Tk.refl _, hO1⟩)
  clear h1 hO1 HC
  go_wp2_with (go_at_call 93; refine (uA HPO _).mono ?_; rintro e w' ⟨rfl, hw'⟩; subst w')
  go_loopw [4, 5, 6, 17] (fun _ _ _ i wr => ∃ k : Nat, k <= p / 256 /\ i = .int .i64 (k : Int) /\ Kept w0 w b jb pb mb X a n S L A hn Mw Mn T wr) (fun _ _ _ i _ => P0 - (intOf i).toNat)
  case atStart => exact ⟨0, by omega, rfl, uA X1⟩
  case round =>
   obtain ⟨k, hk, rfl, hI⟩ := hrel
   obtain ⟨wo, rfl⟩ : ∃ wo, wo = wr := ⟨_, rfl⟩
   clear X1 c2
   have hkn : k < P0 := by omega
   have hkn' : (k : Int) < (P0 : Int) := by omega
   obtain ⟨bd, hpg', hc⟩ := hI.read k (by rw [uA HP0]; exact hkn)
   have HCR := uB hc
   have HPG := uB hpg'
   have hbd := hpg'.1
   clear hI hc hpg'
   go_wp2_with fail
   refine (uA HCR).mono ?_
   rintro e y1 ⟨rfl, hI1⟩
   have HPI := uB (zCn hI1.mb hn2 k (by rw [uA HP0]; exact hkn))
   have HI1 := uB hI1
   clear hI1 HCR
   obtain ⟨pn, hpn'⟩ : ∃ q, pin n k = q := ⟨_, rfl⟩
   rw [hpn'] at HPI
   have hpn2 : pn <= 256 /\ 256 * k + pn <= n /\ (pn = 256 ∨ 256 * k + pn = n) := by unfold pin at hpn'; omega
   clear hpn'
   go_wp2_with fail
   refine (uA HPI).mono ?_
   rintro e y2 ⟨rfl, hb2⟩
   have X2 := uB ((uA HI1).below hb2)
   clear HI1 HPI hb2
   have HFO := uB (fun W => zCc k (by omega) W)
   go_wp2
   go_loopw [4, 32] (fun _ i wr => ∃ j : Nat, j <= pn /\ 256 * k + j <= p /\ i = .int .i64 (j : Int) /\ Kept w0 w b jb pb mb X a n S L A hn Mw Mn T wr) (fun _ i _ => pn - (intOf i).toNat)
   case atStart => exact ⟨0, by omega, by omega, rfl, uA X2⟩
   case round =>
    obtain ⟨j, hj, hjp, rfl, hJ⟩ := hrel
    obtain ⟨wi, rfl⟩ : ∃ wi, wi = wr := ⟨_, rfl⟩
    clear X2
    have HJ := uB hJ
    clear hJ
    by_cases hjn : j < pn
    ·have hjn' : (j : Int) < (pn : Int) := by omega
     have HTK := uB (fun W => zBn bd hbd (256 * k + j) (by omega) W)
     have hbit : bitB bd (256 * k + j) = T (256 * k + j) := (uA HPG).bit _ (by omega) (by omega)
     rw [hbit] at HTK
     have e1 : ((256 * k : Nat) : Int) + (j : Int) = ((256 * k + j : Nat) : Int) := by omega
     have hfm : 256 * k < 2000 := by omega
     clear hbit
     obtain ⟨mm, hmm⟩ : ∃ q, 256 * k + j = q := ⟨_, rfl⟩
     have hmb : mm < 2000 := by omega
     rw [hmm] at HTK e1
     have HMM := uB hmm
     obtain ⟨fk, hfk⟩ : ∃ q, 256 * k = q := ⟨_, rfl⟩
     rw [hfk] at HFO e1 hfm
     have HFK := uB hfk
     clear hmm hfk
     go_wp2_with (go_at_call 206; refine (uA HFO _).mono ?_; rintro e w' ⟨rfl, hw'⟩; subst w')
     refine (uA HTK _).mono ?_
     rintro e y3 ⟨rfl, hb3⟩
     have HJ1 := uB ((uA HJ).below hb3)
     clear hb3 HTK HJ
     by_cases hmp : mm < p
     ·have hT : T mm = true := (uA HL).2.2 mm hmp
      rw [hT]
      clear hT
      go_wp2
      go_roundw
      case rel => exact ⟨j + 1, by omega, by have := uA HMM; omega, by go_num, uA HJ1⟩
      case measure => simp [intOf]; omega
     ·have hme : mm = p := by have := uA HMM; omega
      have hT : T mm = false := by rw [hme]; exact (uA HL).2.1
      rw [hT]
      clear hT hmp
      go_wp2
      go_step3
      have hkp : p / 256 = k := by have := uA HMM; omega
      refine ⟨rfl, _, _, _, _, _, _, _, _, _, _, _, _, _, _, _, _, _, _, _, _, _, _, _, _, _, _, _, _, _, _, _, _, _, _, _, _, _, _, _, _, _, _, _, _, _, _, _, _, _, _, bd, rfl, by rw [hkp]; exact uA HPG, uA HJ1⟩
    ·have hjn' : ¬ (j : Int) < (pn : Int) := by omega
     have hk1 : k + 1 <= p / 256 := by omega
     go_wp2
     go_roundw
     case rel => exact ⟨k + 1, hk1, by go_num, uA HJ⟩
     case measure => simp [intOf]; omega
 ·rintro ac wc ⟨t1, t2, t3, t6, t7, t8, t9, t10, t11, t12, t13, t14, t15, t16, t17, t18, t19, t20, t21, t22, t23, t24, t25, t26, t27, t28, t29, t30, t31, t32, t33, t34, t35, t36, t37, t38, t39, t40, t41, t42, t43, t44, t45, t46, t47, t48, t49, t50, t51, t52, bd, rfl, hpg', hK⟩
  obtain ⟨S', k1, k2, k3, k4⟩ := hK
  have HTU := uB (BG.turn k1 (k2.trans (uA HRM).1) p hpn bd hpg' (by rw [show zAQ S' _ = zAQ S ((a + p / 256 : Nat) : Int) from by unfold zAQ; rw [k3.1]]; exact (uA HRM).2))
  have HX := uB (And.intro k3 k4)
  clear k1 k2 k3 k4 hpg' HC
  conv => arg 2; whnf
  go_wp2_with (go_at_call 197; refine (uA HTU).mono ?_; rintro e x4 ⟨rfl, hTu⟩)
  rw [zML]
  go_ret2
  obtain ⟨S2, M2, m1, m2, m3, m4⟩ := hTu
  exact ⟨rfl, S2, M2, m1, m2, ⟨by rw [<- (uA HX).1.1]; exact m3.1, m3.2.trans (uA HX).1.2⟩, (uA HX).2.trans m4 (fun _ _ q => q)⟩
end
section
open Go.RowKit Go.Maps Go.Sort Go.Shelf
def zb : ByteArray := strOfNums (List.replicate 32 0)
theorem zJQ : zb.size = 32 := by rw [zb, strOfNums_size, List.length_replicate]
theorem zOO (i : Nat) : bitB zb i = false := by
 have hb : Bytes (List.replicate 32 0) := fun j => by
  rw [List.getD_eq_getElem?_getD, List.getElem?_replicate]
  split <;> simp
 have h : byN zb (i % 256 / 8) = 0 := by
  unfold byN zb
  rw [zAd _ hb, List.getD_eq_getElem?_getD, List.getElem?_replicate]
  split <;> rfl
 unfold bitB
 rw [h]
 exact Nat.zero_testBit _
def pgZ (m : Nat) : List ByteArray := (List.range m).map fun k => pgT k zb
theorem zHM (m : Nat) : (pgZ m).length = m := by simp [pgZ]
theorem zMl (m : Nat) : strs (pgZ (m + 1)) = strs (pgZ m) ++ [.string (pgT m zb)] := by simp [pgZ, strs, List.range_succ]
theorem zNn (m k : Nat) (h : k < m) : (pgZ m).getD k ByteArray.empty = pgT k zb := by simp [pgZ, List.getD_eq_getElem?_getD, h]
def InI (w : World) (m : Nat) (u : Value) (wr : World) : Prop := wr.ownsRow w.heap.size 9 1 u m (strs (pgZ m)) /\ Below w.heap.size w wr
theorem zGW (n : Nat) (hn1 : 1 <= n) (hn2 : n <= 1024) (w : World) : Calls Tryz.prog 38 #[.int .i64 (n : Int)] w fun e w' => ∃ v, e = .returned (.tuple #[v, .int .i64 0]) /\ InI w (pgs n) v w' := by
 obtain ⟨i0, hi, hz0, hz1, hz2⟩ := info_parts zNx
 have HI := uB (And.intro hi (And.intro hz0 (And.intro hz1 hz2)))
 clear hi hz0 hz1 hz2
 have HCN := uB (fun W => zEA (n : Int) W)
 rw [decide_eq_true (show (1 : Int) <= (n : Int) by omega), decide_eq_true (show (n : Int) <= 1024 by omega)] at HCN
 have HPO := uB (fun W => zB9 n hn2 W)
 have h4 := zC8 hn2
 have HRP := uB (fun W => zCv 32 W (by decide))
 have HZB := uB (show strOfNums (List.replicate 32 0) = zb from rfl)
 obtain ⟨Z, hZ⟩ : ∃ Z, strOfNums (List.replicate 32 0) = Z := ⟨_, rfl⟩
 rw [hZ] at HRP HZB
 clear hZ
 simp only [Int.cast_ofNat_Int] at HRP
 generalize pgs n = P0 at *
 go_enter Tryz.func38, Tryz.ntmps38
 go_wp2_with (first | (go_at_call 92; refine (uA HCN _).mono ?_; rintro e w' ⟨rfl, hw'⟩; subst w') | (go_at_call 93; refine (uA HPO _).mono ?_; rintro e w' ⟨rfl, hw'⟩; subst w'))
 go_loopw [4, 11] (fun u i wr => ∃ k : Nat, k <= P0 /\ i = .int .i64 (k : Int) /\ InI w k u wr) (fun _ i _ => P0 - (intOf i).toNat)
 case atStart => exact ⟨0, by omega, rfl, World.ownsRow_nil _ _ _ _, Below.refl _ _⟩
 case round =>
  obtain ⟨k, hk, rfl, hR, hB⟩ := hrel
  obtain ⟨wo, rfl⟩ : ∃ wo, wo = wr := ⟨_, rfl⟩
  obtain ⟨pv, cv, rfl, hcv⟩ := zAy hR
  by_cases hkn : k < P0
  ·have hkn' : (k : Int) < (P0 : Int) := by omega
   have HR := uB hR
   have HB := uB hB
   clear hR hB hcv
   go_wp2_with fail
   refine (uA HRP _).mono ?_
   rintro e y1 ⟨rfl, hb1⟩
   have HSE := uB (zD2 k Z y1)
   have HB1 := uB hb1
   obtain ⟨t, ht⟩ : ∃ t, pgT k Z = t := ⟨_, rfl⟩
   rw [ht] at HSE
   have HT := uB (show pgT k zb = t from by rw [<- ht, uA HZB])
   clear hb1 ht
   go_wp2_with fail
   refine (uA HSE).mono ?_
   rintro e y2 ⟨rfl, hb2⟩
   have hB2 : Below wo.heap.size wo y2 := (uA HB1).trans (hb2.mono (uA HB1).size)
   have HRA := uB (show (y2.alloc (.cells #[.string t] 9)).ownsRow w.heap.size 9 1 (.slice pv k cv) k (strs (pgZ k)) from (zAh (uA HR) (Only.of_below (P := fun _ => False) hB2) (fun _ _ q => q)).alloc _)
   have HXB := uB ((uA HB).trans ((hB2.alloc hB2.size (.cells #[.string t] 9)).mono (uA HB).size))
   clear hb2 hB2 HSE HB1
   go_wp2_with (refine wpList_append_own _ rfl (.tmp 14) (.tmp 18) 62 rfl w.heap.size 9 i0 (.string ⟨#[]⟩) 1 16 Tryz.underlying62 (uA HI).1 (uA HI).2.1 (uA HI).2.2.1 (uA HI).2.2.2 rfl (by decide) _ k (strs (pgZ k)) rfl (uA HRA) ⟨y2.heap.size, 0, none⟩ 1 1 [.string t] rfl rfl (fun q u hu => zB7 y2 9 _ q u hu) (by simp [Value.oneCell']) (by unfold maxLen; omega) (by omega) (uA HXB).size ?_)
   intro v5 x5 ho5 hg5 _
   have HRR := uB (show InI w (k + 1) v5 x5 from ⟨by rw [zMl, uA HT]; exact ho5, (uA HXB).grown hg5 (uA HXB).size (fun q hq => ((uA HRA).lt q hq).1)⟩)
   clear ho5 hg5 HRA HXB HT
   go_wp2
   go_roundw
   case rel => exact ⟨k + 1, by omega, by go_num, uA HRR⟩
   case measure => simp [intOf]; omega
  ·have hke : k = P0 := by omega
   have hkn' : ¬ (k : Int) < (P0 : Int) := by omega
   subst hke
   have HF := uB (show InI w k (.slice pv k cv) wo from ⟨hR, hB⟩)
   clear hR hB hcv
   go_wp2
   go_ret2
   exact ⟨_, rfl, uA HF⟩
def prN (a : Nat) (l : List ByteArray) (m : Nat) : List (Nat × ByteArray) := (List.range m).map fun i => (a + i, l.getD i ByteArray.empty)
theorem zLT (a : Nat) (l : List ByteArray) (m : Nat) : prN a l (m + 1) = prN a l m ++ [(a + m, l.getD m ByteArray.empty)] := by simp [prN, List.range_succ]
theorem zKo (a : Nat) (l : List ByteArray) (m : Nat) : (prN a l m).length = m := by simp [prN]
end
section
open Go.RowKit Go.Maps Go.Sort Go.Shelf
theorem zL5 {w : World} {mb pb a n : Nat} (h : MB w mb pb a n) (hn : n <= 1024) (k : Nat) (hk : k < pgs n) (T : Nat -> Bool) (bd s : ByteArray) (hp : Pg n T k bd s) : Calls Tryz.prog 142 #[.pointer (some ⟨mb, 0, none⟩), .int .i64 (k : Int), .string bd] w fun e w' => e = .returned (.bool false) /\ Below w.heap.size w w' := by
 have h4 := zC8 hn
 have hpg : pgs n = (n + 255) / 256 := rfl
 have HPI := uB (zCn h hn k hk)
 have HFO := uB (fun W => zCc k (by omega) W)
 have hbit : ∀ i, i < 256 - pin n k -> bitB bd (256 * k + pin n k + i) = false := fun i hi => by
  rw [Nat.add_assoc, zKG, hp.2.2 _ (by unfold pin at *; omega), decide_eq_false (by unfold pin at *; omega)]
  rfl
 have HBT := uB hbit
 have hbd := hp.1
 have hpn2 : pin n k <= 256 := by unfold pin; omega
 obtain ⟨pn, hpn⟩ : ∃ q, pin n k = q := ⟨_, rfl⟩
 rw [hpn] at HPI HBT hpn2
 have hkk : k <= 4 := by omega
 clear h hp hpg h4 hk hbit hpn
 go_enter Tryz.func142, Tryz.ntmps142
 go_wp2_with fail
 refine (uA HPI).mono ?_
 rintro e x1 ⟨rfl, hb1⟩
 have HB1 := uB hb1
 have e0 : (256 : Int) - (pn : Int) = ((256 - pn : Nat) : Int) := by omega
 have hr : 256 - pn <= 256 := by omega
 obtain ⟨R, hR⟩ : ∃ q, 256 - pn = q := ⟨_, rfl⟩
 rw [hR] at e0 hr HBT
 clear hb1 HPI
 go_wp2
 go_loopw [14] (fun i wr => ∃ j : Nat, j <= R /\ i = .int .i64 (j : Int) /\ Below w.heap.size w wr) (fun i _ => R - (intOf i).toNat)
 case atStart => exact ⟨0, by omega, rfl, uA HB1⟩
 case round =>
  obtain ⟨j, hj, rfl, hB⟩ := hrel
  obtain ⟨wo, rfl⟩ : ∃ wo, wo = wr := ⟨_, rfl⟩
  by_cases hjn : j < R
  ·have hjn' : (j : Int) < (R : Int) := by omega
   have HTK := uB (fun W => zBn bd hbd (256 * k + pn + j) (by omega) W)
   rw [uA HBT j hjn] at HTK
   have e1 : ((256 * k : Nat) : Int) + (pn : Int) = ((256 * k + pn : Nat) : Int) := by omega
   have e2 : ((256 * k + pn : Nat) : Int) + (j : Int) = ((256 * k + pn + j : Nat) : Int) := by omega
   have q1 : 256 * k + pn + j < 10000 := by omega
   have q2 : 256 * k + pn < 10000 := by omega
   have q3 : 256 * k < 10000 := by omega
   have HB := uB hB
   clear hB
   generalize 256 * k + pn + j = m3 at *
   generalize 256 * k + pn = m2 at *
   generalize 256 * k = m1 at *
   go_wp2_with (first | (go_at_call 206; refine (uA HFO _).mono ?_; rintro e w' ⟨rfl, hw'⟩; subst w') | (go_at_call 146; refine (uA HTK _).mono ?_; rintro e y1 ⟨rfl, hb3⟩))
   go_roundw
   case rel => exact ⟨j + 1, by omega, by go_num, (uA HB).trans (hb3.mono (uA HB).size)⟩
   case measure => simp [intOf]; omega
  ·have hjn' : ¬ (j : Int) < (R : Int) := by omega
   have HB := uB hB
   clear hB
   go_wp2
   go_ret
   exact ⟨rfl, uA HB⟩
def zPp (w0 w : World) (b jb pb : Nat) (X : Nat -> Prop) (a n : Nat) (S : PS) (L : List ByteArray) (A : List (Nat × Nat)) (hn : Nat) (Mw Mn : List ByteArray) (T : Nat -> Bool) (mb : Nat) (w' : World) : Prop :=
 w.heap.size <= mb /\ ∃ S', BG w0 w' b jb pb mb (fun x => X x ∨ x = mb) a n S' L A hn Mw Mn T /\ S'.op = S.op /\ Tk S' S /\ Only (fun x => ¬ X x) w w'
theorem zIg {w0 w : World} {b jb pb : Nat} {X : Nat -> Prop} {a n : Nat} {S : PS} {L : List ByteArray} {A : List (Nat × Nat)} {hn : Nat} {Mw Mn : List ByteArray} {T : Nat -> Bool} (K : PK w0 w b jb pb S X) (hg : ETy w0) (hs : Seen S L A hn Mw Mn) (hm : MS Mn a n T) (h19 : 19 <= a) (h128 : a + pgs n <= 128) (hn1 : 1 <= n) (hn2 : n <= 1024) :
  Calls Tryz.prog 72 #[.pointer (some ⟨pb, 0, none⟩), .int .i64 (a : Int), .int .i64 (n : Int)] w fun e w' => ∃ mb, e = .returned (.tuple #[.pointer (some ⟨mb, 0, none⟩), .int .i64 0]) /\ zPp w0 w b jb pb X a n S L A hn Mw Mn T mb w' := by
 have h4 := zC8 hn2
 have HCN := uB (fun W => zEA (n : Int) W)
 rw [decide_eq_true (show (1 : Int) <= (n : Int) by omega), decide_eq_true (show (n : Int) <= 1024 by omega)] at HCN
 have HPO := uB (fun W => zB9 n hn2 W)
 have HSZ := uB (show Calls Tryz.prog 140 #[.pointer (some ⟨pb, 0, none⟩)] w fun e w' => e = .returned (.int .i64 128) /\ w' = w from by
  obtain ⟨bw, bv, ov, Ki⟩ := K
  have := Ki.size
  rw [hs.rst.s, show ((rs L A).last.length : Int) = 128 from by show ((L.length : Nat) : Int) = 128; rw [hs.len]; rfl] at this
  exact this)
 have ha0 : decide ((a : Int) < 0) = false := decide_eq_false (by omega)
 have ha1 : decide ((128 : Int) - (pgs n : Int) < (a : Int)) = false := decide_eq_false (by omega)
 have HM0 := uB (show ∀ W mb, Below w.heap.size w W -> MB W mb pb a n -> mb = w.heap.size -> mb < W.heap.size -> Kept w0 w b jb pb mb (fun x => X x ∨ x = mb) a n S L A hn Mw Mn T W from fun W mb hb hM hmb hlt => by
  refine ⟨S, ⟨K.more hb (fun x hx => ?_), hM, .inr rfl, hg, hs, hm, h19, h128, hn1, hn2⟩, rfl, Tk.refl _, Only.of_below hb⟩
  rcases hx with q | q
  ·exact .inl q
  ·rw [q]; exact .inr ⟨by omega, hlt⟩)
 have HXL := uB (show ∀ x, X x -> x < w.heap.size from fun x hx => K.lt x hx)
 have hpq : pgs n <= 4 := h4
 have HP0 := uB (show ∀ k, k < pgs n -> k < pgs n from fun _ q => q)
 obtain ⟨P0, hP0⟩ : ∃ q, pgs n = q := ⟨_, rfl⟩
 rw [hP0] at HPO ha1 hpq
 have HPE := uB hP0
 clear K hs hm hg h4 h128 hP0 HP0 hn1 h19
 go_enter Tryz.func72, Tryz.ntmps72
 go_wp2_with (first | (go_at_call 92; refine (uA HCN _).mono ?_; rintro e w' ⟨rfl, hw'⟩; subst w') | (go_at_call 93; refine (uA HPO _).mono ?_; rintro e w' ⟨rfl, hw'⟩; subst w') | (go_at_call 140; refine (uA HSZ).mono ?_; rintro e w' ⟨rfl, hw'⟩; subst w'))
 obtain ⟨mb, hmb⟩ : ∃ q, w.heap.size = q := ⟨_, rfl⟩
 obtain ⟨x1, hx1⟩ : ∃ q, w.alloc (.cells #[.pointer (some ⟨pb, 0, none⟩), .int .i64 (a : Int), .int .i64 (n : Int)] 195) = q := ⟨_, rfl⟩
 rw [hx1, hmb]
 have X1 := uB (uA HM0 x1 mb (by rw [<- hx1]; exact (Below.refl _ _).alloc (Nat.le_refl _) _) (by rw [<- hx1, <- hmb]; exact Blk.new w _ _) hmb.symm (by rw [<- hx1, <- hmb]; simp))
 have HMB := uB hmb
 clear hx1 hmb HM0 ha0 ha1
 go_loopw [10, 11, 39] (fun _ _ i wr => ∃ k : Nat, k <= P0 /\ i = .int .i64 (k : Int) /\ Kept w0 w b jb pb mb (fun x => X x ∨ x = mb) a n S L A hn Mw Mn T wr) (fun _ _ i _ => P0 - (intOf i).toNat)
 case atStart => exact ⟨0, by omega, rfl, uA X1⟩
 case round =>
  obtain ⟨k, hk, rfl, hI⟩ := hrel
  obtain ⟨wo, rfl⟩ : ∃ wo, wo = wr := ⟨_, rfl⟩
  clear X1
  by_cases hkn : k < P0
  ·have hkn' : (k : Int) < (P0 : Int) := by omega
   obtain ⟨bd, hpg', hc⟩ := hI.read k (by rw [uA HPE]; exact hkn)
   have HCR := uB hc
   have HPG := uB hpg'
   clear hI hc hpg'
   go_wp2_with fail
   refine (uA HCR).mono ?_
   rintro e y1 ⟨rfl, hI1⟩
   have HST := uB (zL5 hI1.mb hn2 k (by rw [uA HPE]; exact hkn) T bd _ (uA HPG))
   have HI1 := uB hI1
   clear hI1 HCR HPG
   go_wp2_with (go_at_call 142; refine (uA HST).mono ?_; rintro e y2 ⟨rfl, hb2⟩)
   go_roundw
   case rel => exact ⟨k + 1, by omega, by go_num, (uA HI1).below hb2⟩
   case measure => simp [intOf]; omega
  ·have hkn' : ¬ (k : Int) < (P0 : Int) := by omega
   have HI := uB hI
   clear hI
   go_wp2
   go_ret2
   obtain ⟨S', k1, k2, k3, k4⟩ := uA HI
   refine ⟨mb, rfl, by rw [uA HMB]; exact Nat.le_refl _, S', k1, k2, k3, k4.widen (fun x hx q r => q (.inl r))⟩
end
end Go.Proofs.YtdpnbemagiekoaaGreatDoor
