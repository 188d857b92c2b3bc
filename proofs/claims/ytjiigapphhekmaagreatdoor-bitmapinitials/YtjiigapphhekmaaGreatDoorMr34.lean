import Derived.Test.YtjiigapphhekmaaGreatDoorMr33
import Derived.Test.YtjiigapphhekmaaGreatDoorMr11
import Derived.Deep.AppendLies
namespace Go.Proofs.YtjiigapphhekmaaGreatDoor
open Go.RowKit Go.Maps Go.Sort Go.Shelf
def Xv (X : Nat → Prop) (u : Value) (x : Nat) : Prop := X x ∨ u.ownBlock = some x
/-- A list is under way: of the places below m. -/
def BLs (w0 w : World) (b jb pb mb : Nat) (X : Nat → Prop) (a n : Nat) (S : PS) (L : List ByteArray) (A : List (Nat × Nat)) (hn : Nat) (Mw Mn : List ByteArray) (T : Nat → Bool) (m : Nat) (u : Value) (wr : World) : Prop :=
  wr.ownsRow w.heap.size 3 1 u (lst T m).length ((lst T m).map (Value.int .i64)) ∧ ∃ S', BG w0 wr b jb pb mb (Xv X u) a n S' L A hn Mw Mn T ∧ S'.op = S.op ∧ Tk S' S ∧ Only (fun x => ¬ X x) w wr
theorem BLs.below {w0 w : World} {b jb pb mb : Nat} {X : Nat → Prop} {a n : Nat} {S : PS} {L : List ByteArray} {A : List (Nat × Nat)} {hn : Nat} {Mw Mn : List ByteArray} {T : Nat → Bool} {m : Nat} {u : Value} {wr w' : World} (h : BLs w0 w b jb pb mb X a n S L A hn Mw Mn T m u wr) (hb : Below wr.heap.size wr w') : BLs w0 w b jb pb mb X a n S L A hn Mw Mn T m u w' := by
  obtain ⟨h1, S', h2, h3, h4, h5⟩ := h
  exact ⟨owns_only h1 (Only.of_below (P := fun _ => False) hb) (fun _ _ q => q), S', h2.below hb, h3, h4, h5.trans (Only.of_below (P := fun x => ¬ X x) hb) (fun _ _ q => q)⟩
theorem BLs.read {w0 w : World} {b jb pb mb : Nat} {X : Nat → Prop} {a n : Nat} {S : PS} {L : List ByteArray} {A : List (Nat × Nat)} {hn : Nat} {Mw Mn : List ByteArray} {T : Nat → Bool} {m : Nat} {u : Value} {wr : World} (h : BLs w0 w b jb pb mb X a n S L A hn Mw Mn T m u wr) (k : Nat) (hk : k < pgs n) : ∃ bd, Pg n T k bd (Mn.getD (a + k) ByteArray.empty) ∧ Calls Tryz.prog 41 #[.pointer (some ⟨mb, 0, none⟩), .int .i64 (k : Int)] wr fun e w' => e = .returned (.tuple #[.string bd, .int .i64 0]) ∧ BLs w0 w b jb pb mb X a n S L A hn Mw Mn T m u w' := by
  obtain ⟨h1, S', h2, h3, h4, h5⟩ := h
  obtain ⟨bd, hp, hc⟩ := h2.read k hk
  refine ⟨bd, hp, hc.mono ?_⟩
  rintro e w' ⟨rfl, S2, k1, k2, k3, k4⟩
  exact ⟨rfl, owns_only h1 k4 (fun x hx q => q (.inr hx)), S2, k1, k2.trans h3, k3.trans h4, h5.trans k4 (fun x _ q r => q (.inl r))⟩
theorem BLs.mb {w0 w : World} {b jb pb mb : Nat} {X : Nat → Prop} {a n : Nat} {S : PS} {L : List ByteArray} {A : List (Nat × Nat)} {hn : Nat} {Mw Mn : List ByteArray} {T : Nat → Bool} {m : Nat} {u : Value} {wr : World} (h : BLs w0 w b jb pb mb X a n S L A hn Mw Mn T m u wr) : MB wr mb pb a n := by
  obtain ⟨h1, S', h2, h3, h4, h5⟩ := h
  exact h2.mp
theorem BLs.skip {w0 w : World} {b jb pb mb : Nat} {X : Nat → Prop} {a n : Nat} {S : PS} {L : List ByteArray} {A : List (Nat × Nat)} {hn : Nat} {Mw Mn : List ByteArray} {T : Nat → Bool} {m : Nat} {u : Value} {wr : World} (h : BLs w0 w b jb pb mb X a n S L A hn Mw Mn T m u wr) (ht : T m = false) : BLs w0 w b jb pb mb X a n S L A hn Mw Mn T (m + 1) u wr := by
  unfold BLs
  rw [lst_succ, ht]
  exact h
theorem BLs.grow {w0 w : World} {b jb pb mb : Nat} {X : Nat → Prop} {a n : Nat} {S : PS} {L : List ByteArray} {A : List (Nat × Nat)} {hn : Nat} {Mw Mn : List ByteArray} {T : Nat → Bool} {m : Nat} {u : Value} {wr w1 w' : World} (h : BLs w0 w b jb pb mb X a n S L A hn Mw Mn T m u wr) (ht : T m = true) (hb : Below wr.heap.size wr w1) {g len cap : Nat} (ho : w'.ownsRow w.heap.size 3 1 (.slice (some ⟨g, 0, none⟩) len cap) ((lst T m).length + 1) ((lst T m).map (Value.int .i64) ++ [.int .i64 (m : Int)])) (hg : w1.grownBy w' u.ownBlock) (hgg : u.ownBlock = some g ∨ g = w1.heap.size) (hgl : g < w'.heap.size) (hX : ∀ x, X x → x < w.heap.size) (hw : w0.heap.size ≤ w.heap.size) (hxm : X mb) : BLs w0 w b jb pb mb X a n S L A hn Mw Mn T (m + 1) (.slice (some ⟨g, 0, none⟩) len cap) w' := by
  obtain ⟨h1, S', h2, h3, h4, h5⟩ := h.below hb
  have hO : Only (fun q => u.ownBlock = some q) w1 w' := (Only.refl _ _).grown hg (fun q _ e => e)
  have hlo : ∀ x, u.ownBlock = some x → w.heap.size ≤ x := fun x hx => (h1.lt x hx).1
  unfold BLs
  rw [lst_succ, ht]
  refine ⟨by simpa using ho, S', ?_, h3, h4, h5.trans hO (fun x hx q r => by have := hlo x q; have := hX x r; omega)⟩
  refine h2.poke hO (fun x hx _ => .inr hx) (fun x hx => by have := hlo x hx; omega) (fun x hx => ?_) (.inl hxm) (fun q => by have := hlo mb q; have := hX mb hxm; omega)
  rcases hx with q | q
  · exact .inl (.inl q)
  · have e : g = x := by simpa [Value.ownBlock] using q
    subst e
    rcases hgg with r | r
    · exact .inl (.inr r)
    · exact .inr ⟨by omega, hgl⟩
set_option maxRecDepth 100000 in
set_option maxHeartbeats 4000000 in
theorem mlist_any {w0 w : World} {b jb pb mb : Nat} {X : Nat → Prop} {a n : Nat} {S : PS} {L : List ByteArray} {A : List (Nat × Nat)} {hn : Nat} {Mw Mn : List ByteArray} {T : Nat → Bool} (h : BG w0 w b jb pb mb X a n S L A hn Mw Mn T) : Calls Tryz.prog 14 #[.pointer (some ⟨mb, 0, none⟩)] w fun e w' => ∃ v, e = .returned (.tuple #[v, .int .i64 0]) ∧ BLs w0 w b jb pb mb X a n S L A hn Mw Mn T n v w' := by
  obtain ⟨i0, hi, hz0, hz1, hz2⟩ := info_parts infoI3
  have HI := hide (And.intro hi (And.intro hz0 (And.intro hz1 hz2)))
  clear hi hz0 hz1 hz2
  have c2 := h.mp.c2
  have hn2 := h.n2
  have hn1 := h.n1
  have h4 := pgs_le h.n2
  have HPO := hide (fun W => pagesOf_any n hn2 W)
  have HXX := hide (show (∀ x, X x → x < w.heap.size) ∧ w0.heap.size ≤ w.heap.size ∧ X mb from ⟨fun x hx => h.pk.lt x hx, h.size, h.xm⟩)
  have X0 := hide (show BLs w0 w b jb pb mb X a n S L A hn Mw Mn T 0 (.slice none 0 0) w from ⟨World.ownsRow_nil _ _ _ _, S, h.less (fun x hx => by
    rcases hx with q | q
    · exact q
    · simp [Value.ownBlock] at q) (.inl h.xm), rfl, Tk.refl _, Only.refl _ _⟩)
  have hpg : pgs n = (n + 255) / 256 := rfl
  clear h
  obtain ⟨P0, hP0⟩ : ∃ q, pgs n = q := ⟨_, rfl⟩
  rw [hP0] at HPO h4 hpg
  have HP0 := hide hP0
  clear hP0
  go_enter Tryz.func14, Tryz.ntmps14
  go_wp2_with (go_at_call 40; refine (unhide HPO _).mono ?_; rintro e w' ⟨rfl, hw'⟩; subst w')
  go_loopw [4, 15] (fun u i wr => ∃ k : Nat, k ≤ P0 ∧ i = .int .i64 (k : Int) ∧ BLs w0 w b jb pb mb X a n S L A hn Mw Mn T (min n (256 * k)) u wr) (fun _ i _ => P0 - (intOf i).toNat)
  case atStart => exact ⟨0, by omega, rfl, by rw [Nat.mul_zero, Nat.min_zero]; exact unhide X0⟩
  case round =>
    obtain ⟨k, hk, rfl, hI⟩ := hrel
    obtain ⟨wo, rfl⟩ : ∃ wo, wo = wr := ⟨_, rfl⟩
    clear X0 c2
    obtain ⟨pv, cv, rfl, hcv⟩ := row_form hI.1
    by_cases hkn : k < P0
    · have hkn' : (k : Int) < (P0 : Int) := by omega
      obtain ⟨bd, hpg', hc⟩ := hI.read k (by rw [unhide HP0]; exact hkn)
      have HC := hide hc
      have hm : min n (256 * k) = 256 * k := by omega
      rw [hm] at HC ⊢
      have HPG := hide hpg'
      have hbd := hpg'.1
      clear hI hc hpg' hcv
      go_wp2_with fail
      refine (unhide HC).mono ?_
      rintro e x1 ⟨rfl, hI1⟩
      have HPI := hide (placesIn_any hI1.mb hn2 k (by rw [unhide HP0]; exact hkn))
      have HI1 := hide hI1
      clear hI1 HC
      obtain ⟨pn, hpn⟩ : ∃ q, pin n k = q := ⟨_, rfl⟩
      rw [hpn] at HPI
      have hpn2 : pn ≤ 256 ∧ 256 * k + pn ≤ n ∧ (pn = 256 ∨ 256 * k + pn = n) := by unfold pin at hpn; omega
      clear hpn
      go_wp2_with fail
      refine (unhide HPI).mono ?_
      rintro e x2 ⟨rfl, hb2⟩
      have X2 := hide ((unhide HI1).below hb2)
      clear HI1 HPI hb2
      obtain ⟨lm, hlm⟩ : ∃ q, (lst T (256 * k)).length = q := ⟨_, rfl⟩
      rw [hlm] at X2 ⊢
      clear hlm
      have HFO := hide (fun W => firstOf_any k (by omega) W)
      go_wp2
      go_loopw [4, 30] (fun u i wr => ∃ j : Nat, j ≤ pn ∧ i = .int .i64 (j : Int) ∧ BLs w0 w b jb pb mb X a n S L A hn Mw Mn T (256 * k + j) u wr) (fun _ i _ => pn - (intOf i).toNat)
      case atStart => exact ⟨0, by omega, rfl, unhide X2⟩
      case round =>
        obtain ⟨j, hj, rfl, hJ⟩ := hrel
        obtain ⟨wi, rfl⟩ : ∃ wi, wi = wr := ⟨_, rfl⟩
        clear X2
        obtain ⟨pw, cw, rfl, hcw⟩ := row_form hJ.1
        by_cases hjn : j < pn
        · have hjn' : (j : Int) < (pn : Int) := by omega
          have HTK := hide (fun W => isTaken_any bd hbd (256 * k + j) (by omega) W)
          have hbit : bitB bd (256 * k + j) = T (256 * k + j) := (unhide HPG).bit _ (by omega) (by omega)
          rw [hbit] at HTK
          have e1 : ((256 * k : Nat) : Int) + (j : Int) = ((256 * k + j : Nat) : Int) := by omega
          have hlen : (lst T (256 * k + j)).length ≤ 2000 := by have := lst_len_le T (256 * k + j); omega
          have HJ := hide hJ
          have hrl : ∀ q, (Value.slice pw (lst T (256 * k + j)).length cw).ownBlock = some q → w.heap.size ≤ q := fun q hq => (hJ.1.lt q hq).1
          have HRL := hide hrl
          have hws : w.heap.size ≤ wi.heap.size := hJ.2.elim (fun _ q => q.2.2.2.size)
          clear hJ hbit hcw hrl
          have hfm : 256 * k < 2000 := by omega
          obtain ⟨mm, hmm⟩ : ∃ q, 256 * k + j = q := ⟨_, rfl⟩
          have hmb : mm < 2000 := by omega
          rw [hmm] at HTK e1 HJ hlen HRL ⊢
          have HMM := hide hmm
          obtain ⟨fk, hfk⟩ : ∃ q, 256 * k = q := ⟨_, rfl⟩
          rw [hfk] at HFO e1 hfm
          clear hmm hfk
          go_wp2_with (go_at_call 43; refine (unhide HFO _).mono ?_; rintro e w' ⟨rfl, hw'⟩; subst w')
          refine (unhide HTK _).mono ?_
          rintro e y1 ⟨rfl, hb1⟩
          have HJ1 := hide ((unhide HJ).below hb1)
          have hws1 : w.heap.size ≤ y1.heap.size := Nat.le_trans hws hb1.size
          clear hb1 HTK HJ
          cases hT : T mm with
          | true =>
            have HRA := hide (show (y1.alloc (.cells #[.int .i64 (mm : Int)] 3)).ownsRow w.heap.size 3 1 (.slice pw (lst T mm).length cw) (lst T mm).length ((lst T mm).map (Value.int .i64)) from (unhide HJ1).1.alloc _)
            have HT := hide hT
            clear hT
            obtain ⟨ll, hll⟩ : ∃ q, (lst T mm).length = q := ⟨_, rfl⟩
            rw [hll] at HRA hlen ⊢
            have HLL := hide hll
            clear hll
            go_wp2_with (refine wpList_append_lies _ rfl (.tmp 40) (.tmp 42) 22 rfl w.heap.size 3 i0 (.int .i64 0) 1 8 Tryz.underlying22 (unhide HI).1 (unhide HI).2.1 (unhide HI).2.2.1 (unhide HI).2.2.2 rfl (by decide) _ ll ((lst T mm).map (Value.int .i64)) rfl (unhide HRA) ⟨y1.heap.size, 0, none⟩ 1 1 [.int .i64 (mm : Int)] rfl rfl (fun q u hu => news_one y1 3 _ q u hu) (by simp [Value.oneCell']) (by decide) (by unfold maxLen; omega) (by omega) (by simp; omega) (y1.heap.size + 1) (by simp) ?_)
            intro g5 cap5 x5 ho5 hg5 hgg hgl
            have HRR := hide (show BLs w0 w b jb pb mb X a n S L A hn Mw Mn T (mm + 1) (.slice (some ⟨g5, 0, none⟩) (ll + 1) cap5) x5 from by
              have h0 := unhide HJ1
              rw [unhide HLL] at h0
              refine BLs.grow h0 (unhide HT) ((Below.refl _ y1).alloc (Nat.le_refl _) (.cells #[.int .i64 (mm : Int)] 3)) (by rw [unhide HLL]; exact ho5) hg5 (by
                rcases hgg with q | q
                · exact .inl q
                · exact .inr (by rw [q]; simp)) hgl (unhide HXX).1 (unhide HXX).2.1 (unhide HXX).2.2)
            clear ho5 hg5 hgg hgl HRA HJ1 HLL HT
            go_wp2
            go_roundw
            case rel => exact ⟨j + 1, by omega, by go_num, by rw [← Nat.add_assoc, unhide HMM]; exact unhide HRR⟩
            case measure => simp [intOf]; omega
          | false =>
            have HRR := hide ((unhide HJ1).skip hT)
            clear hT HJ1
            generalize (lst T mm).length = ll at *
            go_wp2
            go_roundw
            case rel => exact ⟨j + 1, by omega, by go_num, by rw [← Nat.add_assoc, unhide HMM]; exact unhide HRR⟩
            case measure => simp [intOf]; omega
        · have hje : j = pn := by omega
          have hjn' : ¬ (j : Int) < (pn : Int) := by omega
          have HRR := hide (show BLs w0 w b jb pb mb X a n S L A hn Mw Mn T (min n (256 * (k + 1))) (.slice pw (lst T (256 * k + j)).length cw) wi from by rw [show min n (256 * (k + 1)) = 256 * k + j by omega]; exact hJ)
          clear hJ hcw
          generalize (lst T (256 * k + j)).length = ll at *
          go_wp2
          go_roundw
          case rel => exact ⟨k + 1, by omega, by go_num, unhide HRR⟩
          case measure => simp [intOf]; omega
    · have hke : k = P0 := by omega
      have hkn' : ¬ (k : Int) < (P0 : Int) := by omega
      have hm : min n (256 * k) = n := by omega
      rw [hm] at hI ⊢
      have HR := hide hI
      clear hI hcv
      generalize (lst T n).length = ll at *
      go_wp2
      go_ret2
      exact ⟨_, rfl, unhide HR⟩
theorem mcount_any {w0 w : World} {b jb pb mb : Nat} {X : Nat → Prop} {a n : Nat} {S : PS} {L : List ByteArray} {A : List (Nat × Nat)} {hn : Nat} {Mw Mn : List ByteArray} {T : Nat → Bool} (h : BG w0 w b jb pb mb X a n S L A hn Mw Mn T) : Calls Tryz.prog 15 #[.pointer (some ⟨mb, 0, none⟩)] w fun e w' => e = .returned (.tuple #[.int .i64 ((lst T n).length : Int), .int .i64 0]) ∧ Kept w0 w b jb pb mb X a n S L A hn Mw Mn T w' := by
  have HL := hide (mlist_any h)
  have HX := hide h.xm
  clear h
  go_enter Tryz.func15, Tryz.ntmps15
  go_wp2_with fail
  refine (unhide HL).mono ?_
  rintro e w' ⟨v, rfl, hI⟩
  obtain ⟨pv, cv, rfl, hcv⟩ := row_form hI.1
  have HI := hide hI
  clear hI hcv HL
  obtain ⟨ll, hll⟩ : ∃ q, (lst T n).length = q := ⟨_, rfl⟩
  rw [hll] at HI ⊢
  have HLL := hide hll
  clear hll
  go_wp2
  go_ret2
  obtain ⟨_, S', k1, k2, k3, k4⟩ := unhide HI
  exact ⟨by rw [unhide HLL]; rfl, S', k1.less (fun x q => .inl q) (unhide HX), k2, k3, k4⟩
theorem mused_any {w0 w : World} {b jb pb mb : Nat} {X : Nat → Prop} {a n : Nat} {S : PS} {L : List ByteArray} {A : List (Nat × Nat)} {hn : Nat} {Mw Mn : List ByteArray} {T : Nat → Bool} (h : BG w0 w b jb pb mb X a n S L A hn Mw Mn T) (i : Nat) (hi : i < n) : Calls Tryz.prog 16 #[.pointer (some ⟨mb, 0, none⟩), .int .i64 (i : Int)] w fun e w' => e = .returned (.tuple #[.bool (T i), .int .i64 0]) ∧ Kept w0 w b jb pb mb X a n S L A hn Mw Mn T w' := by
  have hn2 := h.n2
  have HH := hide (mhas_any h.mp (i : Int))
  rw [decide_eq_true (show (0 : Int) ≤ (i : Int) by omega), decide_eq_true (show (i : Int) < (n : Int) by omega)] at HH
  obtain ⟨bd, hp, hc⟩ := h.read (i / 256) (pgs_lt hi)
  have HP := hide (fun W => pageOf_any i (by omega) W)
  have HC := hide hc
  have HTK := hide (fun W => isTaken_any bd hp.1 i (by omega) W)
  rw [hp.bit i hi rfl] at HTK
  clear hc hp h
  generalize i / 256 = ik at *
  generalize T i = ti at *
  go_enter Tryz.func16, Tryz.ntmps16
  go_wp2_with (first
    | (go_at_call 45; refine (unhide HH).mono ?_; rintro e w' ⟨rfl, hw'⟩; subst w')
    | (go_at_call 46; refine (unhide HP _).mono ?_; rintro e w' ⟨rfl, hw'⟩; subst w'))
  refine (unhide HC).mono ?_
  rintro e x1 ⟨rfl, hK⟩
  have HK := hide hK
  clear hK HC HH
  go_wp2_with (go_at_call 44; refine (unhide HTK _).mono ?_; rintro e x2 ⟨rfl, hb2⟩)
  go_ret2
  obtain ⟨S', k1, k2, k3, k4⟩ := unhide HK
  exact ⟨rfl, S', k1.below hb2, k2, k3, k4.trans (Only.of_below (P := fun x => ¬ X x) hb2) (fun _ _ q => q)⟩
end Go.Proofs.YtjiigapphhekmaaGreatDoor

namespace Go.Proofs.YtjiigapphhekmaaGreatDoor
open Go.RowKit Go.Maps Go.Sort Go.Shelf
/-- What a turn of place p leaves. -/
def Turned (w0 w : World) (b jb pb mb : Nat) (X : Nat → Prop) (a n : Nat) (S : PS) (L : List ByteArray) (A : List (Nat × Nat)) (hn : Nat) (Mw : List ByteArray) (T : Nat → Bool) (p : Nat) (w' : World) : Prop :=
  ∃ S' Mn', BG w0 w' b jb pb mb X a n S' L A hn Mw Mn' (flp T p) ∧ S'.op = true ∧ ((∀ q ∈ S'.tx, q ∈ S.tx ∨ q.1 = ((a + p / 256 : Nat) : Int)) ∧ S'.keep = S.keep) ∧ Only (fun x => ¬ X x) w w'
theorem BG.turn {w0 w : World} {b jb pb mb : Nat} {X : Nat → Prop} {a n : Nat} {S : PS} {L : List ByteArray} {A : List (Nat × Nat)} {hn : Nat} {Mw Mn : List ByteArray} {T : Nat → Bool} (h : BG w0 w b jb pb mb X a n S L A hn Mw Mn T) (ho : S.op = true) (p : Nat) (hp : p < n) (bd : ByteArray) (hpg : Pg n T (p / 256) bd (Mn.getD (a + p / 256) ByteArray.empty)) (hr : roomB S ((a + p / 256 : Nat) : Int) = true) :
    Calls Tryz.prog 48 #[.pointer (some ⟨mb, 0, none⟩), .string bd, .int .i64 (p : Int)] w fun e w' => e = .returned (.int .i64 0) ∧ Turned w0 w b jb pb mb X a n S L A hn Mw T p w' := by
  have h4 := pgs_le h.n2
  have hpk := pgs_lt hp
  have hlo := h.lo
  have hhi := h.hi
  have hn2 := h.n2
  have hc := mturn_any h.pk h.mp h.xm (by omega) bd hpg.1 p (by omega) (by omega)
  have hts : (pgT (p / 256) (turnB bd p)).size = 256 := pgT_size _ (by omega) _ (by rw [turnB_size]; exact hpg.1)
  obtain ⟨r1, r2, r3, r4⟩ := h.seen.write h.srt ho (a + p / 256) (by omega) (by omega) _ hts hr
  rw [r1] at hc
  refine hc.mono ?_
  rintro e w' ⟨rfl, K, hO⟩
  refine ⟨rfl, _, _, h.next K hO r2 (h.ms.turn p hp bd hpg (by rw [h.seen.ln]; exact hhi)), r3, ⟨fun q hq => ?_, (write_rest h.seen.rst _ _).2.2⟩, hO⟩
  rw [r4] at hq
  rcases mem_put hq with e | e
  · exact .inr (by rw [e])
  · exact .inl e
theorem BG.full {w0 w : World} {b jb pb mb : Nat} {X : Nat → Prop} {a n : Nat} {S : PS} {L : List ByteArray} {A : List (Nat × Nat)} {hn : Nat} {Mw Mn : List ByteArray} {T : Nat → Bool} (h : BG w0 w b jb pb mb X a n S L A hn Mw Mn T) (ho : S.op = true) (p : Nat) (hp : p < n) (bd : ByteArray) (hpg : Pg n T (p / 256) bd (Mn.getD (a + p / 256) ByteArray.empty)) (hr : roomB S ((a + p / 256 : Nat) : Int) = false) :
    Calls Tryz.prog 48 #[.pointer (some ⟨mb, 0, none⟩), .string bd, .int .i64 (p : Int)] w fun e w' => e = .returned (.int .i64 62) ∧ Kept w0 w b jb pb mb X a n S L A hn Mw Mn T w' := by
  have h4 := pgs_le h.n2
  have hpk := pgs_lt hp
  have hlo := h.lo
  have hhi := h.hi
  have hn2 := h.n2
  have hc := mturn_any h.pk h.mp h.xm (by omega) bd hpg.1 p (by omega) (by omega)
  have hts : (pgT (p / 256) (turnB bd p)).size = 256 := pgT_size _ (by omega) _ (by rw [turnB_size]; exact hpg.1)
  obtain ⟨r1, r2, _⟩ := h.seen.full ho (a + p / 256) (by omega) (by omega) _ hts hr
  rw [r1, r2] at hc
  refine hc.mono ?_
  rintro e w' ⟨rfl, K, hO⟩
  exact ⟨rfl, S, h.next K hO h.seen h.ms, rfl, Tk.refl _, hO⟩
theorem BG.changeable {w0 w : World} {b jb pb mb : Nat} {X : Nat → Prop} {a n : Nat} {S : PS} {L : List ByteArray} {A : List (Nat × Nat)} {hn : Nat} {Mw Mn : List ByteArray} {T : Nat → Bool} (h : BG w0 w b jb pb mb X a n S L A hn Mw Mn T) : Calls Tryz.prog 47 #[.pointer (some ⟨mb, 0, none⟩)] w fun e w' => e = .returned (.bool S.op) ∧ BG w0 w' b jb pb mb X a n S L A hn Mw Mn T ∧ Only (fun x => ¬ X x) w w' := by
  have hc := changeable_any h.pk h.mp h.xm
  have e : chgS S = S := by
    unfold chgS
    cases ho : S.op with
    | true => rfl
    | false =>
      have ht := h.seen.cl ho
      rw [h.seen.rst.lost]
      obtain ⟨s, nx, jl, op, tx, keep, hh, hits, mis, lost⟩ := S
      simp only at ho ht
      subst ho ht
      rfl
  rw [e] at hc
  refine hc.mono ?_
  rintro e w' ⟨rfl, K, hO⟩
  exact ⟨rfl, h.next K hO h.seen h.ms, hO⟩
/-- The open transaction has written the map's own pages alone. -/
def TxI (S : PS) (a n : Nat) : Prop := ∀ p ∈ S.tx, (a : Int) ≤ p.1 ∧ p.1 < (a : Int) + (pgs n : Int)
theorem BG.room {w0 w : World} {b jb pb mb : Nat} {X : Nat → Prop} {a n : Nat} {S : PS} {L : List ByteArray} {A : List (Nat × Nat)} {hn : Nat} {Mw Mn : List ByteArray} {T : Nat → Bool} (h : BG w0 w b jb pb mb X a n S L A hn Mw Mn T) (ht : TxI S a n) (i : Int) : roomB S i = true := by
  have := tx_few h.srt h.n2 ht
  unfold roomB
  rw [Bool.or_eq_true]
  exact .inr (decide_eq_true (by omega))
theorem Turned.txi {w0 w : World} {b jb pb mb : Nat} {X : Nat → Prop} {a n : Nat} {S : PS} {L : List ByteArray} {A : List (Nat × Nat)} {hn : Nat} {Mw : List ByteArray} {T : Nat → Bool} {p : Nat} {w' : World} (h : Turned w0 w b jb pb mb X a n S L A hn Mw T p w') (ht : TxI S a n) (hp : p < n) : ∃ S' Mn', BG w0 w' b jb pb mb X a n S' L A hn Mw Mn' (flp T p) ∧ S'.op = true ∧ TxI S' a n ∧ S'.keep = S.keep ∧ Only (fun x => ¬ X x) w w' := by
  obtain ⟨S', Mn', k1, k2, k3, k4⟩ := h
  refine ⟨S', Mn', k1, k2, fun q hq => ?_, k3.2, k4⟩
  rcases k3.1 q hq with e | e
  · exact ht q e
  · have := pgs_lt hp
    rw [e]
    omega
set_option maxRecDepth 100000 in
set_option maxHeartbeats 1000000 in
theorem mfree_none {w0 w : World} {b jb pb mb : Nat} {X : Nat → Prop} {a n : Nat} {S : PS} {L : List ByteArray} {A : List (Nat × Nat)} {hn : Nat} {Mw Mn : List ByteArray} {T : Nat → Bool} (h : BG w0 w b jb pb mb X a n S L A hn Mw Mn T) (ho : S.op = false) (i : Nat) (hi : i < n) : Calls Tryz.prog 18 #[.pointer (some ⟨mb, 0, none⟩), .int .i64 (i : Int)] w fun e w' => e = .returned (.int .i64 61) ∧ Kept w0 w b jb pb mb X a n S L A hn Mw Mn T w' := by
  have HH := hide (mhas_any h.mp (i : Int))
  rw [decide_eq_true (show (0 : Int) ≤ (i : Int) by omega), decide_eq_true (show (i : Int) < (n : Int) by omega)] at HH
  have HC := hide h.changeable
  rw [ho] at HC
  clear h ho hi
  go_enter Tryz.func18, Tryz.ntmps18
  go_wp2_with (first | (go_at_call 45; refine (unhide HH).mono ?_; rintro e w' ⟨rfl, hw'⟩; subst w'))
  refine (unhide HC).mono ?_
  rintro e x1 ⟨rfl, h1, hO1⟩
  have H1 := hide (And.intro h1 hO1)
  clear h1 hO1 HC HH
  go_wp2
  go_ret
  exact ⟨rfl, S, (unhide H1).1, rfl, Tk.refl _, (unhide H1).2⟩
theorem mfree_place {w0 w : World} {b jb pb mb : Nat} {X : Nat → Prop} {a n : Nat} {S : PS} {L : List ByteArray} {A : List (Nat × Nat)} {hn : Nat} {Mw Mn : List ByteArray} {T : Nat → Bool} (h : BG w0 w b jb pb mb X a n S L A hn Mw Mn T) (z : Int) (hz : ¬ (0 ≤ z ∧ z < (n : Int))) : Calls Tryz.prog 18 #[.pointer (some ⟨mb, 0, none⟩), .int .i64 z] w fun e w' => e = .returned (.int .i64 72) ∧ w' = w := by
  have HH := hide (mhas_any h.mp z)
  rw [show (decide (0 ≤ z) && decide (z < (n : Int))) = false from by
    by_cases q : 0 ≤ z
    · rw [decide_eq_false (fun r => hz ⟨q, r⟩)]; simp
    · rw [decide_eq_false q]; rfl] at HH
  clear h hz
  go_enter Tryz.func18, Tryz.ntmps18
  go_wp2_with (first | (go_at_call 45; refine (unhide HH).mono ?_; rintro e w' ⟨rfl, hw'⟩; subst w'))
  go_ret
  exact ⟨rfl, rfl⟩
set_option maxRecDepth 100000 in
set_option maxHeartbeats 1000000 in
theorem mfree_free {w0 w : World} {b jb pb mb : Nat} {X : Nat → Prop} {a n : Nat} {S : PS} {L : List ByteArray} {A : List (Nat × Nat)} {hn : Nat} {Mw Mn : List ByteArray} {T : Nat → Bool} (h : BG w0 w b jb pb mb X a n S L A hn Mw Mn T) (ho : S.op = true) (i : Nat) (hi : i < n) (hT : T i = false) : Calls Tryz.prog 18 #[.pointer (some ⟨mb, 0, none⟩), .int .i64 (i : Int)] w fun e w' => e = .returned (.int .i64 71) ∧ Kept w0 w b jb pb mb X a n S L A hn Mw Mn T w' := by
  have hn2 := h.n2
  have HH := hide (mhas_any h.mp (i : Int))
  rw [decide_eq_true (show (0 : Int) ≤ (i : Int) by omega), decide_eq_true (show (i : Int) < (n : Int) by omega)] at HH
  have HC := hide h.changeable
  rw [ho] at HC
  have HPO := hide (fun W => pageOf_any i (by omega) W)
  have HPL := hide (pgs_lt hi)
  have HIB := hide (show i < 1000000 by omega)
  obtain ⟨ik, hik⟩ : ∃ q, i / 256 = q := ⟨_, rfl⟩
  rw [hik] at HPO HPL
  have HIK := hide hik
  clear h ho hik
  go_enter Tryz.func18, Tryz.ntmps18
  go_wp2_with (first | (go_at_call 45; refine (unhide HH).mono ?_; rintro e w' ⟨rfl, hw'⟩; subst w'))
  refine (unhide HC).mono ?_
  rintro e x1 ⟨rfl, h1, hO1⟩
  obtain ⟨bd, hpg, hrd⟩ := h1.read ik (unhide HPL)
  have HR := hide hrd
  have HTK := hide (fun W => isTaken_any bd hpg.1 i (unhide HIB) W)
  rw [hpg.bit i hi (unhide HIK), hT] at HTK
  have HO1 := hide hO1
  clear hrd hpg h1 hO1 HC HH
  go_wp2_with (first | (go_at_call 46; refine (unhide HPO _).mono ?_; rintro e w' ⟨rfl, hw'⟩; subst w'))
  refine (unhide HR).mono ?_
  rintro e x2 ⟨rfl, hK⟩
  have HK := hide hK
  clear hK HR
  go_wp2_with (go_at_call 44; refine (unhide HTK _).mono ?_; rintro e x3 ⟨rfl, hb3⟩)
  go_ret
  obtain ⟨S', k1, k2, k3, k4⟩ := unhide HK
  exact ⟨rfl, S', k1.below hb3, k2, k3, ((unhide HO1).trans k4 (fun _ _ q => q)).trans (Only.of_below (P := fun x => ¬ X x) hb3) (fun _ _ q => q)⟩
set_option maxRecDepth 100000 in
set_option maxHeartbeats 1000000 in
theorem mfree_ok {w0 w : World} {b jb pb mb : Nat} {X : Nat → Prop} {a n : Nat} {S : PS} {L : List ByteArray} {A : List (Nat × Nat)} {hn : Nat} {Mw Mn : List ByteArray} {T : Nat → Bool} (h : BG w0 w b jb pb mb X a n S L A hn Mw Mn T) (ho : S.op = true) (i : Nat) (hi : i < n) (hT : T i = true) (hr : roomB S ((a + i / 256 : Nat) : Int) = true) : Calls Tryz.prog 18 #[.pointer (some ⟨mb, 0, none⟩), .int .i64 (i : Int)] w fun e w' => e = .returned (.int .i64 0) ∧ Turned w0 w b jb pb mb X a n S L A hn Mw T i w' := by
  have hn2 := h.n2
  have HH := hide (mhas_any h.mp (i : Int))
  rw [decide_eq_true (show (0 : Int) ≤ (i : Int) by omega), decide_eq_true (show (i : Int) < (n : Int) by omega)] at HH
  have HC := hide h.changeable
  rw [ho] at HC
  have HPO := hide (fun W => pageOf_any i (by omega) W)
  have HPL := hide (pgs_lt hi)
  have HIB := hide (show i < 1000000 by omega)
  have HRM := hide (And.intro ho hr)
  obtain ⟨ik, hik⟩ : ∃ q, i / 256 = q := ⟨_, rfl⟩
  rw [hik] at HPO HPL
  have HIK := hide hik
  clear h ho hik hr
  go_enter Tryz.func18, Tryz.ntmps18
  go_wp2_with (first | (go_at_call 45; refine (unhide HH).mono ?_; rintro e w' ⟨rfl, hw'⟩; subst w'))
  refine (unhide HC).mono ?_
  rintro e x1 ⟨rfl, h1, hO1⟩
  obtain ⟨bd, hpg, hrd⟩ := h1.read ik (unhide HPL)
  have HR := hide hrd
  have HTK := hide (fun W => isTaken_any bd hpg.1 i (unhide HIB) W)
  rw [hpg.bit i hi (unhide HIK), hT] at HTK
  have HO1 := hide hO1
  have HPG := hide hpg
  clear hrd hpg h1 hO1 HC HH
  go_wp2_with (first | (go_at_call 46; refine (unhide HPO _).mono ?_; rintro e w' ⟨rfl, hw'⟩; subst w'))
  refine (unhide HR).mono ?_
  rintro e x2 ⟨rfl, hK⟩
  have HK := hide hK
  clear hK HR
  go_wp2_with fail
  refine (unhide HTK _).mono ?_
  rintro e x3 ⟨rfl, hb3⟩
  obtain ⟨S', k1, k2, k3, k4⟩ := unhide HK
  have HTU := hide (BG.turn (k1.below hb3) (k2.trans (unhide HRM).1) i hi bd (by rw [unhide HIK]; exact unhide HPG) (by rw [show roomB S' _ = roomB S ((a + i / 256 : Nat) : Int) from by unfold roomB; rw [k3.1]]; exact (unhide HRM).2))
  have HX := hide (And.intro k3 (((unhide HO1).trans k4 (fun _ _ q => q)).trans (Only.of_below (P := fun x => ¬ X x) hb3) (fun _ _ q => q)))
  clear k1 k2 k3 k4 hb3 HTK HK
  go_wp2_with (go_at_call 48; refine (unhide HTU).mono ?_; rintro e x4 ⟨rfl, hTu⟩)
  go_ret
  obtain ⟨S2, M2, m1, m2, m3, m4⟩ := hTu
  exact ⟨rfl, S2, M2, m1, m2, ⟨by rw [← (unhide HX).1.1]; exact m3.1, m3.2.trans (unhide HX).1.2⟩, (unhide HX).2.trans m4 (fun _ _ q => q)⟩
end Go.Proofs.YtjiigapphhekmaaGreatDoor
