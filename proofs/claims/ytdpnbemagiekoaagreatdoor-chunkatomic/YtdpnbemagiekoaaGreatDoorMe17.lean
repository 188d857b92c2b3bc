import Derived.Test.YtdpnbemagiekoaaGreatDoorMe16
import Derived.BigQuiet
import Derived.WalkKit
import Derived.Laws.BitsAll
import Derived.WalkSpells
import Derived.WalkLawsBesides
import Derived.RegionTactic
import Derived.Deep.QuietTactic
import Derived.Deep.DeepMust
set_option maxHeartbeats 1000000
namespace Go.Proofs.YtdpnbemagiekoaaGreatDoor
section
open Go.RowKit
theorem zC9 (k : Nat) (b : ByteArray) (w : World) : Calls Tryz.prog 96 #[.int .i64 (k : Int), .string b] w fun e w' => e = .returned (.string (pgI k b)) /\ Below w.heap.size w w' := by
 have HM := uB (fun W => zF3 zCv 4 (k : Int) b W)
 have HP := uB (show pgI k b = zBv 4 (k : Int) b from rfl)
 generalize pgI k b = t at *
 generalize zBv 4 (k : Int) b = t2 at *
 generalize errM 4 (k : Int) b.size = er at *
 go_enter Tryz.func96, Tryz.ntmps96
 go_wp2_with (go_at_call 169; refine (uA HM _).mono ?_; rintro e w1 ⟨rfl, hb⟩)
 go_ret
 exact ⟨by rw [uA HP]; rfl, hb⟩
def ibOk (t : ByteArray) (k : Nat) : Prop := prOk t /\ pkd t = 4 /\ pnm t = (k : Int) /\ (pbd t).size = 222
instance instDecPr (t : ByteArray) : Decidable (prOk t) := inferInstanceAs (Decidable (_ /\ _))
instance instDecIb (t : ByteArray) (k : Nat) : Decidable (ibOk t k) := inferInstanceAs (Decidable (_ /\ _))
def ibT (t : ByteArray) (k : Nat) : ByteArray := if ibOk t k then pbd t else ⟨#[]⟩
theorem zOg (k : Nat) (hk : k < 1024) (b : ByteArray) (hb : b.size = 222) : ibOk (pgI k b) k /\ ibT (pgI k b) k = b := by
 obtain ⟨h1, h2, h3, h4⟩ := zHe k hk b hb
 have h : ibOk (pgI k b) k := ⟨h1, h2, h3, by rw [h4]; exact hb⟩
 exact ⟨h, by rw [ibT, if_pos h, h4]⟩
set_option maxRecDepth 100000 in
theorem zHs (t : ByteArray) (ht : t.size <= 9223372036854775807) (k : Nat) (w : World) (hg : ETy w) : Calls Tryz.prog 124 #[.string t, .int .i64 (k : Int)] w fun e w' => e = .returned (.tuple #[.string (ibT t k), .bool (decide (ibOk t k))]) /\ Below w.heap.size w w' := by
 have HP := uB (zES zCv t ht w hg)
 clear ht hg
 go_enter Tryz.func124, Tryz.ntmps124
 go_wp2_with fail
 refine (uA HP).mono ?_
 rintro e x1 ⟨q, hb1⟩
 have HB1 := uB hb1
 clear HP hb1
 rcases q with ⟨hpr, rfl⟩ | ⟨hpr, rfl⟩
 ·by_cases h : ibOk t k
  ·have HT := uB (show ibT t k = pbd t /\ decide (ibOk t k) = true from ⟨by rw [ibT, if_pos h], decide_eq_true h⟩)
   obtain ⟨h1, h2, h3, h4⟩ := h
   rw [h2, h3]
   have h4' : (((pbd t).size : Int) != 222) = false := by rw [h4]; rfl
   have h3' : ((k : Int) != (k : Int)) = false := by simp
   clear h1 h2 h3 hpr h4
   generalize pbd t = bd at *
   go_wp2
   go_ret2
   rw [(uA HT).1, (uA HT).2]
   exact ⟨rfl, (uA HB1).trans (((Below.refl _ x1).alloc (Nat.le_refl _) _).mono (uA HB1).size)⟩
  ·have HT := uB (show ibT t k = ⟨#[]⟩ /\ decide (ibOk t k) = false from ⟨by rw [ibT, if_neg h], decide_eq_false h⟩)
   have hc : ¬ (pkd t = 4 /\ pnm t = (k : Int) /\ (pbd t).size = 222) := fun q => h ⟨hpr, q.1, q.2.1, q.2.2⟩
   clear h hpr
   generalize pkd t = kd at *
   generalize pnm t = nm at *
   generalize pbd t = bd at *
   by_cases q1 : kd = 4
   ·subst q1
    by_cases q2 : nm = (k : Int)
    ·subst q2
     have q3 : ((bd.size : Int) != 222) = true := by
      simp only [true_and] at hc
      simp; omega
     have h3' : ((k : Int) != (k : Int)) = false := by simp
     clear hc
     go_wp2
     go_ret2
     rw [(uA HT).1, (uA HT).2]
     exact ⟨rfl, (uA HB1).trans (((Below.refl _ x1).alloc (Nat.le_refl _) _).mono (uA HB1).size)⟩
    ·have q2' : (nm != (k : Int)) = true := by simpa using q2
     clear hc q2
     go_wp2
     go_ret2
     rw [(uA HT).1, (uA HT).2]
     exact ⟨rfl, (uA HB1).trans (((Below.refl _ x1).alloc (Nat.le_refl _) _).mono (uA HB1).size)⟩
   ·have q1' : (kd != 4) = true := by simpa using q1
    clear hc q1
    go_wp2
    go_ret2
    rw [(uA HT).1, (uA HT).2]
    exact ⟨rfl, (uA HB1).trans (((Below.refl _ x1).alloc (Nat.le_refl _) _).mono (uA HB1).size)⟩
 ·have h : ¬ ibOk t k := fun q => hpr q.1
  have HT := uB (show ibT t k = ⟨#[]⟩ /\ decide (ibOk t k) = false from ⟨by rw [ibT, if_neg h], decide_eq_false h⟩)
  clear h hpr
  go_wp2
  go_ret2
  rw [(uA HT).1, (uA HT).2]
  exact ⟨rfl, (uA HB1).trans (((Below.refl _ x1).alloc (Nat.le_refl _) _).mono (uA HB1).size)⟩
end
section
open Go.RowKit
theorem zIc {s : DSt} (h : 1 < s.fuse) : zAF s = { s with fuse := s.fuse - 1, dead := false } := by
 rw [zAF, if_pos (by omega), decide_eq_false (by omega)]
theorem zIM {s : DSt} (h : s.fuse = 1) : zAF s = { s with fuse := 0, dead := true } := by
 rw [zAF, if_pos (by omega), decide_eq_true h, h]
 rfl
theorem zGP {s : DSt} (h : 1 < s.fuse) (hd : s.dead = false) (j : Nat) (hj : j < s.last.length) (t : ByteArray) (ht : t.size = 256) : zBk s (j : Int) t = 0 /\ zAP s (j : Int) t = { s with now := s.now.set j t, pend := s.pend ++ [(j, t)], acts := s.acts ++ [(0, j)], fuse := s.fuse - 1 } := by
 have hi : isOk s (j : Int) := ⟨by omega, by omega⟩
 have e := zIc h
 have hq : ¬ (zAF s).dead = true := by rw [e]; exact Bool.false_ne_true
 rw [zBk, zAP, if_pos hi, if_pos hi, if_pos ht, if_pos ht, if_neg hq, if_neg hq, e, Int.toNat_natCast, <- hd]
 exact ⟨rfl, rfl⟩
theorem zKb {s : DSt} (h : s.fuse = 1) (j : Nat) (hj : j < s.last.length) (t : ByteArray) (ht : t.size = 256) : zBk s (j : Int) t = 2 /\ zAP s (j : Int) t = { s with fuse := 0, dead := true } := by
 have hi : isOk s (j : Int) := ⟨by omega, by omega⟩
 have e := zIM h
 have hq : (zAF s).dead = true := by rw [e]
 rw [zBk, zAP, if_pos hi, if_pos hi, if_pos ht, if_pos ht, if_pos hq, if_pos hq, e]
 exact ⟨rfl, rfl⟩
theorem zDl (l : List Wr1) : ∀ (s : DSt), s.dead = false -> (l.length : Int) + 1 < s.fuse -> OkW s.last.length l -> layR s l = (0, ⟨layP s.last (s.pend ++ natW l), layP s.now (natW l), [], s.acts ++ actW l ++ [(1, 0)], s.fuse - ((l.length : Int) + 1), false⟩) := by
 induction l with
 | nil =>
  intro s h hf _
  have e := zIc (s := s) (by simpa using hf)
  have hq : ¬ (zAF s).dead = true := by rw [e]; exact Bool.false_ne_true
  rw [layR, zCp, zBw, if_neg hq, if_neg hq, e]
  simp [natW, actW, layP]
 | cons x r ih =>
  intro s h hf hk
  obtain ⟨x1, x2⟩ := x
  obtain ⟨k1, k2, k3⟩ := hk (x1, x2) (by simp)
  obtain ⟨j, hj⟩ : ∃ j : Nat, x1 = (j : Int) := ⟨x1.toNat, by omega⟩
  subst hj
  rw [List.length_cons] at hf
  obtain ⟨a1, a2⟩ := zGP (s := s) (by omega) h j (by omega) x2 k3
  rw [layR, if_pos a1, a2]
  refine (ih { s with now := s.now.set j x2, pend := s.pend ++ [(j, x2)], acts := s.acts ++ [(0, j)], fuse := s.fuse - 1 } h (by show _ < s.fuse - 1; omega) (fun y hy => hk y (by simp [hy]))).trans ?_
  simp [natW, actW, layP]
  omega
theorem zEc (l : List Wr1) : ∀ (s : DSt) (f : Nat), s.dead = false -> s.fuse = (f : Int) + 1 -> f <= l.length -> OkW s.last.length l -> layR s l = (2, ⟨s.last, layP s.now (natW (l.take f)), s.pend ++ natW (l.take f), s.acts ++ actW (l.take f), 0, true⟩) := by
 induction l with
 | nil =>
  intro s f h hf hle _
  have hf0 : f = 0 := by simpa using hle
  subst hf0
  have e := zIM (s := s) (by rw [hf]; rfl)
  have hq : (zAF s).dead = true := by rw [e]
  rw [layR, zCp, zBw, if_pos hq, if_pos hq, e]
  simp [natW, actW, layP]
 | cons x r ih =>
  intro s f h hf hle hk
  obtain ⟨x1, x2⟩ := x
  obtain ⟨k1, k2, k3⟩ := hk (x1, x2) (by simp)
  obtain ⟨j, hj⟩ : ∃ j : Nat, x1 = (j : Int) := ⟨x1.toNat, by omega⟩
  subst hj
  cases f with
  | zero =>
   obtain ⟨a1, a2⟩ := zKb (s := s) (by rw [hf]; rfl) j (by omega) x2 k3
   rw [layR, if_neg (by rw [a1]; decide), a1, a2]
   simp [natW, actW, layP]
  | succ f =>
   obtain ⟨a1, a2⟩ := zGP (s := s) (by omega) h j (by omega) x2 k3
   rw [layR, if_pos a1, a2]
   refine (ih { s with now := s.now.set j x2, pend := s.pend ++ [(j, x2)], acts := s.acts ++ [(0, j)], fuse := s.fuse - 1 } f h (by show s.fuse - 1 = _; rw [hf]; omega) (by simpa using hle) (fun y hy => hk y (by simp [hy]))).trans ?_
   simp [natW, actW, layP]
def midL (L : List ByteArray) (nx : Nat) (l : List Wr1) : List ByteArray := layP (layP L (natW (recL (zAb l)))) [(1, zAq nx (secs (zAb l)))]
theorem zMJ (L : List ByteArray) (nx : Nat) (l : List Wr1) : (midL L nx l).length = L.length := by simp only [midL, zAp]
theorem zMW (L : List ByteArray) (nx : Nat) (l : List Wr1) (hL : 1 < L.length) : (midL L nx l).getD 1 ByteArray.empty = zAq nx (secs (zAb l)) := by
 unfold midL
 exact zAz _ 1 _ (by rw [zAp]; exact hL)
theorem zIP (R : List Wr1) : ∀ (m : Nat) (L : List ByteArray), m <= R.length -> 2 + R.length <= L.length -> ∀ i, i < m -> (layP L (natW ((recL R).take m))).getD (2 + i) ByteArray.empty = (R.getD i wr0).2
 | 0, _, _, _, i, hi => absurd hi (Nat.not_lt_zero i)
 | m + 1, L, hm, hL, i, hi => by
  have hmr : m < (recL R).length := by rw [zBu]; omega
  have e : (recL R).take (m + 1) = (recL R).take m ++ [(((2 + m : Nat) : Int), (R.getD m wr0).2)] := by
   rw [List.take_succ_eq_append_getElem hmr, <- zC2 hmr, zJP R m (by omega)]
  have e2 : natW [(((2 + m : Nat) : Int), (R.getD m wr0).2)] = [(2 + m, (R.getD m wr0).2)] := by
   show [((((2 + m : Nat) : Int)).toNat, (R.getD m wr0).2)] = _
   rw [Int.toNat_natCast]
  rw [e, zEj, e2, zGX]
  by_cases h : i = m
  ·subst h
   exact zAz _ _ _ (by rw [zAp]; omega)
  ·rw [zA5 _ _ _ _ (by omega)]
   exact zIP R m L (by omega) hL i (by omega)
theorem zNW (L : List ByteArray) (nx : Nat) (l : List Wr1) (hL : L.length = 128) (hl : l.length <= 16) (i : Nat) (hi : i < 16) : (midL L nx l).getD (2 + i) ByteArray.empty = ((zAb l).getD i wr0).2 := by
 have h16 := zAO l hl
 unfold midL
 rw [zAw [(1, zAq nx (secs (zAb l)))] _ (2 + i) (by intro p hp; simp at hp; subst hp; show 1 ≠ 2 + i; omega)]
 have := zIP (zAb l) 16 L (by omega) (by omega) i hi
 rwa [List.take_of_length_le (by rw [zBu]; omega)] at this
theorem zMy (L : List ByteArray) (nx : Nat) (l : List Wr1) (hl : GoodL l) (h : ∀ t ∈ L, t.size = 256) : ∀ t ∈ midL L nx l, t.size = 256 := by
 unfold midL
 refine zA4 _ _ (zA4 _ _ h (zCu (zGp l hl))) (fun p hp => ?_)
 simp at hp; subst hp; exact zBG nx _ (by rw [zDZ l hl]; decide)
theorem zL7 (l : List Wr1) (h : GoodL l) : zHQ 128 (secs (zAb l)) := fun a z r e => by
 have hs : secs (zAb l) = secs l ++ List.replicate (16 - l.length) 18 := by simp [secs, zAb, zEZ]
 have hz : z ∈ secs (zAb l) := by rw [e]; simp
 rw [hs] at hz e
 have hrng : z = 18 ∨ (19 <= z /\ z < 128 /\ z ∈ secs l) := by
  rcases List.mem_append.1 hz with q | q
  ·obtain ⟨x, hx, rfl⟩ := List.mem_map.1 q
   have := h.free x hx
   exact .inr ⟨this.1, this.2, q⟩
  ·exact .inl (List.eq_of_mem_replicate q)
 refine ⟨fun hb => ?_, by omega, by omega⟩
 obtain ⟨b1, b2⟩ := hb
 rcases hrng with q | ⟨q1, q2, q3⟩
 ·exact b1 q
 ·rcases b2 with b2 | b2
  ·exact b2 ⟨q1, q2⟩
  ·have f1 : (secs l ++ List.replicate (16 - l.length) 18).filter (fun x => x != 18) = secs l := by
    rw [List.filter_append, List.filter_eq_self.2, List.filter_eq_nil_iff.2, List.append_nil]
    ·intro x hx
     rw [List.eq_of_mem_replicate hx]
     decide
    ·intro x hx
     obtain ⟨y, hy, rfl⟩ := List.mem_map.1 hx
     have := h.free y hy
     simp
     omega
   rw [e, List.filter_append, List.filter_cons_of_pos (by simp; omega)] at f1
   have hn := h.nodup
   rw [<- f1] at hn
   obtain ⟨_, _, hd⟩ := List.nodup_append.1 hn
   exact hd z (List.mem_filter.2 ⟨b2, by simp; omega⟩) z (by simp) rfl
end
section
open Go.RowKit
theorem JK.dpost {w0 w w' : World} {b jb : Nat} {v : DV} {s s' : DSt} {nx : Nat} {lost : Bool} {X : Nat -> Prop} (h1 : Dk w w0.heap.size b v s) (h2 : Jb w jb b nx lost) (h3 : ¬ Fd b v jb) (h4 : w0.heap.size <= jb) (h5 : Below w0.heap.size w0 w) (hs : Sane s') (h7 : ∀ x, X x -> ¬ Fd b v x /\ x ≠ jb /\ x < w.heap.size) (hP : DPost w0.heap.size b v s' w w') : JK w0 w' b jb s' nx lost X /\ Only (fun x => ¬ X x) w w' := by
 obtain ⟨v', k1, k2, k3⟩ := hP
 refine ⟨⟨v', k1, Blk.only h2 k2 h3, fun q => ?_, h4, DI.only h1 h5 k2, hs, fun x hx => ?_⟩, k2.widen (fun k _ q r => (h7 k r).1 q)⟩
 ·rcases k3 jb q with r | r
  ·exact h3 r
  ·have := Blk.lt h2; omega
 ·obtain ⟨a1, a2, a3⟩ := h7 x hx
  refine ⟨fun q => ?_, a2, Nat.lt_of_lt_of_le a3 k2.size⟩
  rcases k3 x q with r | r
  ·exact a1 r
  ·omega
theorem armK {w0 w : World} {b jb : Nat} {s : DSt} {nx : Nat} {lost : Bool} {X : Nat -> Prop} (h : JK w0 w b jb s nx lost X) (n : Int) (hn : n <= 9223372036854775807) :
  Calls Tryz.prog 30 #[.pointer (some ⟨b, 0, none⟩), .int .i64 n] w fun e w' => e = .returned (.int .i64 (armE s n)) /\ JK w0 w' b jb (armS s n) nx lost X /\ Only (fun x => ¬ X x) w w' := by
 obtain ⟨v, h1, h2, h3, h4, h5, h6, h7⟩ := h
 refine (zNP w _ b v s h1 n).mono ?_
 rintro ev w' ⟨rfl, g1, g2⟩
 exact ⟨rfl, JK.dpost h1 h2 h3 h4 h5 (h6.arm n hn) h7 ⟨v, g1, g2, fun _ q => .inl q⟩⟩
end
section
open Go.RowKit
theorem zMj {w : World} {base : Nat} {p : Option Addr} {m c : Nat} {K : List Int} (h : w.ownsRow base 3 1 (.slice p m c) K.length (K.map (Value.int .i64))) : Ints w p K := fun j hj => by
 obtain ⟨g, cap, ev, _⟩ := h.form (by omega)
 simp at ev
 obtain ⟨rfl, _⟩ := ev
 refine ⟨g, 0, rfl, (h.lt g rfl).2, ?_⟩
 rw [Nat.zero_add, (zCd h rfl j (by simpa using hj)).1]
 simp [List.getD_eq_getElem?_getD, hj]
end
section
open Go.RowKit
theorem zF6 : ∀ (ps : List (Nat × ByteArray)) (ks : List Bool) (p : Nat × ByteArray), p ∈ zAE ps ks -> p ∈ ps
 | q :: r, true :: k, p, h => by
  rw [zAE] at h
  rcases List.mem_cons.1 h with e | e
  ·exact List.mem_cons.2 (.inl e)
  ·exact List.mem_cons.2 (.inr (zF6 r k p e))
 | q :: r, false :: k, p, h => by
  rw [zAE] at h
  exact List.mem_cons.2 (.inr (zF6 r k p h))
 | [], k, p, h => by simp [zAE] at h
 | _ :: _, [], p, h => by simp [zAE] at h
theorem zL0 (ps : List (Nat × ByteArray)) : ∀ (L M : List ByteArray) (k : Nat), L.length = M.length -> k < L.length -> (∃ p ∈ ps, p.1 = k) -> (layP L ps).getD k ByteArray.empty = (layP M ps).getD k ByteArray.empty := by
 induction ps with
 | nil => intro L M k _ _ h; obtain ⟨p, hp, _⟩ := h; cases hp
 | cons q r ih =>
  intro L M k hlm hk h
  show (layP (L.set q.1 q.2) r).getD k _ = (layP (M.set q.1 q.2) r).getD k _
  by_cases hr : ∃ p ∈ r, p.1 = k
  ·exact ih _ _ k (by simp [hlm]) (by simpa using hk) hr
  ·have hq : q.1 = k := by
    obtain ⟨p, hp, e⟩ := h
    rcases List.mem_cons.1 hp with rfl | hp
    ·exact e
    ·exact absurd ⟨p, hp, e⟩ hr
   have hno : ∀ p ∈ r, p.1 ≠ k := fun p hp e => hr ⟨p, hp, e⟩
   rw [zAw r _ k hno, zAw r _ k hno, hq, zAz _ _ _ hk, zAz _ _ _ (by omega)]
theorem zG6 (l : List Wr1) (hl : GoodL l) : ∀ p ∈ natW (recL (zAb l)), 2 <= p.1 /\ p.1 < 18 /\ p.2.size = 256 := fun p hp => by
 have hsz := zCu (zGp l hl) p hp
 obtain ⟨x, hx, rfl⟩ := List.mem_map.1 hp
 obtain ⟨i, hi, rfl⟩ := List.mem_map.1 hx
 have hi : i < (zAb l).length := List.mem_range.1 hi
 rw [zAO l hl.len] at hi
 refine ⟨?_, ?_, hsz⟩
 ·show 2 <= 2 + i; omega
 ·show 2 + i < 18; omega
def Crashed (P : List ByteArray -> Prop) (s : DSt) : Prop := ∀ ps, (∀ p ∈ ps, p ∈ s.pend) -> ps.length <= s.pend.length -> P (layP s.last ps)
theorem zFU : ∀ (ps : List (Nat × ByteArray)) (ks : List Bool), (zAE ps ks).length <= ps.length
 | q :: r, true :: k => by rw [zAE]; simpa using zFU r k
 | q :: r, false :: k => by rw [zAE]; exact Nat.le_succ_of_le (zFU r k)
 | [], k => by simp [zAE]
 | _ :: _, [] => by simp [zAE]
theorem Crashed.crash {P : List ByteArray -> Prop} {s : DSt} (h : Crashed P s) (K : List Int) (hK : ∀ z ∈ K, zCL s.pend.length z) : zEU s K = 0 /\ ∃ I, P I /\ zDv s K = rs I s.acts := by
 refine ⟨by rw [zEU, if_pos hK], layP s.last (zAE s.pend (zCk s.pend.length K)), h _ (fun p hp => zF6 _ _ p hp) (zFU _ _), ?_⟩
 rw [zDv, if_pos hK]
 rfl
end
section
open Go.RowKit
theorem zHG {ps : List (Nat × ByteArray)} (h : ∀ p ∈ ps, p ∈ ([] : List (Nat × ByteArray))) : ps = [] := List.eq_nil_iff_forall_not_mem.2 (fun p hp => by have := h p hp; cases this)
theorem zKv {x : Nat × ByteArray} {ps : List (Nat × ByteArray)} (h : ∀ p ∈ ps, p ∈ [x]) (hl : ps.length <= 1) : ps = [] ∨ ps = [x] := by
 match ps, hl with
 | [], _ => exact .inl rfl
 | [y], _ =>
  have := h y (by simp)
  simp at this
  rw [this]
  exact .inr rfl
theorem zC6 (l : List Wr1) (n : Nat) : natW (l.take n) = (natW l).take n := by simp [natW, List.map_take]
end
section
open Go.RowKit
def DF (w0 w : World) (b : Nat) (s : DSt) (X : Nat -> Prop) : Prop := ∃ v, Dk w w0.heap.size b v s /\ Below w0.heap.size w0 w /\ Sane s /\ ∀ x, X x -> ¬ Fd b v x /\ x < w.heap.size
theorem JK.df {w0 w : World} {b jb : Nat} {s : DSt} {nx : Nat} {lost : Bool} {X : Nat -> Prop} (h : JK w0 w b jb s nx lost X) : DF w0 w b s X := by
 obtain ⟨v, h1, h2, h3, h4, h5, h6, h7⟩ := h
 exact ⟨v, h1, h5, h6, fun x hx => ⟨(h7 x hx).1, (h7 x hx).2.2⟩⟩
theorem DF.bel {w0 w : World} {b : Nat} {s : DSt} {X : Nat -> Prop} (h : DF w0 w b s X) : Below w0.heap.size w0 w := by
 obtain ⟨v, h1, h2, _⟩ := h
 exact h2
theorem DF.di {w0 w : World} {b : Nat} {s : DSt} {X : Nat -> Prop} (h : DF w0 w b s X) : DI w0 w b s := by
 obtain ⟨v, h1, h2, h3, h4⟩ := h
 exact ⟨v, h1, h2, h3⟩
theorem DF.below {w0 w w' : World} {b : Nat} {s : DSt} {X : Nat -> Prop} (h : DF w0 w b s X) (hb : Below w.heap.size w w') : DF w0 w' b s X := by
 obtain ⟨v, h1, h2, h3, h4⟩ := h
 exact ⟨v, h1.below hb, h2.trans (hb.mono h2.size), h3, fun x hx => ⟨(h4 x hx).1, Nat.lt_of_lt_of_le (h4 x hx).2 hb.size⟩⟩
theorem DF.dpost {w0 w w' : World} {b : Nat} {v : DV} {s s' : DSt} {X : Nat -> Prop} (h1 : Dk w w0.heap.size b v s) (h2 : Below w0.heap.size w0 w) (hs : Sane s') (h4 : ∀ x, X x -> ¬ Fd b v x /\ x < w.heap.size) (hP : DPost w0.heap.size b v s' w w') : DF w0 w' b s' X /\ Only (fun x => ¬ X x) w w' := by
 obtain ⟨v', k1, k2, k3⟩ := hP
 refine ⟨⟨v', k1, DI.only h1 h2 k2, hs, fun x hx => ⟨fun q => ?_, Nat.lt_of_lt_of_le (h4 x hx).2 k2.size⟩⟩, k2.widen (fun k _ q r => (h4 k r).1 q)⟩
 rcases k3 x q with r | r
 ·exact (h4 x hx).1 r
 ·have := (h4 x hx).2; omega
theorem zPr {w0 w : World} {b : Nat} {s : DSt} {X : Nat -> Prop} (h : DF w0 w b s X) (hp : s.pend.length <= 1000000000) (p : Option Addr) (l : List Int) (n c : Nat) (hn : n = l.length) (hl : Ints w p l) (hll : l.length <= 9223372036854775807) :
  Calls Tryz.prog 32 #[.pointer (some ⟨b, 0, none⟩), .slice p n c] w fun e w' => e = .returned (.int .i64 (zEU s l)) /\ DF w0 w' b (zDv s l) X /\ Only (fun x => ¬ X x) w w' := by
 subst hn
 obtain ⟨v, h1, h2, h3, h4⟩ := h
 refine (zLJ w _ b v s h1 h2.size h3 hp p l c hl hll).mono ?_
 rintro ev w' ⟨rfl, hP⟩
 exact ⟨rfl, DF.dpost h1 h2 (h3.crash l) h4 hP⟩
end
section
open Go.RowKit
structure H8 where
 a : Int
 b : Int
 c : Int
 d : Int
 e : Int
 f : Int
 g : Int
 h : Int
def rotr (x n : Int) : Int := bits .or .u32 (x / 2 ^ n.toNat) (IntKind.u32.wrap (x * 2 ^ (32 - n).toNat))
def xr (x y : Int) : Int := bits .xor .u32 x y
def nd (x y : Int) : Int := bits .and .u32 x y
def ad (x y : Int) : Int := (x + y) % 4294967296
def zNI (e : Int) : Int := xr (xr (rotr e 6) (rotr e 11)) (rotr e 25)
def zPz (a : Int) : Int := xr (xr (rotr a 2) (rotr a 13)) (rotr a 22)
def chv (e f g : Int) : Int := xr (nd e f) (nd (bits .xor .u32 4294967295 e) g)
def majv (a b c : Int) : Int := xr (xr (nd a b) (nd a c)) (nd b c)
def sm1 (x : Int) : Int := xr (xr (rotr x 17) (rotr x 19)) (x / 1024)
def sm0 (y : Int) : Int := xr (xr (rotr y 7) (rotr y 18)) (y / 8)
def word (p : List Int) (t : Nat) : Int := ((p.getD (4 * t) 0 * 256 + p.getD (4 * t + 1) 0) * 256 + p.getD (4 * t + 2) 0) * 256 + p.getD (4 * t + 3) 0
def zMf (l : List Int) (t : Nat) : Int := ad (ad (ad (sm1 (l.getD (t - 2) 0)) (l.getD (t - 7) 0)) (sm0 (l.getD (t - 15) 0))) (l.getD (t - 16) 0)
def spr (p : List Int) : Nat -> List Int
 | 0 => []
 | t + 1 => spr p t ++ [if t < 16 then word p t else zMf (spr p t) t]
def rnd (s : H8) (k w : Int) : H8 :=
 let t1 := ad (ad (ad (ad s.h (zNI s.e)) (chv s.e s.f s.g)) k) w
 let t2 := ad (zPz s.a) (majv s.a s.b s.c)
 ⟨ad t1 t2, s.a, s.b, s.c, ad s.d t1, s.e, s.f, s.g⟩
def rnds (s : H8) (ks ws : List Int) : Nat -> H8
 | 0 => s
 | n + 1 => rnd (rnds s ks ws n) (ks.getD n 0) (ws.getD n 0)
def add8 (s t : H8) : H8 := ⟨ad s.a t.a, ad s.b t.b, ad s.c t.c, ad s.d t.d, ad s.e t.e, ad s.f t.f, ad s.g t.g, ad s.h t.h⟩
def kWords : List Int := [1116352408, 1899447441, 3049323471, 3921009573, 961987163, 1508970993, 2453635748, 2870763221, 3624381080, 310598401, 607225278, 1426881987, 1925078388, 2162078206, 2614888103, 3248222580, 3835390401, 4022224774, 264347078, 604807628, 770255983, 1249150122, 1555081692, 1996064986, 2554220882, 2821834349, 2952996808, 3210313671, 3336571891, 3584528711, 113926993, 338241895, 666307205, 773529912, 1294757372, 1396182291, 1695183700, 1986661051, 2177026350, 2456956037, 2730485921, 2820302411, 3259730800, 3345764771, 3516065817, 3600352804, 4094571909, 275423344, 430227734, 506948616, 659060556, 883997877, 958139571, 1322822218, 1537002063, 1747873779, 1955562222, 2024104815, 2227730452, 2361852424, 2428436474, 2756734187, 3204031479, 3329325298]
def comp (s : H8) (p : List Int) : H8 := add8 s (rnds s kWords (spr p 64) 64)
def zBx : H8 := ⟨0x6a09e667, 0xbb67ae85, 0x3c6ef372, 0xa54ff53a, 0x510e527f, 0x9b05688c, 0x1f83d9ab, 0x5be0cd19⟩
def zH9 (l : List Int) : List Int := l ++ [128] ++ List.replicate ((119 - l.length % 64) % 64) 0 ++ (List.range 8).map (fun i => (8 * (l.length : Int)) / 2 ^ (8 * (7 - i)) % 256)
def zBN (s : H8) (l : List Int) : Nat -> H8
 | 0 => s
 | n + 1 => comp (zBN s l n) ((l.drop (64 * n)).take 64)
def out4 (x : Int) : List Int := [x / 2 ^ 24 % 256, x / 2 ^ 16 % 256, x / 2 ^ 8 % 256, x % 256]
def zAM (s : H8) : List Int := out4 s.a ++ out4 s.b ++ out4 s.c ++ out4 s.d ++ out4 s.e ++ out4 s.f ++ out4 s.g ++ out4 s.h
def sha (l : List Int) : List Int := zAM (zBN zBx (zH9 l) ((zH9 l).length / 64))
end
section
open Go.RowKit
def part (p : List Int) (t : Nat) : Nat -> Int
 | 0 => 0
 | k + 1 => part p t k * 256 + p.getD (4 * t + k) 0
theorem zJM (p : List Int) (t : Nat) : part p t 4 = word p t := by simp [part, word]
theorem zNC (p : List Int) (hp : Bytes p) (t : Nat) : ∀ k : Nat, k <= 3 -> 0 <= part p t k /\ part p t k < 16777216 := by
 intro k hk
 have h0 := hp (4 * t); have h1 := hp (4 * t + 1); have h2 := hp (4 * t + 2)
 rcases (show k = 0 ∨ k = 1 ∨ k = 2 ∨ k = 3 by omega) with rfl | rfl | rfl | rfl <;> simp only [part, Nat.add_zero] <;> omega
theorem zNJ (x b : Int) (h0 : 0 <= x) (h1 : x < 16777216) (h2 : 0 <= b) (h3 : b < 256) : bits .or .u32 (IntKind.u32.wrap (x * 2 ^ 8)) b = x * 256 + b := by
 obtain ⟨X, rfl⟩ := Int.eq_ofNat_of_zero_le h0
 obtain ⟨B, rfl⟩ := Int.eq_ofNat_of_zero_le h2
 have e : IntKind.u32.wrap ((X : Int) * 2 ^ 8) = ((X * 256 : Nat) : Int) := by rw [IntKind.wrap_u32']; omega
 rw [e, u32_or_nat _ _ (by omega) (by omega)]
 have : X * 256 ||| B = X * 256 + B := by
  have := Nat.shiftLeft_add_eq_or_of_lt (i := 8) (b := B) (by omega) X
  rw [Nat.shiftLeft_eq, show (2 : Nat) ^ 8 = 256 from rfl] at this; exact this.symm
 rw [this]; omega
theorem zAI (p : List Int) : ∀ t, (spr p t).length = t
 | 0 => rfl
 | t + 1 => by simp [spr, zAI p t]
theorem zM1 (l : List Int) (i j : Nat) (v : Int) : (l.set i v).getD j 0 = if i = j /\ i < l.length then v else l.getD j 0 := by
 simp only [List.getD_eq_getElem?_getD, List.getElem?_set]
 by_cases h : i = j
 ·by_cases hl : i < l.length
  ·simp [h, h ▸ hl]
  ·subst h; simp [hl]
 ·simp [h]
theorem zIb (l : List Int) (n : Nat) (v : Int) (h : l.length < n) : (l ++ List.replicate (n - l.length) 0).set l.length v = l ++ [v] ++ List.replicate (n - (l.length + 1)) 0 := by
 obtain ⟨m, hm⟩ : ∃ m, n - l.length = m + 1 := ⟨n - l.length - 1, by omega⟩
 rw [hm, List.replicate_succ, List.set_append, if_neg (by omega)]
 have : n - (l.length + 1) = m := by omega
 simp [this]
def H8.vals (s : H8) : List Int := [s.a, s.b, s.c, s.d, s.e, s.f, s.g, s.h]
theorem take_set (z s : List Int) (i : Nat) (v : Int) (hz : i < z.length) (hs : i < s.length) (hv : v = z.getD i 0) : (z.take i ++ s.drop i).set i v = z.take (i + 1) ++ s.drop (i + 1) := by
 subst hv
 have h1 : (z.take i).length = i := by simp; omega
 rw [List.set_append, if_neg (by omega), h1, Nat.sub_self, List.drop_eq_getElem_cons hs, List.set_cons_zero, List.take_succ_eq_append_getElem hz, List.append_assoc, List.singleton_append]
 congr 2
 simp [hz]
theorem zE2 (z s : List Int) (i : Nat) (hz : i <= z.length) : (z.take i ++ s.drop i).getD i 0 = s.getD i 0 := by
 simp [List.getElem?_append, Nat.min_eq_left hz]
theorem zLD (s t : H8) : (add8 s t).vals = List.zipWith ad s.vals t.vals := by simp [add8, H8.vals]
end
section
open Go.RowKit
def SprInv (w : World) (p l : List Int) (wr : World) : Prop :=
 Arr wr w.heap.size 0 .u8 p /\ Arr wr (w.heap.size + 1 + 1) 0 .u32 l /\ Arr wr (w.heap.size + 1) 0 .u32 (List.replicate 64 0) /\ Below w.heap.size w wr
theorem SprInv.drew {w : World} {p l : List Int} {wr : World} (h : SprInv w p l wr) : SprInv w p l wr.drew := ⟨h.1, h.2.1, h.2.2.1, h.2.2.2.drew⟩
theorem SprInv.drewN {w : World} {p l : List Int} {wr : World} (h : SprInv w p l wr) (n : Nat) : SprInv w p l (wr.drewN n) := ⟨h.1, h.2.1, h.2.2.1, below_drewN h.2.2.2 n⟩
theorem SprInv.put {w : World} {p l l' : List Int} {wr : World} (h : SprInv w p l wr) (t : Nat) (ht : t < l.length) (v : Int) (e : l.set t v = l') : SprInv w p l' (wr.setCell ⟨w.heap.size + 1 + 1, t, none⟩ (.int .u32 v)) := by
 subst e
 exact ⟨h.1.other _ _ (.inl (by simp; omega)), h.2.1.set0 t ht v, h.2.2.1.other _ _ (.inl (by simp)), h.2.2.2.setCell (by simp; omega) _⟩
theorem SprInv.start (w : World) (p : List Int) (c : Array Value) (hc : c = ((List.replicate 64 (0 : Int)).map (Value.int .u32)).toArray) :
    SprInv w p (List.replicate 64 0) (((w.alloc (Obj.cells (List.map (Value.int IntKind.u8) p).toArray 262)).alloc (Obj.cells c 315)).alloc (Obj.cells c 315)) :=
  ⟨((zA8 w .u8 p 262 _ rfl).alloc (by simp) _).alloc (by simp; omega) _, by simpa using zA8 ((w.alloc (Obj.cells (List.map (Value.int IntKind.u8) p).toArray 262)).alloc (Obj.cells c 315)) .u32 (List.replicate 64 0) 315 c hc,
   by simpa using (zA8 (w.alloc (Obj.cells (List.map (Value.int IntKind.u8) p).toArray 262)) .u32 (List.replicate 64 0) 315 c hc).alloc (by simp) (Obj.cells c 315),
   (((Below.refl _ _).alloc (Nat.le_refl _) _).alloc (by simp) _).alloc (by simp; omega) _⟩
theorem zLV (x b y : Int) (h0 : 0 <= x) (h1 : x < 16777216) (h2 : 0 <= b) (h3 : b < 256) (hy : y = x * 256) : bits .or .u32 y b = x * 256 + b := by
 rw [<- zNJ x b h0 h1 h2 h3, hy]
 congr 1
 rw [IntKind.wrap_u32']
 omega
theorem zF8 : (Tryz.prog.info? 315).map (·.size) = some 64 := by kernel_rfl
theorem zBg : (Tryz.prog.info? 261).map (·.size) = some 8 := by kernel_rfl
theorem zDN : (Tryz.prog.info? 262).map (·.size) = some 64 := by kernel_rfl
theorem zCS (x n : Int) (w : World) (h0 : 0 <= n) (h1 : n <= 32) :
  Calls Tryz.prog 263 #[.int .u32 x, .int .u64 n] w fun e w' => e = .returned (.int .u32 (rotr x n)) /\ w' = w := by
 go_enter Tryz.func263, Tryz.ntmps263
 go_wp2
 go_ret
 exact ⟨rfl, rfl⟩
theorem zIW (p : List Int) (hp : p.length = 64) (hb : Bytes p) (w : World) :
  Calls Tryz.prog 262 #[.agg (p.map (Value.int .u8)).toArray] w fun e w' => e = .returned (.agg ((spr p 64).map (Value.int .u32)).toArray) /\ Below w.heap.size w w' := by
 have HS := uB (SprInv.start w p _ rfl)
 go_enter Tryz.func262, Tryz.ntmps262
 go_wp2
 go_loopw [11] (fun i wr => ∃ t : Nat, t <= 16 /\ i = .int .i64 t /\ SprInv w p (spr p t ++ List.replicate (64 - t) 0) wr) (fun i _ => 16 - (intOf i).toNat)
 case atStart => exact ⟨0, by omega, rfl, uA HS⟩
 case round =>
  clear HS
  obtain ⟨t, ht, rfl, hI⟩ := hrel
  by_cases htl : t < 16
  ·obtain ⟨wo, rfl⟩ : ∃ wo : World, wo = wr := ⟨_, rfl⟩
   have HI := uB hI
   clear hI
   go_wp2
   go_loopw [14] (fun i wr => ∃ k : Nat, k <= 4 /\ i = .int .i64 k /\ SprInv w p ((spr p t ++ List.replicate (64 - t) 0).set t (part p t k)) wr) (fun i _ => 4 - (intOf i).toNat)
   case atStart => exact ⟨0, by omega, rfl, by
    have := uA HI
    have e : (spr p t ++ List.replicate (64 - t) 0).set t (part p t 0) = spr p t ++ List.replicate (64 - t) 0 := by
     apply List.ext_getElem?
     intro i
     rw [List.getElem?_set]
     by_cases h : t = i
     ·subst h
      have h1 : t < t + (64 - t) := by omega
      simp [part, zAI, h1]
     ·simp [h]
    rw [e]; exact this⟩
   case round =>
    obtain ⟨k, hk, rfl, hI⟩ := hrel
    by_cases hkl : k < 4
    ·have c1 := hI.1.get0 (4 * t + k) (by omega)
     have c2 := hI.2.1.get0 t (by simp [zAI]; omega)
     rw [zM1, if_pos ⟨rfl, by simp [zAI]; omega⟩] at c2
     have f2 := hI.2.1.free0 t (by simp [zAI]; omega)
     have HI2 := uB hI
     clear hI
     have bd := zNC p hb t k (by omega)
     have bb := hb (4 * t + k)
     obtain ⟨x, hx⟩ : ∃ x, x = part p t k := ⟨_, rfl⟩
     obtain ⟨y, hy⟩ : ∃ y, y = p.getD (4 * t + k) 0 := ⟨_, rfl⟩
     rw [<- hx] at c2 bd
     rw [<- hy] at c1 bb
     have HX := uB hx; have HY := uB hy
     clear hx hy
     go_wp2
     go_region
     go_wp2
     go_roundw
     case rel =>
      refine ⟨k + 1, by omega, by go_num, ((uA HI2).put t (by simp [zAI]; omega) _ ?_).drew⟩
      rw [List.set_set, zLV x y _ bd.1 bd.2 bb.1 bb.2 (by omega)]
      rw [part, uA HX, uA HY]
     case measure => simp [intOf]; omega
    ·have : k = 4 := by omega
     subst this
     have HI2 := uB hI
     clear hI
     go_wp2
     go_roundw
     case rel =>
      refine ⟨t + 1, by omega, by go_num, ?_⟩
      have := uA HI2
      rw [zJM] at this
      have e := zIb (spr p t) 64 (word p t) (by rw [zAI]; omega)
      rw [zAI] at e
      rw [e] at this
      rw [spr, if_pos htl]; exact this
     case measure => simp [intOf]; omega
  ·have e16 : t = 16 := by omega
   rw [e16] at hI
   have HI2 := uB hI
   clear hI e16
   go_wp2
   go_loopw [6] (fun i wr => ∃ t : Nat, 16 <= t /\ t <= 64 /\ i = .int .i64 t /\ SprInv w p (spr p t ++ List.replicate (64 - t) 0) wr) (fun i _ => 64 - (intOf i).toNat)
   case atStart => exact ⟨16, by omega, by omega, rfl, uA HI2⟩
   case round =>
    clear HI2
    clear ht htl
    obtain ⟨t, ht1, ht2, rfl, hI⟩ := hrel
    by_cases htl : t < 64
    ·have gd : ∀ j, j < t -> (spr p t ++ List.replicate (64 - t) 0).getD j 0 = (spr p t).getD j 0 := by
      intro j hj
      simp [List.getElem?_append, zAI, hj]
     have hlen : (spr p t ++ List.replicate (64 - t) 0).length = 64 := by simp [zAI]; omega
     have c2 := hI.2.1.get0 (t - 2) (by omega)
     have c15 := hI.2.1.get0 (t - 15) (by omega)
     have c7 := hI.2.1.get0 (t - 7) (by omega)
     have c16 := hI.2.1.get0 (t - 16) (by omega)
     have c0 := hI.2.1.get0 t (by omega)
     have f0 := hI.2.1.free0 t (by omega)
     rw [gd _ (by omega)] at c2 c15 c7 c16
     obtain ⟨z, hz⟩ : ∃ z, z = (spr p t ++ List.replicate (64 - t) 0).getD t 0 := ⟨_, rfl⟩
     rw [<- hz] at c0
     clear hz
     obtain ⟨x2, h2⟩ : ∃ z, z = (spr p t).getD (t - 2) 0 := ⟨_, rfl⟩
     obtain ⟨x15, h15⟩ : ∃ z, z = (spr p t).getD (t - 15) 0 := ⟨_, rfl⟩
     obtain ⟨x7, h7⟩ : ∃ z, z = (spr p t).getD (t - 7) 0 := ⟨_, rfl⟩
     obtain ⟨x16, h16⟩ : ∃ z, z = (spr p t).getD (t - 16) 0 := ⟨_, rfl⟩
     rw [<- h2] at c2
     rw [<- h15] at c15
     rw [<- h7] at c7
     rw [<- h16] at c16
     have hn : zMf (spr p t) t = ad (ad (ad (sm1 x2) x7) (sm0 x15)) x16 := by rw [zMf, h2, h15, h7, h16]
     have HN := uB hn
     have HI2 := uB hI
     have HL := uB hlen
     clear hI hlen gd h2 h15 h7 h16 hn
     have e2 : ((t : Int) - 2).toNat = t - 2 := by omega
     have e15 : ((t : Int) - 15).toNat = t - 15 := by omega
     have e7 : ((t : Int) - 7).toNat = t - 7 := by omega
     have e16 : ((t : Int) - 16).toNat = t - 16 := by omega
     go_wp2
     go_quiet (fail)
     go_wp2_with (go_at_call 263; refine (zCS _ _ _ (by decide) (by decide)).mono ?_; rintro e w' ⟨rfl, rfl⟩)
     go_region
     go_wp2
     go_roundw
     case rel =>
      refine ⟨t + 1, by omega, by omega, by go_num, ?_⟩
      refine ((uA HI2).drewN _).put t (by rw [uA HL]; exact htl) _ ?_
      have e := zIb (spr p t) 64 (zMf (spr p t) t) (by rw [zAI]; exact htl)
      rw [zAI] at e
      rw [spr, if_neg (by omega), <- e, uA HN]
      congr 1
      simp only [ad, sm1, sm0, xr]
      omega
     case measure => simp [intOf]; omega
    ·have e64 : t = 64 := by omega
     rw [e64] at hI
     simp only [Nat.sub_self, List.replicate_zero, List.append_nil] at hI
     obtain ⟨_, hA, hR, hB⟩ := hI
     clear e64
     have hr := uB hA.range
     have ht := uB hR.there
     have HB := uB hB
     clear hA hR hB
     go_wp2_with (first
      | (refine wpList_load_mid rfl 315 (.tmp 3) rfl (w.heap.size + 1 + 1) 0 rfl _ _ (uA hr) Tryz.underlying315 rfl (by rw [zF8]; simp [zAI]) ?_)
      | (refine wpList_store_mid rfl 315 (.tmp 2) (.tmp 76) rfl (w.heap.size + 1) 0 _ rfl rfl (by simpa [zAI] using uA ht) (by rw [zF8]; simp [zAI]) (all_oneCell_toArray (by simp [Value.oneCell'])) ?_))
     have hld := run_loadVar_mid (P := Tryz.prog) _ (w.heap.size + 1) 0 315 _ _ (World.rangeAt_setCells_same wr (w.heap.size + 1) 0 ((spr p 64).map (Value.int .u32)) (by simpa [zAI] using uA ht)) Tryz.underlying315 rfl (by rw [zF8]; simp [zAI])
     refine bodyPost_ret (v := .agg ((spr p 64).map (Value.int .u32)).toArray) ?_ rfl ⟨rfl, zAc (by omega) _ _ (uA HB)⟩
     exact zAv rfl _ _ _ ⟨w.heap.size + 1, 0, none⟩ rfl _ hld
end
end Go.Proofs.YtdpnbemagiekoaaGreatDoor
