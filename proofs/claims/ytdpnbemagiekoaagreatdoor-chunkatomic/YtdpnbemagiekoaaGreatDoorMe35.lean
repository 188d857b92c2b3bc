import Derived.Test.YtdpnbemagiekoaaGreatDoorMe34
set_option maxHeartbeats 2000000
set_option maxRecDepth 100000
namespace Go.Proofs.YtdpnbemagiekoaaGreatDoor
section
open Go.RowKit Go.Maps Go.Sort Go.Shelf
def bmp (c : Nat -> Nat) (k v : Nat) : Nat -> Nat := fun j => if j = k then v else c j
theorem zET (c : Nat -> Nat) (k v : Nat) : bmp c k v k = v := if_pos rfl
theorem zB1 (c : Nat -> Nat) {j k : Nat} (v : Nat) (h : j ≠ k) : bmp c k v j = c j := if_neg h
theorem zOz (D : Nat -> ByteArray) : Rp (fun _ => none) (fun _ => false) D (fun _ => 0) :=
 ⟨fun _ _ h => absurd h (Nat.lt_irrefl 0), fun _ _ _ _ _ h => (by cases h), fun _ _ _ h => (by cases h), fun _ _ => rfl, fun _ => Nat.zero_le _⟩
theorem zIL {i j : Nat} (hi : i < 21) (hj : j < 21) (h : dgB (bkB i) = dgB (bkB j)) : i = j := by
 rcases Nat.decEq i j with q | q
 ·exact absurd h (zNe i j hi hj q)
 ·exact q
theorem Rp.saveN {T : Nat -> En} {B : Nat -> Bool} {D : Nat -> ByteArray} {c : Nat -> Nat} (h : Rp T B D c) {k p : Nat} (hk : k < 21) (hc : c k = 0) (hl : Lea B 21 p) : Rp (upd T p (some (dgB (bkB k), 1))) (flp B p) (fun i => if i = p then bkB k else D i) (bmp c k 1) := by
 have hp := hl.1
 have hTp : T p = none := by
  have := h.bit p hp
  rw [hl.2.1] at this
  cases e : T p with
  | none => rfl
  | some x => rw [e] at this; cases this
 refine ⟨fun j hj hpos => ?_, fun j hj hz q cc e => ?_, fun q d cc e => ?_, fun q hq => ?_, fun j => ?_⟩
 ·by_cases e : j = k
  ·subst e
   exact ⟨p, hp, by rw [upd, if_pos rfl, zET], if_pos rfl⟩
  ·rw [zB1 c 1 e] at hpos
   obtain ⟨q, hq, hTq, hDq⟩ := h.hit j hj hpos
   have hqp : q ≠ p := fun e' => by rw [e', hTp] at hTq; cases hTq
   exact ⟨q, hq, by rw [upd, if_neg hqp, zB1 c 1 e]; exact hTq, by show (if q = p then bkB k else D q) = _; rw [if_neg hqp]; exact hDq⟩
 ·have hjk : j ≠ k := fun e' => by rw [e', zET] at hz; cases hz
  rw [zB1 c 1 hjk] at hz
  by_cases e' : q = p
  ·rw [upd, if_pos e'] at e
   exact hjk (zIL hj hk (Prod.mk.inj (Option.some.inj e)).1.symm)
  ·rw [upd, if_neg e'] at e
   exact h.mis j hj hz q cc e
 ·by_cases e' : q = p
  ·rw [upd, if_pos e'] at e
   cases e
   exact ⟨k, hk, rfl, (zET c k 1).symm, if_pos e'⟩
  ·rw [upd, if_neg e'] at e
   obtain ⟨j, hj, hd, hcc, hDq⟩ := h.own q d cc e
   have hjk : j ≠ k := fun e2 => by rw [hd] at e; exact h.mis k hk hc q cc (by rw [<- e2]; exact e)
   exact ⟨j, hj, hd, by rw [zB1 c 1 hjk]; exact hcc, by show (if q = p then bkB k else D q) = _; rw [if_neg e']; exact hDq⟩
 ·by_cases e' : q = p
  ·subst e'
   simp [flp, upd, hl.2.1]
  ·have := h.bit q hq
   simp [flp, upd, e', this]
 ·unfold bmp
  split
  ·omega
  ·exact h.le j
theorem Rp.turn {T : Nat -> En} {B : Nat -> Bool} {D : Nat -> ByteArray} {c : Nat -> Nat} (h : Rp T B D c) (hT : TOk 21 T) {k p v : Nat} (hk : k < 21) (hTp : T p = some (dgB (bkB k), c k)) (hDp : D p = bkB k) (hp : p < 21) (hv1 : 1 <= v) (hv2 : v <= 65535) : Rp (upd T p (some (dgB (bkB k), v))) B D (bmp c k v) := by
 refine ⟨fun j hj hpos => ?_, fun j hj hz q cc e => ?_, fun q d cc e => ?_, fun q hq => ?_, fun j => ?_⟩
 ·by_cases e : j = k
  ·subst e
   exact ⟨p, hp, by rw [upd, if_pos rfl, zET], hDp⟩
  ·rw [zB1 c v e] at hpos
   obtain ⟨q, hq, hTq, hDq⟩ := h.hit j hj hpos
   have hqp : q ≠ p := fun e' => by
    rw [e', hTp] at hTq
    exact e (zIL hj hk (Prod.mk.inj (Option.some.inj hTq)).1.symm)
   exact ⟨q, hq, by rw [upd, if_neg hqp, zB1 c v e]; exact hTq, hDq⟩
 ·have hjk : j ≠ k := fun e' => by rw [e', zET] at hz; omega
  rw [zB1 c v hjk] at hz
  by_cases e' : q = p
  ·rw [upd, if_pos e'] at e
   exact hjk (zIL hj hk (Prod.mk.inj (Option.some.inj e)).1.symm)
  ·rw [upd, if_neg e'] at e
   exact h.mis j hj hz q cc e
 ·by_cases e' : q = p
  ·rw [upd, if_pos e'] at e
   cases e
   exact ⟨k, hk, rfl, (zET c k v).symm, by rw [e']; exact hDp⟩
  ·rw [upd, if_neg e'] at e
   obtain ⟨j, hj, hd, hcc, hDq⟩ := h.own q d cc e
   have hjk : j ≠ k := fun e2 => by
    rw [hd, e2] at e
    exact e' (hT.one q p _ _ _ e hTp)
   exact ⟨j, hj, hd, by rw [zB1 c v hjk]; exact hcc, hDq⟩
 ·by_cases e' : q = p
  ·subst e'
   rw [h.bit q hq, hTp, upd, if_pos rfl]
   rfl
  ·rw [h.bit q hq, upd, if_neg e']
 ·unfold bmp
  split
  ·exact hv2
  ·exact h.le j
theorem Rp.gone {T : Nat -> En} {B : Nat -> Bool} {D : Nat -> ByteArray} {c : Nat -> Nat} (h : Rp T B D c) (hT : TOk 21 T) {k p : Nat} (hk : k < 21) (hTp : T p = some (dgB (bkB k), c k)) (hp : p < 21) : Rp (upd T p none) (flp B p) D (bmp c k 0) := by
 refine ⟨fun j hj hpos => ?_, fun j hj hz q cc e => ?_, fun q d cc e => ?_, fun q hq => ?_, fun j => ?_⟩
 ·have hjk : j ≠ k := fun e' => by rw [e', zET] at hpos; omega
  rw [zB1 c 0 hjk] at hpos
  obtain ⟨q, hq, hTq, hDq⟩ := h.hit j hj hpos
  have hqp : q ≠ p := fun e' => by
   rw [e', hTp] at hTq
   exact hjk (zIL hj hk (Prod.mk.inj (Option.some.inj hTq)).1.symm)
  exact ⟨q, hq, by rw [upd, if_neg hqp, zB1 c 0 hjk]; exact hTq, hDq⟩
 ·by_cases e' : q = p
  ·rw [upd, if_pos e'] at e
   cases e
  ·rw [upd, if_neg e'] at e
   by_cases hjk : j = k
   ·rw [hjk] at e
    exact e' (hT.one q p _ _ _ e hTp)
   ·rw [zB1 c 0 hjk] at hz
    exact h.mis j hj hz q cc e
 ·by_cases e' : q = p
  ·rw [upd, if_pos e'] at e
   cases e
  ·rw [upd, if_neg e'] at e
   obtain ⟨j, hj, hd, hcc, hDq⟩ := h.own q d cc e
   have hjk : j ≠ k := fun e2 => by
    rw [hd, e2] at e
    exact e' (hT.one q p _ _ _ e hTp)
   exact ⟨j, hj, hd, by rw [zB1 c 0 hjk]; exact hcc, hDq⟩
 ·by_cases e' : q = p
  ·subst e'
   have := h.bit q hq
   rw [hTp] at this
   simp [flp, upd, this]
  ·have := h.bit q hq
   simp [flp, upd, e', this]
 ·unfold bmp
  split
  ·exact Nat.zero_le _
  ·exact h.le j
theorem Rp.free {T : Nat -> En} {B : Nat -> Bool} {D : Nat -> ByteArray} {c : Nat -> Nat} (h : Rp T B D c) (hT : TOk 21 T) {k : Nat} (hk : k < 21) (hc : c k = 0) : ∃ p, Lea B 21 p := by
 have hlt : (lstE T 21).length < 21 := by
  rw [h.len hT]
  unfold cnt
  have h1 : ((List.range 21).filter fun j => decide (0 < c j)).length <= ((List.range 21).filter fun j => decide (j ≠ k)).length := by
   refine List.Sublist.length_le ?_
   have e : ((List.range 21).filter fun j => decide (0 < c j)) = (((List.range 21).filter fun j => decide (j ≠ k)).filter fun j => decide (0 < c j)) := by
    rw [List.filter_filter]
    refine List.filter_congr (fun j _ => ?_)
    by_cases e : j = k
    ·simp [e, hc]
    ·simp [e]
   rw [e]
   exact List.filter_sublist
  have h2 : ((List.range 21).filter fun j => decide (j ≠ k)).length = 20 := by
   have : ∀ k, k < 21 -> ((List.range 21).filter fun j => decide (j ≠ k)).length = 20 := by decide
   exact this k hk
  omega
 have hex : ∃ p, p < 21 /\ B p = false := by
  apply Classical.byContradiction
  intro hno
  have hall : ∀ p, p < 21 -> (T p).isSome = true := fun p hp => by
   rw [<- h.bit p hp]
   cases e : B p with
   | true => rfl
   | false => exact absurd ⟨p, hp, e⟩ hno
  have : (lstE T 21) = List.range 21 := List.filter_eq_self.2 (fun p hp => hall p (List.mem_range.1 hp))
  rw [this, List.length_range] at hlt
  omega
 obtain ⟨p, hp, hB⟩ := hex
 have key : ∀ m, m <= 21 -> (∃ p, Lea B 21 p) ∨ ∀ i, i < m -> B i = true := by
  intro m
  induction m with
  | zero => exact fun _ => .inr (fun i hi => absurd hi (Nat.not_lt_zero i))
  | succ m ih =>
   intro hm
   rcases ih (by omega) with q | q
   ·exact .inl q
   ·cases e : B m with
    | true => exact .inr (fun i hi => by
      rcases Nat.lt_succ_iff_lt_or_eq.1 hi with r | r
      ·exact q i r
      ·rw [r]; exact e)
    | false => exact .inl ⟨m, by omega, e, q⟩
 rcases key 21 (Nat.le_refl _) with q | q
 ·exact q
 ·rw [q p hp] at hB
  cases hB
end
section
open Go.RowKit Go.Maps Go.Sort Go.Shelf
structure StOv (ha : Nat) (O I : List ByteArray) : Prop where
 len : I.length = 128
 size : ∀ t ∈ I, t.size = 256
 head : I.getD 1 ByteArray.empty = zAq ha []
 free : zF9 I O
structure StMv (hb : Nat) (O : List ByteArray) (l : List Wr1) (I : List ByteArray) : Prop where
 len : I.length = 128
 size : ∀ t ∈ I, t.size = 256
 head : I.getD 1 ByteArray.empty = zAq hb (secs (zAb l))
 recs : ∀ i, i < 16 -> I.getD (2 + i) ByteArray.empty = ((zAb l).getD i wr0).2
 rest : ∀ k, 19 <= k -> (∀ p ∈ natW l, p.1 ≠ k) -> I.getD k ByteArray.empty = O.getD k ByteArray.empty
structure StNv (hb : Nat) (O : List ByteArray) (l : List Wr1) (I : List ByteArray) : Prop where
 len : I.length = 128
 size : ∀ t ∈ I, t.size = 256
 head : I.getD 1 ByteArray.empty = zAq hb []
 free : zF9 I (layP O (natW l))
theorem StOv.lay {ha : Nat} {O I : List ByteArray} (h : StOv ha O I) (ps : List (Nat × ByteArray)) (hp : ∀ p ∈ ps, 2 <= p.1 /\ p.1 < 18 /\ p.2.size = 256) : StOv ha O (layP I ps) := by
 refine ⟨by rw [zAp]; exact h.len, zA4 _ _ h.size (fun p q => (hp p q).2.2), ?_, fun k h1 h2 => ?_⟩
 ·rw [zAw _ _ 1 (fun p q => by have := hp p q; omega)]; exact h.head
 ·rw [zAp] at h2
  rw [zAw _ _ k (fun p q => by have := hp p q; omega)]
  exact h.free k h1 h2
theorem StMv.lay {hb : Nat} {O I : List ByteArray} {l : List Wr1} (h : StMv hb O l I) (hl : GoodL l) (ps : List (Nat × ByteArray)) (hp : ∀ p ∈ ps, p ∈ natW (zAb l)) : StMv hb O l (layP I ps) := by
 have hin : ∀ p ∈ ps, (p.1 = 18 ∨ ∃ q ∈ natW l, q.1 = p.1) /\ 18 <= p.1 /\ p.2.size = 256 := fun p hq => by
  have hm := hp p hq
  have hsz := zCu (zDR l hl) p hm
  rw [zAb, zEj] at hm
  rcases List.mem_append.1 hm with r | r
  ·refine ⟨.inr ⟨p, r, rfl⟩, ?_, hsz⟩
   obtain ⟨x, hx, rfl⟩ := List.mem_map.1 r
   have := hl.free x hx
   show 18 <= x.1.toNat
   omega
  ·obtain ⟨x, hx, rfl⟩ := List.mem_map.1 r
   have := List.eq_of_mem_replicate hx
   subst this
   exact ⟨.inl rfl, Nat.le_refl 18, hsz⟩
 refine ⟨by rw [zAp]; exact h.len, zA4 _ _ h.size (fun p q => (hin p q).2.2), ?_, fun i hi => ?_, fun k h1 h2 => ?_⟩
 ·rw [zAw _ _ 1 (fun p q => by have := (hin p q).2.1; omega)]; exact h.head
 ·rw [zAw _ _ (2 + i) (fun p q => by have := (hin p q).2.1; omega)]; exact h.recs i hi
 ·rw [zAw _ _ k (fun p q => ?_)]
  ·exact h.rest k h1 h2
  ·rcases (hin p q).1 with r | ⟨q', hq', r⟩
   ·omega
   ·rw [<- r]; exact h2 q' hq'
theorem StMv.done {hb : Nat} {O I : List ByteArray} {l : List Wr1} (h : StMv hb O l I) (hl : GoodL l) (hO : O.length = 128) : StNv hb O l (layP (layP I (natW (zAb l))) [(1, zAq hb [])]) := by
 have hM := h.lay hl (natW (zAb l)) (fun _ q => q)
 refine ⟨by rw [zAp, zAp]; exact h.len, zA4 _ _ hM.size (fun p hp => by simp at hp; subst hp; exact zBG hb [] (by simp)), ?_, fun k h1 h2 => ?_⟩
 ·exact zAz _ 1 _ (by rw [zAp, h.len]; decide)
 ·rw [zAp, zAp, h.len] at h2
  rw [zAw [(1, zAq hb [])] _ k (by intro p hp; simp at hp; subst hp; show 1 ≠ k; omega)]
  by_cases hk : ∃ p ∈ natW l, p.1 = k
  ·have e : (layP I (natW (zAb l))).getD k ByteArray.empty = (layP I (natW l)).getD k ByteArray.empty := by
    rw [zAb, zEj, zFT, zAw (natW (List.replicate (16 - l.length) zEZ)) _ k (by
     intro p hp
     obtain ⟨x, hx, rfl⟩ := List.mem_map.1 hp
     have := List.eq_of_mem_replicate hx
     subst this
     show 18 ≠ k
     omega)]
   rw [e]
   exact zL0 _ _ _ k (by rw [h.len, hO]) (by rw [h.len]; exact h2) hk
  ·have hno : ∀ p ∈ natW l, p.1 ≠ k := fun p hp e => hk ⟨p, hp, e⟩
   rw [hM.rest k h1 hno, zAw _ _ k hno]
theorem StMv.of_mid {hb : Nat} {O : List ByteArray} {l : List Wr1} (hl : GoodL l) (hO : O.length = 128) (hs : ∀ t ∈ O, t.size = 256) : StMv hb O l (midL O hb l) := by
 refine ⟨by rw [zMJ]; exact hO, zMy O hb l hl hs, zMW O hb l (by omega), fun i hi => zNW O hb l hO hl.len i hi, fun k h1 _ => ?_⟩
 unfold midL
 rw [zAw [(1, _)] _ k (by intro p hp; simp at hp; subst hp; show 1 ≠ k; omega), zAw _ _ k (by
  intro p hp
  obtain ⟨x, hx, rfl⟩ := List.mem_map.1 hp
  obtain ⟨i, hi, rfl⟩ := List.mem_map.1 hx
  have hi : i < (zAb l).length := List.mem_range.1 hi
  rw [zAO l hl.len] at hi
  show 2 + i ≠ k
  omega)]
def StAv (ha hb : Nat) (O : List ByteArray) (l : List Wr1) (must : Bool) (I : List ByteArray) : Prop := (StOv ha O I /\ must = false) ∨ StMv hb O l I ∨ StNv hb O l I
theorem StAv.len {ha hb : Nat} {O : List ByteArray} {l : List Wr1} {I : List ByteArray} {m : Bool} (h : StAv ha hb O l m I) : I.length = 128 := by
 rcases h with ⟨q, _⟩ | q | q
 ·exact q.len
 ·exact q.len
 ·exact q.len
theorem StAv.size {ha hb : Nat} {O : List ByteArray} {l : List Wr1} {I : List ByteArray} {m : Bool} (h : StAv ha hb O l m I) : ∀ t ∈ I, t.size = 256 := by
 rcases h with ⟨q, _⟩ | q | q
 ·exact q.size
 ·exact q.size
 ·exact q.size
def zB0 (hb : Nat) (l : List Wr1) : Wr1 := (1, zAq hb (secs (zAb l)))
def zBl (hb : Nat) : Wr1 := (1, zAq hb [])
theorem zLa {hb : Nat} {O I : List ByteArray} {l : List Wr1} (h : StMv hb O l I) (hl : GoodL l) (hO : O.length = 128) (A : List (Nat × Nat)) (f : Nat) (h2 : f <= 1000000) :
  ∃ e s', zAH ⟨I, I, [], A, (f : Int), false⟩ [zAb l, [(zBl hb)]] = (e, s') /\ (e = 0 ∨ (e = 2 /\ 1 <= f)) /\ s'.pend.length <= 16 /\ s'.acts.length <= A.length + 19 /\ (e = 0 -> Crashed (StNv hb O l) s') /\ Crashed (fun I => StMv hb O l I ∨ StNv hb O l I) s' := by
 have h16 := zAO l hl.len
 have hok : OkW I.length (zAb l) := by rw [h.len]; exact zDR l hl
 have hM := h.lay hl (natW (zAb l)) (fun _ q => q)
 have hk2 : OkW (layP I (natW (zAb l))).length [(zBl hb)] := zDM _ (by rw [zAp, h.len]; decide) hb _ (by simp)
 by_cases c0 : f = 0
 ·subst c0
  have e1 := zDA I A (zAb l) hok
  have e2 := zDA (layP I (natW (zAb l))) (A ++ actW (zAb l) ++ [(1, 0)]) [(zBl hb)] hk2
  have hC : Crashed (StNv hb O l) (rs (layP (layP I (natW (zAb l))) (natW [(zBl hb)])) (A ++ actW (zAb l) ++ [(1, 0)] ++ actW [(zBl hb)] ++ [(1, 0)])) := fun ps hp _ => by
   rw [zHG hp]
   exact h.done hl hO
  refine ⟨0, rs (layP (layP I (natW (zAb l))) (natW [(zBl hb)])) (A ++ actW (zAb l) ++ [(1, 0)] ++ actW [(zBl hb)] ++ [(1, 0)]), ?_, .inl rfl, Nat.zero_le _, ?_, fun _ => hC, fun ps hp q => .inr (hC ps hp q)⟩
  ·show zAH (rs I A) [zAb l, [(zBl hb)]] = _
   rw [zAH, e1, if_pos rfl, zAH]
   simp only
   rw [e2, if_pos rfl, zAH]
  ·simp [rs, actW, h16]
 by_cases c1 : f <= 17
 ·have e1 := zEc (zAb l) ⟨I, I, [], A, (f : Int), false⟩ (f - 1) rfl (by show (f : Int) = _; omega) (by omega) hok
  refine ⟨2, ⟨I, layP I (natW ((zAb l).take (f - 1))), [] ++ natW ((zAb l).take (f - 1)), A ++ actW ((zAb l).take (f - 1)), 0, true⟩, ?_, .inr ⟨rfl, by omega⟩, ?_, ?_, fun q => (by cases q), fun ps hp _ => .inl (h.lay hl ps (fun p q => ?_))⟩
  ·rw [zAH, e1, if_neg (show ¬ (2 : Int) = 0 by decide)]
  ·simp [natW]; omega
  ·simp [actW]; omega
  ·have := hp p q
   rw [List.nil_append, zC6] at this
   exact List.mem_of_mem_take this
 ·have e1 := zDl (zAb l) ⟨I, I, [], A, (f : Int), false⟩ rfl (by show _ < (f : Int); rw [h16]; omega) hok
  have f1 : layR ⟨I, I, [], A, (f : Int), false⟩ (zAb l) = (0, ⟨layP I (natW (zAb l)), layP I (natW (zAb l)), [], A ++ actW (zAb l) ++ [(1, 0)], (f : Int) - 17, false⟩) := by
   rw [e1, h16]
   rfl
  by_cases c2 : f <= 19
  ·have e2 := zEc [(zBl hb)] ⟨layP I (natW (zAb l)), layP I (natW (zAb l)), [], A ++ actW (zAb l) ++ [(1, 0)], (f : Int) - 17, false⟩ (f - 18) rfl (by show (f : Int) - 17 = _; omega) (by simp; omega) hk2
   refine ⟨2, ⟨layP I (natW (zAb l)), layP (layP I (natW (zAb l))) (natW ([(zBl hb)].take (f - 18))), [] ++ natW ([(zBl hb)].take (f - 18)), A ++ actW (zAb l) ++ [(1, 0)] ++ actW ([(zBl hb)].take (f - 18)), 0, true⟩, ?_, .inr ⟨rfl, by omega⟩, ?_, ?_, fun q => (by cases q), fun ps hp hlen => ?_⟩
   ·rw [zAH, f1, if_pos rfl, zAH]
    simp only
    rw [e2, if_neg (show ¬ (2 : Int) = 0 by decide)]
   ·simp [natW]; omega
   ·simp [actW, h16]; omega
   ·have hp' : ∀ p ∈ ps, p ∈ [((1 : Nat), zAq hb [])] := fun p q => by
     have := hp p q
     rw [List.nil_append, zC6] at this
     exact List.mem_of_mem_take this
    have hl1 : ps.length <= 1 := by
     refine Nat.le_trans hlen ?_
     simp [natW]; omega
    rcases zKv hp' hl1 with q | q
    ·subst q; exact .inl hM
    ·subst q; exact .inr (h.done hl hO)
  ·have e2 := zDl [(zBl hb)] ⟨layP I (natW (zAb l)), layP I (natW (zAb l)), [], A ++ actW (zAb l) ++ [(1, 0)], (f : Int) - 17, false⟩ rfl (by show ((1 : Nat) : Int) + 1 < (f : Int) - 17; omega) hk2
   have hC : Crashed (StNv hb O l) ⟨layP (layP I (natW (zAb l))) ([] ++ natW [(zBl hb)]), layP (layP I (natW (zAb l))) (natW [(zBl hb)]), [], A ++ actW (zAb l) ++ [(1, 0)] ++ actW [(zBl hb)] ++ [(1, 0)], (f : Int) - 17 - (((1 : Nat) : Int) + 1), false⟩ := fun ps hp _ => by
    rw [zHG hp]
    exact h.done hl hO
   refine ⟨0, ⟨layP (layP I (natW (zAb l))) ([] ++ natW [(zBl hb)]), layP (layP I (natW (zAb l))) (natW [(zBl hb)]), [], A ++ actW (zAb l) ++ [(1, 0)] ++ actW [(zBl hb)] ++ [(1, 0)], (f : Int) - 17 - (((1 : Nat) : Int) + 1), false⟩, ?_, .inl rfl, Nat.zero_le _, ?_, fun _ => hC, fun ps hp q => .inr (hC ps hp q)⟩
   ·rw [zAH, f1, if_pos rfl, zAH]
    simp only
    rw [e2]
    rw [if_pos rfl, zAH]
    rfl
   ·simp [actW, h16]
theorem zIT {ha hb : Nat} {O : List ByteArray} {l : List Wr1} (h : StOv ha O O) (hl : GoodL l) (A : List (Nat × Nat)) (f : Nat) (h2 : f <= 1000000) :
  ∃ e s' nx lost, zAm ⟨O, O, [], A, (f : Int), false⟩ hb false l = ⟨e, s', nx, lost⟩ /\ (e = 0 ∨ e = 2) /\ s'.pend.length <= 16 /\ s'.acts.length <= A.length + 38 /\ Crashed (StAv ha hb O l (decide (e = 0))) s' := by
 have hO := h.len
 have h16 := zAO l hl.len
 have hr : refE l ((O.length : Nat) : Int) = 0 := by rw [hO]; exact hl.ref
 by_cases c0 : f = 0
 ·subst c0
  have e := zG3 O A hb l hO hl
  refine ⟨0, rs (comL O hb l) (A ++ comA l), (hb + 1) % 4294967296, false, e, .inl rfl, Nat.zero_le _, by show (A ++ comA l).length <= _; rw [List.length_append, zIa l hl.len]; exact Nat.le_refl _, fun ps hp _ => ?_⟩
  rw [zHG hp]
  exact .inr (.inr ((StMv.of_mid hl hO h.size).done hl hO))
 ·have key : ∃ e s', zAH ⟨O, O, [], A, (f : Int), false⟩ (zAZ hb l) = (e, s') /\ (e = 0 ∨ e = 2) /\ s'.pend.length <= 16 /\ s'.acts.length <= A.length + 38 /\ Crashed (StAv ha hb O l (decide (e = 0))) s' := by
   have hok : OkW O.length (recL (zAb l)) := by rw [hO]; exact zGp l hl
   have hrl : (recL (zAb l)).length = 16 := by rw [zBu, h16]
   by_cases c1 : f <= 17
   ·have e1 := zEc (recL (zAb l)) ⟨O, O, [], A, (f : Int), false⟩ (f - 1) rfl (by show (f : Int) = _; omega) (by omega) hok
    refine ⟨2, ⟨O, layP O (natW ((recL (zAb l)).take (f - 1))), [] ++ natW ((recL (zAb l)).take (f - 1)), A ++ actW ((recL (zAb l)).take (f - 1)), 0, true⟩, ?_, .inr rfl, ?_, ?_, fun ps hp _ => .inl ⟨h.lay ps (fun p q => ?_), by decide⟩⟩
    ·rw [zAZ, zAH, e1, if_neg (show ¬ (2 : Int) = 0 by decide)]
    ·simp [natW]; omega
    ·simp [actW]; omega
    ·have := hp p q
     rw [List.nil_append, zC6] at this
     exact zG6 l hl p (List.mem_of_mem_take this)
   ·have e1 := zDl (recL (zAb l)) ⟨O, O, [], A, (f : Int), false⟩ rfl (by show _ < (f : Int); rw [hrl]; omega) hok
    obtain ⟨O1, hO1⟩ : ∃ O1, layP O (natW (recL (zAb l))) = O1 := ⟨_, rfl⟩
    have f1 : layR ⟨O, O, [], A, (f : Int), false⟩ (recL (zAb l)) = (0, ⟨O1, O1, [], A ++ actW (recL (zAb l)) ++ [(1, 0)], (f : Int) - 17, false⟩) := by
     rw [e1, hrl, <- hO1]
     rfl
    have hSO1 : StOv ha O O1 := by rw [<- hO1]; exact h.lay _ (zG6 l hl)
    have hMid : layP O1 [(1, zAq hb (secs (zAb l)))] = midL O hb l := by rw [<- hO1]; rfl
    have hk2 : OkW O1.length [zB0 hb l] := zDM _ (by rw [hSO1.len]; decide) hb _ (by rw [zDZ l hl]; decide)
    have hA1 : (A ++ actW (recL (zAb l)) ++ [(1, 0)]).length = A.length + 17 := by simp [actW, hrl]
    generalize A ++ actW (recL (zAb l)) ++ [(1, 0)] = A1 at *
    by_cases c2 : f <= 19
    ·have e2 := zEc [zB0 hb l] ⟨O1, O1, [], A1, (f : Int) - 17, false⟩ (f - 18) rfl (by show (f : Int) - 17 = _; omega) (by simp; omega) hk2
     refine ⟨2, ⟨O1, layP O1 (natW ([zB0 hb l].take (f - 18))), [] ++ natW ([zB0 hb l].take (f - 18)), A1 ++ actW ([zB0 hb l].take (f - 18)), 0, true⟩, ?_, .inr rfl, ?_, ?_, fun ps hp hlen => ?_⟩
     ·rw [zAZ, zAH, f1, if_pos rfl, zAH]
      simp only
      rw [show [((1 : Int), zAq hb (secs (zAb l)))] = [zB0 hb l] from rfl, e2, if_neg (show ¬ (2 : Int) = 0 by decide)]
     ·simp [natW]; omega
     ·simp [actW]; omega
     ·have hp' : ∀ p ∈ ps, p ∈ [((1 : Nat), zAq hb (secs (zAb l)))] := fun p q => by
       have := hp p q
       rw [List.nil_append, zC6] at this
       exact List.mem_of_mem_take this
      have hl1 : ps.length <= 1 := by
       refine Nat.le_trans hlen ?_
       simp [natW]; omega
      rcases zKv hp' hl1 with q | q
      ·subst q; exact .inl ⟨hSO1, by decide⟩
      ·subst q
       refine .inr (.inl ?_)
       show StMv hb O l (layP O1 [(1, zAq hb (secs (zAb l)))])
       rw [hMid]
       exact StMv.of_mid hl hO h.size
    ·have e2 := zDl [zB0 hb l] ⟨O1, O1, [], A1, (f : Int) - 17, false⟩ rfl (by show ((1 : Nat) : Int) + 1 < (f : Int) - 17; omega) hk2
     have f2 : layR ⟨O1, O1, [], A1, (f : Int) - 17, false⟩ [zB0 hb l] = (0, ⟨midL O hb l, midL O hb l, [], A1 ++ actW [zB0 hb l] ++ [(1, 0)], ((f - 19 : Nat) : Int), false⟩) := by
      rw [e2, <- hMid]
      have : (f : Int) - 17 - (((([zB0 hb l] : List Wr1).length : Nat) : Int) + 1) = ((f - 19 : Nat) : Int) := by simp; omega
      simp only [this]
      rfl
     obtain ⟨e, s', hrun, he, hp, ha, hn, hc⟩ := zLa (StMv.of_mid hl hO h.size) hl hO (A1 ++ actW [zB0 hb l] ++ [(1, 0)]) (f - 19) (by omega)
     refine ⟨e, s', ?_, he.imp id (·.1), hp, ?_, fun ps q1 q2 => ?_⟩
     ·rw [zAZ, zAH, f1, if_pos rfl, zAH]
      simp only
      rw [show [((1 : Int), zAq hb (secs (zAb l)))] = [zB0 hb l] from rfl, f2, if_pos rfl]
      exact hrun
     ·have : (A1 ++ actW [zB0 hb l] ++ [(1, 0)]).length = A1.length + 2 := by simp [actW]
      omega
     ·exact .inr (hc ps q1 q2)
  obtain ⟨e, s', hrun, he2, hp, ha, hc⟩ := key
  by_cases he : e = 0
  ·refine ⟨e, s', (hb + 1) % 4294967296, false, ?_, he2, hp, ha, hc⟩
   rw [zAm, hr, if_neg (by simp), if_neg (by decide), hrun, if_pos he, he]
  ·refine ⟨e, s', hb, true, ?_, he2, hp, ha, hc⟩
   rw [zAm, hr, if_neg (by simp), if_neg (by decide), hrun, if_neg he]
theorem zFQ (I : List ByteArray) (A : List (Nat × Nat)) (f : Nat) : armE (rs I A) (f : Int) = 0 /\ armS (rs I A) (f : Int) = ⟨I, I, [], A, (f : Int), false⟩ := by
 have h : ¬ ((f : Int) < 0) := by omega
 rw [armE, armS, if_neg h, if_neg h]
 exact ⟨rfl, rfl⟩
theorem zHY {ha hb : Nat} {S : PS} {O : List ByteArray} {A : List (Nat × Nat)} {f : Nat} (hs : S.s = ⟨O, O, [], A, (f : Int), false⟩) (hnx : S.nx = hb) (hjl : S.jl = false) (hlost : S.lost = false) (ho : S.op = true) (hO : StOv ha O O) (hl : GoodL S.tx) (hf : f <= 1000000) :
  ∃ e s', zA3 S = e /\ (zAC S).s = s' /\ (e = 0 ∨ e = 2) /\ s'.pend.length <= 16 /\ s'.acts.length <= A.length + 38 /\ Crashed (StAv ha hb O S.tx (decide (e = 0))) s' := by
 obtain ⟨e, s', nx, lost, hc, he, h1, h2, h3⟩ := zIT hO hl A f hf
 have hc' : zAm S.s S.nx S.jl S.tx = ⟨e, s', nx, lost⟩ := by rw [hs, hnx, hjl]; exact hc
 refine ⟨e, s', ?_, ?_, he, h1, h2, h3⟩
 ·unfold zA3
  rw [ho, hlost, hc']
  rfl
 ·unfold zAC
  rw [ho, hlost, if_neg (by decide), if_neg (by decide)]
  split
  ·show (zAm S.s S.nx S.jl S.tx).s = s'
   rw [hc']
  ·show (zAm S.s S.nx S.jl S.tx).s = s'
   rw [hc']
theorem zO6 {ha hb : Nat} {w0 w : World} {b : Nat} {v : DV} {O I : List ByteArray} {l : List Wr1} {must : Bool} (h : Dk w w0.heap.size b v (rs I [])) (h0 : Below w0.heap.size w0 w) (hg : ETy w) (hA : StAv ha hb O l must I) (hl : GoodL l) (hO : O.length = 128) (hha : ha < 4294967296) (hhb : hb < 4294967296) :
  Calls Tryz.prog 138 #[.pointer (some ⟨b, 0, none⟩)] w (OpY O l must w0 b) := by
 have hIl := hA.len
 have hS : Sane (rs I []) := Sane.fresh I (by omega) (by omega)
 obtain ⟨r1, r2⟩ := zCR I [] 1 (by omega)
 rw [show ((1 : Nat) : Int) = 1 from rfl] at r1 r2
 have hsz : (I.getD 1 ByteArray.empty).size = 256 := hA.size _ (by simp [List.getD_eq_getElem?_getD, show 1 < I.length by omega])
 have hAs := hA.size
 refine (zIt w w0.heap.size b v _ h hg h0.size hS (by rw [r2, hsz]; decide) (Nat.zero_le _) (Nat.zero_le _)).mono ?_
 intro e w' hP
 rcases hP with ⟨q, _⟩ | ⟨_, n', H, ok, hn', hR, hc⟩
 ·exact absurd r1 q
 ·rw [r2] at hR
  have clear : ∀ n, n < 4294967296 -> I.getD 1 ByteArray.empty = zAq n [] -> ((zF9 I O /\ must = false) ∨ zF9 I (layP O (natW l))) -> OpY O l must w0 b e w' := fun n hn hh hst => by
   rw [hh] at hR
   obtain ⟨e1, e2, e3⟩ := zG9 n hn _ _ _ _ hR
   have e1' : n' = n := by omega
   subst e1' e2 e3
   rcases hc with ⟨q, _⟩ | ⟨_, _, jb, ev, hN⟩ | ⟨_, q, _⟩ | ⟨_, q, _⟩
   ·cases q
   ·exact ⟨jb, false, I, [], n', ev, zKI h h0 hS hN, hn', hIl, hAs, hh, hst⟩
   ·simp at q
   ·simp at q
  rcases hA with ⟨q, qm⟩ | q | q
  ·exact clear ha hha q.head (.inl ⟨q.free, qm⟩)
  ·rw [q.head, show (((rs I []).last.length : Nat) : Int) = 128 by show ((I.length : Nat) : Int) = 128; rw [hIl]; rfl] at hR
   obtain ⟨e1, e2, e3⟩ := zNy hb hhb 128 _ _ _ _ (zDZ l hl) (zL7 l hl) hR
   have e1' : n' = hb := by omega
   subst e1' e2 e3
   have h16 := zAO l hl.len
   have hL : zBz (rs I []) (secs (zAb l)) = zAb l := by
    refine List.ext_getElem (by rw [zG2, zDZ l hl, h16]) (fun i q1 q2 => ?_)
    have hi : i < 16 := by omega
    rw [<- zC2 q1, <- zC2 q2, zH8 _ _ i (by rw [zDZ l hl]; exact hi), zLi _ i (by omega), (zCR I [] (2 + i) (by omega)).2, q.recs i hi]
   have e1 := zDA I [] (zAb l) (by rw [hIl]; exact zDR l hl)
   have e2 := zDA (layP I (natW (zAb l))) ([] ++ actW (zAb l) ++ [(1, 0)]) [(1, zAq n' [])] (zDM _ (by rw [zAp, hIl]; decide) n' _ (by simp))
   have hrr : zCb (rs I []) n' (secs (zAb l)) = (0, rs (layP (layP I (natW (zAb l))) [(1, zAq n' [])]) ([] ++ actW (zAb l) ++ [(1, 0)] ++ actW [(1, zAq n' [])] ++ [(1, 0)])) := by
    rw [zCb, hL, e1, if_pos rfl]
    simp only
    rw [e2]
    rfl
   have hsn : Sane (zCb (rs I []) n' (secs (zAb l))).2 := by
    unfold zCb
    split
    ·exact zAX _ _ (zAX _ _ hS)
    ·exact zAX _ _ hS
   rw [hrr] at hc hsn
   have hN := q.done hl hO
   rcases hc with ⟨q', _⟩ | ⟨_, q', _⟩ | ⟨_, _, q', _⟩ | ⟨_, _, q', jb, ev, hJ⟩
   ·cases q'
   ·rw [zDZ l hl] at q'; cases q'
   ·exact absurd rfl q'
   ·exact ⟨jb, true, _, _, n', ev, zKI h h0 hsn hJ, hn', hN.len, hN.size, hN.head, .inr hN.free⟩
  ·exact clear hb hhb q.head (.inr q.free)
def ArmI (w0 w : World) (b jb pb : Nat) (X : Nat -> Prop) (a n h : Nat) (O : List ByteArray) (A : List (Nat × Nat)) (f : Nat) (tx : Tx) (Tw T : Nat -> En) : Prop :=
 ∃ S, PK w0 w b jb pb S X /\ S.s = ⟨O, O, [], A, (f : Int), false⟩ /\ S.nx = (h + 1) % 4294967296 /\ S.jl = false /\ S.lost = false /\ S.op = true /\ S.tx = tx /\ GoodL tx /\ StOv h O O /\ IS O a n Tw /\ IS (layP O (natW tx)) a n T
def BkJ (wo : World) (P q : Nat) (u : Value) (wr : World) : Prop := ∃ K : List Int, wr.ownsRow wo.heap.size 3 1 u K.length (K.map (Value.int .i64)) /\ (∀ z ∈ K, zCL P z) /\ K.length <= q /\ Below wo.heap.size wo wr
end
section
open Go.RowKit Go.Maps Go.Sort Go.Shelf
theorem zPi {w0 w : World} {b : Nat} {v : DV} {L : List ByteArray} {A : List (Nat × Nat)} (h : Dk w w0.heap.size b v (rs L A)) (h0 : Below w0.heap.size w0 w) (hg : ETy w) (hS : Sane (rs L A)) (n0 : Nat) (hn0 : n0 < 4294967296) (hL : L.length = 128) (hz : ∀ t ∈ L, t.size = 256) (hh : L.getD 1 ByteArray.empty = zAq n0 []) (ha : A.length <= 10000000) :
  Calls Tryz.prog 71 #[.pointer (some ⟨b, 0, none⟩), .int .i64 4] w fun e w' => ∃ jb pb S, e = .returned (.tuple #[.pointer (some ⟨pb, 0, none⟩), .int .i64 0]) /\ PK w0 w' b jb pb S (fun _ => False) /\ Seen S L A n0 L L /\ S.op = false /\ S.tx = [] /\ S.keep = 4 := by
 have hO := zJw h hg h0.size hS n0 hn0 (by omega) hh ha
 refine (zHf w b 4 (by decide) (fun jp ag er w1 => er = 0 /\ ∃ jb, jp = some ⟨jb, 0, none⟩ /\ JK w0 w1 b jb (rs L A) ((n0 + 1) % 4294967296) false (fun _ => False)) (hO.mono (fun e w1 q => by
  obtain ⟨jb, rfl, hJ⟩ := q
  exact ⟨_, _, _, rfl, rfl, jb, rfl, JI.jk (JNew.ji h h0 hS hJ)⟩))).mono ?_
 rintro e w' ⟨jp, ag, er, w1, ⟨rfl, jb, rfl, hJ⟩, q | ⟨_, pb, bw, bv, rfl, hP⟩⟩
 ·exact absurd rfl q.1
 ·exact ⟨jb, pb, zPA L A ((n0 + 1) % 4294967296) 4, rfl, POk.pk hJ (by decide) hP, ⟨⟨rfl, rfl, rfl, rfl⟩, hL, hz, hh, hn0, fun k _ _ => rfl, hL, hL, fun k _ _ => rfl, fun _ => rfl, fun p hp => by cases hp⟩, rfl, rfl, rfl⟩
theorem zGF (pb mb xb : Nat) (w : World) : Calls Tryz.prog 74 #[.pointer (some ⟨pb, 0, none⟩), .pointer (some ⟨mb, 0, none⟩), .pointer (some ⟨xb, 0, none⟩), .int .i64 30] w fun e w' => e = .returned (.pointer (some ⟨w.heap.size, 0, none⟩)) /\ w' = w.alloc (.cells (Scs pb mb xb) 125) := by
 go_enter Tryz.func74, Tryz.ntmps74
 go_wp2
 go_ret
 exact ⟨rfl, rfl⟩
theorem zJe {w0 w : World} {b : Nat} {v : DV} {L : List ByteArray} {A : List (Nat × Nat)} {T : Nat -> En} {B : Nat -> Bool} {n : Nat} (h : Dk w w0.heap.size b v (rs L A)) (h0 : Below w0.heap.size w0 w) (hg : ETy w0) (hS : Sane (rs L A)) (n0 : Nat) (hn0 : n0 < 4294967296) (hL : L.length = 128) (hz : ∀ t ∈ L, t.size = 256) (hh : L.getD 1 ByteArray.empty = zAq n0 []) (ha : A.length <= 10000000) (hi : IS L 20 n T) (hT : TOk n T) (hm : MS L 19 n B) (hn1 : 1 <= n) (hn2 : n <= 24) :
  Calls Tryz.prog 28 #[.pointer (some ⟨b, 0, none⟩), .int .i64 (n : Int)] w fun e w' => ∃ jb pb xb mb sb gb, e = .returned (.pointer (some ⟨gb, 0, none⟩)) /\ CSt w0 w' b jb pb xb mb sb gb n 0 false L A n0 T T T B B (fun i => L.getD (30 + i) ByteArray.empty) (fun i => L.getD (30 + i) ByteArray.empty) := by
 have HO := uB (zPi h h0 (hg.below h0 hg.lt) hS n0 hn0 hL hz hh ha)
 have HQ := uB (And.intro hg (And.intro hi (And.intro hT (And.intro hm (And.intro hn1 hn2)))))
 clear h h0 hg hS hn0 hL hz hh ha hi hT hm hn1 hn2
 go_enter Tryz.func28, Tryz.ntmps28
 go_wp2_with fail
 refine (uA HO).mono ?_
 rintro e x1 ⟨jb, pb, S, rfl, K, hs, ho, ht, hk⟩
 obtain ⟨hg, hi, hT, hm, hn1, hn2⟩ := uA HQ
 have HM := uB (zIg K hg hs hm (by decide) (by unfold pgs; omega) hn1 (by omega))
 simp only [Int.cast_ofNat_Int] at HM
 have X1 := uB (And.intro ho (And.intro ht hk))
 clear K hs ho ht hk hg hi hT hm hn1 hn2 HO
 go_wp2_with fail
 refine (uA HM).mono ?_
 rintro e x2 ⟨mb, rfl, hlo, S2, G2, o2, t2, O2⟩
 obtain ⟨hg, hi, hT, hm, hn1, hn2⟩ := uA HQ
 have HI := uB (zIr G2.pk hg G2.seen hi hT (by decide) (by unfold ipgs; omega) hn1 (by omega))
 simp only [Int.cast_ofNat_Int] at HI
 have X2 := uB (And.intro G2 (And.intro o2 t2))
 clear hlo G2 o2 t2 O2 hg hi hT hm hn1 hn2 HM
 go_wp2_with fail
 refine (uA HI).mono ?_
 rintro e x3 ⟨xb, rfl, _, S3, eb, bm, G3, o3, t3, O3⟩
 have HC := uB (zGF pb mb xb x3)
 have X3 := uB (And.intro G3 (And.intro o3 (And.intro t3 O3)))
 clear G3 o3 t3 O3 HI
 go_wp2_with fail
 refine (uA HC).mono ?_
 rintro e x4 ⟨rfl, hx4⟩
 obtain ⟨sb, hsb⟩ : ∃ q, x3.heap.size = q := ⟨_, rfl⟩
 rw [hsb]
 have hb4 : Below x3.heap.size x3 x4 := by rw [hx4]; exact (Below.refl _ x3).alloc (Nat.le_refl _) _
 have B4 : Blk x4 sb (Scs pb mb xb) 125 := by rw [hx4, <- hsb]; exact Blk.new x3 _ _
 obtain ⟨gb, hgb⟩ : ∃ q, x4.heap.size = q := ⟨_, rfl⟩
 obtain ⟨x5, hx5⟩ : ∃ q, x4.alloc (.cells (Pcl b pb mb xb sb) 32) = q := ⟨_, rfl⟩
 have hb5 : Below x4.heap.size x4 x5 := by rw [<- hx5]; exact (Below.refl _ x4).alloc (Nat.le_refl _) _
 have B5 : Blk x5 gb (Pcl b pb mb xb sb) 32 := by rw [<- hx5, <- hgb]; exact Blk.new x4 _ _
 have C5 : Blk x5 sb (Scs pb mb xb) 125 := B4.below hb5 B4.lt
 have hb35 : Below x3.heap.size x3 x5 := hb4.trans (hb5.mono hb4.size)
 have HF := uB (show CSt w0 x5 b jb pb xb mb sb gb n 0 false L A n0 T T T B B (fun i => L.getD (30 + i) ByteArray.empty) (fun i => L.getD (30 + i) ByteArray.empty) from by
  obtain ⟨G3, o3, t3, O3⟩ := uA X3
  obtain ⟨G2, o2, t2⟩ := uA X2
  obtain ⟨ho, ht, hk⟩ := uA X1
  obtain ⟨hg, hi, hT, hm, hn1, hn2⟩ := uA HQ
  have hl5 := B5.lt
  have hl4 := C5.lt
  exact ⟨S3, eb, bm, L, L, ⟨G3.more (Z := Yc mb sb gb) hb35 (fun x q => by
    rcases q with q | q | q
    ·exact .inl (.inr q)
    ·exact .inr (by rw [q]; exact ⟨by omega, hl4⟩)
    ·exact .inr (by rw [q]; exact ⟨by have := hb4.size; omega, hl5⟩)), (G2.mp.only O3 (fun q => q (.inr rfl))).below hb35, hm, .inl rfl, .inr (.inl rfl), C5, hn2⟩,
   ⟨o3.trans (o2.trans ho), t3.2.trans (t2.2.trans hk), [], Nat.le_refl _, fun p hp => by rw [t3.1, t2.1, ht] at hp; cases hp⟩, ⟨hi, hT, hm⟩, ⟨fun _ _ => rfl, fun _ _ => rfl⟩, B5⟩)
 have hx5' : x4.alloc (.cells #[.pointer (some ⟨b, 0, none⟩), .pointer (some ⟨pb, 0, none⟩), .pointer (some ⟨mb, 0, none⟩), .pointer (some ⟨xb, 0, none⟩), .pointer (some ⟨sb, 0, none⟩)] 32) = x5 := hx5
 clear hb4 B4 hb5 B5 C5 hb35 X1 X2 X3 HQ HC hx4 hx5 hsb
 go_wp2
 go_ret
 exact ⟨jb, pb, xb, mb, sb, gb, rfl, uA HF⟩
end
end Go.Proofs.YtdpnbemagiekoaaGreatDoor
