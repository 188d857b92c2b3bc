import Derived.Test.YtdpnbemagiekoaaGreatDoorMe13
import Derived.Test.YtdpnbemagiekoaaGreatDoorMe14
import Derived.BigQuiet
import Derived.WalkKit
set_option maxHeartbeats 1000000
set_option maxRecDepth 100000
namespace Go.Proofs.YtdpnbemagiekoaaGreatDoor
section
open Go.RowKit
theorem zFT (l : List ByteArray) (a b : List (Nat × ByteArray)) : layP l (a ++ b) = layP (layP l a) b := by simp [layP]
theorem zAw (ps : List (Nat × ByteArray)) : ∀ (l : List ByteArray) (k : Nat), (∀ p ∈ ps, p.1 ≠ k) -> (layP l ps).getD k ByteArray.empty = l.getD k ByteArray.empty := by
 induction ps with
 | nil => intro l k _; rfl
 | cons p r ih =>
  intro l k h
  show (layP (l.set p.1 p.2) r).getD k ByteArray.empty = _
  rw [ih _ k (fun q hq => h q (by simp [hq]))]
  exact zA5 l p.1 k p.2 (h p (by simp))
theorem zJu (ps : List (Nat × ByteArray)) : ∀ (l1 l2 : List ByteArray) (k : Nat), l1.length = l2.length -> l1.getD k ByteArray.empty = l2.getD k ByteArray.empty -> (layP l1 ps).getD k ByteArray.empty = (layP l2 ps).getD k ByteArray.empty := by
 induction ps with
 | nil => intro l1 l2 k _ h; exact h
 | cons p r ih =>
  intro l1 l2 k hl h
  refine ih _ _ k (by simp [hl]) ?_
  by_cases e : p.1 = k
  ·subst e
   by_cases hk : p.1 < l1.length
   ·rw [zAz _ _ _ hk, zAz _ _ _ (by omega)]
   ·rw [List.getD_eq_getElem?_getD, List.getD_eq_getElem?_getD, List.getElem?_eq_none (by simp; omega), List.getElem?_eq_none (by simp; omega)]
  ·rw [zA5 _ _ _ _ e, zA5 _ _ _ _ e]; exact h
theorem zEj (a b : List Wr1) : natW (a ++ b) = natW a ++ natW b := by simp [natW]
theorem zII (L : List ByteArray) (nx : Nat) (l : List Wr1) (hl : l.length <= 16) (k : Nat) (hk : 19 <= k) : (comL L nx l).getD k ByteArray.empty = (layP L (natW l)).getD k ByteArray.empty := by
 unfold comL
 rw [zAw [(1, zAq nx [])] _ k (by intro p hp; simp at hp; subst hp; show 1 ≠ k; omega)]
 rw [zAb, zEj, zFT, zAw (natW (List.replicate (16 - l.length) zEZ)) _ k (by
  intro p hp
  obtain ⟨x, hx, rfl⟩ := List.mem_map.1 hp
  have := List.eq_of_mem_replicate hx
  subst this
  show 18 ≠ k
  omega)]
 refine zJu _ _ _ k (by simp only [zAp]) ?_
 rw [zAw [(1, _)] _ k (by intro p hp; simp at hp; subst hp; show 1 ≠ k; omega), zAw _ _ k (by
  intro p hp
  obtain ⟨x, hx, rfl⟩ := List.mem_map.1 hp
  obtain ⟨i, hi, rfl⟩ := List.mem_map.1 hx
  have hi : i < (l ++ List.replicate (16 - l.length) zEZ).length := List.mem_range.1 hi
  simp at hi
  show 2 + i ≠ k
  omega)]
theorem zLR (L : List ByteArray) (nx : Nat) (l : List Wr1) (hL : 1 < L.length) : (comL L nx l).getD 1 ByteArray.empty = zAq nx [] := by
 unfold comL
 show ((layP _ (natW (zAb l))).set 1 (zAq nx [])).getD 1 ByteArray.empty = _
 exact zAz _ 1 _ (by simp only [zAp]; exact hL)
def JI (w0 w : World) (b jb : Nat) (s : DSt) (nx : Nat) (lost : Bool) : Prop :=
 ∃ v, Dk w w0.heap.size b v s /\ Jb w jb b nx lost /\ ¬ Fd b v jb /\ w0.heap.size <= jb /\ Below w0.heap.size w0 w /\ Sane s
theorem JI.di {w0 w : World} {b jb : Nat} {s : DSt} {nx : Nat} {lost : Bool} (h : JI w0 w b jb s nx lost) : DI w0 w b s := by
 obtain ⟨v, h1, h2, h3, h4, h5, h6⟩ := h
 exact ⟨v, h1, h5, h6⟩
theorem JI.bel {w0 w : World} {b jb : Nat} {s : DSt} {nx : Nat} {lost : Bool} (h : JI w0 w b jb s nx lost) : Below w0.heap.size w0 w := h.di.bel
theorem zGD (R : List (List Wr1)) : ∀ s, Sane s -> Sane (zAH s R).2 := by
 induction R with
 | nil => intro s h; exact h
 | cons r R ih =>
  intro s h
  unfold zAH
  split
  ·exact ih _ (zAX r s h)
  ·exact zAX r s h
theorem zHU (s : DSt) (nx : Nat) (lost : Bool) (l : List Wr1) (h : Sane s) : Sane (zAm s nx lost l).s := by
 unfold zAm
 split
 ·exact h
 ·split
  ·exact h
  ·split
   ·exact zGD _ s h
   ·exact zGD _ s h
def L0 : List ByteArray := (List.replicate 128 zero256).set 1 (zAq 0 [])
theorem zIz : L0.length = 128 := by simp [L0]
def A0 : List (Nat × Nat) := [(0, 1), (1, 0)]
theorem zLS (L : List ByteArray) : zCK L = rs L [] := rfl
theorem zGK : layR (zCK (List.replicate 128 zero256)) [(1, zAq 0 [])] = (0, rs L0 A0) := by
 rw [zLS, zDA _ _ _ (zDM _ (by rw [List.length_replicate]; decide) 0 [] (by simp))]
 rfl
theorem head0 : L0.getD 1 ByteArray.empty = zAq 0 [] := zAz _ 1 _ (by rw [List.length_replicate]; decide)
theorem zCR (L : List ByteArray) (A : List (Nat × Nat)) (j : Nat) (hj : j < L.length) : zBc (rs L A) (j : Int) = 0 /\ zBb (rs L A) (j : Int) = L.getD j ByteArray.empty := readA (s := rs L A) ⟨rfl, rfl⟩ j hj
theorem zJw {w : World} {base b : Nat} {v : DV} {L : List ByteArray} {A : List (Nat × Nat)} (h : Dk w base b v (rs L A)) (hg : ETy w) (hb : base <= w.heap.size) (hS : Sane (rs L A)) (n : Nat) (hn : n < 4294967296) (hL : 1 < L.length) (hh : L.getD 1 ByteArray.empty = zAq n []) (ha : A.length <= 10000000) :
  Calls Tryz.prog 138 #[.pointer (some ⟨b, 0, none⟩)] w fun e w' => ∃ jb, e = .returned (.tuple #[.pointer (some ⟨jb, 0, none⟩), .bool false, .int .i64 0]) /\ JNew base b v (rs L A) jb ((n + 1) % 4294967296) w w' := by
 obtain ⟨r1, r2⟩ := zCR L A 1 hL
 rw [show ((1 : Nat) : Int) = 1 from rfl] at r1 r2
 have ht : (zBb (rs L A) 1).size <= 9223372036854775807 := by rw [r2, hh, zBG n [] (by simp)]; decide
 refine (zIt w base b v (rs L A) h hg hb hS ht (Nat.zero_le _) ha).mono ?_
 intro e w' hP
 rcases hP with ⟨q, _⟩ | ⟨_, n', H, ok, hn', hR, hc⟩
 ·exact absurd r1 q
 ·rw [r2, hh] at hR
  obtain ⟨e1, e2, e3⟩ := zG9 n hn _ _ _ _ hR
  have e1' : n' = n := by omega
  subst e1' e2 e3
  rcases hc with ⟨q, _⟩ | ⟨_, _, q⟩ | ⟨_, q, _⟩ | ⟨_, q, _⟩
  ·cases q
  ·exact q
  ·simp at q
  ·simp at q
theorem JNew.ji {w0 w w' : World} {b jb nx : Nat} {v : DV} {s s' : DSt} (h1 : Dk w w0.heap.size b v s) (h5 : Below w0.heap.size w0 w) (hs : Sane s') (h : JNew w0.heap.size b v s' jb nx w w') : JI w0 w' b jb s' nx false := by
 obtain ⟨v', k1, k2, k3, k4, k5, k6⟩ := h
 exact ⟨v', k1, k2, k3, by have := h5.size; omega, DI.only h1 h5 k5, hs⟩
theorem zIa (l : List Wr1) (h : l.length <= 16) : (comA l).length = 38 := by
 have := zAO l h
 simp [comA, actW, zBu, this]
end
section
open Go.RowKit
end
section
open Go.RowKit
theorem Strs.own {w : World} {base : Nat} {v : Value} {l : List ByteArray} (h : w.ownsRow base 9 1 v l.length (strs l)) : ∃ p c, v = .slice p l.length c /\ Strs w p l := by
 rcases h.2 with ⟨h1, h2⟩ | ⟨g, cap, cur, h1, hb, hg, _⟩
 ·refine ⟨none, 0, by rw [h1, h2], fun j hj => ?_⟩
  omega
 ·refine ⟨some ⟨g, 0, none⟩, cap, h1, fun j hj => ⟨g, 0, rfl, Blk.lt hg, ?_⟩⟩
  rw [Nat.zero_add, (zCd h (by rw [h1]; rfl) j hj).1]
  exact zCX _ _ hj
def StrsB (B : Nat) (w : World) (p : Option Addr) (l : List ByteArray) : Prop := ∀ j, j < l.length -> ∃ g o, p = some ⟨g, o, none⟩ /\ B <= g /\ g < w.heap.size /\ w.cell? ⟨g, o + j, none⟩ = some (.string (l.getD j ByteArray.empty))
theorem Strs.ownB {w : World} {base : Nat} {v : Value} {l : List ByteArray} (h : w.ownsRow base 9 1 v l.length (strs l)) : ∃ p c, v = .slice p l.length c /\ StrsB base w p l := by
 rcases h.2 with ⟨h1, h2⟩ | ⟨g, cap, cur, h1, hb, hg, _⟩
 ·refine ⟨none, 0, by rw [h1, h2], fun j hj => ?_⟩
  omega
 ·refine ⟨some ⟨g, 0, none⟩, cap, h1, fun j hj => ⟨g, 0, rfl, hb, Blk.lt hg, ?_⟩⟩
  rw [Nat.zero_add, (zCd h (by rw [h1]; rfl) j hj).1]
  exact zCX _ _ hj
end
section
open Go.RowKit
def zF9 (l m : List ByteArray) : Prop := ∀ k, 19 <= k -> k < l.length -> l.getD k ByteArray.empty = m.getD k ByteArray.empty
end
section
open Go.RowKit
def JK (w0 w : World) (b jb : Nat) (s : DSt) (nx : Nat) (lost : Bool) (X : Nat -> Prop) : Prop :=
 ∃ v, Dk w w0.heap.size b v s /\ Jb w jb b nx lost /\ ¬ Fd b v jb /\ w0.heap.size <= jb /\ Below w0.heap.size w0 w /\ Sane s /\ ∀ x, X x -> ¬ Fd b v x /\ x ≠ jb /\ x < w.heap.size
theorem JK.ji {w0 w : World} {b jb : Nat} {s : DSt} {nx : Nat} {lost : Bool} {X : Nat -> Prop} (h : JK w0 w b jb s nx lost X) : JI w0 w b jb s nx lost := by
 obtain ⟨v, h1, h2, h3, h4, h5, h6, _⟩ := h
 exact ⟨v, h1, h2, h3, h4, h5, h6⟩
theorem JI.jk {w0 w : World} {b jb : Nat} {s : DSt} {nx : Nat} {lost : Bool} (h : JI w0 w b jb s nx lost) : JK w0 w b jb s nx lost (fun _ => False) := by
 obtain ⟨v, h1, h2, h3, h4, h5, h6⟩ := h
 exact ⟨v, h1, h2, h3, h4, h5, h6, fun _ q => q.elim⟩
theorem JK.bel {w0 w : World} {b jb : Nat} {s : DSt} {nx : Nat} {lost : Bool} {X : Nat -> Prop} (h : JK w0 w b jb s nx lost X) : Below w0.heap.size w0 w := h.ji.bel
theorem JK.more {w0 w w' : World} {b jb : Nat} {s : DSt} {nx : Nat} {lost : Bool} {X : Nat -> Prop} (h : JK w0 w b jb s nx lost X) (hb : Below w.heap.size w w') (Y : Nat -> Prop) (hy : ∀ x, Y x -> X x ∨ (w.heap.size <= x /\ x < w'.heap.size)) : JK w0 w' b jb s nx lost Y := by
 obtain ⟨v, h1, h2, h3, h4, h5, h6, h7⟩ := h
 refine ⟨v, h1.below hb, Blk.below h2 hb (Blk.lt h2), h3, h4, h5.trans (hb.mono h5.size), h6, fun x hx => ?_⟩
 rcases hy x hx with q | ⟨q1, q2⟩
 ·obtain ⟨a1, a2, a3⟩ := h7 x q
  exact ⟨a1, a2, Nat.lt_of_lt_of_le a3 hb.size⟩
 ·refine ⟨fun q => ?_, fun q => ?_, q2⟩
  ·have := (h1.fd x q).2; omega
  ·have := Blk.lt h2; omega
theorem JK.below {w0 w w' : World} {b jb : Nat} {s : DSt} {nx : Nat} {lost : Bool} {X : Nat -> Prop} (h : JK w0 w b jb s nx lost X) (hb : Below w.heap.size w w') : JK w0 w' b jb s nx lost X := h.more hb X (fun _ q => .inl q)
theorem JK.lt {w0 w : World} {b jb : Nat} {s : DSt} {nx : Nat} {lost : Bool} {X : Nat -> Prop} (h : JK w0 w b jb s nx lost X) (x : Nat) (hx : X x) : x < w.heap.size := by
 obtain ⟨v, h1, h2, h3, h4, h5, h6, h7⟩ := h
 exact (h7 x hx).2.2
theorem Wls.fence {w w' : World} {p : Option Addr} {l : List Wr1} {X : Nat -> Prop} (h : Wls w p l) (ho : Only (fun x => ¬ X x) w w') (hp : ∀ g o, p = some ⟨g, o, none⟩ -> X g) : Wls w' p l := h.only ho (fun g o e r => r (hp g o e))
theorem Only.widen {P Q : Nat -> Prop} {w w' : World} (h : Only P w w') (hq : ∀ k, k < w.heap.size -> P k -> Q k) : Only Q w w' := ⟨h.1, fun k hk hn => h.2 k hk (fun q => hn (hq k hk q))⟩
theorem zOt {w0 w : World} {b jb : Nat} {s : DSt} {nx : Nat} {lost : Bool} {X : Nat -> Prop} (h : JK w0 w b jb s nx lost X) (hnx : nx < 4294967296) (p : Option Addr) (c : Nat) (l : List Wr1) (n : Nat) (hn : n = l.length) (hl : Wls w p l) (hp : s.pend.length <= 1000000) (ha : s.acts.length <= 100000000) :
  Calls Tryz.prog 55 #[.pointer (some ⟨jb, 0, none⟩), .slice p n c] w fun e w' => e = .returned (.int .i64 (zAm s nx lost l).e) /\ JK w0 w' b jb (zAm s nx lost l).s (zAm s nx lost l).nx (zAm s nx lost l).lost X /\ Only (fun x => ¬ X x) w w' := by
 obtain ⟨v, h1, h2, h3, h4, h5, h6, h7⟩ := h
 refine (zIS w _ b jb nx v s lost h1 h2 h3 h5.size h6 hnx p c l n hn hl hp ha).mono ?_
 rintro ev w' ⟨rfl, v', k1, k2, k3, k4⟩
 refine ⟨rfl, ⟨v', k1, k2, fun q => ?_, h4, h5.trans (k3.below h5.size (fun k hk q => ?_)), zHU s nx lost l h6, fun x hx => ?_⟩, k3.widen (fun k hk q r => ?_)⟩
 ·rcases k4 jb q with r | r
  ·exact h3 r
  ·have := Blk.lt h2; omega
 ·rcases q with q | q
  ·have := (h1.fd k q).1; omega
  ·omega
 ·obtain ⟨a1, a2, a3⟩ := h7 x hx
  refine ⟨fun q => ?_, a2, Nat.lt_of_lt_of_le a3 k3.size⟩
  rcases k4 x q with r | r
  ·exact a1 r
  ·omega
 ·obtain ⟨a1, a2, a3⟩ := h7 k r
  rcases q with q | q
  ·exact a1 q
  ·exact a2 q
theorem zA4 (ps : List (Nat × ByteArray)) : ∀ (l : List ByteArray), (∀ t ∈ l, t.size = 256) -> (∀ p ∈ ps, p.2.size = 256) -> ∀ t ∈ layP l ps, t.size = 256 := by
 induction ps with
 | nil => intro l h _; exact h
 | cons p r ih =>
  intro l h hp
  refine ih _ (fun t ht => ?_) (fun q hq => hp q (by simp [hq]))
  rcases List.mem_or_eq_of_mem_set ht with q | q
  ·exact h t q
  ·rw [q]; exact hp p (by simp)
theorem zCu {N : Nat} {l : List Wr1} (h : OkW N l) : ∀ p ∈ natW l, p.2.size = 256 := fun p hp => by
 obtain ⟨x, hx, rfl⟩ := List.mem_map.1 hp
 exact (h x hx).2.2
theorem zMO (L : List ByteArray) (nx : Nat) (l : List Wr1) (hl : GoodL l) (h : ∀ t ∈ L, t.size = 256) : ∀ t ∈ comL L nx l, t.size = 256 := by
 have h1 : ∀ H : List Int, H.length <= 60 -> ∀ p ∈ ([(1, zAq nx H)] : List (Nat × ByteArray)), p.2.size = 256 := fun H hH p hp => by
  simp at hp; subst hp; exact zBG nx H hH
 unfold comL
 refine zA4 _ _ (zA4 _ _ (zA4 _ _ (zA4 _ _ h (zCu (zGp l hl))) (h1 _ (by rw [zDZ l hl]; decide))) (zCu (zDR l hl))) (h1 _ (by simp))
end
section
open Go.RowKit
end
section
open Go.RowKit
theorem zNM : ∀ t ∈ L0, t.size = 256 := fun t ht => by
 rcases List.mem_or_eq_of_mem_set ht with q | q
 ·rw [List.eq_of_mem_replicate q]; exact zD1
 ·rw [q]; exact zBG 0 [] (by simp)
theorem zJS (w : World) (p : Option Addr) (c : Nat) (L : List ByteArray) (hL : L.length = 128) (hs : ∀ t ∈ L, t.size = 256) (h : Strs w p L) : Calls Tryz.prog 33 #[.slice p 128 c] w fun e w' => ∃ b v, e = .returned (.tuple #[.pointer (some ⟨b, 0, none⟩), .int .i64 0]) /\ Dk w' w.heap.size b v (rs L []) /\ Below w.heap.size w w' := by
 have := zMi p c L w h
 rw [hL] at this
 refine this.mono ?_
 intro e w' hP
 rw [zDD, if_pos ⟨by omega, by omega⟩, if_pos hs] at hP
 exact hP
end
section
open Go.RowKit
def zBe (n : Nat) (size : Int) : Nat := if size < 1 then 0 else n / size.toNat
def errS (n : Nat) (size k : Int) : Int := if size < 1 then 1 else if k < 0 ∨ (zBe n size : Int) <= k then 36 else 0
def zDs (body : ByteArray) (size k : Int) : ByteArray := if errS body.size size k = 0 then body.extract (k.toNat * size.toNat) ((k.toNat + 1) * size.toNat) else ⟨#[]⟩
def errT (n m : Nat) (size k : Int) : Int := if size < 1 ∨ ¬ (m : Int) = size then 1 else if k < 0 ∨ (zBe n size : Int) <= k then 36 else 0
def setB (body s : ByteArray) (size k : Int) : ByteArray := if errT body.size s.size size k = 0 then body.extract 0 (k.toNat * size.toNat) ++ s ++ body.extract ((k.toNat + 1) * size.toNat) body.size else ⟨#[]⟩
theorem zD9 (n S K : Nat) (h : K < n / S) : (K + 1) * S <= n := by
 have h1 : n / S * S <= n := Nat.div_mul_le_self n S
 have h2 : (K + 1) * S <= n / S * S := Nat.mul_le_mul_right S h
 omega
theorem zGz (body : ByteArray) (size : Int) (hb : body.size <= 9223372036854775807) (hs : I64 size) (w : World) :
  Calls Tryz.prog 173 #[.string body, .int .i64 size] w fun e w' => e = .returned (.int .i64 (zBe body.size size : Int)) /\ w' = w := by
 obtain ⟨hs1, hs2⟩ := hs
 by_cases h : size < 1
 ·have HP := uB (show zBe body.size size = 0 by rw [zBe, if_pos h])
  go_enter Tryz.func173, Tryz.ntmps173
  go_wp2
  go_ret
  exact ⟨by rw [uA HP]; rfl, rfl⟩
 ·obtain ⟨S, rfl⟩ := Int.eq_ofNat_of_zero_le (show 0 <= size by omega)
  have HP := uB (show zBe body.size (S : Int) = body.size / S by rw [zBe, if_neg h, Int.toNat_natCast])
  have hq : ((body.size : Int)).tdiv (S : Int) = ((body.size / S : Nat) : Int) := rfl
  have hle : body.size / S <= body.size := Nat.div_le_self _ _
  have hz : ((S : Int) == 0) = false := by simp; omega
  generalize body.size / S = M at *
  go_enter Tryz.func173, Tryz.ntmps173
  go_wp2
  go_ret
  exact ⟨by rw [uA HP]; rfl, rfl⟩
theorem zL6 (body : ByteArray) (size k : Int) (hb : body.size <= 9223372036854775807) (hs : I64 size) (hk : I64 k) (w : World) :
  Calls Tryz.prog 125 #[.string body, .int .i64 size, .int .i64 k] w fun e w' => e = .returned (.tuple #[.string (zDs body size k), .int .i64 (errS body.size size k)]) /\ Below w.heap.size w w' := by
 have HS := uB (fun W => zGz body size hb hs W)
 obtain ⟨hs1, hs2⟩ := hs
 obtain ⟨hk1, hk2⟩ := hk
 by_cases h : size < 1
 ·have HE := uB (show errS body.size size k = 1 by rw [errS, if_pos h])
  have HB := uB (show zDs body size k = ⟨#[]⟩ by rw [zDs, if_neg (by rw [uA HE]; decide)])
  generalize errS body.size size k = E at *
  generalize zDs body size k = B at *
  go_enter Tryz.func125, Tryz.ntmps125
  go_wp2
  go_ret2
  exact ⟨by rw [uA HB, uA HE]; rfl, Below.refl _ _⟩
 ·by_cases h2 : k < 0
  ·have HE := uB (show errS body.size size k = 36 by rw [errS, if_neg h, if_pos (.inl h2)])
   have HB := uB (show zDs body size k = ⟨#[]⟩ by rw [zDs, if_neg (by rw [uA HE]; decide)])
   generalize errS body.size size k = E at *
   generalize zDs body size k = B at *
   go_enter Tryz.func125, Tryz.ntmps125
   go_wp2
   go_ret2
   exact ⟨by rw [uA HB, uA HE]; rfl, Below.refl _ _⟩
  ·obtain ⟨S, rfl⟩ := Int.eq_ofNat_of_zero_le (show 0 <= size by omega)
   obtain ⟨K, rfl⟩ := Int.eq_ofNat_of_zero_le (show 0 <= k by omega)
   have hM : zBe body.size (S : Int) = body.size / S := by rw [zBe, if_neg h, Int.toNat_natCast]
   by_cases h3 : zBe body.size (S : Int) <= K
   ·have HE := uB (show errS body.size (S : Int) (K : Int) = 36 by rw [errS, if_neg h, if_pos (.inr (by omega))])
    have HB := uB (show zDs body (S : Int) (K : Int) = ⟨#[]⟩ by rw [zDs, if_neg (by rw [uA HE]; decide)])
    generalize errS body.size (S : Int) (K : Int) = E at *
    generalize zDs body (S : Int) (K : Int) = B at *
    clear hM
    generalize zBe body.size (S : Int) = M at *
    go_enter Tryz.func125, Tryz.ntmps125
    go_wp2_with (go_at_call 173; refine (uA HS _).mono ?_; rintro e w' ⟨rfl, rfl⟩)
    go_ret2
    exact ⟨by rw [uA HB, uA HE]; rfl, Below.refl _ _⟩
   ·have HE := uB (show errS body.size (S : Int) (K : Int) = 0 by rw [errS, if_neg h, if_neg (by omega)])
    have HB := uB (show zDs body (S : Int) (K : Int) = body.extract (K * S) ((K + 1) * S) by rw [zDs, if_pos (uA HE), Int.toNat_natCast, Int.toNat_natCast])
    have hin := zD9 body.size S K (by omega)
    have hKb : K < 9223372036854775807 := by have := Nat.div_le_self body.size S; omega
    have hmo : K * S <= (K + 1) * S := Nat.mul_le_mul_right S (by omega)
    have hm1 : (K : Int) * (S : Int) = ((K * S : Nat) : Int) := by simp
    have hm2 : ((K : Int) + 1) * (S : Int) = (((K + 1) * S : Nat) : Int) := by simp
    generalize errS body.size (S : Int) (K : Int) = E at *
    generalize zDs body (S : Int) (K : Int) = B at *
    clear hM
    generalize zBe body.size (S : Int) = M at *
    generalize (K + 1) * S = J at *
    generalize K * S = I at *
    go_enter Tryz.func125, Tryz.ntmps125
    go_wp2_with (go_at_call 173; refine (uA HS _).mono ?_; rintro e w' ⟨rfl, rfl⟩)
    go_ret2
    exact ⟨by rw [uA HB, uA HE]; rfl, Below.refl _ _⟩
theorem zHN (body : ByteArray) (size k : Int) (s : ByteArray) (hb : body.size <= 4611686018427387904) (hs : I64 size) (hk : I64 k) (hss : s.size <= 1152921504606846976) (w : World) :
  Calls Tryz.prog 107 #[.string body, .int .i64 size, .int .i64 k, .string s] w fun e w' => e = .returned (.tuple #[.string (setB body s size k), .int .i64 (errT body.size s.size size k)]) /\ Below w.heap.size w w' := by
 have HS := uB (fun W => zGz body size (by omega) hs W)
 obtain ⟨hs1, hs2⟩ := hs
 obtain ⟨hk1, hk2⟩ := hk
 by_cases h : size < 1
 ·have HE := uB (show errT body.size s.size size k = 1 by rw [errT, if_pos (.inl h)])
  have HB := uB (show setB body s size k = ⟨#[]⟩ by rw [setB, if_neg (by rw [uA HE]; decide)])
  generalize errT body.size s.size size k = E at *
  generalize setB body s size k = B at *
  go_enter Tryz.func107, Tryz.ntmps107
  go_wp2
  go_ret2
  exact ⟨by rw [uA HB, uA HE]; rfl, Below.refl _ _⟩
 ·obtain ⟨S, rfl⟩ := Int.eq_ofNat_of_zero_le (show 0 <= size by omega)
  by_cases h1 : s.size = S
  ·by_cases h2 : k < 0
   ·have HE := uB (show errT body.size s.size (S : Int) k = 36 by rw [errT, if_neg (by omega), if_pos (.inl h2)])
    have HB := uB (show setB body s (S : Int) k = ⟨#[]⟩ by rw [setB, if_neg (by rw [uA HE]; decide)])
    have hne : ((s.size : Int) != (S : Int)) = false := by simp; omega
    generalize errT body.size s.size (S : Int) k = E at *
    generalize setB body s (S : Int) k = B at *
    go_enter Tryz.func107, Tryz.ntmps107
    go_wp2
    go_ret2
    exact ⟨by rw [uA HB, uA HE]; rfl, Below.refl _ _⟩
   ·obtain ⟨K, rfl⟩ := Int.eq_ofNat_of_zero_le (show 0 <= k by omega)
    have hM : zBe body.size (S : Int) = body.size / S := by rw [zBe, if_neg h, Int.toNat_natCast]
    have hne : ((s.size : Int) != (S : Int)) = false := by simp; omega
    by_cases h3 : zBe body.size (S : Int) <= K
    ·have HE := uB (show errT body.size s.size (S : Int) (K : Int) = 36 by rw [errT, if_neg (by omega), if_pos (.inr (by omega))])
     have HB := uB (show setB body s (S : Int) (K : Int) = ⟨#[]⟩ by rw [setB, if_neg (by rw [uA HE]; decide)])
     generalize errT body.size s.size (S : Int) (K : Int) = E at *
     generalize setB body s (S : Int) (K : Int) = B at *
     clear hM
     generalize zBe body.size (S : Int) = M at *
     go_enter Tryz.func107, Tryz.ntmps107
     go_wp2_with (go_at_call 173; refine (uA HS _).mono ?_; rintro e w' ⟨rfl, rfl⟩)
     go_ret2
     exact ⟨by rw [uA HB, uA HE]; rfl, Below.refl _ _⟩
    ·have HE := uB (show errT body.size s.size (S : Int) (K : Int) = 0 by rw [errT, if_neg (by omega), if_neg (by omega)])
     have HB := uB (show setB body s (S : Int) (K : Int) = body.extract 0 (K * S) ++ s ++ body.extract ((K + 1) * S) body.size by rw [setB, if_pos (uA HE), Int.toNat_natCast, Int.toNat_natCast])
     have hin := zD9 body.size S K (by omega)
     have hKb : K < 9223372036854775807 := by have := Nat.div_le_self body.size S; omega
     have hmo : K * S <= (K + 1) * S := Nat.mul_le_mul_right S (by omega)
     have hm1 : (K : Int) * (S : Int) = ((K * S : Nat) : Int) := by simp
     have hm2 : ((K : Int) + 1) * (S : Int) = (((K + 1) * S : Nat) : Int) := by simp
     generalize errT body.size s.size (S : Int) (K : Int) = E at *
     generalize setB body s (S : Int) (K : Int) = B at *
     clear hM
     generalize zBe body.size (S : Int) = M at *
     generalize (K + 1) * S = J at *
     generalize K * S = I at *
     have z1 : (body.extract 0 I).size = I := by simp; omega
     have z2 : (body.extract J body.size).size = body.size - J := by simp
     have y1 : ¬ 9223372036854775807 < (body.extract 0 I).size + s.size := by omega
     have z3 : (body.extract 0 I ++ s).size = I + s.size := by rw [ByteArray.size_append, z1]
     have y2 : ¬ 9223372036854775807 < (body.extract 0 I ++ s).size + (body.extract J body.size).size := by omega
     clear z1 z2 z3
     have w1 : IntKind.i64.wrap (I : Int) = (I : Int) := zAB _ (by omega) (by omega)
     have w2 : IntKind.i64.wrap (J : Int) = (J : Int) := zAB _ (by omega) (by omega)
     have w3 : IntKind.i64.wrap ((K : Int) + 1) = (K : Int) + 1 := zAB _ (by omega) (by omega)
     go_enter Tryz.func107, Tryz.ntmps107
     go_wp2_with (go_at_call 173; refine (uA HS _).mono ?_; rintro e w' ⟨rfl, rfl⟩)
     go_quiet (fail)
     go_wp2
     go_ret2
     exact ⟨by rw [uA HB, uA HE]; rfl, below_drewN (Below.refl _ _) _⟩
  ·have HE := uB (show errT body.size s.size (S : Int) k = 1 by rw [errT, if_pos (.inr (by omega))])
   have HB := uB (show setB body s (S : Int) k = ⟨#[]⟩ by rw [setB, if_neg (by rw [uA HE]; decide)])
   have hne : ((s.size : Int) != (S : Int)) = true := by simp; omega
   generalize errT body.size s.size (S : Int) k = E at *
   generalize setB body s (S : Int) k = B at *
   go_enter Tryz.func107, Tryz.ntmps107
   go_wp2
   go_ret2
   exact ⟨by rw [uA HB, uA HE]; rfl, Below.refl _ _⟩
end
section
theorem zIj {a b : ByteArray} (h : a.data = b.data) : a = b := by cases a; cases b; simp_all
theorem zI3 (body s : ByteArray) (I S a b : Nat) (hs : s.size = S) (hI : I + S <= body.size) (hb : b <= body.size) (hab : a <= b) (h : b <= I ∨ I + S <= a) :
  (body.extract 0 I ++ s ++ body.extract (I + S) body.size).extract a b = body.extract a b := by
 apply zIj
 have hs' : s.data.size = S := hs
 have hn : body.data.size = body.size := rfl
 simp only [ByteArray.data_extract, ByteArray.data_append, Array.extract_append, Array.extract_extract, Array.size_extract, Array.size_append]
 rcases h with h | h
 ·have e1 : s.data.extract (a - (min I body.data.size - 0)) (b - (min I body.data.size - 0)) = #[] := by
   apply Array.extract_empty_of_stop_le_start
   omega
  have e2 : body.data.extract (I + S + (a - (min I body.data.size - 0 + s.data.size))) (min (I + S + (b - (min I body.data.size - 0 + s.data.size))) body.size) = #[] := by
   apply Array.extract_empty_of_stop_le_start
   omega
  rw [e1, e2]
  simp
  congr 1
  omega
 ·have e1 : s.data.extract (a - (min I body.data.size - 0)) (b - (min I body.data.size - 0)) = #[] := by
   apply Array.extract_empty_of_size_le_start
   omega
  have e2 : body.data.extract (0 + a) (min (0 + b) I) = #[] := by
   apply Array.extract_empty_of_stop_le_start
   omega
  rw [e1, e2]
  simp
  congr 1 <;> omega
theorem zK9 (body s : ByteArray) (I S : Nat) (hs : s.size = S) (hI : I + S <= body.size) :
  (body.extract 0 I ++ s ++ body.extract (I + S) body.size).extract I (I + S) = s := by
 apply zIj
 have hs' : s.data.size = S := hs
 have hn : body.data.size = body.size := rfl
 simp only [ByteArray.data_extract, ByteArray.data_append, Array.extract_append, Array.extract_extract, Array.size_extract, Array.size_append]
 have e1 : body.data.extract (0 + I) (min (0 + (I + S)) I) = #[] := by
  apply Array.extract_empty_of_stop_le_start
  omega
 have e2 : body.data.extract (I + S + (I - (min I body.data.size - 0 + s.data.size))) (min (I + S + (I + S - (min I body.data.size - 0 + s.data.size))) body.size) = #[] := by
  apply Array.extract_empty_of_stop_le_start
  omega
 rw [e1, e2]
 have e3 : s.data.extract (I - (min I body.data.size - 0)) (I + S - (min I body.data.size - 0)) = s.data := by
  rw [show I - (min I body.data.size - 0) = 0 by omega, show I + S - (min I body.data.size - 0) = s.data.size by omega]
  simp
 rw [e3]
 simp
end
section
open Go.RowKit
theorem zGA (body : ByteArray) (S : Nat) (hS : 0 < S) : zBe body.size (S : Int) = body.size / S := by rw [zBe, if_neg (by omega), Int.toNat_natCast]
theorem zM2 (body : ByteArray) (S K : Nat) (hS : 0 < S) (hb : body.size <= 9223372036854775807) (hK : K < body.size / S) (w : World) :
  Calls Tryz.prog 125 #[.string body, .int .i64 (S : Int), .int .i64 (K : Int)] w fun e w' => e = .returned (.tuple #[.string (body.extract (K * S) ((K + 1) * S)), .int .i64 0]) /\ Below w.heap.size w w' := by
 have h1 := zD9 body.size S K hK
 have h2 : S <= (K + 1) * S := Nat.le_mul_of_pos_left S (by omega)
 have h3 := Nat.div_le_self body.size S
 have hE : errS body.size (S : Int) (K : Int) = 0 := by rw [errS, if_neg (by omega), if_neg (by rw [zGA body S hS]; omega)]
 have h := zL6 body (S : Int) (K : Int) hb ⟨by omega, by omega⟩ ⟨by omega, by omega⟩ w
 rw [zDs, if_pos hE, hE, Int.toNat_natCast, Int.toNat_natCast] at h
 exact h
theorem zH4 (body : ByteArray) (S K : Nat) (s : ByteArray) (hS : 0 < S) (hb : body.size <= 140737488351233) (hK : K < body.size / S) (hs : s.size = S) (w : World) :
  Calls Tryz.prog 107 #[.string body, .int .i64 (S : Int), .int .i64 (K : Int), .string s] w fun e w' => e = .returned (.tuple #[.string (body.extract 0 (K * S) ++ s ++ body.extract (K * S + S) body.size), .int .i64 0]) /\ Below w.heap.size w w' := by
 have h1 := zD9 body.size S K hK
 have h2 : S <= (K + 1) * S := Nat.le_mul_of_pos_left S (by omega)
 have h3 := Nat.div_le_self body.size S
 have hE : errT body.size s.size (S : Int) (K : Int) = 0 := by rw [errT, if_neg (by omega), if_neg (by rw [zGA body S hS]; omega)]
 have h := zHN body (S : Int) (K : Int) s (by omega) ⟨by omega, by omega⟩ ⟨by omega, by omega⟩ (by omega) w
 rw [setB, if_pos hE, hE, Int.toNat_natCast, Int.toNat_natCast, Nat.succ_mul] at h
 exact h
end
section
open Go.RowKit
theorem zIi (l : List ByteArray) (j : Nat) (t : ByteArray) (h : j < l.length) : (l.set j t).getD j ByteArray.empty = t := by simp [h]
theorem zLB (l : List ByteArray) (j k : Nat) (t : ByteArray) (h : j ≠ k) : (l.set j t).getD k ByteArray.empty = l.getD k ByteArray.empty := by simp [h]
abbrev En := Option (ByteArray × Nat)
def EnOk (e : En) : Prop := ∀ d c, e = some (d, c) -> d.size = 32 /\ 1 <= c /\ c <= 65535
def slL : En -> List Int
 | none => List.replicate 37 0
 | some (d, c) => 1 :: (nums d ++ numB (c : Int) 4)
def slB (e : En) : ByteArray := strOfNums (slL e)
theorem zJ9 (e : En) : Bytes (slL e) := by
 cases e with
 | none => exact zBH 37
 | some p => exact (Bytes.app (a := [1]) (Bytes.of_mem (by intro x hx; simp at hx; omega)) ((zAt _).app (zA9 _ 4)))
theorem zF2 (e : En) : nums (slB e) = slL e := zAd _ (zJ9 e)
theorem zC7 (e : En) (h : EnOk e) : (slB e).size = 37 := by
 rw [slB, strOfNums_size]
 cases e with
 | none => simp [slL]
 | some p =>
  have := (h p.1 p.2 rfl).1
  simp [slL, zAf, zAL, this]
theorem zPl (d : ByteArray) (c : Nat) : slB (some (d, c)) ≠ slB none := fun h => by
 have := congrArg nums h
 rw [zF2, zF2] at this
 simp [slL, List.replicate_succ] at this
def catI (f : Nat -> ByteArray) : Nat -> ByteArray
 | 0 => ⟨#[]⟩
 | n + 1 => catI f n ++ f n
theorem zDd (f : Nat -> ByteArray) : ∀ n, (∀ i, i < n -> (f i).size = 37) -> (catI f n).size = 37 * n
 | 0, _ => rfl
 | n + 1, h => by rw [catI, ByteArray.size_append, zDd f n (fun i hi => h i (by omega)), h n (by omega)]; omega
theorem zDJ {f g : Nat -> ByteArray} : ∀ n, (∀ i, i < n -> f i = g i) -> catI f n = catI g n
 | 0, _ => rfl
 | n + 1, h => by rw [catI, catI, zDJ n (fun i hi => h i (by omega)), h n (by omega)]
theorem zFM (f : Nat -> ByteArray) : ∀ n, (∀ i, i < n -> (f i).size = 37) -> ∀ i, i < n -> (catI f n).extract (i * 37) ((i + 1) * 37) = f i
 | 0, _, i, hi => absurd hi (Nat.not_lt_zero _)
 | n + 1, h, i, hi => by
  have hs := zDd f n (fun i hi => h i (by omega))
  apply zBi
  rw [zAs, catI, zFK]
  have hl : (nums (catI f n)).length = 37 * n := by rw [zAf, hs]
  by_cases hin : i < n
  ·have := zFM f n (fun i hi => h i (by omega)) i hin
   rw [<- this, zAs, List.take_append_of_le_length (by rw [hl]; omega)]
  ·have : i = n := by omega
   subst this
   have hti : (nums (f i)).length = 37 := by rw [zAf, h i (by omega)]
   rw [List.take_of_length_le (by rw [List.length_append, hl, hti]; omega), List.drop_left' (by rw [hl]; omega)]
theorem zHA (f : Nat -> ByteArray) : ∀ n (b : ByteArray), b.size = 37 * n -> (∀ i, i < n -> b.extract (i * 37) ((i + 1) * 37) = f i) -> b = catI f n
 | 0, b, hb, _ => by
  apply zBi
  have : (nums b).length = 0 := by rw [zAf]; omega
  rw [List.length_eq_zero_iff.1 this]
  rfl
 | n + 1, b, hb, h => by
  have h1 := zHA f n (b.extract 0 (37 * n)) (by rw [ByteArray.size_extract]; omega) (fun i hi => by
   rw [<- h i (by omega)]
   apply zBi
   rw [zAs, zAs, zAs, List.drop_zero, List.take_take]
   congr 2
   omega)
  have h2 := h n (by omega)
  rw [catI, <- h1, <- h2]
  apply zBi
  rw [zFK, zAs, zAs, List.drop_zero, List.take_of_length_le (l := nums b) (i := (n + 1) * 37) (by rw [zAf]; omega), Nat.mul_comm n 37, List.take_append_drop]
theorem zME (f : Nat -> ByteArray) (n : Nat) (h : ∀ i, i < n -> (f i).size = 37) (i : Nat) (hi : i < n) (s : ByteArray) (hs : s.size = 37) :
  (catI f n).extract 0 (i * 37) ++ s ++ (catI f n).extract (i * 37 + 37) (catI f n).size = catI (fun j => if j = i then s else f j) n := by
 have hsz := zDd f n h
 apply zHA
 ·rw [ByteArray.size_append, ByteArray.size_append, ByteArray.size_extract, ByteArray.size_extract, hs]
  omega
 ·intro j hj
  by_cases e : j = i
  ·subst e
   rw [if_pos rfl, show (j + 1) * 37 = j * 37 + 37 by omega]
   exact zK9 _ _ _ _ hs (by omega)
  ·rw [if_neg e, zI3 _ _ _ _ _ _ hs (by omega) (by omega) (by omega) (by omega)]
   exact zFM f n h j hj
def ipgs (n : Nat) : Nat := (n + 5) / 6
theorem zEt {n : Nat} (h : n <= 1024) : ipgs n <= 171 := by unfold ipgs; omega
theorem zLe {n i : Nat} (h : i < n) : i / 6 < ipgs n := by unfold ipgs; omega
def ibd (T : Nat -> En) (k : Nat) : ByteArray := catI (fun j => slB (T (6 * k + j))) 6
def pgI (k : Nat) (b : ByteArray) : ByteArray := zBv 4 (k : Int) b
def zI2 (T : Nat -> En) : Prop := ∀ i, EnOk (T i)
theorem zEd (T : Nat -> En) (h : zI2 T) (k : Nat) : (ibd T k).size = 222 := zDd _ 6 (fun _ _ => zC7 _ (h _))
theorem zMt (T : Nat -> En) (h : zI2 T) (k j : Nat) (hj : j < 6) : (ibd T k).extract (j * 37) ((j + 1) * 37) = slB (T (6 * k + j)) := zFM _ 6 (fun _ _ => zC7 _ (h _)) j hj
def upd (T : Nat -> En) (p : Nat) (e : En) : Nat -> En := fun i => if i = p then e else T i
theorem zNc {T : Nat -> En} (h : zI2 T) (p : Nat) {e : En} (he : EnOk e) : zI2 (upd T p e) := fun i => by
 unfold upd
 split
 ·exact he
 ·exact h i
theorem zOs (T : Nat -> En) (h : zI2 T) (p : Nat) (e : En) (he : EnOk e) :
  (ibd T (p / 6)).extract 0 (p % 6 * 37) ++ slB e ++ (ibd T (p / 6)).extract (p % 6 * 37 + 37) (ibd T (p / 6)).size = ibd (upd T p e) (p / 6) := by
 have := zME (fun j => slB (T (6 * (p / 6) + j))) 6 (fun _ _ => zC7 _ (h _)) (p % 6) (by omega) (slB e) (zC7 e he)
 unfold ibd
 rw [this]
 refine zDJ 6 (fun i hi => ?_)
 unfold upd
 by_cases e : i = p % 6
 ·rw [if_pos e, if_pos (by omega)]
 ·rw [if_neg e, if_neg (by omega)]
theorem zKf (T : Nat -> En) (p : Nat) (e : En) (k : Nat) (hk : k ≠ p / 6) : ibd (upd T p e) k = ibd T k := by
 refine zDJ 6 (fun i hi => ?_)
 unfold upd
 rw [if_neg (by omega)]
theorem zOa (k : Nat) (hk : k < 1024) (b : ByteArray) (hb : b.size = 222) : errM 4 (k : Int) b.size = 0 := by
 have h1 : zAJ 4 1 := by decide
 have h2 : zAJ (k : Int) 4 := ⟨by omega, by
  rw [show (2 : Int) ^ (8 * 4) = 4294967296 by decide]
  omega⟩
 rw [errM, if_neg (by simp [h1, h2]), if_neg (by omega)]
theorem zHe (k : Nat) (hk : k < 1024) (b : ByteArray) (hb : b.size = 222) : prOk (pgI k b) /\ pkd (pgI k b) = 4 /\ pnm (pgI k b) = (k : Int) /\ pbd (pgI k b) = b := zCx 4 (k : Int) b (zOa k hk b hb)
theorem zGb (k : Nat) (hk : k < 1024) (b : ByteArray) (hb : b.size = 222) : (pgI k b).size = 256 := (zGO _ (zHe k hk b hb).1).1
def IS (M : List ByteArray) (a n : Nat) (T : Nat -> En) : Prop := ∀ k, k < ipgs n -> M.getD (a + k) ByteArray.empty = pgI k (ibd T k)
theorem IS.upd {M : List ByteArray} {a n : Nat} {T : Nat -> En} (h : IS M a n T) (p : Nat) (hp : p < n) (e : En) (hM : a + ipgs n <= M.length) : IS (M.set (a + p / 6) (pgI (p / 6) (ibd (upd T p e) (p / 6)))) a n (Go.Proofs.YtdpnbemagiekoaaGreatDoor.upd T p e) := fun k hk => by
 have hpk := zLe hp
 by_cases e' : k = p / 6
 ·subst e'
  rw [zIi _ _ _ (by omega)]
 ·rw [zLB _ _ _ _ (by omega), h k hk, zKf T p e k e']
structure TOk (n : Nat) (T : Nat -> En) : Prop where
 ok : zI2 T
 out : ∀ i, n <= i -> T i = none
 one : ∀ i j d c c', T i = some (d, c) -> T j = some (d, c') -> i = j
theorem TOk.zero (n : Nat) : TOk n (fun _ => none) := ⟨fun i d c h => (by cases h), fun _ _ => rfl, fun i j d c c' h => (by cases h)⟩
theorem TOk.upd {n : Nat} {T : Nat -> En} (h : TOk n T) (p : Nat) (hp : p < n) (e : En) (he : EnOk e) (hone : ∀ d c, e = some (d, c) -> ∀ j c', T j = some (d, c') -> j = p) : TOk n (Go.Proofs.YtdpnbemagiekoaaGreatDoor.upd T p e) := by
 refine ⟨zNc h.ok p he, fun i hi => ?_, fun i j d c c' hi hj => ?_⟩
 ·unfold Go.Proofs.YtdpnbemagiekoaaGreatDoor.upd
  rw [if_neg (by omega)]
  exact h.out i hi
 ·unfold Go.Proofs.YtdpnbemagiekoaaGreatDoor.upd at hi hj
  by_cases e1 : i = p
  ·by_cases e2 : j = p
   ·rw [e1, e2]
   ·rw [if_pos e1] at hi
    rw [if_neg e2] at hj
    rw [e1, hone d c hi j c' hj]
  ·by_cases e2 : j = p
   ·rw [if_neg e1] at hi
    rw [if_pos e2] at hj
    rw [e2, hone d c' hj i c hi]
   ·rw [if_neg e1] at hi
    rw [if_neg e2] at hj
    exact h.one i j d c c' hi hj
theorem TOk.lt {n : Nat} {T : Nat -> En} (h : TOk n T) {i : Nat} {p : ByteArray × Nat} (e : T i = some p) : i < n := by
 by_cases q : i < n
 ·exact q
 ·rw [h.out i (by omega)] at e
  cases e
end
end Go.Proofs.YtdpnbemagiekoaaGreatDoor
