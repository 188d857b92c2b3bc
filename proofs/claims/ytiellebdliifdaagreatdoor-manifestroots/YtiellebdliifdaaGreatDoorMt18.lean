import Derived.Test.YtiellebdliifdaaGreatDoorMt16
import Derived.Test.YtiellebdliifdaaGreatDoorMt17
import Derived.Test.YtiellebdliifdaaGreatDoorMt07
import Derived.Test.YtiellebdliifdaaGreatDoorMt11
import Derived.BigQuiet
import Derived.Test.YtiellebdliifdaaGreatDoorMt00
import Derived.Test.YtiellebdliifdaaGreatDoorCards
import Derived.Test.YtiellebdliifdaaGreatDoorTie
import Derived.ProofKit
import Derived.OpenShut
import Derived.ShutString
import Derived.SizedLaws
import Derived.Deep.DeepHandedRow
import Derived.LaidLaws
import Derived.LaidHandle
import Derived.Lib.LaidTab
import Derived.Deep.Slices
import Derived.Deep.Strs
import Derived.Lib.SmallJoins
import Derived.Test.YtiellebdliifdaaGreatDoorMt06
namespace Go.Proofs.YtiellebdliifdaaGreatDoor
open Go.RowKit
theorem layP_app (l : List ByteArray) (a b : List (Nat × ByteArray)) : layP l (a ++ b) = layP (layP l a) b := by simp [layP]
theorem layP_skip (ps : List (Nat × ByteArray)) : ∀ (l : List ByteArray) (k : Nat), (∀ p ∈ ps, p.1 ≠ k) → (layP l ps).getD k ByteArray.empty = l.getD k ByteArray.empty := by
 induction ps with
 | nil => intro l k _; rfl
 | cons p r ih =>
  intro l k h
  show (layP (l.set p.1 p.2) r).getD k ByteArray.empty = _
  rw [ih _ k (fun q hq => h q (by simp [hq]))]
  exact getD_set_other l p.1 k p.2 (h p (by simp))
theorem layP_congr (ps : List (Nat × ByteArray)) : ∀ (l1 l2 : List ByteArray) (k : Nat), l1.length = l2.length → l1.getD k ByteArray.empty = l2.getD k ByteArray.empty → (layP l1 ps).getD k ByteArray.empty = (layP l2 ps).getD k ByteArray.empty := by
 induction ps with
 | nil => intro l1 l2 k _ h; exact h
 | cons p r ih =>
  intro l1 l2 k hl h
  refine ih _ _ k (by simp [hl]) ?_
  by_cases e : p.1 = k
  ·subst e
   by_cases hk : p.1 < l1.length
   ·rw [getD_set_same _ _ _ hk, getD_set_same _ _ _ (by omega)]
   ·rw [List.getD_eq_getElem?_getD, List.getD_eq_getElem?_getD, List.getElem?_eq_none (by simp; omega), List.getElem?_eq_none (by simp; omega)]
  ·rw [getD_set_other _ _ _ _ e, getD_set_other _ _ _ _ e]; exact h
theorem natW_app (a b : List Wr1) : natW (a ++ b) = natW a ++ natW b := by simp [natW]
theorem com_free (L : List ByteArray) (nx : Nat) (l : List Wr1) (hl : l.length ≤ 16) (k : Nat) (hk : 19 ≤ k) : (comL L nx l).getD k ByteArray.empty = (layP L (natW l)).getD k ByteArray.empty := by
 unfold comL
 rw [layP_skip [(1, headB nx [])] _ k (by intro p hp; simp at hp; subst hp; show 1 ≠ k; omega)]
 rw [filled, natW_app, layP_app, layP_skip (natW (List.replicate (16 - l.length) fillW)) _ k (by
  intro p hp
  obtain ⟨x, hx, rfl⟩ := List.mem_map.1 hp
  have := List.eq_of_mem_replicate hx
  subst this
  show 18 ≠ k
  omega)]
 refine layP_congr _ _ _ k (by simp only [layP_len]) ?_
 rw [layP_skip [(1, _)] _ k (by intro p hp; simp at hp; subst hp; show 1 ≠ k; omega), layP_skip _ _ k (by
  intro p hp
  obtain ⟨x, hx, rfl⟩ := List.mem_map.1 hp
  obtain ⟨i, hi, rfl⟩ := List.mem_map.1 hx
  have hi : i < (l ++ List.replicate (16 - l.length) fillW).length := List.mem_range.1 hi
  simp at hi
  show 2 + i ≠ k
  omega)]
theorem com_head (L : List ByteArray) (nx : Nat) (l : List Wr1) (hL : 1 < L.length) : (comL L nx l).getD 1 ByteArray.empty = headB nx [] := by
 unfold comL
 show ((layP _ (natW (filled l))).set 1 (headB nx [])).getD 1 ByteArray.empty = _
 exact getD_set_same _ 1 _ (by simp only [layP_len]; exact hL)
def JI (w0 w : World) (b jb : Nat) (s : DSt) (nx : Nat) (lost : Bool) : Prop :=
 ∃ v, Dk w w0.heap.size b v s ∧ Jb w jb b nx lost ∧ ¬ Fd b v jb ∧ w0.heap.size ≤ jb ∧ Below w0.heap.size w0 w ∧ Sane s
theorem JI.di {w0 w : World} {b jb : Nat} {s : DSt} {nx : Nat} {lost : Bool} (h : JI w0 w b jb s nx lost) : DI w0 w b s := by
 obtain ⟨v, h1, h2, h3, h4, h5, h6⟩ := h
 exact ⟨v, h1, h5, h6⟩
theorem JI.bel {w0 w : World} {b jb : Nat} {s : DSt} {nx : Nat} {lost : Bool} (h : JI w0 w b jb s nx lost) : Below w0.heap.size w0 w := h.di.bel
theorem JI.below {w0 w w' : World} {b jb : Nat} {s : DSt} {nx : Nat} {lost : Bool} (h : JI w0 w b jb s nx lost) (hb : Below w.heap.size w w') : JI w0 w' b jb s nx lost := by
 obtain ⟨v, h1, h2, h3, h4, h5, h6⟩ := h
 exact ⟨v, h1.below hb, Blk.below h2 hb (Blk.lt h2), h3, h4, h5.trans (hb.mono h5.size), h6⟩
theorem runs_sane (R : List (List Wr1)) : ∀ s, Sane s → Sane (runsR s R).2 := by
 induction R with
 | nil => intro s h; exact h
 | cons r R ih =>
  intro s h
  unfold runsR
  split
  ·exact ih _ (layR_sane r s h)
  ·exact layR_sane r s h
theorem commit_sane (s : DSt) (nx : Nat) (lost : Bool) (l : List Wr1) (h : Sane s) : Sane (commitR s nx lost l).s := by
 unfold commitR
 split
 ·exact h
 ·split
  ·exact h
  ·split
   ·exact runs_sane _ s h
   ·exact runs_sane _ s h
def L0 : List ByteArray := (List.replicate 128 zero256).set 1 (headB 0 [])
theorem L0_len : L0.length = 128 := by simp [L0]
def A0 : List (Nat × Nat) := [(0, 1), (1, 0)]
theorem fresh_rs (L : List ByteArray) : freshS L = rs L [] := rfl
theorem format_rs : layR (freshS (List.replicate 128 zero256)) [(1, headB 0 [])] = (0, rs L0 A0) := by
 rw [fresh_rs, lay_rs _ _ _ (head_ok _ (by rw [List.length_replicate]; decide) 0 [] (by simp))]
 rfl
theorem head0 : L0.getD 1 ByteArray.empty = headB 0 [] := getD_set_same _ 1 _ (by rw [List.length_replicate]; decide)
theorem read_rs (L : List ByteArray) (A : List (Nat × Nat)) (j : Nat) (hj : j < L.length) : readE (rs L A) (j : Int) = 0 ∧ readT (rs L A) (j : Int) = L.getD j ByteArray.empty := readA (s := rs L A) ⟨rfl, rfl⟩ j hj
theorem open_clear {w : World} {base b : Nat} {v : DV} {L : List ByteArray} {A : List (Nat × Nat)} (h : Dk w base b v (rs L A)) (hg : ETy w) (hb : base ≤ w.heap.size) (hS : Sane (rs L A)) (n : Nat) (hn : n < 4294967296) (hL : 1 < L.length) (hh : L.getD 1 ByteArray.empty = headB n []) (ha : A.length ≤ 10000000) :
  Calls Tryz.prog 116 #[.pointer (some ⟨b, 0, none⟩)] w fun e w' => ∃ jb, e = .returned (.tuple #[.pointer (some ⟨jb, 0, none⟩), .bool false, .int .i64 0]) ∧ JNew base b v (rs L A) jb ((n + 1) % 4294967296) w w' := by
 obtain ⟨r1, r2⟩ := read_rs L A 1 hL
 rw [show ((1 : Nat) : Int) = 1 from rfl] at r1 r2
 have ht : (readT (rs L A) 1).size ≤ 9223372036854775807 := by rw [r2, hh, headB_size n [] (by simp)]; decide
 refine (open_any w base b v (rs L A) h hg hb hS ht (Nat.zero_le _) ha).mono ?_
 intro e w' hP
 rcases hP with ⟨q, _⟩ | ⟨_, n', H, ok, hn', hR, hc⟩
 ·exact absurd r1 q
 ·rw [r2, hh] at hR
  obtain ⟨e1, e2, e3⟩ := rhp_clear n hn _ _ _ _ hR
  have e1' : n' = n := by omega
  subst e1' e2 e3
  rcases hc with ⟨q, _⟩ | ⟨_, _, q⟩ | ⟨_, q, _⟩ | ⟨_, q, _⟩
  ·cases q
  ·exact q
  ·simp at q
  ·simp at q
theorem JNew.ji {w0 w w' : World} {b jb nx : Nat} {v : DV} {s s' : DSt} (h1 : Dk w w0.heap.size b v s) (h5 : Below w0.heap.size w0 w) (hs : Sane s') (h : JNew w0.heap.size b v s' jb nx w w') : JI w0 w' b jb s' nx false := by
 obtain ⟨v', k1, k2, k3, k4, k5, k6⟩ := h
 exact ⟨v', k1, k2, k3, by have := h5.size; omega, DI.only h1 h5 k5, hs⟩
theorem comA_len (l : List Wr1) (h : l.length ≤ 16) : (comA l).length = 38 := by
 have := filled_len l h
 simp [comA, actW, recL_len, this]
end Go.Proofs.YtiellebdliifdaaGreatDoor
namespace Go.Proofs.YtiellebdliifdaaGreatDoor
open Go.RowKit
end Go.Proofs.YtiellebdliifdaaGreatDoor
namespace Go.Proofs.YtiellebdliifdaaGreatDoor
open Go.RowKit
theorem Strs.own {w : World} {base : Nat} {v : Value} {l : List ByteArray} (h : w.ownsRow base 9 1 v l.length (strs l)) : ∃ p c, v = .slice p l.length c ∧ Strs w p l := by
 rcases h.2 with ⟨h1, h2⟩ | ⟨g, cap, cur, h1, hb, hg, _⟩
 ·refine ⟨none, 0, by rw [h1, h2], fun j hj => ?_⟩
  omega
 ·refine ⟨some ⟨g, 0, none⟩, cap, h1, fun j hj => ⟨g, 0, rfl, Blk.lt hg, ?_⟩⟩
  rw [Nat.zero_add, (own_at h (by rw [h1]; rfl) j hj).1]
  exact strs_at _ _ hj
def StrsB (B : Nat) (w : World) (p : Option Addr) (l : List ByteArray) : Prop := ∀ j, j < l.length → ∃ g o, p = some ⟨g, o, none⟩ ∧ B ≤ g ∧ g < w.heap.size ∧ w.cell? ⟨g, o + j, none⟩ = some (.string (l.getD j ByteArray.empty))
theorem Strs.ownB {w : World} {base : Nat} {v : Value} {l : List ByteArray} (h : w.ownsRow base 9 1 v l.length (strs l)) : ∃ p c, v = .slice p l.length c ∧ StrsB base w p l := by
 rcases h.2 with ⟨h1, h2⟩ | ⟨g, cap, cur, h1, hb, hg, _⟩
 ·refine ⟨none, 0, by rw [h1, h2], fun j hj => ?_⟩
  omega
 ·refine ⟨some ⟨g, 0, none⟩, cap, h1, fun j hj => ⟨g, 0, rfl, hb, Blk.lt hg, ?_⟩⟩
  rw [Nat.zero_add, (own_at h (by rw [h1]; rfl) j hj).1]
  exact strs_at _ _ hj
theorem Strs.below {w w' : World} {p : Option Addr} {l : List ByteArray} (h : Strs w p l) (hb : Below w.heap.size w w') : Strs w' p l := fun j hj => by
 obtain ⟨g, o, h1, h2, h3⟩ := h j hj
 exact ⟨g, o, h1, Nat.lt_of_lt_of_le h2 hb.size, (hb.cell (p := ⟨g, o + j, none⟩) h2).trans h3⟩
end Go.Proofs.YtiellebdliifdaaGreatDoor
namespace Go.Proofs.YtiellebdliifdaaGreatDoor
open Go.RowKit
def freeQ (l m : List ByteArray) : Prop := ∀ k, 19 ≤ k → k < l.length → l.getD k ByteArray.empty = m.getD k ByteArray.empty
end Go.Proofs.YtiellebdliifdaaGreatDoor
namespace Go.Proofs.YtiellebdliifdaaGreatDoor
open Go.RowKit
def JK (w0 w : World) (b jb : Nat) (s : DSt) (nx : Nat) (lost : Bool) (X : Nat → Prop) : Prop :=
 ∃ v, Dk w w0.heap.size b v s ∧ Jb w jb b nx lost ∧ ¬ Fd b v jb ∧ w0.heap.size ≤ jb ∧ Below w0.heap.size w0 w ∧ Sane s ∧ ∀ x, X x → ¬ Fd b v x ∧ x ≠ jb ∧ x < w.heap.size
theorem JK.ji {w0 w : World} {b jb : Nat} {s : DSt} {nx : Nat} {lost : Bool} {X : Nat → Prop} (h : JK w0 w b jb s nx lost X) : JI w0 w b jb s nx lost := by
 obtain ⟨v, h1, h2, h3, h4, h5, h6, _⟩ := h
 exact ⟨v, h1, h2, h3, h4, h5, h6⟩
theorem JI.jk {w0 w : World} {b jb : Nat} {s : DSt} {nx : Nat} {lost : Bool} (h : JI w0 w b jb s nx lost) : JK w0 w b jb s nx lost (fun _ => False) := by
 obtain ⟨v, h1, h2, h3, h4, h5, h6⟩ := h
 exact ⟨v, h1, h2, h3, h4, h5, h6, fun _ q => q.elim⟩
theorem JK.bel {w0 w : World} {b jb : Nat} {s : DSt} {nx : Nat} {lost : Bool} {X : Nat → Prop} (h : JK w0 w b jb s nx lost X) : Below w0.heap.size w0 w := h.ji.bel
theorem JK.more {w0 w w' : World} {b jb : Nat} {s : DSt} {nx : Nat} {lost : Bool} {X : Nat → Prop} (h : JK w0 w b jb s nx lost X) (hb : Below w.heap.size w w') (Y : Nat → Prop) (hy : ∀ x, Y x → X x ∨ (w.heap.size ≤ x ∧ x < w'.heap.size)) : JK w0 w' b jb s nx lost Y := by
 obtain ⟨v, h1, h2, h3, h4, h5, h6, h7⟩ := h
 refine ⟨v, h1.below hb, Blk.below h2 hb (Blk.lt h2), h3, h4, h5.trans (hb.mono h5.size), h6, fun x hx => ?_⟩
 rcases hy x hx with q | ⟨q1, q2⟩
 ·obtain ⟨a1, a2, a3⟩ := h7 x q
  exact ⟨a1, a2, Nat.lt_of_lt_of_le a3 hb.size⟩
 ·refine ⟨fun q => ?_, fun q => ?_, q2⟩
  ·have := (h1.fd x q).2; omega
  ·have := Blk.lt h2; omega
theorem JK.below {w0 w w' : World} {b jb : Nat} {s : DSt} {nx : Nat} {lost : Bool} {X : Nat → Prop} (h : JK w0 w b jb s nx lost X) (hb : Below w.heap.size w w') : JK w0 w' b jb s nx lost X := h.more hb X (fun _ q => .inl q)
theorem JK.less {w0 w : World} {b jb : Nat} {s : DSt} {nx : Nat} {lost : Bool} {X : Nat → Prop} (h : JK w0 w b jb s nx lost X) (Y : Nat → Prop) (hy : ∀ x, Y x → X x) : JK w0 w b jb s nx lost Y := h.more (Below.refl _ _) Y (fun x q => .inl (hy x q))
theorem JK.lt {w0 w : World} {b jb : Nat} {s : DSt} {nx : Nat} {lost : Bool} {X : Nat → Prop} (h : JK w0 w b jb s nx lost X) (x : Nat) (hx : X x) : x < w.heap.size := by
 obtain ⟨v, h1, h2, h3, h4, h5, h6, h7⟩ := h
 exact (h7 x hx).2.2
theorem Strs.fence {w w' : World} {p : Option Addr} {l : List ByteArray} {X : Nat → Prop} (h : Strs w p l) (ho : Only (fun x => ¬ X x) w w') (hp : ∀ g o, p = some ⟨g, o, none⟩ → X g) : Strs w' p l := fun j hj => by
 obtain ⟨g, o, e, h1, h2⟩ := h j hj
 have q := ho.2 g h1 (fun r => r (hp g o e))
 exact ⟨g, o, e, Nat.lt_of_lt_of_le h1 ho.size, (World.cell?_of_block (a := ⟨g, o + j, none⟩) q).trans h2⟩
theorem Wls.fence {w w' : World} {p : Option Addr} {l : List Wr1} {X : Nat → Prop} (h : Wls w p l) (ho : Only (fun x => ¬ X x) w w') (hp : ∀ g o, p = some ⟨g, o, none⟩ → X g) : Wls w' p l := h.only ho (fun g o e r => r (hp g o e))
theorem Only.widen {P Q : Nat → Prop} {w w' : World} (h : Only P w w') (hq : ∀ k, k < w.heap.size → P k → Q k) : Only Q w w' := ⟨h.1, fun k hk hn => h.2 k hk (fun q => hn (hq k hk q))⟩
theorem commitK {w0 w : World} {b jb : Nat} {s : DSt} {nx : Nat} {lost : Bool} {X : Nat → Prop} (h : JK w0 w b jb s nx lost X) (hnx : nx < 4294967296) (p : Option Addr) (c : Nat) (l : List Wr1) (n : Nat) (hn : n = l.length) (hl : Wls w p l) (hp : s.pend.length ≤ 1000000) (ha : s.acts.length ≤ 100000000) :
  Calls Tryz.prog 31 #[.pointer (some ⟨jb, 0, none⟩), .slice p n c] w fun e w' => e = .returned (.int .i64 (commitR s nx lost l).e) ∧ JK w0 w' b jb (commitR s nx lost l).s (commitR s nx lost l).nx (commitR s nx lost l).lost X ∧ Only (fun x => ¬ X x) w w' := by
 obtain ⟨v, h1, h2, h3, h4, h5, h6, h7⟩ := h
 refine (commit_any w _ b jb nx v s lost h1 h2 h3 h5.size h6 hnx p c l n hn hl hp ha).mono ?_
 rintro ev w' ⟨rfl, v', k1, k2, k3, k4⟩
 refine ⟨rfl, ⟨v', k1, k2, fun q => ?_, h4, h5.trans (k3.below h5.size (fun k hk q => ?_)), commit_sane s nx lost l h6, fun x hx => ?_⟩, k3.widen (fun k hk q r => ?_)⟩
 ·rcases k4 jb q with r | r
  ·exact h3 r
  ·have := Blk.lt h2; omega
 ·rcases q with q | q
  ·have := (h1.fd k q).1; omega
  ·omega
 ·obtain ⟨a1, a2, a3⟩ := h7 x hx
  refine ⟨fun q => ?_, a2, Nat.lt_of_lt_of_le a3 k3.size⟩
  rcases k4 x q with r | r
  ·exact a1 r
  ·omega
 ·obtain ⟨a1, a2, a3⟩ := h7 k r
  rcases q with q | q
  ·exact a1 q
  ·exact a2 q
theorem Dk.lower {w : World} {base base0 b : Nat} {v : DV} {s : DSt} (g1 : Dk w base b v s) (h : base0 ≤ base) : Dk w base0 b v s :=
 ⟨g1.blk, owns_base g1.rl h, owns_base g1.rn h, owns_base g1.rp h, owns_base g1.ra h, g1.ne, Nat.le_trans h g1.lo⟩
theorem layP_size (ps : List (Nat × ByteArray)) : ∀ (l : List ByteArray), (∀ t ∈ l, t.size = 256) → (∀ p ∈ ps, p.2.size = 256) → ∀ t ∈ layP l ps, t.size = 256 := by
 induction ps with
 | nil => intro l h _; exact h
 | cons p r ih =>
  intro l h hp
  refine ih _ (fun t ht => ?_) (fun q hq => hp q (by simp [hq]))
  rcases List.mem_or_eq_of_mem_set ht with q | q
  ·exact h t q
  ·rw [q]; exact hp p (by simp)
theorem natW_size {N : Nat} {l : List Wr1} (h : OkW N l) : ∀ p ∈ natW l, p.2.size = 256 := fun p hp => by
 obtain ⟨x, hx, rfl⟩ := List.mem_map.1 hp
 exact (h x hx).2.2
theorem com_size (L : List ByteArray) (nx : Nat) (l : List Wr1) (hl : GoodL l) (h : ∀ t ∈ L, t.size = 256) : ∀ t ∈ comL L nx l, t.size = 256 := by
 have h1 : ∀ H : List Int, H.length ≤ 60 → ∀ p ∈ ([(1, headB nx H)] : List (Nat × ByteArray)), p.2.size = 256 := fun H hH p hp => by
  simp at hp; subst hp; exact headB_size nx H hH
 unfold comL
 refine layP_size _ _ (layP_size _ _ (layP_size _ _ (layP_size _ _ h (natW_size (rec_ok l hl))) (h1 _ (by rw [secs16 l hl]; decide))) (natW_size (fill_ok l hl))) (h1 _ (by simp))
end Go.Proofs.YtiellebdliifdaaGreatDoor
namespace Go.Proofs.YtiellebdliifdaaGreatDoor
open Go.RowKit
end Go.Proofs.YtiellebdliifdaaGreatDoor
namespace Go.Proofs.YtiellebdliifdaaGreatDoor
open Go.RowKit
theorem L0_size : ∀ t ∈ L0, t.size = 256 := fun t ht => by
 rcases List.mem_or_eq_of_mem_set ht with q | q
 ·rw [List.eq_of_mem_replicate q]; exact zero256_size
 ·rw [q]; exact headB_size 0 [] (by simp)
end Go.Proofs.YtiellebdliifdaaGreatDoor
namespace Go.Proofs.YtiellebdliifdaaGreatDoor
open Go.RowKit
end Go.Proofs.YtiellebdliifdaaGreatDoor
namespace Go.Proofs.YtiellebdliifdaaGreatDoor
open Go.RowKit
end Go.Proofs.YtiellebdliifdaaGreatDoor
namespace Go.Proofs.YtiellebdliifdaaGreatDoor
open Go.RowKit
end Go.Proofs.YtiellebdliifdaaGreatDoor
namespace Go.Proofs.YtiellebdliifdaaGreatDoor
open Go.RowKit
end Go.Proofs.YtiellebdliifdaaGreatDoor
namespace Go.Proofs.YtiellebdliifdaaGreatDoor
open Go.RowKit
end Go.Proofs.YtiellebdliifdaaGreatDoor
namespace Go.Proofs.YtiellebdliifdaaGreatDoor
open Go.RowKit
def DF (w0 w : World) (b : Nat) (s : DSt) (X : Nat → Prop) : Prop := ∃ v, Dk w w0.heap.size b v s ∧ Below w0.heap.size w0 w ∧ Sane s ∧ ∀ x, X x → ¬ Fd b v x ∧ x < w.heap.size
theorem DF.bel {w0 w : World} {b : Nat} {s : DSt} {X : Nat → Prop} (h : DF w0 w b s X) : Below w0.heap.size w0 w := by
 obtain ⟨v, h1, h2, _⟩ := h
 exact h2
theorem DF.lt {w0 w : World} {b : Nat} {s : DSt} {X : Nat → Prop} (h : DF w0 w b s X) (x : Nat) (hx : X x) : x < w.heap.size := by
 obtain ⟨v, h1, h2, h3, h4⟩ := h
 exact (h4 x hx).2
theorem DF.di {w0 w : World} {b : Nat} {s : DSt} {X : Nat → Prop} (h : DF w0 w b s X) : DI w0 w b s := by
 obtain ⟨v, h1, h2, h3, h4⟩ := h
 exact ⟨v, h1, h2, h3⟩
theorem DF.below {w0 w w' : World} {b : Nat} {s : DSt} {X : Nat → Prop} (h : DF w0 w b s X) (hb : Below w.heap.size w w') : DF w0 w' b s X := by
 obtain ⟨v, h1, h2, h3, h4⟩ := h
 exact ⟨v, h1.below hb, h2.trans (hb.mono h2.size), h3, fun x hx => ⟨(h4 x hx).1, Nat.lt_of_lt_of_le (h4 x hx).2 hb.size⟩⟩
end Go.Proofs.YtiellebdliifdaaGreatDoor
namespace Go.Proofs.YtiellebdliifdaaGreatDoor
open Go.ChangeShapes Go.WideShapes Go.ChangeAt Go.RowKit
theorem own : ownKnob Tryz.prog.godebug = none := by kernel_rfl
theorem laidOut : laidOutB Tryz.prog = true := by kernel_rfl
theorem gEt : Tryz.prog.globalNamed "errors.errorType" = some 1 := by kernel_rfl
theorem gRt : (Tryz.prog.cutTypes.find? (·.1 == "internal/reflectlite.rtype")).map (·.2) = some 266 := by kernel_rfl
theorem gOne : ((List.range 307).filter fun t => Tryz.prog.rowNamed t [101, 114, 114, 111, 114]) = [165] := by kernel_rfl
theorem gSize : Tryz.prog.types.size = 307 := by kernel_rfl
def laidL : List (String × DataW Unit) := [("errors.errorType", Rows.laid_errors_errorType)]
theorem wf_I64 {z : Int} (h : (Lit.int .i64 z).wf = true) : I64 z := by
 simpa [I64, Lit.wf, IntKind.min, IntKind.max, IntKind.signed, IntKind.bits] using h
theorem ety_of {W : World} (h : laidMetH Tryz.prog laidL W) : ETy W := by
 have h' : laidMet Tryz.prog [] W ∧ handlesMet Tryz.prog laidL W := h
 obtain ⟨name, u, ty, e1, e2, e3, e4, e5⟩ := h'.2 _ (List.mem_singleton.2 rfl)
 have en : name = [101, 114, 114, 111, 114] := (Option.some.inj e1).symm
 subst en
 obtain rfl := Option.some.inj (gRt.symm.trans e2)
 have hm : ty ∈ (List.range 307).filter fun t => Tryz.prog.rowNamed t [101, 114, 114, 111, 114] := List.mem_filter.2 ⟨List.mem_range.2 (by rw [← gSize]; exact e3), e4⟩
 rw [gOne] at hm
 obtain rfl := List.mem_singleton.1 hm
 have hh : typeHandle Tryz.prog 165 = .pointer (some ⟨2, 165, none⟩) := by kernel_rfl
 rw [hh] at e5
 have := World.var?_cell gEt e5 0
 unfold ETy
 simpa using this
noncomputable def laidWorld (os : Os) : World :=
 let w0 := World.holding Tryz.prog os ⟨#[], #[], []⟩
 { w0 with heap := w0.heap.modify 1 fun
   | .cells _ t frozen => .cells #[.iface 266 (.agg #[.pointer (some ⟨2, 165, none⟩)])] t frozen
   | o => o }
end Go.Proofs.YtiellebdliifdaaGreatDoor
namespace Go.Proofs.YtiellebdliifdaaGreatDoor
open Go.ChangeShapes Go.WideShapes Go.ChangeAt Go.RowKit
set_option maxRecDepth 100000 in
theorem open_il {H : Type} {enc : TypeId × Value → H} {w : World} {base : Nat} {spare : Nat → Bool} {held : Bool} {fuel : Nat} {a : Option Addr} {len cap : Nat} {x : DataW H × List MemPlace} (h : DataW.trod enc Tryz.prog w base spare held fuel 22 [.slice a len cap] = some x) :
  ∃ l : List Int, len = l.length ∧ Ints w a l ∧ (∀ i, I64 (l.getD i 0)) ∧ len ≤ 9223372036854775807 := by
 have hML : (maxLen : Nat) = 9223372036854775807 := rfl
 rcases open_ints Tryz.underlying22 Tryz.underlying3 (by kernel_rfl) h with ⟨hcs, _⟩ | ⟨ad, l, c, zs, hcs, _, hl, hm, hz, hd, hcell, hwz⟩
 ·simp at hcs
  obtain ⟨rfl, rfl, rfl⟩ := hcs
  exact ⟨[], rfl, fun j hj => (by cases hj), fun i => by simp [I64], by omega⟩
 ·simp at hcs
  obtain ⟨rfl, rfl, rfl⟩ := hcs
  have hzl : len ≤ zs.length := by rw [hz]; split <;> omega
  have hlen : (zs.take len).length = len := by simp; omega
  refine ⟨zs.take len, hlen.symm, fun j hj => ?_, fun i => ?_, by omega⟩
  ·rw [hlen] at hj
   have hc := hcell j (by omega)
   have hc0 := hcell 0 (by omega)
   obtain ⟨b, off, spot⟩ := ad
   have hspot : spot = none := by simpa [Addr.add] using World.cell?_spot hc0
   subst hspot
   rw [Addr.add_mid] at hc
   refine ⟨b, off, rfl, World.block_lt_of_cell? w _ hc, hc.trans ?_⟩
   simp [hj]
  ·by_cases hi : i < (zs.take len).length
   ·rw [List.getD_eq_getElem?_getD, List.getElem?_eq_getElem hi]
    exact wf_I64 (hwz _ (List.mem_of_mem_take (List.getElem_mem hi)))
   ·rw [List.getD_eq_getElem?_getD, List.getElem?_eq_none (by omega)]
    simp [I64]
end Go.Proofs.YtiellebdliifdaaGreatDoor
