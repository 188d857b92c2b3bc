import Derived.Test.YtpcmifmgkccfnaaGreatDoorMv21
import Derived.Test.YtpcmifmgkccfnaaGreatDoorMv22
import Derived.Test.YtpcmifmgkccfnaaGreatDoorMv15
import Derived.BigQuiet
import Derived.Test.YtpcmifmgkccfnaaGreatDoorMv16
import Derived.Test.YtpcmifmgkccfnaaGreatDoorMv18
namespace Go.Proofs.YtpcmifmgkccfnaaGreatDoor
open Go.RowKit
theorem layP_app (l : List ByteArray) (a b : List (Nat × ByteArray)) : layP l (a ++ b) = layP (layP l a) b := by simp [layP]
theorem layP_skip (ps : List (Nat × ByteArray)) : ∀ (l : List ByteArray) (k : Nat), (∀ p ∈ ps, p.1 ≠ k) → (layP l ps).getD k ByteArray.empty = l.getD k ByteArray.empty := by
  induction ps with
  | nil => intro l k _; rfl
  | cons p r ih =>
    intro l k h
    show (layP (l.set p.1 p.2) r).getD k ByteArray.empty = _
    rw [ih _ k (fun q hq => h q (by simp [hq]))]
    exact getD_set_other l p.1 k p.2 (h p (by simp))
theorem layP_congr (ps : List (Nat × ByteArray)) : ∀ (l1 l2 : List ByteArray) (k : Nat), l1.length = l2.length → l1.getD k ByteArray.empty = l2.getD k ByteArray.empty → (layP l1 ps).getD k ByteArray.empty = (layP l2 ps).getD k ByteArray.empty := by
  induction ps with
  | nil => intro l1 l2 k _ h; exact h
  | cons p r ih =>
    intro l1 l2 k hl h
    refine ih _ _ k (by simp [hl]) ?_
    by_cases e : p.1 = k
    · subst e
      by_cases hk : p.1 < l1.length
      · rw [getD_set_same _ _ _ hk, getD_set_same _ _ _ (by omega)]
      · rw [List.getD_eq_getElem?_getD, List.getD_eq_getElem?_getD, List.getElem?_eq_none (by simp; omega), List.getElem?_eq_none (by simp; omega)]
    · rw [getD_set_other _ _ _ _ e, getD_set_other _ _ _ _ e]; exact h
theorem natW_app (a b : List Wr1) : natW (a ++ b) = natW a ++ natW b := by simp [natW]
/-- Behind a commit each free sector is what the list says. -/
theorem com_free (L : List ByteArray) (nx : Nat) (l : List Wr1) (hl : l.length ≤ 16) (k : Nat) (hk : 19 ≤ k) : (comL L nx l).getD k ByteArray.empty = (layP L (natW l)).getD k ByteArray.empty := by
  unfold comL
  rw [layP_skip [(1, headB nx [])] _ k (by intro p hp; simp at hp; subst hp; show 1 ≠ k; omega)]
  rw [filled, natW_app, layP_app, layP_skip (natW (List.replicate (16 - l.length) fillW)) _ k (by
    intro p hp
    obtain ⟨x, hx, rfl⟩ := List.mem_map.1 hp
    have := List.eq_of_mem_replicate hx
    subst this
    show 18 ≠ k
    omega)]
  refine layP_congr _ _ _ k (by simp only [layP_len]) ?_
  rw [layP_skip [(1, _)] _ k (by intro p hp; simp at hp; subst hp; show 1 ≠ k; omega), layP_skip _ _ k (by
    intro p hp
    obtain ⟨x, hx, rfl⟩ := List.mem_map.1 hp
    obtain ⟨i, hi, rfl⟩ := List.mem_map.1 hx
    have hi : i < (l ++ List.replicate (16 - l.length) fillW).length := List.mem_range.1 hi
    simp at hi
    show 2 + i ≠ k
    omega)]
theorem com_head (L : List ByteArray) (nx : Nat) (l : List Wr1) (hL : 1 < L.length) : (comL L nx l).getD 1 ByteArray.empty = headB nx [] := by
  unfold comL
  show ((layP _ (natW (filled l))).set 1 (headB nx [])).getD 1 ByteArray.empty = _
  exact getD_set_same _ 1 _ (by simp only [layP_len]; exact hL)
/-- A disk and its journal, made behind w0. -/
def JI (w0 w : World) (b jb : Nat) (s : DSt) (nx : Nat) (lost : Bool) : Prop :=
  ∃ v, Dk w w0.heap.size b v s ∧ Jb w jb b nx lost ∧ ¬ Fd b v jb ∧ w0.heap.size ≤ jb ∧ Below w0.heap.size w0 w ∧ Sane s
theorem JI.di {w0 w : World} {b jb : Nat} {s : DSt} {nx : Nat} {lost : Bool} (h : JI w0 w b jb s nx lost) : DI w0 w b s := by
  obtain ⟨v, h1, h2, h3, h4, h5, h6⟩ := h
  exact ⟨v, h1, h5, h6⟩
theorem JI.bel {w0 w : World} {b jb : Nat} {s : DSt} {nx : Nat} {lost : Bool} (h : JI w0 w b jb s nx lost) : Below w0.heap.size w0 w := h.di.bel
theorem JI.below {w0 w w' : World} {b jb : Nat} {s : DSt} {nx : Nat} {lost : Bool} (h : JI w0 w b jb s nx lost) (hb : Below w.heap.size w w') : JI w0 w' b jb s nx lost := by
  obtain ⟨v, h1, h2, h3, h4, h5, h6⟩ := h
  exact ⟨v, h1.below hb, Blk.below h2 hb (Blk.lt h2), h3, h4, h5.trans (hb.mono h5.size), h6⟩
theorem JI.dpost {w0 w w' : World} {b jb : Nat} {v : DV} {s s' : DSt} {nx : Nat} {lost : Bool} (h1 : Dk w w0.heap.size b v s) (h2 : Jb w jb b nx lost) (h3 : ¬ Fd b v jb) (h4 : w0.heap.size ≤ jb) (h5 : Below w0.heap.size w0 w) (hs : Sane s') (hP : DPost w0.heap.size b v s' w w') : JI w0 w' b jb s' nx lost := by
  obtain ⟨v', k1, k2, k3⟩ := hP
  refine ⟨v', k1, Blk.only h2 k2 h3, fun q => ?_, h4, DI.only h1 h5 k2, hs⟩
  rcases k3 jb q with r | r
  · exact h3 r
  · have := Blk.lt h2; omega
theorem runs_sane (R : List (List Wr1)) : ∀ s, Sane s → Sane (runsR s R).2 := by
  induction R with
  | nil => intro s h; exact h
  | cons r R ih =>
    intro s h
    unfold runsR
    split
    · exact ih _ (layR_sane r s h)
    · exact layR_sane r s h
theorem commit_sane (s : DSt) (nx : Nat) (lost : Bool) (l : List Wr1) (h : Sane s) : Sane (commitR s nx lost l).s := by
  unfold commitR
  split
  · exact h
  · split
    · exact h
    · split
      · exact runs_sane _ s h
      · exact runs_sane _ s h
/-- A disk with a journal that is opened. -/
def L0 : List ByteArray := (List.replicate 128 zero256).set 1 (headB 0 [])
theorem L0_len : L0.length = 128 := by simp [L0]
def A0 : List (Nat × Nat) := [(0, 1), (1, 0)]
theorem fresh_rs (L : List ByteArray) : freshS L = rs L [] := rfl
theorem format_rs : layR (freshS (List.replicate 128 zero256)) [(1, headB 0 [])] = (0, rs L0 A0) := by
  rw [fresh_rs, lay_rs _ _ _ (head_ok _ (by rw [List.length_replicate]; decide) 0 [] (by simp))]
  rfl
theorem head0 : L0.getD 1 ByteArray.empty = headB 0 [] := getD_set_same _ 1 _ (by rw [List.length_replicate]; decide)
theorem read_rs (L : List ByteArray) (A : List (Nat × Nat)) (j : Nat) (hj : j < L.length) : readE (rs L A) (j : Int) = 0 ∧ readT (rs L A) (j : Int) = L.getD j ByteArray.empty := readA (s := rs L A) ⟨rfl, rfl⟩ j hj
/-- Open of a disk whose head is clear. -/
theorem open_clear {w : World} {base b : Nat} {v : DV} {L : List ByteArray} {A : List (Nat × Nat)} (h : Dk w base b v (rs L A)) (hg : ETy w) (hb : base ≤ w.heap.size) (hS : Sane (rs L A)) (n : Nat) (hn : n < 4294967296) (hL : 1 < L.length) (hh : L.getD 1 ByteArray.empty = headB n []) (ha : A.length ≤ 10000000) :
    Calls Tryz.prog 27 #[.pointer (some ⟨b, 0, none⟩)] w fun e w' => ∃ jb, e = .returned (.tuple #[.pointer (some ⟨jb, 0, none⟩), .bool false, .int .i64 0]) ∧ JNew base b v (rs L A) jb ((n + 1) % 4294967296) w w' := by
  obtain ⟨r1, r2⟩ := read_rs L A 1 hL
  rw [show ((1 : Nat) : Int) = 1 from rfl] at r1 r2
  have ht : (readT (rs L A) 1).size ≤ 9223372036854775807 := by rw [r2, hh, headB_size n [] (by simp)]; decide
  refine (open_any w base b v (rs L A) h hg hb hS ht (Nat.zero_le _) ha).mono ?_
  intro e w' hP
  rcases hP with ⟨q, _⟩ | ⟨_, n', H, ok, hn', hR, hc⟩
  · exact absurd r1 q
  · rw [r2, hh] at hR
    obtain ⟨e1, e2, e3⟩ := rhp_clear n hn _ _ _ _ hR
    have e1' : n' = n := by omega
    subst e1' e2 e3
    rcases hc with ⟨q, _⟩ | ⟨_, _, q⟩ | ⟨_, q, _⟩ | ⟨_, q, _⟩
    · cases q
    · exact q
    · simp at q
    · simp at q
theorem JNew.ji {w0 w w' : World} {b jb nx : Nat} {v : DV} {s s' : DSt} (h1 : Dk w w0.heap.size b v s) (h5 : Below w0.heap.size w0 w) (hs : Sane s') (h : JNew w0.heap.size b v s' jb nx w w') : JI w0 w' b jb s' nx false := by
  obtain ⟨v', k1, k2, k3, k4, k5, k6⟩ := h
  exact ⟨v', k1, k2, k3, by have := h5.size; omega, DI.only h1 h5 k5, hs⟩
theorem comA_len (l : List Wr1) (h : l.length ≤ 16) : (comA l).length = 38 := by
  have := filled_len l h
  simp [comA, actW, recL_len, this]
end Go.Proofs.YtpcmifmgkccfnaaGreatDoor

namespace Go.Proofs.YtpcmifmgkccfnaaGreatDoor
open Go.RowKit
/-- Writes to be made: the sectors that the raw numbers speak of, and marked texts. -/
def wlist (off : Int) (l : List Int) : List (Nat × ByteArray) := (List.range l.length).map (fun j : Nat => (pickP (l.getD j 0) 128, sectorB (off + (j : Int))))
def wacts (P : List (Nat × ByteArray)) : List (Nat × Nat) := P.map (fun p => (0, p.1))
end Go.Proofs.YtpcmifmgkccfnaaGreatDoor

namespace Go.Proofs.YtpcmifmgkccfnaaGreatDoor
open Go.RowKit
theorem Strs.own {w : World} {base : Nat} {v : Value} {l : List ByteArray} (h : w.ownsRow base 9 1 v l.length (strs l)) : ∃ p c, v = .slice p l.length c ∧ Strs w p l := by
  rcases h.2 with ⟨h1, h2⟩ | ⟨g, cap, cur, h1, hb, hg, _⟩
  · refine ⟨none, 0, by rw [h1, h2], fun j hj => ?_⟩
    omega
  · refine ⟨some ⟨g, 0, none⟩, cap, h1, fun j hj => ⟨g, 0, rfl, Blk.lt hg, ?_⟩⟩
    rw [Nat.zero_add, (own_at h (by rw [h1]; rfl) j hj).1]
    exact strs_at _ _ hj
def StrsB (B : Nat) (w : World) (p : Option Addr) (l : List ByteArray) : Prop := ∀ j, j < l.length → ∃ g o, p = some ⟨g, o, none⟩ ∧ B ≤ g ∧ g < w.heap.size ∧ w.cell? ⟨g, o + j, none⟩ = some (.string (l.getD j ByteArray.empty))
theorem Strs.ownB {w : World} {base : Nat} {v : Value} {l : List ByteArray} (h : w.ownsRow base 9 1 v l.length (strs l)) : ∃ p c, v = .slice p l.length c ∧ StrsB base w p l := by
  rcases h.2 with ⟨h1, h2⟩ | ⟨g, cap, cur, h1, hb, hg, _⟩
  · refine ⟨none, 0, by rw [h1, h2], fun j hj => ?_⟩
    omega
  · refine ⟨some ⟨g, 0, none⟩, cap, h1, fun j hj => ⟨g, 0, rfl, hb, Blk.lt hg, ?_⟩⟩
    rw [Nat.zero_add, (own_at h (by rw [h1]; rfl) j hj).1]
    exact strs_at _ _ hj
theorem Strs.below {w w' : World} {p : Option Addr} {l : List ByteArray} (h : Strs w p l) (hb : Below w.heap.size w w') : Strs w' p l := fun j hj => by
  obtain ⟨g, o, h1, h2, h3⟩ := h j hj
  exact ⟨g, o, h1, Nat.lt_of_lt_of_le h2 hb.size, (hb.cell (p := ⟨g, o + j, none⟩) h2).trans h3⟩
end Go.Proofs.YtpcmifmgkccfnaaGreatDoor

namespace Go.Proofs.YtpcmifmgkccfnaaGreatDoor
open Go.RowKit
def freeQ (l m : List ByteArray) : Prop := ∀ k, 19 ≤ k → k < l.length → l.getD k ByteArray.empty = m.getD k ByteArray.empty
end Go.Proofs.YtpcmifmgkccfnaaGreatDoor

namespace Go.Proofs.YtpcmifmgkccfnaaGreatDoor
open Go.RowKit
/-- A disk and its journal, made behind w0, and a fence: blocks that belong to neither. -/
def JK (w0 w : World) (b jb : Nat) (s : DSt) (nx : Nat) (lost : Bool) (X : Nat → Prop) : Prop :=
  ∃ v, Dk w w0.heap.size b v s ∧ Jb w jb b nx lost ∧ ¬ Fd b v jb ∧ w0.heap.size ≤ jb ∧ Below w0.heap.size w0 w ∧ Sane s ∧ ∀ x, X x → ¬ Fd b v x ∧ x ≠ jb ∧ x < w.heap.size
theorem JK.ji {w0 w : World} {b jb : Nat} {s : DSt} {nx : Nat} {lost : Bool} {X : Nat → Prop} (h : JK w0 w b jb s nx lost X) : JI w0 w b jb s nx lost := by
  obtain ⟨v, h1, h2, h3, h4, h5, h6, _⟩ := h
  exact ⟨v, h1, h2, h3, h4, h5, h6⟩
theorem JI.jk {w0 w : World} {b jb : Nat} {s : DSt} {nx : Nat} {lost : Bool} (h : JI w0 w b jb s nx lost) : JK w0 w b jb s nx lost (fun _ => False) := by
  obtain ⟨v, h1, h2, h3, h4, h5, h6⟩ := h
  exact ⟨v, h1, h2, h3, h4, h5, h6, fun _ q => q.elim⟩
theorem JK.bel {w0 w : World} {b jb : Nat} {s : DSt} {nx : Nat} {lost : Bool} {X : Nat → Prop} (h : JK w0 w b jb s nx lost X) : Below w0.heap.size w0 w := h.ji.bel
theorem JK.more {w0 w w' : World} {b jb : Nat} {s : DSt} {nx : Nat} {lost : Bool} {X : Nat → Prop} (h : JK w0 w b jb s nx lost X) (hb : Below w.heap.size w w') (Y : Nat → Prop) (hy : ∀ x, Y x → X x ∨ (w.heap.size ≤ x ∧ x < w'.heap.size)) : JK w0 w' b jb s nx lost Y := by
  obtain ⟨v, h1, h2, h3, h4, h5, h6, h7⟩ := h
  refine ⟨v, h1.below hb, Blk.below h2 hb (Blk.lt h2), h3, h4, h5.trans (hb.mono h5.size), h6, fun x hx => ?_⟩
  rcases hy x hx with q | ⟨q1, q2⟩
  · obtain ⟨a1, a2, a3⟩ := h7 x q
    exact ⟨a1, a2, Nat.lt_of_lt_of_le a3 hb.size⟩
  · refine ⟨fun q => ?_, fun q => ?_, q2⟩
    · have := (h1.fd x q).2; omega
    · have := Blk.lt h2; omega
theorem JK.below {w0 w w' : World} {b jb : Nat} {s : DSt} {nx : Nat} {lost : Bool} {X : Nat → Prop} (h : JK w0 w b jb s nx lost X) (hb : Below w.heap.size w w') : JK w0 w' b jb s nx lost X := h.more hb X (fun _ q => .inl q)
theorem JK.less {w0 w : World} {b jb : Nat} {s : DSt} {nx : Nat} {lost : Bool} {X : Nat → Prop} (h : JK w0 w b jb s nx lost X) (Y : Nat → Prop) (hy : ∀ x, Y x → X x) : JK w0 w b jb s nx lost Y := h.more (Below.refl _ _) Y (fun x q => .inl (hy x q))
theorem JK.lt {w0 w : World} {b jb : Nat} {s : DSt} {nx : Nat} {lost : Bool} {X : Nat → Prop} (h : JK w0 w b jb s nx lost X) (x : Nat) (hx : X x) : x < w.heap.size := by
  obtain ⟨v, h1, h2, h3, h4, h5, h6, h7⟩ := h
  exact (h7 x hx).2.2
theorem Strs.fence {w w' : World} {p : Option Addr} {l : List ByteArray} {X : Nat → Prop} (h : Strs w p l) (ho : Only (fun x => ¬ X x) w w') (hp : ∀ g o, p = some ⟨g, o, none⟩ → X g) : Strs w' p l := fun j hj => by
  obtain ⟨g, o, e, h1, h2⟩ := h j hj
  have q := ho.2 g h1 (fun r => r (hp g o e))
  exact ⟨g, o, e, Nat.lt_of_lt_of_le h1 ho.size, (World.cell?_of_block (a := ⟨g, o + j, none⟩) q).trans h2⟩
theorem Wls.fence {w w' : World} {p : Option Addr} {l : List Wr1} {X : Nat → Prop} (h : Wls w p l) (ho : Only (fun x => ¬ X x) w w') (hp : ∀ g o, p = some ⟨g, o, none⟩ → X g) : Wls w' p l := h.only ho (fun g o e r => r (hp g o e))
theorem Only.widen {P Q : Nat → Prop} {w w' : World} (h : Only P w w') (hq : ∀ k, k < w.heap.size → P k → Q k) : Only Q w w' := ⟨h.1, fun k hk hn => h.2 k hk (fun q => hn (hq k hk q))⟩
theorem commitK {w0 w : World} {b jb : Nat} {s : DSt} {nx : Nat} {lost : Bool} {X : Nat → Prop} (h : JK w0 w b jb s nx lost X) (hnx : nx < 4294967296) (p : Option Addr) (c : Nat) (l : List Wr1) (n : Nat) (hn : n = l.length) (hl : Wls w p l) (hp : s.pend.length ≤ 1000000) (ha : s.acts.length ≤ 100000000) :
    Calls Tryz.prog 40 #[.pointer (some ⟨jb, 0, none⟩), .slice p n c] w fun e w' => e = .returned (.int .i64 (commitR s nx lost l).e) ∧ JK w0 w' b jb (commitR s nx lost l).s (commitR s nx lost l).nx (commitR s nx lost l).lost X ∧ Only (fun x => ¬ X x) w w' := by
  obtain ⟨v, h1, h2, h3, h4, h5, h6, h7⟩ := h
  refine (commit_any w _ b jb nx v s lost h1 h2 h3 h5.size h6 hnx p c l n hn hl hp ha).mono ?_
  rintro ev w' ⟨rfl, v', k1, k2, k3, k4⟩
  refine ⟨rfl, ⟨v', k1, k2, fun q => ?_, h4, h5.trans (k3.below h5.size (fun k hk q => ?_)), commit_sane s nx lost l h6, fun x hx => ?_⟩, k3.widen (fun k hk q r => ?_)⟩
  · rcases k4 jb q with r | r
    · exact h3 r
    · have := Blk.lt h2; omega
  · rcases q with q | q
    · have := (h1.fd k q).1; omega
    · omega
  · obtain ⟨a1, a2, a3⟩ := h7 x hx
    refine ⟨fun q => ?_, a2, Nat.lt_of_lt_of_le a3 k3.size⟩
    rcases k4 x q with r | r
    · exact a1 r
    · omega
  · obtain ⟨a1, a2, a3⟩ := h7 k r
    rcases q with q | q
    · exact a1 q
    · exact a2 q
theorem layP_size (ps : List (Nat × ByteArray)) : ∀ (l : List ByteArray), (∀ t ∈ l, t.size = 256) → (∀ p ∈ ps, p.2.size = 256) → ∀ t ∈ layP l ps, t.size = 256 := by
  induction ps with
  | nil => intro l h _; exact h
  | cons p r ih =>
    intro l h hp
    refine ih _ (fun t ht => ?_) (fun q hq => hp q (by simp [hq]))
    rcases List.mem_or_eq_of_mem_set ht with q | q
    · exact h t q
    · rw [q]; exact hp p (by simp)
theorem natW_size {N : Nat} {l : List Wr1} (h : OkW N l) : ∀ p ∈ natW l, p.2.size = 256 := fun p hp => by
  obtain ⟨x, hx, rfl⟩ := List.mem_map.1 hp
  exact (h x hx).2.2
theorem com_size (L : List ByteArray) (nx : Nat) (l : List Wr1) (hl : GoodL l) (h : ∀ t ∈ L, t.size = 256) : ∀ t ∈ comL L nx l, t.size = 256 := by
  have h1 : ∀ H : List Int, H.length ≤ 60 → ∀ p ∈ ([(1, headB nx H)] : List (Nat × ByteArray)), p.2.size = 256 := fun H hH p hp => by
    simp at hp; subst hp; exact headB_size nx H hH
  unfold comL
  refine layP_size _ _ (layP_size _ _ (layP_size _ _ (layP_size _ _ h (natW_size (rec_ok l hl))) (h1 _ (by rw [secs16 l hl]; decide))) (natW_size (fill_ok l hl))) (h1 _ (by simp))
end Go.Proofs.YtpcmifmgkccfnaaGreatDoor

namespace Go.Proofs.YtpcmifmgkccfnaaGreatDoor
open Go.RowKit
end Go.Proofs.YtpcmifmgkccfnaaGreatDoor

namespace Go.Proofs.YtpcmifmgkccfnaaGreatDoor
open Go.RowKit
theorem L0_size : ∀ t ∈ L0, t.size = 256 := fun t ht => by
  rcases List.mem_or_eq_of_mem_set ht with q | q
  · rw [List.eq_of_mem_replicate q]; exact zero256_size
  · rw [q]; exact headB_size 0 [] (by simp)
end Go.Proofs.YtpcmifmgkccfnaaGreatDoor

namespace Go.Proofs.YtpcmifmgkccfnaaGreatDoor
open Go.RowKit
end Go.Proofs.YtpcmifmgkccfnaaGreatDoor

namespace Go.Proofs.YtpcmifmgkccfnaaGreatDoor
open Go.RowKit
theorem JK.dpost {w0 w w' : World} {b jb : Nat} {v : DV} {s s' : DSt} {nx : Nat} {lost : Bool} {X : Nat → Prop} (h1 : Dk w w0.heap.size b v s) (h2 : Jb w jb b nx lost) (h3 : ¬ Fd b v jb) (h4 : w0.heap.size ≤ jb) (h5 : Below w0.heap.size w0 w) (hs : Sane s') (h7 : ∀ x, X x → ¬ Fd b v x ∧ x ≠ jb ∧ x < w.heap.size) (hP : DPost w0.heap.size b v s' w w') : JK w0 w' b jb s' nx lost X ∧ Only (fun x => ¬ X x) w w' := by
  obtain ⟨v', k1, k2, k3⟩ := hP
  refine ⟨⟨v', k1, Blk.only h2 k2 h3, fun q => ?_, h4, DI.only h1 h5 k2, hs, fun x hx => ?_⟩, k2.widen (fun k _ q r => (h7 k r).1 q)⟩
  · rcases k3 jb q with r | r
    · exact h3 r
    · have := Blk.lt h2; omega
  · obtain ⟨a1, a2, a3⟩ := h7 x hx
    refine ⟨fun q => ?_, a2, Nat.lt_of_lt_of_le a3 k2.size⟩
    rcases k3 x q with r | r
    · exact a1 r
    · omega
end Go.Proofs.YtpcmifmgkccfnaaGreatDoor

namespace Go.Proofs.YtpcmifmgkccfnaaGreatDoor
open Go.RowKit
end Go.Proofs.YtpcmifmgkccfnaaGreatDoor

namespace Go.Proofs.YtpcmifmgkccfnaaGreatDoor
open Go.RowKit
end Go.Proofs.YtpcmifmgkccfnaaGreatDoor

namespace Go.Proofs.YtpcmifmgkccfnaaGreatDoor
open Go.RowKit
end Go.Proofs.YtpcmifmgkccfnaaGreatDoor

namespace Go.Proofs.YtpcmifmgkccfnaaGreatDoor
open Go.RowKit
/-- A disk behind w0, and a fence. -/
def DF (w0 w : World) (b : Nat) (s : DSt) (X : Nat → Prop) : Prop := ∃ v, Dk w w0.heap.size b v s ∧ Below w0.heap.size w0 w ∧ Sane s ∧ ∀ x, X x → ¬ Fd b v x ∧ x < w.heap.size
theorem DF.bel {w0 w : World} {b : Nat} {s : DSt} {X : Nat → Prop} (h : DF w0 w b s X) : Below w0.heap.size w0 w := by
  obtain ⟨v, h1, h2, _⟩ := h
  exact h2
theorem DF.lt {w0 w : World} {b : Nat} {s : DSt} {X : Nat → Prop} (h : DF w0 w b s X) (x : Nat) (hx : X x) : x < w.heap.size := by
  obtain ⟨v, h1, h2, h3, h4⟩ := h
  exact (h4 x hx).2
theorem DF.di {w0 w : World} {b : Nat} {s : DSt} {X : Nat → Prop} (h : DF w0 w b s X) : DI w0 w b s := by
  obtain ⟨v, h1, h2, h3, h4⟩ := h
  exact ⟨v, h1, h2, h3⟩
theorem DF.below {w0 w w' : World} {b : Nat} {s : DSt} {X : Nat → Prop} (h : DF w0 w b s X) (hb : Below w.heap.size w w') : DF w0 w' b s X := by
  obtain ⟨v, h1, h2, h3, h4⟩ := h
  exact ⟨v, h1.below hb, h2.trans (hb.mono h2.size), h3, fun x hx => ⟨(h4 x hx).1, Nat.lt_of_lt_of_le (h4 x hx).2 hb.size⟩⟩
theorem DF.dpost {w0 w w' : World} {b : Nat} {v : DV} {s s' : DSt} {X : Nat → Prop} (h1 : Dk w w0.heap.size b v s) (h2 : Below w0.heap.size w0 w) (hs : Sane s') (h4 : ∀ x, X x → ¬ Fd b v x ∧ x < w.heap.size) (hP : DPost w0.heap.size b v s' w w') : DF w0 w' b s' X ∧ Only (fun x => ¬ X x) w w' := by
  obtain ⟨v', k1, k2, k3⟩ := hP
  refine ⟨⟨v', k1, DI.only h1 h2 k2, hs, fun x hx => ⟨fun q => ?_, Nat.lt_of_lt_of_le (h4 x hx).2 k2.size⟩⟩, k2.widen (fun k _ q r => (h4 k r).1 q)⟩
  rcases k3 x q with r | r
  · exact (h4 x hx).1 r
  · have := (h4 x hx).2; omega
end Go.Proofs.YtpcmifmgkccfnaaGreatDoor

namespace Go.Proofs.YtpcmifmgkccfnaaGreatDoor
open Go.RowKit
/-- At block b lies the document's disk, fresh: these sectors. -/
def Rk0 (w : World) (base b : Nat) (v : Value) (l : List ByteArray) : Prop :=
  Blk w b #[v, .slice none 0 0, .int .i64 0, .bool false, .slice none 0 0] 64 ∧ w.ownsRow base 9 1 v l.length (strs l) ∧ base ≤ b
theorem Rk0.below {w w' : World} {base b : Nat} {v : Value} {l : List ByteArray} (h : Rk0 w base b v l) (hb : Below w.heap.size w w') : Rk0 w' base b v l :=
  ⟨h.1.below hb h.1.lt, owns_only h.2.1 (Only.of_below (P := fun _ => False) hb) (fun _ _ q => q), h.2.2⟩
theorem Rk0.drew {w : World} {base b : Nat} {v : Value} {l : List ByteArray} (h : Rk0 w base b v l) : Rk0 w.drew base b v l := h.below ((Below.refl _ w).drew)
def RNewPost (n : Int) (w : World) (e : Ending) (w' : World) : Prop :=
  if 128 ≤ n ∧ n ≤ 1024 then ∃ b v, e = .returned (.tuple #[.pointer (some ⟨b, 0, none⟩), .int .i64 0]) ∧ Rk0 w' w.heap.size b v (List.replicate n.toNat zero256) ∧ Below w.heap.size w w'
  else e = .returned (.tuple #[.pointer none, .int .i64 40]) ∧ w' = w
theorem zero_numsR : strOfNums (List.replicate 256 0) = zero256 := by
  rw [strOfNums, List.map_replicate]
  rfl
/-- The sectors are being laid down. -/
def RnI (w : World) (b : Nat) (t : ByteArray) (k : Nat) (wr : World) : Prop := ∃ v, Rk0 wr w.heap.size b v (List.replicate k t) ∧ Below w.heap.size w wr
set_option maxRecDepth 100000 in
set_option maxHeartbeats 2000000 in
theorem rnew_any (n : Int) (w : World) : Calls Tryz.prog 6 #[.int .i64 n] w (RNewPost n w) := by
  by_cases hn : 128 ≤ n ∧ n ≤ 1024
  · obtain ⟨m, rfl⟩ := Int.eq_ofNat_of_zero_le (show 0 ≤ n by omega)
    have hm1 : 128 ≤ m := by omega
    have hm2 : m ≤ 1024 := by omega
    have HN := hide hn
    clear hn
    obtain ⟨W0, hW0⟩ : ∃ W0, W0 = w.alloc (Obj.cells #[.slice none 0 0, .slice none 0 0, .int .i64 0, .bool false, .slice none 0 0] 64) := ⟨_, rfl⟩
    have R0 : Rk0 W0 w.heap.size w.heap.size (.slice none 0 0) [] := by rw [hW0]; exact ⟨Blk.new _ _ _, World.ownsRow_nil _ _ _ _, Nat.le_refl _⟩
    have BB0 : Below w.heap.size w W0 := by rw [hW0]; exact (Below.refl _ _).alloc (Nat.le_refl _) _
    have hs0 : W0.heap.size = w.heap.size + 1 := by rw [hW0]; simp
    have hmk := run_make_u8 256 256 (by omega) (by omega) W0
    have ha := arr_new W0 .u8 (List.replicate 256 (0 : Int)) 5 _ rfl
    have hb1 : Below W0.heap.size W0 (W0.alloc (.cells ((List.replicate 256 (0 : Int)).map (Value.int .u8)).toArray 5)) := (Below.refl _ _).alloc (Nat.le_refl _) _
    generalize W0.alloc (.cells ((List.replicate 256 (0 : Int)).map (Value.int .u8)).toArray 5) = W1 at *
    have hcv := run_convert_bytes_arg (P := Tryz.prog) W1 65 5 Tryz.underlying65 Tryz.underlying5 W0.heap.size 0 256 256 (List.replicate 256 (0 : Int)) (List.length_replicate) (fun i hi => ha.get i (by rw [List.length_replicate]; omega)) 9 Tryz.underlying9
    rw [zero_numsR] at hcv
    simp only [Int.cast_ofNat_Int] at hmk
    rw [hs0] at hmk hcv
    have X0 := hide (show RnI w w.heap.size zero256 0 W1 from ⟨_, R0.below hb1, BB0.trans (hb1.mono BB0.size)⟩)
    generalize hZ : zero256 = Z at *
    have HZ := hide hZ
    have HW0 := hide hW0
    clear R0 BB0 ha hb1 hZ hs0
    go_enter Tryz.func6, Tryz.ntmps6
    rw [hW0] at hmk
    clear hW0
    go_wp2
    clear hmk hcv HW0
    go_loopw [6] (fun i wr => ∃ k : Nat, k ≤ m ∧ i = .int .i64 (k : Int) ∧ RnI w w.heap.size Z k wr) (fun i _ => m - (intOf i).toNat)
    case atStart => exact ⟨0, by omega, rfl, unhide X0⟩
    case round =>
      obtain ⟨k, hk, rfl, v, hR, hb⟩ := hrel
      obtain ⟨wo, rfl⟩ : ∃ wo, wo = wr := ⟨_, rfl⟩
      have XR := hide hR
      have XB := hide hb
      clear hR hb X0
      by_cases hkm : k < m
      · obtain ⟨p, cap, ev, hcap⟩ := row_form (unhide XR).2.1
        rw [List.length_replicate] at ev hcap
        have c0 : wo.cell? ⟨w.heap.size, 0, none⟩ = some (.slice p k cap) := by rw [(unhide XR).1.cell 0, ← ev]; rfl
        have H := hide ((unhide XR).below ((Below.refl _ wo).alloc (Nat.le_refl _) (Obj.cells #[.string Z] 9)))
        have HE := hide ev
        have hsz := (unhide XB).size
        obtain ⟨i0, hi0, hz0, hz1, hz2⟩ := info_parts infoS
        have HI := hide (And.intro hi0 (And.intro hz0 (And.intro hz1 hz2)))
        have HNB := hide (show v.ownBlock ≠ some w.heap.size from (unhide XR).1.not_row (by decide) (unhide XR).2.1)
        clear ev hi0 hz0 hz1 hz2
        go_wp2_with (refine wpList_append_lies _ rfl (.tmp 26) (.tmp 28) 58 rfl w.heap.size 9 i0 (.string ⟨#[]⟩) 1 16 Tryz.underlying58 (unhide HI).1 (unhide HI).2.1 (unhide HI).2.2.1 (unhide HI).2.2.2 rfl (by decide) _ k (strs (List.replicate k Z)) (unhide HE).symm (by have := (unhide H).2.1; rw [List.length_replicate] at this; exact this) ⟨wo.heap.size, 0, none⟩ 1 1 [.string Z] rfl rfl (fun j u hu => news_one wo _ _ j u hu) (by simp [Value.oneCell']) (by decide) (by unfold maxLen; omega) (by omega) (by simp; omega) _ rfl ?_)
        intro g cap' w1 ho hg hor hlt
        have hO := grown_only hg
        have B1 : Blk w1 w.heap.size _ _ := (unhide H).1.only hO (unhide HNB)
        have c0' : w1.cell? ⟨w.heap.size, 0, none⟩ = some v := by rw [B1.cell 0]; rfl
        have f0' := B1.frozen 0
        have HR := hide (show RnI w w.heap.size Z (k + 1) (w1.setCell ⟨w.heap.size, 0, none⟩ (.slice (some ⟨g, 0, none⟩) (k + 1) cap')) from by
          refine ⟨.slice (some ⟨g, 0, none⟩) (k + 1) cap', ⟨B1.set 0 _, ?_, Nat.le_refl _⟩, ?_⟩
          · have hne := B1.not_row (by decide) ho
            have := owns_setO ho ⟨w.heap.size, 0, none⟩ (.slice (some ⟨g, 0, none⟩) (k + 1) cap') hne
            rw [List.length_replicate, List.replicate_succ']
            simpa [strs] using this
          · exact (((unhide XB).alloc hsz _).grown hg (by simp; omega) (fun q hq => ((unhide H).2.1.lt q hq).1)).setCell (Nat.le_refl _) _)
        clear ho hg hor hlt hO B1
        go_wp2
        go_roundw
        case rel => exact ⟨k + 1, by omega, by go_num, unhide HR⟩
        case measure => simp [intOf]; omega
      · have hk' : m = k := by omega
        subst hk'
        go_wp2
        go_ret2
        rw [RNewPost, if_pos (unhide HN)]
        exact ⟨_, v, rfl, by rw [Int.toNat_natCast, unhide HZ]; exact unhide XR, unhide XB⟩
  · have HN := hide hn
    by_cases h1 : n < 128
    · clear hn
      go_enter Tryz.func6, Tryz.ntmps6
      go_wp2
      go_ret2
      rw [RNewPost, if_neg (unhide HN)]
      exact ⟨rfl, rfl⟩
    · have h2 : 1024 < n := by omega
      clear hn
      go_enter Tryz.func6, Tryz.ntmps6
      go_wp2
      go_ret2
      rw [RNewPost, if_neg (unhide HN)]
      exact ⟨rfl, rfl⟩
end Go.Proofs.YtpcmifmgkccfnaaGreatDoor

namespace Go.Proofs.YtpcmifmgkccfnaaGreatDoor
open Go.RowKit
end Go.Proofs.YtpcmifmgkccfnaaGreatDoor

namespace Go.Proofs.YtpcmifmgkccfnaaGreatDoor
open Go.RowKit
/-- The rows of the document's disk. -/
structure RV where
  l : Value
  p : Value
  a : Value
/-- At block b lies the document's disk with the rows v, which is s (s.now is not held: it is read off the pending writes). -/
structure Rk (w : World) (base b : Nat) (v : RV) (s : DSt) : Prop where
  blk : Blk w b #[v.l, v.p, .int .i64 s.fuse, .bool s.dead, v.a] 64
  rl : w.ownsRow base 9 1 v.l s.last.length (strs s.last)
  rp : w.ownsRow base 111 2 v.p s.pend.length (wrs s.pend)
  ra : w.ownsRow base 136 2 v.a s.acts.length (tels s.acts)
  lo : base ≤ b
def Fr4 (b : Nat) (v : RV) (k : Nat) : Prop := k = b ∨ v.l.ownBlock = some k ∨ v.p.ownBlock = some k ∨ v.a.ownBlock = some k
def RPst (base b : Nat) (v : RV) (s : DSt) (w w' : World) : Prop :=
  ∃ v', Rk w' base b v' s ∧ Only (Fr4 b v) w w' ∧ ∀ k, Fr4 b v' k → Fr4 b v k ∨ w.heap.size ≤ k
theorem Rk.only {w w' : World} {base b : Nat} {v : RV} {s : DSt} {P : Nat → Prop} (h : Rk w base b v s) (ho : Only P w w') (hp : ∀ k, Fr4 b v k → ¬ P k) : Rk w' base b v s :=
  ⟨h.blk.only ho (hp b (.inl rfl)), owns_only h.rl ho (fun k hk => hp k (.inr (.inl hk))), owns_only h.rp ho (fun k hk => hp k (.inr (.inr (.inl hk)))), owns_only h.ra ho (fun k hk => hp k (.inr (.inr (.inr hk)))), h.lo⟩
theorem Rk.below {w w' : World} {base b : Nat} {v : RV} {s : DSt} (h : Rk w base b v s) (hb : Below w.heap.size w w') : Rk w' base b v s := h.only (Only.of_below (P := fun _ => False) hb) (fun _ _ q => q)
theorem Rk.alloc {w : World} {base b : Nat} {v : RV} {s : DSt} (h : Rk w base b v s) (o : Obj) : Rk (w.alloc o) base b v s := h.below ((Below.refl _ w).alloc (Nat.le_refl _) o)
theorem Rk.drew {w : World} {base b : Nat} {v : RV} {s : DSt} (h : Rk w base b v s) : Rk w.drew base b v s := h.below ((Below.refl _ w).drew)
theorem Rk.nb {w : World} {base b : Nat} {v : RV} {s : DSt} (h : Rk w base b v s) : v.l.ownBlock ≠ some b ∧ v.p.ownBlock ≠ some b ∧ v.a.ownBlock ≠ some b :=
  ⟨h.blk.not_row (by decide) h.rl, h.blk.not_row (by decide) h.rp, h.blk.not_row (by decide) h.ra⟩
theorem Rk.cells {w : World} {base b : Nat} {v : RV} {s : DSt} (h : Rk w base b v s) (j : Nat) (u : Value) (v' : RV) (s' : DSt) (hb : (#[v.l, v.p, .int .i64 s.fuse, .bool s.dead, v.a] : Array Value).setIfInBounds j u = #[v'.l, v'.p, .int .i64 s'.fuse, .bool s'.dead, v'.a])
    (hl : (w.setCell ⟨b, j, none⟩ u).ownsRow base 9 1 v'.l s'.last.length (strs s'.last)) (hp : (w.setCell ⟨b, j, none⟩ u).ownsRow base 111 2 v'.p s'.pend.length (wrs s'.pend)) (ha : (w.setCell ⟨b, j, none⟩ u).ownsRow base 136 2 v'.a s'.acts.length (tels s'.acts)) : Rk (w.setCell ⟨b, j, none⟩ u) base b v' s' :=
  ⟨by rw [← hb]; exact h.blk.set j u, hl, hp, ha, h.lo⟩
theorem Rk.setFuse {w : World} {base b : Nat} {v : RV} {s : DSt} (h : Rk w base b v s) (n : Int) : Rk (w.setCell ⟨b, 2, none⟩ (.int .i64 n)) base b v { s with fuse := n } :=
  h.cells 2 _ v _ rfl (owns_setO h.rl _ _ h.nb.1) (owns_setO h.rp _ _ h.nb.2.1) (owns_setO h.ra _ _ h.nb.2.2)
theorem Rk.setDead {w : World} {base b : Nat} {v : RV} {s : DSt} (h : Rk w base b v s) (n : Bool) : Rk (w.setCell ⟨b, 3, none⟩ (.bool n)) base b v { s with dead := n } :=
  h.cells 3 _ v _ rfl (owns_setO h.rl _ _ h.nb.1) (owns_setO h.rp _ _ h.nb.2.1) (owns_setO h.ra _ _ h.nb.2.2)
theorem Rk.setLast {w : World} {base b : Nat} {v : RV} {s : DSt} (h : Rk w base b v s) (g i : Nat) (hg : v.l.ownBlock = some g) (t : ByteArray) : Rk (w.setCell ⟨g, i, none⟩ (.string t)) base b v { s with last := s.last.set i t } := by
  have hgb : g ≠ b := fun e => h.nb.1 (e ▸ hg)
  refine ⟨h.blk.other _ _ hgb, ?_, owns_setO h.rp _ _ (rows_ne h.rl h.rp (by decide) g hg), owns_setO h.ra _ _ (rows_ne h.rl h.ra (by decide) g hg), h.lo⟩
  have := owns_set h.rl hg i (.string t)
  rw [strs_set] at this
  simpa using this
theorem Rk.nilP {w : World} {base b : Nat} {v : RV} {s : DSt} (h : Rk w base b v s) : Rk (w.setCell ⟨b, 1, none⟩ (.slice none 0 0)) base b { v with p := .slice none 0 0 } { s with pend := [] } :=
  h.cells 1 _ _ _ rfl (owns_setO h.rl _ _ h.nb.1) (World.ownsRow_nil _ _ _ _) (owns_setO h.ra _ _ h.nb.2.2)
theorem only_r {w w' : World} {b : Nat} {v : RV} (h : Only (Fr4 b v) w w') (j : Nat) (u : Value) : Only (Fr4 b v) w (w'.setCell ⟨b, j, none⟩ u) := h.setCell _ _ (fun _ => .inl rfl)
theorem RPst.trans {w w1 w2 : World} {base b : Nat} {v v1 : RV} {s2 : DSt} (h : Only (Fr4 b v) w w1) (hv : ∀ k, Fr4 b v1 k → Fr4 b v k ∨ w.heap.size ≤ k) (h2 : RPst base b v1 s2 w1 w2) : RPst base b v s2 w w2 := by
  obtain ⟨v2, a, o, q⟩ := h2
  refine ⟨v2, a, h.trans o (fun k hk hf => ?_), fun k hk => ?_⟩
  · rcases hv k hf with h3 | h3
    · exact h3
    · omega
  · rcases q k hk with h3 | h3
    · exact hv k h3
    · exact .inr (Nat.le_trans h.size h3)
theorem Rk.appA {W w1 : World} {base b : Nat} {v : RV} {s : DSt} (h : Rk W base b v s) (g cap : Nat) (x : Nat × Nat) (ho : w1.ownsRow base 136 2 (.slice (some ⟨g, 0, none⟩) (s.acts.length + 1) cap) (s.acts.length + 1) (tels s.acts ++ tels [x])) (hg : W.grownBy w1 v.a.ownBlock) (hor : v.a.ownBlock = some g ∨ g = W.heap.size) :
    RPst base b v { s with acts := s.acts ++ [x] } W (w1.setCell ⟨b, 4, none⟩ (.slice (some ⟨g, 0, none⟩) (s.acts.length + 1) cap)) := by
  have hO := grown_only hg
  have hB : Blk w1 b _ _ := h.blk.only hO h.nb.2.2
  have hl := owns_only h.rl hO (fun k hk q => rows_ne h.rl h.ra (by decide) k hk q)
  have hp := owns_only h.rp hO (fun k hk q => rows_ne h.rp h.ra (by decide) k hk q)
  have hgb : (Value.slice (some ⟨g, 0, none⟩) (s.acts.length + 1) cap).ownBlock ≠ some b := hB.not_row (by decide) ho
  refine ⟨{ v with a := .slice (some ⟨g, 0, none⟩) (s.acts.length + 1) cap }, ⟨hB.set 4 _, owns_setO hl _ _ h.nb.1, owns_setO hp _ _ h.nb.2.1, ?_, h.lo⟩, only_r (hO.mono (fun k _ q => .inr (.inr (.inr q)))) _ _, fun k hk => ?_⟩
  · have := owns_setO ho ⟨b, 4, none⟩ (.slice (some ⟨g, 0, none⟩) (s.acts.length + 1) cap) hgb
    simpa [tels_app] using this
  · rcases hk with hk | hk | hk | hk
    · exact .inl (.inl hk)
    · exact .inl (.inr (.inl hk))
    · exact .inl (.inr (.inr (.inl hk)))
    · obtain rfl : g = k := by simpa [Value.ownBlock] using hk
      rcases hor with h1 | h1
      · exact .inl (.inr (.inr (.inr h1)))
      · exact .inr (by omega)
theorem Rk.appP {W w1 : World} {base b : Nat} {v : RV} {s : DSt} (h : Rk W base b v s) (g cap : Nat) (x : Nat × ByteArray) (ho : w1.ownsRow base 111 2 (.slice (some ⟨g, 0, none⟩) (s.pend.length + 1) cap) (s.pend.length + 1) (wrs s.pend ++ wrs [x])) (hg : W.grownBy w1 v.p.ownBlock) (hor : v.p.ownBlock = some g ∨ g = W.heap.size) :
    RPst base b v { s with pend := s.pend ++ [x] } W (w1.setCell ⟨b, 1, none⟩ (.slice (some ⟨g, 0, none⟩) (s.pend.length + 1) cap)) := by
  have hO := grown_only hg
  have hB : Blk w1 b _ _ := h.blk.only hO h.nb.2.1
  have hl := owns_only h.rl hO (fun k hk q => rows_ne h.rl h.rp (by decide) k hk q)
  have ha := owns_only h.ra hO (fun k hk q => rows_ne h.ra h.rp (by decide) k hk q)
  have hgb : (Value.slice (some ⟨g, 0, none⟩) (s.pend.length + 1) cap).ownBlock ≠ some b := hB.not_row (by decide) ho
  refine ⟨{ v with p := .slice (some ⟨g, 0, none⟩) (s.pend.length + 1) cap }, ⟨hB.set 1 _, owns_setO hl _ _ h.nb.1, ?_, owns_setO ha _ _ h.nb.2.2, h.lo⟩, only_r (hO.mono (fun k _ q => .inr (.inr (.inl q)))) _ _, fun k hk => ?_⟩
  · have := owns_setO ho ⟨b, 1, none⟩ (.slice (some ⟨g, 0, none⟩) (s.pend.length + 1) cap) hgb
    simpa [wrs_app] using this
  · rcases hk with hk | hk | hk | hk
    · exact .inl (.inl hk)
    · exact .inl (.inr (.inl hk))
    · obtain rfl : g = k := by simpa [Value.ownBlock] using hk
      rcases hor with h1 | h1
      · exact .inl (.inr (.inr (.inl h1)))
      · exact .inr (by omega)
    · exact .inl (.inr (.inr (.inr hk)))
set_option maxRecDepth 100000 in
set_option maxHeartbeats 1000000 in
theorem ris_any (w : World) (base b : Nat) (v : RV) (s : DSt) (h : Rk w base b v s) (i : Int) :
    Calls Tryz.prog 60 #[.pointer (some ⟨b, 0, none⟩), .int .i64 i] w fun e w' => e = .returned (.bool (decide (isOk s i))) ∧ w' = w := by
  obtain ⟨p, cap, ev, hc⟩ := row_form h.rl
  have c0 : w.cell? ⟨b, 0, none⟩ = some (.slice p s.last.length cap) := by rw [h.blk.cell 0, ← ev]; rfl
  clear h ev
  by_cases h0 : 0 ≤ i
  · go_enter Tryz.func60, Tryz.ntmps60
    go_wp2
    go_ret
    exact ⟨by simp [isOk, h0], rfl⟩
  · go_enter Tryz.func60, Tryz.ntmps60
    go_wp2
    go_ret
    exact ⟨by rw [decide_eq_false (show ¬ isOk s i from fun h => absurd h.1 (by omega))]; rfl, rfl⟩
set_option maxRecDepth 100000 in
set_option maxHeartbeats 1000000 in
theorem ract_any (w : World) (base b : Nat) (v : RV) (s : DSt) (h : Rk w base b v s) (hf : I64 s.fuse) :
    Calls Tryz.prog 61 #[.pointer (some ⟨b, 0, none⟩)] w fun e w' => e = .returned (.bool (!(diesS s).dead)) ∧ Rk w' base b v (diesS s) ∧ Only (Fr4 b v) w w' := by
  have c4 : w.cell? ⟨b, 2, none⟩ = some (.int .i64 s.fuse) := by rw [h.blk.cell 2]; rfl
  have c5 : w.cell? ⟨b, 3, none⟩ = some (.bool s.dead) := by rw [h.blk.cell 3]; rfl
  have f4 := h.blk.frozen 2
  have f5 := h.blk.frozen 3
  have H := hide h
  clear h
  by_cases h0 : 0 < s.fuse
  · have e1 : diesS s = { s with fuse := s.fuse - 1, dead := decide (s.fuse = 1) } := by rw [diesS, if_pos h0]
    rw [e1]
    have hb := hf.2
    clear hf e1
    go_enter Tryz.func61, Tryz.ntmps61
    go_wp2
    go_ret
    have eb : (s.fuse - 1 == 0) = decide (s.fuse = 1) := by
      by_cases h1 : s.fuse = 1
      · simp [h1]
      · have : ¬ s.fuse - 1 = 0 := by omega
        simp [h1, this]
    rw [eb]
    exact ⟨rfl, ((unhide H).setFuse _).setDead _, only_r (only_r (Only.refl _ _) _ _) _ _⟩
  · have e1 : diesS s = s := by rw [diesS, if_neg h0]
    rw [e1]
    clear e1 hf
    go_enter Tryz.func61, Tryz.ntmps61
    go_wp2
    go_ret
    exact ⟨rfl, unhide H, Only.refl _ _⟩
end Go.Proofs.YtpcmifmgkccfnaaGreatDoor
