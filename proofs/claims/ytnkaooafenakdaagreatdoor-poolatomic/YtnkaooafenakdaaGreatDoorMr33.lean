import Derived.Test.YtnkaooafenakdaaGreatDoorMr32
import Derived.BigQuiet
import Derived.Test.YtnkaooafenakdaaGreatDoorMr18
import Derived.Test.YtnkaooafenakdaaGreatDoorCards
import Derived.Test.YtnkaooafenakdaaGreatDoorTie
import Derived.ProofKit
import Derived.OpenShut
import Derived.ShutString
import Derived.SizedLaws
import Derived.Deep.DeepHandedRow
import Derived.LaidLaws
import Derived.LaidHandle
import Derived.Lib.LaidTab
import Derived.Deep.Slices
import Derived.Deep.Strs
import Derived.Lib.SmallJoins
namespace Go.Proofs.YtnkaooafenakdaaGreatDoor
open Go.RowKit
/-- A disk and its journal, made behind w0, and a fence: blocks that belong to neither. -/
def JK (w0 w : World) (b jb : Nat) (s : DSt) (nx : Nat) (lost : Bool) (X : Nat → Prop) : Prop :=
  ∃ v, Dk w w0.heap.size b v s ∧ Jb w jb b nx lost ∧ ¬ Fd b v jb ∧ w0.heap.size ≤ jb ∧ Below w0.heap.size w0 w ∧ Sane s ∧ ∀ x, X x → ¬ Fd b v x ∧ x ≠ jb ∧ x < w.heap.size
theorem JK.ji {w0 w : World} {b jb : Nat} {s : DSt} {nx : Nat} {lost : Bool} {X : Nat → Prop} (h : JK w0 w b jb s nx lost X) : JI w0 w b jb s nx lost := by
  obtain ⟨v, h1, h2, h3, h4, h5, h6, _⟩ := h
  exact ⟨v, h1, h2, h3, h4, h5, h6⟩
theorem JI.jk {w0 w : World} {b jb : Nat} {s : DSt} {nx : Nat} {lost : Bool} (h : JI w0 w b jb s nx lost) : JK w0 w b jb s nx lost (fun _ => False) := by
  obtain ⟨v, h1, h2, h3, h4, h5, h6⟩ := h
  exact ⟨v, h1, h2, h3, h4, h5, h6, fun _ q => q.elim⟩
theorem JK.bel {w0 w : World} {b jb : Nat} {s : DSt} {nx : Nat} {lost : Bool} {X : Nat → Prop} (h : JK w0 w b jb s nx lost X) : Below w0.heap.size w0 w := h.ji.bel
theorem JK.jb {w0 w : World} {b jb : Nat} {s : DSt} {nx : Nat} {lost : Bool} {X : Nat → Prop} (h : JK w0 w b jb s nx lost X) : Jb w jb b nx lost := by
  obtain ⟨v, h1, h2, _⟩ := h
  exact h2
theorem JK.more {w0 w w' : World} {b jb : Nat} {s : DSt} {nx : Nat} {lost : Bool} {X : Nat → Prop} (h : JK w0 w b jb s nx lost X) (hb : Below w.heap.size w w') (Y : Nat → Prop) (hy : ∀ x, Y x → X x ∨ (w.heap.size ≤ x ∧ x < w'.heap.size)) : JK w0 w' b jb s nx lost Y := by
  obtain ⟨v, h1, h2, h3, h4, h5, h6, h7⟩ := h
  refine ⟨v, h1.below hb, Blk.below h2 hb (Blk.lt h2), h3, h4, h5.trans (hb.mono h5.size), h6, fun x hx => ?_⟩
  rcases hy x hx with q | ⟨q1, q2⟩
  · obtain ⟨a1, a2, a3⟩ := h7 x q
    exact ⟨a1, a2, Nat.lt_of_lt_of_le a3 hb.size⟩
  · refine ⟨fun q => ?_, fun q => ?_, q2⟩
    · have := (h1.fd x q).2; omega
    · have := Blk.lt h2; omega
theorem JK.below {w0 w w' : World} {b jb : Nat} {s : DSt} {nx : Nat} {lost : Bool} {X : Nat → Prop} (h : JK w0 w b jb s nx lost X) (hb : Below w.heap.size w w') : JK w0 w' b jb s nx lost X := h.more hb X (fun _ q => .inl q)
theorem JK.less {w0 w : World} {b jb : Nat} {s : DSt} {nx : Nat} {lost : Bool} {X : Nat → Prop} (h : JK w0 w b jb s nx lost X) (Y : Nat → Prop) (hy : ∀ x, Y x → X x) : JK w0 w b jb s nx lost Y := h.more (Below.refl _ _) Y (fun x q => .inl (hy x q))
theorem JK.lt {w0 w : World} {b jb : Nat} {s : DSt} {nx : Nat} {lost : Bool} {X : Nat → Prop} (h : JK w0 w b jb s nx lost X) (x : Nat) (hx : X x) : x < w.heap.size := by
  obtain ⟨v, h1, h2, h3, h4, h5, h6, h7⟩ := h
  exact (h7 x hx).2.2
theorem Strs.fence {w w' : World} {p : Option Addr} {l : List ByteArray} {X : Nat → Prop} (h : Strs w p l) (ho : Only (fun x => ¬ X x) w w') (hp : ∀ g o, p = some ⟨g, o, none⟩ → X g) : Strs w' p l := fun j hj => by
  obtain ⟨g, o, e, h1, h2⟩ := h j hj
  have q := ho.2 g h1 (fun r => r (hp g o e))
  exact ⟨g, o, e, Nat.lt_of_lt_of_le h1 ho.size, (World.cell?_of_block (a := ⟨g, o + j, none⟩) q).trans h2⟩
theorem Wls.fence {w w' : World} {p : Option Addr} {l : List Wr1} {X : Nat → Prop} (h : Wls w p l) (ho : Only (fun x => ¬ X x) w w') (hp : ∀ g o, p = some ⟨g, o, none⟩ → X g) : Wls w' p l := h.only ho (fun g o e r => r (hp g o e))
theorem Only.widen {P Q : Nat → Prop} {w w' : World} (h : Only P w w') (hq : ∀ k, k < w.heap.size → P k → Q k) : Only Q w w' := ⟨h.1, fun k hk hn => h.2 k hk (fun q => hn (hq k hk q))⟩
theorem commitK {w0 w : World} {b jb : Nat} {s : DSt} {nx : Nat} {lost : Bool} {X : Nat → Prop} (h : JK w0 w b jb s nx lost X) (hnx : nx < 4294967296) (p : Option Addr) (c : Nat) (l : List Wr1) (n : Nat) (hn : n = l.length) (hl : Wls w p l) (hp : s.pend.length ≤ 1000000) (ha : s.acts.length ≤ 100000000) :
    Calls Tryz.prog 36 #[.pointer (some ⟨jb, 0, none⟩), .slice p n c] w fun e w' => e = .returned (.int .i64 (commitR s nx lost l).e) ∧ JK w0 w' b jb (commitR s nx lost l).s (commitR s nx lost l).nx (commitR s nx lost l).lost X ∧ Only (fun x => ¬ X x) w w' := by
  obtain ⟨v, h1, h2, h3, h4, h5, h6, h7⟩ := h
  refine (commit_any w _ b jb nx v s lost h1 h2 h3 h5.size h6 hnx p c l n hn hl hp ha).mono ?_
  rintro ev w' ⟨rfl, v', k1, k2, k3, k4⟩
  refine ⟨rfl, ⟨v', k1, k2, fun q => ?_, h4, h5.trans (k3.below h5.size (fun k hk q => ?_)), commit_sane s nx lost l h6, fun x hx => ?_⟩, k3.widen (fun k hk q r => ?_)⟩
  · rcases k4 jb q with r | r
    · exact h3 r
    · have := Blk.lt h2; omega
  · rcases q with q | q
    · have := (h1.fd k q).1; omega
    · omega
  · obtain ⟨a1, a2, a3⟩ := h7 x hx
    refine ⟨fun q => ?_, a2, Nat.lt_of_lt_of_le a3 k3.size⟩
    rcases k4 x q with r | r
    · exact a1 r
    · omega
  · obtain ⟨a1, a2, a3⟩ := h7 k r
    rcases q with q | q
    · exact a1 q
    · exact a2 q
theorem Dk.lower {w : World} {base base0 b : Nat} {v : DV} {s : DSt} (g1 : Dk w base b v s) (h : base0 ≤ base) : Dk w base0 b v s :=
  ⟨g1.blk, owns_base g1.rl h, owns_base g1.rn h, owns_base g1.rp h, owns_base g1.ra h, g1.ne, Nat.le_trans h g1.lo⟩
/-- Open of a disk that was loaded, with a clear head. -/
theorem openK {w0 w : World} {base b : Nat} {v : DV} {L : List ByteArray} {X : Nat → Prop} (h : Dk w base b v (rs L [])) (h0 : w0.heap.size ≤ base) (hb : base ≤ w.heap.size) (hB : Below w0.heap.size w0 w) (hX : ∀ x, X x → x < base) (hg : ETy w) (hS : Sane (rs L [])) (n : Nat) (hn : n < 4294967296) (hL : 1 < L.length) (hh : L.getD 1 ByteArray.empty = headB n []) :
    Calls Tryz.prog 33 #[.pointer (some ⟨b, 0, none⟩)] w fun e w' => ∃ jb, e = .returned (.tuple #[.pointer (some ⟨jb, 0, none⟩), .bool false, .int .i64 0]) ∧ JK w0 w' b jb (rs L []) ((n + 1) % 4294967296) false X ∧ Only (fun x => ¬ X x) w w' := by
  refine (open_clear (h.lower h0) hg hB.size hS n hn hL hh (by simp)).mono ?_
  rintro e w' ⟨jb, rfl, v', k1, k2, k3, k4, k5, k6⟩
  have hf : ∀ x, X x → ¬ Fd b v x := fun x hx q => by have := (h.fd x q).1; have := hX x hx; omega
  refine ⟨jb, rfl, ⟨v', k1, k2, k3, Nat.le_trans hB.size k4, DI.only (h.lower h0) hB k5, hS, fun x hx => ⟨fun q => ?_, ?_, ?_⟩⟩, k5.widen (fun k _ q r => hf k r q)⟩
  · rcases k6 x q with r | r
    · exact hf x hx r
    · have := hX x hx; omega
  · have := hX x hx; omega
  · have := hX x hx
    have := k5.size
    omega
/-- Lists of lists of writes that were handed in. -/
def Wll (w : World) (p : Option Addr) (ls : List (List Wr1)) : Prop := ∀ i, i < ls.length → ∃ g o q c, p = some ⟨g, o, none⟩ ∧ g < w.heap.size ∧ w.cell? ⟨g, o + i, none⟩ = some (.slice q (ls.getD i []).length c) ∧ Wls w q (ls.getD i []) ∧ Wok (ls.getD i []) ∧ (ls.getD i []).length ≤ 9223372036854775807
theorem layP_size (ps : List (Nat × ByteArray)) : ∀ (l : List ByteArray), (∀ t ∈ l, t.size = 256) → (∀ p ∈ ps, p.2.size = 256) → ∀ t ∈ layP l ps, t.size = 256 := by
  induction ps with
  | nil => intro l h _; exact h
  | cons p r ih =>
    intro l h hp
    refine ih _ (fun t ht => ?_) (fun q hq => hp q (by simp [hq]))
    rcases List.mem_or_eq_of_mem_set ht with q | q
    · exact h t q
    · rw [q]; exact hp p (by simp)
theorem natW_size {N : Nat} {l : List Wr1} (h : OkW N l) : ∀ p ∈ natW l, p.2.size = 256 := fun p hp => by
  obtain ⟨x, hx, rfl⟩ := List.mem_map.1 hp
  exact (h x hx).2.2
theorem com_size (L : List ByteArray) (nx : Nat) (l : List Wr1) (hl : GoodL l) (h : ∀ t ∈ L, t.size = 256) : ∀ t ∈ comL L nx l, t.size = 256 := by
  have h1 : ∀ H : List Int, H.length ≤ 60 → ∀ p ∈ ([(1, headB nx H)] : List (Nat × ByteArray)), p.2.size = 256 := fun H hH p hp => by
    simp at hp; subst hp; exact headB_size nx H hH
  unfold comL
  refine layP_size _ _ (layP_size _ _ (layP_size _ _ (layP_size _ _ h (natW_size (rec_ok l hl))) (h1 _ (by rw [secs16 l hl]; decide))) (natW_size (fill_ok l hl))) (h1 _ (by simp))
theorem com_freeQ (L M : List ByteArray) (nx : Nat) (l : List Wr1) (hl : l.length ≤ 16) (hL : L.length = 128) (hM : M.length = 128) (h : freeQ L M) : freeQ (comL L nx l) (layP M (natW l)) := fun k h1 h2 => by
  rw [comL_len] at h2
  rw [com_free L nx l hl k h1]
  exact layP_congr _ _ _ k (by omega) (h k h1 h2)
end Go.Proofs.YtnkaooafenakdaaGreatDoor

namespace Go.Proofs.YtnkaooafenakdaaGreatDoor
open Go.RowKit
/-- The kind of a commit's i-th act, as it is told. -/
def kindC (i : Nat) : Int := if i = 16 ∨ i = 18 ∨ i = 35 ∨ i = 37 then 2 else 1
theorem act_rec (l : List Wr1) (h : l.length ≤ 16) (i : Nat) (hi : i < 16) : (actW (recL (filled l)))[i]? = some (0, 2 + i) := by
  have h16 := filled_len l h
  have e : (actW (recL (filled l)))[i]? = some (0, (((2 + i : Nat) : Int)).toNat) := by simp [actW, recL, h16, hi]
  rw [e, Int.toNat_natCast]
theorem act_fill (l : List Wr1) (h : GoodL l) (i : Nat) (hi : i < 16) : ∃ x, 18 ≤ x ∧ (actW (filled l))[i]? = some (0, x) := by
  have h16 := filled_len l h.len
  have hi' : i < (filled l).length := by omega
  refine ⟨((filled l)[i]).1.toNat, ?_, by simp [actW, hi']⟩
  have hm := List.getElem_mem hi'
  rcases List.mem_append.1 hm with q | q
  · have := h.free _ q
    omega
  · have := List.eq_of_mem_replicate q
    rw [this]
    decide
theorem comA_form (l : List Wr1) : comA l = actW (recL (filled l)) ++ ([(1, 0), (0, 1), (1, 0)] ++ (actW (filled l) ++ [(1, 0), (0, 1), (1, 0)])) := by simp [comA]
/-- The i-th act of a commit. -/
theorem comA_at (l : List Wr1) (h : GoodL l) (i : Nat) (hi : i < 38) : ∃ p, (comA l)[i]? = some p ∧ ∃ y : Nat, tel1 p = [.int .i64 (kindC i), .int .i64 (y : Int)] ∧ (19 ≤ i → i < 35 → 18 ≤ y) ∧ (¬ (19 ≤ i ∧ i < 35) → y = if i < 16 then 2 + i else if i = 17 ∨ i = 36 then 1 else 0) := by
  have h16 := filled_len l h.len
  have e1 : (actW (recL (filled l))).length = 16 := by simp [actW, recL_len, h16]
  have e2 : (actW (filled l)).length = 16 := by simp [actW, h16]
  rw [comA_form]
  by_cases c1 : i < 16
  · refine ⟨(0, 2 + i), by rw [List.getElem?_append_left (by omega)]; exact act_rec l h.len i c1, 2 + i, ?_, by omega, fun _ => by rw [if_pos c1]⟩
    rw [kindC, if_neg (by omega)]; rfl
  · rw [List.getElem?_append_right (by omega), e1]
    by_cases c2 : i < 19
    · rw [List.getElem?_append_left (by simp; omega)]
      obtain q | q | q : i = 16 ∨ i = 17 ∨ i = 18 := by omega
      · subst q; exact ⟨(1, 0), rfl, 0, rfl, by omega, fun _ => rfl⟩
      · subst q; exact ⟨(0, 1), rfl, 1, rfl, by omega, fun _ => rfl⟩
      · subst q; exact ⟨(1, 0), rfl, 0, rfl, by omega, fun _ => rfl⟩
    · rw [List.getElem?_append_right (by simp; omega)]
      have e3 : i - 16 - ([(1, 0), (0, 1), (1, 0)] : List (Nat × Nat)).length = i - 19 := by simp; omega
      rw [e3]
      by_cases c3 : i < 35
      · rw [List.getElem?_append_left (by omega)]
        obtain ⟨x, hx, ex⟩ := act_fill l h (i - 19) (by omega)
        refine ⟨(0, x), ex, x, ?_, fun _ _ => hx, fun q => absurd ⟨by omega, c3⟩ q⟩
        rw [kindC, if_neg (by omega)]; rfl
      · rw [List.getElem?_append_right (by omega), e2]
        obtain q | q | q : i = 35 ∨ i = 36 ∨ i = 37 := by omega
        · subst q; exact ⟨(1, 0), rfl, 0, rfl, by omega, fun _ => rfl⟩
        · subst q; exact ⟨(0, 1), rfl, 1, rfl, by omega, fun _ => rfl⟩
        · subst q; exact ⟨(1, 0), rfl, 0, rfl, by omega, fun _ => rfl⟩
theorem tels_at : ∀ (l : List (Nat × Nat)) (k : Nat) (p : Nat × Nat) (a b : Value), l[k]? = some p → tel1 p = [a, b] → (tels l)[k * 2]? = some a ∧ (tels l)[k * 2 + 1]? = some b
  | q :: r, 0, p, a, b, h, e => by
    simp at h
    subst h
    simp [tels, e]
  | q :: r, k + 1, p, a, b, h, e => by
    have := tels_at r k p a b (by simpa using h) e
    rw [show (k + 1) * 2 = k * 2 + 2 by omega]
    have hl : (tel1 q).length = 2 := tel1_len q
    simp only [tels]
    constructor
    · rw [List.getElem?_append_right (by omega), hl]; simpa using this.1
    · rw [List.getElem?_append_right (by omega), hl, show k * 2 + 2 + 1 - 2 = k * 2 + 1 by omega]; exact this.2
/-- The two commits' acts, as they lie in the trace. -/
theorem trace_at {w : World} {g : Nat} {l1 l2 : List Wr1} (h1 : GoodL l1) (h2 : GoodL l2) (hB : Blk w g (tels (A0 ++ comA l1 ++ comA l2)).toArray 48) (i : Nat) (hi : i < 38) :
    ∃ x y : Nat, w.cell? ⟨g, 4 + i * 2, none⟩ = some (.int .i64 (kindC i)) ∧ w.cell? ⟨g, 4 + i * 2 + 1, none⟩ = some (.int .i64 (x : Int)) ∧ w.cell? ⟨g, 80 + i * 2, none⟩ = some (.int .i64 (kindC i)) ∧ w.cell? ⟨g, 80 + i * 2 + 1, none⟩ = some (.int .i64 (y : Int)) ∧ (19 ≤ i → i < 35 → 18 ≤ x ∧ 18 ≤ y) ∧ (¬ (19 ≤ i ∧ i < 35) → x = y) := by
  obtain ⟨p, hp, x, ex, fx, gx⟩ := comA_at l1 h1 i hi
  obtain ⟨q, hq, y, ey, fy, gy⟩ := comA_at l2 h2 i hi
  have n1 := comA_len l1 h1.len
  have hA : A0.length = 2 := rfl
  have p' : (A0 ++ comA l1 ++ comA l2)[2 + i]? = some p := by
    rw [List.append_assoc, List.getElem?_append_right (by omega), hA, Nat.add_sub_cancel_left, List.getElem?_append_left (by omega)]; exact hp
  have q' : (A0 ++ comA l1 ++ comA l2)[40 + i]? = some q := by
    rw [List.getElem?_append_right (by rw [List.length_append]; omega)]
    have : 40 + i - (A0 ++ comA l1).length = i := by rw [List.length_append]; omega
    rw [this]; exact hq
  obtain ⟨a1, a2⟩ := tels_at _ (2 + i) p _ _ p' ex
  obtain ⟨b1, b2⟩ := tels_at _ (40 + i) q _ _ q' ey
  rw [show (2 + i) * 2 = 4 + i * 2 by omega] at a1 a2
  rw [show (40 + i) * 2 = 80 + i * 2 by omega] at b1 b2
  refine ⟨x, y, by rw [hB.cell]; simpa using a1, by rw [hB.cell]; simpa using a2, by rw [hB.cell]; simpa using b1, by rw [hB.cell]; simpa using b2, fun u v => ⟨fx u v, fy u v⟩, fun u => by rw [gx u, gy u]⟩
def flC (i : Nat) : Nat := (if 16 < i then 1 else 0) + (if 18 < i then 1 else 0) + (if 35 < i then 1 else 0) + (if 37 < i then 1 else 0)
theorem one_le (p : Prop) [Decidable p] : (if p then 1 else 0) ≤ 1 := by split <;> omega
theorem flC_le (k : Nat) : flC k ≤ 4 := by
  have h1 := one_le (16 < k)
  have h2 := one_le (18 < k)
  have h3 := one_le (35 < k)
  have h4 := one_le (37 < k)
  unfold flC
  omega
theorem flC_step (i : Nat) : flC (i + 1) = flC i + (if kindC i = 2 then 1 else 0) := by
  unfold flC kindC
  by_cases h : i = 16 ∨ i = 18 ∨ i = 35 ∨ i = 37
  · rw [if_pos h, if_pos rfl]
    rcases h with h | h | h | h <;> subst h <;> decide
  · have h12 : ¬ ((1 : Int) = 2) := by decide
    rw [if_neg h, if_neg h12]
    have e1 : (16 < i + 1) ↔ (16 < i) := by omega
    have e2 : (18 < i + 1) ↔ (18 < i) := by omega
    have e3 : (35 < i + 1) ↔ (35 < i) := by omega
    have e4 : (37 < i + 1) ↔ (37 < i) := by omega
    simp only [e1, e2, e3, e4, Nat.add_zero]
end Go.Proofs.YtnkaooafenakdaaGreatDoor

namespace Go.Proofs.YtnkaooafenakdaaGreatDoor
open Go.RowKit
/-- Behind k lists: the disk, its journal, and the image that is wanted. -/
def LtR (w0 : World) (k b jb g : Nat) (L : List ByteArray) (A : List (Nat × Nat)) (want : List ByteArray) (wr : World) : Prop :=
  JK w0 wr b jb (rs L A) (k + 1) false (fun x => x = g) ∧ Strs wr (some ⟨g, 0, none⟩) want ∧ want.length = 128 ∧ L.length = 128 ∧ freeQ L want ∧ (∀ t ∈ L, t.size = 256) ∧ L.getD 1 ByteArray.empty = headB k [] ∧ A.length ≤ 2 + 38 * k
theorem L0_size : ∀ t ∈ L0, t.size = 256 := fun t ht => by
  rcases List.mem_or_eq_of_mem_set ht with q | q
  · rw [List.eq_of_mem_replicate q]; exact zero256_size
  · rw [q]; exact headB_size 0 [] (by simp)
theorem Wls.fence0 {w w' : World} {p : Option Addr} {l : List Wr1} {X : Nat → Prop} (h : Wls w p l) (ho : Only (fun x => ¬ X x) w w') (hp : 0 < l.length → ∀ g o, p = some ⟨g, o, none⟩ → X g) : Wls w' p l := by
  by_cases h0 : 0 < l.length
  · exact h.fence ho (hp h0)
  · intro j hj; omega
theorem imageK {w0 w : World} {b jb : Nat} {L : List ByteArray} {A : List (Nat × Nat)} {nx : Nat} {lost : Bool} {X : Nat → Prop} (h : JK w0 w b jb (rs L A) nx lost X) (hL : L.length = 128) : Calls Tryz.prog 28 #[.pointer (some ⟨b, 0, none⟩)] w fun e w' => ∃ g cap, e = .returned (.slice (some ⟨g, 0, none⟩) 128 cap) ∧ w.heap.size ≤ g ∧ g < w'.heap.size ∧ Strs w' (some ⟨g, 0, none⟩) L ∧ Below w.heap.size w w' := by
  obtain ⟨v, h1, _⟩ := h
  refine (image_any w _ b v _ h1 (by show 0 < L.length; omega) (by show L.length ≤ 1024; omega)).mono ?_
  rintro e w' ⟨v', rfl, hr, hb⟩
  have hr' : w'.ownsRow w.heap.size 9 1 v' L.length (strs L) := hr
  obtain ⟨g, cap, e, hg1, hg2⟩ := hr'.form (by omega)
  obtain ⟨p', c', e2, hs⟩ := Strs.own hr'
  rw [e] at e2
  simp at e2
  obtain ⟨rfl, rfl⟩ := e2
  have hlt := hr'.lt g (by rw [e]; rfl)
  exact ⟨g, cap, by rw [e, hL], hlt.1, hlt.2, hs, hb⟩
theorem load128 (w : World) (p : Option Addr) (c : Nat) (L : List ByteArray) (hL : L.length = 128) (hs : ∀ t ∈ L, t.size = 256) (h : Strs w p L) : Calls Tryz.prog 27 #[.slice p 128 c] w fun e w' => ∃ b v, e = .returned (.tuple #[.pointer (some ⟨b, 0, none⟩), .int .i64 0]) ∧ Dk w' w.heap.size b v (rs L []) ∧ Below w.heap.size w w' := by
  have := load_any p c L w h
  rw [hL] at this
  refine this.mono ?_
  intro e w' hP
  rw [LoadPost, if_pos ⟨by omega, by omega⟩, if_pos hs] at hP
  exact hP
/-- What a list is to the fence: its block, if it has any write. -/
def Xl (g : Nat) (q : Option Addr) (l : List Wr1) (x : Nat) : Prop := x = g ∨ (0 < l.length ∧ ∃ o, q = some ⟨x, o, none⟩)
end Go.Proofs.YtnkaooafenakdaaGreatDoor

namespace Go.Proofs.YtnkaooafenakdaaGreatDoor
open Go.ChangeShapes Go.WideShapes Go.ChangeAt Go.RowKit
theorem own : ownKnob Tryz.prog.godebug = none := by kernel_rfl
theorem laidOut : laidOutB Tryz.prog = true := by kernel_rfl
theorem gEt : Tryz.prog.globalNamed "errors.errorType" = some 1 := by kernel_rfl
theorem gRt : (Tryz.prog.cutTypes.find? (·.1 == "internal/reflectlite.rtype")).map (·.2) = some 249 := by kernel_rfl
theorem gOne : ((List.range 287).filter fun t => Tryz.prog.rowNamed t [101, 114, 114, 111, 114]) = [163] := by kernel_rfl
theorem gSize : Tryz.prog.types.size = 287 := by kernel_rfl
def laidL : List (String × DataW Unit) := [("errors.errorType", Rows.laid_errors_errorType)]
theorem wf_I64 {z : Int} (h : (Lit.int .i64 z).wf = true) : I64 z := by
  simpa [I64, Lit.wf, IntKind.min, IntKind.max, IntKind.signed, IntKind.bits] using h
/-- What the row's list gives. -/
theorem ety_of {W : World} (h : laidMetH Tryz.prog laidL W) : ETy W := by
  have h' : laidMet Tryz.prog [] W ∧ handlesMet Tryz.prog laidL W := h
  obtain ⟨name, u, ty, e1, e2, e3, e4, e5⟩ := h'.2 _ (List.mem_singleton.2 rfl)
  have en : name = [101, 114, 114, 111, 114] := (Option.some.inj e1).symm
  subst en
  obtain rfl := Option.some.inj (gRt.symm.trans e2)
  have hm : ty ∈ (List.range 287).filter fun t => Tryz.prog.rowNamed t [101, 114, 114, 111, 114] := List.mem_filter.2 ⟨List.mem_range.2 (by rw [← gSize]; exact e3), e4⟩
  rw [gOne] at hm
  obtain rfl := List.mem_singleton.1 hm
  have hh : typeHandle Tryz.prog 163 = .pointer (some ⟨2, 163, none⟩) := by kernel_rfl
  rw [hh] at e5
  have := World.var?_cell gEt e5 0
  unfold ETy
  simpa using this
/-- A world for the witness: the settled one, the variable's cell laid. -/
noncomputable def laidWorld (os : Os) : World :=
  let w0 := World.holding Tryz.prog os ⟨#[], #[], []⟩
  { w0 with heap := w0.heap.modify 1 fun
      | .cells _ t frozen => .cells #[.iface 249 (.agg #[.pointer (some ⟨2, 163, none⟩)])] t frozen
      | o => o }
end Go.Proofs.YtnkaooafenakdaaGreatDoor
