import Derived.Test.YtnkaooafenakdaaGreatDoorMp35
import Derived.Test.YtnkaooafenakdaaGreatDoorMp04
namespace Go.Proofs.YtnkaooafenakdaaGreatDoor
open Go.RowKit
/-- A disk and its journal, made behind w0, and a fence: blocks that belong to neither. -/
def JK (w0 w : World) (b jb : Nat) (s : DSt) (nx : Nat) (lost : Bool) (X : Nat → Prop) : Prop :=
  ∃ v, Dk w w0.heap.size b v s ∧ Jb w jb b nx lost ∧ ¬ Fd b v jb ∧ w0.heap.size ≤ jb ∧ Below w0.heap.size w0 w ∧ Sane s ∧ ∀ x, X x → ¬ Fd b v x ∧ x ≠ jb ∧ x < w.heap.size
theorem JK.ji {w0 w : World} {b jb : Nat} {s : DSt} {nx : Nat} {lost : Bool} {X : Nat → Prop} (h : JK w0 w b jb s nx lost X) : JI w0 w b jb s nx lost := by
  obtain ⟨v, h1, h2, h3, h4, h5, h6, _⟩ := h
  exact ⟨v, h1, h2, h3, h4, h5, h6⟩
theorem JI.jk {w0 w : World} {b jb : Nat} {s : DSt} {nx : Nat} {lost : Bool} (h : JI w0 w b jb s nx lost) : JK w0 w b jb s nx lost (fun _ => False) := by
  obtain ⟨v, h1, h2, h3, h4, h5, h6⟩ := h
  exact ⟨v, h1, h2, h3, h4, h5, h6, fun _ q => q.elim⟩
theorem JK.bel {w0 w : World} {b jb : Nat} {s : DSt} {nx : Nat} {lost : Bool} {X : Nat → Prop} (h : JK w0 w b jb s nx lost X) : Below w0.heap.size w0 w := h.ji.bel
theorem JK.jb {w0 w : World} {b jb : Nat} {s : DSt} {nx : Nat} {lost : Bool} {X : Nat → Prop} (h : JK w0 w b jb s nx lost X) : Jb w jb b nx lost := by
  obtain ⟨v, h1, h2, _⟩ := h
  exact h2
theorem JK.more {w0 w w' : World} {b jb : Nat} {s : DSt} {nx : Nat} {lost : Bool} {X : Nat → Prop} (h : JK w0 w b jb s nx lost X) (hb : Below w.heap.size w w') (Y : Nat → Prop) (hy : ∀ x, Y x → X x ∨ (w.heap.size ≤ x ∧ x < w'.heap.size)) : JK w0 w' b jb s nx lost Y := by
  obtain ⟨v, h1, h2, h3, h4, h5, h6, h7⟩ := h
  refine ⟨v, h1.below hb, Blk.below h2 hb (Blk.lt h2), h3, h4, h5.trans (hb.mono h5.size), h6, fun x hx => ?_⟩
  rcases hy x hx with q | ⟨q1, q2⟩
  · obtain ⟨a1, a2, a3⟩ := h7 x q
    exact ⟨a1, a2, Nat.lt_of_lt_of_le a3 hb.size⟩
  · refine ⟨fun q => ?_, fun q => ?_, q2⟩
    · have := (h1.fd x q).2; omega
    · have := Blk.lt h2; omega
theorem JK.below {w0 w w' : World} {b jb : Nat} {s : DSt} {nx : Nat} {lost : Bool} {X : Nat → Prop} (h : JK w0 w b jb s nx lost X) (hb : Below w.heap.size w w') : JK w0 w' b jb s nx lost X := h.more hb X (fun _ q => .inl q)
theorem JK.less {w0 w : World} {b jb : Nat} {s : DSt} {nx : Nat} {lost : Bool} {X : Nat → Prop} (h : JK w0 w b jb s nx lost X) (Y : Nat → Prop) (hy : ∀ x, Y x → X x) : JK w0 w b jb s nx lost Y := h.more (Below.refl _ _) Y (fun x q => .inl (hy x q))
theorem JK.lt {w0 w : World} {b jb : Nat} {s : DSt} {nx : Nat} {lost : Bool} {X : Nat → Prop} (h : JK w0 w b jb s nx lost X) (x : Nat) (hx : X x) : x < w.heap.size := by
  obtain ⟨v, h1, h2, h3, h4, h5, h6, h7⟩ := h
  exact (h7 x hx).2.2
theorem Strs.fence {w w' : World} {p : Option Addr} {l : List ByteArray} {X : Nat → Prop} (h : Strs w p l) (ho : Only (fun x => ¬ X x) w w') (hp : ∀ g o, p = some ⟨g, o, none⟩ → X g) : Strs w' p l := fun j hj => by
  obtain ⟨g, o, e, h1, h2⟩ := h j hj
  have q := ho.2 g h1 (fun r => r (hp g o e))
  exact ⟨g, o, e, Nat.lt_of_lt_of_le h1 ho.size, (World.cell?_of_block (a := ⟨g, o + j, none⟩) q).trans h2⟩
theorem Wls.fence {w w' : World} {p : Option Addr} {l : List Wr1} {X : Nat → Prop} (h : Wls w p l) (ho : Only (fun x => ¬ X x) w w') (hp : ∀ g o, p = some ⟨g, o, none⟩ → X g) : Wls w' p l := h.only ho (fun g o e r => r (hp g o e))
theorem Only.widen {P Q : Nat → Prop} {w w' : World} (h : Only P w w') (hq : ∀ k, k < w.heap.size → P k → Q k) : Only Q w w' := ⟨h.1, fun k hk hn => h.2 k hk (fun q => hn (hq k hk q))⟩
theorem commitK {w0 w : World} {b jb : Nat} {s : DSt} {nx : Nat} {lost : Bool} {X : Nat → Prop} (h : JK w0 w b jb s nx lost X) (hnx : nx < 4294967296) (p : Option Addr) (c : Nat) (l : List Wr1) (n : Nat) (hn : n = l.length) (hl : Wls w p l) (hp : s.pend.length ≤ 1000000) (ha : s.acts.length ≤ 100000000) :
    Calls Tryz.prog 36 #[.pointer (some ⟨jb, 0, none⟩), .slice p n c] w fun e w' => e = .returned (.int .i64 (commitR s nx lost l).e) ∧ JK w0 w' b jb (commitR s nx lost l).s (commitR s nx lost l).nx (commitR s nx lost l).lost X ∧ Only (fun x => ¬ X x) w w' := by
  obtain ⟨v, h1, h2, h3, h4, h5, h6, h7⟩ := h
  refine (commit_any w _ b jb nx v s lost h1 h2 h3 h5.size h6 hnx p c l n hn hl hp ha).mono ?_
  rintro ev w' ⟨rfl, v', k1, k2, k3, k4⟩
  refine ⟨rfl, ⟨v', k1, k2, fun q => ?_, h4, h5.trans (k3.below h5.size (fun k hk q => ?_)), commit_sane s nx lost l h6, fun x hx => ?_⟩, k3.widen (fun k hk q r => ?_)⟩
  · rcases k4 jb q with r | r
    · exact h3 r
    · have := Blk.lt h2; omega
  · rcases q with q | q
    · have := (h1.fd k q).1; omega
    · omega
  · obtain ⟨a1, a2, a3⟩ := h7 x hx
    refine ⟨fun q => ?_, a2, Nat.lt_of_lt_of_le a3 k3.size⟩
    rcases k4 x q with r | r
    · exact a1 r
    · omega
  · obtain ⟨a1, a2, a3⟩ := h7 k r
    rcases q with q | q
    · exact a1 q
    · exact a2 q
theorem Dk.lower {w : World} {base base0 b : Nat} {v : DV} {s : DSt} (g1 : Dk w base b v s) (h : base0 ≤ base) : Dk w base0 b v s :=
  ⟨g1.blk, owns_base g1.rl h, owns_base g1.rn h, owns_base g1.rp h, owns_base g1.ra h, g1.ne, Nat.le_trans h g1.lo⟩
/-- Open of a disk that was loaded, with a clear head. -/
theorem openK {w0 w : World} {base b : Nat} {v : DV} {L : List ByteArray} {X : Nat → Prop} (h : Dk w base b v (rs L [])) (h0 : w0.heap.size ≤ base) (hb : base ≤ w.heap.size) (hB : Below w0.heap.size w0 w) (hX : ∀ x, X x → x < base) (hg : ETy w) (hS : Sane (rs L [])) (n : Nat) (hn : n < 4294967296) (hL : 1 < L.length) (hh : L.getD 1 ByteArray.empty = headB n []) :
    Calls Tryz.prog 33 #[.pointer (some ⟨b, 0, none⟩)] w fun e w' => ∃ jb, e = .returned (.tuple #[.pointer (some ⟨jb, 0, none⟩), .bool false, .int .i64 0]) ∧ JK w0 w' b jb (rs L []) ((n + 1) % 4294967296) false X ∧ Only (fun x => ¬ X x) w w' := by
  refine (open_clear (h.lower h0) hg hB.size hS n hn hL hh (by simp)).mono ?_
  rintro e w' ⟨jb, rfl, v', k1, k2, k3, k4, k5, k6⟩
  have hf : ∀ x, X x → ¬ Fd b v x := fun x hx q => by have := (h.fd x q).1; have := hX x hx; omega
  refine ⟨jb, rfl, ⟨v', k1, k2, k3, Nat.le_trans hB.size k4, DI.only (h.lower h0) hB k5, hS, fun x hx => ⟨fun q => ?_, ?_, ?_⟩⟩, k5.widen (fun k _ q r => hf k r q)⟩
  · rcases k6 x q with r | r
    · exact hf x hx r
    · have := hX x hx; omega
  · have := hX x hx; omega
  · have := hX x hx
    have := k5.size
    omega
/-- Lists of lists of writes that were handed in. -/
def Wll (w : World) (p : Option Addr) (ls : List (List Wr1)) : Prop := ∀ i, i < ls.length → ∃ g o q c, p = some ⟨g, o, none⟩ ∧ g < w.heap.size ∧ w.cell? ⟨g, o + i, none⟩ = some (.slice q (ls.getD i []).length c) ∧ Wls w q (ls.getD i []) ∧ Wok (ls.getD i []) ∧ (ls.getD i []).length ≤ 9223372036854775807
theorem layP_size (ps : List (Nat × ByteArray)) : ∀ (l : List ByteArray), (∀ t ∈ l, t.size = 256) → (∀ p ∈ ps, p.2.size = 256) → ∀ t ∈ layP l ps, t.size = 256 := by
  induction ps with
  | nil => intro l h _; exact h
  | cons p r ih =>
    intro l h hp
    refine ih _ (fun t ht => ?_) (fun q hq => hp q (by simp [hq]))
    rcases List.mem_or_eq_of_mem_set ht with q | q
    · exact h t q
    · rw [q]; exact hp p (by simp)
theorem natW_size {N : Nat} {l : List Wr1} (h : OkW N l) : ∀ p ∈ natW l, p.2.size = 256 := fun p hp => by
  obtain ⟨x, hx, rfl⟩ := List.mem_map.1 hp
  exact (h x hx).2.2
theorem com_size (L : List ByteArray) (nx : Nat) (l : List Wr1) (hl : GoodL l) (h : ∀ t ∈ L, t.size = 256) : ∀ t ∈ comL L nx l, t.size = 256 := by
  have h1 : ∀ H : List Int, H.length ≤ 60 → ∀ p ∈ ([(1, headB nx H)] : List (Nat × ByteArray)), p.2.size = 256 := fun H hH p hp => by
    simp at hp; subst hp; exact headB_size nx H hH
  unfold comL
  refine layP_size _ _ (layP_size _ _ (layP_size _ _ (layP_size _ _ h (natW_size (rec_ok l hl))) (h1 _ (by rw [secs16 l hl]; decide))) (natW_size (fill_ok l hl))) (h1 _ (by simp))
theorem com_freeQ (L M : List ByteArray) (nx : Nat) (l : List Wr1) (hl : l.length ≤ 16) (hL : L.length = 128) (hM : M.length = 128) (h : freeQ L M) : freeQ (comL L nx l) (layP M (natW l)) := fun k h1 h2 => by
  rw [comL_len] at h2
  rw [com_free L nx l hl k h1]
  exact layP_congr _ _ _ k (by omega) (h k h1 h2)
end Go.Proofs.YtnkaooafenakdaaGreatDoor

namespace Go.Proofs.YtnkaooafenakdaaGreatDoor
open Go.RowKit Go.Maps Go.Sort Go.Shelf
/-- A pool's state. -/
structure PS where
  s : DSt
  nx : Nat
  jl : Bool
  op : Bool
  tx : Tx
  keep : Nat
  h : Tx
  hits : Int
  mis : Int
  lost : Bool
def Pf (pb bw bv : Nat) (ov : Value) (x : Nat) : Prop := x = pb ∨ x = bw ∨ x = bv ∨ ov.ownBlock = some x
/-- A pool at pb, behind w0, and a fence. -/
structure PKi (w0 w : World) (b jb pb : Nat) (S : PS) (X : Nat → Prop) (bw bv : Nat) (ov : Value) : Prop where
  jk : JK w0 w b jb S.s S.nx S.jl (fun x => X x ∨ Pf pb bw bv ov x)
  blk : Blk w pb (Pcs b jb S.op bw S.keep bv ov S.hits S.mis S.lost) 96
  tx : Mp w bw S.tx
  hn : Hn w w0.heap.size S.h bv ov
  ne : bw ≠ bv
  lo1 : w0.heap.size ≤ pb
  lo2 : w0.heap.size ≤ bw
  lo3 : w0.heap.size ≤ bv
  xn : ∀ x, X x → ¬ Pf pb bw bv ov x
  hk : S.h.length ≤ S.keep
  kp : S.keep ≤ 64
  t16 : S.tx.length ≤ 16
  tok : ∀ p ∈ S.tx, 19 ≤ p.1 ∧ p.1 < (S.s.last.length : Int) ∧ p.2.size = 256
def PK (w0 w : World) (b jb pb : Nat) (S : PS) (X : Nat → Prop) : Prop := ∃ bw bv ov, PKi w0 w b jb pb S X bw bv ov
theorem JK.poke {w0 w w' : World} {b jb : Nat} {s : DSt} {nx : Nat} {lost : Bool} {Y P Z : Nat → Prop} (h : JK w0 w b jb s nx lost Y) (ho : Only P w w') (hP : ∀ x, P x → x < w.heap.size → Y x) (hlo : ∀ x, P x → w0.heap.size ≤ x) (hZ : ∀ x, Z x → Y x ∨ (w.heap.size ≤ x ∧ x < w'.heap.size)) : JK w0 w' b jb s nx lost Z := by
  obtain ⟨v, h1, h2, h3, h4, h5, h6, h7⟩ := h
  have hjb := Blk.lt h2
  refine ⟨v, h1.only ho (fun k hk q => (h7 k (hP k q (h1.fd k hk).2)).1 hk), Blk.only h2 ho (fun q => (h7 jb (hP jb q hjb)).2.1 rfl), h3, h4, h5.trans (ho.below h5.size (fun k hk q => by have := hlo k q; omega)), h6, fun x hx => ?_⟩
  rcases hZ x hx with q | ⟨q1, q2⟩
  · obtain ⟨a1, a2, a3⟩ := h7 x q
    exact ⟨a1, a2, Nat.lt_of_lt_of_le a3 ho.size⟩
  · refine ⟨fun q => ?_, fun q => ?_, q2⟩
    · have := (h1.fd x q).2; omega
    · omega
theorem JK.dk {w0 w : World} {b jb : Nat} {s : DSt} {nx : Nat} {lost : Bool} {Y : Nat → Prop} (h : JK w0 w b jb s nx lost Y) : ∃ v, Dk w w0.heap.size b v s := by
  obtain ⟨v, h1, _⟩ := h
  exact ⟨v, h1⟩
theorem JK.sane {w0 w : World} {b jb : Nat} {s : DSt} {nx : Nat} {lost : Bool} {Y : Nat → Prop} (h : JK w0 w b jb s nx lost Y) : Sane s := by
  obtain ⟨v, h1, h2, h3, h4, h5, h6, h7⟩ := h
  exact h6
/-- The pool's own blocks were written. -/
theorem PKi.upd {w0 w w' : World} {b jb pb : Nat} {S : PS} {X : Nat → Prop} {bw bv : Nat} {ov : Value} (K : PKi w0 w b jb pb S X bw bv ov) (ho : Only (Pf pb bw bv ov) w w') (ov' : Value) (hov : ov'.ownBlock = ov.ownBlock ∨ ∃ g, ov'.ownBlock = some g ∧ w.heap.size ≤ g) (S' : PS) (e1 : S'.s = S.s) (e2 : S'.nx = S.nx) (e3 : S'.jl = S.jl) (e4 : S'.keep = S.keep) (hB : Blk w' pb (Pcs b jb S'.op bw S.keep bv ov' S'.hits S'.mis S'.lost) 96) (hm : Mp w' bw S'.tx) (hn : Hn w' w0.heap.size S'.h bv ov') (hk : S'.h.length ≤ S.keep) (ht : S'.tx.length ≤ 16) (htk : ∀ p ∈ S'.tx, 19 ≤ p.1 ∧ p.1 < (S.s.last.length : Int) ∧ p.2.size = 256) :
    PK w0 w' b jb pb S' X ∧ Only (fun x => ¬ X x) w w' := by
  have hlo : ∀ x, Pf pb bw bv ov x → w0.heap.size ≤ x := fun x hx => by
    rcases hx with rfl | rfl | rfl | q
    · exact K.lo1
    · exact K.lo2
    · exact K.lo3
    · exact (row_lt K.hn.ord q).2
  have hnew : ∀ x, Pf pb bw bv ov' x → Pf pb bw bv ov x ∨ (w.heap.size ≤ x ∧ x < w'.heap.size) := fun x hx => by
    rcases hx with q | q | q | q
    · exact .inl (.inl q)
    · exact .inl (.inr (.inl q))
    · exact .inl (.inr (.inr (.inl q)))
    · rcases hov with r | ⟨g, r1, r2⟩
      · exact .inl (.inr (.inr (.inr (by rw [← r]; exact q))))
      · rw [q] at r1; cases r1
        exact .inr ⟨r2, (row_lt hn.ord q).1⟩
  refine ⟨⟨bw, bv, ov', ?_, ?_, hm, hn, K.ne, K.lo1, K.lo2, K.lo3, fun x hx q => ?_, by rw [e4]; exact hk, by rw [e4]; exact K.kp, ht, by rw [e1]; exact htk⟩, ho.mono (fun x _ q r => K.xn x r q)⟩
  · rw [e1, e2, e3]
    refine K.jk.poke ho (fun x q _ => .inr q) hlo (fun x hx => ?_)
    rcases hx with q | q
    · exact .inl (.inl q)
    · rcases hnew x q with r | r
      · exact .inl (.inr r)
      · exact .inr r
  · rw [e4]; exact hB
  · rcases hnew x q with r | r
    · exact K.xn x hx r
    · have := K.jk.lt x (.inl hx); omega
theorem PKi.same {w0 w : World} {b jb pb : Nat} {S : PS} {X : Nat → Prop} {bw bv : Nat} {ov : Value} (K : PKi w0 w b jb pb S X bw bv ov) : PK w0 w b jb pb S X ∧ Only (fun x => ¬ X x) w w := ⟨⟨bw, bv, ov, K⟩, Only.refl _ _⟩
theorem PK.below {w0 w w' : World} {b jb pb : Nat} {S : PS} {X : Nat → Prop} (h : PK w0 w b jb pb S X) (hb : Below w.heap.size w w') : PK w0 w' b jb pb S X := by
  obtain ⟨bw, bv, ov, K⟩ := h
  have hO : Only (fun _ => False) w w' := Only.of_below hb
  exact ⟨bw, bv, ov, K.jk.below hb, K.blk.only hO (fun q => q), K.tx.only hO (fun q => q), K.hn.only hO (fun q => q) (fun _ _ q => q), K.ne, K.lo1, K.lo2, K.lo3, K.xn, K.hk, K.kp, K.t16, K.tok⟩
theorem PK.bel {w0 w : World} {b jb pb : Nat} {S : PS} {X : Nat → Prop} (h : PK w0 w b jb pb S X) : Below w0.heap.size w0 w := by
  obtain ⟨bw, bv, ov, K⟩ := h
  exact K.jk.bel
theorem PK.lt {w0 w : World} {b jb pb : Nat} {S : PS} {X : Nat → Prop} (h : PK w0 w b jb pb S X) (x : Nat) (hx : X x) : x < w.heap.size := by
  obtain ⟨bw, bv, ov, K⟩ := h
  exact K.jk.lt x (.inl hx)
theorem PK.more {w0 w w' : World} {b jb pb : Nat} {S : PS} {X Y : Nat → Prop} (h : PK w0 w b jb pb S X) (hb : Below w.heap.size w w') (hy : ∀ x, Y x → X x ∨ (w.heap.size ≤ x ∧ x < w'.heap.size)) : PK w0 w' b jb pb S Y := by
  obtain ⟨bw, bv, ov, K⟩ := h
  have hO : Only (fun _ => False) w w' := Only.of_below hb
  refine ⟨bw, bv, ov, K.jk.more hb _ (fun x hx => ?_), K.blk.only hO (fun q => q), K.tx.only hO (fun q => q), K.hn.only hO (fun q => q) (fun _ _ q => q), K.ne, K.lo1, K.lo2, K.lo3, fun x hx q => ?_, K.hk, K.kp, K.t16, K.tok⟩
  · rcases hx with q | q
    · rcases hy x q with r | r
      · exact .inl (.inl r)
      · exact .inr r
    · exact .inl (.inr q)
  · rcases hy x hx with r | r
    · exact K.xn x r q
    · have := K.jk.lt x (.inr q); omega
/-- A block of somebody else's, within the fence, was written. -/
theorem PK.poke {w0 w w' : World} {b jb pb : Nat} {S : PS} {X Y P : Nat → Prop} (h : PK w0 w b jb pb S X) (ho : Only P w w') (hP : ∀ x, P x → x < w.heap.size → X x) (hlo : ∀ x, P x → w0.heap.size ≤ x) (hy : ∀ x, Y x → X x ∨ (w.heap.size ≤ x ∧ x < w'.heap.size)) : PK w0 w' b jb pb S Y := by
  obtain ⟨bw, bv, ov, K⟩ := h
  have hn : ∀ x, Pf pb bw bv ov x → ¬ P x := fun x q r => K.xn x (hP x r (K.jk.lt x (.inr q))) q
  refine ⟨bw, bv, ov, K.jk.poke ho (fun x q r => .inl (hP x q r)) hlo (fun x hx => ?_), K.blk.only ho (hn _ (.inl rfl)), K.tx.only ho (hn _ (.inr (.inl rfl))), K.hn.only ho (hn _ (.inr (.inr (.inl rfl)))) (fun x hx => hn x (.inr (.inr (.inr hx)))), K.ne, K.lo1, K.lo2, K.lo3, fun x hx q => ?_, K.hk, K.kp, K.t16, K.tok⟩
  · rcases hx with q | q
    · rcases hy x q with r | r
      · exact .inl (.inl r)
      · exact .inr r
    · exact .inl (.inr q)
  · rcases hy x hx with r | r
    · exact K.xn x r q
    · have := K.jk.lt x (.inr q); omega
end Go.Proofs.YtnkaooafenakdaaGreatDoor
