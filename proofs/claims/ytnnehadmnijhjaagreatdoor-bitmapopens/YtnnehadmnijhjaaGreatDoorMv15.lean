import Derived.Test.YtnnehadmnijhjaaGreatDoorMv13
import Derived.Test.YtnnehadmnijhjaaGreatDoorMv14
import Derived.Test.YtnnehadmnijhjaaGreatDoorMv08
import Derived.Test.YtnnehadmnijhjaaGreatDoorMv09
import Derived.BigQuiet
import Derived.Test.YtnnehadmnijhjaaGreatDoorMv00
import Derived.Test.YtnnehadmnijhjaaGreatDoorCards
import Derived.Test.YtnnehadmnijhjaaGreatDoorTie
import Derived.ProofKit
import Derived.OpenShut
import Derived.ShutString
import Derived.SizedLaws
import Derived.Deep.DeepHandedRow
import Derived.LaidLaws
import Derived.LaidHandle
import Derived.Lib.LaidTab
import Derived.Deep.Slices
import Derived.Deep.Strs
import Derived.Lib.SmallJoins
import Derived.Test.YtnnehadmnijhjaaGreatDoorMv10
import Derived.Test.YtnnehadmnijhjaaGreatDoorMv05
import Derived.Test.YtnnehadmnijhjaaGreatDoorMv12
namespace Go.Proofs.YtnnehadmnijhjaaGreatDoor
open Go.RowKit
theorem layP_app (l : List ByteArray) (a b : List (Nat × ByteArray)) : layP l (a ++ b) = layP (layP l a) b := by simp [layP]
theorem layP_skip (ps : List (Nat × ByteArray)) : ∀ (l : List ByteArray) (k : Nat), (∀ p ∈ ps, p.1 ≠ k) → (layP l ps).getD k ByteArray.empty = l.getD k ByteArray.empty := by
  induction ps with
  | nil => intro l k _; rfl
  | cons p r ih =>
    intro l k h
    show (layP (l.set p.1 p.2) r).getD k ByteArray.empty = _
    rw [ih _ k (fun q hq => h q (by simp [hq]))]
    exact getD_set_other l p.1 k p.2 (h p (by simp))
/-- A disk and its journal, made behind w0. -/
def JI (w0 w : World) (b jb : Nat) (s : DSt) (nx : Nat) (lost : Bool) : Prop :=
  ∃ v, Dk w w0.heap.size b v s ∧ Jb w jb b nx lost ∧ ¬ Fd b v jb ∧ w0.heap.size ≤ jb ∧ Below w0.heap.size w0 w ∧ Sane s
theorem JI.di {w0 w : World} {b jb : Nat} {s : DSt} {nx : Nat} {lost : Bool} (h : JI w0 w b jb s nx lost) : DI w0 w b s := by
  obtain ⟨v, h1, h2, h3, h4, h5, h6⟩ := h
  exact ⟨v, h1, h5, h6⟩
theorem JI.bel {w0 w : World} {b jb : Nat} {s : DSt} {nx : Nat} {lost : Bool} (h : JI w0 w b jb s nx lost) : Below w0.heap.size w0 w := h.di.bel
theorem JI.below {w0 w w' : World} {b jb : Nat} {s : DSt} {nx : Nat} {lost : Bool} (h : JI w0 w b jb s nx lost) (hb : Below w.heap.size w w') : JI w0 w' b jb s nx lost := by
  obtain ⟨v, h1, h2, h3, h4, h5, h6⟩ := h
  exact ⟨v, h1.below hb, Blk.below h2 hb (Blk.lt h2), h3, h4, h5.trans (hb.mono h5.size), h6⟩
theorem JI.dpost {w0 w w' : World} {b jb : Nat} {v : DV} {s s' : DSt} {nx : Nat} {lost : Bool} (h1 : Dk w w0.heap.size b v s) (h2 : Jb w jb b nx lost) (h3 : ¬ Fd b v jb) (h4 : w0.heap.size ≤ jb) (h5 : Below w0.heap.size w0 w) (hs : Sane s') (hP : DPost w0.heap.size b v s' w w') : JI w0 w' b jb s' nx lost := by
  obtain ⟨v', k1, k2, k3⟩ := hP
  refine ⟨v', k1, Blk.only h2 k2 h3, fun q => ?_, h4, DI.only h1 h5 k2, hs⟩
  rcases k3 jb q with r | r
  · exact h3 r
  · have := Blk.lt h2; omega
/-- A disk with a journal that is opened. -/
def L0 : List ByteArray := (List.replicate 128 zero256).set 1 (headB 0 [])
theorem L0_len : L0.length = 128 := by simp [L0]
def A0 : List (Nat × Nat) := [(0, 1), (1, 0)]
theorem fresh_rs (L : List ByteArray) : freshS L = rs L [] := rfl
theorem format_rs : layR (freshS (List.replicate 128 zero256)) [(1, headB 0 [])] = (0, rs L0 A0) := by
  rw [fresh_rs, lay_rs _ _ _ (head_ok _ (by rw [List.length_replicate]; decide) 0 [] (by simp))]
  rfl
theorem head0 : L0.getD 1 ByteArray.empty = headB 0 [] := getD_set_same _ 1 _ (by rw [List.length_replicate]; decide)
theorem read_rs (L : List ByteArray) (A : List (Nat × Nat)) (j : Nat) (hj : j < L.length) : readE (rs L A) (j : Int) = 0 ∧ readT (rs L A) (j : Int) = L.getD j ByteArray.empty := readA (s := rs L A) ⟨rfl, rfl⟩ j hj
/-- Open of a disk whose head is clear. -/
theorem open_clear {w : World} {base b : Nat} {v : DV} {L : List ByteArray} {A : List (Nat × Nat)} (h : Dk w base b v (rs L A)) (hg : ETy w) (hb : base ≤ w.heap.size) (hS : Sane (rs L A)) (n : Nat) (hn : n < 4294967296) (hL : 1 < L.length) (hh : L.getD 1 ByteArray.empty = headB n []) (ha : A.length ≤ 10000000) :
    Calls Tryz.prog 31 #[.pointer (some ⟨b, 0, none⟩)] w fun e w' => ∃ jb, e = .returned (.tuple #[.pointer (some ⟨jb, 0, none⟩), .bool false, .int .i64 0]) ∧ JNew base b v (rs L A) jb ((n + 1) % 4294967296) w w' := by
  obtain ⟨r1, r2⟩ := read_rs L A 1 hL
  rw [show ((1 : Nat) : Int) = 1 from rfl] at r1 r2
  have ht : (readT (rs L A) 1).size ≤ 9223372036854775807 := by rw [r2, hh, headB_size n [] (by simp)]; decide
  refine (open_any w base b v (rs L A) h hg hb hS ht (Nat.zero_le _) ha).mono ?_
  intro e w' hP
  rcases hP with ⟨q, _⟩ | ⟨_, n', H, ok, hn', hR, hc⟩
  · exact absurd r1 q
  · rw [r2, hh] at hR
    obtain ⟨e1, e2, e3⟩ := rhp_clear n hn _ _ _ _ hR
    have e1' : n' = n := by omega
    subst e1' e2 e3
    rcases hc with ⟨q, _⟩ | ⟨_, _, q⟩ | ⟨_, q, _⟩ | ⟨_, q, _⟩
    · cases q
    · exact q
    · simp at q
    · simp at q
theorem JNew.ji {w0 w w' : World} {b jb nx : Nat} {v : DV} {s s' : DSt} (h1 : Dk w w0.heap.size b v s) (h5 : Below w0.heap.size w0 w) (hs : Sane s') (h : JNew w0.heap.size b v s' jb nx w w') : JI w0 w' b jb s' nx false := by
  obtain ⟨v', k1, k2, k3, k4, k5, k6⟩ := h
  exact ⟨v', k1, k2, k3, by have := h5.size; omega, DI.only h1 h5 k5, hs⟩
end Go.Proofs.YtnnehadmnijhjaaGreatDoor

namespace Go.Proofs.YtnnehadmnijhjaaGreatDoor
open Go.RowKit
end Go.Proofs.YtnnehadmnijhjaaGreatDoor

namespace Go.Proofs.YtnnehadmnijhjaaGreatDoor
open Go.RowKit
theorem Strs.own {w : World} {base : Nat} {v : Value} {l : List ByteArray} (h : w.ownsRow base 9 1 v l.length (strs l)) : ∃ p c, v = .slice p l.length c ∧ Strs w p l := by
  rcases h.2 with ⟨h1, h2⟩ | ⟨g, cap, cur, h1, hb, hg, _⟩
  · refine ⟨none, 0, by rw [h1, h2], fun j hj => ?_⟩
    omega
  · refine ⟨some ⟨g, 0, none⟩, cap, h1, fun j hj => ⟨g, 0, rfl, Blk.lt hg, ?_⟩⟩
    rw [Nat.zero_add, (own_at h (by rw [h1]; rfl) j hj).1]
    exact strs_at _ _ hj
theorem Strs.below {w w' : World} {p : Option Addr} {l : List ByteArray} (h : Strs w p l) (hb : Below w.heap.size w w') : Strs w' p l := fun j hj => by
  obtain ⟨g, o, h1, h2, h3⟩ := h j hj
  exact ⟨g, o, h1, Nat.lt_of_lt_of_le h2 hb.size, (hb.cell (p := ⟨g, o + j, none⟩) h2).trans h3⟩
end Go.Proofs.YtnnehadmnijhjaaGreatDoor

namespace Go.Proofs.YtnnehadmnijhjaaGreatDoor
open Go.RowKit
def freeQ (l m : List ByteArray) : Prop := ∀ k, 19 ≤ k → k < l.length → l.getD k ByteArray.empty = m.getD k ByteArray.empty
theorem str_neJ {a b : ByteArray} (h : ¬ a = b) : (a.toList == b.toList) = false := by
  by_cases q : a.toList == b.toList
  · exact absurd (by
      have := eq_of_beq q
      rw [ByteArray.toList_eq, ByteArray.toList_eq] at this
      exact WideShapes.bytes_inj this) h
  · simpa using q
end Go.Proofs.YtnnehadmnijhjaaGreatDoor

namespace Go.Proofs.YtnnehadmnijhjaaGreatDoor
open Go.RowKit
/-- A disk and its journal, made behind w0, and a fence: blocks that belong to neither. -/
def JK (w0 w : World) (b jb : Nat) (s : DSt) (nx : Nat) (lost : Bool) (X : Nat → Prop) : Prop :=
  ∃ v, Dk w w0.heap.size b v s ∧ Jb w jb b nx lost ∧ ¬ Fd b v jb ∧ w0.heap.size ≤ jb ∧ Below w0.heap.size w0 w ∧ Sane s ∧ ∀ x, X x → ¬ Fd b v x ∧ x ≠ jb ∧ x < w.heap.size
theorem JK.ji {w0 w : World} {b jb : Nat} {s : DSt} {nx : Nat} {lost : Bool} {X : Nat → Prop} (h : JK w0 w b jb s nx lost X) : JI w0 w b jb s nx lost := by
  obtain ⟨v, h1, h2, h3, h4, h5, h6, _⟩ := h
  exact ⟨v, h1, h2, h3, h4, h5, h6⟩
theorem JI.jk {w0 w : World} {b jb : Nat} {s : DSt} {nx : Nat} {lost : Bool} (h : JI w0 w b jb s nx lost) : JK w0 w b jb s nx lost (fun _ => False) := by
  obtain ⟨v, h1, h2, h3, h4, h5, h6⟩ := h
  exact ⟨v, h1, h2, h3, h4, h5, h6, fun _ q => q.elim⟩
theorem JK.bel {w0 w : World} {b jb : Nat} {s : DSt} {nx : Nat} {lost : Bool} {X : Nat → Prop} (h : JK w0 w b jb s nx lost X) : Below w0.heap.size w0 w := h.ji.bel
theorem JK.more {w0 w w' : World} {b jb : Nat} {s : DSt} {nx : Nat} {lost : Bool} {X : Nat → Prop} (h : JK w0 w b jb s nx lost X) (hb : Below w.heap.size w w') (Y : Nat → Prop) (hy : ∀ x, Y x → X x ∨ (w.heap.size ≤ x ∧ x < w'.heap.size)) : JK w0 w' b jb s nx lost Y := by
  obtain ⟨v, h1, h2, h3, h4, h5, h6, h7⟩ := h
  refine ⟨v, h1.below hb, Blk.below h2 hb (Blk.lt h2), h3, h4, h5.trans (hb.mono h5.size), h6, fun x hx => ?_⟩
  rcases hy x hx with q | ⟨q1, q2⟩
  · obtain ⟨a1, a2, a3⟩ := h7 x q
    exact ⟨a1, a2, Nat.lt_of_lt_of_le a3 hb.size⟩
  · refine ⟨fun q => ?_, fun q => ?_, q2⟩
    · have := (h1.fd x q).2; omega
    · have := Blk.lt h2; omega
theorem JK.below {w0 w w' : World} {b jb : Nat} {s : DSt} {nx : Nat} {lost : Bool} {X : Nat → Prop} (h : JK w0 w b jb s nx lost X) (hb : Below w.heap.size w w') : JK w0 w' b jb s nx lost X := h.more hb X (fun _ q => .inl q)
theorem JK.less {w0 w : World} {b jb : Nat} {s : DSt} {nx : Nat} {lost : Bool} {X : Nat → Prop} (h : JK w0 w b jb s nx lost X) (Y : Nat → Prop) (hy : ∀ x, Y x → X x) : JK w0 w b jb s nx lost Y := h.more (Below.refl _ _) Y (fun x q => .inl (hy x q))
theorem JK.lt {w0 w : World} {b jb : Nat} {s : DSt} {nx : Nat} {lost : Bool} {X : Nat → Prop} (h : JK w0 w b jb s nx lost X) (x : Nat) (hx : X x) : x < w.heap.size := by
  obtain ⟨v, h1, h2, h3, h4, h5, h6, h7⟩ := h
  exact (h7 x hx).2.2
theorem Only.widen {P Q : Nat → Prop} {w w' : World} (h : Only P w w') (hq : ∀ k, k < w.heap.size → P k → Q k) : Only Q w w' := ⟨h.1, fun k hk hn => h.2 k hk (fun q => hn (hq k hk q))⟩
theorem Dk.lower {w : World} {base base0 b : Nat} {v : DV} {s : DSt} (g1 : Dk w base b v s) (h : base0 ≤ base) : Dk w base0 b v s :=
  ⟨g1.blk, owns_base g1.rl h, owns_base g1.rn h, owns_base g1.rp h, owns_base g1.ra h, g1.ne, Nat.le_trans h g1.lo⟩
theorem layP_size (ps : List (Nat × ByteArray)) : ∀ (l : List ByteArray), (∀ t ∈ l, t.size = 256) → (∀ p ∈ ps, p.2.size = 256) → ∀ t ∈ layP l ps, t.size = 256 := by
  induction ps with
  | nil => intro l h _; exact h
  | cons p r ih =>
    intro l h hp
    refine ih _ (fun t ht => ?_) (fun q hq => hp q (by simp [hq]))
    rcases List.mem_or_eq_of_mem_set ht with q | q
    · exact h t q
    · rw [q]; exact hp p (by simp)
end Go.Proofs.YtnnehadmnijhjaaGreatDoor

namespace Go.Proofs.YtnnehadmnijhjaaGreatDoor
open Go.RowKit
end Go.Proofs.YtnnehadmnijhjaaGreatDoor

namespace Go.Proofs.YtnnehadmnijhjaaGreatDoor
open Go.RowKit
theorem L0_size : ∀ t ∈ L0, t.size = 256 := fun t ht => by
  rcases List.mem_or_eq_of_mem_set ht with q | q
  · rw [List.eq_of_mem_replicate q]; exact zero256_size
  · rw [q]; exact headB_size 0 [] (by simp)
end Go.Proofs.YtnnehadmnijhjaaGreatDoor

namespace Go.Proofs.YtnnehadmnijhjaaGreatDoor
open Go.ChangeShapes Go.WideShapes Go.ChangeAt Go.RowKit
theorem own : ownKnob Tryz.prog.godebug = none := by kernel_rfl
theorem laidOut : laidOutB Tryz.prog = true := by kernel_rfl
theorem gEt : Tryz.prog.globalNamed "errors.errorType" = some 1 := by kernel_rfl
theorem gRt : (Tryz.prog.cutTypes.find? (·.1 == "internal/reflectlite.rtype")).map (·.2) = some 229 := by kernel_rfl
theorem gOne : ((List.range 273).filter fun t => Tryz.prog.rowNamed t [101, 114, 114, 111, 114]) = [144] := by kernel_rfl
theorem gSize : Tryz.prog.types.size = 273 := by kernel_rfl
def laidL : List (String × DataW Unit) := [("errors.errorType", Rows.laid_errors_errorType)]
/-- What the row's list gives. -/
theorem ety_of {W : World} (h : laidMetH Tryz.prog laidL W) : ETy W := by
  have h' : laidMet Tryz.prog [] W ∧ handlesMet Tryz.prog laidL W := h
  obtain ⟨name, u, ty, e1, e2, e3, e4, e5⟩ := h'.2 _ (List.mem_singleton.2 rfl)
  have en : name = [101, 114, 114, 111, 114] := (Option.some.inj e1).symm
  subst en
  obtain rfl := Option.some.inj (gRt.symm.trans e2)
  have hm : ty ∈ (List.range 273).filter fun t => Tryz.prog.rowNamed t [101, 114, 114, 111, 114] := List.mem_filter.2 ⟨List.mem_range.2 (by rw [← gSize]; exact e3), e4⟩
  rw [gOne] at hm
  obtain rfl := List.mem_singleton.1 hm
  have hh : typeHandle Tryz.prog 144 = .pointer (some ⟨2, 144, none⟩) := by kernel_rfl
  rw [hh] at e5
  have := World.var?_cell gEt e5 0
  unfold ETy
  simpa using this
/-- A world for the witness: the settled one, the variable's cell laid. -/
noncomputable def laidWorld (os : Os) : World :=
  let w0 := World.holding Tryz.prog os ⟨#[], #[], []⟩
  { w0 with heap := w0.heap.modify 1 fun
      | .cells _ t frozen => .cells #[.iface 229 (.agg #[.pointer (some ⟨2, 144, none⟩)])] t frozen
      | o => o }
end Go.Proofs.YtnnehadmnijhjaaGreatDoor

namespace Go.Proofs.YtnnehadmnijhjaaGreatDoor
open Go.RowKit
end Go.Proofs.YtnnehadmnijhjaaGreatDoor

namespace Go.Proofs.YtnnehadmnijhjaaGreatDoor
open Go.RowKit
end Go.Proofs.YtnnehadmnijhjaaGreatDoor

namespace Go.Proofs.YtnnehadmnijhjaaGreatDoor
open Go.RowKit
theorem JK.dpost {w0 w w' : World} {b jb : Nat} {v : DV} {s s' : DSt} {nx : Nat} {lost : Bool} {X : Nat → Prop} (h1 : Dk w w0.heap.size b v s) (h2 : Jb w jb b nx lost) (h3 : ¬ Fd b v jb) (h4 : w0.heap.size ≤ jb) (h5 : Below w0.heap.size w0 w) (hs : Sane s') (h7 : ∀ x, X x → ¬ Fd b v x ∧ x ≠ jb ∧ x < w.heap.size) (hP : DPost w0.heap.size b v s' w w') : JK w0 w' b jb s' nx lost X ∧ Only (fun x => ¬ X x) w w' := by
  obtain ⟨v', k1, k2, k3⟩ := hP
  refine ⟨⟨v', k1, Blk.only h2 k2 h3, fun q => ?_, h4, DI.only h1 h5 k2, hs, fun x hx => ?_⟩, k2.widen (fun k _ q r => (h7 k r).1 q)⟩
  · rcases k3 jb q with r | r
    · exact h3 r
    · have := Blk.lt h2; omega
  · obtain ⟨a1, a2, a3⟩ := h7 x hx
    refine ⟨fun q => ?_, a2, Nat.lt_of_lt_of_le a3 k2.size⟩
    rcases k3 x q with r | r
    · exact a1 r
    · omega
theorem armK {w0 w : World} {b jb : Nat} {s : DSt} {nx : Nat} {lost : Bool} {X : Nat → Prop} (h : JK w0 w b jb s nx lost X) (n : Int) (hn : n ≤ 9223372036854775807) :
    Calls Tryz.prog 8 #[.pointer (some ⟨b, 0, none⟩), .int .i64 n] w fun e w' => e = .returned (.int .i64 (armE s n)) ∧ JK w0 w' b jb (armS s n) nx lost X ∧ Only (fun x => ¬ X x) w w' := by
  obtain ⟨v, h1, h2, h3, h4, h5, h6, h7⟩ := h
  refine (arm_any w _ b v s h1 n).mono ?_
  rintro ev w' ⟨rfl, g1, g2⟩
  exact ⟨rfl, JK.dpost h1 h2 h3 h4 h5 (h6.arm n hn) h7 ⟨v, g1, g2, fun _ q => .inl q⟩⟩
end Go.Proofs.YtnnehadmnijhjaaGreatDoor

namespace Go.Proofs.YtnnehadmnijhjaaGreatDoor
open Go.RowKit
theorem ints_own {w : World} {base : Nat} {p : Option Addr} {m c : Nat} {K : List Int} (h : w.ownsRow base 3 1 (.slice p m c) K.length (K.map (Value.int .i64))) : Ints w p K := fun j hj => by
  obtain ⟨g, cap, ev, _⟩ := h.form (by omega)
  simp at ev
  obtain ⟨rfl, _⟩ := ev
  refine ⟨g, 0, rfl, (h.lt g rfl).2, ?_⟩
  rw [Nat.zero_add, (own_at h rfl j (by simpa using hj)).1]
  simp [List.getD_eq_getElem?_getD, hj]
end Go.Proofs.YtnnehadmnijhjaaGreatDoor

namespace Go.Proofs.YtnnehadmnijhjaaGreatDoor
open Go.RowKit
/-- The image as it was: the head is clear, the free sectors are the old ones. -/
structure StO (O I : List ByteArray) : Prop where
  len : I.length = 128
  size : ∀ t ∈ I, t.size = 256
  head : I.getD 1 ByteArray.empty = headB 1 []
  free : freeQ I O
theorem StO.lay {O I : List ByteArray} (h : StO O I) (ps : List (Nat × ByteArray)) (hp : ∀ p ∈ ps, 2 ≤ p.1 ∧ p.1 < 18 ∧ p.2.size = 256) : StO O (layP I ps) := by
  refine ⟨by rw [layP_len]; exact h.len, layP_size _ _ h.size (fun p q => (hp p q).2.2), ?_, fun k h1 h2 => ?_⟩
  · rw [layP_skip _ _ 1 (fun p q => by have := hp p q; omega)]; exact h.head
  · rw [layP_len] at h2
    rw [layP_skip _ _ k (fun p q => by have := hp p q; omega)]
    exact h.free k h1 h2
end Go.Proofs.YtnnehadmnijhjaaGreatDoor

namespace Go.Proofs.YtnnehadmnijhjaaGreatDoor
open Go.RowKit
end Go.Proofs.YtnnehadmnijhjaaGreatDoor

namespace Go.Proofs.YtnnehadmnijhjaaGreatDoor
open Go.RowKit
end Go.Proofs.YtnnehadmnijhjaaGreatDoor

namespace Go.Proofs.YtnnehadmnijhjaaGreatDoor
open Go.RowKit
set_option maxRecDepth 100000 in
set_option maxHeartbeats 1000000 in
theorem rzeros_any (n : Nat) (hn : n ≤ 244) (w : World) :
    Calls Tryz.prog 114 #[.int .i64 (n : Int)] w fun e w' => e = .returned (.string (strOfNums (List.replicate n 0))) ∧ Below w.heap.size w w' := by
  obtain ⟨zc, hzc⟩ : ∃ zc : Array Value, zc = ((List.replicate n (0 : Int)).map (Value.int .u8)).toArray := ⟨_, rfl⟩
  have hmk : ∀ W : World, (Instr.makeSlice 122 (.int .i64 (n : Int)) (.int .i64 (n : Int))).run Tryz.prog W = .ok (.slice (some ⟨W.heap.size, 0, none⟩) n n) (W.alloc (.cells zc 5)) := by
    intro W
    rw [hzc]
    exact run_make_u8 n n (Nat.le_refl _) (by omega) W
  have hA := arr_new w .u8 (List.replicate n 0) 5 zc hzc
  have hcv := run_convert_bytes_arg (P := Tryz.prog) (w.alloc (Obj.cells zc 5)) 122 5 Tryz.underlying122 Tryz.underlying5 w.heap.size 0 n n (List.replicate n 0) (by simp) (fun i hi => hA.get i (by simpa using hi)) 9 Tryz.underlying9
  obtain ⟨Z, hZ⟩ : ∃ Z, strOfNums (List.replicate n 0) = Z := ⟨_, rfl⟩
  rw [hZ] at hcv ⊢
  clear hA hzc hZ
  go_enter Tryz.func114, Tryz.ntmps114
  go_wp2
  go_ret
  exact ⟨rfl, (Below.refl _ w).alloc (Nat.le_refl _) _⟩
end Go.Proofs.YtnnehadmnijhjaaGreatDoor

namespace Go.Proofs.YtnnehadmnijhjaaGreatDoor
open Go.RowKit
set_option maxRecDepth 100000 in
set_option maxHeartbeats 1000000 in
theorem rcheck_g (s : ByteArray) (G : Nat) (hG : G = chkN (nums s)) (hs : s.size ≤ 9223372036854775806) (w : World) :
    Calls Tryz.prog 115 #[.string s] w fun e w' => e = .returned (.int .i64 (G : Int)) ∧ w' = w := by
  have HG := hide hG
  clear hG
  have hix := fun (i : Nat) (hi : i < s.size) (W : World) => index_str s i hi W
  go_enter Tryz.func115, Tryz.ntmps115
  go_wp2
  go_loopw [3, 4] (fun c i wr => ∃ n : Nat, n ≤ s.size ∧ i = .int .i64 (n : Int) ∧ c = .int .i64 (crcR 4294967295 (nats ((nums s).take n)) : Int) ∧ wr = w) (fun _ i _ => s.size - (intOf i).toNat)
  case atStart => exact ⟨0, by omega, rfl, rfl, rfl⟩
  case round =>
    obtain ⟨n, hn, rfl, rfl, rfl⟩ := hrel
    obtain ⟨wo, rfl⟩ : ∃ wo, wo = wr := ⟨_, rfl⟩
    have hlt := crcR_lt (nats ((nums s).take n)) (nats_lt _ (fun j => by
      have := nums_bytes s j
      rw [List.getD_eq_getElem?_getD, List.getElem?_take]
      split
      · rw [← List.getD_eq_getElem?_getD]; exact this
      · simp)) 4294967295 (by omega)
    by_cases hns : n < s.size
    · obtain ⟨B, hB, hBe, hBt⟩ := nums_nat s n hns
      have hi2 := hix n hns
      rw [hBe] at hi2
      have HT := hide hBt
      have HC := hide (show crcR 4294967295 (nats ((nums s).take (n + 1))) = cbyte (crcR 4294967295 (nats ((nums s).take n))) B by rw [hBt, crcR, List.foldl_append]; rfl)
      clear hBt hBe hix
      generalize crcR 4294967295 (nats ((nums s).take n)) = V at *
      have hx := i64_xor_nat V B hlt (by omega)
      have hxl : V ^^^ B < 4294967296 := Nat.xor_lt_two_pow (n := 32) (by omega) (by omega)
      go_wp2
      go_loopw [3, 5] (fun c i wr => ∃ k : Nat, k ≤ 8 ∧ i = .int .i64 (k : Int) ∧ c = .int .i64 (iter k (V ^^^ B) : Int) ∧ wr = wo) (fun _ i _ => 8 - (intOf i).toNat)
      case atStart => exact ⟨0, by omega, rfl, rfl, rfl⟩
      case round =>
        obtain ⟨k, hk, rfl, rfl, rfl⟩ := hrel
        have hl := iter_lt k (V ^^^ B) hxl
        have HS := hide (iter_succ' k (V ^^^ B))
        by_cases hk8 : k < 8
        · generalize iter k (V ^^^ B) = U at *
          have ha : ((U : Int)).tmod 2 = ((U % 2 : Nat) : Int) := rfl
          obtain ⟨U2, hU2⟩ : ∃ U2, U / 2 = U2 := ⟨_, rfl⟩
          have hq : ((U : Int)).tdiv 2 = (U2 : Int) := by rw [← hU2]; rfl
          have HX2 := hide (i64_xor_nat U2 3988292384 (by omega) (by omega))
          have HU2 := hide hU2
          have hU2l : U2 < 4294967296 := by omega
          clear hU2
          rcases Nat.mod_two_eq_zero_or_one U with h | h
          · rw [h] at ha
            go_wp2
            go_roundw
            case rel => exact ⟨k + 1, by omega, by go_num, by rw [unhide HS, cstep, if_neg (by omega), Nat.xor_zero, unhide HU2], trivial⟩
            case measure => simp [intOf]; omega
          · rw [h] at ha
            go_wp2
            go_roundw
            case rel => exact ⟨k + 1, by omega, by go_num, by rw [unhide HS, cstep, if_pos h, unhide HU2, ← unhide HX2]; rfl, trivial⟩
            case measure => simp [intOf]; omega
        · obtain rfl : k = 8 := by omega
          go_wp2
          go_roundw
          case rel => exact ⟨n + 1, by omega, by go_num, by rw [unhide HC]; rfl, trivial⟩
          case measure => simp [intOf]; omega
    · have HF := hide (show G = 4294967295 - crcR 4294967295 (nats ((nums s).take n)) by rw [unhide HG, chkN, List.take_of_length_le (by rw [nums_len]; omega)])
      clear hix HG
      generalize crcR 4294967295 (nats ((nums s).take n)) = V at *
      go_wp2
      go_ret
      refine ⟨?_, rfl⟩
      have e : (G : Int) = 4294967295 - (V : Int) := by have := unhide HF; omega
      rw [e]
      rfl
end Go.Proofs.YtnnehadmnijhjaaGreatDoor
