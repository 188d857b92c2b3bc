import Derived.Test.YtaedoagcbkgmbaaDn2
namespace Go.Proofs.Ytaedoagcbkgmbaa
open Go.RowKit
/-- 3 disks behind w0; what the fence holds is as it was in wF. -/
def E3 (w0 wF : World) (F : Nat → Prop) (w : World) (b1 : Nat) (s1 : DSt) (b2 : Nat) (s2 : DSt) (b3 : Nat) (s3 : DSt) : Prop :=
  ∃ v1 v2 v3, Dk w w0.heap.size b1 v1 s1 ∧ Dk w w0.heap.size b2 v2 s2 ∧ Dk w w0.heap.size b3 v3 s3 ∧ (∀ k, Fd b1 v1 k → ¬ Fd b2 v2 k) ∧ (∀ k, Fd b1 v1 k → ¬ Fd b3 v3 k) ∧ (∀ k, Fd b2 v2 k → ¬ Fd b3 v3 k) ∧ Below w0.heap.size w0 w ∧ Sane s1 ∧ Sane s2 ∧ Sane s3 ∧ (∀ k, F k → k < w.heap.size ∧ ¬ Fd b1 v1 k ∧ ¬ Fd b2 v2 k ∧ ¬ Fd b3 v3 k ∧ w.heap[k]? = wF.heap[k]?)
theorem E3.bel {w0 wF : World} {F : Nat → Prop} {w : World} {b1 : Nat} {s1 : DSt} {b2 : Nat} {s2 : DSt} {b3 : Nat} {s3 : DSt} (h : E3 w0 wF F w b1 s1 b2 s2 b3 s3) : Below w0.heap.size w0 w := by
  obtain ⟨v1, v2, v3, g1, g2, g3, a12, a13, a23, bel, z1, z2, z3, fe⟩ := h
  exact bel
theorem E3.below {w0 wF : World} {F : Nat → Prop} {w : World} {b1 : Nat} {s1 : DSt} {b2 : Nat} {s2 : DSt} {b3 : Nat} {s3 : DSt} (h : E3 w0 wF F w b1 s1 b2 s2 b3 s3) {w' : World} (hb : Below w.heap.size w w') : E3 w0 wF F w' b1 s1 b2 s2 b3 s3 := by
  obtain ⟨v1, v2, v3, g1, g2, g3, a12, a13, a23, bel, z1, z2, z3, fe⟩ := h
  exact ⟨v1, v2, v3, g1.below hb, g2.below hb, g3.below hb, a12, a13, a23, bel.trans (hb.mono bel.size), z1, z2, z3, fun k hk => ⟨Nat.lt_of_lt_of_le (fe k hk).1 hb.size, (fe k hk).2.1, (fe k hk).2.2.1, (fe k hk).2.2.2.1, (hb.block k (fe k hk).1).trans (fe k hk).2.2.2.2⟩⟩
theorem E3.grow {w0 wF : World} {F : Nat → Prop} {w : World} {b1 : Nat} {s1 : DSt} {b2 : Nat} {s2 : DSt} {b3 : Nat} {s3 : DSt} (h : E3 w0 wF F w b1 s1 b2 s2 b3 s3) {w' : World} (hb : Below w.heap.size w w') : E3 w0 w' (fun k => F k ∨ (w.heap.size ≤ k ∧ k < w'.heap.size)) w' b1 s1 b2 s2 b3 s3 := by
  obtain ⟨v1, v2, v3, g1, g2, g3, a12, a13, a23, bel, z1, z2, z3, fe⟩ := h
  refine ⟨v1, v2, v3, g1.below hb, g2.below hb, g3.below hb, a12, a13, a23, bel.trans (hb.mono bel.size), z1, z2, z3, fun k hk => ?_⟩
  rcases hk with hk | hk
  · exact ⟨Nat.lt_of_lt_of_le (fe k hk).1 hb.size, (fe k hk).2.1, (fe k hk).2.2.1, (fe k hk).2.2.2.1, rfl⟩
  · exact ⟨hk.2, fun q => by have := (g1.fd k q).2; omega, fun q => by have := (g2.fd k q).2; omega, fun q => by have := (g3.fd k q).2; omega, rfl⟩
theorem E3.fence {w0 wF : World} {F : Nat → Prop} {w : World} {b1 : Nat} {s1 : DSt} {b2 : Nat} {s2 : DSt} {b3 : Nat} {s3 : DSt} (h : E3 w0 wF F w b1 s1 b2 s2 b3 s3) (k : Nat) (hk : F k) : k < w.heap.size := by
  obtain ⟨v1, v2, v3, g1, g2, g3, a12, a13, a23, bel, z1, z2, z3, fe⟩ := h
  exact (fe k hk).1
theorem E3.strs {w0 wF : World} {F : Nat → Prop} {w : World} {b1 : Nat} {s1 : DSt} {b2 : Nat} {s2 : DSt} {b3 : Nat} {s3 : DSt} (h : E3 w0 wF F w b1 s1 b2 s2 b3 s3) {p : Option Addr} {l : List ByteArray} (hs : StrsF wF F p l) : Strs w p l := fun j hj => by
  obtain ⟨v1, v2, v3, g1, g2, g3, a12, a13, a23, bel, z1, z2, z3, fe⟩ := h
  obtain ⟨g, o, e1, e2, e3⟩ := hs j hj
  exact ⟨g, o, e1, (fe g e2).1, (World.cell?_of_block (a := ⟨g, o + j, none⟩) (fe g e2).2.2.2.2).trans e3⟩
theorem E3.ints {w0 wF : World} {F : Nat → Prop} {w : World} {b1 : Nat} {s1 : DSt} {b2 : Nat} {s2 : DSt} {b3 : Nat} {s3 : DSt} (h : E3 w0 wF F w b1 s1 b2 s2 b3 s3) {p : Option Addr} {l : List Int} (hs : IntsF wF F p l) : Ints w p l := fun j hj => by
  obtain ⟨v1, v2, v3, g1, g2, g3, a12, a13, a23, bel, z1, z2, z3, fe⟩ := h
  obtain ⟨g, o, e1, e2, e3⟩ := hs j hj
  exact ⟨g, o, e1, (fe g e2).1, (World.cell?_of_block (a := ⟨g, o + j, none⟩) (fe g e2).2.2.2.2).trans e3⟩
theorem E3.rot {w0 wF : World} {F : Nat → Prop} {w : World} {b1 : Nat} {s1 : DSt} {b2 : Nat} {s2 : DSt} {b3 : Nat} {s3 : DSt} (h : E3 w0 wF F w b1 s1 b2 s2 b3 s3) : E3 w0 wF F w b2 s2 b3 s3 b1 s1 := by
  obtain ⟨v1, v2, v3, g1, g2, g3, a12, a13, a23, bel, z1, z2, z3, fe⟩ := h
  exact ⟨v2, v3, v1, g2, g3, g1, a23, fun k hk hk' => a12 k hk' hk, fun k hk hk' => a13 k hk' hk, bel, z2, z3, z1, fun k hk => ⟨(fe k hk).1, (fe k hk).2.2.1, (fe k hk).2.2.2.1, (fe k hk).2.1, (fe k hk).2.2.2.2⟩⟩
theorem E3.step {w0 wF : World} {F : Nat → Prop} {w w' : World} {b1 : Nat} {s1 : DSt} {b2 : Nat} {s2 : DSt} {b3 : Nat} {s3 : DSt} {s : DSt} {v1 v2 v3 : DV} (g1 : Dk w w0.heap.size b1 v1 s1) (g2 : Dk w w0.heap.size b2 v2 s2) (g3 : Dk w w0.heap.size b3 v3 s3) (a12 : ∀ k, Fd b1 v1 k → ¬ Fd b2 v2 k) (a13 : ∀ k, Fd b1 v1 k → ¬ Fd b3 v3 k) (a23 : ∀ k, Fd b2 v2 k → ¬ Fd b3 v3 k) (bel : Below w0.heap.size w0 w) (z2 : Sane s2) (z3 : Sane s3) (fe : ∀ k, F k → k < w.heap.size ∧ ¬ Fd b1 v1 k ∧ ¬ Fd b2 v2 k ∧ ¬ Fd b3 v3 k ∧ w.heap[k]? = wF.heap[k]?)
    (hp : DPost w0.heap.size b1 v1 s w w') (hs : Sane s) : E3 w0 wF F w' b1 s b2 s2 b3 s3 := by
  obtain ⟨u, k1, k2, k3⟩ := hp
  have new : ∀ k, k < w.heap.size → ¬ Fd b1 v1 k → ¬ Fd b1 u k := fun k hk hn q => by
    rcases k3 k q with q | q
    · exact hn q
    · omega
  refine ⟨u, v2, v3, k1, g2.only k2 (fun k hk hk' => a12 k hk' hk), g3.only k2 (fun k hk hk' => a13 k hk' hk), fun k hk hk' => new k (g2.fd k hk').2 (fun q => a12 k q hk') hk, fun k hk hk' => new k (g3.fd k hk').2 (fun q => a13 k q hk') hk, a23, DI.only g1 bel k2, hs, z2, z3, fun k hk => ?_⟩
  exact ⟨Nat.lt_of_lt_of_le (fe k hk).1 k2.size, new k (fe k hk).1 (fe k hk).2.1, (fe k hk).2.2.1, (fe k hk).2.2.2.1, (k2.2 k (fe k hk).1 (fe k hk).2.1).trans (fe k hk).2.2.2.2⟩
theorem write3 {w0 wF : World} {F : Nat → Prop} {w : World} {b1 : Nat} {s1 : DSt} {b2 : Nat} {s2 : DSt} {b3 : Nat} {s3 : DSt} (h : E3 w0 wF F w b1 s1 b2 s2 b3 s3) (hp : s1.pend.length ≤ 1000000000) (ha : s1.acts.length ≤ 1000000000) (i : Int) (t : ByteArray) :
    Calls Try.prog 13 #[.pointer (some ⟨b1, 0, none⟩), .int .i64 i, .string t] w fun e w' => e = .returned (.int .i64 (writeE s1 i t)) ∧ E3 w0 wF F w' b1 (writeS s1 i t) b2 s2 b3 s3 := by
  obtain ⟨v1, v2, v3, g1, g2, g3, a12, a13, a23, bel, z1, z2, z3, fe⟩ := h
  refine (write_any w _ b1 v1 s1 g1 bel.size z1 hp ha i t).mono ?_
  rintro ev w' ⟨rfl, hP⟩
  exact ⟨rfl, E3.step g1 g2 g3 a12 a13 a23 bel z2 z3 fe hP (z1.write i t)⟩
theorem crash3 {w0 wF : World} {F : Nat → Prop} {w : World} {b1 : Nat} {s1 : DSt} {b2 : Nat} {s2 : DSt} {b3 : Nat} {s3 : DSt} (h : E3 w0 wF F w b1 s1 b2 s2 b3 s3) (hp : s1.pend.length ≤ 1000000000) (p : Option Addr) (l : List Int) (n c : Nat) (hn : n = l.length) (hl : Ints w p l) (hll : l.length ≤ 9223372036854775807) :
    Calls Try.prog 17 #[.pointer (some ⟨b1, 0, none⟩), .slice p n c] w fun e w' => e = .returned (.int .i64 (crashE s1 l)) ∧ E3 w0 wF F w' b1 (crashS s1 l) b2 s2 b3 s3 := by
  subst hn
  obtain ⟨v1, v2, v3, g1, g2, g3, a12, a13, a23, bel, z1, z2, z3, fe⟩ := h
  refine (crash_any w _ b1 v1 s1 g1 bel.size z1 hp p l c hl hll).mono ?_
  rintro ev w' ⟨rfl, hP⟩
  exact ⟨rfl, E3.step g1 g2 g3 a12 a13 a23 bel z2 z3 fe hP (z1.crash l)⟩
theorem read3 {w0 wF : World} {F : Nat → Prop} {w : World} {b1 : Nat} {s1 : DSt} {b2 : Nat} {s2 : DSt} {b3 : Nat} {s3 : DSt} (h : E3 w0 wF F w b1 s1 b2 s2 b3 s3) (i : Int) :
    Calls Try.prog 16 #[.pointer (some ⟨b1, 0, none⟩), .int .i64 i] w fun e w' => e = .returned (.tuple #[.string (readT s1 i), .int .i64 (readE s1 i)]) ∧ w' = w := by
  obtain ⟨v1, v2, v3, g1, g2, g3, a12, a13, a23, bel, z1, z2, z3, fe⟩ := h
  exact read_any w _ b1 v1 s1 g1 z1.same i
theorem pending3 {w0 wF : World} {F : Nat → Prop} {w : World} {b1 : Nat} {s1 : DSt} {b2 : Nat} {s2 : DSt} {b3 : Nat} {s3 : DSt} (h : E3 w0 wF F w b1 s1 b2 s2 b3 s3) :
    Calls Try.prog 18 #[.pointer (some ⟨b1, 0, none⟩)] w fun e w' => e = .returned (.int .i64 (s1.pend.length : Int)) ∧ w' = w := by
  obtain ⟨v1, v2, v3, g1, g2, g3, a12, a13, a23, bel, z1, z2, z3, fe⟩ := h
  exact pending_any w _ b1 v1 s1 g1
theorem size3 {w0 wF : World} {F : Nat → Prop} {w : World} {b1 : Nat} {s1 : DSt} {b2 : Nat} {s2 : DSt} {b3 : Nat} {s3 : DSt} (h : E3 w0 wF F w b1 s1 b2 s2 b3 s3) :
    Calls Try.prog 23 #[.pointer (some ⟨b1, 0, none⟩)] w fun e w' => e = .returned (.int .i64 (s1.last.length : Int)) ∧ w' = w := by
  obtain ⟨v1, v2, v3, g1, g2, g3, a12, a13, a23, bel, z1, z2, z3, fe⟩ := h
  exact size_any w _ b1 v1 s1 g1
theorem trace3 {w0 wF : World} {F : Nat → Prop} {w : World} {b1 : Nat} {s1 : DSt} {b2 : Nat} {s2 : DSt} {b3 : Nat} {s3 : DSt} (h : E3 w0 wF F w b1 s1 b2 s2 b3 s3) (ha : s1.acts.length ≤ 1000000000) :
    Calls Try.prog 9 #[.pointer (some ⟨b1, 0, none⟩)] w fun e w' => e = .returned (.slice (some ⟨w.heap.size, 0, none⟩) s1.acts.length s1.acts.length) ∧ Blk w' w.heap.size (tels s1.acts).toArray 53 ∧ E3 w0 wF F w' b1 s1 b2 s2 b3 s3 ∧ Below w.heap.size w w' := by
  have h' := h
  obtain ⟨v1, v2, v3, g1, g2, g3, a12, a13, a23, bel, z1, z2, z3, fe⟩ := h
  refine (trace_any w _ b1 v1 s1 g1 ha z1.acts).mono ?_
  rintro ev w' ⟨rfl, k1, k2⟩
  exact ⟨rfl, k1, h'.below k2, k2⟩
theorem all3 {w0 wF : World} {F : Nat → Prop} {w : World} {b1 : Nat} {s1 : DSt} {b2 : Nat} {s2 : DSt} {b3 : Nat} {s3 : DSt} (h : E3 w0 wF F w b1 s1 b2 s2 b3 s3) (hd : s1.dead = false) :
    Calls Try.prog 19 #[.pointer (some ⟨b1, 0, none⟩)] w fun e w' => ∃ p c, e = .returned (.slice p s1.now.length c) ∧ StrsF w' (fun k => F k ∨ (w.heap.size ≤ k ∧ k < w'.heap.size)) p s1.now ∧ E3 w0 w' (fun k => F k ∨ (w.heap.size ≤ k ∧ k < w'.heap.size)) w' b1 s1 b2 s2 b3 s3 ∧ Below w.heap.size w w' := by
  have h' := h
  obtain ⟨v1, v2, v3, g1, g2, g3, a12, a13, a23, bel, z1, z2, z3, fe⟩ := h
  refine (all_new w _ b1 v1 s1 g1 z1 hd).mono ?_
  rintro ev w' ⟨p, c, rfl, k1, k2⟩
  exact ⟨p, c, rfl, fun j hj => by obtain ⟨g, o, q1, q2, q3, q4⟩ := k1 j hj; exact ⟨g, o, q1, .inr ⟨q2, q3⟩, q4⟩, h'.grow k2, k2⟩
theorem image3 {w0 wF : World} {F : Nat → Prop} {w : World} {b1 : Nat} {s1 : DSt} {b2 : Nat} {s2 : DSt} {b3 : Nat} {s3 : DSt} (h : E3 w0 wF F w b1 s1 b2 s2 b3 s3) :
    Calls Try.prog 20 #[.pointer (some ⟨b1, 0, none⟩)] w fun e w' => ∃ p c, e = .returned (.slice p s1.last.length c) ∧ StrsF w' (fun k => F k ∨ (w.heap.size ≤ k ∧ k < w'.heap.size)) p s1.last ∧ E3 w0 w' (fun k => F k ∨ (w.heap.size ≤ k ∧ k < w'.heap.size)) w' b1 s1 b2 s2 b3 s3 ∧ Below w.heap.size w w' := by
  have h' := h
  obtain ⟨v1, v2, v3, g1, g2, g3, a12, a13, a23, bel, z1, z2, z3, fe⟩ := h
  refine (image_any w _ b1 v1 s1 g1 z1.pos z1.cap).mono ?_
  rintro ev w' ⟨v', rfl, k1, k2⟩
  obtain ⟨p, c, rfl, k3⟩ := Strs.ownB k1
  exact ⟨p, c, rfl, fun j hj => by obtain ⟨g, o, q1, q2, q3, q4⟩ := k3 j hj; exact ⟨g, o, q1, .inr ⟨q2, q3⟩, q4⟩, h'.grow k2, k2⟩
theorem E3.mk3 {w x1 x2 x3 : World} {b b' b2 : Nat} {s s' s2 : DSt} (h1 : DI w x1 b s) (h2 : DI x1 x2 b' s') (h3 : DI x2 x3 b2 s2) : E3 w x3 (fun _ => False) x3 b s b' s' b2 s2 := by
  obtain ⟨v, g1, g2, g3⟩ := h1
  obtain ⟨v', k1, k2, k3⟩ := h2
  obtain ⟨u, m1, m2, m3⟩ := h3
  have z1 := g2.size
  have z2 := k2.size
  exact ⟨v, v', u, (g1.below k2).below m2, (k1.below m2).base g2.size, m1.base (Nat.le_trans z1 z2), fun k hk hk' => by have := (g1.fd k hk).2; have := (k1.fd k hk').1; omega, fun k hk hk' => by have := (g1.fd k hk).2; have := (m1.fd k hk').1; omega, fun k hk hk' => by have := (k1.fd k hk).2; have := (m1.fd k hk').1; omega, (g2.trans (k2.mono g2.size)).trans (m2.mono (Nat.le_trans z1 z2)), g3, k3, m3, fun k hk => hk.elim⟩
end Go.Proofs.Ytaedoagcbkgmbaa
