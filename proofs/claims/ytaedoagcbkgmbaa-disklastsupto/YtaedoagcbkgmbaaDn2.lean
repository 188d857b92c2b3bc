import Derived.Test.YtaedoagcbkgmbaaTwo
namespace Go.Proofs.Ytaedoagcbkgmbaa
open Go.RowKit
/-- Texts that lie in fenced blocks. -/
def StrsF (w : World) (F : Nat → Prop) (p : Option Addr) (l : List ByteArray) : Prop := ∀ j, j < l.length → ∃ g o, p = some ⟨g, o, none⟩ ∧ F g ∧ w.cell? ⟨g, o + j, none⟩ = some (.string (l.getD j ByteArray.empty))
def IntsF (w : World) (F : Nat → Prop) (p : Option Addr) (l : List Int) : Prop := ∀ j, j < l.length → ∃ g o, p = some ⟨g, o, none⟩ ∧ F g ∧ w.cell? ⟨g, o + j, none⟩ = some (.int .i64 (l.getD j 0))
theorem StrsF.mono {w w' : World} {F F' : Nat → Prop} {p : Option Addr} {l : List ByteArray} (h : StrsF w F p l) (hF : ∀ k, F k → F' k) (hw : ∀ k, F k → w'.heap[k]? = w.heap[k]?) : StrsF w' F' p l := fun j hj => by
  obtain ⟨g, o, e1, e2, e3⟩ := h j hj
  exact ⟨g, o, e1, hF g e2, (World.cell?_of_block (a := ⟨g, o + j, none⟩) (hw g e2)).trans e3⟩
theorem IntsF.mono {w w' : World} {F F' : Nat → Prop} {p : Option Addr} {l : List Int} (h : IntsF w F p l) (hF : ∀ k, F k → F' k) (hw : ∀ k, F k → w'.heap[k]? = w.heap[k]?) : IntsF w' F' p l := fun j hj => by
  obtain ⟨g, o, e1, e2, e3⟩ := h j hj
  exact ⟨g, o, e1, hF g e2, (World.cell?_of_block (a := ⟨g, o + j, none⟩) (hw g e2)).trans e3⟩
/-- 2 disks behind w0; what the fence holds is as it was in wF. -/
def E2 (w0 wF : World) (F : Nat → Prop) (w : World) (b1 : Nat) (s1 : DSt) (b2 : Nat) (s2 : DSt) : Prop :=
  ∃ v1 v2, Dk w w0.heap.size b1 v1 s1 ∧ Dk w w0.heap.size b2 v2 s2 ∧ (∀ k, Fd b1 v1 k → ¬ Fd b2 v2 k) ∧ Below w0.heap.size w0 w ∧ Sane s1 ∧ Sane s2 ∧ (∀ k, F k → k < w.heap.size ∧ ¬ Fd b1 v1 k ∧ ¬ Fd b2 v2 k ∧ w.heap[k]? = wF.heap[k]?)
theorem E2.bel {w0 wF : World} {F : Nat → Prop} {w : World} {b1 : Nat} {s1 : DSt} {b2 : Nat} {s2 : DSt} (h : E2 w0 wF F w b1 s1 b2 s2) : Below w0.heap.size w0 w := by
  obtain ⟨v1, v2, g1, g2, a12, bel, z1, z2, fe⟩ := h
  exact bel
theorem E2.below {w0 wF : World} {F : Nat → Prop} {w : World} {b1 : Nat} {s1 : DSt} {b2 : Nat} {s2 : DSt} (h : E2 w0 wF F w b1 s1 b2 s2) {w' : World} (hb : Below w.heap.size w w') : E2 w0 wF F w' b1 s1 b2 s2 := by
  obtain ⟨v1, v2, g1, g2, a12, bel, z1, z2, fe⟩ := h
  exact ⟨v1, v2, g1.below hb, g2.below hb, a12, bel.trans (hb.mono bel.size), z1, z2, fun k hk => ⟨Nat.lt_of_lt_of_le (fe k hk).1 hb.size, (fe k hk).2.1, (fe k hk).2.2.1, (hb.block k (fe k hk).1).trans (fe k hk).2.2.2⟩⟩
theorem E2.grow {w0 wF : World} {F : Nat → Prop} {w : World} {b1 : Nat} {s1 : DSt} {b2 : Nat} {s2 : DSt} (h : E2 w0 wF F w b1 s1 b2 s2) {w' : World} (hb : Below w.heap.size w w') : E2 w0 w' (fun k => F k ∨ (w.heap.size ≤ k ∧ k < w'.heap.size)) w' b1 s1 b2 s2 := by
  obtain ⟨v1, v2, g1, g2, a12, bel, z1, z2, fe⟩ := h
  refine ⟨v1, v2, g1.below hb, g2.below hb, a12, bel.trans (hb.mono bel.size), z1, z2, fun k hk => ?_⟩
  rcases hk with hk | hk
  · exact ⟨Nat.lt_of_lt_of_le (fe k hk).1 hb.size, (fe k hk).2.1, (fe k hk).2.2.1, rfl⟩
  · exact ⟨hk.2, fun q => by have := (g1.fd k q).2; omega, fun q => by have := (g2.fd k q).2; omega, rfl⟩
theorem E2.fence {w0 wF : World} {F : Nat → Prop} {w : World} {b1 : Nat} {s1 : DSt} {b2 : Nat} {s2 : DSt} (h : E2 w0 wF F w b1 s1 b2 s2) (k : Nat) (hk : F k) : k < w.heap.size := by
  obtain ⟨v1, v2, g1, g2, a12, bel, z1, z2, fe⟩ := h
  exact (fe k hk).1
theorem E2.strs {w0 wF : World} {F : Nat → Prop} {w : World} {b1 : Nat} {s1 : DSt} {b2 : Nat} {s2 : DSt} (h : E2 w0 wF F w b1 s1 b2 s2) {p : Option Addr} {l : List ByteArray} (hs : StrsF wF F p l) : Strs w p l := fun j hj => by
  obtain ⟨v1, v2, g1, g2, a12, bel, z1, z2, fe⟩ := h
  obtain ⟨g, o, e1, e2, e3⟩ := hs j hj
  exact ⟨g, o, e1, (fe g e2).1, (World.cell?_of_block (a := ⟨g, o + j, none⟩) (fe g e2).2.2.2).trans e3⟩
theorem E2.ints {w0 wF : World} {F : Nat → Prop} {w : World} {b1 : Nat} {s1 : DSt} {b2 : Nat} {s2 : DSt} (h : E2 w0 wF F w b1 s1 b2 s2) {p : Option Addr} {l : List Int} (hs : IntsF wF F p l) : Ints w p l := fun j hj => by
  obtain ⟨v1, v2, g1, g2, a12, bel, z1, z2, fe⟩ := h
  obtain ⟨g, o, e1, e2, e3⟩ := hs j hj
  exact ⟨g, o, e1, (fe g e2).1, (World.cell?_of_block (a := ⟨g, o + j, none⟩) (fe g e2).2.2.2).trans e3⟩
theorem E2.rot {w0 wF : World} {F : Nat → Prop} {w : World} {b1 : Nat} {s1 : DSt} {b2 : Nat} {s2 : DSt} (h : E2 w0 wF F w b1 s1 b2 s2) : E2 w0 wF F w b2 s2 b1 s1 := by
  obtain ⟨v1, v2, g1, g2, a12, bel, z1, z2, fe⟩ := h
  exact ⟨v2, v1, g2, g1, fun k hk hk' => a12 k hk' hk, bel, z2, z1, fun k hk => ⟨(fe k hk).1, (fe k hk).2.2.1, (fe k hk).2.1, (fe k hk).2.2.2⟩⟩
theorem E2.step {w0 wF : World} {F : Nat → Prop} {w w' : World} {b1 : Nat} {s1 : DSt} {b2 : Nat} {s2 : DSt} {s : DSt} {v1 v2 : DV} (g1 : Dk w w0.heap.size b1 v1 s1) (g2 : Dk w w0.heap.size b2 v2 s2) (a12 : ∀ k, Fd b1 v1 k → ¬ Fd b2 v2 k) (bel : Below w0.heap.size w0 w) (z2 : Sane s2) (fe : ∀ k, F k → k < w.heap.size ∧ ¬ Fd b1 v1 k ∧ ¬ Fd b2 v2 k ∧ w.heap[k]? = wF.heap[k]?)
    (hp : DPost w0.heap.size b1 v1 s w w') (hs : Sane s) : E2 w0 wF F w' b1 s b2 s2 := by
  obtain ⟨u, k1, k2, k3⟩ := hp
  have new : ∀ k, k < w.heap.size → ¬ Fd b1 v1 k → ¬ Fd b1 u k := fun k hk hn q => by
    rcases k3 k q with q | q
    · exact hn q
    · omega
  refine ⟨u, v2, k1, g2.only k2 (fun k hk hk' => a12 k hk' hk), fun k hk hk' => new k (g2.fd k hk').2 (fun q => a12 k q hk') hk, DI.only g1 bel k2, hs, z2, fun k hk => ?_⟩
  exact ⟨Nat.lt_of_lt_of_le (fe k hk).1 k2.size, new k (fe k hk).1 (fe k hk).2.1, (fe k hk).2.2.1, (k2.2 k (fe k hk).1 (fe k hk).2.1).trans (fe k hk).2.2.2⟩
theorem write2 {w0 wF : World} {F : Nat → Prop} {w : World} {b1 : Nat} {s1 : DSt} {b2 : Nat} {s2 : DSt} (h : E2 w0 wF F w b1 s1 b2 s2) (hp : s1.pend.length ≤ 1000000000) (ha : s1.acts.length ≤ 1000000000) (i : Int) (t : ByteArray) :
    Calls Try.prog 13 #[.pointer (some ⟨b1, 0, none⟩), .int .i64 i, .string t] w fun e w' => e = .returned (.int .i64 (writeE s1 i t)) ∧ E2 w0 wF F w' b1 (writeS s1 i t) b2 s2 := by
  obtain ⟨v1, v2, g1, g2, a12, bel, z1, z2, fe⟩ := h
  refine (write_any w _ b1 v1 s1 g1 bel.size z1 hp ha i t).mono ?_
  rintro ev w' ⟨rfl, hP⟩
  exact ⟨rfl, E2.step g1 g2 a12 bel z2 fe hP (z1.write i t)⟩
theorem crash2 {w0 wF : World} {F : Nat → Prop} {w : World} {b1 : Nat} {s1 : DSt} {b2 : Nat} {s2 : DSt} (h : E2 w0 wF F w b1 s1 b2 s2) (hp : s1.pend.length ≤ 1000000000) (p : Option Addr) (l : List Int) (n c : Nat) (hn : n = l.length) (hl : Ints w p l) (hll : l.length ≤ 9223372036854775807) :
    Calls Try.prog 17 #[.pointer (some ⟨b1, 0, none⟩), .slice p n c] w fun e w' => e = .returned (.int .i64 (crashE s1 l)) ∧ E2 w0 wF F w' b1 (crashS s1 l) b2 s2 := by
  subst hn
  obtain ⟨v1, v2, g1, g2, a12, bel, z1, z2, fe⟩ := h
  refine (crash_any w _ b1 v1 s1 g1 bel.size z1 hp p l c hl hll).mono ?_
  rintro ev w' ⟨rfl, hP⟩
  exact ⟨rfl, E2.step g1 g2 a12 bel z2 fe hP (z1.crash l)⟩
theorem read2 {w0 wF : World} {F : Nat → Prop} {w : World} {b1 : Nat} {s1 : DSt} {b2 : Nat} {s2 : DSt} (h : E2 w0 wF F w b1 s1 b2 s2) (i : Int) :
    Calls Try.prog 16 #[.pointer (some ⟨b1, 0, none⟩), .int .i64 i] w fun e w' => e = .returned (.tuple #[.string (readT s1 i), .int .i64 (readE s1 i)]) ∧ w' = w := by
  obtain ⟨v1, v2, g1, g2, a12, bel, z1, z2, fe⟩ := h
  exact read_any w _ b1 v1 s1 g1 z1.same i
theorem pending2 {w0 wF : World} {F : Nat → Prop} {w : World} {b1 : Nat} {s1 : DSt} {b2 : Nat} {s2 : DSt} (h : E2 w0 wF F w b1 s1 b2 s2) :
    Calls Try.prog 18 #[.pointer (some ⟨b1, 0, none⟩)] w fun e w' => e = .returned (.int .i64 (s1.pend.length : Int)) ∧ w' = w := by
  obtain ⟨v1, v2, g1, g2, a12, bel, z1, z2, fe⟩ := h
  exact pending_any w _ b1 v1 s1 g1
theorem size2 {w0 wF : World} {F : Nat → Prop} {w : World} {b1 : Nat} {s1 : DSt} {b2 : Nat} {s2 : DSt} (h : E2 w0 wF F w b1 s1 b2 s2) :
    Calls Try.prog 23 #[.pointer (some ⟨b1, 0, none⟩)] w fun e w' => e = .returned (.int .i64 (s1.last.length : Int)) ∧ w' = w := by
  obtain ⟨v1, v2, g1, g2, a12, bel, z1, z2, fe⟩ := h
  exact size_any w _ b1 v1 s1 g1
theorem trace2 {w0 wF : World} {F : Nat → Prop} {w : World} {b1 : Nat} {s1 : DSt} {b2 : Nat} {s2 : DSt} (h : E2 w0 wF F w b1 s1 b2 s2) (ha : s1.acts.length ≤ 1000000000) :
    Calls Try.prog 9 #[.pointer (some ⟨b1, 0, none⟩)] w fun e w' => e = .returned (.slice (some ⟨w.heap.size, 0, none⟩) s1.acts.length s1.acts.length) ∧ Blk w' w.heap.size (tels s1.acts).toArray 53 ∧ E2 w0 wF F w' b1 s1 b2 s2 ∧ Below w.heap.size w w' := by
  have h' := h
  obtain ⟨v1, v2, g1, g2, a12, bel, z1, z2, fe⟩ := h
  refine (trace_any w _ b1 v1 s1 g1 ha z1.acts).mono ?_
  rintro ev w' ⟨rfl, k1, k2⟩
  exact ⟨rfl, k1, h'.below k2, k2⟩
theorem all2 {w0 wF : World} {F : Nat → Prop} {w : World} {b1 : Nat} {s1 : DSt} {b2 : Nat} {s2 : DSt} (h : E2 w0 wF F w b1 s1 b2 s2) (hd : s1.dead = false) :
    Calls Try.prog 19 #[.pointer (some ⟨b1, 0, none⟩)] w fun e w' => ∃ p c, e = .returned (.slice p s1.now.length c) ∧ StrsF w' (fun k => F k ∨ (w.heap.size ≤ k ∧ k < w'.heap.size)) p s1.now ∧ E2 w0 w' (fun k => F k ∨ (w.heap.size ≤ k ∧ k < w'.heap.size)) w' b1 s1 b2 s2 ∧ Below w.heap.size w w' := by
  have h' := h
  obtain ⟨v1, v2, g1, g2, a12, bel, z1, z2, fe⟩ := h
  refine (all_new w _ b1 v1 s1 g1 z1 hd).mono ?_
  rintro ev w' ⟨p, c, rfl, k1, k2⟩
  exact ⟨p, c, rfl, fun j hj => by obtain ⟨g, o, q1, q2, q3, q4⟩ := k1 j hj; exact ⟨g, o, q1, .inr ⟨q2, q3⟩, q4⟩, h'.grow k2, k2⟩
theorem image2 {w0 wF : World} {F : Nat → Prop} {w : World} {b1 : Nat} {s1 : DSt} {b2 : Nat} {s2 : DSt} (h : E2 w0 wF F w b1 s1 b2 s2) :
    Calls Try.prog 20 #[.pointer (some ⟨b1, 0, none⟩)] w fun e w' => ∃ p c, e = .returned (.slice p s1.last.length c) ∧ StrsF w' (fun k => F k ∨ (w.heap.size ≤ k ∧ k < w'.heap.size)) p s1.last ∧ E2 w0 w' (fun k => F k ∨ (w.heap.size ≤ k ∧ k < w'.heap.size)) w' b1 s1 b2 s2 ∧ Below w.heap.size w w' := by
  have h' := h
  obtain ⟨v1, v2, g1, g2, a12, bel, z1, z2, fe⟩ := h
  refine (image_any w _ b1 v1 s1 g1 z1.pos z1.cap).mono ?_
  rintro ev w' ⟨v', rfl, k1, k2⟩
  obtain ⟨p, c, rfl, k3⟩ := Strs.ownB k1
  exact ⟨p, c, rfl, fun j hj => by obtain ⟨g, o, q1, q2, q3, q4⟩ := k3 j hj; exact ⟨g, o, q1, .inr ⟨q2, q3⟩, q4⟩, h'.grow k2, k2⟩
theorem E2.mk2 {w x1 x2 : World} {b b' : Nat} {s s' : DSt} (h1 : DI w x1 b s) (h2 : DI x1 x2 b' s') : E2 w x2 (fun _ => False) x2 b s b' s' := by
  obtain ⟨v, g1, g2, g3⟩ := h1
  obtain ⟨v', k1, k2, k3⟩ := h2
  exact ⟨v, v', g1.below k2, k1.base g2.size, fun k hk hk' => by have := (g1.fd k hk).2; have := (k1.fd k hk').1; omega, g2.trans (k2.mono g2.size), g3, k3, fun k hk => hk.elim⟩
end Go.Proofs.Ytaedoagcbkgmbaa
