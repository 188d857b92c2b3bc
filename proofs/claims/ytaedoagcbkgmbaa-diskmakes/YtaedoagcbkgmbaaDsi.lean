import Derived.Test.YtaedoagcbkgmbaaDst
import Derived.Test.YtaedoagcbkgmbaaSec
namespace Go.Proofs.Ytaedoagcbkgmbaa
open Go.RowKit
theorem Dk.fd {w : World} {base b : Nat} {v : DV} {s : DSt} (h : Dk w base b v s) (k : Nat) (hk : Fd b v k) : base ≤ k ∧ k < w.heap.size := by
  rcases hk with rfl | hk | hk | hk | hk
  · exact ⟨h.lo, h.blk.lt⟩
  · exact h.rl.lt k hk
  · exact h.rn.lt k hk
  · exact h.rp.lt k hk
  · exact h.ra.lt k hk
theorem Sane.write {s : DSt} (h : Sane s) (i : Int) (t : ByteArray) : Sane (writeS s i t) := by
  unfold writeS
  split
  · rename_i hi
    split
    · split
      · exact h.dies
      · have hj : i.toNat < s.last.length := by have := hi.1; have := hi.2; omega
        refine ⟨?_, ?_, ?_, ?_, ?_, ?_⟩
        · show 0 < (diesS s).last.length; rw [diesS_last]; exact h.pos
        · show (diesS s).last.length ≤ 1024; rw [diesS_last]; exact h.cap
        · show (s.now.set i.toNat t).length = (diesS s).last.length; rw [diesS_last, List.length_set]; exact h.same
        · intro p hp
          show p.1 < (diesS s).last.length
          rw [diesS_last]
          rcases List.mem_append.1 hp with hp | hp
          · exact h.pend p hp
          · simp at hp; subst hp; exact hj
        · exact (diesS_fuse s h.fuse)
        · intro p hp
          rcases List.mem_append.1 hp with hp | hp
          · exact h.acts p hp
          · simp at hp; subst hp; have := h.cap; show i.toNat < 1024; omega
    · exact h
  · exact h
theorem Sane.flush {s : DSt} (h : Sane s) : Sane (flushS s) := by
  unfold flushS
  split
  · exact h.dies
  · refine ⟨?_, ?_, ?_, ?_, diesS_fuse s h.fuse, ?_⟩
    · show 0 < (layP s.last s.pend).length; rw [layP_len]; exact h.pos
    · show (layP s.last s.pend).length ≤ 1024; rw [layP_len]; exact h.cap
    · show (diesS s).now.length = (layP s.last s.pend).length; rw [layP_len, diesS_now]; exact h.same
    · intro p hp; cases hp
    · intro p hp
      rcases List.mem_append.1 hp with hp | hp
      · exact h.acts p hp
      · simp at hp; subst hp; decide
theorem Sane.arm {s : DSt} (h : Sane s) (n : Int) (hn : n ≤ 9223372036854775807) : Sane (armS s n) := by
  unfold armS
  split
  · exact h
  · split
    · exact h
    · exact ⟨h.pos, h.cap, h.same, h.pend, ⟨by show 0 ≤ n; omega, hn⟩, h.acts⟩
theorem Sane.crash {s : DSt} (h : Sane s) (l : List Int) : Sane (crashS s l) := by
  unfold crashS
  split
  · refine ⟨?_, ?_, rfl, ?_, ?_, h.acts⟩
    · show 0 < (layP s.last _).length; rw [layP_len]; exact h.pos
    · show (layP s.last _).length ≤ 1024; rw [layP_len]; exact h.cap
    · intro p hp; cases hp
    · exact ⟨show (0 : Int) ≤ 0 by decide, show (0 : Int) ≤ 9223372036854775807 by decide⟩
  · exact h
theorem Sane.fresh (l : List ByteArray) (h1 : 0 < l.length) (h2 : l.length ≤ 1024) : Sane (freshS l) :=
  ⟨h1, h2, rfl, fun p hp => (by cases hp), ⟨show (0 : Int) ≤ 0 by decide, show (0 : Int) ≤ 9223372036854775807 by decide⟩, fun p hp => (by cases hp)⟩
/-- A disk that was made behind w0, and nothing else of what w0 had has changed. -/
def DI (w0 w : World) (b : Nat) (s : DSt) : Prop := ∃ v, Dk w w0.heap.size b v s ∧ Below w0.heap.size w0 w ∧ Sane s
theorem DI.below {w0 w w' : World} {b : Nat} {s : DSt} (h : DI w0 w b s) (hb : Below w.heap.size w w') : DI w0 w' b s := by
  obtain ⟨v, h1, h2, h3⟩ := h
  exact ⟨v, h1.below hb, h2.trans (hb.mono h2.size), h3⟩
theorem DI.drew {w0 w : World} {b : Nat} {s : DSt} (h : DI w0 w b s) : DI w0 w.drew b s := h.below ((Below.refl _ w).drew)
theorem DI.size {w0 w : World} {b : Nat} {s : DSt} (h : DI w0 w b s) : w0.heap.size ≤ w.heap.size := by
  obtain ⟨v, h1, h2, h3⟩ := h
  exact h2.size
theorem DI.bel {w0 w : World} {b : Nat} {s : DSt} (h : DI w0 w b s) : Below w0.heap.size w0 w := by
  obtain ⟨v, h1, h2, h3⟩ := h
  exact h2
theorem DI.sane {w0 w : World} {b : Nat} {s : DSt} (h : DI w0 w b s) : Sane s := by
  obtain ⟨v, h1, h2, h3⟩ := h
  exact h3
theorem DI.only {w0 w w' : World} {b : Nat} {v : DV} {s : DSt} (h1 : Dk w w0.heap.size b v s) (h2 : Below w0.heap.size w0 w) (ho : Only (Fd b v) w w') : Below w0.heap.size w0 w' :=
  h2.trans (ho.below h2.size (fun k hk q => by have := (h1.fd k q).1; omega))
theorem writeD {w0 w : World} {b : Nat} {s : DSt} (h : DI w0 w b s) (hp : s.pend.length ≤ 1000000000) (ha : s.acts.length ≤ 1000000000) (i : Int) (t : ByteArray) :
    Calls Try.prog 13 #[.pointer (some ⟨b, 0, none⟩), .int .i64 i, .string t] w fun e w' => e = .returned (.int .i64 (writeE s i t)) ∧ DI w0 w' b (writeS s i t) := by
  obtain ⟨v, h1, h2, h3⟩ := h
  refine (write_any w _ b v s h1 h2.size h3 hp ha i t).mono ?_
  rintro ev w' ⟨rfl, v', g1, g2, _⟩
  exact ⟨rfl, v', g1, DI.only h1 h2 g2, h3.write i t⟩
theorem flushD {w0 w : World} {b : Nat} {s : DSt} (h : DI w0 w b s) (hp : s.pend.length ≤ 1000000000) (ha : s.acts.length ≤ 1000000000) :
    Calls Try.prog 12 #[.pointer (some ⟨b, 0, none⟩)] w fun e w' => e = .returned (.int .i64 (flushE s)) ∧ DI w0 w' b (flushS s) := by
  obtain ⟨v, h1, h2, h3⟩ := h
  refine (flush_any w _ b v s h1 h2.size h3 hp ha).mono ?_
  rintro ev w' ⟨rfl, v', g1, g2, _⟩
  exact ⟨rfl, v', g1, DI.only h1 h2 g2, h3.flush⟩
theorem armD {w0 w : World} {b : Nat} {s : DSt} (h : DI w0 w b s) (n : Int) (hn : n ≤ 9223372036854775807) :
    Calls Try.prog 11 #[.pointer (some ⟨b, 0, none⟩), .int .i64 n] w fun e w' => e = .returned (.int .i64 (armE s n)) ∧ DI w0 w' b (armS s n) := by
  obtain ⟨v, h1, h2, h3⟩ := h
  refine (arm_any w _ b v s h1 n).mono ?_
  rintro ev w' ⟨rfl, g1, g2⟩
  exact ⟨rfl, v, g1, DI.only h1 h2 g2, h3.arm n hn⟩
theorem crashD {w0 w : World} {b : Nat} {s : DSt} (h : DI w0 w b s) (hp : s.pend.length ≤ 1000000000) (p : Option Addr) (l : List Int) (n c : Nat) (hn : n = l.length) (hl : Ints w p l) (hll : l.length ≤ 9223372036854775807) :
    Calls Try.prog 17 #[.pointer (some ⟨b, 0, none⟩), .slice p n c] w fun e w' => e = .returned (.int .i64 (crashE s l)) ∧ DI w0 w' b (crashS s l) := by
  subst hn
  obtain ⟨v, h1, h2, h3⟩ := h
  refine (crash_any w _ b v s h1 h2.size h3 hp p l c hl hll).mono ?_
  rintro ev w' ⟨rfl, v', g1, g2, _⟩
  exact ⟨rfl, v', g1, DI.only h1 h2 g2, h3.crash l⟩
theorem readD {w0 w : World} {b : Nat} {s : DSt} (h : DI w0 w b s) (i : Int) :
    Calls Try.prog 16 #[.pointer (some ⟨b, 0, none⟩), .int .i64 i] w fun e w' => e = .returned (.tuple #[.string (readT s i), .int .i64 (readE s i)]) ∧ w' = w := by
  obtain ⟨v, h1, h2, h3⟩ := h
  exact read_any w _ b v s h1 h3.same i
theorem deadD {w0 w : World} {b : Nat} {s : DSt} (h : DI w0 w b s) :
    Calls Try.prog 15 #[.pointer (some ⟨b, 0, none⟩)] w fun e w' => e = .returned (.bool s.dead) ∧ w' = w := by
  obtain ⟨v, h1, h2, h3⟩ := h
  exact dead_any w _ b v s h1
theorem pendingD {w0 w : World} {b : Nat} {s : DSt} (h : DI w0 w b s) :
    Calls Try.prog 18 #[.pointer (some ⟨b, 0, none⟩)] w fun e w' => e = .returned (.int .i64 (s.pend.length : Int)) ∧ w' = w := by
  obtain ⟨v, h1, h2, h3⟩ := h
  exact pending_any w _ b v s h1
theorem sizeD {w0 w : World} {b : Nat} {s : DSt} (h : DI w0 w b s) :
    Calls Try.prog 23 #[.pointer (some ⟨b, 0, none⟩)] w fun e w' => e = .returned (.int .i64 (s.last.length : Int)) ∧ w' = w := by
  obtain ⟨v, h1, h2, h3⟩ := h
  exact size_any w _ b v s h1
theorem traceD {w0 w : World} {b : Nat} {s : DSt} (h : DI w0 w b s) (ha : s.acts.length ≤ 1000000000) :
    Calls Try.prog 9 #[.pointer (some ⟨b, 0, none⟩)] w fun e w' => e = .returned (.slice (some ⟨w.heap.size, 0, none⟩) s.acts.length s.acts.length) ∧ Blk w' w.heap.size (tels s.acts).toArray 53 ∧ DI w0 w' b s ∧ Below w.heap.size w w' := by
  have h' := h
  obtain ⟨v, h1, h2, h3⟩ := h
  refine (trace_any w _ b v s h1 ha h3.acts).mono ?_
  rintro ev w' ⟨rfl, g1, g2⟩
  exact ⟨rfl, g1, h'.below g2, g2⟩
/-- A disk that lives and is not armed. -/
def Alive (s : DSt) : Prop := s.fuse = 0 ∧ s.dead = false
theorem Alive.dies {s : DSt} (h : Alive s) : diesS s = s := by rw [diesS, if_neg (by rw [h.1]; decide)]
theorem writeA {s : DSt} (h : Alive s) (j : Nat) (hj : j < s.last.length) (t : ByteArray) (ht : t.size = 256) : writeE s (j : Int) t = 0 ∧ writeS s (j : Int) t = { s with now := s.now.set j t, pend := s.pend ++ [(j, t)], acts := s.acts ++ [(0, j)] } := by
  have hi : isOk s (j : Int) := ⟨by omega, by omega⟩
  have hd : ¬ (diesS s).dead = true := by rw [h.dies, h.2]; decide
  rw [writeE, writeS, if_pos hi, if_pos hi, if_pos ht, if_pos ht, if_neg hd, if_neg hd, h.dies, Int.toNat_natCast]
  exact ⟨rfl, rfl⟩
theorem flushA {s : DSt} (h : Alive s) : flushE s = 0 ∧ flushS s = { s with last := layP s.last s.pend, pend := [], acts := s.acts ++ [(1, 0)] } := by
  have hd : ¬ (diesS s).dead = true := by rw [h.dies, h.2]; decide
  rw [flushE, flushS, if_neg hd, if_neg hd, h.dies]
  exact ⟨rfl, rfl⟩
theorem readA {s : DSt} (h : Alive s) (j : Nat) (hj : j < s.last.length) : readE s (j : Int) = 0 ∧ readT s (j : Int) = s.now.getD j ByteArray.empty := by
  have hi : isOk s (j : Int) := ⟨by omega, by omega⟩
  have hd : ¬ s.dead = true := by rw [h.2]; decide
  rw [readE, readT, if_pos hi, if_pos hi, if_neg hd, if_neg hd, Int.toNat_natCast]
  exact ⟨rfl, rfl⟩
theorem keepP_none : ∀ (l : List (Nat × ByteArray)), keepP l (List.replicate l.length false) = []
  | [] => rfl
  | p :: r => by simp [List.replicate_succ, keepP, keepP_none r]
theorem crash_nil (s : DSt) : crashE s [] = 0 ∧ crashS s [] = { s with last := s.last, now := s.last, pend := [], fuse := 0, dead := false } := by
  have h : ∀ z ∈ ([] : List Int), pickOk s.pend.length z := fun z hz => by cases hz
  rw [crashE, crashS, if_pos h, if_pos h, keptL_nil, keepP_none]
  exact ⟨rfl, rfl⟩
theorem Ints.nil (w : World) (p : Option Addr) : Ints w p [] := fun j hj => by cases hj
end Go.Proofs.Ytaedoagcbkgmbaa
