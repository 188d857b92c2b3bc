import Derived.Test.YtkkndlkelpdehaaGreatDoorMr04
import Derived.Test.YtkkndlkelpdehaaGreatDoorMr00
import Derived.Laws.CopyOwn
namespace Go.Proofs.YtkkndlkelpdehaaGreatDoor
open Go.RowKit
theorem Dk.fd {w : World} {base b : Nat} {v : DV} {s : DSt} (h : Dk w base b v s) (k : Nat) (hk : Fd b v k) : base ≤ k ∧ k < w.heap.size := by
  rcases hk with rfl | hk | hk | hk | hk
  · exact ⟨h.lo, h.blk.lt⟩
  · exact h.rl.lt k hk
  · exact h.rn.lt k hk
  · exact h.rp.lt k hk
  · exact h.ra.lt k hk
theorem Sane.write {s : DSt} (h : Sane s) (i : Int) (t : ByteArray) : Sane (writeS s i t) := by
  unfold writeS
  split
  · rename_i hi
    split
    · split
      · exact h.dies
      · have hj : i.toNat < s.last.length := by have := hi.1; have := hi.2; omega
        refine ⟨?_, ?_, ?_, ?_, ?_, ?_⟩
        · show 0 < (diesS s).last.length; rw [diesS_last]; exact h.pos
        · show (diesS s).last.length ≤ 1024; rw [diesS_last]; exact h.cap
        · show (s.now.set i.toNat t).length = (diesS s).last.length; rw [diesS_last, List.length_set]; exact h.same
        · intro p hp
          show p.1 < (diesS s).last.length
          rw [diesS_last]
          rcases List.mem_append.1 hp with hp | hp
          · exact h.pend p hp
          · simp at hp; subst hp; exact hj
        · exact (diesS_fuse s h.fuse)
        · intro p hp
          rcases List.mem_append.1 hp with hp | hp
          · exact h.acts p hp
          · simp at hp; subst hp; have := h.cap; show i.toNat < 1024; omega
    · exact h
  · exact h
theorem Sane.flush {s : DSt} (h : Sane s) : Sane (flushS s) := by
  unfold flushS
  split
  · exact h.dies
  · refine ⟨?_, ?_, ?_, ?_, diesS_fuse s h.fuse, ?_⟩
    · show 0 < (layP s.last s.pend).length; rw [layP_len]; exact h.pos
    · show (layP s.last s.pend).length ≤ 1024; rw [layP_len]; exact h.cap
    · show (diesS s).now.length = (layP s.last s.pend).length; rw [layP_len, diesS_now]; exact h.same
    · intro p hp; cases hp
    · intro p hp
      rcases List.mem_append.1 hp with hp | hp
      · exact h.acts p hp
      · simp at hp; subst hp; decide
theorem Sane.arm {s : DSt} (h : Sane s) (n : Int) (hn : n ≤ 9223372036854775807) : Sane (armS s n) := by
  unfold armS
  split
  · exact h
  · split
    · exact h
    · exact ⟨h.pos, h.cap, h.same, h.pend, ⟨by show 0 ≤ n; omega, hn⟩, h.acts⟩
theorem Sane.crash {s : DSt} (h : Sane s) (l : List Int) : Sane (crashS s l) := by
  unfold crashS
  split
  · refine ⟨?_, ?_, rfl, ?_, ?_, h.acts⟩
    · show 0 < (layP s.last _).length; rw [layP_len]; exact h.pos
    · show (layP s.last _).length ≤ 1024; rw [layP_len]; exact h.cap
    · intro p hp; cases hp
    · exact ⟨show (0 : Int) ≤ 0 by decide, show (0 : Int) ≤ 9223372036854775807 by decide⟩
  · exact h
theorem Sane.fresh (l : List ByteArray) (h1 : 0 < l.length) (h2 : l.length ≤ 1024) : Sane (freshS l) :=
  ⟨h1, h2, rfl, fun p hp => (by cases hp), ⟨show (0 : Int) ≤ 0 by decide, show (0 : Int) ≤ 9223372036854775807 by decide⟩, fun p hp => (by cases hp)⟩
/-- A disk that was made behind w0, and nothing else of what w0 had has changed. -/
def DI (w0 w : World) (b : Nat) (s : DSt) : Prop := ∃ v, Dk w w0.heap.size b v s ∧ Below w0.heap.size w0 w ∧ Sane s
theorem DI.below {w0 w w' : World} {b : Nat} {s : DSt} (h : DI w0 w b s) (hb : Below w.heap.size w w') : DI w0 w' b s := by
  obtain ⟨v, h1, h2, h3⟩ := h
  exact ⟨v, h1.below hb, h2.trans (hb.mono h2.size), h3⟩
theorem DI.drew {w0 w : World} {b : Nat} {s : DSt} (h : DI w0 w b s) : DI w0 w.drew b s := h.below ((Below.refl _ w).drew)
theorem DI.size {w0 w : World} {b : Nat} {s : DSt} (h : DI w0 w b s) : w0.heap.size ≤ w.heap.size := by
  obtain ⟨v, h1, h2, h3⟩ := h
  exact h2.size
theorem DI.bel {w0 w : World} {b : Nat} {s : DSt} (h : DI w0 w b s) : Below w0.heap.size w0 w := by
  obtain ⟨v, h1, h2, h3⟩ := h
  exact h2
theorem DI.sane {w0 w : World} {b : Nat} {s : DSt} (h : DI w0 w b s) : Sane s := by
  obtain ⟨v, h1, h2, h3⟩ := h
  exact h3
theorem DI.only {w0 w w' : World} {b : Nat} {v : DV} {s : DSt} (h1 : Dk w w0.heap.size b v s) (h2 : Below w0.heap.size w0 w) (ho : Only (Fd b v) w w') : Below w0.heap.size w0 w' :=
  h2.trans (ho.below h2.size (fun k hk q => by have := (h1.fd k q).1; omega))
theorem writeD {w0 w : World} {b : Nat} {s : DSt} (h : DI w0 w b s) (hp : s.pend.length ≤ 1000000000) (ha : s.acts.length ≤ 1000000000) (i : Int) (t : ByteArray) :
    Calls Tryz.prog 66 #[.pointer (some ⟨b, 0, none⟩), .int .i64 i, .string t] w fun e w' => e = .returned (.int .i64 (writeE s i t)) ∧ DI w0 w' b (writeS s i t) := by
  obtain ⟨v, h1, h2, h3⟩ := h
  refine (write_any w _ b v s h1 h2.size h3 hp ha i t).mono ?_
  rintro ev w' ⟨rfl, v', g1, g2, _⟩
  exact ⟨rfl, v', g1, DI.only h1 h2 g2, h3.write i t⟩
theorem flushD {w0 w : World} {b : Nat} {s : DSt} (h : DI w0 w b s) (hp : s.pend.length ≤ 1000000000) (ha : s.acts.length ≤ 1000000000) :
    Calls Tryz.prog 67 #[.pointer (some ⟨b, 0, none⟩)] w fun e w' => e = .returned (.int .i64 (flushE s)) ∧ DI w0 w' b (flushS s) := by
  obtain ⟨v, h1, h2, h3⟩ := h
  refine (flush_any w _ b v s h1 h2.size h3 hp ha).mono ?_
  rintro ev w' ⟨rfl, v', g1, g2, _⟩
  exact ⟨rfl, v', g1, DI.only h1 h2 g2, h3.flush⟩
theorem readD {w0 w : World} {b : Nat} {s : DSt} (h : DI w0 w b s) (i : Int) :
    Calls Tryz.prog 58 #[.pointer (some ⟨b, 0, none⟩), .int .i64 i] w fun e w' => e = .returned (.tuple #[.string (readT s i), .int .i64 (readE s i)]) ∧ w' = w := by
  obtain ⟨v, h1, h2, h3⟩ := h
  exact read_any w _ b v s h1 h3.same i
theorem sizeD {w0 w : World} {b : Nat} {s : DSt} (h : DI w0 w b s) :
    Calls Tryz.prog 49 #[.pointer (some ⟨b, 0, none⟩)] w fun e w' => e = .returned (.int .i64 (s.last.length : Int)) ∧ w' = w := by
  obtain ⟨v, h1, h2, h3⟩ := h
  exact size_any w _ b v s h1
theorem traceD {w0 w : World} {b : Nat} {s : DSt} (h : DI w0 w b s) (ha : s.acts.length ≤ 1000000000) :
    Calls Tryz.prog 15 #[.pointer (some ⟨b, 0, none⟩)] w fun e w' => e = .returned (.slice (some ⟨w.heap.size, 0, none⟩) s.acts.length s.acts.length) ∧ Blk w' w.heap.size (tels s.acts).toArray 43 ∧ DI w0 w' b s ∧ Below w.heap.size w w' := by
  have h' := h
  obtain ⟨v, h1, h2, h3⟩ := h
  refine (trace_any w _ b v s h1 ha h3.acts).mono ?_
  rintro ev w' ⟨rfl, g1, g2⟩
  exact ⟨rfl, g1, h'.below g2, g2⟩
/-- A disk that lives and is not armed. -/
def Alive (s : DSt) : Prop := s.fuse = 0 ∧ s.dead = false
theorem Alive.dies {s : DSt} (h : Alive s) : diesS s = s := by rw [diesS, if_neg (by rw [h.1]; decide)]
theorem writeA {s : DSt} (h : Alive s) (j : Nat) (hj : j < s.last.length) (t : ByteArray) (ht : t.size = 256) : writeE s (j : Int) t = 0 ∧ writeS s (j : Int) t = { s with now := s.now.set j t, pend := s.pend ++ [(j, t)], acts := s.acts ++ [(0, j)] } := by
  have hi : isOk s (j : Int) := ⟨by omega, by omega⟩
  have hd : ¬ (diesS s).dead = true := by rw [h.dies, h.2]; decide
  rw [writeE, writeS, if_pos hi, if_pos hi, if_pos ht, if_pos ht, if_neg hd, if_neg hd, h.dies, Int.toNat_natCast]
  exact ⟨rfl, rfl⟩
theorem flushA {s : DSt} (h : Alive s) : flushE s = 0 ∧ flushS s = { s with last := layP s.last s.pend, pend := [], acts := s.acts ++ [(1, 0)] } := by
  have hd : ¬ (diesS s).dead = true := by rw [h.dies, h.2]; decide
  rw [flushE, flushS, if_neg hd, if_neg hd, h.dies]
  exact ⟨rfl, rfl⟩
theorem readA {s : DSt} (h : Alive s) (j : Nat) (hj : j < s.last.length) : readE s (j : Int) = 0 ∧ readT s (j : Int) = s.now.getD j ByteArray.empty := by
  have hi : isOk s (j : Int) := ⟨by omega, by omega⟩
  have hd : ¬ s.dead = true := by rw [h.2]; decide
  rw [readE, readT, if_pos hi, if_pos hi, if_neg hd, if_neg hd, Int.toNat_natCast]
  exact ⟨rfl, rfl⟩
theorem keepP_none : ∀ (l : List (Nat × ByteArray)), keepP l (List.replicate l.length false) = []
  | [] => rfl
  | p :: r => by simp [List.replicate_succ, keepP, keepP_none r]
theorem crash_nil (s : DSt) : crashE s [] = 0 ∧ crashS s [] = { s with last := s.last, now := s.last, pend := [], fuse := 0, dead := false } := by
  have h : ∀ z ∈ ([] : List Int), pickOk s.pend.length z := fun z hz => by cases hz
  rw [crashE, crashS, if_pos h, if_pos h, keptL_nil, keepP_none]
  exact ⟨rfl, rfl⟩
theorem Ints.nil (w : World) (p : Option Addr) : Ints w p [] := fun j hj => by cases hj
end Go.Proofs.YtkkndlkelpdehaaGreatDoor

namespace Go.Proofs.YtkkndlkelpdehaaGreatDoor
open Go.RowKit
theorem zero256_size : zero256.size = 256 := by
  show (List.replicate 256 (0 : UInt8)).toArray.size = 256
  rw [List.size_toArray, List.length_replicate]
theorem new128 (w : World) : Calls Tryz.prog 17 #[.int .i64 128] w fun e w' => ∃ b, e = .returned (.tuple #[.pointer (some ⟨b, 0, none⟩), .int .i64 0]) ∧ DI w w' b (freshS (List.replicate 128 zero256)) := by
  refine (new_any 128 w).mono ?_
  intro e w' h
  rw [NewPost, if_pos (by decide)] at h
  obtain ⟨b, v, h1, h2, h3⟩ := h
  exact ⟨b, h1, v, h2, h3, Sane.fresh _ (by rw [List.length_replicate]; decide) (by rw [List.length_replicate]; decide)⟩
theorem getD_set_same (l : List ByteArray) (j : Nat) (t : ByteArray) (h : j < l.length) : (l.set j t).getD j ByteArray.empty = t := by simp [h]
theorem getD_set_other (l : List ByteArray) (j k : Nat) (t : ByteArray) (h : j ≠ k) : (l.set j t).getD k ByteArray.empty = l.getD k ByteArray.empty := by simp [h]
theorem known_states (L : List ByteArray) (hL : L.length = 128) (T1 T2 : ByteArray) (h1 : T1.size = 256) (h2 : T2.size = 256) :
    ∃ s2 s3 s4 s5, writeE (freshS L) 1 T1 = 0 ∧ writeS (freshS L) 1 T1 = s2 ∧ flushE s2 = 0 ∧ flushS s2 = s3 ∧ writeE s3 1 T2 = 0 ∧ writeS s3 1 T2 = s4 ∧ readE s4 1 = 0 ∧ readT s4 1 = T2 ∧ crashE s4 [] = 0 ∧ crashS s4 [] = s5 ∧ readE s5 1 = 0 ∧ readT s5 1 = T1
      ∧ s2.pend.length ≤ 10 ∧ s2.acts.length ≤ 10 ∧ s3.pend.length ≤ 10 ∧ s3.acts.length ≤ 10 ∧ s4.pend.length ≤ 10 := by
  obtain ⟨a1, a2⟩ := writeA (s := freshS L) ⟨rfl, rfl⟩ 1 (by show 1 < L.length; omega) T1 h1
  obtain ⟨b1, b2⟩ := flushA (s := { freshS L with now := L.set 1 T1, pend := [(1, T1)], acts := [(0, 1)] }) ⟨rfl, rfl⟩
  obtain ⟨c1, c2⟩ := writeA (s := ⟨L.set 1 T1, L.set 1 T1, [], [(0, 1), (1, 0)], 0, false⟩) ⟨rfl, rfl⟩ 1 (by show 1 < (L.set 1 T1).length; rw [List.length_set]; omega) T2 h2
  obtain ⟨d1, d2⟩ := readA (s := ⟨L.set 1 T1, (L.set 1 T1).set 1 T2, [(1, T2)], [(0, 1), (1, 0), (0, 1)], 0, false⟩) ⟨rfl, rfl⟩ 1 (by show 1 < (L.set 1 T1).length; rw [List.length_set]; omega)
  obtain ⟨e1, e2⟩ := crash_nil ⟨L.set 1 T1, (L.set 1 T1).set 1 T2, [(1, T2)], [(0, 1), (1, 0), (0, 1)], 0, false⟩
  obtain ⟨f1, f2⟩ := readA (s := ⟨L.set 1 T1, L.set 1 T1, [], [(0, 1), (1, 0), (0, 1)], 0, false⟩) ⟨rfl, rfl⟩ 1 (by show 1 < (L.set 1 T1).length; rw [List.length_set]; omega)
  refine ⟨_, _, _, _, a1, a2, b1, b2, c1, c2, d1, ?_, e1, e2, f1, ?_, ?_, ?_, ?_, ?_, ?_⟩
  · exact d2.trans (getD_set_same _ 1 T2 (by rw [List.length_set]; omega))
  · exact f2.trans (getD_set_same L 1 T1 (by omega))
  all_goals simp [freshS]
end Go.Proofs.YtkkndlkelpdehaaGreatDoor

namespace Go.Proofs.YtkkndlkelpdehaaGreatDoor
open Go.RowKit
abbrev Wr1 := Int × ByteArray
def wr0 : Wr1 := (0, ⟨#[]⟩)
/-- Writes that lie in memory. -/
def Wls (w : World) (p : Option Addr) (l : List Wr1) : Prop := ∀ j, j < l.length → ∃ g o, p = some ⟨g, o, none⟩ ∧ g < w.heap.size ∧ w.cell? ⟨g, o + j * 2, none⟩ = some (.int .i64 (l.getD j wr0).1) ∧ w.cell? ⟨g, o + j * 2 + 1, none⟩ = some (.string (l.getD j wr0).2)
theorem Wls.only {w w' : World} {p : Option Addr} {l : List Wr1} {P : Nat → Prop} (h : Wls w p l) (ho : Only P w w') (hp : ∀ g o, p = some ⟨g, o, none⟩ → ¬ P g) : Wls w' p l := fun j hj => by
  obtain ⟨g, o, e, h1, h2, h3⟩ := h j hj
  have q := ho.2 g h1 (hp g o e)
  exact ⟨g, o, e, Nat.lt_of_lt_of_le h1 ho.size, (World.cell?_of_block (a := ⟨g, o + j * 2, none⟩) q).trans h2, (World.cell?_of_block (a := ⟨g, o + j * 2 + 1, none⟩) q).trans h3⟩
theorem Wls.below {w w' : World} {p : Option Addr} {l : List Wr1} (h : Wls w p l) (hb : Below w.heap.size w w') : Wls w' p l := h.only (Only.of_below (P := fun _ => False) hb) (fun _ _ _ q => q)
theorem Wls.nil (w : World) (p : Option Addr) : Wls w p [] := fun j hj => by cases hj
theorem DPost.belowR {w w1 w2 : World} {base b : Nat} {v : DV} {s : DSt} (h : DPost base b v s w w1) (hb : Below w1.heap.size w1 w2) : DPost base b v s w w2 := by
  obtain ⟨v1, h1, h2, h3⟩ := h
  exact ⟨v1, h1.below hb, h2.trans (Only.of_below (P := fun _ => False) hb) (fun _ _ q => q.elim), h3⟩
theorem DPost.belowL {w w1 w2 : World} {base b : Nat} {v : DV} {s : DSt} (hb : Below w.heap.size w w1) (h : DPost base b v s w1 w2) : DPost base b v s w w2 := by
  obtain ⟨v1, h1, h2, h3⟩ := h
  refine ⟨v1, h1, (Only.of_below (P := fun _ => False) hb |>.mono (fun _ _ q => q.elim)).trans h2 (fun _ _ q => q), fun k hk => ?_⟩
  rcases h3 k hk with q | q
  · exact .inl q
  · have := hb.size
    exact .inr (by omega)
theorem DPost.size {w w1 : World} {base b : Nat} {v : DV} {s : DSt} (h : DPost base b v s w w1) : w.heap.size ≤ w1.heap.size := by
  obtain ⟨v1, h1, h2, h3⟩ := h
  exact h2.size
theorem DPost.onlyW {w w1 : World} {base b : Nat} {v : DV} {s : DSt} (h : DPost base b v s w w1) : Only (Fd b v) w w1 := by
  obtain ⟨v1, h1, h2, h3⟩ := h
  exact h2
theorem pend_grow (s : DSt) (i : Int) (t : ByteArray) : (writeS s i t).pend.length ≤ s.pend.length + 1 := by
  unfold writeS
  split
  · split
    · split
      · rw [diesS_pend]; omega
      · simp
    · omega
  · omega
theorem acts_grow (s : DSt) (i : Int) (t : ByteArray) : (writeS s i t).acts.length ≤ s.acts.length + 1 := by
  unfold writeS
  split
  · split
    · split
      · rw [diesS_acts]; omega
      · simp
    · omega
  · omega
/-- Sectors are written from the first to the last, and flushed. -/
def layR : DSt → List Wr1 → Int × DSt
  | s, [] => (flushE s, flushS s)
  | s, p :: r => if writeE s p.1 p.2 = 0 then layR (writeS s p.1 p.2) r else (writeE s p.1 p.2, writeS s p.1 p.2)
theorem layR_drop (s : DSt) (l : List Wr1) (k : Nat) (hk : k < l.length) : layR s (l.drop k) = if writeE s (l.getD k wr0).1 (l.getD k wr0).2 = 0 then layR (writeS s (l.getD k wr0).1 (l.getD k wr0).2) (l.drop (k + 1)) else (writeE s (l.getD k wr0).1 (l.getD k wr0).2, writeS s (l.getD k wr0).1 (l.getD k wr0).2) := by
  rw [List.drop_eq_getElem_cons hk, layR]
  have e : l.getD k wr0 = l[k] := by rw [List.getD_eq_getElem?_getD, List.getElem?_eq_getElem hk]; rfl
  rw [e]
theorem layR_sane (l : List Wr1) : ∀ (s : DSt), Sane s → Sane (layR s l).2 := by
  induction l with
  | nil => intro s h; exact h.flush
  | cons p r ih =>
    intro s h
    unfold layR
    split
    · exact ih _ (h.write _ _)
    · exact h.write _ _
theorem layR_acts (l : List Wr1) : ∀ (s : DSt), (layR s l).2.acts.length ≤ s.acts.length + l.length + 1 := by
  induction l with
  | nil =>
    intro s
    show (flushS s).acts.length ≤ _
    unfold flushS
    split
    · rw [diesS_acts]; simp
    · simp
  | cons p r ih =>
    intro s
    have h1 := acts_grow s p.1 p.2
    unfold layR
    split
    · have := ih (writeS s p.1 p.2)
      rw [List.length_cons]
      omega
    · rw [List.length_cons]
      show (writeS s p.1 p.2).acts.length ≤ _
      omega
theorem layR_pend (l : List Wr1) : ∀ (s : DSt), (layR s l).2.pend.length ≤ s.pend.length + l.length := by
  induction l with
  | nil =>
    intro s
    show (flushS s).pend.length ≤ _
    unfold flushS
    split
    · rw [diesS_pend]; simp
    · simp
  | cons p r ih =>
    intro s
    have h1 := pend_grow s p.1 p.2
    unfold layR
    split
    · have := ih (writeS s p.1 p.2)
      rw [List.length_cons]
      omega
    · rw [List.length_cons]
      show (writeS s p.1 p.2).pend.length ≤ _
      omega
theorem load_wr (w : World) (g o : Nat) (z : Int) (t : ByteArray) (h0 : w.cell? ⟨g, o, none⟩ = some (.int .i64 z)) (h1 : w.cell? ⟨g, o + 1, none⟩ = some (.string t)) : (loadVar 68 ⟨g, o, none⟩).run Tryz.prog w = .ok (.agg #[.int .i64 z, .string t]) w := by
  have := run_loadVar_mid (P := Tryz.prog) w g o 68 [.int .i64 z, .string t] _ (fun j v hv => by
    match j with
    | 0 => simpa using h0.trans (by simpa using hv)
    | 1 => exact h1.trans (by simpa using hv)
    | j + 2 => simp at hv) Tryz.underlying68 rfl (by kernel_rfl)
  simpa using this
/-- Behind k of the writes, none of which was refused. -/
def LyI (base b : Nat) (v : DV) (s : DSt) (l : List Wr1) (w : World) (k : Nat) (wr : World) : Prop :=
  ∃ s', DPost base b v s' w wr ∧ Sane s' ∧ layR s l = layR s' (l.drop k) ∧ s'.pend.length ≤ s.pend.length + k ∧ s'.acts.length ≤ s.acts.length + k
set_option maxRecDepth 100000 in
set_option maxHeartbeats 2000000 in
theorem jlay_any (w : World) (base b : Nat) (v : DV) (s : DSt) (h : Dk w base b v s) (hb : base ≤ w.heap.size) (hS : Sane s) (p : Option Addr) (c : Nat) (l : List Wr1) (n : Nat) (hn : n = l.length) (hl : Wls w p l) (hf : ∀ g o, p = some ⟨g, o, none⟩ → ¬ Fd b v g) (hp : s.pend.length + l.length ≤ 1000000000) (ha : s.acts.length + l.length ≤ 1000000000) :
    Calls Tryz.prog 38 #[.pointer (some ⟨b, 0, none⟩), .slice p n c] w fun e w' => e = .returned (.int .i64 (layR s l).1) ∧ DPost base b v (layR s l).2 w w' := by
  have X0 := hide (show LyI base b v s l w 0 w from ⟨s, DPost.refl h, hS, rfl, Nat.le_refl _, Nat.le_refl _⟩)
  have HL := hide hl
  have HF := hide hf
  have HN := hide hn
  have hp2 : s.pend.length + n ≤ 1000000000 := by omega
  have ha2 : s.acts.length + n ≤ 1000000000 := by omega
  clear h hS hl hf hn hp ha
  go_enter Tryz.func38, Tryz.ntmps38
  go_wp2
  go_loopw [10] (fun i wr => ∃ k : Nat, k ≤ n ∧ i = .int .i64 (k : Int) ∧ LyI base b v s l w k wr) (fun i _ => n - (intOf i).toNat)
  case atStart => exact ⟨0, by omega, rfl, unhide X0⟩
  case round =>
    obtain ⟨k, hk, rfl, s', hP, hS', hE, hp', ha'⟩ := hrel
    obtain ⟨wo, rfl⟩ : ∃ wo, wo = wr := ⟨_, rfl⟩
    clear X0
    by_cases hkl : k < n
    · have hkl2 : k < l.length := by rw [← unhide HN]; exact hkl
      obtain ⟨g, o, rfl, hg, c0, c1⟩ := (unhide HL).only hP.onlyW (unhide HF) k hkl2
      have hst := layR_drop s' l k hkl2
      obtain ⟨z, hz⟩ : ∃ z, (l.getD k wr0).1 = z := ⟨_, rfl⟩
      obtain ⟨t, ht⟩ : ∃ t, (l.getD k wr0).2 = t := ⟨_, rfl⟩
      rw [hz, ht] at hst
      rw [hz] at c0
      rw [ht] at c1
      have hld := load_wr wo g (o + k * 2) z t c0 c1
      have HST := hide hst
      have HE := hide hE
      have XP := hide (hP.belowR ((Below.refl _ wo).alloc (Nat.le_refl _) (Obj.cells #[.int .i64 z, .string t] 68)))
      have hgz := hide hz
      have hgt := hide ht
      clear hst hE hP hz ht hkl2
      obtain ⟨v', k1, k2, k3⟩ := unhide XP
      have HK := hide (And.intro k1 (And.intro k2 k3))
      have HS' := hide hS'
      clear k1 k2 k3 XP hS'
      go_wp2_with fail
      refine (write_any _ base b v' s' (unhide HK).1 (Nat.le_trans hb (unhide HK).2.1.size) (unhide HS') (by omega) (by omega) z t).mono ?_
      rintro ev x1 ⟨rfl, hP1⟩
      have XP1 := hide (DPost.trans (unhide HK).2.1 (unhide HK).2.2 hP1)
      clear hP1 c0 c1
      by_cases he : writeE s' z t = 0
      · have XI := hide (show LyI base b v s l w (k + 1) x1 from ⟨_, unhide XP1, (unhide HS').write z t, by rw [unhide HE, unhide HST, if_pos he], by have := pend_grow s' z t; omega, by have := acts_grow s' z t; omega⟩)
        rw [he]
        clear XP1 HK he HE HST
        go_wp2
        go_roundw
        case rel => exact ⟨k + 1, by omega, by go_num, unhide XI⟩
        case measure => simp [intOf]; omega
      · have XI := hide (show layR s l = (writeE s' z t, writeS s' z t) from by rw [unhide HE, unhide HST, if_neg he])
        have hne : (writeE s' z t != 0) = true := by simp [he]
        clear HK HE HST he
        generalize writeE s' z t = E at *
        generalize writeS s' z t = S at *
        go_wp2
        go_ret
        rw [unhide XI]
        exact ⟨rfl, unhide XP1⟩
    · have hk' : k = n := by omega
      subst hk'
      have hE2 : layR s l = (flushE s', flushS s') := by rw [hE, unhide HN, List.drop_length]; rfl
      have HE := hide hE2
      obtain ⟨v', k1, k2, k3⟩ := hP
      have HK := hide (And.intro k1 (And.intro k2 k3))
      have HS' := hide hS'
      clear k1 k2 k3 hS' hE hE2 hkl
      go_wp2_with fail
      refine (flush_any _ base b v' s' (unhide HK).1 (Nat.le_trans hb (unhide HK).2.1.size) (unhide HS') (by omega) (by omega)).mono ?_
      rintro ev x1 ⟨rfl, hP1⟩
      have XP1 := hide (DPost.trans (unhide HK).2.1 (unhide HK).2.2 hP1)
      clear hP1 HK
      go_wp2
      go_ret
      rw [unhide HE]
      exact ⟨rfl, unhide XP1⟩
end Go.Proofs.YtkkndlkelpdehaaGreatDoor

namespace Go.Proofs.YtkkndlkelpdehaaGreatDoor
open Go.RowKit
/-- Numbers that lie in memory. -/
def Inl (w : World) (p : Option Addr) (L : List Int) : Prop := L = [] ∨ ∃ lb lo, p = some ⟨lb, lo, none⟩ ∧ lb < w.heap.size ∧ ∀ j, j < L.length → w.cell? ⟨lb, lo + j, none⟩ = some (.int .i64 (L.getD j 0))
theorem Inl.only {w w' : World} {p : Option Addr} {L : List Int} {P : Nat → Prop} (h : Inl w p L) (ho : Only P w w') (hp : 0 < L.length → ∀ k o, p = some ⟨k, o, none⟩ → ¬ P k) : Inl w' p L := by
  by_cases h0 : 0 < L.length
  · rcases h with h | ⟨lb, lo, e, h1, h2⟩
    · exact .inl h
    · exact .inr ⟨lb, lo, e, Nat.lt_of_lt_of_le h1 ho.size, fun j hj => (World.cell?_of_block (a := ⟨lb, lo + j, none⟩) (ho.2 lb h1 (hp h0 lb lo e))).trans (h2 j hj)⟩
  · exact .inl (List.eq_nil_of_length_eq_zero (by omega))
theorem Inl.below {w w' : World} {B : Nat} {p : Option Addr} {L : List Int} (h : Inl w p L) (hb : Below B w w') (hp : 0 < L.length → ∀ k o, p = some ⟨k, o, none⟩ → k < B) : Inl w' p L := by
  by_cases h0 : 0 < L.length
  · rcases h with h | ⟨lb, lo, e, h1, h2⟩
    · exact .inl h
    · exact .inr ⟨lb, lo, e, Nat.lt_of_lt_of_le h1 hb.size, fun j hj => (hb.cell (p := ⟨lb, lo + j, none⟩) (hp h0 lb lo e)).trans (h2 j hj)⟩
  · exact .inl (List.eq_nil_of_length_eq_zero (by omega))
/-- A copy into a block of one's own: what it holds behind it. -/
theorem wpList_copy_into {w : World} {ops : Array Oper} {rest : List Oper} {o : Oper} {a : Act} {Q : Exit → Act → World → Prop} (hgd : o.guard = none) (d s : Operand) (dT sT : TypeId)
    (ho : o.op = .call { callee := .builtin .copy, args := #[d, s], argTypes := #[dT, sT] }) (elem : TypeId) (hu : Tryz.prog.underlying dT = some (.slice elem)) (hsz : (Tryz.prog.info? elem).map (·.size) = some 1)
    (g off dLen dCap : Nat) (ad : Addr) (sLen sCap : Nat) (hd : a.eval d = .slice (some ⟨g, off, none⟩) dLen dCap) (hs : a.eval s = .slice (some ad) sLen sCap)
    (cur : Array Value) (t : TypeId) (hg : Blk w g cur t) (cs : List Value) (hn : cs.length = Nat.min sLen dLen)
    (hsrc : ∀ j v, cs[j]? = some v → w.cell? (ad.add j) = some v) (hfit : off + cs.length ≤ cur.size) (h1 : ∀ v ∈ cs, v.oneCell' = true)
    (h : ∀ w1, Blk w1 g (cur.toList.take off ++ (cs ++ cur.toList.drop (off + cs.length))).toArray t → Only (fun k => k = g) w w1 → wpList Tryz.prog ops Q rest (a.put o.dst (goInt cs.length)) w1) : wpList Tryz.prog ops Q (o :: rest) a w :=
  wpList_copy_own hgd d s dT sT ho elem hu hsz g off dLen dCap ad sLen sCap hd hs cur t hg cs hn hsrc hfit h1
    (h _ (setRow_heap w g cur _ t _ hg) ⟨⟨rfl, rfl, rfl, by simp [World.setRow], fun k hk => absurd hk (Nat.not_lt_zero k)⟩, fun k _ hn => setRow_other w g k _ hn⟩)
theorem infoI3 : (Tryz.prog.info? 3).map (fun i => (i.zero, i.size, i.bytes)) = some (some (.int .i64 0), 1, 8) := by kernel_rfl
set_option maxRecDepth 100000 in
theorem run_make_i64 (l c : Nat) (hlc : l ≤ c) (hc : c ≤ 17592186044416) (w : World) : (Instr.makeSlice 28 (.int .i64 (l : Int)) (.int .i64 (c : Int))).run Tryz.prog w = .ok (.slice (some ⟨w.heap.size, 0, none⟩) l c) (w.alloc (.cells ((List.replicate c (0 : Int)).map (Value.int .i64)).toArray 3)) := by
  obtain ⟨i0, hi, hz0, hz1, hz2⟩ := info_parts infoI3
  have := run_make (P := Tryz.prog) w 28 3 i0 (.int .i64 0) Tryz.underlying28 hi hz0 .i64 .i64 (l : Int) (c : Int) (by omega) (by omega) (by rw [hz2]; omega) (by omega)
  rw [this, hz1]
  simp only [Int.toNat_natCast, Nat.mul_one]
  congr 3
  apply Array.ext
  · simp [size_madeCells]
  · intro j h1 h2
    simp [madeCells, Value.cells, Nat.mod_one]
theorem getD_at (L : List Int) (j : Nat) (hj : j < L.length) : L[j]? = some (L.getD j 0) := by simp [List.getD_eq_getElem?_getD, List.getElem?_eq_getElem hj]
end Go.Proofs.YtkkndlkelpdehaaGreatDoor
