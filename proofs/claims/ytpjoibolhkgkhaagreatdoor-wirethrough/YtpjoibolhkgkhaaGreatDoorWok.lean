import Derived.Test.YtpjoibolhkgkhaaGreatDoorWrd
namespace Go.Proofs.YtpjoibolhkgkhaaGreatDoor
open Go.RowKit
theorem WPost.below {w wr w2 : World} {base b : Nat} {v : Value} {l : List Int} {e : Int} (h : WPost base b v l e w wr) (hb : Below wr.heap.size wr w2) : WPost base b v l e w w2 := by
  obtain ⟨v1, h1, h2, h3⟩ := h
  have hO : Only (fun _ => False) wr w2 := Only.of_below hb
  exact ⟨v1, h1.only hO (fun _ _ q => q), h2.trans hO (fun _ _ q => q.elim), h3⟩
theorem WPost.only {w wr w2 : World} {base b : Nat} {v : Value} {l : List Int} {e : Int} {P : Nat → Prop} (h : WPost base b v l e w wr) (hO : Only P wr w2) (hp : ∀ k, P k → k < w.heap.size ∧ ¬ Fp b v k) (hb : b < w.heap.size) : ∃ v', Wtr w2 base b v' l e ∧ (∀ k, v'.ownBlock = some k → v.ownBlock = some k ∨ w.heap.size ≤ k) := by
  obtain ⟨v1, h1, h2, h3⟩ := h
  refine ⟨v1, h1.only hO (fun k hk hpk => ?_), h3⟩
  obtain ⟨q1, q2⟩ := hp k hpk
  rcases hk with rfl | hk
  · exact q2 (.inl rfl)
  · rcases h3 k hk with h | h
    · exact q2 (.inr h)
    · omega
theorem WPost.alloc {w wr : World} {base b : Nat} {v : Value} {l : List Int} {e : Int} (h : WPost base b v l e w wr) (o : Obj) : WPost base b v l e w (wr.alloc o) := h.below ((Below.refl _ _).alloc (Nat.le_refl _) o)
theorem WPost.size {w wr : World} {base b : Nat} {v : Value} {l : List Int} {e : Int} (h : WPost base b v l e w wr) : w.heap.size ≤ wr.heap.size := by obtain ⟨_, _, h2, _⟩ := h; exact h2.size
theorem WPost.blk {w wr : World} {base b : Nat} {v : Value} {l : List Int} {e : Int} (h : WPost base b v l e w wr) {k : Nat} {cur : Array Value} {T : TypeId} (hB : Blk w k cur T) (hk : ¬ Fp b v k) : Blk wr k cur T := by obtain ⟨_, _, h2, _⟩ := h; exact hB.only h2 hk
theorem rawK {w wr : World} {base b : Nat} {v : Value} {l : List Int} {e : Int} (h : WPost base b v l e w wr) (hb : base ≤ w.heap.size) (s : ByteArray) (hsz : l.length + s.size ≤ 140737488355328) :
    Calls Tryz.prog 64 #[.pointer (some ⟨b, 0, none⟩), .string s] wr fun ev w' => ev = .returned (.tuple #[]) ∧ WPost base b v (wl l e 0 (nums s)) e w w' := by
  obtain ⟨v1, h1, h2, h3⟩ := h
  exact (raw_any wr base b v1 l e h1 (Nat.le_trans hb h2.size) s hsz).mono (by rintro ev w' ⟨rfl, hp⟩; exact ⟨rfl, WPost.trans h2 h3 hp⟩)
theorem numK {w wr : World} {base b : Nat} {v : Value} {l : List Int} {e : Int} (h : WPost base b v l e w wr) (hb : base ≤ w.heap.size) (bytes : Int) (L : List Int) (cur : Array Value) (hc : cur = (L.map (Value.int .i64)).toArray) (hsz : l.length + 8 * L.length ≤ 140737488355328) (m : Nat) (hm : m = L.length) :
    Calls Tryz.prog 29 #[.pointer (some ⟨b, 0, none⟩), .int .i64 bytes, .slice (some ⟨wr.heap.size, 0, none⟩) m m] (wr.alloc (Obj.cells cur 3)) fun ev w' => ev = .returned (.tuple #[]) ∧ WPost base b v (wl l e (errN bytes L) (outN bytes.toNat L)) (we e (errN bytes L)) w w' := by
  subst hc hm
  obtain ⟨v1, h1, h2, h3⟩ := h
  have hA := (Only.refl (fun _ => False) wr).alloc (Obj.cells (L.map (Value.int .i64)).toArray 3)
  have hB := Blk.new wr 3 (L.map (Value.int .i64)).toArray
  refine (num_any (wr.alloc (Obj.cells (L.map (Value.int .i64)).toArray 3)) base b v1 l e (h1.only hA (fun _ _ q => q)) (by have := h2.size; simp; omega) bytes L (some ⟨wr.heap.size, 0, none⟩) L.length (.inr ⟨wr.heap.size, 0, rfl, by simp, ?_, fun j hj => ?_⟩) hsz).mono ?_
  · rintro (hq | hq)
    · have := h1.lt; omega
    · have := (h1.2.1.lt _ hq).2; omega
  · rw [Nat.zero_add, hB.cell j]
    simp [hj]
  · rintro ev w' ⟨rfl, hp⟩
    exact ⟨rfl, WPost.trans (h2.alloc _) h3 hp⟩
theorem doneK {w wr : World} {base b : Nat} {v : Value} {l : List Int} {e : Int} (h : WPost base b v l e w wr) :
    Calls Tryz.prog 31 #[.pointer (some ⟨b, 0, none⟩)] wr fun ev w' => ev = .returned (.tuple #[.string (strOfNums l), .int .i64 e]) ∧ WPost base b v l e w w' := by
  have h' := h
  obtain ⟨v1, h1, h2, h3⟩ := h
  exact (done_any wr base b v1 l e h1).mono (by rintro ev w' ⟨rfl, hb⟩; exact ⟨rfl, h'.below hb⟩)
theorem wl_good (l out : List Int) : wl l 0 0 out = l ++ out := by simp [wl]
theorem we_good : we 0 0 = 0 := rfl
end Go.Proofs.YtpjoibolhkgkhaaGreatDoor
