import Derived.Test.YtnfcnpolflfpfaaGreatDoorMr42
namespace Go.Proofs.YtnfcnpolflfpfaaGreatDoor
open Go.RowKit Go.Maps Go.Sort Go.Shelf
/-- The cells of a slot, as the law keeps it. -/
def slC (i : Nat) : En → List Value
  | none => [.int .i64 0, .string ⟨#[]⟩, .int .i64 0]
  | some (d, c) => [.int .i64 (i : Int), .string d, .int .i64 (c : Int)]
theorem slC_len (i : Nat) (e : En) : (slC i e).length = 3 := by cases e <;> rfl
/-- A row of slots that tells T. -/
def WR (w : World) (wb n : Nat) (T : Nat → En) : Prop := ∃ cs : List Value, Blk w wb cs.toArray 46 ∧ cs.length = 3 * n ∧ ∀ i, i < n → (cs.drop (i * 3)).take 3 = slC i (T i)
theorem WR.lt {w : World} {wb n : Nat} {T : Nat → En} (h : WR w wb n T) : wb < w.heap.size := by
  obtain ⟨cs, h1, _⟩ := h
  exact h1.lt
theorem WR.only {w w' : World} {wb n : Nat} {T : Nat → En} {P : Nat → Prop} (h : WR w wb n T) (ho : Only P w w') (hp : ¬ P wb) : WR w' wb n T := by
  obtain ⟨cs, h1, h2⟩ := h
  exact ⟨cs, h1.only ho hp, h2⟩
theorem WR.below {w w' : World} {wb n : Nat} {T : Nat → En} (h : WR w wb n T) (hb : Below w.heap.size w w') : WR w' wb n T := h.only (Only.of_below (P := fun _ => False) hb) (fun q => q)
theorem WR.at {w : World} {wb n : Nat} {T : Nat → En} (h : WR w wb n T) (i : Nat) (hi : i < n) (j : Nat) (hj : j < 3) : w.cell? ⟨wb, i * 3 + j, none⟩ = (slC i (T i))[j]? ∧ w.frozen? ⟨wb, i * 3 + j, none⟩ = false := by
  obtain ⟨cs, h1, h2, h3⟩ := h
  refine ⟨?_, h1.frozen _⟩
  rw [h1.cell, ← h3 i hi, List.getElem?_take, if_pos hj, List.getElem?_drop]
  simp
theorem WR.set {w : World} {wb n : Nat} {T : Nat → En} (h : WR w wb n T) (p : Nat) (hp : p < n) (e : En) : WR (w.setCells wb (p * 3) (slC p e)) wb n (upd T p e) := by
  obtain ⟨cs, h1, h2, h3⟩ := h
  have hle := slC_len p e
  have hpl : (cs.take (p * 3)).length = p * 3 := by rw [List.length_take]; omega
  have hb := setCells_blk (slC p e) (cs.take (p * 3)) (cs.drop (p * 3 + 3)) h1 ((cs.drop (p * 3)).take 3) (by rw [hle, List.length_take, List.length_drop]; omega) (by
    congr 1
    rw [List.append_assoc, ← List.drop_drop (i := 3) (j := p * 3), List.take_append_drop, List.take_append_drop])
  rw [hpl] at hb
  refine ⟨_, hb, ?_, fun i hi => ?_⟩
  · rw [List.length_append, List.length_append, hpl, hle, List.length_drop]
    omega
  · by_cases e1 : i = p
    · subst e1
      rw [List.append_assoc, List.drop_append_of_le_length (by omega), List.drop_of_length_le (by omega), List.nil_append, List.take_append_of_le_length (by omega), List.take_of_length_le (by omega)]
      unfold upd
      rw [if_pos rfl]
    · unfold upd
      rw [if_neg e1, ← h3 i hi]
      by_cases e2 : i < p
      · rw [List.append_assoc, List.drop_append_of_le_length (by omega), List.take_append_of_le_length (by rw [List.length_drop]; omega), List.drop_take, List.take_take]
        congr 1
        omega
      · rw [List.drop_append, List.drop_of_length_le (by rw [List.length_append, hpl, hle]; omega), List.nil_append, List.length_append, hpl, hle, List.drop_drop]
        congr 2
        omega
/-- What a change leaves. -/
def Chg (w0 w : World) (b jb pb xb : Nat) (Y : Nat → Prop) (a n kp : Nat) (L : List ByteArray) (A : List (Nat × Nat)) (hn : Nat) (Tw : Nat → En) (wb : Nat) (w' : World) : Prop :=
  ∃ T, ISt w0 w' b jb pb xb Y a n kp true L A hn Tw T T ∧ WR w' wb n T ∧ Only (fun x => ¬ Y x ∨ x = wb) w w'
end Go.Proofs.YtnfcnpolflfpfaaGreatDoor
