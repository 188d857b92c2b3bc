import Derived.Test.YtolblldpdgfkmaaDoorArr
namespace Go.Proofs.YtolblldpdgfkmaaDoor
open Go.RowKit
theorem Arr.tail {w : World} {b o : Nat} {k : IntKind} {l : List Int} (h : Arr w b o k l) (i : Nat) (l' : List Int) (hl : i + l'.length = l.length) : Arr (w.setCells b (o + i) (l'.map (Value.int k))) b o k (l.take i ++ l') := by
  intro j hj
  have hjl : j < l.length := by simp at hj; omega
  refine ⟨?_, by rw [World.frozen?_setCells]; exact (h j hjl).2⟩
  by_cases hji : j < i
  · rw [World.cell?_setCells_out b _ (o + i) w ⟨b, o + j, none⟩ (by intro _ _; left; simp; omega), (h j hjl).1]
    simp [List.getElem?_append, hji, hjl, Nat.min_eq_left (show i ≤ l.length by omega)]
  · obtain ⟨m, rfl⟩ : ∃ m, j = i + m := ⟨j - i, by omega⟩
    have hr := World.rangeAt_setCells_same w b (o + i) (l'.map (Value.int k)) (by intro x hx; have hx' : i + x < l.length := by (simp at hx; omega)
                                                                                  rw [Nat.add_assoc]; exact h.there (i + x) hx')
    have hm : m < l'.length := by omega
    have := hr m (.int k (l'.getD m 0)) (by simp [hm])
    rw [Nat.add_assoc] at this
    rw [this]
    have hn : ¬ i + m < i := by omega
    simp [List.getElem?_append, hn, Nat.min_eq_left (show i ≤ l.length by omega)]
end Go.Proofs.YtolblldpdgfkmaaDoor
