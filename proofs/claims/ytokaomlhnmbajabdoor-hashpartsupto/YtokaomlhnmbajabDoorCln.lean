import Derived.Test.YtokaomlhnmbajabDoorSum
import Derived.Test.YtokaomlhnmbajabDoorPck
import Derived.Test.YtokaomlhnmbajabDoorRsu
import Derived.Laws.AppendOwn
namespace Go.Proofs.YtokaomlhnmbajabDoor
open Go.RowKit
theorem there_new (w : World) (c : Array Value) (t : TypeId) : (w.alloc (.cells c t)).there w.heap.size 0 c.size := by
  intro j hj
  rw [Nat.zero_add, World.cell?_alloc_at (hn := rfl), World.frozen?_alloc_at (hn := rfl), Array.getElem?_eq_getElem hj]
  exact ⟨rfl, rfl⟩
theorem hat_of_range {w : World} {b : Nat} {s : H8} {q : List Int} {n : Nat} (hq : q.length = 64) (h : w.rangeAt b 0 (hCells s q n)) (hf : ∀ j, j < 73 → w.frozen? ⟨b, j, none⟩ = false) : HAt w b s q n := by
  have h8 : (s.vals.map (Value.int .u32)).length = 8 := by simp [H8.vals]
  have h64 : (q.map (Value.int .u8)).length = 64 := by simp [hq]
  have hs8 : s.vals.length = 8 := by simp [H8.vals]
  refine ⟨fun j hj => ⟨?_, by rw [Nat.zero_add]; exact hf j (by omega)⟩, fun j hj => ⟨?_, hf _ (by omega)⟩, fun j hj => ⟨?_, hf _ (by simp at hj; omega)⟩⟩
  · refine h j _ ?_
    unfold hCells
    rw [List.append_assoc, List.getElem?_append_left (by omega)]
    simp [hj]
  · have := h (8 + j) (.int .u8 (q.getD j 0)) (by
      unfold hCells
      rw [List.append_assoc, List.getElem?_append_right (by omega), h8, Nat.add_sub_cancel_left, List.getElem?_append_left (by omega)]
      simp [hj])
    rw [Nat.zero_add] at this
    exact this
  · simp at hj
    subst hj
    have := h 72 (.int .i64 n) (by
      unfold hCells
      rw [List.append_assoc, List.getElem?_append_right (by omega), h8, List.getElem?_append_right (by omega), h64]
      rfl)
    simpa using this
set_option maxRecDepth 100000 in
set_option maxHeartbeats 400000 in
theorem clone_any (w : World) (b : Nat) (l : List Int) (h : Hs w b l) :
    Calls Tryd.prog 12 #[.pointer (some ⟨b, 0, none⟩)] w fun e w' => e = .returned (.pointer (some ⟨w.heap.size, 0, none⟩)) ∧ Hs w' w.heap.size l ∧ Below w.heap.size w w' ∧ w'.heap.size = w.heap.size + 1 := by
  obtain ⟨q, hq, hqb, hA, hqt⟩ := h
  have HR := hide (hA.range hq)
  have hcl : (hCells (comps start8 l (l.length / 64)) q l.length).length = 73 := by simp [hCells, H8.vals, hq]
  have h1c : ((hCells (comps start8 l (l.length / 64)) q l.length).toArray).all (·.oneCell') = true := all_oneCell_toArray (by
    intro v hv
    simp only [hCells, List.mem_append, List.mem_map, List.mem_singleton] at hv
    rcases hv with (⟨x, _, rfl⟩ | ⟨x, _, rfl⟩) | rfl <;> rfl)
  have HF : Hid (∀ W : World, W.rangeAt w.heap.size 0 (hCells (comps start8 l (l.length / 64)) q l.length) → (∀ j, j < 73 → W.frozen? ⟨w.heap.size, j, none⟩ = false) → Hs W w.heap.size l) := fun W h1 h2 => ⟨q, hq, hqb, hat_of_range hq h1 h2, hqt⟩
  clear hA hqb hqt hq
  generalize hCells (comps start8 l (l.length / 64)) q l.length = cs at *
  have HTH : Hid (∀ c : Array Value, c.size = 73 → (w.alloc (.cells c 46)).there w.heap.size 0 cs.toArray.size) := fun c hc => by
    have := there_new w c 46
    rw [hc] at this
    simpa [hcl] using this
  have hz := zeroV46
  go_enter Tryd.func12, Tryd.ntmps12
  go_wp2_with (first
    | (refine wpList_load_mid rfl 46 (.tmp 7) rfl b 0 rfl _ _ (unhide HR) Tryd.underlying46 rfl (by rw [size46, hcl]) ?_)
    | (refine wpList_store_to rfl 46 (.tmp 3) (.tmp 8) rfl w.heap.size 0 cs.toArray rfl rfl (unhide HTH _ rfl) (by rw [size46]; simp [hcl]) h1c ?_; intro W2 hW2; have HW2 := hide hW2; clear hW2))
  go_ret
  have e := unhide HW2
  refine ⟨rfl, ?_, ?_, ?_⟩
  · rw [e]
    refine unhide HF _ (World.rangeAt_setCells_same _ _ _ _ ?_) (fun j hj => ?_)
    · intro j hj
      exact unhide HTH _ rfl j (by simpa using hj)
    · rw [World.frozen?_setCells, World.frozen?_alloc_at (hn := rfl)]
  · rw [e]; exact below_setCells (Nat.le_refl _) _ _ ((Below.refl _ _).alloc (Nat.le_refl _) _)
  · rw [e, size_setCells]; simp
end Go.Proofs.YtokaomlhnmbajabDoor
