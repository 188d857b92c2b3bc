import Derived.Test.YtokaomlhnmbajabDoorCln
import Derived.Test.YtokaomlhnmbajabDoorKn
import Derived.Laws.OwnMore
import Derived.Deep.AppendLies
import Derived.OneCell
import Derived.StillTailTactics
import Derived.Deep.RegionHeld3
namespace Go.Proofs.YtokaomlhnmbajabDoor
open Go.RowKit
def hp (b : Nat) : Value := .pointer (some ⟨b, 0, none⟩)
/-- The Hashers bs, which have taken ls, lie in the row vh; the texts ts in the row vt. -/
structure PtInv (w : World) (vh vt : Value) (bs : List Nat) (ls : List (List Int)) (ts : List ByteArray) (wr : World) : Prop where
  rh : wr.ownsRow w.heap.size 24 1 vh bs.length (bs.map hp)
  rt : wr.ownsRow w.heap.size 9 1 vt ts.length (ts.map Value.string)
  len : ls.length = bs.length
  apart : vh.ownBlock ≠ vt.ownBlock
  inj : ∀ i j, i < bs.length → j < bs.length → bs.getD i 0 = bs.getD j 0 → i = j
  blk : ∀ b ∈ bs, vh.ownBlock ≠ some b ∧ vt.ownBlock ≠ some b ∧ w.heap.size ≤ b ∧ b < wr.heap.size
  has : ∀ j, j < bs.length → Hs wr (bs.getD j 0) (ls.getD j [])
  below : Below w.heap.size w wr
theorem touch_kept {b : Nat} {w w' : World} (h : Touch b w w') {base : Nat} {e : TypeId} {size : Nat} {v : Value} {n : Nat} {xs : List Value} (hr : w.ownsRow base e size v n xs) (hne : v.ownBlock ≠ some b) : w'.ownsRow base e size v n xs := by
  refine hr.kept (row := some b) ⟨h.1.os, h.1.tape, h.1.output, h.1.size, fun k hk hkb => ?_⟩ (.inr hne)
  rcases Nat.lt_or_gt_of_ne (show k ≠ b from fun e => hkb (by rw [e])) with h1 | h1
  · exact h.1.block k h1
  · exact h.2 k h1 hk
theorem getD_mem {bs : List Nat} {j : Nat} (h : j < bs.length) : bs.getD j 0 ∈ bs := by
  rw [List.getD_eq_getElem?_getD, List.getElem?_eq_getElem h]; exact List.getElem_mem h
theorem PtInv.stays {w : World} {vh vt : Value} {bs : List Nat} {ls : List (List Int)} {ts : List ByteArray} {wr w' : World} (h : PtInv w vh vt bs ls ts wr) (hb : Below wr.heap.size wr w') : PtInv w vh vt bs ls ts w' := by
  have ht : Touch wr.heap.size wr w' := ⟨hb, fun k h1 h2 => absurd h1 (by omega)⟩
  refine ⟨touch_kept ht h.rh (fun e => ?_), touch_kept ht h.rt (fun e => ?_), h.len, h.apart, h.inj, fun b hbm => ?_, fun j hj => ?_, h.below.trans (hb.mono h.below.size)⟩
  · have := (h.rh.lt _ e).2; omega
  · have := (h.rt.lt _ e).2; omega
  · obtain ⟨a1, a2, a3, a4⟩ := h.blk b hbm
    exact ⟨a1, a2, a3, by have := hb.size; omega⟩
  · exact (h.has j hj).below hb (h.blk _ (getD_mem hj)).2.2.2
theorem PtInv.drew {w : World} {vh vt : Value} {bs : List Nat} {ls : List (List Int)} {ts : List ByteArray} {wr : World} (h : PtInv w vh vt bs ls ts wr) : PtInv w vh vt bs ls ts wr.drew :=
  h.stays ((Below.refl _ _).drew)
theorem PtInv.write {w : World} {vh vt : Value} {bs : List Nat} {ls : List (List Int)} {ts : List ByteArray} {wr w' : World} (h : PtInv w vh vt bs ls ts wr) (i : Nat) (hi : i < bs.length) (l' : List Int) (ht : Touch (bs.getD i 0) wr w') (hs : Hs w' (bs.getD i 0) l') : PtInv w vh vt bs (ls.set i l') ts w' := by
  obtain ⟨a1, a2, a3, a4⟩ := h.blk _ (getD_mem hi)
  refine ⟨touch_kept ht h.rh a1, touch_kept ht h.rt a2, by rw [List.length_set]; exact h.len, h.apart, h.inj, fun b hbm => ?_, fun j hj => ?_, h.below.trans (ht.1.mono a3)⟩
  · obtain ⟨b1, b2, b3, b4⟩ := h.blk b hbm
    exact ⟨b1, b2, b3, by have := ht.1.size; omega⟩
  · have hil : i < ls.length := by rw [h.len]; exact hi
    by_cases e : i = j
    · subst e
      rw [List.getD_eq_getElem?_getD (l := ls.set i l'), List.getElem?_set, if_pos rfl, if_pos hil]
      exact hs
    · rw [List.getD_eq_getElem?_getD (l := ls.set i l'), List.getElem?_set, if_neg e, ← List.getD_eq_getElem?_getD]
      exact (h.has j hj).touch ht (fun h2 => e (h.inj j i hj hi h2).symm) (h.blk _ (getD_mem hj)).2.2.2
theorem PtInv.form {w : World} {vh vt : Value} {bs : List Nat} {ls : List (List Int)} {ts : List ByteArray} {wr : World} (h : PtInv w vh vt bs ls ts wr) (hb : 0 < bs.length) (ht : 0 < ts.length) :
    ∃ gh ch gt ct, vh = .slice (some ⟨gh, 0, none⟩) bs.length ch ∧ vt = .slice (some ⟨gt, 0, none⟩) ts.length ct := by
  obtain ⟨_, ⟨_, e⟩ | ⟨gh, ch, _, e1, _⟩⟩ := h.rh
  · omega
  · obtain ⟨_, ⟨_, e⟩ | ⟨gt, ct, _, e2, _⟩⟩ := h.rt
    · omega
    · exact ⟨gh, ch, gt, ct, e1, e2⟩
theorem PtInv.ptrAt {w : World} {gh n ch : Nat} {vt : Value} {bs : List Nat} {ls : List (List Int)} {ts : List ByteArray} {wr : World} (h : PtInv w (.slice (some ⟨gh, 0, none⟩) n ch) vt bs ls ts wr) (i : Nat) (hi : i < bs.length) : wr.cell? ⟨gh, i, none⟩ = some (hp (bs.getD i 0)) := by
  have hr := h.rh
  have hn : n = bs.length := by
    obtain ⟨_, ⟨e, _⟩ | ⟨_, _, _, e, _⟩⟩ := hr
    · cases e
    · injection e
  subst hn
  rw [hr.cellAt i (by omega)]
  simp [hi]
theorem PtInv.txtAt {w : World} {gt n ct : Nat} {vh : Value} {bs : List Nat} {ls : List (List Int)} {ts : List ByteArray} {wr : World} (h : PtInv w vh (.slice (some ⟨gt, 0, none⟩) n ct) bs ls ts wr) (i : Nat) (hi : i < ts.length) : wr.cell? ⟨gt, i, none⟩ = some (.string (ts.getD i ⟨#[]⟩)) ∧ wr.frozen? ⟨gt, i, none⟩ = false := by
  have hr := h.rt
  have hn : n = ts.length := by
    obtain ⟨_, ⟨e, _⟩ | ⟨_, _, _, e, _⟩⟩ := hr
    · cases e
    · injection e
  subst hn
  refine ⟨?_, ?_⟩
  · rw [hr.cellAt i (by omega)]
    simp [hi]
  · obtain ⟨_, ⟨e, _⟩ | ⟨g, _, cur, e, _, hh, _⟩⟩ := hr
    · cases e
    · injection e with e1 _ _
      injection e1 with e2
      injection e2 with e3
      subst e3
      simp [World.frozen?, hh]
theorem PtInv.store {w : World} {gt n ct : Nat} {vh : Value} {bs : List Nat} {ls : List (List Int)} {ts : List ByteArray} {wr : World} (h : PtInv w vh (.slice (some ⟨gt, 0, none⟩) n ct) bs ls ts wr) (i : Nat) (t' : ByteArray) : PtInv w vh (.slice (some ⟨gt, 0, none⟩) n ct) bs ls (ts.set i t') (wr.setCell ⟨gt, i, none⟩ (.string t')) := by
  have hr := h.rt
  have hn : n = ts.length := by
    obtain ⟨_, ⟨e, _⟩ | ⟨_, _, _, e, _⟩⟩ := hr
    · cases e
    · injection e
  subst hn
  obtain ⟨h1, _⟩ := hr.stored i (.string t')
  have hgt := (hr.lt gt rfl).1
  have ht : Touch gt wr (wr.setCell ⟨gt, i, none⟩ (.string t')) := (Touch.refl gt wr).setCell i _
  refine ⟨ownsRow_setCell_other (a := ⟨gt, i, none⟩) h.rh h.apart _, by simpa [List.map_set] using h1, h.len, h.apart, h.inj, fun b hb => ?_, fun j hj => ?_, h.below.trans (ht.1.mono hgt)⟩
  · obtain ⟨b1, b2, b3, b4⟩ := h.blk b hb
    exact ⟨b1, b2, b3, by simpa using b4⟩
  · obtain ⟨b1, b2, b3, b4⟩ := h.blk _ (getD_mem hj)
    exact (h.has j hj).touch ht (fun e => b2 (by rw [e]; rfl)) b4
theorem grown_touch {w w' : World} {g : Nat} (h : w.grownBy w' (some g)) (hs : g < w.heap.size) : Touch g w w' :=
  ⟨⟨h.os, h.tape, h.output, h.size, fun k hk => h.block k (by omega) (by simp; omega)⟩, fun k hk hs => h.block k hs (by simp; omega)⟩
theorem getD_snoc {α : Type} (l : List α) (x d : α) (j : Nat) : (l ++ [x]).getD j d = if j < l.length then l.getD j d else if j = l.length then x else d := by
  simp only [List.getD_eq_getElem?_getD, List.getElem?_append]
  split
  · rfl
  · split
    · subst j; simp
    · rw [List.getElem?_eq_none (by simp; omega)]; rfl
theorem PtInv.pushH {w : World} {gh n ch : Nat} {vt : Value} {bs : List Nat} {ls : List (List Int)} {ts : List ByteArray} {wr : World} (h : PtInv w (.slice (some ⟨gh, 0, none⟩) n ch) vt bs ls ts wr) (c : Nat) (l : List Int) (hc0 : w.heap.size ≤ c) (hc1 : c < wr.heap.size) (hcb : c ∉ bs) (hch : c ≠ gh) (hct : vt.ownBlock ≠ some c) (hc : Hs wr c l)
    {w' : World} {g cap m : Nat} (hr : w'.ownsRow w.heap.size 24 1 (.slice (some ⟨g, 0, none⟩) m cap) (bs.length + 1) (bs.map hp ++ [hp c])) (hg : wr.grownBy w' (some gh)) (hgg : g = gh ∨ g = wr.heap.size) :
    PtInv w (.slice (some ⟨g, 0, none⟩) m cap) vt (bs ++ [c]) (ls ++ [l]) ts w' := by
  have hgh := h.rh.lt gh rfl
  have ht : Touch gh wr w' := grown_touch hg hgh.2
  refine ⟨by simpa using hr, touch_kept ht h.rt (fun e => h.apart (by rw [e]; rfl)), by simp [h.len], ?_, fun i j hi hj e => ?_, fun b hb => ?_, fun j hj => ?_, h.below.trans (ht.1.mono hgh.1)⟩
  · intro e
    rcases hgg with rfl | rfl
    · exact h.apart e
    · have : wr.heap.size < wr.heap.size := (h.rt.lt _ e.symm).2
      omega
  · rw [getD_snoc, getD_snoc] at e
    simp at hi hj
    by_cases h1 : i < bs.length
    · by_cases h2 : j < bs.length
      · rw [if_pos h1, if_pos h2] at e
        exact h.inj i j h1 h2 e
      · rw [if_pos h1, if_neg h2, if_pos (by omega)] at e
        exact absurd (e ▸ getD_mem h1) hcb
    · by_cases h2 : j < bs.length
      · rw [if_neg h1, if_pos (by omega), if_pos h2] at e
        exact absurd (e.symm ▸ getD_mem h2) hcb
      · omega
  · have hsz := ht.1.size
    rcases List.mem_append.1 hb with hb | hb
    · obtain ⟨b1, b2, b3, b4⟩ := h.blk b hb
      refine ⟨?_, b2, b3, by omega⟩
      rcases hgg with rfl | rfl
      · exact b1
      · intro e; simp [Value.ownBlock] at e; omega
    · simp at hb
      subst hb
      refine ⟨?_, hct, hc0, by omega⟩
      rcases hgg with rfl | rfl
      · intro e; simp [Value.ownBlock] at e; exact hch e.symm
      · intro e; simp [Value.ownBlock] at e; omega
  · simp at hj
    rw [getD_snoc, getD_snoc, h.len]
    by_cases h1 : j < bs.length
    · rw [if_pos h1, if_pos h1]
      obtain ⟨b1, b2, b3, b4⟩ := h.blk _ (getD_mem h1)
      exact (h.has j h1).touch ht (fun e => b1 (by rw [e]; rfl)) b4
    · rw [if_neg h1, if_neg h1, if_pos (by omega), if_pos (by omega)]
      exact hc.touch ht hch hc1
theorem PtInv.pushT {w : World} {gt n ct : Nat} {vh : Value} {bs : List Nat} {ls : List (List Int)} {ts : List ByteArray} {wr : World} (h : PtInv w vh (.slice (some ⟨gt, 0, none⟩) n ct) bs ls ts wr) (t : ByteArray)
    {w' : World} {g cap m : Nat} (hr : w'.ownsRow w.heap.size 9 1 (.slice (some ⟨g, 0, none⟩) m cap) (ts.length + 1) (ts.map Value.string ++ [.string t])) (hg : wr.grownBy w' (some gt)) (hgg : g = gt ∨ g = wr.heap.size) :
    PtInv w vh (.slice (some ⟨g, 0, none⟩) m cap) bs ls (ts ++ [t]) w' := by
  have hgh := h.rt.lt gt rfl
  have ht : Touch gt wr w' := grown_touch hg hgh.2
  refine ⟨touch_kept ht h.rh h.apart, by simpa using hr, h.len, ?_, h.inj, fun b hb => ?_, fun j hj => ?_, h.below.trans (ht.1.mono hgh.1)⟩
  · intro e
    rcases hgg with rfl | rfl
    · exact h.apart e
    · have : wr.heap.size < wr.heap.size := (h.rh.lt _ e).2
      omega
  · have hsz := ht.1.size
    obtain ⟨b1, b2, b3, b4⟩ := h.blk b hb
    refine ⟨b1, ?_, b3, by omega⟩
    rcases hgg with rfl | rfl
    · exact b2
    · intro e; simp [Value.ownBlock] at e; omega
  · obtain ⟨b1, b2, b3, b4⟩ := h.blk _ (getD_mem hj)
    exact (h.has j hj).touch ht (fun e => b2 (by rw [e]; rfl)) b4
end Go.Proofs.YtokaomlhnmbajabDoor
