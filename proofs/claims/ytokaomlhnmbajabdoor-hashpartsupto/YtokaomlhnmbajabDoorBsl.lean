import Derived.Test.YtokaomlhnmbajabDoorHex
import Derived.ArgAppend
import Derived.Laws.IdiomStrings
namespace Go.Proofs.YtokaomlhnmbajabDoor
open Go.RowKit
/-- A slice of the call's own: block b, from its head; the bytes L; room for 'cap' of them. -/
def Bsl (w : World) (base b cap : Nat) (L : List Int) : Prop :=
  base ≤ b ∧ b < w.heap.size ∧ L.length ≤ cap ∧ cap ≤ maxLen ∧ Arr w b 0 .u8 L ∧ w.there b 0 cap
theorem Bsl.alloc {w : World} {base b cap : Nat} {L : List Int} (h : Bsl w base b cap L) (o : Obj) : Bsl (w.alloc o) base b cap L :=
  ⟨h.1, by simp; have := h.2.1; omega, h.2.2.1, h.2.2.2.1, h.2.2.2.2.1.alloc h.2.1 o, World.there_alloc h.2.2.2.2.2 o⟩
theorem Bsl.of_string (w : World) (t : ByteArray) (ht : t.size ≤ 140737488355328) : ∃ cap W, (convert 9 47 (Value.string t)).run Tryd.prog w = .ok (.slice (some ⟨w.heap.size, 0, none⟩) t.size cap) W ∧ Bsl W w.heap.size w.heap.size cap (nums t) ∧ Below w.heap.size w W := by
  have hrun := run_bytes_of_string (P := Tryd.prog) w 9 47 5 t Tryd.underlying9 Tryd.underlying47 Tryd.underlying5
  have hge := grownCap_ge w t.size 0 5
  have hle := grownCap_le_maxLen w t.size 0 5 (by unfold maxLen; omega)
  refine ⟨_, _, hrun, ?_, ((Below.refl _ w).drew).alloc (Nat.le_refl _) _⟩
  generalize grownCap w t.size 0 5 = cap at *
  have hsz : (bytesRow t cap).size = cap := by
    have : t.data.size = t.size := rfl
    simp [bytesRow, this]; omega
  have hcell : ∀ j, (w.drew.alloc (Obj.cells (bytesRow t cap) 5 ((bytesRow t cap).size, (bytesRow t cap).size + 1))).cell? ⟨w.heap.size, j, none⟩ = (bytesRow t cap)[j]? := fun j => World.cell?_alloc_mark w.drew _ 5 _ j
  have hfr : ∀ j, j < cap → (w.drew.alloc (Obj.cells (bytesRow t cap) 5 ((bytesRow t cap).size, (bytesRow t cap).size + 1))).frozen? ⟨w.heap.size, j, none⟩ = false := fun j hj => by
    have := World.frozen?_alloc_mark w.drew (bytesRow t cap) 5 (bytesRow t cap).size ((bytesRow t cap).size + 1) j
    rw [show (w.drew.heap.size) = w.heap.size from rfl] at this
    rw [this, hsz]
    simp
    omega
  refine ⟨Nat.le_refl _, by simp, by rw [nums_len]; exact hge, hle, fun j hj => ?_, fun j hj => ?_⟩
  · rw [nums_len] at hj
    rw [Nat.zero_add]
    refine ⟨?_, hfr j (by omega)⟩
    have hjd : j < t.data.size := hj
    rw [hcell, bytesRow_at t cap j hjd]
    simp [nums]
    rw [Array.getElem?_eq_getElem hjd]
    rfl
  · rw [Nat.zero_add]
    refine ⟨?_, hfr j hj⟩
    rw [hcell, Array.getElem?_eq_getElem (by omega)]
    rfl
theorem Bsl.snoc {w : World} {base b cap : Nat} {L : List Int} (h : Bsl w base b cap L) (hr : L.length + 1 ≤ cap) (y : Int) : Bsl (w.setCells b L.length [.int .u8 y]) base b cap (L ++ [y]) := by
  obtain ⟨h1, h2, h3, h4, h5, h6⟩ := h
  refine ⟨h1, by rw [size_setCells]; exact h2, by simp; omega, h4, fun j hj => ?_, World.there_setCells h6 _ _ _⟩
  rw [Nat.zero_add]
  simp at hj
  have hf := (h6 j (by omega)).2
  rw [Nat.zero_add] at hf
  refine ⟨?_, by rw [World.frozen?_setCells]; exact hf⟩
  by_cases e : j < L.length
  · rw [World.cell?_setCells_out b _ L.length w ⟨b, j, none⟩ (by intro _ _; left; exact e)]
    have := h5.get j e
    rw [Nat.zero_add] at this
    rw [this]
    simp [List.getElem?_append, e]
  · have hj2 : j = L.length := by omega
    subst hj2
    have hr := World.rangeAt_setCells_same w b L.length [.int .u8 y] (by
      intro x hx
      simp at hx
      subst hx
      have := h6 L.length (by omega)
      rw [Nat.zero_add] at this
      exact this)
    have := hr 0 (.int .u8 y) rfl
    rw [Nat.add_zero] at this
    rw [this]
    simp
theorem Bsl.of_owns {w w' : World} {base : Nat} {v : Value} {L : List Int} (hb : base ≤ w.heap.size) (h : w'.ownsRow w.heap.size 5 1 v L.length (L.map (Value.int .u8))) (hne : 0 < L.length) : ∃ b cap, v = .slice (some ⟨b, 0, none⟩) L.length cap ∧ Bsl w' base b cap L := by
  obtain ⟨_, h | ⟨g, cap, cur, rfl, hg, hh, hn, hc, hs, hx⟩⟩ := h
  · omega
  · rw [Nat.mul_one] at hs hx
    have hcell : ∀ j, w'.cell? ⟨g, j, none⟩ = cur[j]? := fun j => cell_of_row w' g j cur 5 (0, 0) hh
    have hlt : g < w'.heap.size := by
      rcases Nat.lt_or_ge g w'.heap.size with h | h
      · exact h
      · rw [Array.getElem?_eq_none h] at hh; cases hh
    have hfr : ∀ j, w'.frozen? ⟨g, j, none⟩ = false := fun j => by simp [World.frozen?, hh]
    refine ⟨g, cap, rfl, by omega, hlt, hn, hc, fun j hj => ?_, fun j hj => ?_⟩
    · rw [Nat.zero_add, hcell]
      refine ⟨?_, hfr j⟩
      have e : cur.toList[j]? = (L.map (Value.int .u8))[j]? := by rw [← hx, List.getElem?_take, if_pos hj]
      rw [← Array.getElem?_toList, e]
      simp [hj]
    · rw [Nat.zero_add, hcell, Array.getElem?_eq_getElem (by omega)]
      exact ⟨rfl, hfr j⟩
theorem wpList_app1 (w : World) {ops : Array Oper} {rest : List Oper} {o : Oper} {a : Act} {Q : Exit → Act → World → Prop}
    (hg : o.guard = none) (s x : Operand) (hop : o.op = Op.call { callee := Callee.builtin Builtin.append, args := #[s, x], argTypes := #[47, 47] })
    (base b cap : Nat) (L : List Int) (n : Nat) (hn : n = L.length) (hs : a.eval s = .slice (some ⟨b, 0, none⟩) n cap) (hB : Bsl w base b cap L) (hbase : base ≤ w.heap.size)
    (g : Nat) (y : Int) (hx : a.eval x = .slice (some ⟨g, 0, none⟩) 1 1) (hc : w.cell? ⟨g, 0, none⟩ = some (.int .u8 y)) (hsz : n + 1 ≤ 140737488355328)
    (h : ∀ b' cap' w', Bsl w' base b' cap' (L ++ [y]) → Below base w w' → wpList Tryd.prog ops Q rest (a.put o.dst (.slice (some ⟨b', 0, none⟩) (n + 1) cap')) w') : wpList Tryd.prog ops Q (o :: rest) a w := by
  subst hn
  obtain ⟨i0, hi, hz0, hz1, hz2⟩ := info_parts info5
  refine wpList_append_arg w hg s x 47 hop 5 i0 (.int .u8 0) 1 1 Tryd.underlying47 hi hz0 hz1 hz2 rfl (by decide) b 0 L.length cap (L.map (Value.int .u8)) hs (by simp) (fun j u hu => ?_) ⟨g, 0, none⟩ 1 1 [.int .u8 y] hx rfl (fun j u hu => ?_) (by simp [Value.oneCell']) (fun hr j hj => ?_) (by unfold maxLen; omega) (by omega) (fun hr => ?_) (fun _ v' w' ho hgr => ?_)
  · exact hB.2.2.2.2.1.range j u hu
  · cases j with
    | zero => simp at hu; subst hu; rw [Addr.add_mid]; exact hc
    | succ j => simp at hu
  · simp at hj
    subst hj
    have := hB.2.2.2.2.2 L.length (by omega)
    simpa using this
  · have := h b cap _ (hB.snoc hr y) (below_setCells hB.1 _ _ (Below.refl _ _))
    simpa using this
  · have ho2 : w'.ownsRow w.heap.size 5 1 v' (L ++ [y]).length ((L ++ [y]).map (Value.int .u8)) := by simpa using ho
    obtain ⟨b', cap', rfl, hB'⟩ := Bsl.of_owns hbase ho2 (by simp)
    have := h b' cap' w' hB' (((Below.refl w.heap.size w).grown hgr (Nat.le_refl _) (fun k hk => by cases hk)).mono hbase)
    simpa using this
end Go.Proofs.YtokaomlhnmbajabDoor
