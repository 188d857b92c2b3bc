import Derived.Test.YtokaomlhnmbajabDoorFill
import Derived.Test.YtokaomlhnmbajabDoorDig
namespace Go.Proofs.YtokaomlhnmbajabDoor
open Go.RowKit
def nums (t : ByteArray) : List Int := t.data.toList.map (fun x => (x.toNat : Int))
theorem nums_len (t : ByteArray) : (nums t).length = t.size := by rw [nums, List.length_map]; rfl
theorem nums_bytes (t : ByteArray) : Bytes (nums t) := by
  intro j
  simp only [nums, List.getD_eq_getElem?_getD, List.getElem?_map]
  cases t.data.toList[j]? with
  | none => simp
  | some x => have := x.toNat_lt; simp; omega
theorem comps_pre (s : H8) (l m : List Int) : ∀ k, 64 * k ≤ l.length → comps s (l ++ m) k = comps s l k
  | 0, _ => rfl
  | k + 1, h => by
    rw [comps, comps, comps_pre s l m k (by omega)]
    congr 1
    rw [List.drop_append_of_le_length (by omega), List.take_append_of_le_length (by simp; omega)]
/-- At block b lies a Hasher that has taken l. -/
def Hs (w : World) (b : Nat) (l : List Int) : Prop :=
  ∃ q : List Int, q.length = 64 ∧ Bytes q ∧ HAt w b (comps start8 l (l.length / 64)) q l.length ∧ q.take (l.length % 64) = l.drop (64 * (l.length / 64))
/-- w' is w but for block b and new blocks. -/
def Touch (b : Nat) (w w' : World) : Prop := Below b w w' ∧ ∀ k, b < k → k < w.heap.size → w'.heap[k]? = w.heap[k]?
theorem Touch.refl (b : Nat) (w : World) : Touch b w w := ⟨Below.refl _ _, fun _ _ _ => rfl⟩
theorem Touch.trans {b : Nat} {w w1 w2 : World} (h : Touch b w w1) (k : Touch b w1 w2) : Touch b w w2 :=
  ⟨h.1.trans k.1, fun j hj hs => (k.2 j hj (Nat.lt_of_lt_of_le hs h.1.size)).trans (h.2 j hj hs)⟩
theorem Touch.of_below {b : Nat} {w w' : World} (h : Below w.heap.size w w') (hb : b ≤ w.heap.size) : Touch b w w' := ⟨h.mono hb, fun k _ hs => h.block k hs⟩
theorem Touch.drew {b : Nat} {w w' : World} (h : Touch b w w') : Touch b w w'.drew := ⟨h.1.drew, h.2⟩
theorem Touch.drewN {b : Nat} {w w' : World} (h : Touch b w w') (n : Nat) : Touch b w (w'.drewN n) := ⟨below_drewN h.1 n, h.2⟩
theorem Touch.setCell {b : Nat} {w w' : World} (h : Touch b w w') (o : Nat) (v : Value) : Touch b w (w'.setCell ⟨b, o, none⟩ v) :=
  ⟨h.1.setCell (Nat.le_refl _) v, fun k hk hs => by rw [Below.heap_setCell _ _ _ _ (by simp; omega)]; exact h.2 k hk hs⟩
theorem Touch.setCells {b : Nat} {w : World} : ∀ (vs : List Value) (o : Nat) {w' : World}, Touch b w w' → Touch b w (w'.setCells b o vs)
  | [], _, _, h => h
  | v :: r, o, w', h => by
    rw [World.setCells]
    exact Touch.setCells r (o + 1) (h.setCell o v)
theorem Touch.cell {b : Nat} {w w' : World} (h : Touch b w w') {c : Nat} (hc : c ≠ b) (hs : c < w.heap.size) (o : Nat) : w'.cell? ⟨c, o, none⟩ = w.cell? ⟨c, o, none⟩ := by
  refine World.cell?_of_block (w := w) ?_
  rcases Nat.lt_or_gt_of_ne hc with h1 | h1
  · exact h.1.block c h1
  · exact h.2 c h1 hs
theorem Touch.frozen {b : Nat} {w w' : World} (h : Touch b w w') {c : Nat} (hc : c ≠ b) (hs : c < w.heap.size) (o : Nat) : w'.frozen? ⟨c, o, none⟩ = w.frozen? ⟨c, o, none⟩ := by
  refine World.frozen?_of_block (w := w) ?_
  rcases Nat.lt_or_gt_of_ne hc with h1 | h1
  · exact h.1.block c h1
  · exact h.2 c h1 hs
theorem Arr.touch {w w' : World} {b c o : Nat} {k : IntKind} {l : List Int} (h : Arr w c o k l) (ht : Touch b w w') (hc : c ≠ b) (hs : c < w.heap.size) : Arr w' c o k l := by
  intro j hj
  rw [ht.cell hc hs, ht.frozen hc hs]
  exact h j hj
theorem Hs.touch {w w' : World} {b c : Nat} {l : List Int} (h : Hs w c l) (ht : Touch b w w') (hc : c ≠ b) (hs : c < w.heap.size) : Hs w' c l := by
  obtain ⟨q, h1, h2, h3, h4⟩ := h
  exact ⟨q, h1, h2, ⟨h3.1.touch ht hc hs, h3.2.1.touch ht hc hs, h3.2.2.touch ht hc hs⟩, h4⟩
theorem Hs.below {w w' : World} {B b : Nat} {l : List Int} (h : Hs w b l) (hb : Below B w w') (hB : b < B) : Hs w' b l := by
  obtain ⟨q, h1, h2, h3, h4⟩ := h
  exact ⟨q, h1, h2, h3.below hb hB, h4⟩
theorem KTab.touch {w w' : World} {b : Nat} (h : KTab w) (ht : Touch b w w') (hb : 0 < b) : KTab w' := h.below ht.1 hb
theorem zeroV46 : ∀ w, (zeroValue 46).run Tryd.prog w = .ok (.agg #[.int .u32 0, .int .u32 0, .int .u32 0, .int .u32 0, .int .u32 0, .int .u32 0, .int .u32 0, .int .u32 0, .int .u8 0, .int .u8 0, .int .u8 0, .int .u8 0, .int .u8 0, .int .u8 0, .int .u8 0, .int .u8 0, .int .u8 0, .int .u8 0, .int .u8 0, .int .u8 0, .int .u8 0, .int .u8 0, .int .u8 0, .int .u8 0, .int .u8 0, .int .u8 0, .int .u8 0, .int .u8 0, .int .u8 0, .int .u8 0, .int .u8 0, .int .u8 0, .int .u8 0, .int .u8 0, .int .u8 0, .int .u8 0, .int .u8 0, .int .u8 0, .int .u8 0, .int .u8 0, .int .u8 0, .int .u8 0, .int .u8 0, .int .u8 0, .int .u8 0, .int .u8 0, .int .u8 0, .int .u8 0, .int .u8 0, .int .u8 0, .int .u8 0, .int .u8 0, .int .u8 0, .int .u8 0, .int .u8 0, .int .u8 0, .int .u8 0, .int .u8 0, .int .u8 0, .int .u8 0, .int .u8 0, .int .u8 0, .int .u8 0, .int .u8 0, .int .u8 0, .int .u8 0, .int .u8 0, .int .u8 0, .int .u8 0, .int .u8 0, .int .u8 0, .int .u8 0, .int .i64 0]) w := (zero_of_info (P := Tryd.prog) (t := 46) (v := .agg #[.int .u32 0, .int .u32 0, .int .u32 0, .int .u32 0, .int .u32 0, .int .u32 0, .int .u32 0, .int .u32 0, .int .u8 0, .int .u8 0, .int .u8 0, .int .u8 0, .int .u8 0, .int .u8 0, .int .u8 0, .int .u8 0, .int .u8 0, .int .u8 0, .int .u8 0, .int .u8 0, .int .u8 0, .int .u8 0, .int .u8 0, .int .u8 0, .int .u8 0, .int .u8 0, .int .u8 0, .int .u8 0, .int .u8 0, .int .u8 0, .int .u8 0, .int .u8 0, .int .u8 0, .int .u8 0, .int .u8 0, .int .u8 0, .int .u8 0, .int .u8 0, .int .u8 0, .int .u8 0, .int .u8 0, .int .u8 0, .int .u8 0, .int .u8 0, .int .u8 0, .int .u8 0, .int .u8 0, .int .u8 0, .int .u8 0, .int .u8 0, .int .u8 0, .int .u8 0, .int .u8 0, .int .u8 0, .int .u8 0, .int .u8 0, .int .u8 0, .int .u8 0, .int .u8 0, .int .u8 0, .int .u8 0, .int .u8 0, .int .u8 0, .int .u8 0, .int .u8 0, .int .u8 0, .int .u8 0, .int .u8 0, .int .u8 0, .int .u8 0, .int .u8 0, .int .u8 0, .int .i64 0]) (n := 73) (by kernel_rfl)).1
set_option maxRecDepth 100000 in
set_option maxHeartbeats 400000 in
theorem new_any (w : World) :
    Calls Tryd.prog 6 #[] w fun e w' => e = .returned (.pointer (some ⟨w.heap.size, 0, none⟩)) ∧ Hs w' w.heap.size [] ∧ Below w.heap.size w w' ∧ w'.heap.size = w.heap.size + 1 := by
  have hs : Hs (w.alloc (Obj.cells (hCells start8 (List.replicate 64 0) 0).toArray 46)) w.heap.size [] :=
    ⟨List.replicate 64 0, by simp, bytes_zeros _, hat_new w start8 (List.replicate 64 0) 0 (by simp) 46, by simp⟩
  have HS := hide hs
  clear hs
  have hz := zeroV46
  go_enter Tryd.func6, Tryd.ntmps6
  go_wp2
  go_ret
  exact ⟨rfl, unhide HS, (Below.refl _ _).alloc (Nat.le_refl _) _, by simp⟩
set_option maxHeartbeats 400000 in
theorem len_any (w : World) (b : Nat) (l : List Int) (h : Hs w b l) :
    Calls Tryd.prog 11 #[.pointer (some ⟨b, 0, none⟩)] w fun e w' => e = .returned (.int .i64 (l.length : Int)) ∧ w' = w := by
  obtain ⟨q, h1, h2, h3, h4⟩ := h
  have c := cell72 h3
  clear h3 h4
  go_enter Tryd.func11, Tryd.ntmps11
  go_wp2
  go_ret
  exact ⟨rfl, rfl⟩
set_option maxHeartbeats 400000 in
theorem len_nil (w : World) : Calls Tryd.prog 11 #[.pointer none] w fun e w' => e = .returned (.int .i64 0) ∧ w' = w := by
  go_enter Tryd.func11, Tryd.ntmps11
  go_wp2
  go_ret
  exact ⟨rfl, rfl⟩
end Go.Proofs.YtokaomlhnmbajabDoor
