import Derived.Test.YtilhilglokblpaaDoorQta
namespace Go.Proofs.YtilhilglokblpaaDoor
open Go.RowKit
set_option maxRecDepth 100000
/-- a tree that has taken the leaves l, at block g -/
def TrM (w : World) (g : Nat) (l : List ByteArray) : Prop :=
  g < w.heap.size ∧ l.length ≤ 4096 ∧ Arr w g 0 .i64 [(l.length : Int)] ∧ ∀ p, p < 13 → ∃ d : ByteArray, d.size = 32 ∧ Arr w g (1 + 32 * p) .u8 (nums d) ∧ (l.length / 2 ^ p % 2 = 1 → d = rt (sg l p))
theorem TrM.below {w w' : World} {B g : Nat} {l : List ByteArray} (h : TrM w g l) (hb : Below B w w') (hB : g < B) : TrM w' g l := by
  obtain ⟨h1, h2, h3, h4⟩ := h
  refine ⟨Nat.lt_of_lt_of_le h1 hb.size, h2, h3.below hb hB, fun p hp => ?_⟩
  obtain ⟨d, e1, e2, e3⟩ := h4 p hp
  exact ⟨d, e1, e2.below hb hB, e3⟩
theorem TrM.touch {w w' : World} {b g : Nat} {l : List ByteArray} (h : TrM w g l) (ht : Touch b w w') (hc : g ≠ b) : TrM w' g l := by
  obtain ⟨h1, h2, h3, h4⟩ := h
  refine ⟨Nat.lt_of_lt_of_le h1 ht.1.size, h2, h3.touch ht hc h1, fun p hp => ?_⟩
  obtain ⟨d, e1, e2, e3⟩ := h4 p hp
  exact ⟨d, e1, e2.touch ht hc h1, e3⟩
theorem TrM.cell {w : World} {g : Nat} {l : List ByteArray} (h : TrM w g l) : w.cell? ⟨g, 0, none⟩ = some (.int .i64 (l.length : Int)) := by
  have := h.2.2.1.get0 0 (by simp)
  simpa using this
/-- the cells of a tree without leaves -/
def zT : List Value := Value.int .i64 0 :: (List.replicate 416 (0 : Int)).map (Value.int .u8)
theorem zT_tree (w : World) : TrM (w.alloc (.cells zT.toArray 49)) w.heap.size [] := by
  refine ⟨by simp, by simp, ?_, fun p hp => ⟨zB, zB_size, ?_, fun h => ?_⟩⟩
  · exact arr_new_at w .i64 [] [.int .i64 0] ((List.replicate 416 (0 : Int)).map (Value.int .u8)) [0] 49 _ rfl rfl
  · have e : nums zB = List.replicate 32 0 := nums_strOfNums _ (fun j => by rw [List.getD_eq_getElem?_getD, List.getElem?_replicate]; split <;> simp)
    rw [e]
    have := arr_new_at w .u8 (Value.int .i64 0 :: List.replicate (32 * p) (Value.int .u8 0)) (List.replicate 32 (Value.int .u8 0)) (List.replicate (384 - 32 * p) (Value.int .u8 0)) (List.replicate 32 0) 49 zT.toArray (by simp) (by
      congr 1
      unfold zT
      rw [List.map_replicate, List.cons_append, List.cons_append, List.replicate_append_replicate, List.replicate_append_replicate]
      congr 2
      omega)
    have e2 : (Value.int .i64 0 :: List.replicate (32 * p) (Value.int .u8 0)).length = 1 + 32 * p := by simp; omega
    rw [e2] at this
    exact this
  · simp at h
theorem zeroVT : ∀ w, (zeroValue 49).run Tryd.prog w = .ok (.agg zT.toArray) w := fun _ => by kernel_rfl
set_option maxHeartbeats 2000000 in
theorem tnew_any (w : World) : Calls Tryd.prog 7 #[] w fun e w' => e = .returned (.pointer (some ⟨w.heap.size, 0, none⟩)) ∧ TrM w' w.heap.size [] ∧ Below w.heap.size w w' ∧ w'.heap.size = w.heap.size + 1 := by
  have HS := hide (zT_tree w)
  have hz := zeroVT
  have hl : zT.toArray.size = 417 := by simp [zT]
  generalize zT = z at *
  go_enter Tryd.func7, Tryd.ntmps7
  go_wp2
  go_ret
  exact ⟨rfl, unhide HS, (Below.refl _ _).alloc (Nat.le_refl _) _, by simp⟩
end Go.Proofs.YtilhilglokblpaaDoor
