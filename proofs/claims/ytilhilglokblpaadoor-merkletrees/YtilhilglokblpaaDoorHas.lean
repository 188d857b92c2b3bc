import Derived.Test.YtilhilglokblpaaDoorBas
import Derived.Test.YtilhilglokblpaaDoorFill
import Derived.Test.YtilhilglokblpaaDoorDig
namespace Go.Proofs.YtilhilglokblpaaDoor
open Go.RowKit
theorem comps_pre (s : H8) (l m : List Int) : ∀ k, 64 * k ≤ l.length → comps s (l ++ m) k = comps s l k
  | 0, _ => rfl
  | k + 1, h => by
    rw [comps, comps, comps_pre s l m k (by omega)]
    congr 1
    rw [List.drop_append_of_le_length (by omega), List.take_append_of_le_length (by simp; omega)]
/-- At block b lies a Hasher that has taken l. -/
def Hs (w : World) (b : Nat) (l : List Int) : Prop :=
  ∃ q : List Int, q.length = 64 ∧ Bytes q ∧ HAt w b (comps start8 l (l.length / 64)) q l.length ∧ q.take (l.length % 64) = l.drop (64 * (l.length / 64))
theorem Hs.touch {w w' : World} {b c : Nat} {l : List Int} (h : Hs w c l) (ht : Touch b w w') (hc : c ≠ b) (hs : c < w.heap.size) : Hs w' c l := by
  obtain ⟨q, h1, h2, h3, h4⟩ := h
  exact ⟨q, h1, h2, ⟨h3.1.touch ht hc hs, h3.2.1.touch ht hc hs, h3.2.2.touch ht hc hs⟩, h4⟩
theorem Hs.below {w w' : World} {B b : Nat} {l : List Int} (h : Hs w b l) (hb : Below B w w') (hB : b < B) : Hs w' b l := by
  obtain ⟨q, h1, h2, h3, h4⟩ := h
  exact ⟨q, h1, h2, h3.below hb hB, h4⟩
theorem KTab.touch {w w' : World} {b : Nat} (h : KTab w) (ht : Touch b w w') (hb : 2 < b) : KTab w' := h.below ht.1 hb
theorem zeroV97 : ∀ w, (zeroValue 97).run Tryd.prog w = .ok (.agg #[.int .u32 0, .int .u32 0, .int .u32 0, .int .u32 0, .int .u32 0, .int .u32 0, .int .u32 0, .int .u32 0, .int .u8 0, .int .u8 0, .int .u8 0, .int .u8 0, .int .u8 0, .int .u8 0, .int .u8 0, .int .u8 0, .int .u8 0, .int .u8 0, .int .u8 0, .int .u8 0, .int .u8 0, .int .u8 0, .int .u8 0, .int .u8 0, .int .u8 0, .int .u8 0, .int .u8 0, .int .u8 0, .int .u8 0, .int .u8 0, .int .u8 0, .int .u8 0, .int .u8 0, .int .u8 0, .int .u8 0, .int .u8 0, .int .u8 0, .int .u8 0, .int .u8 0, .int .u8 0, .int .u8 0, .int .u8 0, .int .u8 0, .int .u8 0, .int .u8 0, .int .u8 0, .int .u8 0, .int .u8 0, .int .u8 0, .int .u8 0, .int .u8 0, .int .u8 0, .int .u8 0, .int .u8 0, .int .u8 0, .int .u8 0, .int .u8 0, .int .u8 0, .int .u8 0, .int .u8 0, .int .u8 0, .int .u8 0, .int .u8 0, .int .u8 0, .int .u8 0, .int .u8 0, .int .u8 0, .int .u8 0, .int .u8 0, .int .u8 0, .int .u8 0, .int .u8 0, .int .i64 0]) w := (zero_of_info (P := Tryd.prog) (t := 97) (v := .agg #[.int .u32 0, .int .u32 0, .int .u32 0, .int .u32 0, .int .u32 0, .int .u32 0, .int .u32 0, .int .u32 0, .int .u8 0, .int .u8 0, .int .u8 0, .int .u8 0, .int .u8 0, .int .u8 0, .int .u8 0, .int .u8 0, .int .u8 0, .int .u8 0, .int .u8 0, .int .u8 0, .int .u8 0, .int .u8 0, .int .u8 0, .int .u8 0, .int .u8 0, .int .u8 0, .int .u8 0, .int .u8 0, .int .u8 0, .int .u8 0, .int .u8 0, .int .u8 0, .int .u8 0, .int .u8 0, .int .u8 0, .int .u8 0, .int .u8 0, .int .u8 0, .int .u8 0, .int .u8 0, .int .u8 0, .int .u8 0, .int .u8 0, .int .u8 0, .int .u8 0, .int .u8 0, .int .u8 0, .int .u8 0, .int .u8 0, .int .u8 0, .int .u8 0, .int .u8 0, .int .u8 0, .int .u8 0, .int .u8 0, .int .u8 0, .int .u8 0, .int .u8 0, .int .u8 0, .int .u8 0, .int .u8 0, .int .u8 0, .int .u8 0, .int .u8 0, .int .u8 0, .int .u8 0, .int .u8 0, .int .u8 0, .int .u8 0, .int .u8 0, .int .u8 0, .int .u8 0, .int .i64 0]) (n := 73) (by kernel_rfl)).1
set_option maxRecDepth 100000 in
set_option maxHeartbeats 400000 in
theorem hs_new_any (w : World) :
    Calls Tryd.prog 51 #[] w fun e w' => e = .returned (.pointer (some ⟨w.heap.size, 0, none⟩)) ∧ Hs w' w.heap.size [] ∧ Below w.heap.size w w' ∧ w'.heap.size = w.heap.size + 1 := by
  have hs : Hs (w.alloc (Obj.cells (hCells start8 (List.replicate 64 0) 0).toArray 97)) w.heap.size [] :=
    ⟨List.replicate 64 0, by simp, bytes_zeros _, hat_new w start8 (List.replicate 64 0) 0 (by simp) 97, by simp⟩
  have HS := hide hs
  clear hs
  have hz := zeroV97
  go_enter Tryd.func51, Tryd.ntmps51
  go_wp2
  go_ret
  exact ⟨rfl, unhide HS, (Below.refl _ _).alloc (Nat.le_refl _) _, by simp⟩
end Go.Proofs.YtilhilglokblpaaDoor
