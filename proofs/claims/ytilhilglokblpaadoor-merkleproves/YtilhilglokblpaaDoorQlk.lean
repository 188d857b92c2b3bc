import Derived.Test.YtilhilglokblpaaDoorQlh
namespace Go.Proofs.YtilhilglokblpaaDoor
open Go.RowKit
set_option maxRecDepth 100000
/-- a list that is written over: all its texts are t; only the old block and new ones turn -/
def OvI (w : World) (v0 : Value) (B : Nat) (t : ByteArray) (n : Nat) (v : Value) (W : World) : Prop := W.ownsRow B 9 1 v n (List.replicate n (.string t)) ∧ (v.ownBlock = v0.ownBlock ∨ ∀ k, v.ownBlock = some k → w.heap.size ≤ k) ∧ Only (fun k => v0.ownBlock = some k) w W
theorem OvI.app {w : World} {v0 : Value} {B : Nat} {t : ByteArray} {n : Nat} {v : Value} {wc x5 : World} {g5 cap5 : Nat} (h : OvI w v0 B t n v wc) (ho : x5.ownsRow B 9 1 (.slice (some ⟨g5, 0, none⟩) (n + 1) cap5) (n + 1) (List.replicate n (.string t) ++ [.string t])) (hg : (wc.alloc (.cells #[.string t] 9)).grownBy x5 v.ownBlock) (hat : v.ownBlock = some g5 ∨ wc.heap.size ≤ g5) : OvI w v0 B t (n + 1) (.slice (some ⟨g5, 0, none⟩) (n + 1) cap5) x5 := by
  obtain ⟨h1, h2, h3⟩ := h
  refine ⟨by rw [List.replicate_succ']; exact ho, ?_, (h3.alloc _).grown hg (fun k hk e => ?_)⟩
  · rcases hat with q | q
    · rcases h2 with r | r
      · exact .inl (by rw [← r, q]; rfl)
      · exact .inr (fun k hk => by have : g5 = k := by simpa [Value.ownBlock] using hk
                                   exact r k (by rw [q, this]))
    · exact .inr (fun k hk => by have : g5 = k := by simpa [Value.ownBlock] using hk
                                 have := h3.size
                                 omega)
  · rcases h2 with r | r
    · rw [← r]; exact e
    · have := r k e
      omega
end Go.Proofs.YtilhilglokblpaaDoor
