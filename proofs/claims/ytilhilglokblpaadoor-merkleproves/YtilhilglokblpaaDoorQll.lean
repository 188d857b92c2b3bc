import Derived.Test.YtilhilglokblpaaDoorQlf
import Derived.Test.YtilhilglokblpaaDoorQrg
import Derived.Test.YtilhilglokblpaaDoorQlk
import Derived.Test.YtilhilglokblpaaDoorQmh
namespace Go.Proofs.YtilhilglokblpaaDoor
open Go.RowKit
set_option maxRecDepth 100000
theorem own_cc {w : World} {B n c : Nat} {p : Option Addr} {xs : List Value} (h : w.ownsRow B 9 1 (.slice p n c) n xs) : n ≤ c ∧ c ≤ 9223372036854775807 := by
  rcases h.2 with ⟨e1, e2⟩ | ⟨g2, cap2, cur2, e1, _, _, hn2, hc2, _⟩
  · injection e1 with _ _ e3
    omega
  · injection e1 with _ _ e3
    subst e3
    exact ⟨hn2, hc2⟩
theorem own_same {w w' : World} {g B n : Nat} {v : Value} {xs : List Value} (h : w.ownsRow B 9 1 v n xs) (hk : ∀ k, k ≠ g → w'.heap[k]? = w.heap[k]?) (hB : g + 1 ≤ B) : w'.ownsRow B 9 1 v n xs := by
  refine ⟨h.1, ?_⟩
  rcases h.2 with hn | ⟨g', cap, cur, rfl, hb, hg, rest⟩
  · exact .inl hn
  · exact .inr ⟨g', cap, cur, rfl, hb, (hk g' (by omega)).trans hg, rest⟩
theorem paL_len (l : List ByteArray) (i : Int) : (paL l i).length ≤ l.length := by
  unfold paL
  split
  · exact pt_len _ l rfl _
  · simp
theorem ck_pt (l : List ByteArray) (q i : Nat) (hq : l.length = q) (hi : i < q) : ckE (rt l) (q : Int) (i : Int) (l.getD i ⟨#[]⟩) (pt l i) = if q ≤ 4096 then 0 else 190 := by
  unfold ckE
  rw [if_pos (rt_size _)]
  by_cases h : q ≤ 4096
  · rw [if_pos h, if_pos (by omega), Int.toNat_natCast, Int.toNat_natCast]
    obtain ⟨T, h1, _, h3⟩ := up_pt _ l rfl i (by omega)
    rw [hq] at h1
    rw [h1]
    exact if_pos h3
  · rw [if_neg h, if_neg (by omega)]
end Go.Proofs.YtilhilglokblpaaDoor
