import Derived.Test.YtilhilglokblpaaDoorHas
namespace Go.Proofs.YtilhilglokblpaaDoor
open Go.RowKit
theorem padded_eq (l : List Int) : padded l = l ++ ([128] ++ List.replicate ((119 - l.length % 64) % 64) 0 ++ lenB l.length) := by
  simp [padded, lenB]
theorem sha_fin (l : List Int) : sha l = outBytes (fin (comps start8 l (l.length / 64)) (l.drop (64 * (l.length / 64))) l.length) := by
  unfold sha
  congr 1
  obtain ⟨n, hn⟩ : ∃ n, n = l.length := ⟨_, rfl⟩
  obtain ⟨r, hr⟩ : ∃ r, r = l.drop (64 * (n / 64)) := ⟨_, rfl⟩
  have hrl : r.length = n % 64 := by rw [hr, List.length_drop, ← hn]; omega
  rw [padded_eq, ← hn, ← hr]
  by_cases h56 : 56 < n % 64 + 1
  · have e1 : (119 - n % 64) % 64 = 119 - n % 64 := by omega
    have hlen : (l ++ ([128] ++ List.replicate ((119 - n % 64) % 64) 0 ++ lenB n)).length / 64 = n / 64 + 2 := by
      simp only [List.length_append, List.length_cons, List.length_nil, List.length_replicate, lenB_len, e1, ← hn]; omega
    have hm : ([128] ++ List.replicate ((119 - n % 64) % 64) (0 : Int) ++ lenB n).length = 128 - n % 64 := by
      simp only [List.length_append, List.length_cons, List.length_nil, List.length_replicate, lenB_len, e1]; omega
    have hsplit : [128] ++ List.replicate ((119 - n % 64) % 64) (0 : Int) ++ lenB n = ([128] ++ List.replicate (63 - n % 64) 0) ++ (List.replicate 56 0 ++ lenB n) := by
      rw [e1, show 119 - n % 64 = 63 - n % 64 + 56 by omega, ← List.replicate_append_replicate]
      simp
    have hx : (r ++ ([128] ++ List.replicate (63 - n % 64) (0 : Int))).length = 64 := by
      simp only [List.length_append, List.length_cons, List.length_nil, List.length_replicate, hrl]; omega
    rw [hlen, fin, if_pos (by omega), comps, comps, comps_pre _ _ _ _ (by omega)]
    have d1 : (l ++ ([128] ++ List.replicate ((119 - n % 64) % 64) 0 ++ lenB n)).drop (64 * (n / 64)) = (r ++ ([128] ++ List.replicate (63 - n % 64) (0 : Int))) ++ (List.replicate 56 0 ++ lenB n) := by
      rw [List.drop_append_of_le_length (by omega), ← hr, hsplit, List.append_assoc r]
    have d2 : (l ++ ([128] ++ List.replicate ((119 - n % 64) % 64) 0 ++ lenB n)).drop (64 * (n / 64 + 1)) = List.replicate 56 0 ++ lenB n := by
      rw [show 64 * (n / 64 + 1) = 64 * (n / 64) + 64 by omega, ← List.drop_drop, d1, List.drop_append_of_le_length (by omega), List.drop_of_length_le (by omega), List.nil_append]
    rw [d1, d2, List.take_append_of_le_length (by omega), List.take_of_length_le (by omega), List.take_of_length_le (by simp [lenB_len]), hrl, List.append_assoc r]
  · have e1 : (119 - n % 64) % 64 = 55 - n % 64 := by omega
    have hlen : (l ++ ([128] ++ List.replicate ((119 - n % 64) % 64) 0 ++ lenB n)).length / 64 = n / 64 + 1 := by
      simp only [List.length_append, List.length_cons, List.length_nil, List.length_replicate, lenB_len, e1, ← hn]; omega
    rw [hlen, fin, if_neg (by omega), comps, comps_pre _ _ _ _ (by omega), List.drop_append_of_le_length (by omega), ← hr, e1, hrl]
    rw [List.take_of_length_le (by simp only [List.length_append, List.length_cons, List.length_nil, List.length_replicate, lenB_len, hrl]; omega)]
    simp
theorem sha_len (l : List Int) : (sha l).length = 32 := out_len _
theorem HAt.range {w : World} {b : Nat} {s : H8} {q : List Int} {n : Nat} (h : HAt w b s q n) (hq : q.length = 64) : w.rangeAt b 0 (hCells s q n) := by
  intro j v hv
  have h8 : (s.vals.map (Value.int .u32)).length = 8 := by simp [H8.vals]
  have h64 : (q.map (Value.int .u8)).length = 64 := by simp [hq]
  unfold hCells at hv
  rw [List.append_assoc] at hv
  by_cases h1 : j < 8
  · rw [List.getElem?_append_left (by omega)] at hv
    exact h.1.range j v hv
  · rw [List.getElem?_append_right (by omega), h8] at hv
    by_cases h2 : j < 72
    · rw [List.getElem?_append_left (by omega)] at hv
      have := h.2.1.range (j - 8) v hv
      rwa [show 0 + j = 8 + (j - 8) by omega]
    · rw [List.getElem?_append_right (by omega), h64] at hv
      obtain ⟨hj, e⟩ := List.getElem?_eq_some_iff.1 hv
      simp at hj
      have hj72 : j = 72 := by omega
      subst hj72
      simp at hv
      rw [← hv]
      simpa using cell72 h
end Go.Proofs.YtilhilglokblpaaDoor
