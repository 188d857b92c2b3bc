import Derived.WalkKit
namespace Go.Proofs.YtkmgbicacbalfabDoor
theorem ext_data {a b : ByteArray} (h : a.data = b.data) : a = b := by cases a; cases b; simp_all
/-- A body with another slot: what stands beside it. -/
theorem set_beside (body s : ByteArray) (I S a b : Nat) (hs : s.size = S) (hI : I + S ≤ body.size) (hb : b ≤ body.size) (hab : a ≤ b) (h : b ≤ I ∨ I + S ≤ a) :
    (body.extract 0 I ++ s ++ body.extract (I + S) body.size).extract a b = body.extract a b := by
  apply ext_data
  have hs' : s.data.size = S := hs
  have hn : body.data.size = body.size := rfl
  simp only [ByteArray.data_extract, ByteArray.data_append, Array.extract_append, Array.extract_extract, Array.size_extract, Array.size_append]
  rcases h with h | h
  · have e1 : s.data.extract (a - (min I body.data.size - 0)) (b - (min I body.data.size - 0)) = #[] := by
      apply Array.extract_empty_of_stop_le_start
      omega
    have e2 : body.data.extract (I + S + (a - (min I body.data.size - 0 + s.data.size))) (min (I + S + (b - (min I body.data.size - 0 + s.data.size))) body.size) = #[] := by
      apply Array.extract_empty_of_stop_le_start
      omega
    rw [e1, e2]
    simp
    congr 1
    omega
  · have e1 : s.data.extract (a - (min I body.data.size - 0)) (b - (min I body.data.size - 0)) = #[] := by
      apply Array.extract_empty_of_size_le_start
      omega
    have e2 : body.data.extract (0 + a) (min (0 + b) I) = #[] := by
      apply Array.extract_empty_of_stop_le_start
      omega
    rw [e1, e2]
    simp
    congr 1 <;> omega
theorem set_there (body s : ByteArray) (I S : Nat) (hs : s.size = S) (hI : I + S ≤ body.size) :
    (body.extract 0 I ++ s ++ body.extract (I + S) body.size).extract I (I + S) = s := by
  apply ext_data
  have hs' : s.data.size = S := hs
  have hn : body.data.size = body.size := rfl
  simp only [ByteArray.data_extract, ByteArray.data_append, Array.extract_append, Array.extract_extract, Array.size_extract, Array.size_append]
  have e1 : body.data.extract (0 + I) (min (0 + (I + S)) I) = #[] := by
    apply Array.extract_empty_of_stop_le_start
    omega
  have e2 : body.data.extract (I + S + (I - (min I body.data.size - 0 + s.data.size))) (min (I + S + (I + S - (min I body.data.size - 0 + s.data.size))) body.size) = #[] := by
    apply Array.extract_empty_of_stop_le_start
    omega
  rw [e1, e2]
  have e3 : s.data.extract (I - (min I body.data.size - 0)) (I + S - (min I body.data.size - 0)) = s.data := by
    rw [show I - (min I body.data.size - 0) = 0 by omega, show I + S - (min I body.data.size - 0) = s.data.size by omega]
    simp
  rw [e3]
  simp
end Go.Proofs.YtkmgbicacbalfabDoor
