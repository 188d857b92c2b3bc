import Derived.Test.YtmnbfkehepccfaaGri
namespace Go.Proofs.Ytmnbfkehepccfaa
open Go.RowKit
set_option maxRecDepth 100000
/-- how long a shard is -/
def sz (L : List ByteArray) (j : Nat) : Nat := (L.getD j ByteArray.empty).size
/-- the numbers of those that are there, below k -/
def thr (L : List ByteArray) (k : Nat) : List Nat := (List.range k).filter (fun j => decide (sz L j ≠ 0))
theorem thr_succ (L : List ByteArray) (k : Nat) : thr L (k + 1) = if sz L k ≠ 0 then thr L k ++ [k] else thr L k := by
  unfold thr
  rw [List.range_succ, List.filter_append]
  by_cases h : sz L k ≠ 0
  · rw [if_pos h, List.filter_cons_of_pos (by simpa using h)]
    rfl
  · rw [if_neg h, List.filter_cons_of_neg (by simpa using h)]
    simp
theorem thr_len (L : List ByteArray) (k : Nat) : (thr L k).length ≤ k := by
  have := List.length_filter_le (fun j => decide (sz L j ≠ 0)) (List.range k)
  rw [List.length_range] at this
  exact this
/-- all that are there have one length -/
def frm (L : List ByteArray) (N : Nat) : Prop := ∃ ln, ln ≤ 60004 ∧ ∀ j, j < N → sz L j ≠ 0 → sz L j = ln
def nV (l : List Nat) : List Value := l.map (fun (j : Nat) => Value.int .i64 (j : Int))
structure FrI (L : List ByteArray) (w : World) (k ln : Nat) (u : Value) (wr : World) : Prop where
  row : wr.ownsRow w.heap.size 3 1 u (thr L k).length (nV (thr L k))
  bel : Below w.heap.size w wr
  le : ln ≤ 60004
  eq : ∀ j, j < k → sz L j ≠ 0 → sz L j = ln
  no : ln = 0 → ∀ j, j < k → sz L j = 0
  yes : ln ≠ 0 → ∃ j, j < k ∧ sz L j = ln
def FirQ (L : List ByteArray) (N n : Nat) (w : World) (e : Ending) (w' : World) : Prop := Below w.heap.size w w' ∧ (¬ frm L N → e = .returned (.tuple #[.slice none 0 0, .int .i64 181])) ∧ (frm L N → (thr L N).length < n → e = .returned (.tuple #[.slice none 0 0, .int .i64 182])) ∧ (frm L N → n ≤ (thr L N).length → ∃ p c, e = .returned (.tuple #[.slice p n c, .int .i64 0]) ∧ GLs w' w'.heap.size p (((thr L N).take n).map (fun (j : Nat) => (j : Int))))
end Go.Proofs.Ytmnbfkehepccfaa
