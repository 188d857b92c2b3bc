import Derived.Test.YtolblldpdgfkmaaDoorGpe
import Derived.Test.YtolblldpdgfkmaaDoorGrf
namespace Go.Proofs.YtolblldpdgfkmaaDoor
open Go.RowKit
set_option maxRecDepth 100000
theorem gr_brow : (Tryd.prog.info? 51).map (fun i => (i.zero, i.size, i.bytes)) = some (some (.slice none 0 0), 1, 24) := by kernel_rfl
/-- what newEquations answers -/
def NeQ (w : World) (Q : List (List Int)) (L : List Int) (e : Ending) (w' : World) : Prop := Below w.heap.size w w' ∧ (slvOk Q L → ∃ pu cu v, e = .returned (.tuple #[.slice pu L.length cu, .int .i64 0]) ∧ RR w.heap.size 51 5 w' (.slice pu L.length cu) L.length v (fun i => gW (L.length + 1) (slvA Q L i))) ∧ (¬ slvOk Q L → e = .returned (.tuple #[.slice none 0 0, .int .i64 1]))
theorem slvA_lt (Q : List (List Int)) (L : List Int) (i k : Nat) (hk : k < (Q.getD i []).length) : slvA Q L i k = gN ((Q.getD i []).getD k 0).toNat := by
  unfold slvA
  rw [List.getD_eq_getElem?_getD, List.getElem?_append_left hk, ← List.getD_eq_getElem?_getD]
theorem slvA_last (Q : List (List Int)) (L : List Int) (i k : Nat) (hk : k = (Q.getD i []).length) : slvA Q L i k = gN (L.getD i 0).toNat := by
  unfold slvA
  rw [List.getD_eq_getElem?_getD, List.getElem?_append_right (by omega), hk, Nat.sub_self]
  rfl
theorem row_ok (R : List Int) (x : Int) (n : Nat) (hR : R.length = n) (h1 : ∀ j, j < n → 0 ≤ R.getD j 0 ∧ R.getD j 0 < 256) (h2 : 0 ≤ x ∧ x < 256) : ∀ k, k ≤ n → 0 ≤ (R ++ [x]).getD k 0 ∧ (R ++ [x]).getD k 0 < 256 := by
  intro k hk
  by_cases e : k < n
  · rw [List.getD_eq_getElem?_getD, List.getElem?_append_left (by omega), ← List.getD_eq_getElem?_getD]
    exact h1 k e
  · obtain rfl : k = n := by omega
    rw [List.getD_eq_getElem?_getD, List.getElem?_append_right (by omega), hR, Nat.sub_self]
    exact h2
theorem row_bad (R : List Int) (x : Int) (n j : Nat) (hR : R.length = n) (hj : j < n) : (R ++ [x]).getD j 0 = R.getD j 0 := by
  rw [List.getD_eq_getElem?_getD, List.getElem?_append_left (by omega), ← List.getD_eq_getElem?_getD]
theorem row_last (R : List Int) (x : Int) (n : Nat) (hR : R.length = n) : (R ++ [x]).getD n 0 = x := by
  rw [List.getD_eq_getElem?_getD, List.getElem?_append_right (by omega), hR, Nat.sub_self]
  rfl
theorem gN_v (x : Int) (h1 : 0 ≤ x) (h2 : x < 256) : (((gN x.toNat).v : Nat) : Int) = x := by
  show ((x.toNat % 256 : Nat) : Int) = x
  omega
end Go.Proofs.YtolblldpdgfkmaaDoor
