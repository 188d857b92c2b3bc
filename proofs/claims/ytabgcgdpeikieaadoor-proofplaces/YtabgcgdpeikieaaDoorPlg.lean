import Derived.Test.YtabgcgdpeikieaaDoorPlf
import Derived.Test.YtabgcgdpeikieaaDoorPle
namespace Go.Proofs.YtabgcgdpeikieaaDoor
open Go.RowKit Go.Conc
set_option maxRecDepth 100000
theorem plO_rise (dr dg : ByteArray) (k : Nat) (h : k + 1 < (plO dr dg).length) : (plO dr dg).getD k 0 < (plO dr dg).getD (k + 1) 0 := by
  have hp : (plO dr dg).Pairwise (· < ·) := by
    unfold plO
    split
    · unfold plR
      exact List.Pairwise.filter _ List.pairwise_lt_range
    · exact List.Pairwise.nil
  have := List.pairwise_iff_getElem.1 hp k (k + 1) (by omega) h (by omega)
  rw [List.getD_eq_getElem?_getD, List.getD_eq_getElem?_getD, List.getElem?_eq_getElem h, List.getElem?_eq_getElem (show k < (plO dr dg).length by omega)]
  exact this
theorem ups_ups {α : Type} (f : Nat → α) (k : Nat) (x y : α) : ups (ups f k x) k y = ups f k y := by
  funext j
  by_cases e : j = k
  · subst e; rw [ups_same, ups_same]
  · rw [ups_ne _ _ _ _ e, ups_ne _ _ _ _ e, ups_ne _ _ _ _ e]
/-- The law's challenge. -/
def xC (c : Int) (n : Int) : Chl := ⟨n, (ofV c : Int), (ofB c : Int), ofD c, ofW c, fun j => (((plO (drB c) (ofD c)).getD j 0 : Nat) : Int)⟩
/-- What is pending behind the first offer and k more. -/
def LS (c : Int) : Nat → List Chl
  | 0 => [xC c 1]
  | k + 1 => pushL (LS c k) (xC (k : Int) ((k : Int) + 2))
theorem LS_facts (c : Int) (m : Nat) (h : m ≤ 6) : ((m ≤ 3 → (ncs (LS c m)).length = m + 1) ∧ (3 < m → (ncs (LS c m)).length = 4)) ∧ (ncs (LS c m)).getD ((ncs (LS c m)).length - 1) 0 = (m : Int) + 1 ∧ (ncs (LS c m)).getD 0 0 = (m : Int) + 2 - ((ncs (LS c m)).length : Int) := by
  have hm : m = 0 ∨ m = 1 ∨ m = 2 ∨ m = 3 ∨ m = 4 ∨ m = 5 ∨ m = 6 := by omega
  rcases hm with rfl | rfl | rfl | rfl | rfl | rfl | rfl <;> simp [LS, pushL, ncs, xC]
theorem LS_tk (c : Int) (m : Nat) (h : m ≤ 3) : tk 1 (LS c m) (LS c m).length = some (xC c 1) := by
  have hm : m = 0 ∨ m = 1 ∨ m = 2 ∨ m = 3 := by omega
  rcases hm with rfl | rfl | rfl | rfl <;> simp [LS, pushL, tk, xC]
theorem LS_tk_no (c : Int) (m : Nat) (h : m ≤ 6) (h3 : 3 < m) : tk 1 (LS c m) (LS c m).length = none := by
  have hm : m = 4 ∨ m = 5 ∨ m = 6 := by omega
  rcases hm with rfl | rfl | rfl <;> simp [LS, pushL, tk, xC]
theorem tk_none_of {m : Int} {l : List Chl} (h : ∀ x, x ∈ l → x.n ≠ m) : ∀ k, tk m l k = none
  | 0 => rfl
  | k + 1 => by
    rw [tk]
    cases e : l[k]? with
    | none => exact tk_none_of h k
    | some x =>
      simp only []
      rw [if_neg (h x (List.mem_of_getElem? e))]
      exact tk_none_of h k
theorem tk_rmv (m : Int) (l : List Chl) (k : Nat) : tk m (rmv m l) k = none := tk_none_of (fun x hx => by
  have := (List.mem_filter.1 hx).2
  simpa using this) k
end Go.Proofs.YtabgcgdpeikieaaDoor
