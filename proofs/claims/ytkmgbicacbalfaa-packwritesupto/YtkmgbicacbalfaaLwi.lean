import Derived.Test.YtkmgbicacbalfaaLwh
import Derived.BigQuiet
namespace Go.Proofs.Ytkmgbicacbalfaa
open Go.RowKit
/-- What a list that was lent holds: the numbers, and two marks. -/
def lent3 (L : List Int) : List Int := L ++ [71, 72]
theorem lent3_lt (L : List Int) (k : Nat) (h : k < L.length) : (lent3 L).getD k 0 = L.getD k 0 := by
  simp [lent3, List.getD_eq_getElem?_getD, List.getElem?_append_left h]
theorem lent3_ge (L : List Int) (k : Nat) (h : ¬ k < L.length) (h2 : k < L.length + 2) : (lent3 L).getD k 0 = 71 + (k : Int) - (L.length : Int) := by
  rw [lent3, List.getD_eq_getElem?_getD, List.getElem?_append_right (by omega)]
  rcases (show k = L.length ∨ k = L.length + 1 by omega) with rfl | rfl
  · simp
  · rw [show L.length + 1 - L.length = 1 by omega]
    simp
    omega
set_option maxRecDepth 100000 in
set_option maxHeartbeats 1000000 in
theorem back3_any (w : World) (g cap : Nat) (L : List Int) (p : Option Addr) (c : Nat) (hL : Inl w p L) (hll : L.length ≤ 1000000000) (hg : ∀ o, p ≠ some ⟨g, o, none⟩)
    (hr : Blk w g ((lent3 L).map (Value.int .i64)).toArray 3) :
    Calls Try.prog 21 #[.slice (some ⟨g, 0, none⟩) (L.length + 2) cap, .slice p L.length c] w fun e w' => e = .returned (.bool true) ∧ Only (fun k => k = g) w w' := by
  have HL := hide hL
  have HG := hide hg
  have HR := hide hr
  clear hL hg hr
  go_enter Try.func21, Try.ntmps21
  go_wp2
  go_loopw [5, 6, 7] (fun ok i _ wr => ∃ k : Nat, k ≤ L.length + 2 ∧ i = .int .i64 (k : Int) ∧ ok = .bool true ∧ Only (fun k => k = g) w wr ∧ ∃ ys : Array Value, Blk wr g ys 3 ∧ ∀ j, k ≤ j → j < L.length + 2 → ys[j]? = some (.int .i64 ((lent3 L).getD j 0))) (fun _ i _ _ => L.length + 2 - (intOf i).toNat)
  case atStart => exact ⟨0, by omega, rfl, rfl, Only.refl _ _, _, unhide HR, fun j _ hj => by
    have hj' : j < (lent3 L).length := by simp [lent3]; omega
    simp only [List.getElem?_toArray, List.getElem?_map]
    rw [getD_at (lent3 L) j hj']
    rfl⟩
  case round =>
    obtain ⟨k, hk, rfl, rfl, hO, ys, hY, hys⟩ := hrel
    have XO := hide hO
    have XY := hide hY
    have XS := hide hys
    clear hO hY hys
    by_cases hkl : k < L.length + 2
    · have hc : wr.cell? ⟨g, k, none⟩ = some (.int .i64 ((lent3 L).getD k 0)) := by rw [(unhide XY).cell k]; exact unhide XS k (Nat.le_refl _) hkl
      have hf : wr.frozen? ⟨g, k, none⟩ = false := (unhide XY).frozen k
      have i0 : 0 ≤ (k : Int) := by omega
      have i1 : (k : Int) < ((L.length + 2 : Nat) : Int) := by omega
      have w1 : IntKind.i64.wrap (71 + (k : Int)) = 71 + (k : Int) := wrapI_eq _ (by omega) (by omega)
      have w2 : IntKind.i64.wrap (71 + (k : Int) - (L.length : Int)) = 71 + (k : Int) - (L.length : Int) := wrapI_eq _ (by omega) (by omega)
      by_cases hk2 : k < L.length
      · obtain ⟨gl, ol, rfl, hgl, hcl0⟩ : ∃ lb lo, p = some ⟨lb, lo, none⟩ ∧ lb < w.heap.size ∧ w.cell? ⟨lb, lo + k, none⟩ = some (.int .i64 (L.getD k 0)) := by
          rcases unhide HL with q | ⟨lb, lo, e1, e2, e3⟩
          · rw [q] at hk2; cases hk2
          · exact ⟨lb, lo, e1, e2, e3 k hk2⟩
        have hne : gl ≠ g := fun e => unhide HG ol (by rw [e])
        have hcl : wr.cell? ⟨gl, ol + k, none⟩ = some (.int .i64 (L.getD k 0)) := (World.cell?_of_block (a := ⟨gl, ol + k, none⟩) ((unhide XO).2 gl hgl hne)).trans hcl0
        have i2 : (k : Int) < (L.length : Int) := by omega
        rw [lent3_lt L k hk2] at hc
        clear hcl0 hne
        generalize L.getD k 0 = z at *
        go_wp2
        go_roundw
        case rel =>
          refine ⟨k + 1, by omega, by go_num, by simp, (unhide XO).setCell _ _ (fun _ => rfl), _, (unhide XY).set k _, fun j hj hj2 => ?_⟩
          rw [Array.getElem?_setIfInBounds_ne (by omega)]
          exact unhide XS j (by omega) hj2
        case measure => simp [intOf]; omega
      · rw [lent3_ge L k hk2 hkl] at hc
        have i2 : (L.length : Int) ≤ (k : Int) := by omega
        go_wp2
        go_roundw
        case rel =>
          refine ⟨k + 1, by omega, by go_num, by simp, (unhide XO).setCell _ _ (fun _ => rfl), _, (unhide XY).set k _, fun j hj hj2 => ?_⟩
          rw [Array.getElem?_setIfInBounds_ne (by omega)]
          exact unhide XS j (by omega) hj2
        case measure => simp [intOf]; omega
    · go_wp2
      go_ret
      exact ⟨rfl, unhide XO⟩
set_option maxRecDepth 100000 in
set_option maxHeartbeats 1000000 in
theorem back3_nil (w : World) (p : Option Addr) (c : Nat) :
    Calls Try.prog 21 #[.slice none 0 0, .slice p 0 c] w fun e w' => e = .returned (.bool true) ∧ w' = w := by
  go_enter Try.func21, Try.ntmps21
  go_wp2
  go_loopw [5, 6, 7] (fun ok i _ wr => i = .int .i64 0 ∧ ok = .bool true ∧ wr = w) (fun _ i _ _ => (intOf i).toNat)
  case atStart => exact ⟨rfl, rfl, rfl⟩
  case round =>
    obtain ⟨rfl, rfl, rfl⟩ := hrel
    go_wp2
    go_ret
    exact ⟨rfl, rfl⟩
end Go.Proofs.Ytkmgbicacbalfaa
