import Derived.Test.YthjimpilhijbkaaDoorGrd
import Derived.Test.YthjimpilhijbkaaDoorTkd
import Derived.Deep.RegionHeld
namespace Go.Proofs.YthjimpilhijbkaaDoor
open Go.RowKit
set_option maxRecDepth 100000
theorem RR.congr {base : Nat} {eo ei : TypeId} {w : World} {u : Value} {m : Nat} {v : Nat → Value} {C D : Nat → List Value} (h : RR base eo ei w u m v C) (hC : ∀ i, i < m → C i = D i) : RR base eo ei w u m v D :=
  ⟨h.row, fun i hi => by rw [← hC i hi]; exact h.own i hi, h.dis⟩
/-- rows, the place of one taken by another, that one new -/
def swp (c t : Nat) (A : Nat → Nat → G) (F : Nat → G) : Nat → Nat → G := fun i => if i = c then F else if i = t then A c else A i
/-- the first j rows have been taken from -/
def elm (c : Nat) (A : Nat → Nat → G) (j : Nat) : Nat → Nat → G := fun i k => if i < j ∧ i ≠ c then A i k + A c k * A i c else A i k
theorem elm_zero (c : Nat) (A : Nat → Nat → G) : elm c A 0 = A := by
  funext i k
  unfold elm
  rw [if_neg (by omega)]
theorem elm_same (c : Nat) (A : Nat → Nat → G) : elm c A (c + 1) = elm c A c := by
  funext i k
  unfold elm
  by_cases h : i < c
  · rw [if_pos (by omega), if_pos (by omega)]
  · rw [if_neg (by omega), if_neg (by omega)]
theorem elm_row {c : Nat} (A : Nat → Nat → G) {j : Nat} : elm c A j j = A j := by
  funext k
  unfold elm
  rw [if_neg (by omega)]
theorem elm_c {c : Nat} (A : Nat → Nat → G) (j : Nat) : elm c A j c = A c := by
  funext k
  unfold elm
  rw [if_neg (by omega)]
theorem elm_gst {n c t : Nat} (A : Nat → Nat → G) {i : Nat} (hi : i < n) : elm c (swp c t A (fun k => A t k * (A t c).inv)) n i = gst c t A i := by
  funext k
  unfold elm
  by_cases h : i = c
  · rw [if_neg (by omega), h, gst_c]
    simp only [swp, if_pos]
  · rw [if_pos ⟨hi, h⟩]
    unfold gst swp
    rw [if_neg h, if_neg h, if_pos rfl]
    by_cases q : i = t
    · simp only [if_pos q]
    · simp only [if_neg q]
/-- What Solve answers. -/
def SolQ (w : World) (n : Nat) (A : Nat → Nat → G) (e : Ending) (w' : World) : Prop := ∃ ok B, Ga n 0 A ok B ∧ ((ok = true ∧ ∃ x, e = .returned (.tuple #[x, .int .i64 0]) ∧ w'.ownsRow w.heap.size 3 1 x n (gV n (fun i => B i n))) ∨ (ok = false ∧ e = .returned (.tuple #[.slice none 0 0, .int .i64 184]))) ∧ Below w.heap.size w w'
end Go.Proofs.YthjimpilhijbkaaDoor
