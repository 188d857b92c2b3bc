import Derived.Test.YtilhilglokblpaaDoorQmd
import Derived.Laws.MakeOwn
import Derived.Laws.CopyOwn
import Derived.Laws.Tables
namespace Go.Proofs.YtilhilglokblpaaDoor
open Go.RowKit
set_option maxRecDepth 100000
def spB : ByteArray := ⟨#[115, 112, 97, 114, 101]⟩
/-- a row that was lent: the texts, and eight marks behind them -/
def LnK (w : World) (h : Nat) (l : List ByteArray) (q k : Nat) : Prop := ∃ cur : Array Value, Blk w h cur 9 ∧ cur.size = q + 8 ∧ (∀ j, j < q → cur[j]? = some (.string (l.getD j ⟨#[]⟩))) ∧ ∀ j, q ≤ j → j < k → cur[j]? = some (.string spB)
theorem LnK.SB {w : World} {h : Nat} {l : List ByteArray} {q k : Nat} (hl : l.length = q) (x : LnK w h l q k) : SB w (h + 1) (some ⟨h, 0, none⟩) l := fun j hj => by
  obtain ⟨cur, hB, _, h1, _⟩ := x
  exact ⟨h, 0, rfl, by omega, by rw [Nat.zero_add, hB.cell]; exact h1 j (by omega)⟩
theorem LnK.below {w w' : World} {h : Nat} {l : List ByteArray} {q k : Nat} (x : LnK w h l q k) (hb : Below (h + 1) w w') : LnK w' h l q k := by
  obtain ⟨cur, hB, h0, h1, h2⟩ := x
  exact ⟨cur, hB.below hb (by omega), h0, h1, h2⟩
theorem LnK.put {w : World} {h : Nat} {l : List ByteArray} {q k : Nat} (x : LnK w h l q k) (hqk : q ≤ k) (hk : k < q + 8) : LnK (w.setCell ⟨h, k, none⟩ (.string spB)) h l q (k + 1) := by
  obtain ⟨cur, hB, h0, h1, h2⟩ := x
  refine ⟨cur.setIfInBounds k (.string spB), hB.set k _, by simpa using h0, fun j hj => ?_, fun j hj1 hj2 => ?_⟩
  · rw [Array.getElem?_setIfInBounds_ne (by omega)]; exact h1 j hj
  · by_cases e : k = j
    · subst e; rw [Array.getElem?_setIfInBounds_self_of_lt (by omega)]
    · rw [Array.getElem?_setIfInBounds_ne e]; exact h2 j hj1 (by omega)
theorem LnK.at {w : World} {h : Nat} {l : List ByteArray} {q k : Nat} (x : LnK w h l q k) (j : Nat) (hj : j < q + 8) : (∃ v, w.cell? ⟨h, j, none⟩ = some v) ∧ w.frozen? ⟨h, j, none⟩ = false := by
  obtain ⟨cur, hB, h0, h1, h2⟩ := x
  exact ⟨⟨cur[j]'(by omega), by rw [hB.cell, Array.getElem?_eq_getElem (by omega)]⟩, hB.frozen j⟩
theorem LnK.sp {w : World} {h : Nat} {l : List ByteArray} {q k : Nat} (x : LnK w h l q k) (j : Nat) (h1 : q ≤ j) (h2 : j < k) : w.cell? ⟨h, j, none⟩ = some (.string spB) := by
  obtain ⟨cur, hB, _, _, h3⟩ := x
  rw [hB.cell]; exact h3 j h1 h2
end Go.Proofs.YtilhilglokblpaaDoor
