import Derived.Test.YtolblldpdgfkmaaDoorGlx
import Derived.Lib.SliceRun
namespace Go.Proofs.YtolblldpdgfkmaaDoor
open Go.RowKit
def ints (l : List Int) : List Value := l.map (Value.int .i64)
theorem own_at {w : World} {base : Nat} {e : TypeId} {n : Nat} {v : Value} {xs : List Value} {g : Nat} (h : w.ownsRow base e 1 v n xs) (hv : v.ownBlock = some g) (i : Nat) (hi : i < n) : w.cell? ⟨g, i, none⟩ = xs[i]? ∧ w.frozen? ⟨g, i, none⟩ = false := by
  rcases h.2 with ⟨h1, h2⟩ | ⟨g', cap, cur, rfl, hb, hg, hn, hc, hs, hx⟩
  · omega
  · obtain rfl : g' = g := by simpa [Value.ownBlock] using hv
    have hB : Blk w g' cur e := hg
    refine ⟨?_, hB.frozen i⟩
    rw [hB.cell i, ← hx, List.getElem?_take, if_pos (by omega)]
    simp
theorem owns_set {w : World} {base : Nat} {e : TypeId} {k n : Nat} {v : Value} {xs : List Value} (h : w.ownsRow base e k v n xs) {g : Nat} (hv : v.ownBlock = some g) (j : Nat) (u : Value) : (w.setCell ⟨g, j, none⟩ u).ownsRow base e k v n (xs.set j u) := by
  refine ⟨by rw [List.length_set]; exact h.1, ?_⟩
  rcases h.2 with ⟨h1, h2⟩ | ⟨g', cap, cur, rfl, hb, hg, hn, hc, hs, hx⟩
  · rw [h1] at hv; cases hv
  · obtain rfl : g' = g := by simpa [Value.ownBlock] using hv
    refine .inr ⟨g', cap, cur.setIfInBounds j u, rfl, hb, Blk.set hg j u, hn, hc, by simpa using hs, ?_⟩
    rw [← hx]
    simp [List.take_set]
/-- What a lent list holds: the numbers, and four marks behind them. -/
def lentL (l : List Int) : List Int := l ++ List.replicate 4 (-7)
theorem lentL_lt (l : List Int) (k : Nat) (h : k < l.length) : (lentL l).getD k 0 = l.getD k 0 := by
  simp [lentL, List.getD_eq_getElem?_getD, List.getElem?_append_left h]
theorem lentL_ge (l : List Int) (k : Nat) (h : ¬ k < l.length) (h2 : k < l.length + 4) : (lentL l).getD k 0 = -7 := by
  rw [lentL, List.getD_eq_getElem?_getD, List.getElem?_append_right (by omega), List.getElem?_replicate, if_pos (by omega)]
  rfl
theorem news_arr (w : World) (T : TypeId) (xs : Array Value) (j : Nat) (u : Value) (hu : xs.toList[j]? = some u) : (w.alloc (.cells xs T)).cell? (Addr.add ⟨w.heap.size, 0, none⟩ j) = some u := by
  rw [Addr.add_mid, Nat.zero_add, (Blk.new w T xs).cell j, ← hu]
  simp
theorem ints_at (l : List Int) (j : Nat) (u : Value) (h : (ints l)[j]? = some u) : j < l.length ∧ u = .int .i64 (l.getD j 0) := by
  rw [ints, List.getElem?_map] at h
  by_cases hj : j < l.length
  · rw [List.getElem?_eq_getElem hj] at h
    refine ⟨hj, ?_⟩
    rw [List.getD_eq_getElem?_getD, List.getElem?_eq_getElem hj]
    simpa using h.symm
  · rw [List.getElem?_eq_none (by omega)] at h
    cases h
end Go.Proofs.YtolblldpdgfkmaaDoor
