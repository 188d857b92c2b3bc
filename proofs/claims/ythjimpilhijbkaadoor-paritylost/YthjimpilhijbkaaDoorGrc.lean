import Derived.Test.YthjimpilhijbkaaDoorGrb
namespace Go.Proofs.YthjimpilhijbkaaDoor
open Go.RowKit
set_option maxRecDepth 100000
theorem gr_form {w : World} {base n : Nat} {e : TypeId} {k : Nat} {v : Value} {xs : List Value} (h : w.ownsRow base e k v n xs) : ∃ p cap, v = .slice p n cap ∧ n ≤ cap := by
  rcases h.2 with ⟨h1, h0⟩ | ⟨g, cap, cur, h1, hb, hg, hn, hc, hs, hx⟩
  · exact ⟨none, 0, by rw [h1, h0], by omega⟩
  · exact ⟨_, cap, h1, by omega⟩
theorem gr_cell {w : World} {base : Nat} {e : TypeId} {n c : Nat} {p : Option Addr} {xs : List Value} (h : w.ownsRow base e 1 (.slice p n c) n xs) (j : Nat) (hj : j < n) : ∃ g, p = some ⟨g, 0, none⟩ ∧ w.cell? ⟨g, j, none⟩ = xs[j]? ∧ w.frozen? ⟨g, j, none⟩ = false ∧ base ≤ g ∧ g < w.heap.size := by
  rcases h.2 with ⟨h1, h0⟩ | ⟨g, cap, cur, h1, hb, hg, hn, hc, hs, hx⟩
  · omega
  · have e0 : p = some ⟨g, 0, none⟩ := by injection h1
    have hB : Blk w g cur e := hg
    refine ⟨g, e0, ?_, hB.frozen j, hb, hB.lt⟩
    rw [hB.cell, ← hx, List.getElem?_take, if_pos (by omega)]
    simp
theorem gr_new (w : World) (T : TypeId) (x : Value) (j : Nat) (u : Value) (hu : [x][j]? = some u) : (w.alloc (.cells #[x] T)).cell? (Addr.add ⟨w.heap.size, 0, none⟩ j) = some u := by
  rw [Addr.add_mid, Nat.zero_add, (Blk.new w T #[x]).cell j, ← hu]
  simp
theorem gr_int : (Tryd.prog.info? 3).map (fun i => (i.zero, i.size, i.bytes)) = some (some (.int .i64 0), 1, 8) := by kernel_rfl
/-- a row of elements, in memory -/
def gV (n : Nat) (R : Nat → G) : List Value := (List.range n).map (fun k => Value.int .i64 ((R k).v : Int))
theorem gV_len (n : Nat) (R : Nat → G) : (gV n R).length = n := by simp [gV]
theorem gV_succ (n : Nat) (R : Nat → G) : gV (n + 1) R = gV n R ++ [.int .i64 ((R n).v : Int)] := by simp [gV, List.range_succ]
theorem gV_at {n : Nat} (R : Nat → G) {k : Nat} (hk : k < n) : (gV n R)[k]? = some (.int .i64 ((R k).v : Int)) := by simp [gV, hk]
theorem gV_congr {n : Nat} {R S : Nat → G} (h : ∀ k, k < n → R k = S k) : gV n R = gV n S := by
  unfold gV
  refine List.map_congr_left (fun k hk => ?_)
  rw [h k (List.mem_range.1 hk)]
theorem gV_set {n : Nat} (R : Nat → G) (k : Nat) (x : G) : (gV n R).set k (.int .i64 (x.v : Int)) = gV n (fun j => if j = k then x else R j) := by
  apply List.ext_getElem
  · simp [gV]
  · intro a b1 b2
    simp only [gV, List.getElem_map, List.getElem_range, List.getElem_set]
    by_cases q : k = a
    · rw [if_pos q, if_pos q.symm]
    · rw [if_neg q, if_neg (fun e => q e.symm)]
theorem gV_one (R : Nat → G) (n : Nat) : ∀ v, v ∈ gV n R → v.oneCell' := by
  intro v hv
  obtain ⟨k, _, rfl⟩ := List.mem_map.1 hv
  simp [Value.oneCell']
/-- may there be so many -/
def cntB (n m : Int) : Bool := decide (1 ≤ n ∧ n ≤ 16 ∧ 0 ≤ m ∧ m ≤ 8)
end Go.Proofs.YthjimpilhijbkaaDoor
