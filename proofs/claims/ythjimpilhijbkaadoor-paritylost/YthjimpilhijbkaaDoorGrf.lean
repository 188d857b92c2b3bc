import Derived.Test.YthjimpilhijbkaaDoorGre
import Derived.Laws.AppendOwnNone
import Derived.Laws.AppendOwn
namespace Go.Proofs.YthjimpilhijbkaaDoor
open Go.RowKit
set_option maxRecDepth 100000
/-- numbers at a place, in blocks below B -/
def GLs (w : World) (B : Nat) (p : Option Addr) (L : List Int) : Prop := ∀ j, j < L.length → ∃ g o, p = some ⟨g, o, none⟩ ∧ g < B ∧ w.cell? ⟨g, o + j, none⟩ = some (.int .i64 (L.getD j 0))
theorem GLs.below {w w' : World} {B : Nat} {p : Option Addr} {L : List Int} (h : GLs w B p L) (hb : Below B w w') : GLs w' B p L := fun j hj => by
  obtain ⟨g, o, e, hg, hc⟩ := h j hj
  exact ⟨g, o, e, hg, (hb.cell (p := ⟨g, o + j, none⟩) hg).trans hc⟩
/-- lists of numbers at a place, they and it in blocks below B -/
def GSq (w : World) (B : Nat) (p : Option Addr) (Q : List (List Int)) : Prop := ∀ i, i < Q.length → ∃ g o q c, p = some ⟨g, o, none⟩ ∧ g < B ∧ w.cell? ⟨g, o + i, none⟩ = some (.slice q (Q.getD i []).length c) ∧ (q = none → (Q.getD i []).length = 0 ∧ c = 0) ∧ GLs w B q (Q.getD i [])
theorem GSq.below {w w' : World} {B : Nat} {p : Option Addr} {Q : List (List Int)} (h : GSq w B p Q) (hb : Below B w w') : GSq w' B p Q := fun j hj => by
  obtain ⟨g, o, q, c, e, hg, hc, h0, h1⟩ := h j hj
  exact ⟨g, o, q, c, e, hg, (hb.cell (p := ⟨g, o + j, none⟩) hg).trans hc, h0, h1.below hb⟩
theorem gl_at (L : List Int) (j : Nat) (u : Value) (h : (L.map (Value.int .i64))[j]? = some u) : j < L.length ∧ u = .int .i64 (L.getD j 0) := by
  rw [List.getElem?_map] at h
  by_cases hj : j < L.length
  · rw [List.getElem?_eq_getElem hj] at h
    refine ⟨hj, ?_⟩
    rw [List.getD_eq_getElem?_getD, List.getElem?_eq_getElem hj]
    simpa using h.symm
  · rw [List.getElem?_eq_none (by omega)] at h
    cases h
theorem gl_get (L : List Int) (j : Nat) (h : j < L.length) : (L.map (Value.int .i64))[j]? = some (.int .i64 (L.getD j 0)) := by
  rw [List.getElem?_map, List.getElem?_eq_getElem h, List.getD_eq_getElem?_getD, List.getElem?_eq_getElem h]
  rfl
theorem wpList_app_src (w : World) {ops : Array Oper} {rest : List Oper} {o : Oper} {a : Act} {Q : Exit → Act → World → Prop} (hg : o.guard = none) (s x : Operand) (hop : o.op = .call { callee := .builtin .append, args := #[s, x], argTypes := #[22, 22] }) (base : Nat) (v : Value) (n : Nat) (xs : List Value) (hs : a.eval s = v) (hown : w.ownsRow base 3 1 v n xs) (B : Nat) (p : Option Addr) (m c : Nat) (L : List Int) (hx : a.eval x = .slice p m c) (hL : L.length = m) (hp : p = none → m = 0 ∧ c = 0) (hG : GLs w B p L) (hsz : (n + m) * 8 ≤ 140737488355328) (hbase : base ≤ w.heap.size) (h : ∀ v' w', w'.ownsRow base 3 1 v' (n + m) (xs ++ L.map (Value.int .i64)) → w.grownBy w' v.ownBlock → wpList Tryd.prog ops Q rest (a.put o.dst v') w') : wpList Tryd.prog ops Q (o :: rest) a w := by
  obtain ⟨i0, hi, hz0, hz1, hz2⟩ := info_parts gr_int
  cases p with
  | none =>
    obtain ⟨rfl, rfl⟩ := hp rfl
    refine wpList_append_own_none hg s x 22 hop base 3 i0 1 Tryd.underlying22 hi v n xs hs hown hx (h v w ?_ ⟨rfl, rfl, rfl, Nat.le_refl _, fun _ _ _ => rfl⟩)
    rw [List.eq_nil_of_length_eq_zero hL]
    simpa using hown
  | some ad =>
    refine wpList_append_own w hg s x 22 hop base 3 i0 (.int .i64 0) 1 8 Tryd.underlying22 hi hz0 hz1 hz2 rfl (by decide) v n xs hs hown ad m c (L.map (Value.int .i64)) hx (by simp [hL]) (fun j u hu => ?_) (by simp [Value.oneCell']) (by unfold maxLen; omega) hsz hbase (fun v' w' h1 h2 _ => h v' w' h1 h2)
    obtain ⟨hj, rfl⟩ := gl_at L j u hu
    obtain ⟨g, o, e, _, hc⟩ := hG j hj
    cases e
    rw [Addr.add_mid]
    exact hc
theorem gr_rows : (Tryd.prog.info? 22).map (fun i => (i.zero, i.size, i.bytes)) = some (some (.slice none 0 0), 1, 24) := by kernel_rfl
theorem RR.congrV {base : Nat} {eo ei : TypeId} {w : World} {u : Value} {m : Nat} {v x : Nat → Value} {C : Nat → List Value} (h : RR base eo ei w u m v C) (hv : ∀ i, i < m → v i = x i) : RR base eo ei w u m x C :=
  ⟨by
    have e : (List.range m).map x = (List.range m).map v := List.map_congr_left (fun i hi => (hv i (List.mem_range.1 hi)).symm)
    rw [e]
    exact h.row, fun i hi => by rw [← hv i hi]; exact h.own i hi, fun i j hi hj hij y hy => by
    rw [← hv i hi] at hy
    rw [← hv j hj]
    exact h.dis i j hi hj hij y hy⟩
/-- what is asked of a square and a list -/
def slvOk (Q : List (List Int)) (L : List Int) : Prop := L.length ≤ 24 ∧ Q.length = L.length ∧ ∀ i, i < L.length → (Q.getD i []).length = L.length ∧ ∀ k, k ≤ L.length → 0 ≤ (Q.getD i [] ++ [L.getD i 0]).getD k 0 ∧ (Q.getD i [] ++ [L.getD i 0]).getD k 0 < 256
def slvA (Q : List (List Int)) (L : List Int) : Nat → Nat → G := fun i k => gN ((Q.getD i [] ++ [L.getD i 0]).getD k 0).toNat
theorem row_gV (R : List Int) (n : Nat) (hl : R.length = n + 1) (h : ∀ k, k < n + 1 → 0 ≤ R.getD k 0 ∧ R.getD k 0 < 256) : R.map (Value.int .i64) = gV (n + 1) (fun k => gN (R.getD k 0).toNat) := by
  apply List.ext_getElem?
  intro k
  by_cases hk : k < n + 1
  · rw [gV_at _ hk, gl_get R k (by omega)]
    obtain ⟨h1, h2⟩ := h k hk
    have e : (((gN (R.getD k 0).toNat).v : Nat) : Int) = R.getD k 0 := by
      show ((((R.getD k 0).toNat % 256 : Nat)) : Int) = _
      omega
    rw [e]
  · rw [List.getElem?_eq_none (by simp; omega), List.getElem?_eq_none (by rw [gV_len]; omega)]
def SolR (w : World) (Q : List (List Int)) (L : List Int) (e : Ending) (w' : World) : Prop := (slvOk Q L → SolQ w L.length (slvA Q L) e w') ∧ (¬ slvOk Q L → e = .returned (.tuple #[.slice none 0 0, .int .i64 1]) ∧ Below w.heap.size w w')
end Go.Proofs.YthjimpilhijbkaaDoor
