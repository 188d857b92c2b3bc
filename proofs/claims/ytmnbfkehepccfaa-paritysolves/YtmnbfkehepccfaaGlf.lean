import Derived.Test.YtmnbfkehepccfaaGla
import Derived.OwnWalk
namespace Go.Proofs.Ytmnbfkehepccfaa
open Go.RowKit
set_option maxRecDepth 100000
/-- a square, of numbers in a row; what is missing is of the square that changes nothing -/
def solA (n : Nat) (R : List Int) (i j : Nat) : G := if i * n + j < R.length then gN (pickP (R.getD (i * n + j) 0) 256) else if i = j then g1 else g0
def solX (U : List Int) (i : Nat) : G := gN (pickP (U.getD i 0) 256)
theorem gN_pick (x : Int) : (gN (pickP x 256)).v = pickP x 256 := Nat.mod_eq_of_lt (pickP_lt x 256 (by decide))
theorem made_ints (n : Nat) : (madeCells (Value.int .i64 0).cells (n * 1)).toList = gV n (fun _ => g0) := by
  apply List.ext_getElem
  · simp [madeCells, gV]
  · intro i h1 h2
    simp [madeCells, Value.cells, gV, Nat.mod_one, g0]
theorem made_rows (n : Nat) : (madeCells (Value.slice none 0 0).cells (n * 1)).toList = (List.range n).map (fun _ => Value.slice none 0 0) := by
  apply List.ext_getElem
  · simp [madeCells]
  · intro i h1 h2
    simp [madeCells, Value.cells, Nat.mod_one]
theorem ne_blk {a b n c : Nat} (h : a ≠ b) : (Value.slice (some ⟨a, 0, none⟩) n c).ownBlock ≠ some b := fun e => h (by injection e)
/-- the unknown list, the square and the list, while they are made -/
structure SoI (n gx gs gl : Nat) (X : Nat → G) (w1 wr : World) (v : Nat → Value) (C : Nat → List Value) (LF : Nat → G) : Prop where
  x : wr.ownsRow gx 3 1 (.slice (some ⟨gx, 0, none⟩) n n) n (gV n X)
  sq : RR (gx + 1) 32 3 wr (.slice (some ⟨gs, 0, none⟩) n n) n v C
  ls : wr.ownsRow gl 3 1 (.slice (some ⟨gl, 0, none⟩) n n) n (gV n LF)
  ap : ∀ i, i < n → (v i).ownBlock ≠ some gl
  l1 : gx < gs
  l2 : gs < gl
  l3 : gl < wr.heap.size
  bel : Below gx w1 wr
theorem SoI.drew {n gx gs gl : Nat} {X : Nat → G} {w1 wr : World} {v : Nat → Value} {C : Nat → List Value} {LF : Nat → G} (h : SoI n gx gs gl X w1 wr v C LF) : SoI n gx gs gl X w1 wr.drew v C LF :=
  ⟨h.x.drew, h.sq.below ((Below.refl _ _).drew), h.ls.drew, h.ap, h.l1, h.l2, h.l3, h.bel.drew⟩
theorem SoI.cell {n gx gs gl : Nat} {X : Nat → G} {w1 wr : World} {v : Nat → Value} {C : Nat → List Value} {LF : Nat → G} (h : SoI n gx gs gl X w1 wr v C LF) (i : Nat) (hi : i < n) (g cap : Nat) (hv : v i = .slice (some ⟨g, 0, none⟩) (C i).length cap) (j : Nat) (y : Value) : SoI n gx gs gl X w1 (wr.setCell ⟨g, j, none⟩ y) v (fun k => if k = i then (C i).set j y else C k) LF := by
  have hs := h.sq.set (by decide) i hi g cap hv j y
  have hg := ((h.sq.own i hi).lt g (by rw [hv]; rfl)).1
  have hgl : gl ≠ g := fun e => h.ap i hi (by rw [hv, e]; rfl)
  have h1 := h.l1
  have h2 := h.l2
  exact ⟨h.x.kept hs.2 (.inr (ne_blk (by omega))), hs.1, h.ls.kept hs.2 (.inr (ne_blk hgl)), h.ap, h.l1, h.l2, by have := h.l3; simpa using this, h.bel.setCell (p := ⟨g, j, none⟩) (by show gx ≤ g; omega) _⟩
theorem SoI.lst {n gx gs gl : Nat} {X : Nat → G} {w1 wr : World} {v : Nat → Value} {C : Nat → List Value} {LF : Nat → G} (h : SoI n gx gs gl X w1 wr v C LF) (i : Nat) (y : G) : SoI n gx gs gl X w1 (wr.setCell ⟨gl, i, none⟩ (.int .i64 (y.v : Int))) v C (fun q => if q = i then y else LF q) := by
  have hs := h.ls.stored i (.int .i64 (y.v : Int))
  have h1 := h.l1
  have h2 := h.l2
  refine ⟨h.x.kept hs.2 (.inr (ne_blk (by omega))), ⟨h.sq.row.kept hs.2 (.inr (ne_blk (by omega))), fun k hk => (h.sq.own k hk).kept hs.2 (.inr (h.ap k hk)), h.sq.dis⟩, by rw [← gV_set]; exact hs.1, h.ap, h.l1, h.l2, by have := h.l3; simpa using this, h.bel.setCell (p := ⟨gl, i, none⟩) (by show gx ≤ gl; omega) _⟩
theorem SoI.row {n gx gs gl : Nat} {X : Nat → G} {w1 wr : World} {v : Nat → Value} {C : Nat → List Value} {LF : Nat → G} (h : SoI n gx gs gl X w1 wr v C LF) (i : Nat) (hi : i < n) (wm : World) (hm : wm.ownsRow wr.heap.size 3 1 (.slice (some ⟨wr.heap.size, 0, none⟩) n n) n (gV n (fun _ => g0))) (hg : wr.grownBy wm none) : SoI n gx gs gl X w1 (wm.setCell ⟨gs, i, none⟩ (.slice (some ⟨wr.heap.size, 0, none⟩) n n)) (fun k => if k = i then .slice (some ⟨wr.heap.size, 0, none⟩) n n else v k) (fun k => if k = i then gV n (fun _ => g0) else C k) LF := by
  have h1 := h.l1
  have h2 := h.l2
  have h3 := h.l3
  have hms := hg.size
  have hb : Below wr.heap.size wr wm := (Below.refl _ _).grown hg (Nat.le_refl _) (fun q hq => by cases hq)
  have hr := h.sq.grow (w1 := wm) (by decide) i hi gs n rfl (gV n (fun _ => g0)) wr.heap.size n (by rw [gV_len]; exact gr_mono hm (by omega)) ⟨hg.os, hg.tape, hg.output, hg.size, fun k hk _ => hg.block k hk (by simp)⟩ (.inr (Nat.le_refl _))
  have hst : wm.grownBy (wm.setCell ⟨gs, i, none⟩ (.slice (some ⟨wr.heap.size, 0, none⟩) n n)) (some gs) := ⟨rfl, rfl, rfl, by simp [World.setCell], fun k _ hn => Below.heap_setCell _ _ _ _ (fun e => hn (by rw [e]))⟩
  rw [gV_len] at hr
  refine ⟨(owns_only h.x (Only.of_below (P := fun _ => False) hb) (fun _ _ q => q)).kept hst (.inr (ne_blk (by omega))), hr, (owns_only h.ls (Only.of_below (P := fun _ => False) hb) (fun _ _ q => q)).kept hst (.inr (ne_blk (by omega))), fun k hk => ?_, h.l1, h.l2, by simp [World.setCell]; omega, (h.bel.trans (hb.mono (by omega))).setCell (p := ⟨gs, i, none⟩) (by show gx ≤ gs; omega) _⟩
  by_cases e : k = i
  · rw [if_pos e]; exact ne_blk (by omega)
  · rw [if_neg e]; exact h.ap k hk
theorem SoI.congr {n gx gs gl : Nat} {X : Nat → G} {w1 wr : World} {v : Nat → Value} {C D : Nat → List Value} {LF LG : Nat → G} (h : SoI n gx gs gl X w1 wr v C LF) (hC : ∀ k, k < n → C k = D k) (hL : ∀ k, k < n → LF k = LG k) : SoI n gx gs gl X w1 wr v D LG :=
  ⟨h.x, h.sq.congr hC, by rw [← gV_congr hL]; exact h.ls, h.ap, h.l1, h.l2, h.l3, h.bel⟩
/-- row i as far as it is filled -/
def fiR (n : Nat) (R : List Int) (i j q : Nat) : G := if q < j then solA n R i q else g0
/-- the rows as far as they are filled -/
def fiC (n : Nat) (R : List Int) (i j k : Nat) : List Value := if k < i then gV n (solA n R k) else if k = i then gV n (fiR n R i j) else []
/-- the list as far as it is made -/
def fiL (n : Nat) (R : List Int) (X : Nat → G) (i j k : Nat) : G := if k < i then rK n X (solA n R k) else if k = i then sm (fun t => solA n R i t * X t) (List.range j) else g0
theorem fiR_set (n : Nat) (R : List Int) (i j : Nat) : (gV n (fiR n R i j)).set j (.int .i64 ((solA n R i j).v : Int)) = gV n (fiR n R i (j + 1)) := by
  rw [gV_set]
  refine gV_congr (fun q _ => ?_)
  unfold fiR
  by_cases e1 : q = j
  · rw [if_pos e1, if_pos (by omega), e1]
  · rw [if_neg e1]
    by_cases e2 : q < j
    · rw [if_pos e2, if_pos (by omega)]
    · rw [if_neg e2, if_neg (by omega)]
/-- the list and the square that are handed to Solve -/
def soQ (n : Nat) (A : Nat → Nat → G) : List (List Int) := (List.range n).map (fun i => (List.range n).map (fun j => ((A i j).v : Int)))
def soL (n : Nat) (L : Nat → G) : List Int := (List.range n).map (fun i => ((L i).v : Int))
theorem soL_len (n : Nat) (L : Nat → G) : (soL n L).length = n := by simp [soL]
theorem soQ_len (n : Nat) (A : Nat → Nat → G) : (soQ n A).length = n := by simp [soQ]
theorem soL_get {n : Nat} (L : Nat → G) {i : Nat} (hi : i < n) : (soL n L).getD i 0 = ((L i).v : Int) := by simp [soL, hi]
theorem soQ_get {n : Nat} (A : Nat → Nat → G) {i : Nat} (hi : i < n) : (soQ n A).getD i [] = soL n (A i) := by simp [soQ, soL, hi]
theorem so_ok (n : Nat) (hn : n ≤ 24) (A : Nat → Nat → G) (L : Nat → G) : slvOk (soQ n A) (soL n L) := by
  refine ⟨by rw [soL_len]; exact hn, by rw [soL_len, soQ_len], fun i hi => ?_⟩
  rw [soL_len] at hi ⊢
  rw [soQ_get A hi, soL_get L hi]
  refine ⟨soL_len n _, row_ok _ _ n (soL_len n _) (fun j hj => ?_) ?_⟩
  · rw [soL_get _ hj]
    have := (A i j).h
    omega
  · have := (L i).h
    omega
theorem so_A {n : Nat} (A : Nat → Nat → G) (L : Nat → G) {i k : Nat} (hi : i < n) (hk : k ≤ n) : slvA (soQ n A) (soL n L) i k = if k < n then A i k else L i := by
  have e : ∀ a : G, gN ((a.v : Int)).toNat = a := fun a => G.ext' (by show ((a.v : Int)).toNat % 256 = a.v; have := a.h; omega)
  by_cases q : k < n
  · rw [slvA_lt _ _ _ _ (by rw [soQ_get A hi, soL_len]; exact q), soQ_get A hi, soL_get _ q, if_pos q, e]
  · rw [slvA_last _ _ _ _ (by rw [soQ_get A hi, soL_len]; omega), soL_get _ hi, if_neg q, e]
/-- What the square makes of a list is that list again, by any way through. -/
theorem so_found {n : Nat} {A : Nat → Nat → G} {X : Nat → G} {B : Nat → Nat → G} (h : Ga n 0 (slvA (soQ n A) (soL n (fun i => rK n X (A i)))) true B) : ∀ i, i < n → X i = B i n := by
  refine (h.one X).1 (fun i hi => ?_)
  unfold rE
  rw [so_A A _ hi (Nat.le_refl n), if_neg (Nat.lt_irrefl n), show sm (fun j => slvA (soQ n A) (soL n (fun i => rK n X (A i))) i j * X j) (List.range n) = rK n X (A i) from sm_congr (fun j hj => by rw [so_A A _ hi (Nat.le_of_lt (List.mem_range.1 hj)), if_pos (List.mem_range.1 hj)]), gadd_self]
theorem so_zero {n : Nat} {A : Nat → Nat → G} {L : Nat → G} {ok : Bool} {B : Nat → Nat → G} (h : Ga n 0 (slvA (soQ n A) (soL n L)) ok B) (y : Nat → G) (hy : ∃ j, j < n ∧ y j ≠ g0) (hz : ∀ i, i < n → rK n y (A i) = g0) : ok = false := by
  cases ok with
  | false => rfl
  | true =>
    obtain ⟨j, hj, hn⟩ := hy
    refine absurd (h.inj y (fun i hi => ?_) j hj) hn
    rw [← hz i hi]
    unfold rK
    exact sm_congr (fun t ht => by rw [so_A A _ hi (Nat.le_of_lt (List.mem_range.1 ht)), if_pos (List.mem_range.1 ht)])
theorem so_unit {n : Nat} {L : Nat → G} {ok : Bool} {B : Nat → Nat → G} (h : Ga n 0 (slvA (soQ n (solA n [])) (soL n L)) ok B) : ok = true := by
  cases ok with
  | true => rfl
  | false =>
    obtain ⟨y, ⟨j, hj, hn⟩, hy⟩ := (h.sol (un_zero n _)).2 rfl
    refine absurd ?_ hn
    have := hy j hj
    unfold rK at this
    rw [show sm (fun t => slvA (soQ n (solA n [])) (soL n L) j t * y t) (List.range n) = sm (fun t => if t = j then y j else g0) (List.range n) from sm_congr (fun t ht => by
      rw [so_A _ _ hj (Nat.le_of_lt (List.mem_range.1 ht)), if_pos (List.mem_range.1 ht)]
      unfold solA
      rw [if_neg (by simp)]
      by_cases q : j = t
      · rw [if_pos q, if_pos q.symm, gone_mul, q]
      · rw [if_neg q, if_neg (fun e => q e.symm), gzero_mul]), sm_one n j hj] at this
    exact this
theorem SoI.gsq {n gx gs gl : Nat} {X : Nat → G} {w1 wr : World} {v : Nat → Value} {A : Nat → Nat → G} {LF : Nat → G} (h : SoI n gx gs gl X w1 wr v (fun i => gV n (A i)) LF) : GSq wr wr.heap.size (some ⟨gs, 0, none⟩) (soQ n A) ∧ GLs wr wr.heap.size (some ⟨gl, 0, none⟩) (soL n LF) := by
  have one : ∀ (b g c : Nat) (F : Nat → G), wr.ownsRow b 3 1 (.slice (some ⟨g, 0, none⟩) n c) n (gV n F) → GLs wr wr.heap.size (some ⟨g, 0, none⟩) (soL n F) := fun b g c F ho j hj => by
    rw [soL_len] at hj
    obtain ⟨g2, e, h1, _, _, h4⟩ := gr_cell ho j hj
    injection e with e
    injection e with e
    subst e
    refine ⟨g, 0, rfl, h4, ?_⟩
    rw [Nat.zero_add, h1, gV_at _ hj, soL_get _ hj]
  refine ⟨fun i hi => ?_, one _ _ _ _ h.ls⟩
  rw [soQ_len] at hi
  obtain ⟨g, e, h1, _, _, h4⟩ := h.sq.at i hi
  injection e with e
  injection e with e
  subst e
  have ho := h.sq.own i hi
  rw [gV_len] at ho
  obtain ⟨p, c, hv, _⟩ := gr_form ho
  rw [hv] at ho h1
  obtain ⟨g3, rfl, _, _, _, _⟩ := gr_cell ho i hi
  refine ⟨gs, 0, some ⟨g3, 0, none⟩, c, rfl, h4, ?_, (fun q => by cases q), ?_⟩
  · rw [Nat.zero_add, h1, soQ_get A hi, soL_len]
  · rw [soQ_get A hi]; exact one _ _ _ _ ho
end Go.Proofs.Ytmnbfkehepccfaa
