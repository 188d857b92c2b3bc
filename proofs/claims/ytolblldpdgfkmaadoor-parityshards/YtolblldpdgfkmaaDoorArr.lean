import Derived.WalkKit
import Derived.WalkSmall
import Derived.Deep.MidRow
namespace Go.Proofs.YtolblldpdgfkmaaDoor
open Go.RowKit

theorem results_cell {fn : Func} {p : Tmp} {ty : TypeId} (h : fn.results = #[.cell p ty]) (tmps : Array Value) (P : Program) (w : World) (ad : Addr) (ha : tmps.getD p undef = .pointer (some ad)) (v : Value) (hl : (loadVar ty ad).run P w = .ok v w) :
    (results fn tmps).run P w = .ok v w := by
  have ha' : tmps[p]?.getD undef = .pointer (some ad) := by simpa using ha
  simp only [results, h]
  simp [ha', asAddr, hl]
theorem hide {p : Prop} (h : p) : Hid p := h
theorem unhide {p : Prop} (h : Hid p) : p := h
/-- In block b, from offset o on, lie the numbers l, of kind k, and may be written. -/
def Arr (w : World) (b o : Nat) (k : IntKind) (l : List Int) : Prop :=
  ∀ j, j < l.length → w.cell? ⟨b, o + j, none⟩ = some (.int k (l.getD j 0)) ∧ w.frozen? ⟨b, o + j, none⟩ = false

theorem Arr.get {w : World} {b o : Nat} {k : IntKind} {l : List Int} (h : Arr w b o k l) (j : Nat) (hj : j < l.length) : w.cell? ⟨b, o + j, none⟩ = some (.int k (l.getD j 0)) := (h j hj).1
theorem Arr.free {w : World} {b o : Nat} {k : IntKind} {l : List Int} (h : Arr w b o k l) (j : Nat) (hj : j < l.length) : w.frozen? ⟨b, o + j, none⟩ = false := (h j hj).2
theorem Arr.get0 {w : World} {b : Nat} {k : IntKind} {l : List Int} (h : Arr w b 0 k l) (j : Nat) (hj : j < l.length) : w.cell? ⟨b, j, none⟩ = some (.int k (l.getD j 0)) := by simpa using (h j hj).1
theorem Arr.free0 {w : World} {b : Nat} {k : IntKind} {l : List Int} (h : Arr w b 0 k l) (j : Nat) (hj : j < l.length) : w.frozen? ⟨b, j, none⟩ = false := by simpa using (h j hj).2
theorem Arr.set {w : World} {b o : Nat} {k : IntKind} {l : List Int} (h : Arr w b o k l) (i : Nat) (hi : i < l.length) (v : Int) : Arr (w.setCell ⟨b, o + i, none⟩ (.int k v)) b o k (l.set i v) := by
  intro j hj
  rw [List.length_set] at hj
  refine ⟨?_, by rw [World.frozen?_setCell]; exact (h j hj).2⟩
  by_cases e : i = j
  · subst e
    rw [World.cell?_setCell_same _ _ _ (h i hi).1]
    simp [hi]
  · rw [World.cell?_setCell_other _ _ _ _ (by simp), (h j hj).1]
    simp [e]
theorem Arr.set0 {w : World} {b : Nat} {k : IntKind} {l : List Int} (h : Arr w b 0 k l) (i : Nat) (hi : i < l.length) (v : Int) : Arr (w.setCell ⟨b, i, none⟩ (.int k v)) b 0 k (l.set i v) := by
  have := h.set i hi v; simpa using this
theorem Arr.other {w : World} {b o : Nat} {k : IntKind} {l : List Int} (h : Arr w b o k l) (a : Addr) (v : Value) (ha : a.block ≠ b ∨ a.off < o ∨ o + l.length ≤ a.off) : Arr (w.setCell a v) b o k l := by
  intro j hj
  refine ⟨?_, by rw [World.frozen?_setCell]; exact (h j hj).2⟩
  rw [World.cell?_setCell_other _ _ _ _ (by intro hh; subst hh; simp at ha; omega), (h j hj).1]
theorem Arr.alloc {w : World} {b o : Nat} {k : IntKind} {l : List Int} (h : Arr w b o k l) (hb : b < w.heap.size) (x : Obj) : Arr (w.alloc x) b o k l := by
  intro j hj
  rw [World.cell?_alloc_past (hn := hb), World.frozen?_alloc_past (hn := hb)]
  exact h j hj
theorem Arr.drew {w : World} {b o : Nat} {k : IntKind} {l : List Int} (h : Arr w b o k l) : Arr w.drew b o k l := h
theorem Arr.drewN {w : World} {b o : Nat} {k : IntKind} {l : List Int} (h : Arr w b o k l) (n : Nat) : Arr (w.drewN n) b o k l := h
theorem Arr.below {w w' : World} {B b o : Nat} {k : IntKind} {l : List Int} (h : Arr w b o k l) (hb : Below B w w') (hB : b < B) : Arr w' b o k l := by
  intro j hj
  rw [hb.cell (p := ⟨b, o + j, none⟩) hB, hb.frozen (p := ⟨b, o + j, none⟩) hB]
  exact h j hj
theorem Arr.range {w : World} {b o : Nat} {k : IntKind} {l : List Int} (h : Arr w b o k l) : w.rangeAt b o (l.map (Value.int k)) := by
  intro j v hv
  rw [List.getElem?_map] at hv
  cases hq : l[j]? with
  | none => simp [hq] at hv
  | some x =>
    obtain ⟨hj, e⟩ := List.getElem?_eq_some_iff.1 hq
    simp [hq] at hv
    rw [(h j hj).1, ← hv]
    simp [hq]
theorem Arr.there {w : World} {b o : Nat} {k : IntKind} {l : List Int} (h : Arr w b o k l) : w.there b o l.length := by
  intro j hj
  exact ⟨by rw [(h j hj).1]; rfl, (h j hj).2⟩
theorem Arr.setCells {w : World} {b o : Nat} {k : IntKind} {l : List Int} (h : Arr w b o k l) (l' : List Int) (hl : l'.length = l.length) : Arr (w.setCells b o (l'.map (Value.int k))) b o k l' := by
  intro j hj
  have hr := World.rangeAt_setCells_same w b o (l'.map (Value.int k)) (by intro i hi; exact h.there i (by simpa [hl] using hi))
  refine ⟨hr j _ (by simp [hj]), ?_⟩
  rw [World.frozen?_setCells]; exact (h j (by omega)).2
theorem Arr.setCells_apart {w : World} {b o : Nat} {k : IntKind} {l : List Int} (h : Arr w b o k l) (b' o' : Nat) (vs : List Value) (hap : b ≠ b' ∨ o + l.length ≤ o' ∨ o' + vs.length ≤ o) : Arr (w.setCells b' o' vs) b o k l := by
  intro j hj
  rw [World.frozen?_setCells, World.cell?_setCells_out b' vs o' w ⟨b, o + j, none⟩ (by intro hb _; simp at hb; simp; omega)]
  exact h j hj
theorem below_setCells {B : Nat} {a : World} {b : Nat} (hb : B ≤ b) : ∀ (vs : List Value) (o : Nat) {w : World}, Below B a w → Below B a (w.setCells b o vs)
  | [], _, _, h => h
  | v :: r, o, w, h => by
    rw [World.setCells]
    exact below_setCells hb r (o + 1) (h.setCell (p := ⟨b, o, none⟩) hb v)
theorem size_setCells {b : Nat} : ∀ (vs : List Value) (o : Nat) (w : World), (w.setCells b o vs).heap.size = w.heap.size
  | [], _, _ => rfl
  | v :: r, o, w => by
    rw [World.setCells, size_setCells r (o + 1)]
    simp
theorem wpList_store_to {P : Program} {ops : Array Oper} {rest : List Oper} {op : Oper} {a : Act} {w : World} {Q : Exit → Act → World → Prop} (hgd : op.guard = none) (ty : TypeId) (x y : Operand) (ho : op.op = .store ty x y)
    (b o : Nat) (cells : Array Value) (hx : a.eval x = .pointer (some ⟨b, o, none⟩)) (hy : a.eval y = .agg cells)
    (ht : w.there b o cells.size) (hi : (P.info? ty).map (·.size) = some cells.size) (h1 : cells.all (·.oneCell') = true)
    (h : ∀ w', w' = w.setCells b o cells.toList → wpList P ops Q rest (a.put op.dst undef) w') : wpList P ops Q (op :: rest) a w :=
  wpList_store_mid hgd ty x y ho b o cells hx hy ht hi h1 (h _ rfl)
theorem one_ints (k : IntKind) (l : List Int) : (l.map (Value.int k)).toArray.all (·.oneCell') = true := all_oneCell_toArray (by simp [Value.oneCell'])
theorem arr_new (w : World) (k : IntKind) (l : List Int) (t : TypeId) (c : Array Value) (hc : c = (l.map (Value.int k)).toArray) : Arr (w.alloc (.cells c t)) w.heap.size 0 k l := by
  subst hc
  intro j hj
  rw [World.cell?_alloc_at (hn := rfl), World.frozen?_alloc_at (hn := rfl)]
  simp [hj]
theorem arr_new_at (w : World) (k : IntKind) (pre l post : List Value) (ll : List Int) (t : TypeId) (c : Array Value) (hl : l = ll.map (Value.int k)) (hc : c = (pre ++ l ++ post).toArray) : Arr (w.alloc (.cells c t)) w.heap.size pre.length k ll := by
  subst hc hl
  intro j hj
  rw [World.cell?_alloc_at (hn := rfl), World.frozen?_alloc_at (hn := rfl)]
  simp [hj, List.getElem?_append]
end Go.Proofs.YtolblldpdgfkmaaDoor
