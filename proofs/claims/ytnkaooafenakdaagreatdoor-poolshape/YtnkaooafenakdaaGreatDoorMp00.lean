import Derived.Maps.StringElems
import Derived.Maps.Ext
import Derived.Lib.SlKeysI
import Derived.WalkKit
import Derived.WalkSmall
import Derived.Deep.MidRow
namespace Go.Proofs.YtnkaooafenakdaaGreatDoor
open Go.RowKit Go.Maps
/-- What a map from numbers to texts holds, by rising numbers. -/
abbrev Tx := List (Int × ByteArray)
def litS (s : ByteArray) : DataW Unit := .lit (.string s.data.toList)
def txE (l : Tx) : List (Lit × DataW Unit) := l.map fun p => (Lit.int .i64 p.1, litS p.2)
def txD (l : Tx) : DataW Unit := .map (txE l)
def txIns (k : Int) (s : ByteArray) : Tx → Tx
  | [] => [(k, s)]
  | p :: r => if k < p.1 then (k, s) :: p :: r else p :: txIns k s r
def txDel (k : Int) (l : Tx) : Tx := l.filter fun p => !(p.1 == k)
def txPut (k : Int) (s : ByteArray) (l : Tx) : Tx := txIns k s (txDel k l)
def txAt (l : Tx) (k : Int) : Option ByteArray := (l.find? fun p => p.1 == k).map (·.2)
def Srt (l : Tx) : Prop := l.Pairwise fun p q => p.1 < q.1
def txWf (l : Tx) : Prop := ∀ p ∈ l, -9223372036854775808 ≤ p.1 ∧ p.1 ≤ 9223372036854775807
theorem sameInt (a b : Int) : (Lit.int .i64 a).sameKey (.int .i64 b) = (a == b) := by
  by_cases h : a = b <;> simp [Lit.sameKey, h]
theorem txE_ins (k : Int) (s : ByteArray) (l : Tx) : DataW.insert (Lit.int .i64 k, litS s) (txE l) = txE (txIns k s l) := by
  induction l with
  | nil => rfl
  | cons p r ih =>
    show DataW.insert _ ((Lit.int .i64 p.1, litS p.2) :: txE r) = _
    by_cases h : k < p.1
    · simp [DataW.insert, txIns, Lit.before, h, txE]
    · simp [DataW.insert, txIns, Lit.before, h, ih]
      simp [txE]
theorem txE_del (k : Int) (l : Tx) : ((txE l).filter fun p => !p.1.sameKey (.int .i64 k)) = txE (txDel k l) := by
  unfold txE txDel
  rw [List.filter_map]
  congr 1
  exact List.filter_congr (fun p _ => by simp [sameInt])
theorem txD_del (k : Int) (l : Tx) : (txD l).del (.int .i64 k) = txD (txDel k l) := by
  show DataW.map _ = DataW.map _
  rw [txE_del]
theorem txD_put (k : Int) (s : ByteArray) (l : Tx) : (txD l).put (.int .i64 k) (litS s) = txD (txPut k s l) := by
  show DataW.map _ = DataW.map _
  rw [txE_del, txE_ins]
  rfl
theorem txD_find (k : Int) (l : Tx) : ((txE l).find? fun p => p.1.sameKey (.int .i64 k)) = (l.find? fun p => p.1 == k).map fun p => (Lit.int .i64 p.1, litS p.2) := by
  unfold txE
  rw [List.find?_map]
  congr 2
  funext p
  simp [sameInt]
theorem txD_at (k : Int) (l : Tx) (z : DataW Unit) : (txD l).atKey (.int .i64 k) z = match txAt l k with | some s => litS s | none => z := by
  unfold DataW.atKey txD
  simp only [txD_find]
  unfold txAt
  cases l.find? (fun p => p.1 == k) <;> rfl
theorem txD_has (k : Int) (l : Tx) : Maps.has (txD l) (.int .i64 k) = (txAt l k).isSome := by
  have h : ((txE l).find? fun p => p.1.sameKey (.int .i64 k)).isSome = (txE l).any fun p => p.1.sameKey (.int .i64 k) := by
    rw [Bool.eq_iff_iff]; simp [List.find?_isSome]
  show (txE l).any (fun p => p.1.sameKey (.int .i64 k)) = _
  rw [← h, txD_find, txAt]
  cases l.find? (fun p => p.1 == k) <;> rfl
theorem txD_size (l : Tx) : Maps.size (txD l) = l.length := by simp [txD, txE, size_eq]
theorem txD_keys (l : Tx) : intKeys (txD l) = l.map (·.1) := by
  show (txE l).map _ = _
  unfold txE
  rw [List.map_map]
  rfl
theorem mem_ins (k : Int) (s : ByteArray) (l : Tx) (p : Int × ByteArray) : p ∈ txIns k s l ↔ p = (k, s) ∨ p ∈ l := by
  induction l with
  | nil => simp [txIns]
  | cons q r ih =>
    unfold txIns
    split
    · simp
    · simp only [List.mem_cons, ih]
      constructor
      · rintro (h | h | h)
        · exact .inr (.inl h)
        · exact .inl h
        · exact .inr (.inr h)
      · rintro (h | h | h)
        · exact .inr (.inl h)
        · exact .inl h
        · exact .inr (.inr h)
theorem mem_del (k : Int) (l : Tx) (p : Int × ByteArray) : p ∈ txDel k l ↔ p ∈ l ∧ p.1 ≠ k := by
  simp [txDel, List.mem_filter]
theorem srt_del {l : Tx} (h : Srt l) (k : Int) : Srt (txDel k l) := List.Pairwise.filter _ h
theorem srt_ins {l : Tx} (h : Srt l) (k : Int) (s : ByteArray) (hk : ∀ p ∈ l, p.1 ≠ k) : Srt (txIns k s l) := by
  induction l with
  | nil => simp [txIns, Srt]
  | cons q r ih =>
    obtain ⟨h1, h2⟩ := List.pairwise_cons.1 h
    unfold txIns
    split
    · rename_i hq
      refine List.pairwise_cons.2 ⟨fun p hp => ?_, h⟩
      rcases List.mem_cons.1 hp with rfl | hp
      · exact hq
      · exact Int.lt_trans hq (h1 p hp)
    · rename_i hq
      have hne := hk q (by simp)
      refine List.pairwise_cons.2 ⟨fun p hp => ?_, ih h2 (fun p hp => hk p (by simp [hp]))⟩
      rcases (mem_ins k s r p).1 hp with rfl | hp
      · show q.1 < k; omega
      · exact h1 p hp
theorem srt_put {l : Tx} (h : Srt l) (k : Int) (s : ByteArray) : Srt (txPut k s l) := srt_ins (srt_del h k) k s (fun p hp => ((mem_del k l p).1 hp).2)
theorem ins_len (k : Int) (s : ByteArray) (l : Tx) : (txIns k s l).length = l.length + 1 := by
  induction l with
  | nil => rfl
  | cons q r ih =>
    unfold txIns
    split
    · rfl
    · simp [ih]
theorem at_none {l : Tx} {k : Int} : txAt l k = none ↔ ∀ p ∈ l, p.1 ≠ k := by
  unfold txAt
  rw [Option.map_eq_none_iff, List.find?_eq_none]
  constructor
  · intro h p hp e; exact h p hp (by simp [e])
  · intro h p hp e; exact h p hp (by simpa using e)
theorem at_some {l : Tx} (h : Srt l) {k : Int} {s : ByteArray} : txAt l k = some s ↔ (k, s) ∈ l := by
  induction l with
  | nil => simp [txAt]
  | cons q r ih =>
    obtain ⟨h1, h2⟩ := List.pairwise_cons.1 h
    have ih := ih h2
    unfold txAt at ih ⊢
    by_cases e : q.1 = k
    · have : (q.1 == k) = true := by simp [e]
      rw [List.find?_cons_of_pos (by simpa using this)]
      simp only [Option.map_some, Option.some.injEq, List.mem_cons]
      constructor
      · intro h; left; rw [← e, ← h]
      · rintro (h | h)
        · rw [← h]
        · have := h1 _ h; simp only at this; omega
    · have : ¬ ((q.1 == k) = true) := by simp [e]
      rw [List.find?_cons_of_neg (by simpa using this), ih]
      simp only [List.mem_cons]
      constructor
      · exact .inr
      · rintro (h | h)
        · rw [← h] at e; exact absurd rfl e
        · exact h
theorem del_skip {l : Tx} {k : Int} (h : txAt l k = none) : txDel k l = l := List.filter_eq_self.2 (fun p hp => by simpa using at_none.1 h p hp)
theorem del_len {l : Tx} (h : Srt l) {k : Int} {s : ByteArray} (hs : txAt l k = some s) : (txDel k l).length + 1 = l.length := by
  induction l with
  | nil => simp [txAt] at hs
  | cons q r ih =>
    obtain ⟨h1, h2⟩ := List.pairwise_cons.1 h
    by_cases e : q.1 = k
    · have hr : txDel k r = r := List.filter_eq_self.2 (fun p hp => by have := h1 p hp; simp; omega)
      have : txDel k (q :: r) = txDel k r := by unfold txDel; rw [List.filter_cons_of_neg (by simp [e])]
      rw [this, hr]; rfl
    · have e1 : txDel k (q :: r) = q :: txDel k r := by unfold txDel; rw [List.filter_cons_of_pos (by simp [e])]
      have e2 : txAt r k = some s := by
        unfold txAt at hs ⊢
        rwa [List.find?_cons_of_neg (by simp [e])] at hs
      rw [e1, List.length_cons, List.length_cons, ih h2 e2]
theorem put_len {l : Tx} (h : Srt l) (k : Int) (s : ByteArray) : (txPut k s l).length = if (txAt l k).isSome then l.length else l.length + 1 := by
  unfold txPut
  rw [ins_len]
  cases e : txAt l k with
  | none => rw [del_skip e]; rfl
  | some x => rw [del_len h e]; rfl
theorem at_put {l : Tx} (h : Srt l) (k : Int) (s : ByteArray) (i : Int) : txAt (txPut k s l) i = if i = k then some s else txAt l i := by
  have hs := srt_put h k s
  split
  · rename_i e
    subst e
    rw [at_some hs]
    exact (mem_ins _ _ _ _).2 (.inl rfl)
  · rename_i e
    have key : ∀ t, txAt (txPut k s l) i = some t ↔ txAt l i = some t := fun t => by
      rw [at_some hs, at_some h]
      unfold txPut
      rw [mem_ins, mem_del]
      constructor
      · rintro (q | q)
        · cases q; exact absurd rfl e
        · exact q.1
      · intro q; exact .inr ⟨q, e⟩
    cases q : txAt l i with
    | some t => exact (key t).2 q
    | none =>
      cases q' : txAt (txPut k s l) i with
      | none => rfl
      | some t => rw [(key t).1 q'] at q; cases q
theorem at_del {l : Tx} (h : Srt l) (k : Int) (i : Int) : txAt (txDel k l) i = if i = k then none else txAt l i := by
  have hs := srt_del h k
  split
  · rename_i e
    subst e
    exact at_none.2 (fun p hp => ((mem_del _ _ _).1 hp).2)
  · rename_i e
    have key : ∀ t, txAt (txDel k l) i = some t ↔ txAt l i = some t := fun t => by
      rw [at_some hs, at_some h, mem_del]
      exact ⟨fun q => q.1, fun q => ⟨q, e⟩⟩
    cases q : txAt l i with
    | some t => exact (key t).2 q
    | none =>
      cases q' : txAt (txDel k l) i with
      | none => rfl
      | some t => rw [(key t).1 q'] at q; cases q
/-- The numbers, sorted: they stand so already. -/
theorem keys_sorted {l : Tx} (h : Srt l) {ss : List Int} (hp : ss.Perm (intKeys (txD l))) : (ss.mergeSort fun x y => decide (x ≤ y)) = l.map (·.1) := by
  rw [txD_keys] at hp
  refine List.Perm.eq_of_pairwise (le := fun a b : Int => a ≤ b) (fun a b _ _ h1 h2 => Int.le_antisymm h1 h2) ?_ ?_ ((List.mergeSort_perm ss _).trans hp)
  · have := List.pairwise_mergeSort (le := fun x y : Int => decide (x ≤ y)) (fun a b c h1 h2 => by simp only [decide_eq_true_eq] at *; omega) (fun a b => by simp only [Bool.or_eq_true, decide_eq_true_eq]; omega) ss
    exact this.imp (fun q => by simpa using q)
  · exact List.pairwise_map.2 (h.imp (fun q => Int.le_of_lt q))
end Go.Proofs.YtnkaooafenakdaaGreatDoor

namespace Go.Proofs.YtnkaooafenakdaaGreatDoor
open Go.RowKit

theorem results_cell {fn : Func} {p : Tmp} {ty : TypeId} (h : fn.results = #[.cell p ty]) (tmps : Array Value) (P : Program) (w : World) (ad : Addr) (ha : tmps.getD p undef = .pointer (some ad)) (v : Value) (hl : (loadVar ty ad).run P w = .ok v w) :
    (results fn tmps).run P w = .ok v w := by
  have ha' : tmps[p]?.getD undef = .pointer (some ad) := by simpa using ha
  simp only [results, h]
  simp [ha', asAddr, hl]
theorem hide {p : Prop} (h : p) : Hid p := h
theorem unhide {p : Prop} (h : Hid p) : p := h
/-- In block b, from offset o on, lie the numbers l, of kind k, and may be written. -/
def Arr (w : World) (b o : Nat) (k : IntKind) (l : List Int) : Prop :=
  ∀ j, j < l.length → w.cell? ⟨b, o + j, none⟩ = some (.int k (l.getD j 0)) ∧ w.frozen? ⟨b, o + j, none⟩ = false

theorem Arr.get {w : World} {b o : Nat} {k : IntKind} {l : List Int} (h : Arr w b o k l) (j : Nat) (hj : j < l.length) : w.cell? ⟨b, o + j, none⟩ = some (.int k (l.getD j 0)) := (h j hj).1
theorem Arr.free {w : World} {b o : Nat} {k : IntKind} {l : List Int} (h : Arr w b o k l) (j : Nat) (hj : j < l.length) : w.frozen? ⟨b, o + j, none⟩ = false := (h j hj).2
theorem Arr.get0 {w : World} {b : Nat} {k : IntKind} {l : List Int} (h : Arr w b 0 k l) (j : Nat) (hj : j < l.length) : w.cell? ⟨b, j, none⟩ = some (.int k (l.getD j 0)) := by simpa using (h j hj).1
theorem Arr.free0 {w : World} {b : Nat} {k : IntKind} {l : List Int} (h : Arr w b 0 k l) (j : Nat) (hj : j < l.length) : w.frozen? ⟨b, j, none⟩ = false := by simpa using (h j hj).2
theorem Arr.set {w : World} {b o : Nat} {k : IntKind} {l : List Int} (h : Arr w b o k l) (i : Nat) (hi : i < l.length) (v : Int) : Arr (w.setCell ⟨b, o + i, none⟩ (.int k v)) b o k (l.set i v) := by
  intro j hj
  rw [List.length_set] at hj
  refine ⟨?_, by rw [World.frozen?_setCell]; exact (h j hj).2⟩
  by_cases e : i = j
  · subst e
    rw [World.cell?_setCell_same _ _ _ (h i hi).1]
    simp [hi]
  · rw [World.cell?_setCell_other _ _ _ _ (by simp), (h j hj).1]
    simp [e]
theorem Arr.set0 {w : World} {b : Nat} {k : IntKind} {l : List Int} (h : Arr w b 0 k l) (i : Nat) (hi : i < l.length) (v : Int) : Arr (w.setCell ⟨b, i, none⟩ (.int k v)) b 0 k (l.set i v) := by
  have := h.set i hi v; simpa using this
theorem Arr.other {w : World} {b o : Nat} {k : IntKind} {l : List Int} (h : Arr w b o k l) (a : Addr) (v : Value) (ha : a.block ≠ b ∨ a.off < o ∨ o + l.length ≤ a.off) : Arr (w.setCell a v) b o k l := by
  intro j hj
  refine ⟨?_, by rw [World.frozen?_setCell]; exact (h j hj).2⟩
  rw [World.cell?_setCell_other _ _ _ _ (by intro hh; subst hh; simp at ha; omega), (h j hj).1]
theorem Arr.alloc {w : World} {b o : Nat} {k : IntKind} {l : List Int} (h : Arr w b o k l) (hb : b < w.heap.size) (x : Obj) : Arr (w.alloc x) b o k l := by
  intro j hj
  rw [World.cell?_alloc_past (hn := hb), World.frozen?_alloc_past (hn := hb)]
  exact h j hj
theorem Arr.drew {w : World} {b o : Nat} {k : IntKind} {l : List Int} (h : Arr w b o k l) : Arr w.drew b o k l := h
theorem Arr.drewN {w : World} {b o : Nat} {k : IntKind} {l : List Int} (h : Arr w b o k l) (n : Nat) : Arr (w.drewN n) b o k l := h
theorem Arr.below {w w' : World} {B b o : Nat} {k : IntKind} {l : List Int} (h : Arr w b o k l) (hb : Below B w w') (hB : b < B) : Arr w' b o k l := by
  intro j hj
  rw [hb.cell (p := ⟨b, o + j, none⟩) hB, hb.frozen (p := ⟨b, o + j, none⟩) hB]
  exact h j hj
theorem Arr.range {w : World} {b o : Nat} {k : IntKind} {l : List Int} (h : Arr w b o k l) : w.rangeAt b o (l.map (Value.int k)) := by
  intro j v hv
  rw [List.getElem?_map] at hv
  cases hq : l[j]? with
  | none => simp [hq] at hv
  | some x =>
    obtain ⟨hj, e⟩ := List.getElem?_eq_some_iff.1 hq
    simp [hq] at hv
    rw [(h j hj).1, ← hv]
    simp [hq]
theorem Arr.there {w : World} {b o : Nat} {k : IntKind} {l : List Int} (h : Arr w b o k l) : w.there b o l.length := by
  intro j hj
  exact ⟨by rw [(h j hj).1]; rfl, (h j hj).2⟩
theorem Arr.setCells {w : World} {b o : Nat} {k : IntKind} {l : List Int} (h : Arr w b o k l) (l' : List Int) (hl : l'.length = l.length) : Arr (w.setCells b o (l'.map (Value.int k))) b o k l' := by
  intro j hj
  have hr := World.rangeAt_setCells_same w b o (l'.map (Value.int k)) (by intro i hi; exact h.there i (by simpa [hl] using hi))
  refine ⟨hr j _ (by simp [hj]), ?_⟩
  rw [World.frozen?_setCells]; exact (h j (by omega)).2
theorem Arr.setCells_apart {w : World} {b o : Nat} {k : IntKind} {l : List Int} (h : Arr w b o k l) (b' o' : Nat) (vs : List Value) (hap : b ≠ b' ∨ o + l.length ≤ o' ∨ o' + vs.length ≤ o) : Arr (w.setCells b' o' vs) b o k l := by
  intro j hj
  rw [World.frozen?_setCells, World.cell?_setCells_out b' vs o' w ⟨b, o + j, none⟩ (by intro hb _; simp at hb; simp; omega)]
  exact h j hj
theorem below_setCells {B : Nat} {a : World} {b : Nat} (hb : B ≤ b) : ∀ (vs : List Value) (o : Nat) {w : World}, Below B a w → Below B a (w.setCells b o vs)
  | [], _, _, h => h
  | v :: r, o, w, h => by
    rw [World.setCells]
    exact below_setCells hb r (o + 1) (h.setCell (p := ⟨b, o, none⟩) hb v)
theorem size_setCells {b : Nat} : ∀ (vs : List Value) (o : Nat) (w : World), (w.setCells b o vs).heap.size = w.heap.size
  | [], _, _ => rfl
  | v :: r, o, w => by
    rw [World.setCells, size_setCells r (o + 1)]
    simp
theorem wpList_store_to {P : Program} {ops : Array Oper} {rest : List Oper} {op : Oper} {a : Act} {w : World} {Q : Exit → Act → World → Prop} (hgd : op.guard = none) (ty : TypeId) (x y : Operand) (ho : op.op = .store ty x y)
    (b o : Nat) (cells : Array Value) (hx : a.eval x = .pointer (some ⟨b, o, none⟩)) (hy : a.eval y = .agg cells)
    (ht : w.there b o cells.size) (hi : (P.info? ty).map (·.size) = some cells.size) (h1 : cells.all (·.oneCell') = true)
    (h : ∀ w', w' = w.setCells b o cells.toList → wpList P ops Q rest (a.put op.dst undef) w') : wpList P ops Q (op :: rest) a w :=
  wpList_store_mid hgd ty x y ho b o cells hx hy ht hi h1 (h _ rfl)
theorem one_ints (k : IntKind) (l : List Int) : (l.map (Value.int k)).toArray.all (·.oneCell') = true := all_oneCell_toArray (by simp [Value.oneCell'])
theorem arr_new (w : World) (k : IntKind) (l : List Int) (t : TypeId) (c : Array Value) (hc : c = (l.map (Value.int k)).toArray) : Arr (w.alloc (.cells c t)) w.heap.size 0 k l := by
  subst hc
  intro j hj
  rw [World.cell?_alloc_at (hn := rfl), World.frozen?_alloc_at (hn := rfl)]
  simp [hj]
theorem arr_new_at (w : World) (k : IntKind) (pre l post : List Value) (ll : List Int) (t : TypeId) (c : Array Value) (hl : l = ll.map (Value.int k)) (hc : c = (pre ++ l ++ post).toArray) : Arr (w.alloc (.cells c t)) w.heap.size pre.length k ll := by
  subst hc hl
  intro j hj
  rw [World.cell?_alloc_at (hn := rfl), World.frozen?_alloc_at (hn := rfl)]
  simp [hj, List.getElem?_append]
end Go.Proofs.YtnkaooafenakdaaGreatDoor

namespace Go.Proofs.YtnkaooafenakdaaGreatDoor
open Go.RowKit
theorem Arr.tail {w : World} {b o : Nat} {k : IntKind} {l : List Int} (h : Arr w b o k l) (i : Nat) (l' : List Int) (hl : i + l'.length = l.length) : Arr (w.setCells b (o + i) (l'.map (Value.int k))) b o k (l.take i ++ l') := by
  intro j hj
  have hjl : j < l.length := by simp at hj; omega
  refine ⟨?_, by rw [World.frozen?_setCells]; exact (h j hjl).2⟩
  by_cases hji : j < i
  · rw [World.cell?_setCells_out b _ (o + i) w ⟨b, o + j, none⟩ (by intro _ _; left; simp; omega), (h j hjl).1]
    simp [List.getElem?_append, hji, hjl, Nat.min_eq_left (show i ≤ l.length by omega)]
  · obtain ⟨m, rfl⟩ : ∃ m, j = i + m := ⟨j - i, by omega⟩
    have hr := World.rangeAt_setCells_same w b (o + i) (l'.map (Value.int k)) (by intro x hx; have hx' : i + x < l.length := by (simp at hx; omega)
                                                                                  rw [Nat.add_assoc]; exact h.there (i + x) hx')
    have hm : m < l'.length := by omega
    have := hr m (.int k (l'.getD m 0)) (by simp [hm])
    rw [Nat.add_assoc] at this
    rw [this]
    have hn : ¬ i + m < i := by omega
    simp [List.getElem?_append, hn, Nat.min_eq_left (show i ≤ l.length by omega)]
end Go.Proofs.YtnkaooafenakdaaGreatDoor
