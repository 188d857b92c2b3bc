import Derived.Maps.StringElems
import Derived.Maps.Ext
import Derived.Lib.SlKeysI
import Derived.Test.YtkkndlkelpdehaaGreatDoorMr00
import Derived.Shelf.Spec.SlicesInsertGrow
import Derived.Shelf.SlicesE.DeleteFunc
import Derived.Shelf.SlIterI.Sorted
import Derived.Shelf.SlIterI.Keys
import Derived.Test.YtkkndlkelpdehaaGreatDoorProg
namespace Go.Proofs.YtkkndlkelpdehaaGreatDoor
open Go.RowKit Go.Maps
/-- What a map from numbers to texts holds, by rising numbers. -/
abbrev Tx := List (Int × ByteArray)
def litS (s : ByteArray) : DataW Unit := .lit (.string s.data.toList)
def txE (l : Tx) : List (Lit × DataW Unit) := l.map fun p => (Lit.int .i64 p.1, litS p.2)
def txD (l : Tx) : DataW Unit := .map (txE l)
def txIns (k : Int) (s : ByteArray) : Tx → Tx
  | [] => [(k, s)]
  | p :: r => if k < p.1 then (k, s) :: p :: r else p :: txIns k s r
def txDel (k : Int) (l : Tx) : Tx := l.filter fun p => !(p.1 == k)
def txPut (k : Int) (s : ByteArray) (l : Tx) : Tx := txIns k s (txDel k l)
def txAt (l : Tx) (k : Int) : Option ByteArray := (l.find? fun p => p.1 == k).map (·.2)
def Srt (l : Tx) : Prop := l.Pairwise fun p q => p.1 < q.1
def txWf (l : Tx) : Prop := ∀ p ∈ l, -9223372036854775808 ≤ p.1 ∧ p.1 ≤ 9223372036854775807
theorem sameInt (a b : Int) : (Lit.int .i64 a).sameKey (.int .i64 b) = (a == b) := by
  by_cases h : a = b <;> simp [Lit.sameKey, h]
theorem txE_ins (k : Int) (s : ByteArray) (l : Tx) : DataW.insert (Lit.int .i64 k, litS s) (txE l) = txE (txIns k s l) := by
  induction l with
  | nil => rfl
  | cons p r ih =>
    show DataW.insert _ ((Lit.int .i64 p.1, litS p.2) :: txE r) = _
    by_cases h : k < p.1
    · simp [DataW.insert, txIns, Lit.before, h, txE]
    · simp [DataW.insert, txIns, Lit.before, h, ih]
      simp [txE]
theorem txE_del (k : Int) (l : Tx) : ((txE l).filter fun p => !p.1.sameKey (.int .i64 k)) = txE (txDel k l) := by
  unfold txE txDel
  rw [List.filter_map]
  congr 1
  exact List.filter_congr (fun p _ => by simp [sameInt])
theorem txD_del (k : Int) (l : Tx) : (txD l).del (.int .i64 k) = txD (txDel k l) := by
  show DataW.map _ = DataW.map _
  rw [txE_del]
theorem txD_put (k : Int) (s : ByteArray) (l : Tx) : (txD l).put (.int .i64 k) (litS s) = txD (txPut k s l) := by
  show DataW.map _ = DataW.map _
  rw [txE_del, txE_ins]
  rfl
theorem txD_find (k : Int) (l : Tx) : ((txE l).find? fun p => p.1.sameKey (.int .i64 k)) = (l.find? fun p => p.1 == k).map fun p => (Lit.int .i64 p.1, litS p.2) := by
  unfold txE
  rw [List.find?_map]
  congr 2
  funext p
  simp [sameInt]
theorem txD_at (k : Int) (l : Tx) (z : DataW Unit) : (txD l).atKey (.int .i64 k) z = match txAt l k with | some s => litS s | none => z := by
  unfold DataW.atKey txD
  simp only [txD_find]
  unfold txAt
  cases l.find? (fun p => p.1 == k) <;> rfl
theorem txD_has (k : Int) (l : Tx) : Maps.has (txD l) (.int .i64 k) = (txAt l k).isSome := by
  have h : ((txE l).find? fun p => p.1.sameKey (.int .i64 k)).isSome = (txE l).any fun p => p.1.sameKey (.int .i64 k) := by
    rw [Bool.eq_iff_iff]; simp [List.find?_isSome]
  show (txE l).any (fun p => p.1.sameKey (.int .i64 k)) = _
  rw [← h, txD_find, txAt]
  cases l.find? (fun p => p.1 == k) <;> rfl
theorem txD_size (l : Tx) : Maps.size (txD l) = l.length := by simp [txD, txE, size_eq]
theorem txD_keys (l : Tx) : intKeys (txD l) = l.map (·.1) := by
  show (txE l).map _ = _
  unfold txE
  rw [List.map_map]
  rfl
theorem mem_ins (k : Int) (s : ByteArray) (l : Tx) (p : Int × ByteArray) : p ∈ txIns k s l ↔ p = (k, s) ∨ p ∈ l := by
  induction l with
  | nil => simp [txIns]
  | cons q r ih =>
    unfold txIns
    split
    · simp
    · simp only [List.mem_cons, ih]
      constructor
      · rintro (h | h | h)
        · exact .inr (.inl h)
        · exact .inl h
        · exact .inr (.inr h)
      · rintro (h | h | h)
        · exact .inr (.inl h)
        · exact .inl h
        · exact .inr (.inr h)
theorem mem_del (k : Int) (l : Tx) (p : Int × ByteArray) : p ∈ txDel k l ↔ p ∈ l ∧ p.1 ≠ k := by
  simp [txDel, List.mem_filter]
theorem srt_del {l : Tx} (h : Srt l) (k : Int) : Srt (txDel k l) := List.Pairwise.filter _ h
theorem srt_ins {l : Tx} (h : Srt l) (k : Int) (s : ByteArray) (hk : ∀ p ∈ l, p.1 ≠ k) : Srt (txIns k s l) := by
  induction l with
  | nil => simp [txIns, Srt]
  | cons q r ih =>
    obtain ⟨h1, h2⟩ := List.pairwise_cons.1 h
    unfold txIns
    split
    · rename_i hq
      refine List.pairwise_cons.2 ⟨fun p hp => ?_, h⟩
      rcases List.mem_cons.1 hp with rfl | hp
      · exact hq
      · exact Int.lt_trans hq (h1 p hp)
    · rename_i hq
      have hne := hk q (by simp)
      refine List.pairwise_cons.2 ⟨fun p hp => ?_, ih h2 (fun p hp => hk p (by simp [hp]))⟩
      rcases (mem_ins k s r p).1 hp with rfl | hp
      · show q.1 < k; omega
      · exact h1 p hp
theorem srt_put {l : Tx} (h : Srt l) (k : Int) (s : ByteArray) : Srt (txPut k s l) := srt_ins (srt_del h k) k s (fun p hp => ((mem_del k l p).1 hp).2)
theorem ins_len (k : Int) (s : ByteArray) (l : Tx) : (txIns k s l).length = l.length + 1 := by
  induction l with
  | nil => rfl
  | cons q r ih =>
    unfold txIns
    split
    · rfl
    · simp [ih]
theorem at_none {l : Tx} {k : Int} : txAt l k = none ↔ ∀ p ∈ l, p.1 ≠ k := by
  unfold txAt
  rw [Option.map_eq_none_iff, List.find?_eq_none]
  constructor
  · intro h p hp e; exact h p hp (by simp [e])
  · intro h p hp e; exact h p hp (by simpa using e)
theorem at_some {l : Tx} (h : Srt l) {k : Int} {s : ByteArray} : txAt l k = some s ↔ (k, s) ∈ l := by
  induction l with
  | nil => simp [txAt]
  | cons q r ih =>
    obtain ⟨h1, h2⟩ := List.pairwise_cons.1 h
    have ih := ih h2
    unfold txAt at ih ⊢
    by_cases e : q.1 = k
    · have : (q.1 == k) = true := by simp [e]
      rw [List.find?_cons_of_pos (by simpa using this)]
      simp only [Option.map_some, Option.some.injEq, List.mem_cons]
      constructor
      · intro h; left; rw [← e, ← h]
      · rintro (h | h)
        · rw [← h]
        · have := h1 _ h; simp only at this; omega
    · have : ¬ ((q.1 == k) = true) := by simp [e]
      rw [List.find?_cons_of_neg (by simpa using this), ih]
      simp only [List.mem_cons]
      constructor
      · exact .inr
      · rintro (h | h)
        · rw [← h] at e; exact absurd rfl e
        · exact h
theorem del_skip {l : Tx} {k : Int} (h : txAt l k = none) : txDel k l = l := List.filter_eq_self.2 (fun p hp => by simpa using at_none.1 h p hp)
theorem del_len {l : Tx} (h : Srt l) {k : Int} {s : ByteArray} (hs : txAt l k = some s) : (txDel k l).length + 1 = l.length := by
  induction l with
  | nil => simp [txAt] at hs
  | cons q r ih =>
    obtain ⟨h1, h2⟩ := List.pairwise_cons.1 h
    by_cases e : q.1 = k
    · have hr : txDel k r = r := List.filter_eq_self.2 (fun p hp => by have := h1 p hp; simp; omega)
      have : txDel k (q :: r) = txDel k r := by unfold txDel; rw [List.filter_cons_of_neg (by simp [e])]
      rw [this, hr]; rfl
    · have e1 : txDel k (q :: r) = q :: txDel k r := by unfold txDel; rw [List.filter_cons_of_pos (by simp [e])]
      have e2 : txAt r k = some s := by
        unfold txAt at hs ⊢
        rwa [List.find?_cons_of_neg (by simp [e])] at hs
      rw [e1, List.length_cons, List.length_cons, ih h2 e2]
theorem put_len {l : Tx} (h : Srt l) (k : Int) (s : ByteArray) : (txPut k s l).length = if (txAt l k).isSome then l.length else l.length + 1 := by
  unfold txPut
  rw [ins_len]
  cases e : txAt l k with
  | none => rw [del_skip e]; rfl
  | some x => rw [del_len h e]; rfl
theorem at_put {l : Tx} (h : Srt l) (k : Int) (s : ByteArray) (i : Int) : txAt (txPut k s l) i = if i = k then some s else txAt l i := by
  have hs := srt_put h k s
  split
  · rename_i e
    subst e
    rw [at_some hs]
    exact (mem_ins _ _ _ _).2 (.inl rfl)
  · rename_i e
    have key : ∀ t, txAt (txPut k s l) i = some t ↔ txAt l i = some t := fun t => by
      rw [at_some hs, at_some h]
      unfold txPut
      rw [mem_ins, mem_del]
      constructor
      · rintro (q | q)
        · cases q; exact absurd rfl e
        · exact q.1
      · intro q; exact .inr ⟨q, e⟩
    cases q : txAt l i with
    | some t => exact (key t).2 q
    | none =>
      cases q' : txAt (txPut k s l) i with
      | none => rfl
      | some t => rw [(key t).1 q'] at q; cases q
theorem at_del {l : Tx} (h : Srt l) (k : Int) (i : Int) : txAt (txDel k l) i = if i = k then none else txAt l i := by
  have hs := srt_del h k
  split
  · rename_i e
    subst e
    exact at_none.2 (fun p hp => ((mem_del _ _ _).1 hp).2)
  · rename_i e
    have key : ∀ t, txAt (txDel k l) i = some t ↔ txAt l i = some t := fun t => by
      rw [at_some hs, at_some h, mem_del]
      exact ⟨fun q => q.1, fun q => ⟨q, e⟩⟩
    cases q : txAt l i with
    | some t => exact (key t).2 q
    | none =>
      cases q' : txAt (txDel k l) i with
      | none => rfl
      | some t => rw [(key t).1 q'] at q; cases q
/-- The numbers, sorted: they stand so already. -/
theorem keys_sorted {l : Tx} (h : Srt l) {ss : List Int} (hp : ss.Perm (intKeys (txD l))) : (ss.mergeSort fun x y => decide (x ≤ y)) = l.map (·.1) := by
  rw [txD_keys] at hp
  refine List.Perm.eq_of_pairwise (le := fun a b : Int => a ≤ b) (fun a b _ _ h1 h2 => Int.le_antisymm h1 h2) ?_ ?_ ((List.mergeSort_perm ss _).trans hp)
  · have := List.pairwise_mergeSort (le := fun x y : Int => decide (x ≤ y)) (fun a b c h1 h2 => by simp only [decide_eq_true_eq] at *; omega) (fun a b => by simp only [Bool.or_eq_true, decide_eq_true_eq]; omega) ss
    exact this.imp (fun q => by simpa using q)
  · exact List.pairwise_map.2 (h.imp (fun q => Int.le_of_lt q))
end Go.Proofs.YtkkndlkelpdehaaGreatDoor

namespace Go.Proofs.YtkkndlkelpdehaaGreatDoor
open Go.RowKit Go.Maps Go.ChangeMaps Go.MapKept
open Go.WideElems (Fit rd rg pl rd_val elemAt)
theorem ba_eq {c s : ByteArray} (h : c.data.toList = s.data.toList) : c = s := by
  cases c; cases s; simp at h; simp [h]
theorem litS_inj {c s : ByteArray} (h : (litS c) = litS s) : c = s := by
  unfold litS at h
  injection h with h
  injection h with h
  exact ba_eq h
theorem ownsMap_tight {H : Type} {P : Program} {k : TypeId} {R : Value → Option (DataW H × List MemPlace)} {w : World} {b n : Nat} {D : DataW H} (h : w.ownsMap P k R b n D) : w.ownsMap P k R b (Maps.size D) D := by
  obtain ⟨es, clock, hb, F, hs, hD⟩ := h
  refine ⟨es, clock, hb, F, ?_, hD⟩
  subst hD
  simp [Maps.size, length_sorted]
theorem wf_of {k : Int} (h1 : -9223372036854775808 ≤ k) (h2 : k ≤ 9223372036854775807) : (Lit.int .i64 k).wf = true := by
  simp [Lit.wf, IntKind.min, IntKind.max, IntKind.signed, IntKind.bits]; omega
/-- Block b is a map that holds l. -/
def Mp (w : World) (b : Nat) (l : Tx) : Prop := w.ownsMap Tryz.prog 3 (plainElem Tryz.prog 9) b l.length (txD l) ∧ Srt l
def I64k (k : Int) : Prop := -9223372036854775808 ≤ k ∧ k ≤ 9223372036854775807
theorem key3 {k : Int} (h : I64k k) : keyOf Tryz.prog 3 (.int .i64 k) = some (.int .i64 k) := keyOf_int_mk Tryz.underlying3 (wf_of h.1 h.2)
theorem law3 : Keyed Tryz.prog 3 := int_keyed Tryz.underlying3
theorem zero9 (w : World) : (zeroValue 9).run Tryz.prog w = .ok (.string ByteArray.empty) w := by kernel_rfl
theorem Mp.lt {w : World} {b : Nat} {l : Tx} (h : Mp w b l) : b < w.heap.size := h.1.lt
theorem Mp.only {w w' : World} {b : Nat} {l : Tx} {P : Nat → Prop} (h : Mp w b l) (ho : Only P w w') (hp : ¬ P b) : Mp w' b l := by
  refine ⟨?_, h.2⟩
  have hlt := h.1.lt
  obtain ⟨es, clock, hb, F, hs, hD⟩ := h.1
  exact ⟨es, clock, (ho.2 b hlt hp).trans hb, F, hs, hD⟩
theorem Mp.below {w w' : World} {b : Nat} {l : Tx} {B : Nat} (h : Mp w b l) (hb : Below B w w') (hB : b < B) : Mp w' b l := by
  refine ⟨?_, h.2⟩
  obtain ⟨es, clock, hb', F, hs, hD⟩ := h.1
  exact ⟨es, clock, (hb.block b hB).trans hb', F, hs, hD⟩
theorem Mp.alloc {w : World} {b : Nat} {l : Tx} (h : Mp w b l) (o : Obj) : Mp (w.alloc o) b l := ⟨h.1.alloc o, h.2⟩
theorem Mp.drew {w : World} {b : Nat} {l : Tx} (h : Mp w b l) : Mp w.drew b l := h
theorem Mp.setCell {w : World} {b : Nat} {l : Tx} (h : Mp w b l) {a : Addr} (ha : a.block ≠ b) (u : Value) : Mp (w.setCell a u) b l := ⟨h.1.setCell (fun e => ha e.symm) u, h.2⟩
theorem Mp.not_blk {w : World} {b : Nat} {l : Tx} (h : Mp w b l) {x : Nat} {cur : Array Value} {T : TypeId} (hx : Blk w x cur T) : x ≠ b := fun e => by
  subst e
  obtain ⟨es, clock, hb, _⟩ := h.1
  have := (show w.heap[x]? = _ from hx).symm.trans hb
  simp at this
theorem Mp.made (w : World) : Mp (w.alloc (.map #[] 0)) w.heap.size [] := ⟨World.ownsMap_made w _ _ _, List.Pairwise.nil⟩
theorem Mp.look {w : World} {b : Nat} {l : Tx} (h : Mp w b l) {k : Int} (hk : I64k k) :
    (Instr.lookup 54 (.map (some b)) (.int .i64 k) true).run Tryz.prog w = .ok (.tuple #[.string ((txAt l k).getD ByteArray.empty), .bool (txAt l k).isSome]) w ∧
    (Instr.lookup 54 (.map (some b)) (.int .i64 k) false).run Tryz.prog w = .ok (.string ((txAt l k).getD ByteArray.empty)) w := by
  have hz0 : plainElem (H := Unit) Tryz.prog 9 (.string ByteArray.empty) = some (litS ByteArray.empty, []) := plainElem_string Tryz.underlying9 (by decide)
  have key : ∀ (v : Value) (ps : List MemPlace), plainElem (H := Unit) Tryz.prog 9 v = some ((txD l).atKey (.int .i64 k) (litS ByteArray.empty), ps) → v = .string ((txAt l k).getD ByteArray.empty) := fun v ps hv => by
    obtain ⟨c, rfl, hc, _⟩ := plainElem_string_inv Tryz.underlying9 hv
    have h1 : (txD l).atKey (.int .i64 k) (litS ByteArray.empty) = litS c := congrArg Prod.fst hc
    rw [txD_at] at h1
    cases e : txAt l k with
    | none => rw [e] at h1; rw [litS_inj h1]; rfl
    | some s => rw [e] at h1; rw [litS_inj h1]; rfl
  constructor
  · obtain ⟨v, ps, hrun, hv⟩ := h.1.look_ok law3 Tryz.underlying54 (zero9 w) hz0 (key3 hk)
    rw [hrun, key v ps hv, txD_has]
  · obtain ⟨v, ps, hrun, hv⟩ := h.1.lookup law3 Tryz.underlying54 (zero9 w) hz0 (key3 hk)
    rw [hrun, key v ps hv]
theorem Mp.len {w : World} {b : Nat} {l : Tx} (h : Mp w b l) (ty : TypeId) : (Builtin.len_ #[54] ty #[.map (some b)]).run Tryz.prog w = .ok (.int .i64 (l.length : Int)) w := by
  rw [h.1.len Tryz.underlying54 ty, txD_size]
theorem Only.turned {w w' : World} {b : Nat} (h : w.mapTurned w' b) : Only (fun x => x = b) w w' := by
  have := h.grown
  exact ⟨⟨this.os, this.tape, this.output, this.size, fun k hk => absurd hk (Nat.not_lt_zero k)⟩, fun k hk hn => this.block k hk (fun e => hn (by cases e; rfl))⟩
theorem turned_size {w w' : World} {b : Nat} (h : w.mapTurned w' b) : w'.heap.size = w.heap.size := by
  obtain ⟨es, clock, es', clock', hb, rfl⟩ := h
  simp [setBlock]
theorem Mp.put {w : World} {b : Nat} {l : Tx} (h : Mp w b l) {k : Int} (hk : I64k k) (s : ByteArray) (hs : s.size ≤ maxLen) (hl : l.length ≤ 1000000) :
    ∃ w', (Instr.mapUpdate 54 (.map (some b)) (.int .i64 k) (.string s)).run Tryz.prog w = .ok () w' ∧ Mp w' b (txPut k s l) ∧ Only (fun x => x = b) w w' ∧ w'.heap.size = w.heap.size := by
  obtain ⟨w', hrun, hm, ht⟩ := h.1.store law3 Tryz.underlying54 (by unfold maxLen; omega) (key3 hk) (plainElem_string Tryz.underlying9 hs)
  refine ⟨w', hrun, ⟨?_, srt_put h.2 k s⟩, Only.turned ht, turned_size ht⟩
  have h1 : w'.ownsMap Tryz.prog 3 (plainElem Tryz.prog 9) b (l.length + 1) (txD (txPut k s l)) := by rw [← txD_put]; exact hm
  have h2 := ownsMap_tight h1
  rwa [txD_size] at h2
theorem Mp.del {w : World} {b : Nat} {l : Tx} (h : Mp w b l) {k : Int} (hk : I64k k) (ty : TypeId) :
    ∃ w', (Builtin.delete_ #[54, 3] ty #[.map (some b), .int .i64 k]).run Tryz.prog w = .ok (.tuple #[]) w' ∧ Mp w' b (txDel k l) ∧ Only (fun x => x = b) w w' ∧ w'.heap.size = w.heap.size := by
  obtain ⟨w', hrun, hm, ht⟩ := h.1.drop law3 Tryz.underlying54 (key3 hk) ty
  refine ⟨w', hrun, ⟨?_, srt_del h.2 k⟩, Only.turned ht, turned_size ht⟩
  have h1 : w'.ownsMap Tryz.prog 3 (plainElem Tryz.prog 9) b l.length (txD (txDel k l)) := by rw [← txD_del]; exact hm
  have h2 := ownsMap_tight h1
  rwa [txD_size] at h2
theorem Mp.clear {w : World} {b : Nat} {l : Tx} (h : Mp w b l) (ty : TypeId) :
    ∃ w', (Builtin.clear_ #[54] ty #[.map (some b)]).run Tryz.prog w = .ok (.tuple #[]) w' ∧ Mp w' b [] ∧ Only (fun x => x = b) w w' ∧ w'.heap.size = w.heap.size := by
  obtain ⟨es, clock, hb, F, hs, hD⟩ := h.1
  have ht : w.mapTurned (setBlock w b (.map #[] clock)) b := ⟨es, clock, #[], clock, hb, rfl⟩
  refine ⟨setBlock w b (.map #[] clock), ?_, ⟨⟨#[], clock, heap_setBlock_same hb _, ⟨by simp, stamped_empty clock, by simp⟩, Nat.le_refl _, rfl⟩, List.Pairwise.nil⟩, Only.turned ht, turned_size ht⟩
  simp [Builtin.clear_, run_underlying Tryz.underlying54, MapKept.run_getObj_map (P := Tryz.prog) hb, MapKept.run_setObj_map (P := Tryz.prog) _ hb, Result.andThen]
  rfl
end Go.Proofs.YtkkndlkelpdehaaGreatDoor

namespace Go.Proofs.YtkkndlkelpdehaaGreatDoor
open Go.RowKit Go.Maps
/-- No number twice. -/
def Ndk (l : Tx) : Prop := l.Pairwise fun p q => p.1 ≠ q.1
theorem Srt.nd {l : Tx} (h : Srt l) : Ndk l := h.imp (fun q => by omega)
theorem Ndk.perm {l h : Tx} (hn : Ndk l) (hp : l.Perm h) : Ndk h := hp.pairwise hn (fun q => Ne.symm q)
theorem at_some' {l : Tx} (h : Ndk l) {k : Int} {s : ByteArray} : txAt l k = some s ↔ (k, s) ∈ l := by
  induction l with
  | nil => simp [txAt]
  | cons q r ih =>
    obtain ⟨h1, h2⟩ := List.pairwise_cons.1 h
    have ih := ih h2
    unfold txAt at ih ⊢
    by_cases e : q.1 = k
    · rw [List.find?_cons_of_pos (by simp [e])]
      simp only [Option.map_some, Option.some.injEq, List.mem_cons]
      constructor
      · intro h; left; rw [← e, ← h]
      · rintro (h | h)
        · rw [← h]
        · exact absurd e (h1 _ h)
    · rw [List.find?_cons_of_neg (by simp [e]), ih]
      simp only [List.mem_cons]
      constructor
      · exact .inr
      · rintro (h | h)
        · rw [← h] at e; exact absurd rfl e
        · exact h
theorem at_perm {l h : Tx} (hn : Ndk l) (hp : l.Perm h) (k : Int) : txAt h k = txAt l k := by
  have key : ∀ t, txAt h k = some t ↔ txAt l k = some t := fun t => by
    rw [at_some' (hn.perm hp), at_some' hn]
    exact hp.symm.mem_iff
  cases q : txAt l k with
  | some t => exact (key t).2 q
  | none =>
    cases q' : txAt h k with
    | none => rfl
    | some t => rw [(key t).1 q'] at q; cases q
theorem ins_perm (k : Int) (s : ByteArray) (l : Tx) : (txIns k s l).Perm ((k, s) :: l) := by
  induction l with
  | nil => exact List.Perm.refl _
  | cons q r ih =>
    unfold txIns
    split
    · exact List.Perm.refl _
    · exact (List.Perm.cons q ih).trans (List.Perm.swap _ _ _)
theorem del_perm {l h : Tx} (hp : l.Perm h) (k : Int) : (txDel k l).Perm (txDel k h) := List.Perm.filter _ hp
theorem del_del (k : Int) (l : Tx) : txDel k (txDel k l) = txDel k l := by
  unfold txDel
  rw [List.filter_filter]
  simp
theorem put_perm {l h : Tx} (hp : l.Perm h) (k : Int) (s : ByteArray) : (txPut k s (txDel k l)).Perm ((k, s) :: txDel k h) := by
  unfold txPut
  rw [del_del]
  exact (ins_perm k s _).trans (List.Perm.cons _ (del_perm hp k))
theorem del_keys (k : Int) (h : Tx) : (txDel k h).map (·.1) = (h.map (·.1)).filter fun x => !(x == k) := by
  unfold txDel
  rw [List.filter_map]
  rfl
theorem nd_del {l : Tx} (h : Ndk l) (k : Int) : Ndk (txDel k l) := List.Pairwise.filter _ h
theorem nd_cons {l : Tx} (h : Ndk l) (k : Int) (s : ByteArray) : Ndk ((k, s) :: txDel k l) :=
  List.pairwise_cons.2 ⟨fun p hp => fun e => ((mem_del k l p).1 hp).2 e.symm, nd_del h k⟩
/-- A sector is laid to the front. -/
def hLay (keep : Nat) (k : Int) (s : ByteArray) (h : Tx) : Tx := ((k, s) :: txDel k h).take keep
theorem hLay_len (keep : Nat) (k : Int) (s : ByteArray) (h : Tx) : (hLay keep k s h).length ≤ keep := by
  unfold hLay; rw [List.length_take]; omega
theorem hLay_nd {h : Tx} (hn : Ndk h) (keep : Nat) (k : Int) (s : ByteArray) : Ndk (hLay keep k s h) := (nd_cons hn k s).sublist (List.take_sublist _ _)
theorem hLay_mem {keep : Nat} {k : Int} {s : ByteArray} {h : Tx} {p : Int × ByteArray} (hp : p ∈ hLay keep k s h) : p = (k, s) ∨ p ∈ h := by
  have := List.mem_of_mem_take hp
  rcases List.mem_cons.1 this with q | q
  · exact .inl q
  · exact .inr ((mem_del k h p).1 q).1
theorem del_length (k : Int) (h : Tx) : (txDel k h).length ≤ h.length := List.length_filter_le _ _
/-- The last one goes. -/
theorem del_last {m : Tx} (hn : Ndk m) {n : Nat} (hl : m.length = n + 1) (z : Int) (hz : (m.map (·.1)).getD n 0 = z) : txDel z m = m.take n := by
  have hlt : n < m.length := by omega
  have e0 : m = m.take n ++ [m[n]] := by
    conv => lhs; rw [← List.take_append_drop n m]
    congr 1
    rw [List.drop_eq_getElem_cons hlt, List.drop_eq_nil_of_le (by omega)]
  have ez : m[n].1 = z := by
    rw [← hz]
    simp [List.getD_eq_getElem?_getD, hlt]
  have hnd : Ndk (m.take n ++ [m[n]]) := by rw [← e0]; exact hn
  have hd := (List.pairwise_append.1 hnd).2.2
  conv => lhs; rw [e0]
  unfold txDel
  rw [List.filter_append]
  have e1 : (m.take n).filter (fun p => !(p.1 == z)) = m.take n := List.filter_eq_self.2 (fun p hp => by have := hd p hp _ (by simp : m[n] ∈ [m[n]]); rw [ez] at this; simpa using this)
  have e2 : [m[n]].filter (fun p => !(p.1 == z)) = [] := by simp [ez]
  rw [e1, e2, List.append_nil]
end Go.Proofs.YtkkndlkelpdehaaGreatDoor

namespace Go.Proofs.YtkkndlkelpdehaaGreatDoor
open Go.Shelf
def Tryz.insL_ren : Go.Shelf.Ren := ⟨fun | 21 => 56 | 27 => 88 | 28 => 89 | 35 => 126 | 39 => 139 | n => n, fun | 22 => 28 | 3 => 3 | 4 => 4 | 0 => 0 | n => n, fun | n => n⟩
theorem Tryz.insL : Go.Proofs.Lays2.n21 Tryz.prog Tryz.insL_ren := {
  mixed := by kernel_rfl
  f21 := Tryz.func56.trans (congrArg some (by kernel_rfl))
  f27 := Tryz.func88.trans (congrArg some (by kernel_rfl))
  f28 := Tryz.func89.trans (congrArg some (by kernel_rfl))
  f35 := Tryz.func126.trans (congrArg some (by kernel_rfl))
  f39 := Tryz.func139.trans (congrArg some (by kernel_rfl))
  t0 := Tryz.underlying0
  a0 := Tryz.isAgg0
  z0 := Tryz.sizeOf0
  v0 := Tryz.zeroValue0
  t3 := Tryz.underlying3
  a3 := Tryz.isAgg3
  z3 := Tryz.sizeOf3
  v3 := Tryz.zeroValue3
  t4 := Tryz.underlying4
  a4 := Tryz.isAgg4
  z4 := Tryz.sizeOf4
  v4 := Tryz.zeroValue4
  t22 := Tryz.underlying28
  a22 := Tryz.isAgg28
  z22 := Tryz.sizeOf28
  v22 := Tryz.zeroValue28
  i3 := by kernel_rfl }
def Tryz.delL_ren : Go.Shelf.Ren := ⟨fun | 10 => 86 | 6 => 125 | n => n, fun | 22 => 28 | 23 => 3 | 25 => 70 | 3 => 3 | 4 => 4 | 0 => 0 | n => n, fun | n => n⟩
theorem Tryz.delL : Go.Proofs.SlLaysH.n10 Tryz.prog Tryz.delL_ren := {
  mixed := by kernel_rfl
  f6 := ⟨Tryz.f125.name, by decide, Tryz.func125.trans (congrArg some (by kernel_rfl))⟩
  f10 := ⟨Tryz.f86.name, by decide, Tryz.func86.trans (congrArg some (by kernel_rfl))⟩
  t0 := Tryz.underlying0
  a0 := Tryz.isAgg0
  z0 := Tryz.sizeOf0
  v0 := Tryz.zeroValue0
  t3 := Tryz.underlying3
  a3 := Tryz.isAgg3
  z3 := Tryz.sizeOf3
  v3 := Tryz.zeroValue3
  t4 := Tryz.underlying4
  a4 := Tryz.isAgg4
  z4 := Tryz.sizeOf4
  v4 := Tryz.zeroValue4
  t22 := Tryz.underlying28
  a22 := Tryz.isAgg28
  z22 := Tryz.sizeOf28
  v22 := Tryz.zeroValue28
  a23 := Tryz.isAgg3
  z23 := Tryz.sizeOf3
  t25 := Tryz.underlying70
  a25 := Tryz.isAgg70
  z25 := Tryz.sizeOf70
  v25 := Tryz.zeroValue70 }
def Tryz.keysL_ren : Go.Shelf.Ren := ⟨fun | 7 => 23 | 10 => 47 | n => n, fun | 23 => 54 | 26 => 3 | 3 => 9 | 28 => 62 | 0 => 0 | 27 => 61 | 33 => 70 | 4 => 4 | n => n, fun | n => n⟩
theorem Tryz.keysL : Go.Proofs.SlLaysZI.n7 Tryz.prog Tryz.keysL_ren := {
  mixed := by kernel_rfl
  f7 := ⟨Tryz.f23.name, by decide, Tryz.func23.trans (congrArg some (by kernel_rfl))⟩
  f10 := ⟨Tryz.f47.name, by decide, Tryz.func47.trans (congrArg some (by kernel_rfl))⟩
  t0 := Tryz.underlying0
  a0 := Tryz.isAgg0
  z0 := Tryz.sizeOf0
  v0 := Tryz.zeroValue0
  t4 := Tryz.underlying4
  a4 := Tryz.isAgg4
  z4 := Tryz.sizeOf4
  v4 := Tryz.zeroValue4
  t23 := Tryz.underlying54
  a23 := Tryz.isAgg54
  z23 := Tryz.sizeOf54
  v23 := Tryz.zeroValue54
  t26 := Tryz.underlying3
  a26 := Tryz.isAgg3
  z26 := Tryz.sizeOf3
  v26 := Tryz.zeroValue3
  t27 := Tryz.underlying61
  a27 := Tryz.isAgg61
  z27 := Tryz.sizeOf61
  v27 := Tryz.zeroValue61
  t28 := Tryz.underlying62
  a28 := Tryz.isAgg62
  z28 := Tryz.sizeOf62
  v28 := Tryz.zeroValue62
  t33 := Tryz.underlying70
  a33 := Tryz.isAgg70
  z33 := Tryz.sizeOf70
  v33 := Tryz.zeroValue70 }
def Tryz.sortedL_ren : Go.Shelf.Ren := ⟨fun | 6 => 22 | 8 => 45 | 9 => 46 | 11 => 75 | 13 => 77 | 12 => 76 | 23 => 122 | 24 => 123 | 14 => 113 | 15 => 114 | 16 => 115 | 17 => 116 | 18 => 117 | 19 => 118 | 20 => 119 | 21 => 120 | 22 => 121 | 25 => 133 | 26 => 134 | 27 => 135 | 28 => 136 | 29 => 137 | 30 => 138 | 31 => 143 | n => n, fun | 26 => 3 | 28 => 62 | 24 => 28 | 0 => 0 | 3 => 3 | 37 => 108 | 48 => 89 | 50 => 147 | 4 => 4 | 40 => 167 | 39 => 166 | 45 => 171 | 5 => 5 | 9 => 9 | 51 => 186 | 55 => 190 | 57 => 195 | 58 => 196 | 33 => 70 | n => n, fun | n => n⟩
theorem Tryz.sortedL : Go.Proofs.SlLaysZI.n6 Tryz.prog Tryz.sortedL_ren := {
  mixed := by kernel_rfl
  f6 := ⟨Tryz.f22.name, by decide, Tryz.func22.trans (congrArg some (by kernel_rfl))⟩
  f8 := ⟨Tryz.f45.name, by decide, Tryz.func45.trans (congrArg some (by kernel_rfl))⟩
  f11 := ⟨Tryz.f75.name, by decide, Tryz.func75.trans (congrArg some (by kernel_rfl))⟩
  t0 := Tryz.underlying0
  a0 := Tryz.isAgg0
  z0 := Tryz.sizeOf0
  v0 := Tryz.zeroValue0
  t24 := Tryz.underlying28
  a24 := Tryz.isAgg28
  z24 := Tryz.sizeOf28
  v24 := Tryz.zeroValue28
  t26 := Tryz.underlying3
  a26 := Tryz.isAgg3
  z26 := Tryz.sizeOf3
  v26 := Tryz.zeroValue3
  t28 := Tryz.underlying62
  a28 := Tryz.isAgg62
  z28 := Tryz.sizeOf62
  v28 := Tryz.zeroValue62
  i26 := by kernel_rfl }
end Go.Proofs.YtkkndlkelpdehaaGreatDoor
