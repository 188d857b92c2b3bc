import Derived.Maps.StringElems
import Derived.Maps.Ext
import Derived.Lib.SlKeysI
import Derived.Test.YtiellebdliifdaaGreatDoorMt00
import Derived.Test.YtiellebdliifdaaGreatDoorMt10
import Derived.StillTailTactics
namespace Go.Proofs.YtiellebdliifdaaGreatDoor
open Go.RowKit Go.Maps
abbrev Tx := List (Int × ByteArray)
def litS (s : ByteArray) : DataW Unit := .lit (.string s.data.toList)
def txE (l : Tx) : List (Lit × DataW Unit) := l.map fun p => (Lit.int .i64 p.1, litS p.2)
def txD (l : Tx) : DataW Unit := .map (txE l)
def txIns (k : Int) (s : ByteArray) : Tx → Tx
 | [] => [(k, s)]
 | p :: r => if k < p.1 then (k, s) :: p :: r else p :: txIns k s r
def txDel (k : Int) (l : Tx) : Tx := l.filter fun p => !(p.1 == k)
def txPut (k : Int) (s : ByteArray) (l : Tx) : Tx := txIns k s (txDel k l)
def txAt (l : Tx) (k : Int) : Option ByteArray := (l.find? fun p => p.1 == k).map (·.2)
def Srt (l : Tx) : Prop := l.Pairwise fun p q => p.1 < q.1
theorem sameInt (a b : Int) : (Lit.int .i64 a).sameKey (.int .i64 b) = (a == b) := by
 by_cases h : a = b <;> simp [Lit.sameKey, h]
theorem txE_ins (k : Int) (s : ByteArray) (l : Tx) : DataW.insert (Lit.int .i64 k, litS s) (txE l) = txE (txIns k s l) := by
 induction l with
 | nil => rfl
 | cons p r ih =>
  show DataW.insert _ ((Lit.int .i64 p.1, litS p.2) :: txE r) = _
  by_cases h : k < p.1
  ·simp [DataW.insert, txIns, Lit.before, h, txE]
  ·simp [DataW.insert, txIns, Lit.before, h, ih]
   simp [txE]
theorem txE_del (k : Int) (l : Tx) : ((txE l).filter fun p => !p.1.sameKey (.int .i64 k)) = txE (txDel k l) := by
 unfold txE txDel
 rw [List.filter_map]
 congr 1
 exact List.filter_congr (fun p _ => by simp [sameInt])
theorem txD_del (k : Int) (l : Tx) : (txD l).del (.int .i64 k) = txD (txDel k l) := by
 show DataW.map _ = DataW.map _
 rw [txE_del]
theorem txD_put (k : Int) (s : ByteArray) (l : Tx) : (txD l).put (.int .i64 k) (litS s) = txD (txPut k s l) := by
 show DataW.map _ = DataW.map _
 rw [txE_del, txE_ins]
 rfl
theorem txD_find (k : Int) (l : Tx) : ((txE l).find? fun p => p.1.sameKey (.int .i64 k)) = (l.find? fun p => p.1 == k).map fun p => (Lit.int .i64 p.1, litS p.2) := by
 unfold txE
 rw [List.find?_map]
 congr 2
 funext p
 simp [sameInt]
theorem txD_at (k : Int) (l : Tx) (z : DataW Unit) : (txD l).atKey (.int .i64 k) z = match txAt l k with | some s => litS s | none => z := by
 unfold DataW.atKey txD
 simp only [txD_find]
 unfold txAt
 cases l.find? (fun p => p.1 == k) <;> rfl
theorem txD_has (k : Int) (l : Tx) : Maps.has (txD l) (.int .i64 k) = (txAt l k).isSome := by
 have h : ((txE l).find? fun p => p.1.sameKey (.int .i64 k)).isSome = (txE l).any fun p => p.1.sameKey (.int .i64 k) := by
  rw [Bool.eq_iff_iff]; simp [List.find?_isSome]
 show (txE l).any (fun p => p.1.sameKey (.int .i64 k)) = _
 rw [← h, txD_find, txAt]
 cases l.find? (fun p => p.1 == k) <;> rfl
theorem txD_size (l : Tx) : Maps.size (txD l) = l.length := by simp [txD, txE, size_eq]
theorem txD_keys (l : Tx) : intKeys (txD l) = l.map (·.1) := by
 show (txE l).map _ = _
 unfold txE
 rw [List.map_map]
 rfl
theorem mem_ins (k : Int) (s : ByteArray) (l : Tx) (p : Int × ByteArray) : p ∈ txIns k s l ↔ p = (k, s) ∨ p ∈ l := by
 induction l with
 | nil => simp [txIns]
 | cons q r ih =>
  unfold txIns
  split
  ·simp
  ·simp only [List.mem_cons, ih]
   constructor
   ·rintro (h | h | h)
    ·exact .inr (.inl h)
    ·exact .inl h
    ·exact .inr (.inr h)
   ·rintro (h | h | h)
    ·exact .inr (.inl h)
    ·exact .inl h
    ·exact .inr (.inr h)
theorem mem_del (k : Int) (l : Tx) (p : Int × ByteArray) : p ∈ txDel k l ↔ p ∈ l ∧ p.1 ≠ k := by
 simp [txDel, List.mem_filter]
theorem srt_del {l : Tx} (h : Srt l) (k : Int) : Srt (txDel k l) := List.Pairwise.filter _ h
theorem srt_ins {l : Tx} (h : Srt l) (k : Int) (s : ByteArray) (hk : ∀ p ∈ l, p.1 ≠ k) : Srt (txIns k s l) := by
 induction l with
 | nil => simp [txIns, Srt]
 | cons q r ih =>
  obtain ⟨h1, h2⟩ := List.pairwise_cons.1 h
  unfold txIns
  split
  ·rename_i hq
   refine List.pairwise_cons.2 ⟨fun p hp => ?_, h⟩
   rcases List.mem_cons.1 hp with rfl | hp
   ·exact hq
   ·exact Int.lt_trans hq (h1 p hp)
  ·rename_i hq
   have hne := hk q (by simp)
   refine List.pairwise_cons.2 ⟨fun p hp => ?_, ih h2 (fun p hp => hk p (by simp [hp]))⟩
   rcases (mem_ins k s r p).1 hp with rfl | hp
   ·show q.1 < k; omega
   ·exact h1 p hp
theorem srt_put {l : Tx} (h : Srt l) (k : Int) (s : ByteArray) : Srt (txPut k s l) := srt_ins (srt_del h k) k s (fun p hp => ((mem_del k l p).1 hp).2)
theorem ins_len (k : Int) (s : ByteArray) (l : Tx) : (txIns k s l).length = l.length + 1 := by
 induction l with
 | nil => rfl
 | cons q r ih =>
  unfold txIns
  split
  ·rfl
  ·simp [ih]
theorem at_none {l : Tx} {k : Int} : txAt l k = none ↔ ∀ p ∈ l, p.1 ≠ k := by
 unfold txAt
 rw [Option.map_eq_none_iff, List.find?_eq_none]
 constructor
 ·intro h p hp e; exact h p hp (by simp [e])
 ·intro h p hp e; exact h p hp (by simpa using e)
theorem at_some {l : Tx} (h : Srt l) {k : Int} {s : ByteArray} : txAt l k = some s ↔ (k, s) ∈ l := by
 induction l with
 | nil => simp [txAt]
 | cons q r ih =>
  obtain ⟨h1, h2⟩ := List.pairwise_cons.1 h
  have ih := ih h2
  unfold txAt at ih ⊢
  by_cases e : q.1 = k
  ·have : (q.1 == k) = true := by simp [e]
   rw [List.find?_cons_of_pos (by simpa using this)]
   simp only [Option.map_some, Option.some.injEq, List.mem_cons]
   constructor
   ·intro h; left; rw [← e, ← h]
   ·rintro (h | h)
    ·rw [← h]
    ·have := h1 _ h; simp only at this; omega
  ·have : ¬ ((q.1 == k) = true) := by simp [e]
   rw [List.find?_cons_of_neg (by simpa using this), ih]
   simp only [List.mem_cons]
   constructor
   ·exact .inr
   ·rintro (h | h)
    ·rw [← h] at e; exact absurd rfl e
    ·exact h
theorem del_skip {l : Tx} {k : Int} (h : txAt l k = none) : txDel k l = l := List.filter_eq_self.2 (fun p hp => by simpa using at_none.1 h p hp)
theorem del_len {l : Tx} (h : Srt l) {k : Int} {s : ByteArray} (hs : txAt l k = some s) : (txDel k l).length + 1 = l.length := by
 induction l with
 | nil => simp [txAt] at hs
 | cons q r ih =>
  obtain ⟨h1, h2⟩ := List.pairwise_cons.1 h
  by_cases e : q.1 = k
  ·have hr : txDel k r = r := List.filter_eq_self.2 (fun p hp => by have := h1 p hp; simp; omega)
   have : txDel k (q :: r) = txDel k r := by unfold txDel; rw [List.filter_cons_of_neg (by simp [e])]
   rw [this, hr]; rfl
  ·have e1 : txDel k (q :: r) = q :: txDel k r := by unfold txDel; rw [List.filter_cons_of_pos (by simp [e])]
   have e2 : txAt r k = some s := by
    unfold txAt at hs ⊢
    rwa [List.find?_cons_of_neg (by simp [e])] at hs
   rw [e1, List.length_cons, List.length_cons, ih h2 e2]
theorem put_len {l : Tx} (h : Srt l) (k : Int) (s : ByteArray) : (txPut k s l).length = if (txAt l k).isSome then l.length else l.length + 1 := by
 unfold txPut
 rw [ins_len]
 cases e : txAt l k with
 | none => rw [del_skip e]; rfl
 | some x => rw [del_len h e]; rfl
theorem at_put {l : Tx} (h : Srt l) (k : Int) (s : ByteArray) (i : Int) : txAt (txPut k s l) i = if i = k then some s else txAt l i := by
 have hs := srt_put h k s
 split
 ·rename_i e
  subst e
  rw [at_some hs]
  exact (mem_ins _ _ _ _).2 (.inl rfl)
 ·rename_i e
  have key : ∀ t, txAt (txPut k s l) i = some t ↔ txAt l i = some t := fun t => by
   rw [at_some hs, at_some h]
   unfold txPut
   rw [mem_ins, mem_del]
   constructor
   ·rintro (q | q)
    ·cases q; exact absurd rfl e
    ·exact q.1
   ·intro q; exact .inr ⟨q, e⟩
  cases q : txAt l i with
  | some t => exact (key t).2 q
  | none =>
   cases q' : txAt (txPut k s l) i with
   | none => rfl
   | some t => rw [(key t).1 q'] at q; cases q
theorem keys_sorted {l : Tx} (h : Srt l) {ss : List Int} (hp : ss.Perm (intKeys (txD l))) : (ss.mergeSort fun x y => decide (x ≤ y)) = l.map (·.1) := by
 rw [txD_keys] at hp
 refine List.Perm.eq_of_pairwise (le := fun a b : Int => a ≤ b) (fun a b _ _ h1 h2 => Int.le_antisymm h1 h2) ?_ ?_ ((List.mergeSort_perm ss _).trans hp)
 ·have := List.pairwise_mergeSort (le := fun x y : Int => decide (x ≤ y)) (fun a b c h1 h2 => by simp only [decide_eq_true_eq] at *; omega) (fun a b => by simp only [Bool.or_eq_true, decide_eq_true_eq]; omega) ss
  exact this.imp (fun q => by simpa using q)
 ·exact List.pairwise_map.2 (h.imp (fun q => Int.le_of_lt q))
end Go.Proofs.YtiellebdliifdaaGreatDoor
namespace Go.Proofs.YtiellebdliifdaaGreatDoor
open Go.RowKit Go.Maps Go.ChangeMaps Go.MapKept
open Go.WideElems (Fit rd rg pl rd_val elemAt)
theorem ba_eq {c s : ByteArray} (h : c.data.toList = s.data.toList) : c = s := by
 cases c; cases s; simp at h; simp [h]
theorem litS_inj {c s : ByteArray} (h : (litS c) = litS s) : c = s := by
 unfold litS at h
 injection h with h
 injection h with h
 exact ba_eq h
theorem ownsMap_tight {H : Type} {P : Program} {k : TypeId} {R : Value → Option (DataW H × List MemPlace)} {w : World} {b n : Nat} {D : DataW H} (h : w.ownsMap P k R b n D) : w.ownsMap P k R b (Maps.size D) D := by
 obtain ⟨es, clock, hb, F, hs, hD⟩ := h
 refine ⟨es, clock, hb, F, ?_, hD⟩
 subst hD
 simp [Maps.size, length_sorted]
theorem wf_of {k : Int} (h1 : -9223372036854775808 ≤ k) (h2 : k ≤ 9223372036854775807) : (Lit.int .i64 k).wf = true := by
 simp [Lit.wf, IntKind.min, IntKind.max, IntKind.signed, IntKind.bits]; omega
def Mp (w : World) (b : Nat) (l : Tx) : Prop := w.ownsMap Tryz.prog 3 (plainElem Tryz.prog 9) b l.length (txD l) ∧ Srt l
def I64k (k : Int) : Prop := -9223372036854775808 ≤ k ∧ k ≤ 9223372036854775807
theorem key3 {k : Int} (h : I64k k) : keyOf Tryz.prog 3 (.int .i64 k) = some (.int .i64 k) := keyOf_int_mk Tryz.underlying3 (wf_of h.1 h.2)
theorem law3 : Keyed Tryz.prog 3 := int_keyed Tryz.underlying3
theorem zero9 (w : World) : (zeroValue 9).run Tryz.prog w = .ok (.string ByteArray.empty) w := by kernel_rfl
theorem Mp.lt {w : World} {b : Nat} {l : Tx} (h : Mp w b l) : b < w.heap.size := h.1.lt
theorem Mp.only {w w' : World} {b : Nat} {l : Tx} {P : Nat → Prop} (h : Mp w b l) (ho : Only P w w') (hp : ¬ P b) : Mp w' b l := by
 refine ⟨?_, h.2⟩
 have hlt := h.1.lt
 obtain ⟨es, clock, hb, F, hs, hD⟩ := h.1
 exact ⟨es, clock, (ho.2 b hlt hp).trans hb, F, hs, hD⟩
theorem Mp.below {w w' : World} {b : Nat} {l : Tx} {B : Nat} (h : Mp w b l) (hb : Below B w w') (hB : b < B) : Mp w' b l := by
 refine ⟨?_, h.2⟩
 obtain ⟨es, clock, hb', F, hs, hD⟩ := h.1
 exact ⟨es, clock, (hb.block b hB).trans hb', F, hs, hD⟩
theorem Mp.alloc {w : World} {b : Nat} {l : Tx} (h : Mp w b l) (o : Obj) : Mp (w.alloc o) b l := ⟨h.1.alloc o, h.2⟩
theorem Mp.drew {w : World} {b : Nat} {l : Tx} (h : Mp w b l) : Mp w.drew b l := h
theorem Mp.setCell {w : World} {b : Nat} {l : Tx} (h : Mp w b l) {a : Addr} (ha : a.block ≠ b) (u : Value) : Mp (w.setCell a u) b l := ⟨h.1.setCell (fun e => ha e.symm) u, h.2⟩
theorem Mp.not_blk {w : World} {b : Nat} {l : Tx} (h : Mp w b l) {x : Nat} {cur : Array Value} {T : TypeId} (hx : Blk w x cur T) : x ≠ b := fun e => by
 subst e
 obtain ⟨es, clock, hb, _⟩ := h.1
 have := (show w.heap[x]? = _ from hx).symm.trans hb
 simp at this
theorem Mp.made (w : World) : Mp (w.alloc (.map #[] 0)) w.heap.size [] := ⟨World.ownsMap_made w _ _ _, List.Pairwise.nil⟩
theorem Mp.look {w : World} {b : Nat} {l : Tx} (h : Mp w b l) {k : Int} (hk : I64k k) :
  (Instr.lookup 62 (.map (some b)) (.int .i64 k) true).run Tryz.prog w = .ok (.tuple #[.string ((txAt l k).getD ByteArray.empty), .bool (txAt l k).isSome]) w ∧
  (Instr.lookup 62 (.map (some b)) (.int .i64 k) false).run Tryz.prog w = .ok (.string ((txAt l k).getD ByteArray.empty)) w := by
 have hz0 : plainElem (H := Unit) Tryz.prog 9 (.string ByteArray.empty) = some (litS ByteArray.empty, []) := plainElem_string Tryz.underlying9 (by decide)
 have key : ∀ (v : Value) (ps : List MemPlace), plainElem (H := Unit) Tryz.prog 9 v = some ((txD l).atKey (.int .i64 k) (litS ByteArray.empty), ps) → v = .string ((txAt l k).getD ByteArray.empty) := fun v ps hv => by
  obtain ⟨c, rfl, hc, _⟩ := plainElem_string_inv Tryz.underlying9 hv
  have h1 : (txD l).atKey (.int .i64 k) (litS ByteArray.empty) = litS c := congrArg Prod.fst hc
  rw [txD_at] at h1
  cases e : txAt l k with
  | none => rw [e] at h1; rw [litS_inj h1]; rfl
  | some s => rw [e] at h1; rw [litS_inj h1]; rfl
 constructor
 ·obtain ⟨v, ps, hrun, hv⟩ := h.1.look_ok law3 Tryz.underlying62 (zero9 w) hz0 (key3 hk)
  rw [hrun, key v ps hv, txD_has]
 ·obtain ⟨v, ps, hrun, hv⟩ := h.1.lookup law3 Tryz.underlying62 (zero9 w) hz0 (key3 hk)
  rw [hrun, key v ps hv]
theorem Mp.len {w : World} {b : Nat} {l : Tx} (h : Mp w b l) (ty : TypeId) : (Builtin.len_ #[62] ty #[.map (some b)]).run Tryz.prog w = .ok (.int .i64 (l.length : Int)) w := by
 rw [h.1.len Tryz.underlying62 ty, txD_size]
theorem Only.turned {w w' : World} {b : Nat} (h : w.mapTurned w' b) : Only (fun x => x = b) w w' := by
 have := h.grown
 exact ⟨⟨this.os, this.tape, this.output, this.size, fun k hk => absurd hk (Nat.not_lt_zero k)⟩, fun k hk hn => this.block k hk (fun e => hn (by cases e; rfl))⟩
theorem turned_size {w w' : World} {b : Nat} (h : w.mapTurned w' b) : w'.heap.size = w.heap.size := by
 obtain ⟨es, clock, es', clock', hb, rfl⟩ := h
 simp [setBlock]
theorem Mp.put {w : World} {b : Nat} {l : Tx} (h : Mp w b l) {k : Int} (hk : I64k k) (s : ByteArray) (hs : s.size ≤ maxLen) (hl : l.length ≤ 1000000) :
  ∃ w', (Instr.mapUpdate 62 (.map (some b)) (.int .i64 k) (.string s)).run Tryz.prog w = .ok () w' ∧ Mp w' b (txPut k s l) ∧ Only (fun x => x = b) w w' ∧ w'.heap.size = w.heap.size := by
 obtain ⟨w', hrun, hm, ht⟩ := h.1.store law3 Tryz.underlying62 (by unfold maxLen; omega) (key3 hk) (plainElem_string Tryz.underlying9 hs)
 refine ⟨w', hrun, ⟨?_, srt_put h.2 k s⟩, Only.turned ht, turned_size ht⟩
 have h1 : w'.ownsMap Tryz.prog 3 (plainElem Tryz.prog 9) b (l.length + 1) (txD (txPut k s l)) := by rw [← txD_put]; exact hm
 have h2 := ownsMap_tight h1
 rwa [txD_size] at h2
theorem Mp.del {w : World} {b : Nat} {l : Tx} (h : Mp w b l) {k : Int} (hk : I64k k) (ty : TypeId) :
  ∃ w', (Builtin.delete_ #[62, 3] ty #[.map (some b), .int .i64 k]).run Tryz.prog w = .ok (.tuple #[]) w' ∧ Mp w' b (txDel k l) ∧ Only (fun x => x = b) w w' ∧ w'.heap.size = w.heap.size := by
 obtain ⟨w', hrun, hm, ht⟩ := h.1.drop law3 Tryz.underlying62 (key3 hk) ty
 refine ⟨w', hrun, ⟨?_, srt_del h.2 k⟩, Only.turned ht, turned_size ht⟩
 have h1 : w'.ownsMap Tryz.prog 3 (plainElem Tryz.prog 9) b l.length (txD (txDel k l)) := by rw [← txD_del]; exact hm
 have h2 := ownsMap_tight h1
 rwa [txD_size] at h2
theorem Mp.clear {w : World} {b : Nat} {l : Tx} (h : Mp w b l) (ty : TypeId) :
  ∃ w', (Builtin.clear_ #[62] ty #[.map (some b)]).run Tryz.prog w = .ok (.tuple #[]) w' ∧ Mp w' b [] ∧ Only (fun x => x = b) w w' ∧ w'.heap.size = w.heap.size := by
 obtain ⟨es, clock, hb, F, hs, hD⟩ := h.1
 have ht : w.mapTurned (setBlock w b (.map #[] clock)) b := ⟨es, clock, #[], clock, hb, rfl⟩
 refine ⟨setBlock w b (.map #[] clock), ?_, ⟨⟨#[], clock, heap_setBlock_same hb _, ⟨by simp, stamped_empty clock, by simp⟩, Nat.le_refl _, rfl⟩, List.Pairwise.nil⟩, Only.turned ht, turned_size ht⟩
 simp [Builtin.clear_, run_underlying Tryz.underlying62, MapKept.run_getObj_map (P := Tryz.prog) hb, MapKept.run_setObj_map (P := Tryz.prog) _ hb, Result.andThen]
 rfl
end Go.Proofs.YtiellebdliifdaaGreatDoor
namespace Go.Proofs.YtiellebdliifdaaGreatDoor
open Go.RowKit Go.Maps
def Ndk (l : Tx) : Prop := l.Pairwise fun p q => p.1 ≠ q.1
theorem Srt.nd {l : Tx} (h : Srt l) : Ndk l := h.imp (fun q => by omega)
theorem Ndk.perm {l h : Tx} (hn : Ndk l) (hp : l.Perm h) : Ndk h := hp.pairwise hn (fun q => Ne.symm q)
theorem at_some' {l : Tx} (h : Ndk l) {k : Int} {s : ByteArray} : txAt l k = some s ↔ (k, s) ∈ l := by
 induction l with
 | nil => simp [txAt]
 | cons q r ih =>
  obtain ⟨h1, h2⟩ := List.pairwise_cons.1 h
  have ih := ih h2
  unfold txAt at ih ⊢
  by_cases e : q.1 = k
  ·rw [List.find?_cons_of_pos (by simp [e])]
   simp only [Option.map_some, Option.some.injEq, List.mem_cons]
   constructor
   ·intro h; left; rw [← e, ← h]
   ·rintro (h | h)
    ·rw [← h]
    ·exact absurd e (h1 _ h)
  ·rw [List.find?_cons_of_neg (by simp [e]), ih]
   simp only [List.mem_cons]
   constructor
   ·exact .inr
   ·rintro (h | h)
    ·rw [← h] at e; exact absurd rfl e
    ·exact h
theorem at_perm {l h : Tx} (hn : Ndk l) (hp : l.Perm h) (k : Int) : txAt h k = txAt l k := by
 have key : ∀ t, txAt h k = some t ↔ txAt l k = some t := fun t => by
  rw [at_some' (hn.perm hp), at_some' hn]
  exact hp.symm.mem_iff
 cases q : txAt l k with
 | some t => exact (key t).2 q
 | none =>
  cases q' : txAt h k with
  | none => rfl
  | some t => rw [(key t).1 q'] at q; cases q
theorem ins_perm (k : Int) (s : ByteArray) (l : Tx) : (txIns k s l).Perm ((k, s) :: l) := by
 induction l with
 | nil => exact List.Perm.refl _
 | cons q r ih =>
  unfold txIns
  split
  ·exact List.Perm.refl _
  ·exact (List.Perm.cons q ih).trans (List.Perm.swap _ _ _)
theorem del_perm {l h : Tx} (hp : l.Perm h) (k : Int) : (txDel k l).Perm (txDel k h) := List.Perm.filter _ hp
theorem del_del (k : Int) (l : Tx) : txDel k (txDel k l) = txDel k l := by
 unfold txDel
 rw [List.filter_filter]
 simp
theorem del_keys (k : Int) (h : Tx) : (txDel k h).map (·.1) = (h.map (·.1)).filter fun x => !(x == k) := by
 unfold txDel
 rw [List.filter_map]
 rfl
def hLay (keep : Nat) (k : Int) (s : ByteArray) (h : Tx) : Tx := ((k, s) :: txDel k h).take keep
theorem hLay_len (keep : Nat) (k : Int) (s : ByteArray) (h : Tx) : (hLay keep k s h).length ≤ keep := by
 unfold hLay; rw [List.length_take]; omega
theorem hLay_mem {keep : Nat} {k : Int} {s : ByteArray} {h : Tx} {p : Int × ByteArray} (hp : p ∈ hLay keep k s h) : p = (k, s) ∨ p ∈ h := by
 have := List.mem_of_mem_take hp
 rcases List.mem_cons.1 this with q | q
 ·exact .inl q
 ·exact .inr ((mem_del k h p).1 q).1
theorem del_length (k : Int) (h : Tx) : (txDel k h).length ≤ h.length := List.length_filter_le _ _
theorem del_last {m : Tx} (hn : Ndk m) {n : Nat} (hl : m.length = n + 1) (z : Int) (hz : (m.map (·.1)).getD n 0 = z) : txDel z m = m.take n := by
 have hlt : n < m.length := by omega
 have e0 : m = m.take n ++ [m[n]] := by
  conv => lhs; rw [← List.take_append_drop n m]
  congr 1
  rw [List.drop_eq_getElem_cons hlt, List.drop_eq_nil_of_le (by omega)]
 have ez : m[n].1 = z := by
  rw [← hz]
  simp [List.getD_eq_getElem?_getD, hlt]
 have hnd : Ndk (m.take n ++ [m[n]]) := by rw [← e0]; exact hn
 have hd := (List.pairwise_append.1 hnd).2.2
 conv => lhs; rw [e0]
 unfold txDel
 rw [List.filter_append]
 have e1 : (m.take n).filter (fun p => !(p.1 == z)) = m.take n := List.filter_eq_self.2 (fun p hp => by have := hd p hp _ (by simp : m[n] ∈ [m[n]]); rw [ez] at this; simpa using this)
 have e2 : [m[n]].filter (fun p => !(p.1 == z)) = [] := by simp [ez]
 rw [e1, e2, List.append_nil]
end Go.Proofs.YtiellebdliifdaaGreatDoor
namespace Go.Proofs.YtiellebdliifdaaGreatDoor
open Go.RowKit Go.Maps Go.Sort Go.Shelf
theorem gives149 (k x : Int) (B : Nat) (W : World) (hc : W.cell? ⟨B, 0, none⟩ = some (.int .i64 k)) : FnGives Tryz.prog 139 #[.pointer (some ⟨B, 0, none⟩)] #[.int .i64 x] (.bool (x == k)) W := by
 show Calls Tryz.prog 139 #[.int .i64 x, .pointer (some ⟨B, 0, none⟩)] W _
 go_enter Tryz.func139, Tryz.ntmps139
 go_wp2
 all_goals (go_ret; exact ⟨by simp_all, 0, rfl⟩)
theorem heap_put_same {w : World} {g n : Nat} {cur : Array Value} {e : TypeId} {fr : Nat × Nat} (d : Array Int) (hb : w.heap[g]? = some (.cells cur e fr)) : (putRow encZ (Sort.ahead w n) g 0 d).heap[g]? = some (.cells (putCells encZ 0 d cur) e fr) := by
 simp [putRow, mapBlock, Sort.ahead, Array.getElem?_modify, hb, onCells]
theorem only_put {w : World} {g n : Nat} (d : Array Int) : Only (fun x => x = g) w (putRow encZ (Sort.ahead w n) g 0 d) := by
 refine ⟨⟨rfl, rfl, rfl, by simp [putRow, mapBlock, Sort.ahead], fun k hk => absurd hk (Nat.not_lt_zero k)⟩, fun k hk hne => ?_⟩
 have : g ≠ k := fun e => hne e.symm
 simp [putRow, mapBlock, Sort.ahead, Array.getElem?_modify, this]
theorem take_put (cur : Array Value) (fl zs : List Int) (h : fl.length + zs.length ≤ cur.size) : (putCells encZ 0 (fl ++ zs).toArray cur).toList.take fl.length = fl.map encZ := by
 have h1 := take_putCells_i cur (fl ++ zs) (by simp; omega)
 have h2 := congrArg (List.take fl.length) h1
 rw [List.take_take, List.length_append, Nat.min_eq_left (by omega)] at h2
 rw [h2, List.map_append, List.take_left' (by simp)]
set_option maxRecDepth 100000 in
set_option maxHeartbeats 1000000 in
theorem del_row (w : World) (base B : Nat) (k : Int) (ov : Value) (ks : List Int) (h : w.ownsRow base 3 1 ov ks.length (ks.map encZ)) (hB : B < w.heap.size) (hc : w.cell? ⟨B, 0, none⟩ = some (.int .i64 k)) (hne : ov.ownBlock ≠ some B) (hn : ks.length ≤ 1000000) :
  Calls Tryz.prog 138 #[ov, .func (.func 139) #[] #[.pointer (some ⟨B, 0, none⟩)]] w fun e w' => ∃ ov', e = .returned ov' ∧ w'.ownsRow base 3 1 ov' (ks.filter fun x => !(x == k)).length ((ks.filter fun x => !(x == k)).map encZ) ∧ Only (fun x => ov.ownBlock = some x) w w' ∧ ov'.ownBlock = ov.ownBlock ∧ w'.heap.size = w.heap.size := by
 rcases h.2 with ⟨rfl, h0⟩ | ⟨g, cap, cur, rfl, hbase, hgb, r1, r2, r3, r4⟩
 ·have hks : ks = [] := List.eq_nil_of_length_eq_zero h0
  subst hks
  have hI := fun (fv : Value) (W : World) => AnyE.slices_IndexFunc_empty (P := Tryz.prog) (ρ := Tryz.delL_ren) { Tryz.delL with } none 0 fv W
  change ∀ (fv : Value) (W : World), Calls Tryz.prog 175 #[.slice none 0 0, fv] W _ at hI
  clear hc h
  go_enter Tryz.func138, Tryz.ntmps138
  go_wp2_with (go_at_call 175; refine (hI _ _).mono ?_; rintro e w' ⟨rfl, rfl⟩)
  go_ret
  exact ⟨_, rfl, ⟨rfl, .inl ⟨rfl, rfl⟩⟩, Only.refl _ _, rfl, rfl⟩
 ·have hgl : g < w.heap.size := (Array.getElem?_eq_some_iff.1 hgb).1
  have hgB : B ≠ g := fun e => hne (by rw [e]; rfl)
  have eg : ∀ args w, (callFunc 139 args).run Tryz.prog w = .ok (.enter 139 args) w := enters_of Tryz.func139 (by kernel_rfl) rfl
  have hH : Holds encZ w g 0 ks.toArray := holds_of_block_i hgb (by simpa using r4)
  have hp : PredAt Tryz.prog 139 #[.pointer (some ⟨B, 0, none⟩)] encZ (fun x => x == k) w := fun W x hb => gives149 k x B W ((hb.cell (p := ⟨B, 0, none⟩) hB).trans hc)
  have hpo : PredOver Tryz.prog 139 #[.pointer (some ⟨B, 0, none⟩)] encZ (fun x => x == k) g 0 ks.toArray.size w := fun n os dk x _ => gives149 k x B _ (by
   unfold sortWorld
   rw [cell?_grow _ _ _ (by show B < (putRow _ _ _ _ _).heap.size; rw [size_putRow]; exact hB), cell?_putRow_other _ _ g 0 _ _ (Or.inl hgB)]
   exact hc)
  have hcon := AnyE.slices_DeleteFunc Tryz.delL encZ (fun _ => rfl) (fun x => x == k) 139 #[.pointer (some ⟨B, 0, none⟩)] eg 0 Tryz.zeroValue3 g 0 cap ks.toArray w hp hpo hH (by simp; omega) (by simpa using r1)
  change Calls Tryz.prog 138 _ _ _ at hcon
  rw [List.size_toArray] at hcon
  refine hcon.mono ?_
  rintro e w' ⟨rfl, q, rfl⟩
  have hfl : (ks.filter fun x => !(x == k)).length ≤ ks.length := List.length_filter_le _ _
  refine ⟨_, rfl, ⟨by simp, .inr ⟨g, cap, _, rfl, hbase, heap_put_same _ hgb, by show (ks.filter fun x => !(x == k)).length ≤ cap; omega, r2, by simp [putCells, r3], ?_⟩⟩, (only_put _).mono (fun x _ e => by rw [e]; rfl), rfl, by simp [putRow, mapBlock, Sort.ahead]⟩
  rw [Nat.mul_one]
  exact take_put cur _ _ (by simp; omega)
end Go.Proofs.YtiellebdliifdaaGreatDoor
namespace Go.Proofs.YtiellebdliifdaaGreatDoor
open Go.RowKit Go.Maps Go.Sort Go.Shelf
theorem Blk.setCells {T : TypeId} {b : Nat} : ∀ (vs : List Value) (o : Nat) {w : World} {cur : Array Value}, Blk w b cur T → ∃ cur', Blk (w.setCells b o vs) b cur' T ∧ cur'.size = cur.size
 | [], _, _, cur, h => ⟨cur, h, rfl⟩
 | v :: r, o, w, cur, h => by
  obtain ⟨c', h1, h2⟩ := Blk.setCells r (o + 1) (h.set o v)
  exact ⟨c', h1, by rw [h2]; simp⟩
theorem Only.setCells {P : Nat → Prop} {b : Nat} {w0 : World} : ∀ (vs : List Value) (o : Nat) {w : World}, Only P w0 w → (b < w0.heap.size → P b) → Only P w0 (w.setCells b o vs)
 | [], _, _, h, _ => h
 | v :: r, o, _, h, hb => Only.setCells r (o + 1) (h.setCell ⟨b, o, none⟩ v hb) hb
theorem some_at {w : World} {g : Nat} {cur : Array Value} {T : TypeId} (h : Blk w g cur T) (j : Nat) (hj : j < cur.size) : (w.cell? ⟨g, j, none⟩).isSome = true := by
 rw [h.cell j]; simp [hj]
theorem cells_ab {w : World} {g : Nat} {cur : Array Value} {T : TypeId} (h : Blk w g cur T) (v : Value) (cs : List Value) (hs : cs.length + 1 ≤ cur.size) (j : Nat) (hj : j < cs.length + 1) : ((w.setCells g 1 cs).setCells g 0 [v]).cell? ⟨g, j, none⟩ = (v :: cs)[j]? := by
 obtain ⟨c1, h1, h2⟩ := h.setCells cs 1
 cases j with
 | zero =>
  have := World.cell?_setCells_in g [v] 0 (w.setCells g 1 cs) (fun i hi => some_at h1 _ (by simp at hi; omega)) 0 (by simp)
  simpa using this
 | succ j =>
  rw [World.cell?_setCells_out g [v] 0 _ _ (fun _ _ => Or.inr (by simp))]
  have hj' : j < cs.length := by omega
  have := World.cell?_setCells_in g cs 1 w (fun i hi => some_at h _ (by omega)) j hj'
  rw [Nat.add_comm 1 j] at this
  rw [this]
  simp [hj']
theorem cells_ba {w : World} {g : Nat} {cur : Array Value} {T : TypeId} (h : Blk w g cur T) (v : Value) (cs : List Value) (hv : w.cell? ⟨g, 0, none⟩ = some v) (hs : cs.length + 1 ≤ cur.size) (j : Nat) (hj : j < cs.length + 1) : (w.setCells g 1 cs).cell? ⟨g, j, none⟩ = (v :: cs)[j]? := by
 cases j with
 | zero =>
  rw [World.cell?_setCells_out g cs 1 _ _ (fun _ _ => Or.inl (by simp)), hv]
  rfl
 | succ j =>
  have hj' : j < cs.length := by omega
  have := World.cell?_setCells_in g cs 1 w (fun i hi => some_at h _ (by omega)) j hj'
  rw [Nat.add_comm 1 j] at this
  rw [this]
  simp [hj']
theorem owns_of_cells {w : World} {base g cap n : Nat} {e : TypeId} {cur : Array Value} {xs : List Value} (hb : Blk w g cur e) (hs : cur.size = cap) (hn : n ≤ cap) (hc : cap ≤ maxLen) (hbase : base ≤ g) (hx : xs.length = n) (hcell : ∀ j, j < n → w.cell? ⟨g, j, none⟩ = xs[j]?) : w.ownsRow base e 1 (.slice (some ⟨g, 0, none⟩) n cap) n xs := by
 refine ⟨by simp [hx], .inr ⟨g, cap, cur, rfl, hbase, hb, hn, hc, by simp [hs], ?_⟩⟩
 rw [Nat.mul_one]
 apply List.ext_getElem?
 intro j
 by_cases hj : j < n
 ·rw [List.getElem?_take_of_lt hj, ← hcell j hj, hb.cell j, Array.getElem?_toList]
 ·rw [List.getElem?_take_eq_none (by omega), List.getElem?_eq_none (by omega)]
theorem shape_of {w : World} {g : Nat} {cur : Array Value} {T : TypeId} (h : Blk w g cur T) : w.shape? g = some (T, cur.size) := by
 unfold World.shape?
 rw [show w.heap[g]? = _ from h]
theorem ints_one (ks : List Int) : ∀ v ∈ ks.map encZ, v.oneCell' = true := fun v hv => by
 obtain ⟨x, _, rfl⟩ := List.mem_map.1 hv
 rfl
set_option maxRecDepth 100000 in
set_option maxHeartbeats 1000000 in
theorem ins_row (w : World) (base vb : Nat) (k : Int) (ov : Value) (ks : List Int) (h : w.ownsRow base 3 1 ov ks.length (ks.map encZ)) (hv : Blk w vb #[.int .i64 k] 3) (hne : ov.ownBlock ≠ some vb) (hbs : base ≤ w.heap.size) (hn : ks.length ≤ 1000000) :
  Calls Tryz.prog 88 #[ov, .int .i64 0, .slice (some ⟨vb, 0, none⟩) 1 1] w fun e w' => ∃ ov', e = .returned ov' ∧ w'.ownsRow base 3 1 ov' (ks.length + 1) ((k :: ks).map encZ) ∧ Only (fun x => ov.ownBlock = some x) w w' ∧ (ov'.ownBlock = ov.ownBlock ∨ ∃ g, ov'.ownBlock = some g ∧ w.heap.size ≤ g) := by
 have hvs : ∀ j v, [Value.int .i64 k][j]? = some v → w.cell? ⟨vb, 0 + j, none⟩ = some v := fun j v hj => by
  cases j with
  | zero => rw [hv.cell]; simpa using hj
  | succ j => simp at hj
 have h1v : ∀ v ∈ [Value.int .i64 k], v.oneCell' = true := fun v hv => by simp at hv; subst hv; rfl
 have hmax : (maxLen : Nat) = 9223372036854775807 := rfl
 have key : ∀ (g cap : Nat) (w' : World) (cur : Array Value), Blk w' g cur 3 → cur.size = cap → ks.length + 1 ≤ cap → cap ≤ maxLen → base ≤ g → (∀ j, j < ks.length + 1 → w'.cell? ⟨g, j, none⟩ = (Value.int .i64 k :: ks.map encZ)[j]?) → w'.ownsRow base 3 1 (.slice (some ⟨g, 0, none⟩) (ks.length + 1) cap) (ks.length + 1) ((k :: ks).map encZ) := fun g cap w' cur a1 a2 a3 a4 a5 a6 =>
  owns_of_cells a1 a2 a3 a4 a5 (by simp) (by rw [List.map_cons]; exact a6)
 have growEnd : ∀ (p : Option Addr) (c : Nat), ks = [] → c < 0 + 1 → Calls Tryz.prog 88 #[.slice p 0 c, .int .i64 0, .slice (some ⟨vb, 0, none⟩) 1 1] w fun e w' => ∃ ov', e = .returned ov' ∧ w'.ownsRow base 3 1 ov' (ks.length + 1) ((k :: ks).map encZ) ∧ Only (fun x => ov.ownBlock = some x) w w' ∧ (ov'.ownBlock = ov.ownBlock ∨ ∃ g, ov'.ownBlock = some g ∧ w.heap.size ≤ g) := fun p c hk0 hc => by
  have hcon := Any2.slices_Insert_int_end_grow Tryz.insL p 0 c vb 0 1 1 [] [.int .i64 k] w (by omega) (by omega) hc (by omega) rfl rfl (fun _ => rfl) (fun a _ j v hj => by simp at hj) hvs h1v
  change Calls Tryz.prog 88 _ _ _ at hcon
  refine hcon.mono ?_
  rintro e w' ⟨rfl, rfl⟩
  have hge := grownCap_ge w (0 + 1) c (Tryz.insL_ren.t 3)
  have hle := grownCap_le_maxLen w (0 + 1) c (Tryz.insL_ren.t 3) (by omega)
  obtain ⟨CP, hCP⟩ : ∃ z, grownCap w (0 + 1) c (Tryz.insL_ren.t 3) = z := ⟨_, rfl⟩
  rw [hCP] at hge hle ⊢
  refine ⟨_, rfl, ?_, Only.alloc (Only.drew (Only.refl _ _)) _, .inr ⟨w.heap.size, rfl, Nat.le_refl _⟩⟩
  subst hk0
  refine key _ CP _ _ (Blk.new _ _ _) (by simp [Builtin.zeroCells, Value.cells]; omega) (by simpa using hge) hle hbs (fun j hj => ?_)
  rw [show (w.drew.alloc _).cell? ⟨w.heap.size, j, none⟩ = _ from (Blk.new w.drew _ _).cell j]
  have : j = 0 := by simp at hj; exact hj
  subst this
  rw [Array.getElem?_append_left (by simp)]
  rfl
 rcases h.2 with ⟨rfl, h0⟩ | ⟨g, cap, cur, rfl, hbase, hgb, r1, r2, r3, r4⟩
 ·have hks : ks = [] := List.eq_nil_of_length_eq_zero h0
  exact growEnd none 0 hks (by omega)
 ·have hB : Blk w g cur 3 := hgb
  have hgl := hB.lt
  have hgv : vb ≠ g := fun e => hne (by rw [e]; rfl)
  have hsz : cur.size = cap := by omega
  have hcs : ∀ j v, (ks.map encZ)[j]? = some v → w.cell? ⟨g, 0 + j, none⟩ = some v := fun j v hj => by
   rw [Nat.zero_add, hB.cell, ← Array.getElem?_toList]
   have hj' : j < ks.length := by have := (List.getElem?_eq_some_iff.1 hj).1; simpa using this
   have e1 : (cur.toList.take (ks.length * 1))[j]? = (ks.map encZ)[j]? := by rw [r4]
   rw [List.getElem?_take_of_lt (by omega)] at e1
   rw [e1]; exact hj
  by_cases hk0 : ks = []
  ·by_cases hc1 : cap < 1
   ·subst hk0
    exact growEnd (some ⟨g, 0, none⟩) cap rfl (by omega)
   ·have hcon := Any2.slices_Insert_int_end_room Tryz.insL g 0 0 cap vb 0 1 1 [.int .i64 k] w (by omega) (by omega) (by omega) rfl (fun j hj => some_at hB _ (by omega)) (fun j hj => hB.frozen _) hvs h1v
    change Calls Tryz.prog 88 _ _ _ at hcon
    subst hk0
    refine hcon.mono ?_
    rintro e w' ⟨rfl, rfl⟩
    obtain ⟨c1, b1, b2⟩ := hB.setCells [.int .i64 k] (0 + 0)
    refine ⟨_, rfl, key g cap _ c1 b1 (by rw [b2]; exact hsz) (by simp; omega) r2 hbase (fun j hj => ?_), Only.setCells _ _ (Only.refl _ _) (fun _ => rfl), .inl rfl⟩
    have : j = 0 := by simp at hj; exact hj
    subst this
    have := World.cell?_setCells_in g [.int .i64 k] 0 w (fun i hi => some_at hB _ (by simp at hi; omega)) 0 (by simp)
    simpa using this
  ·have hpos : 0 < ks.length := List.length_pos_iff.2 hk0
   by_cases hroom : ks.length + 1 ≤ cap
   ·have hcon := Any2.slices_Insert_int_shift Tryz.insL g 0 ks.length cap 0 vb 0 1 1 (ks.map encZ) [.int .i64 k] w hpos (by omega) hroom (by omega) hgv (by simp) rfl hcs (fun j hj => some_at hB _ (by omega)) (fun j hj => hB.frozen _) hvs (ints_one ks) h1v 3 3 1 cur.size (shape_of hv) (shape_of hB) (by omega) (hv.frozen _) (hv.frozen _)
    change Calls Tryz.prog 88 _ _ _ at hcon
    refine hcon.mono ?_
    rintro e w' ⟨rfl, rfl⟩
    have hBd : Blk w.drew g cur 3 := hB
    obtain ⟨c1, b1, b2⟩ := hBd.setCells (ks.map encZ) 1
    obtain ⟨c2, b3, b4⟩ := b1.setCells [.int .i64 k] 0
    refine ⟨_, rfl, key g cap _ c2 b3 (by rw [b4, b2]; exact hsz) hroom r2 hbase (fun j hj => ?_), Only.setCells _ _ (Only.setCells _ _ (Only.drew (Only.refl _ _)) (fun _ => rfl)) (fun _ => rfl), .inl rfl⟩
    exact cells_ab hBd _ _ (by simp; omega) j (by simpa using hj)
   ·have hcon := Any2.slices_Insert_int_grow Tryz.insL g 0 ks.length cap 0 vb 0 1 1 (ks.map encZ) [.int .i64 k] w hpos (by omega) r1 (by omega) (by omega) (by simp) rfl hcs hvs (ints_one ks) h1v
    change Calls Tryz.prog 88 _ _ _ at hcon
    refine hcon.mono ?_
    rintro e w' ⟨rfl, rfl⟩
    have hge := grownCap_ge w (ks.length + 1) cap (Tryz.insL_ren.t 3)
    have hle := grownCap_le_maxLen w (ks.length + 1) cap (Tryz.insL_ren.t 3) (by omega)
    obtain ⟨CP, hCP⟩ : ∃ z, grownCap w (ks.length + 1) cap (Tryz.insL_ren.t 3) = z := ⟨_, rfl⟩
    rw [hCP] at hge hle ⊢
    obtain ⟨CU, hCU⟩ : ∃ z, ((ks.map encZ).take 0).toArray ++ Builtin.zeroCells (Value.int .i64 0).cells (ks.length + 1 - 0) ++ Builtin.zeroCells (Value.int .i64 0).cells (CP - (ks.length + 1)) = z := ⟨_, rfl⟩
    have hCs : CU.size = CP := by rw [← hCU]; simp [Builtin.zeroCells, Value.cells]; omega
    rw [hCU]
    have hBn : Blk (w.alloc (.cells CU 3)).drew w.heap.size CU 3 := Blk.new w 3 CU
    obtain ⟨c1, b1, b2⟩ := hBn.setCells [.int .i64 k] 0
    have b1' : Blk (((w.alloc (.cells CU 3)).drew.setCells w.heap.size 0 [.int .i64 k]).drew) w.heap.size c1 3 := b1
    obtain ⟨c2, b3, b4⟩ := b1'.setCells (ks.map encZ) 1
    refine ⟨_, rfl, key w.heap.size CP _ c2 b3 (by rw [b4, b2, hCs]) hge hle hbs (fun j hj => ?_), Only.setCells _ _ (Only.drew (Only.setCells _ _ (Only.drew (Only.alloc (Only.refl _ _) _)) (fun q => absurd q (Nat.lt_irrefl _)))) (fun q => absurd q (Nat.lt_irrefl _)), .inr ⟨w.heap.size, rfl, Nat.le_refl _⟩⟩
    have h0 : (((w.alloc (.cells CU 3)).drew.setCells w.heap.size 0 [.int .i64 k]).drew).cell? ⟨w.heap.size, 0, none⟩ = some (.int .i64 k) := by
     have := World.cell?_setCells_in w.heap.size [.int .i64 k] 0 (w.alloc (.cells CU 3)).drew (fun i hi => some_at hBn _ (by simp at hi; omega)) 0 (by simp)
     simpa using this
    exact cells_ba b1' (.int .i64 k) (ks.map encZ) h0 (by rw [b2, hCs]; simp; omega) j (by simpa using hj)
end Go.Proofs.YtiellebdliifdaaGreatDoor
namespace Go.Proofs.YtiellebdliifdaaGreatDoor
open Go.RowKit Go.Maps Go.Sort Go.Shelf
def Pcs (b jb : Nat) (op : Bool) (bw keep bv : Nat) (ov : Value) (hits mis : Int) (lost : Bool) : Array Value :=
 #[.pointer (some ⟨b, 0, none⟩), .pointer (some ⟨jb, 0, none⟩), .bool op, .map (some bw), .int .i64 (keep : Int), .map (some bv), ov, .int .i64 hits, .int .i64 mis, .bool lost]
structure Hn (w : World) (base : Nat) (h : Tx) (bv : Nat) (ov : Value) : Prop where
 mp : ∃ L, L.Perm h ∧ Mp w bv L
 ord : w.ownsRow base 3 1 ov (h.map (·.1)).length ((h.map (·.1)).map encZ)
 wf : ∀ p ∈ h, I64k p.1
theorem Hn.nd {w : World} {base : Nat} {h : Tx} {bv : Nat} {ov : Value} (H : Hn w base h bv ov) : Ndk h := by
 obtain ⟨L, hp, hm⟩ := H.mp
 exact hm.2.nd.perm hp
theorem Hn.only {w w' : World} {base : Nat} {h : Tx} {bv : Nat} {ov : Value} {P : Nat → Prop} (H : Hn w base h bv ov) (ho : Only P w w') (h1 : ¬ P bv) (h2 : ∀ x, ov.ownBlock = some x → ¬ P x) : Hn w' base h bv ov := by
 obtain ⟨L, hp, hm⟩ := H.mp
 exact ⟨⟨L, hp, hm.only ho h1⟩, owns_only H.ord ho h2, H.wf⟩
theorem Mp.not_row {w : World} {b : Nat} {l : Tx} (h : Mp w b l) {base : Nat} {e : TypeId} {size n : Nat} {v : Value} {xs : List Value} (hr : w.ownsRow base e size v n xs) : v.ownBlock ≠ some b := by
 rcases hr.2 with ⟨rfl, _⟩ | ⟨g, cap, cur', rfl, _, hgb, _⟩
 ·simp [Value.ownBlock]
 ·intro q
  obtain rfl : g = b := by simpa [Value.ownBlock] using q
  obtain ⟨es, clock, hb, _⟩ := h.1
  rw [hgb] at hb
  cases hb
theorem row_lt {w : World} {base : Nat} {e : TypeId} {size n : Nat} {v : Value} {xs : List Value} (hr : w.ownsRow base e size v n xs) {x : Nat} (hx : v.ownBlock = some x) : x < w.heap.size ∧ base ≤ x := by
 rcases hr.2 with ⟨rfl, _⟩ | ⟨g, cap, cur', rfl, hb, hgb, _⟩
 ·simp [Value.ownBlock] at hx
 ·obtain rfl : g = x := by simpa [Value.ownBlock] using hx
  exact ⟨(Array.getElem?_eq_some_iff.1 hgb).1, hb⟩
theorem row_sl {w : World} {base n : Nat} {e : TypeId} {k : Nat} {v : Value} {xs : List Value} (h : w.ownsRow base e k v n xs) : ∃ p m cap, v = .slice p m cap := by
 rcases h.2 with ⟨h1, h2⟩ | ⟨g, cap, cur, h1, _⟩
 ·exact ⟨none, 0, 0, h1⟩
 ·exact ⟨_, n, cap, h1⟩
def Hb (pb bv : Nat) (ov : Value) (x : Nat) : Prop := x = pb ∨ x = bv ∨ ov.ownBlock = some x
set_option maxRecDepth 100000 in
set_option maxHeartbeats 1000000 in
theorem hdrop_any (w : World) (base pb : Nat) (b jb : Nat) (op : Bool) (bw keep bv : Nat) (ov : Value) (hits mis : Int) (lost : Bool) (h : Tx) (hB : Blk w pb (Pcs b jb op bw keep bv ov hits mis lost) 66) (H : Hn w base h bv ov) (k : Int) (hk : I64k k) (hn : h.length ≤ 1000000) :
  Calls Tryz.prog 87 #[.pointer (some ⟨pb, 4, none⟩), .int .i64 k] w fun e w' => e = .returned (.tuple #[]) ∧ ∃ ov', Blk w' pb (Pcs b jb op bw keep bv ov' hits mis lost) 66 ∧ Hn w' base (txDel k h) bv ov' ∧ Only (Hb pb bv ov) w w' ∧ ov'.ownBlock = ov.ownBlock := by
 obtain ⟨L, hp, hm⟩ := H.mp
 have hbp : pb ≠ bv := hm.not_blk hB
 have hop : ov.ownBlock ≠ some pb := hB.not_row (by decide) H.ord
 have hob : ov.ownBlock ≠ some bv := hm.not_row H.ord
 obtain ⟨w1, hw1⟩ : ∃ w1, w.alloc (.cells #[.int .i64 k] 3) = w1 := ⟨_, rfl⟩
 have hO1 : Only (fun _ => False) w w1 := by rw [← hw1]; exact (Only.refl _ _).alloc _
 have hs1 : w1.heap.size = w.heap.size + 1 := by rw [← hw1]; simp
 have hB1 := hB.only hO1 (fun q => q)
 have hm1 := hm.only hO1 (fun q => q)
 have hk1 : Blk w1 w.heap.size #[.int .i64 k] 3 := by rw [← hw1]; exact Blk.new w 3 _
 obtain ⟨w2, hrun, hm2, hO2, hs2⟩ := (hm1.drew).del hk 0
 have hB2 := (show Blk w1.drew pb _ _ from hB1).only hO2 (fun q => hbp q)
 have hk2 := (show Blk w1.drew w.heap.size _ _ from hk1).only hO2 (fun q => by have := hm.lt; omega)
 have hO12 : Only (fun x => x = bv) w w2 := (hO1.mono (fun _ _ q => q.elim)).drew.trans hO2 (fun _ _ q => q)
 have ho2 := owns_only H.ord hO12 (fun x hx q => hob (by rw [hx, q]))
 have hne2 : ov.ownBlock ≠ some w.heap.size := fun q => by have := row_lt H.ord q; omega
 have HD := hide (del_row w2 base w.heap.size k ov _ ho2 (by rw [hs2]; show w.heap.size < w1.heap.size; omega) (by rw [hk2.cell]; rfl) hne2 (by simpa using hn))
 have c5 : w1.cell? ⟨pb, 5, none⟩ = some (.map (some bv)) := by rw [hB1.cell]; rfl
 have c0 : w1.cell? ⟨w.heap.size, 0, none⟩ = some (.int .i64 k) := by rw [hk1.cell]; rfl
 have c6 : w2.cell? ⟨pb, 6, none⟩ = some ov := by rw [hB2.cell]; rfl
 have HX := hide (And.intro hB2 (And.intro hm2 (And.intro hO12 (And.intro hbp (And.intro hop (And.intro hob hp))))))
 have HH := hide H
 clear hB hm hO1 hs1 hs2 hO2 hB1 hm1 hk1 hB2 hk2 ho2 hne2 hbp hop hob H hm2 hp hO12
 replace hw1 := hide hw1
 go_enter Tryz.func87, Tryz.ntmps87
 go_wp2_with fail
 rw [unhide hw1]
 generalize w.heap.size = gh at *
 go_still_tail 5, (by kernel_rfl)
 change wpList _ _ _ _ _ w1.drew
 go_wp2_with fail
 refine (unhide HD).mono ?_
 rintro e w3 ⟨ov', rfl, r1, r2, r3, r4⟩
 obtain ⟨hB2, hm2, hO12, hbp, hop, hob, hp⟩ := unhide HX
 have hB3 := hB2.only r2 (fun q => hop q)
 have hm3 := hm2.only r2 (fun q => hob q)
 have c6' : w3.cell? ⟨pb, 6, none⟩ = some ov := by rw [hB3.cell]; rfl
 have f6' : w3.frozen? ⟨pb, 6, none⟩ = false := hB3.frozen 6
 have HR := hide (show Blk (w3.setCell ⟨pb, 6, none⟩ ov') pb (Pcs b jb op bw keep bv ov' hits mis lost) 66 ∧ Hn (w3.setCell ⟨pb, 6, none⟩ ov') base (txDel k h) bv ov' ∧ Only (Hb pb bv ov) w (w3.setCell ⟨pb, 6, none⟩ ov') ∧ ov'.ownBlock = ov.ownBlock from by
  have hOs : Only (fun x => x = pb) w3 (w3.setCell ⟨pb, 6, none⟩ ov') := (Only.refl _ _).setCell _ _ (fun _ => rfl)
  refine ⟨hB3.set 6 ov', ⟨⟨txDel k L, del_perm hp k, hm3.only hOs (fun q => hbp q.symm)⟩, ?_, fun p hq => (unhide HH).wf p ((mem_del k h p).1 hq).1⟩, ?_, r3⟩
  ·rw [del_keys]
   exact owns_only r1 hOs (fun x hx q => hop (by rw [← r3, hx, q]))
  ·exact ((hO12.mono (fun _ _ q => .inr (.inl q))).trans r2 (fun _ _ q => .inr (.inr q))).setCell _ _ (fun _ => .inl rfl))
 obtain ⟨p', n', cap', rfl⟩ := row_sl r1
 clear r1 r2 r3 r4 hB2 hm2 hO12 hbp hop hob hp hB3 hm3 HD HH HX hw1
 go_wp2
 go_end0
 exact ⟨rfl, _, unhide HR⟩
end Go.Proofs.YtiellebdliifdaaGreatDoor
