import Derived.Maps.StringElems
import Derived.Maps.Ext
import Derived.Lib.SlKeysI
import Derived.Test.YtnfdedolgfcmfaaGreatDoorMrc04
import Derived.Test.YtnfdedolgfcmfaaGreatDoorMrc19
import Derived.Test.YtnfdedolgfcmfaaGreatDoorMrc21
namespace Go.Proofs.YtnfdedolgfcmfaaGreatDoor
open Go.RowKit Go.Maps
/-- What a map from numbers to kept images holds, by rising numbers: the blocks. -/
abbrev Tx := List (Int × Nat)
def litS (s : Nat) : DataW Unit := .lit (.int .i64 (s : Int))
def txE (l : Tx) : List (Lit × DataW Unit) := l.map fun p => (Lit.int .i64 p.1, litS p.2)
def txD (l : Tx) : DataW Unit := .map (txE l)
def txIns (k : Int) (s : Nat) : Tx → Tx
  | [] => [(k, s)]
  | p :: r => if k < p.1 then (k, s) :: p :: r else p :: txIns k s r
def txDel (k : Int) (l : Tx) : Tx := l.filter fun p => !(p.1 == k)
def txPut (k : Int) (s : Nat) (l : Tx) : Tx := txIns k s (txDel k l)
def txAt (l : Tx) (k : Int) : Option Nat := (l.find? fun p => p.1 == k).map (·.2)
def Srt (l : Tx) : Prop := l.Pairwise fun p q => p.1 < q.1
theorem sameInt (a b : Int) : (Lit.int .i64 a).sameKey (.int .i64 b) = (a == b) := by
  by_cases h : a = b <;> simp [Lit.sameKey, h]
theorem txE_ins (k : Int) (s : Nat) (l : Tx) : DataW.insert (Lit.int .i64 k, litS s) (txE l) = txE (txIns k s l) := by
  induction l with
  | nil => rfl
  | cons p r ih =>
    show DataW.insert _ ((Lit.int .i64 p.1, litS p.2) :: txE r) = _
    by_cases h : k < p.1
    · simp [DataW.insert, txIns, Lit.before, h, txE]
    · simp [DataW.insert, txIns, Lit.before, h, ih]
      simp [txE]
theorem txE_del (k : Int) (l : Tx) : ((txE l).filter fun p => !p.1.sameKey (.int .i64 k)) = txE (txDel k l) := by
  unfold txE txDel
  rw [List.filter_map]
  congr 1
  exact List.filter_congr (fun p _ => by simp [sameInt])
theorem txD_del (k : Int) (l : Tx) : (txD l).del (.int .i64 k) = txD (txDel k l) := by
  show DataW.map _ = DataW.map _
  rw [txE_del]
theorem txD_put (k : Int) (s : Nat) (l : Tx) : (txD l).put (.int .i64 k) (litS s) = txD (txPut k s l) := by
  show DataW.map _ = DataW.map _
  rw [txE_del, txE_ins]
  rfl
theorem txD_find (k : Int) (l : Tx) : ((txE l).find? fun p => p.1.sameKey (.int .i64 k)) = (l.find? fun p => p.1 == k).map fun p => (Lit.int .i64 p.1, litS p.2) := by
  unfold txE
  rw [List.find?_map]
  congr 2
  funext p
  simp [sameInt]
theorem txD_at (k : Int) (l : Tx) (z : DataW Unit) : (txD l).atKey (.int .i64 k) z = match txAt l k with | some s => litS s | none => z := by
  unfold DataW.atKey txD
  simp only [txD_find]
  unfold txAt
  cases l.find? (fun p => p.1 == k) <;> rfl
theorem txD_has (k : Int) (l : Tx) : Maps.has (txD l) (.int .i64 k) = (txAt l k).isSome := by
  have h : ((txE l).find? fun p => p.1.sameKey (.int .i64 k)).isSome = (txE l).any fun p => p.1.sameKey (.int .i64 k) := by
    rw [Bool.eq_iff_iff]; simp [List.find?_isSome]
  show (txE l).any (fun p => p.1.sameKey (.int .i64 k)) = _
  rw [← h, txD_find, txAt]
  cases l.find? (fun p => p.1 == k) <;> rfl
theorem txD_size (l : Tx) : Maps.size (txD l) = l.length := by simp [txD, txE, size_eq]
theorem txD_keys (l : Tx) : intKeys (txD l) = l.map (·.1) := by
  show (txE l).map _ = _
  unfold txE
  rw [List.map_map]
  rfl
theorem mem_ins (k : Int) (s : Nat) (l : Tx) (p : Int × Nat) : p ∈ txIns k s l ↔ p = (k, s) ∨ p ∈ l := by
  induction l with
  | nil => simp [txIns]
  | cons q r ih =>
    unfold txIns
    split
    · simp
    · simp only [List.mem_cons, ih]
      constructor
      · rintro (h | h | h)
        · exact .inr (.inl h)
        · exact .inl h
        · exact .inr (.inr h)
      · rintro (h | h | h)
        · exact .inr (.inl h)
        · exact .inl h
        · exact .inr (.inr h)
theorem mem_del (k : Int) (l : Tx) (p : Int × Nat) : p ∈ txDel k l ↔ p ∈ l ∧ p.1 ≠ k := by
  simp [txDel, List.mem_filter]
theorem srt_del {l : Tx} (h : Srt l) (k : Int) : Srt (txDel k l) := List.Pairwise.filter _ h
theorem srt_ins {l : Tx} (h : Srt l) (k : Int) (s : Nat) (hk : ∀ p ∈ l, p.1 ≠ k) : Srt (txIns k s l) := by
  induction l with
  | nil => simp [txIns, Srt]
  | cons q r ih =>
    obtain ⟨h1, h2⟩ := List.pairwise_cons.1 h
    unfold txIns
    split
    · rename_i hq
      refine List.pairwise_cons.2 ⟨fun p hp => ?_, h⟩
      rcases List.mem_cons.1 hp with rfl | hp
      · exact hq
      · exact Int.lt_trans hq (h1 p hp)
    · rename_i hq
      have hne := hk q (by simp)
      refine List.pairwise_cons.2 ⟨fun p hp => ?_, ih h2 (fun p hp => hk p (by simp [hp]))⟩
      rcases (mem_ins k s r p).1 hp with rfl | hp
      · show q.1 < k; omega
      · exact h1 p hp
theorem srt_put {l : Tx} (h : Srt l) (k : Int) (s : Nat) : Srt (txPut k s l) := srt_ins (srt_del h k) k s (fun p hp => ((mem_del k l p).1 hp).2)
theorem ins_len (k : Int) (s : Nat) (l : Tx) : (txIns k s l).length = l.length + 1 := by
  induction l with
  | nil => rfl
  | cons q r ih =>
    unfold txIns
    split
    · rfl
    · simp [ih]
theorem at_none {l : Tx} {k : Int} : txAt l k = none ↔ ∀ p ∈ l, p.1 ≠ k := by
  unfold txAt
  rw [Option.map_eq_none_iff, List.find?_eq_none]
  constructor
  · intro h p hp e; exact h p hp (by simp [e])
  · intro h p hp e; exact h p hp (by simpa using e)
theorem at_some {l : Tx} (h : Srt l) {k : Int} {s : Nat} : txAt l k = some s ↔ (k, s) ∈ l := by
  induction l with
  | nil => simp [txAt]
  | cons q r ih =>
    obtain ⟨h1, h2⟩ := List.pairwise_cons.1 h
    have ih := ih h2
    unfold txAt at ih ⊢
    by_cases e : q.1 = k
    · have : (q.1 == k) = true := by simp [e]
      rw [List.find?_cons_of_pos (by simpa using this)]
      simp only [Option.map_some, Option.some.injEq, List.mem_cons]
      constructor
      · intro h; left; rw [← e, ← h]
      · rintro (h | h)
        · rw [← h]
        · have := h1 _ h; simp only at this; omega
    · have : ¬ ((q.1 == k) = true) := by simp [e]
      rw [List.find?_cons_of_neg (by simpa using this), ih]
      simp only [List.mem_cons]
      constructor
      · exact .inr
      · rintro (h | h)
        · rw [← h] at e; exact absurd rfl e
        · exact h
theorem del_skip {l : Tx} {k : Int} (h : txAt l k = none) : txDel k l = l := List.filter_eq_self.2 (fun p hp => by simpa using at_none.1 h p hp)
theorem del_len {l : Tx} (h : Srt l) {k : Int} {s : Nat} (hs : txAt l k = some s) : (txDel k l).length + 1 = l.length := by
  induction l with
  | nil => simp [txAt] at hs
  | cons q r ih =>
    obtain ⟨h1, h2⟩ := List.pairwise_cons.1 h
    by_cases e : q.1 = k
    · have hr : txDel k r = r := List.filter_eq_self.2 (fun p hp => by have := h1 p hp; simp; omega)
      have : txDel k (q :: r) = txDel k r := by unfold txDel; rw [List.filter_cons_of_neg (by simp [e])]
      rw [this, hr]; rfl
    · have e1 : txDel k (q :: r) = q :: txDel k r := by unfold txDel; rw [List.filter_cons_of_pos (by simp [e])]
      have e2 : txAt r k = some s := by
        unfold txAt at hs ⊢
        rwa [List.find?_cons_of_neg (by simp [e])] at hs
      rw [e1, List.length_cons, List.length_cons, ih h2 e2]
theorem put_len {l : Tx} (h : Srt l) (k : Int) (s : Nat) : (txPut k s l).length = if (txAt l k).isSome then l.length else l.length + 1 := by
  unfold txPut
  rw [ins_len]
  cases e : txAt l k with
  | none => rw [del_skip e]; rfl
  | some x => rw [del_len h e]; rfl
/-- The numbers, sorted: they stand so already. -/
theorem keys_sorted {l : Tx} (h : Srt l) {ss : List Int} (hp : ss.Perm (intKeys (txD l))) : (ss.mergeSort fun x y => decide (x ≤ y)) = l.map (·.1) := by
  rw [txD_keys] at hp
  refine List.Perm.eq_of_pairwise (le := fun a b : Int => a ≤ b) (fun a b _ _ h1 h2 => Int.le_antisymm h1 h2) ?_ ?_ ((List.mergeSort_perm ss _).trans hp)
  · have := List.pairwise_mergeSort (le := fun x y : Int => decide (x ≤ y)) (fun a b c h1 h2 => by simp only [decide_eq_true_eq] at *; omega) (fun a b => by simp only [Bool.or_eq_true, decide_eq_true_eq]; omega) ss
    exact this.imp (fun q => by simpa using q)
  · exact List.pairwise_map.2 (h.imp (fun q => Int.le_of_lt q))
end Go.Proofs.YtnfdedolgfcmfaaGreatDoor

namespace Go.Proofs.YtnfdedolgfcmfaaGreatDoor
open Go.RowKit Go.Maps Go.ChangeMaps Go.MapKept
open Go.WideElems (Fit rd rg pl rd_val elemAt)
theorem litS_inj {c s : Nat} (h : (litS c) = litS s) : c = s := by
  unfold litS at h
  injection h with h
  injection h with _ h
  omega
/-- a pointer to a whole block, or none -/
def pV : Option Nat → Value
  | none => .pointer none
  | some b => .pointer (some ⟨b, 0, none⟩)
/-- how such a pointer reads -/
def ptrElem (v : Value) : Option (DataW Unit × List MemPlace) :=
  match v with
  | .pointer none => some (.lit (.int .i64 (-1)), [])
  | .pointer (some ⟨b, 0, none⟩) => some (litS b, [])
  | _ => none
theorem ptrElem_some (b : Nat) : ptrElem (pV (some b)) = some (litS b, []) := rfl
theorem ptrElem_inv {v : Value} {b : Nat} {ps : List MemPlace} (h : ptrElem v = some (litS b, ps)) : v = pV (some b) := by
  unfold ptrElem at h
  split at h
  · injection h with h
    injection h with h _
    unfold litS at h
    injection h with h
    injection h with _ h
    omega
  · injection h with h
    injection h with h _
    rw [litS_inj h]
    rfl
  · cases h
theorem ptrElem_nil {v : Value} {ps : List MemPlace} (h : ptrElem v = some (.lit (.int .i64 (-1)), ps)) : v = pV none := by
  unfold ptrElem at h
  split at h
  · rfl
  · injection h with h
    injection h with h _
    unfold litS at h
    injection h with h
    injection h with _ h
    omega
  · cases h
theorem ownsMap_tight {H : Type} {P : Program} {k : TypeId} {R : Value → Option (DataW H × List MemPlace)} {w : World} {b n : Nat} {D : DataW H} (h : w.ownsMap P k R b n D) : w.ownsMap P k R b (Maps.size D) D := by
  obtain ⟨es, clock, hb, F, hs, hD⟩ := h
  refine ⟨es, clock, hb, F, ?_, hD⟩
  subst hD
  simp [Maps.size, length_sorted]
theorem wf_of {k : Int} (h1 : -9223372036854775808 ≤ k) (h2 : k ≤ 9223372036854775807) : (Lit.int .i64 k).wf = true := by
  simp [Lit.wf, IntKind.min, IntKind.max, IntKind.signed, IntKind.bits]; omega
/-- Block b is a map that holds l. -/
def Mp (w : World) (b : Nat) (l : Tx) : Prop := w.ownsMap Tryz.prog 3 ptrElem b l.length (txD l) ∧ Srt l
def I64k (k : Int) : Prop := -9223372036854775808 ≤ k ∧ k ≤ 9223372036854775807
theorem key3 {k : Int} (h : I64k k) : keyOf Tryz.prog 3 (.int .i64 k) = some (.int .i64 k) := keyOf_int_mk Tryz.underlying3 (wf_of h.1 h.2)
theorem law3 : Keyed Tryz.prog 3 := int_keyed Tryz.underlying3
theorem zeroP (w : World) : (zeroValue 87).run Tryz.prog w = .ok (.pointer none) w := by kernel_rfl
theorem Mp.lt {w : World} {b : Nat} {l : Tx} (h : Mp w b l) : b < w.heap.size := h.1.lt
theorem Mp.only {w w' : World} {b : Nat} {l : Tx} {P : Nat → Prop} (h : Mp w b l) (ho : Only P w w') (hp : ¬ P b) : Mp w' b l := by
  refine ⟨?_, h.2⟩
  have hlt := h.1.lt
  obtain ⟨es, clock, hb, F, hs, hD⟩ := h.1
  exact ⟨es, clock, (ho.2 b hlt hp).trans hb, F, hs, hD⟩
theorem Mp.below {w w' : World} {b : Nat} {l : Tx} {B : Nat} (h : Mp w b l) (hb : Below B w w') (hB : b < B) : Mp w' b l := by
  refine ⟨?_, h.2⟩
  obtain ⟨es, clock, hb', F, hs, hD⟩ := h.1
  exact ⟨es, clock, (hb.block b hB).trans hb', F, hs, hD⟩
theorem Mp.alloc {w : World} {b : Nat} {l : Tx} (h : Mp w b l) (o : Obj) : Mp (w.alloc o) b l := ⟨h.1.alloc o, h.2⟩
theorem Mp.drew {w : World} {b : Nat} {l : Tx} (h : Mp w b l) : Mp w.drew b l := h
theorem Mp.setCell {w : World} {b : Nat} {l : Tx} (h : Mp w b l) {a : Addr} (ha : a.block ≠ b) (u : Value) : Mp (w.setCell a u) b l := ⟨h.1.setCell (fun e => ha e.symm) u, h.2⟩
theorem Mp.not_blk {w : World} {b : Nat} {l : Tx} (h : Mp w b l) {x : Nat} {cur : Array Value} {T : TypeId} (hx : Blk w x cur T) : x ≠ b := fun e => by
  subst e
  obtain ⟨es, clock, hb, _⟩ := h.1
  have := (show w.heap[x]? = _ from hx).symm.trans hb
  simp at this
theorem Mp.made (w : World) : Mp (w.alloc (.map #[] 0)) w.heap.size [] := ⟨World.ownsMap_made w _ _ _, List.Pairwise.nil⟩
theorem Mp.look {w : World} {b : Nat} {l : Tx} (h : Mp w b l) {k : Int} (hk : I64k k) :
    (Instr.lookup 83 (.map (some b)) (.int .i64 k) true).run Tryz.prog w = .ok (.tuple #[pV (txAt l k), .bool (txAt l k).isSome]) w ∧
    (Instr.lookup 83 (.map (some b)) (.int .i64 k) false).run Tryz.prog w = .ok (pV (txAt l k)) w := by
  have hz0 : ptrElem (.pointer none) = some (.lit (.int .i64 (-1)), []) := rfl
  have key : ∀ (v : Value) (ps : List MemPlace), ptrElem v = some ((txD l).atKey (.int .i64 k) (.lit (.int .i64 (-1))), ps) → v = pV (txAt l k) := fun v ps hv => by
    rw [txD_at] at hv
    cases e : txAt l k with
    | none => rw [e] at hv; exact ptrElem_nil hv
    | some s => rw [e] at hv; exact ptrElem_inv hv
  constructor
  · obtain ⟨v, ps, hrun, hv⟩ := h.1.look_ok law3 Tryz.underlying83 (zeroP w) hz0 (key3 hk)
    rw [hrun, key v ps hv, txD_has]
  · obtain ⟨v, ps, hrun, hv⟩ := h.1.lookup law3 Tryz.underlying83 (zeroP w) hz0 (key3 hk)
    rw [hrun, key v ps hv]
theorem Mp.len {w : World} {b : Nat} {l : Tx} (h : Mp w b l) (ty : TypeId) : (Builtin.len_ #[83] ty #[.map (some b)]).run Tryz.prog w = .ok (.int .i64 (l.length : Int)) w := by
  rw [h.1.len Tryz.underlying83 ty, txD_size]
theorem Only.turned {w w' : World} {b : Nat} (h : w.mapTurned w' b) : Only (fun x => x = b) w w' := by
  have := h.grown
  exact ⟨⟨this.os, this.tape, this.output, this.size, fun k hk => absurd hk (Nat.not_lt_zero k)⟩, fun k hk hn => this.block k hk (fun e => hn (by cases e; rfl))⟩
theorem turned_size {w w' : World} {b : Nat} (h : w.mapTurned w' b) : w'.heap.size = w.heap.size := by
  obtain ⟨es, clock, es', clock', hb, rfl⟩ := h
  simp [setBlock]
theorem Mp.put {w : World} {b : Nat} {l : Tx} (h : Mp w b l) {k : Int} (hk : I64k k) (s : Nat) (hl : l.length ≤ 1000000) :
    ∃ w', (Instr.mapUpdate 83 (.map (some b)) (.int .i64 k) (pV (some s))).run Tryz.prog w = .ok () w' ∧ Mp w' b (txPut k s l) ∧ Only (fun x => x = b) w w' ∧ w'.heap.size = w.heap.size := by
  obtain ⟨w', hrun, hm, ht⟩ := h.1.store law3 Tryz.underlying83 (by unfold maxLen; omega) (key3 hk) (ptrElem_some s)
  refine ⟨w', hrun, ⟨?_, srt_put h.2 k s⟩, Only.turned ht, turned_size ht⟩
  have h1 : w'.ownsMap Tryz.prog 3 ptrElem b (l.length + 1) (txD (txPut k s l)) := by rw [← txD_put]; exact hm
  have h2 := ownsMap_tight h1
  rwa [txD_size] at h2
theorem Mp.del {w : World} {b : Nat} {l : Tx} (h : Mp w b l) {k : Int} (hk : I64k k) (ty : TypeId) :
    ∃ w', (Builtin.delete_ #[83, 3] ty #[.map (some b), .int .i64 k]).run Tryz.prog w = .ok (.tuple #[]) w' ∧ Mp w' b (txDel k l) ∧ Only (fun x => x = b) w w' ∧ w'.heap.size = w.heap.size := by
  obtain ⟨w', hrun, hm, ht⟩ := h.1.drop law3 Tryz.underlying83 (key3 hk) ty
  refine ⟨w', hrun, ⟨?_, srt_del h.2 k⟩, Only.turned ht, turned_size ht⟩
  have h1 : w'.ownsMap Tryz.prog 3 ptrElem b l.length (txD (txDel k l)) := by rw [← txD_del]; exact hm
  have h2 := ownsMap_tight h1
  rwa [txD_size] at h2
end Go.Proofs.YtnfdedolgfcmfaaGreatDoor

namespace Go.Proofs.YtnfdedolgfcmfaaGreatDoor
open Go.RowKit Go.Maps Go.Sort Go.Shelf
set_option maxRecDepth 100000
/-- a primary in memory: how many sectors, the newest, the base, what is kept -/
structure Pr (w : World) (p mp z N B : Nat) (l : Tx) (im : Int → List ByteArray) : Prop where
  blk : Blk w p #[.int .i64 (z : Int), .int .i64 (N : Int), .int .i64 (B : Int), .map (some mp)] 85
  map : Mp w mp l
  sds : ∀ e ∈ l, Sd w e.2 (im e.1)
  one : ∀ e ∈ l, ∀ e' ∈ l, e.2 = e'.2 → e = e'
theorem Sd.ty {w : World} {b : Nat} {l : List ByteArray} (h : Sd w b l) : ∃ cur, Blk w b cur 90 := by
  obtain ⟨g, kn, h1, _⟩ := h
  exact ⟨_, h1⟩
theorem Mp.not_sd {w : World} {b : Nat} {l : Tx} (h : Mp w b l) {x : Nat} {m : List ByteArray} (hx : Sd w x m) : x ≠ b := by
  obtain ⟨cur, h1⟩ := hx.ty
  exact h.not_blk h1
theorem Pr.not_p {w : World} {p mp z N B : Nat} {l : Tx} {im : Int → List ByteArray} (h : Pr w p mp z N B l im) {x : Nat} {m : List ByteArray} (hx : Sd w x m) : x ≠ p := by
  obtain ⟨cur, h1⟩ := hx.ty
  exact h1.tyne h.blk (by decide)
theorem Pr.pm {w : World} {p mp z N B : Nat} {l : Tx} {im : Int → List ByteArray} (h : Pr w p mp z N B l im) : p ≠ mp := h.map.not_blk h.blk
theorem Pr.below {w w' : World} {p mp z N B : Nat} {l : Tx} {im : Int → List ByteArray} (h : Pr w p mp z N B l im) (hb : Below w.heap.size w w') : Pr w' p mp z N B l im :=
  ⟨h.blk.below hb h.blk.lt, h.map.below hb h.map.lt, fun e he => (h.sds e he).below hb, h.one⟩
set_option maxHeartbeats 4000000 in
theorem padd_any (w : World) (p mp z N B g : Nat) (l : Tx) (im : Int → List ByteArray) (M : List ByteArray) (h : Pr w p mp z N B l im) (hN : N < 65535) (hl : l.length ≤ 1000000) (hg : Sd w g M) (hnew : ∀ e ∈ l, e.2 ≠ g) (hkey : ∀ e ∈ l, e.1 ≤ (N : Int)) :
    Calls Tryz.prog 33 #[.pointer (some ⟨p, 0, none⟩), .pointer (some ⟨g, 0, none⟩)] w fun e w' => e = .returned (.tuple #[]) ∧ Pr w' p mp z (N + 1) B (txPut ((N : Int) + 1) g l) (fun k => if k = (N : Int) + 1 then M else im k) ∧ Only (fun q => q = p ∨ q = mp) w w' := by
  have c1 : w.cell? ⟨p, 1, none⟩ = some (.int .i64 (N : Int)) := by rw [h.blk.cell 1]; rfl
  have f1 := h.blk.frozen 1
  have hgp := h.not_p hg
  have hgm := h.map.not_sd hg
  have hpm := h.pm
  obtain ⟨x, hx⟩ : ∃ q, w.setCell ⟨p, 1, none⟩ (.int .i64 ((N : Int) + 1)) = q := ⟨_, rfl⟩
  have hox : Only (fun q => q = p) w x := by rw [← hx]; exact (Only.refl _ _).setCell _ _ (fun _ => rfl)
  have hbx : Blk x p #[.int .i64 (z : Int), .int .i64 ((N : Int) + 1), .int .i64 (B : Int), .map (some mp)] 85 := by rw [← hx]; exact h.blk.set 1 _
  have hmx : Mp x mp l := h.map.only hox (fun q => hpm q.symm)
  have hsx : ∀ e ∈ l, Sd x e.2 (im e.1) := fun e he => (h.sds e he).only hox (fun q => h.not_p (h.sds e he) q) (fun k c q hk => by subst q; exact h.blk.tyne hk (by decide) rfl)
  have hgx : Sd x g M := hg.only hox (fun q => hgp q) (fun k c q hk => by subst q; exact h.blk.tyne hk (by decide) rfl)
  have d1 : x.drew.cell? ⟨p, 1, none⟩ = some (.int .i64 ((N : Int) + 1)) := by
    have := hbx.cell 1
    exact this.trans rfl
  have d3 : x.drew.cell? ⟨p, 3, none⟩ = some (.map (some mp)) := by
    have := hbx.cell 3
    exact this.trans rfl
  obtain ⟨y, hrun, hm2, hO2, hs2⟩ := hmx.drew.put (k := (N : Int) + 1) (by unfold I64k; omega) g hl
  change (Instr.mapUpdate 83 (.map (some mp)) (.int .i64 ((N : Int) + 1)) (.pointer (some ⟨g, 0, none⟩))).run Tryz.prog x.drew = .ok () y at hrun
  have hon : Only (fun q => q = mp) x y := ⟨⟨hO2.1.os, hO2.1.tape, hO2.1.output, hO2.1.size, hO2.1.block⟩, hO2.2⟩
  have hby := hbx.only hon hpm
  have e1 : y.cell? ⟨p, 1, none⟩ = some (.int .i64 ((N : Int) + 1)) := by rw [hby.cell 1]; rfl
  have e3 : y.cell? ⟨p, 1, none⟩ = some (.int .i64 ((N : Int) + 1)) ∧ y.cell? ⟨p, 3, none⟩ = some (.map (some mp)) := ⟨e1, by rw [hby.cell 3]; rfl⟩
  have hnine : ∀ kk cc, kk = mp → ¬ Blk x kk cc 9 := fun kk cc e hb => by
    subst e
    exact hmx.not_blk hb rfl
  have hat : txAt l ((N : Int) + 1) = none := at_none.2 (fun e he q => by
    have := hkey e he
    omega)
  have HF := hide (show Pr y p mp z (N + 1) B (txPut ((N : Int) + 1) g l) (fun k => if k = (N : Int) + 1 then M else im k) ∧ Only (fun q => q = p ∨ q = mp) w y from by
    have hmem : ∀ e, e ∈ txPut ((N : Int) + 1) g l → e = ((N : Int) + 1, g) ∨ e ∈ l := fun e he => by
      unfold txPut at he
      rcases (mem_ins _ _ _ _).1 he with q | q
      · exact .inl q
      · exact .inr ((mem_del _ _ _).1 q).1
    refine ⟨⟨?_, hm2, fun e he => ?_, fun e he e' he' q => ?_⟩, (hox.mono (Q := fun q => q = p ∨ q = mp) (fun _ _ q => .inl q)).trans hon (fun _ _ q => .inr q)⟩
    · exact hby
    · rcases hmem e he with rfl | hel
      · simp only [if_true]
        exact hgx.only hon hgm hnine
      · have hne : e.1 ≠ (N : Int) + 1 := fun q => by
          have := hkey e hel
          omega
        simp only [if_neg hne]
        exact (hsx e hel).only hon (hmx.not_sd (hsx e hel)) hnine
    · rcases hmem e he with rfl | hel <;> rcases hmem e' he' with rfl | hel'
      · rfl
      · exact absurd q.symm (hnew e' hel')
      · exact absurd q (hnew e hel)
      · exact h.one e hel e' hel' q)
  have HX := hide hx
  clear h hg hnew hkey hox hbx hmx hsx hgx hm2 hO2 hs2 hon hby hnine hat hgp hgm hl
  go_enter Tryz.func33, Tryz.ntmps33
  go_wp2_with (rw [unhide HX])
  refine wp_region_held_drew (S := fun W => W.cell? ⟨p, 1, none⟩ = some (.int .i64 ((N : Int) + 1)) ∧ W.cell? ⟨p, 3, none⟩ = some (.map (some mp))) (by kernel_rfl) ⟨d1, d3⟩ ?_
  intro hS
  refine wpAnyH_takeD 0 (some 11) (.pointer (some ⟨p, 0, none⟩)) rfl rfl (by kernel_rfl) (by kernel_rfl) (by kernel_rfl) (fun _ _ _ h => h) (Or.inl ⟨by rfl, fun w hSw => by obtain ⟨q1, q2⟩ := hSw; go_simp⟩) hS ?_
  simp only [Act.put, List.setIfInBounds_toArray, List.set_cons_zero, List.set_cons_succ]
  refine wpAnyH_takeD 1 (some 12) (.pointer (some ⟨p, 0, none⟩)) rfl rfl (by kernel_rfl) (by kernel_rfl) (by kernel_rfl) (fun _ _ _ h => h) (Or.inl ⟨by rfl, fun w hSw => by obtain ⟨q1, q2⟩ := hSw; go_simp⟩) hS ?_
  simp only [Act.put, List.setIfInBounds_toArray, List.set_cons_zero, List.set_cons_succ]
  refine wpAnyH_takeD 2 (some 13) (.pointer (some ⟨p, 3, none⟩)) rfl rfl (by kernel_rfl) (by kernel_rfl) (by kernel_rfl) (fun _ _ _ h => h) (Or.inl ⟨by rfl, fun w hSw => by obtain ⟨q1, q2⟩ := hSw; go_simp⟩) hS ?_
  simp only [Act.put, List.setIfInBounds_toArray, List.set_cons_zero, List.set_cons_succ]
  refine wpAnyH_takeD 3 (some 14) (.map (some mp)) rfl rfl (by kernel_rfl) (by kernel_rfl) (by kernel_rfl) (fun _ _ _ h => h) (Or.inl ⟨by rfl, fun w hSw => by obtain ⟨q1, q2⟩ := hSw; go_simp⟩) hS ?_
  simp only [Act.put, List.setIfInBounds_toArray, List.set_cons_zero, List.set_cons_succ]
  refine wpAnyH_takeD 4 (some 15) (.pointer (some ⟨p, 0, none⟩)) rfl rfl (by kernel_rfl) (by kernel_rfl) (by kernel_rfl) (fun _ _ _ h => h) (Or.inl ⟨by rfl, fun w hSw => by obtain ⟨q1, q2⟩ := hSw; go_simp⟩) hS ?_
  simp only [Act.put, List.setIfInBounds_toArray, List.set_cons_zero, List.set_cons_succ]
  refine wpAnyH_takeD 5 (some 16) (.pointer (some ⟨p, 0, none⟩)) rfl rfl (by kernel_rfl) (by kernel_rfl) (by kernel_rfl) (fun _ _ _ h => h) (Or.inl ⟨by rfl, fun w hSw => by obtain ⟨q1, q2⟩ := hSw; go_simp⟩) hS ?_
  simp only [Act.put, List.setIfInBounds_toArray, List.set_cons_zero, List.set_cons_succ]
  refine wpAnyH_takeD 6 (some 17) (.pointer (some ⟨p, 1, none⟩)) rfl rfl (by kernel_rfl) (by kernel_rfl) (by kernel_rfl) (fun _ _ _ h => h) (Or.inl ⟨by rfl, fun w hSw => by obtain ⟨q1, q2⟩ := hSw; go_simp⟩) hS ?_
  simp only [Act.put, List.setIfInBounds_toArray, List.set_cons_zero, List.set_cons_succ]
  refine wpAnyH_takeD 7 (some 18) (.int .i64 ((N : Int) + 1)) rfl rfl (by kernel_rfl) (by kernel_rfl) (by kernel_rfl) (fun _ _ _ h => h) (Or.inl ⟨by rfl, fun w hSw => by obtain ⟨q1, q2⟩ := hSw; go_simp⟩) hS ?_
  simp only [Act.put, List.setIfInBounds_toArray, List.set_cons_zero, List.set_cons_succ]
  refine wpAnyH_takeD 8 (some 19) (.pointer (some ⟨g, 0, none⟩)) rfl rfl (by kernel_rfl) (by kernel_rfl) (by kernel_rfl) (fun _ _ _ h => h) (Or.inl ⟨by rfl, fun w hSw => by obtain ⟨q1, q2⟩ := hSw; go_simp⟩) hS ?_
  simp only [Act.put, List.setIfInBounds_toArray, List.set_cons_zero, List.set_cons_succ]
  refine wpAnyH_ready (rs := [9]) (by kernel_rfl) (by simp) ?_
  refine AllReadyH.cons rfl (fun K hK => ?_) AllReadyH.nil
  simp only [List.getElem_toArray, List.getElem_cons_succ, List.getElem_cons_zero]
  go_simp
  refine hK.out _ _ e3 (fun hS => ?_)
  clear hK K
  refine wpAnyH_done (by kernel_rfl) ?_ _
  clear hS
  go_wp2
  go_end0
  exact ⟨rfl, unhide HF⟩
end Go.Proofs.YtnfdedolgfcmfaaGreatDoor

namespace Go.Proofs.YtnfdedolgfcmfaaGreatDoor
open Go.RowKit Go.Maps Go.Sort Go.Shelf
set_option maxRecDepth 100000
theorem sortsP (m : Nat) : AnyZI.SortsIn Tryz.prog Tryz.sortedL_ren Fence.wide m :=
  ⟨fun blk off cap ss W hH hblk hsz => callsIn_wide.2 (Tryz.slices_Sort_int blk off cap ss W hH hblk hsz),
   fun p cap W => callsIn_wide.2 (Tryz.slices_Sort_int_none p cap W)⟩
/-- numbers in memory, in a block of one's own -/
def NL (w : World) (base : Nat) (p : Option Addr) (ks : List Int) : Prop := ∀ j, j < ks.length → ∃ g o, p = some ⟨g, o, none⟩ ∧ base ≤ g ∧ w.cell? ⟨g, o + j, none⟩ = some (.int .i64 (ks.getD j 0))
/-- the numbers of what is kept; of the notes -/
def kysP (l : Tx) : List Int := l.map (·.1)
def ntsP (B : Nat) (l : Tx) : List Int := if B = 0 then kysP l else (kysP l).drop 1
theorem ntsP_nl {w : World} {base n : Nat} {g : Nat} {cur : Array Value} {ks : List Int} (hb : base ≤ g) (hB : Blk w g cur 3) (hx : cur.toList.take n = ks.map encZ) (hn : ks.length = n) : NL w base (some ⟨g, 0, none⟩) ks ∧ NL w base (some ⟨g, 1, none⟩) (ks.drop 1) := by
  have key : ∀ j, j < n → w.cell? ⟨g, j, none⟩ = some (.int .i64 (ks.getD j 0)) := fun j hj => by
    rw [hB.cell j]
    have : (cur.toList.take n)[j]? = (ks.map encZ)[j]? := by rw [hx]
    rw [List.getElem?_take, if_pos hj, List.getElem?_map] at this
    rw [List.getD_eq_getElem?_getD, List.getElem?_eq_getElem (by omega)]
    rw [List.getElem?_eq_getElem (by omega : j < ks.length), Option.map_some] at this
    exact (Array.getElem?_toList.symm.trans this).trans rfl
  refine ⟨fun j hj => ⟨g, 0, rfl, hb, by rw [Nat.zero_add]; exact key j (by omega)⟩, fun j hj => ⟨g, 1, rfl, hb, ?_⟩⟩
  rw [List.length_drop] at hj
  rw [key (1 + j) (by omega), List.getD_eq_getElem?_getD, List.getD_eq_getElem?_getD, List.getElem?_drop]
set_option maxHeartbeats 4000000 in
theorem pnotes_any (w : World) (p mp z N B : Nat) (l : Tx) (im : Int → List ByteArray) (h : Pr w p mp z N B l im) (hl : l.length ≤ 1000000) (hB : B ≠ 0 → l ≠ []) :
    Calls Tryz.prog 35 #[.pointer (some ⟨p, 0, none⟩)] w fun e w' => ∃ a c, e = .returned (.slice a (ntsP B l).length c) ∧ NL w' w.heap.size a (ntsP B l) ∧ Below w.heap.size w w' := by
  refine (callsIn_wide (n := 6)).1 ?_
  have hbl := h.map.lt
  have hsz : Maps.size (txD l) = l.length := txD_size l
  have c3 : w.cell? ⟨p, 3, none⟩ = some (.map (some mp)) := by rw [h.blk.cell 3]; rfl
  have HP := hide h
  have hseq : SeqGives Fence.wide 2 Tryz.prog 106 #[.pointer (some ⟨w.heap.size, 0, none⟩)] encZ (fun ss => ss.Perm (intKeys (txD l))) (Maps.size (txD l)) (w.alloc (.cells #[.map (some mp)] 83)) :=
    AnyZI.keys_gives (ρ := Tryz.keysL_ren) { Tryz.keysL with } Fence.wide _ trivial rfl (by omega) w.heap.size mp l.length (txD l) _ (by simp) (by simp) (h.map.1.alloc _)
  have cK : ∀ mb W, CallsIn Fence.wide 5 Tryz.prog 75 #[.map mb] W fun e w' => e = .returned (.func (.func 106) #[] #[.pointer (some ⟨W.heap.size, 0, none⟩)]) ∧ w' = W.alloc (.cells #[.map mb] 83) := fun mb W => AnyZI.keys_in Tryz.keysL Fence.wide 5 trivial rfl mb W
  have cS := AnyZI.sorted_in Tryz.sortedL Fence.wide 5 trivial trivial trivial trivial rfl (by omega) (sortsP _) (enters_of Tryz.func105 (by kernel_rfl) rfl) 106 #[.pointer (some ⟨w.heap.size, 0, none⟩)] trivial (enters_of Tryz.func106 (by kernel_rfl) rfl) _ _ (by rw [hsz]; unfold maxLen; omega) (by rw [hsz]; omega) _ hseq
  change CallsIn _ _ Tryz.prog 74 _ _ _ at cS
  have hfK : Fence.wide.fn 75 := trivial
  have hfS : Fence.wide.fn 74 := trivial
  have HS := hide h.map.2
  have HV := hide (show ∀ (v : Value) (ss : List Int) (w' : World), ss.Perm (intKeys (txD l)) → w'.ownsRow (w.alloc (.cells #[.map (some mp)] 83)).heap.size (Tryz.sortedL_ren.t 26) 1 v ss.length ((ss.mergeSort fun x y => decide (x ≤ y)).map encZ) → Below (w.alloc (.cells #[.map (some mp)] 83)).heap.size (w.alloc (.cells #[.map (some mp)] 83)) w' → w'.cell? ⟨p, 2, none⟩ = some (.int .i64 (B : Int)) ∧ Below w.heap.size w w' ∧ ∃ a c, v = .slice a (kysP l).length c ∧ NL w' w.heap.size a (kysP l) ∧ (l = [] ∨ ∃ g, a = some ⟨g, 0, none⟩ ∧ (kysP l).length ≤ c ∧ NL w' w.heap.size (some ⟨g, 0, none⟩) (kysP l) ∧ NL w' w.heap.size (some ⟨g, 1, none⟩) ((kysP l).drop 1)) from fun v ss w' hp hrow hb => by
    have hbw : Below w.heap.size w w' := ((Below.refl _ w).alloc (Nat.le_refl _) _).trans (hb.mono (by simp))
    have h1 := keys_sorted h.map.2 hp
    have h2 : ss.length = (kysP l).length := by
      show _ = (l.map (·.1)).length
      rw [← h1, List.length_mergeSort]
    rw [h1, h2] at hrow
    refine ⟨by rw [hbw.cell (p := ⟨p, 2, none⟩) h.blk.lt, h.blk.cell 2]; rfl, hbw, ?_⟩
    rcases hrow.2 with ⟨k1, k2⟩ | ⟨g, cap, cur, k1, k2, k3, k4, k5, k6, k7⟩
    · have e0 : l = [] := by
        cases l with
        | nil => rfl
        | cons a r => simp [kysP] at k2
      subst e0
      exact ⟨none, 0, k1, fun j hj => absurd hj (by simp [kysP]), .inl rfl⟩
    · have hnl := ntsP_nl (ks := kysP l) (n := (kysP l).length) (base := w.heap.size) (by simp at k2; omega) k3 (by rw [Nat.mul_one] at k7; exact k7) rfl
      exact ⟨_, _, k1, hnl.1, .inr ⟨g, rfl, by omega, hnl⟩⟩)
  clear h hsz hseq hl
  refine callsIn_of_wp Tryz.func35 rfl trivial ?_ rfl
  simp only [Tryz.ntmps35, List.size_toArray, List.length_cons, List.length_nil, Nat.reduceAdd, Nat.reduceSub, Array.replicate_succ, Array.replicate_zero, List.push_toArray, List.append_toArray, List.nil_append, List.cons_append]
  by_cases hB0 : B = 0
  · have e0 : ((B : Int) != 0) = false := by simp [hB0]
    gi_wp2_with (first
      | (gi_at_call 75; refine (cK _ _).mono ?_; rintro e w' ⟨rfl, rfl⟩)
      | (gi_at_call 74; refine cS.mono ?_; rintro e w' ⟨v, ss, rfl, hp, hrow, hnil, hb⟩; obtain ⟨d2, HB, a, c, HV1, HV2, HV3⟩ := unhide HV v ss w' hp hrow hb; obtain ⟨n, hn⟩ : ∃ q, (kysP l).length = q := ⟨_, rfl⟩; rw [hn] at HV1 HV3; have HN := hide hn; clear hn; clear hp hrow hnil hb cS cK HV; subst HV1))
    go_ret
    refine ⟨a, c, ?_, ?_, HB⟩
    · rw [ntsP, if_pos hB0, unhide HN]
      rfl
    · rw [ntsP, if_pos hB0]; exact HV2
  · have e0 : ((B : Int) != 0) = true := by simp [hB0]
    have hl0 := hB hB0
    have hk1 : 1 ≤ (kysP l).length := by
      have := List.length_pos_iff.2 hl0
      show 1 ≤ (l.map (·.1)).length
      rw [List.length_map]
      omega
    gi_wp2_with (first
      | (gi_at_call 75; refine (cK _ _).mono ?_; rintro e w' ⟨rfl, rfl⟩)
      | (gi_at_call 74; refine cS.mono ?_; rintro e w' ⟨v, ss, rfl, hp, hrow, hnil, hb⟩; obtain ⟨d2, HB, a, c, HV1, HV2, HV3⟩ := unhide HV v ss w' hp hrow hb; obtain ⟨n, hn⟩ : ∃ q, (kysP l).length = q := ⟨_, rfl⟩; rw [hn] at HV1 HV3; obtain ⟨g, rfl, hnc, HN1, HN2⟩ := HV3.resolve_left hl0; have hn1 : 1 ≤ n := (by omega); have HN := hide hn; clear hn; clear hp hrow hnil hb cS cK HV; subst HV1))
    all_goals go_ret
    · have hlen : (ntsP B l).length = n - 1 := by rw [ntsP, if_neg hB0, List.length_drop, unhide HN]
      refine ⟨some ⟨g, 0, none⟩, ⟨0, by rw [hlen]; rfl⟩, fun j hj => ?_, HB⟩
      rw [hlen] at hj
      omega
    · have hlen : (ntsP B l).length = n - 1 := by rw [ntsP, if_neg hB0, List.length_drop, unhide HN]
      refine ⟨some ⟨g, 1, none⟩, ⟨c - 1, by rw [hlen]; rfl⟩, ?_, HB⟩
      rw [ntsP, if_neg hB0]
      exact HN2
end Go.Proofs.YtnfdedolgfcmfaaGreatDoor
