import Derived.WalkKit
import Derived.WalkSmall
import Derived.Deep.MidRow
import Derived.Test.YtffiaogbphgmgaaGreatDoorChecked
import Derived.Deep.RegionLaw
import Derived.Laws.BytesArg
import Derived.ArgAppend
import Derived.Laws.IdiomStrings
import Derived.Lib.AppendStr
import Derived.Laws.BitsAllLaws
import Derived.StillTailTactics
import Derived.Deep.RegionHeld3
import Derived.Deep.RegionWith
import Derived.RangeFuncBox
import Derived.Deep.AppendLies
namespace Go.Proofs.YtffiaogbphgmgaaGreatDoor
open Go.RowKit

theorem results_cell {fn : Func} {p : Tmp} {ty : TypeId} (h : fn.results = #[.cell p ty]) (tmps : Array Value) (P : Program) (w : World) (ad : Addr) (ha : tmps.getD p undef = .pointer (some ad)) (v : Value) (hl : (loadVar ty ad).run P w = .ok v w) :
    (results fn tmps).run P w = .ok v w := by
  have ha' : tmps[p]?.getD undef = .pointer (some ad) := by simpa using ha
  simp only [results, h]
  simp [ha', asAddr, hl]
theorem hide {p : Prop} (h : p) : Hid p := h
theorem unhide {p : Prop} (h : Hid p) : p := h
/-- In block b, from offset o on, lie the numbers l, of kind k, and may be written. -/
def Arr (w : World) (b o : Nat) (k : IntKind) (l : List Int) : Prop :=
  ∀ j, j < l.length → w.cell? ⟨b, o + j, none⟩ = some (.int k (l.getD j 0)) ∧ w.frozen? ⟨b, o + j, none⟩ = false

theorem Arr.get {w : World} {b o : Nat} {k : IntKind} {l : List Int} (h : Arr w b o k l) (j : Nat) (hj : j < l.length) : w.cell? ⟨b, o + j, none⟩ = some (.int k (l.getD j 0)) := (h j hj).1
theorem Arr.free {w : World} {b o : Nat} {k : IntKind} {l : List Int} (h : Arr w b o k l) (j : Nat) (hj : j < l.length) : w.frozen? ⟨b, o + j, none⟩ = false := (h j hj).2
theorem Arr.get0 {w : World} {b : Nat} {k : IntKind} {l : List Int} (h : Arr w b 0 k l) (j : Nat) (hj : j < l.length) : w.cell? ⟨b, j, none⟩ = some (.int k (l.getD j 0)) := by simpa using (h j hj).1
theorem Arr.free0 {w : World} {b : Nat} {k : IntKind} {l : List Int} (h : Arr w b 0 k l) (j : Nat) (hj : j < l.length) : w.frozen? ⟨b, j, none⟩ = false := by simpa using (h j hj).2
theorem Arr.set {w : World} {b o : Nat} {k : IntKind} {l : List Int} (h : Arr w b o k l) (i : Nat) (hi : i < l.length) (v : Int) : Arr (w.setCell ⟨b, o + i, none⟩ (.int k v)) b o k (l.set i v) := by
  intro j hj
  rw [List.length_set] at hj
  refine ⟨?_, by rw [World.frozen?_setCell]; exact (h j hj).2⟩
  by_cases e : i = j
  · subst e
    rw [World.cell?_setCell_same _ _ _ (h i hi).1]
    simp [hi]
  · rw [World.cell?_setCell_other _ _ _ _ (by simp), (h j hj).1]
    simp [e]
theorem Arr.set0 {w : World} {b : Nat} {k : IntKind} {l : List Int} (h : Arr w b 0 k l) (i : Nat) (hi : i < l.length) (v : Int) : Arr (w.setCell ⟨b, i, none⟩ (.int k v)) b 0 k (l.set i v) := by
  have := h.set i hi v; simpa using this
theorem Arr.other {w : World} {b o : Nat} {k : IntKind} {l : List Int} (h : Arr w b o k l) (a : Addr) (v : Value) (ha : a.block ≠ b ∨ a.off < o ∨ o + l.length ≤ a.off) : Arr (w.setCell a v) b o k l := by
  intro j hj
  refine ⟨?_, by rw [World.frozen?_setCell]; exact (h j hj).2⟩
  rw [World.cell?_setCell_other _ _ _ _ (by intro hh; subst hh; simp at ha; omega), (h j hj).1]
theorem Arr.alloc {w : World} {b o : Nat} {k : IntKind} {l : List Int} (h : Arr w b o k l) (hb : b < w.heap.size) (x : Obj) : Arr (w.alloc x) b o k l := by
  intro j hj
  rw [World.cell?_alloc_past (hn := hb), World.frozen?_alloc_past (hn := hb)]
  exact h j hj
theorem Arr.drew {w : World} {b o : Nat} {k : IntKind} {l : List Int} (h : Arr w b o k l) : Arr w.drew b o k l := h
theorem Arr.drewN {w : World} {b o : Nat} {k : IntKind} {l : List Int} (h : Arr w b o k l) (n : Nat) : Arr (w.drewN n) b o k l := h
theorem Arr.below {w w' : World} {B b o : Nat} {k : IntKind} {l : List Int} (h : Arr w b o k l) (hb : Below B w w') (hB : b < B) : Arr w' b o k l := by
  intro j hj
  rw [hb.cell (p := ⟨b, o + j, none⟩) hB, hb.frozen (p := ⟨b, o + j, none⟩) hB]
  exact h j hj
theorem Arr.range {w : World} {b o : Nat} {k : IntKind} {l : List Int} (h : Arr w b o k l) : w.rangeAt b o (l.map (Value.int k)) := by
  intro j v hv
  rw [List.getElem?_map] at hv
  cases hq : l[j]? with
  | none => simp [hq] at hv
  | some x =>
    obtain ⟨hj, e⟩ := List.getElem?_eq_some_iff.1 hq
    simp [hq] at hv
    rw [(h j hj).1, ← hv]
    simp [hq]
theorem Arr.there {w : World} {b o : Nat} {k : IntKind} {l : List Int} (h : Arr w b o k l) : w.there b o l.length := by
  intro j hj
  exact ⟨by rw [(h j hj).1]; rfl, (h j hj).2⟩
theorem arr_new (w : World) (k : IntKind) (l : List Int) (t : TypeId) (c : Array Value) (hc : c = (l.map (Value.int k)).toArray) : Arr (w.alloc (.cells c t)) w.heap.size 0 k l := by
  subst hc
  intro j hj
  rw [World.cell?_alloc_at (hn := rfl), World.frozen?_alloc_at (hn := rfl)]
  simp [hj]
end Go.Proofs.YtffiaogbphgmgaaGreatDoor

namespace Go.Proofs.YtffiaogbphgmgaaGreatDoor
open Go.RowKit
end Go.Proofs.YtffiaogbphgmgaaGreatDoor

namespace Go.Proofs.YtffiaogbphgmgaaGreatDoor
open Go.RowKit
def Bytes (p : List Int) : Prop := ∀ j : Nat, 0 ≤ p.getD j 0 ∧ p.getD j 0 < 256
def nums (t : ByteArray) : List Int := t.data.toList.map (fun x => (x.toNat : Int))
theorem nums_len (t : ByteArray) : (nums t).length = t.size := by rw [nums, List.length_map]; rfl
theorem nums_bytes (t : ByteArray) : Bytes (nums t) := by
  intro j
  simp only [nums, List.getD_eq_getElem?_getD, List.getElem?_map]
  cases t.data.toList[j]? with
  | none => simp
  | some x => have := x.toNat_lt; simp; omega
theorem nums_strOfNums (l : List Int) (h : Bytes l) : nums (strOfNums l) = l := by
  unfold nums
  rw [strOfNums_data, List.map_map]
  apply List.ext_getElem?
  intro j
  have hj := h j
  rw [List.getD_eq_getElem?_getD] at hj
  rw [List.getElem?_map]
  cases e : l[j]? with
  | none => rfl
  | some x =>
    rw [e] at hj
    simp at hj
    simp [UInt8.toNat_ofNat']
    omega
theorem strOfNums_nums (t : ByteArray) : strOfNums (nums t) = t := by
  have : (strOfNums (nums t)).data.toList = t.data.toList := by
    rw [strOfNums_data, nums, List.map_map]
    conv => rhs; rw [← List.map_id t.data.toList]
    apply List.map_congr_left
    intro x _
    simp
  cases t with
  | mk d =>
    cases d with
    | mk dl =>
      have h2 : (strOfNums (nums ⟨⟨dl⟩⟩)) = ⟨⟨(strOfNums (nums ⟨⟨dl⟩⟩)).data.toList⟩⟩ := rfl
      rw [h2, this]
def KeyInv (w : World) (l : List Int) (wr : World) : Prop := Arr wr w.heap.size 0 .u8 l ∧ Below w.heap.size w wr ∧ w.heap.size < wr.heap.size
theorem KeyInv.put {w : World} {l l' : List Int} {wr : World} (h : KeyInv w l wr) (t : Nat) (ht : t < l.length) (v : Int) (e : l.set t v = l') : KeyInv w l' (wr.setCell ⟨w.heap.size, t, none⟩ (.int .u8 v)) := by
  subst e
  exact ⟨h.1.set0 t ht v, h.2.1.setCell (by simp) _, by simpa using h.2.2⟩
theorem index_str (t : ByteArray) (i : Nat) (hi : i < t.size) (w : World) : (Instr.index 9 (.string t) (.int .i64 (i : Int))).run Tryz.prog w = .ok (.int .u8 ((nums t).getD i 0)) w := by
  have h1 : (nums t).getD i 0 = ((t[i]'hi).toNat : Int) := by
    have hl : i < t.data.toList.length := by simpa using hi
    simp only [nums, List.getD_eq_getElem?_getD, List.getElem?_map]
    rw [List.getElem?_eq_getElem hl]
    simp
    rfl
  have h2 : t[i]? = some (t[i]'hi) := by simp [hi]
  rw [h1]
  simp only [Instr.index, asIntOf, Sem.run_bind, Sem.run_pure, Result.andThen_ok, run_underlying Tryz.underlying9]
  have h0 : (0 : Int) ≤ (i : Int) := by omega
  simp [h2]
theorem info5 : (Tryz.prog.info? 5).map (fun i => (i.zero, i.size, i.bytes)) = some (some (.int .u8 0), 1, 1) := by kernel_rfl
set_option maxRecDepth 100000 in
theorem run_make_u8 (l c : Nat) (hlc : l ≤ c) (hc : c ≤ 281474976710656) (w : World) : (Instr.makeSlice 67 (.int .i64 (l : Int)) (.int .i64 (c : Int))).run Tryz.prog w = .ok (.slice (some ⟨w.heap.size, 0, none⟩) l c) (w.alloc (.cells ((List.replicate c (0 : Int)).map (Value.int .u8)).toArray 5)) := by
  obtain ⟨i0, hi, hz0, hz1, hz2⟩ := info_parts info5
  have := run_make (P := Tryz.prog) w 67 5 i0 (.int .u8 0) Tryz.underlying67 hi hz0 .i64 .i64 (l : Int) (c : Int) (by omega) (by omega) (by rw [hz2]; omega) (by omega)
  rw [this, hz1]
  simp only [Int.toNat_natCast, Nat.mul_one]
  congr 3
  apply Array.ext
  · simp [size_madeCells]
  · intro j h1 h2
    simp [madeCells, Value.cells, Nat.mod_one]
/-- A slice of the call's own: block b, from its head; the bytes L; room for 'cap' of them. -/
def Bsl (w : World) (base b cap : Nat) (L : List Int) : Prop :=
  base ≤ b ∧ b < w.heap.size ∧ L.length ≤ cap ∧ cap ≤ maxLen ∧ Arr w b 0 .u8 L ∧ w.there b 0 cap
theorem Bsl.alloc {w : World} {base b cap : Nat} {L : List Int} (h : Bsl w base b cap L) (o : Obj) : Bsl (w.alloc o) base b cap L :=
  ⟨h.1, by simp; have := h.2.1; omega, h.2.2.1, h.2.2.2.1, h.2.2.2.2.1.alloc h.2.1 o, World.there_alloc h.2.2.2.2.2 o⟩
theorem Bsl.of_string (w : World) (t : ByteArray) (ht : t.size ≤ 140737488355328) : ∃ cap W, (convert 9 67 (Value.string t)).run Tryz.prog w = .ok (.slice (some ⟨w.heap.size, 0, none⟩) t.size cap) W ∧ Bsl W w.heap.size w.heap.size cap (nums t) ∧ Below w.heap.size w W := by
  have hrun := run_bytes_of_string (P := Tryz.prog) w 9 67 5 t Tryz.underlying9 Tryz.underlying67 Tryz.underlying5
  have hge := grownCap_ge w t.size 0 5
  have hle := grownCap_le_maxLen w t.size 0 5 (by unfold maxLen; omega)
  refine ⟨_, _, hrun, ?_, ((Below.refl _ w).drew).alloc (Nat.le_refl _) _⟩
  generalize grownCap w t.size 0 5 = cap at *
  have hsz : (bytesRow t cap).size = cap := by
    have : t.data.size = t.size := rfl
    simp [bytesRow, this]; omega
  have hcell : ∀ j, (w.drew.alloc (Obj.cells (bytesRow t cap) 5 ((bytesRow t cap).size, (bytesRow t cap).size + 1))).cell? ⟨w.heap.size, j, none⟩ = (bytesRow t cap)[j]? := fun j => World.cell?_alloc_mark w.drew _ 5 _ j
  have hfr : ∀ j, j < cap → (w.drew.alloc (Obj.cells (bytesRow t cap) 5 ((bytesRow t cap).size, (bytesRow t cap).size + 1))).frozen? ⟨w.heap.size, j, none⟩ = false := fun j hj => by
    have := World.frozen?_alloc_mark w.drew (bytesRow t cap) 5 (bytesRow t cap).size ((bytesRow t cap).size + 1) j
    rw [show (w.drew.heap.size) = w.heap.size from rfl] at this
    rw [this, hsz]
    simp
    omega
  refine ⟨Nat.le_refl _, by simp, by rw [nums_len]; exact hge, hle, fun j hj => ?_, fun j hj => ?_⟩
  · rw [nums_len] at hj
    rw [Nat.zero_add]
    refine ⟨?_, hfr j (by omega)⟩
    have hjd : j < t.data.size := hj
    rw [hcell, bytesRow_at t cap j hjd]
    simp [nums]
    rw [Array.getElem?_eq_getElem hjd]
    rfl
  · rw [Nat.zero_add]
    refine ⟨?_, hfr j hj⟩
    rw [hcell, Array.getElem?_eq_getElem (by omega)]
    rfl
theorem Bsl.of_owns {w w' : World} {base : Nat} {v : Value} {L : List Int} (hb : base ≤ w.heap.size) (h : w'.ownsRow w.heap.size 5 1 v L.length (L.map (Value.int .u8))) (hne : 0 < L.length) : ∃ b cap, v = .slice (some ⟨b, 0, none⟩) L.length cap ∧ Bsl w' base b cap L := by
  obtain ⟨_, h | ⟨g, cap, cur, rfl, hg, hh, hn, hc, hs, hx⟩⟩ := h
  · omega
  · rw [Nat.mul_one] at hs hx
    have hcell : ∀ j, w'.cell? ⟨g, j, none⟩ = cur[j]? := fun j => cell_of_row w' g j cur 5 (0, 0) hh
    have hlt : g < w'.heap.size := by
      rcases Nat.lt_or_ge g w'.heap.size with h | h
      · exact h
      · rw [Array.getElem?_eq_none h] at hh; cases hh
    have hfr : ∀ j, w'.frozen? ⟨g, j, none⟩ = false := fun j => by simp [World.frozen?, hh]
    refine ⟨g, cap, rfl, by omega, hlt, hn, hc, fun j hj => ?_, fun j hj => ?_⟩
    · rw [Nat.zero_add, hcell]
      refine ⟨?_, hfr j⟩
      have e : cur.toList[j]? = (L.map (Value.int .u8))[j]? := by rw [← hx, List.getElem?_take, if_pos hj]
      rw [← Array.getElem?_toList, e]
      simp [hj]
    · rw [Nat.zero_add, hcell, Array.getElem?_eq_getElem (by omega)]
      exact ⟨rfl, hfr j⟩
theorem nums_app (a b : ByteArray) : nums (a ++ b) = nums a ++ nums b := by simp [nums, ByteArray.data_append]
theorem str_ne {s t : ByteArray} (h : ¬ s = t) : (s.toList == t.toList) = false := by
  rw [ByteArray.toList_eq, ByteArray.toList_eq]
  simp
  exact fun h2 => h (Go.WideShapes.bytes_inj (by rw [h2]))
def I64 (x : Int) : Prop := -9223372036854775808 ≤ x ∧ x ≤ 9223372036854775807
theorem wrap64_eq (n : Int) (h1 : -9223372036854775808 ≤ n) (h2 : n ≤ 9223372036854775807) : wrap64 n = n := by unfold wrap64; omega
theorem wrapI_eq (n : Int) (h1 : -9223372036854775808 ≤ n) (h2 : n ≤ 9223372036854775807) : IntKind.i64.wrap n = n := by rw [IntKind.wrap_i64]; omega
end Go.Proofs.YtffiaogbphgmgaaGreatDoor

namespace Go.Proofs.YtffiaogbphgmgaaGreatDoor
open Go.RowKit
/-- Block b is this row of cells, of type T, none of them frozen. -/
def Blk (w : World) (b : Nat) (cur : Array Value) (T : TypeId) : Prop := w.heap[b]? = some (.cells cur T (0, 0))
theorem Blk.lt {w : World} {b : Nat} {cur : Array Value} {T : TypeId} (h : Blk w b cur T) : b < w.heap.size := (Array.getElem?_eq_some_iff.1 h).1
theorem Blk.cell {w : World} {b : Nat} {cur : Array Value} {T : TypeId} (h : Blk w b cur T) (j : Nat) : w.cell? ⟨b, j, none⟩ = cur[j]? := by simp [World.cell?, show w.heap[b]? = _ from h]
theorem Blk.frozen {w : World} {b : Nat} {cur : Array Value} {T : TypeId} (h : Blk w b cur T) (j : Nat) : w.frozen? ⟨b, j, none⟩ = false := by simp [World.frozen?, show w.heap[b]? = _ from h]
theorem Blk.new (w : World) (T : TypeId) (cur : Array Value) : Blk (w.alloc (.cells cur T)) w.heap.size cur T := World.alloc_heap_new w _
theorem Blk.kept {w w' : World} {b : Nat} {cur : Array Value} {T : TypeId} (h : Blk w b cur T) (e : w'.heap[b]? = w.heap[b]?) : Blk w' b cur T := e.trans h
theorem Blk.alloc {w : World} {b : Nat} {cur : Array Value} {T : TypeId} (h : Blk w b cur T) (o : Obj) : Blk (w.alloc o) b cur T :=
  h.kept ((World.grownBy_alloc w o none).block b h.lt (by simp))
theorem Blk.set {w : World} {b : Nat} {cur : Array Value} {T : TypeId} (h : Blk w b cur T) (o : Nat) (v : Value) : Blk (w.setCell ⟨b, o, none⟩ v) b (cur.setIfInBounds o v) T := by
  obtain ⟨hlt, hk⟩ := Array.getElem?_eq_some_iff.1 h
  show (w.heap.modify b _)[b]? = _
  rw [Array.getElem?_eq_getElem (by rw [Array.size_modify]; exact hlt), Array.getElem_modify_self, hk]
  rfl
theorem Blk.other {w : World} {b : Nat} {cur : Array Value} {T : TypeId} (h : Blk w b cur T) (a : Addr) (v : Value) (ha : a.block ≠ b) : Blk (w.setCell a v) b cur T :=
  h.kept (Below.heap_setCell _ _ _ _ (fun e => ha e.symm))
theorem Blk.below {w w' : World} {B b : Nat} {cur : Array Value} {T : TypeId} (h : Blk w b cur T) (hb : Below B w w') (hB : b < B) : Blk w' b cur T := h.kept (hb.block b hB)
theorem Blk.not_row {w : World} {b : Nat} {cur : Array Value} {T e : TypeId} (h : Blk w b cur T) (hte : T ≠ e) {base size k : Nat} {v : Value} {xs : List Value} (hr : w.ownsRow base e size v k xs) : v.ownBlock ≠ some b := by
  rcases hr.2 with ⟨rfl, _⟩ | ⟨g, cap, cur', rfl, _, hgb, _⟩
  · simp [Value.ownBlock]
  · intro e'
    obtain rfl : g = b := by simpa [Value.ownBlock] using e'
    have := (show w.heap[g]? = _ from h).symm.trans hgb
    simp at this
    exact hte this.2
/-- From w to w' nothing that lay there has changed but in blocks of P. -/
def Only (P : Nat → Prop) (w w' : World) : Prop := Below 0 w w' ∧ ∀ k, k < w.heap.size → ¬ P k → w'.heap[k]? = w.heap[k]?
theorem Only.refl (P : Nat → Prop) (w : World) : Only P w w := ⟨Below.refl _ _, fun _ _ _ => rfl⟩
theorem Only.trans {P Q : Nat → Prop} {w w1 w2 : World} (h : Only P w w1) (k : Only Q w1 w2) (hq : ∀ k, k < w.heap.size → Q k → P k) : Only P w w2 :=
  ⟨h.1.trans k.1, fun j hj hp => (k.2 j (Nat.lt_of_lt_of_le hj h.1.size) (fun q => hp (hq j hj q))).trans (h.2 j hj hp)⟩
theorem Only.mono {P Q : Nat → Prop} {w w' : World} (h : Only P w w') (hq : ∀ k, k < w.heap.size → P k → Q k) : Only Q w w' := ⟨h.1, fun j hj hp => h.2 j hj (fun q => hp (hq j hj q))⟩
theorem Only.of_below {P : Nat → Prop} {w w' : World} (h : Below w.heap.size w w') : Only P w w' := ⟨h.mono (Nat.zero_le _), fun k hk _ => h.block k hk⟩
theorem Only.below {P : Nat → Prop} {w w' : World} {B : Nat} (h : Only P w w') (hB : B ≤ w.heap.size) (hp : ∀ k, k < B → ¬ P k) : Below B w w' :=
  ⟨h.1.os, h.1.tape, h.1.output, h.1.size, fun k hk => h.2 k (by omega) (hp k hk)⟩
theorem Only.setCell {P : Nat → Prop} {w w' : World} (h : Only P w w') (a : Addr) (v : Value) (ha : a.block < w.heap.size → P a.block) : Only P w (w'.setCell a v) :=
  ⟨h.1.setCell (Nat.zero_le _) v, fun k hk hp => (Below.heap_setCell _ _ _ _ (fun e => by subst e; exact hp (ha hk))).trans (h.2 k hk hp)⟩
theorem Only.alloc {P : Nat → Prop} {w w' : World} (h : Only P w w') (o : Obj) : Only P w (w'.alloc o) :=
  h.trans (Q := fun _ => False) ⟨(Below.refl 0 w').alloc (Nat.zero_le _) o, fun k hk _ => (World.grownBy_alloc w' o none).block k hk (by simp)⟩ (fun _ _ q => q.elim)
theorem Only.drew {P : Nat → Prop} {w w' : World} (h : Only P w w') : Only P w w'.drew := ⟨h.1.drew, h.2⟩
theorem Only.drewN {P : Nat → Prop} {w w' : World} (h : Only P w w') (n : Nat) : Only P w (w'.drewN n) := ⟨below_drewN h.1 n, h.2⟩
theorem Only.grown {P : Nat → Prop} {w w1 w2 : World} {row : Option Nat} (h : Only P w w1) (hg : w1.grownBy w2 row) (hr : ∀ k, k < w.heap.size → row = some k → P k) : Only P w w2 :=
  h.trans (Q := fun k => row = some k) ⟨⟨hg.os, hg.tape, hg.output, hg.size, fun k hk => absurd hk (Nat.not_lt_zero k)⟩, fun k hk hn => hg.block k hk (fun e => hn e.symm)⟩ hr
theorem Only.size {P : Nat → Prop} {w w' : World} (h : Only P w w') : w.heap.size ≤ w'.heap.size := h.1.size
theorem Blk.only {w w' : World} {b : Nat} {cur : Array Value} {T : TypeId} {P : Nat → Prop} (h : Blk w b cur T) (ho : Only P w w') (hp : ¬ P b) : Blk w' b cur T := h.kept (ho.2 b h.lt hp)
theorem Arr.only {w w' : World} {c o : Nat} {k : IntKind} {l : List Int} {P : Nat → Prop} (h : Arr w c o k l) (ho : Only P w w') (hp : ¬ P c) (hc : c < w.heap.size) : Arr w' c o k l := by
  intro j hj
  have e := ho.2 c hc hp
  rw [World.cell?_of_block (a := ⟨c, o + j, none⟩) e, World.frozen?_of_block (a := ⟨c, o + j, none⟩) e]
  exact h j hj
theorem owns_only {w w' : World} {base : Nat} {e : TypeId} {size n : Nat} {v : Value} {xs : List Value} {P : Nat → Prop} (h : w.ownsRow base e size v n xs) (ho : Only P w w') (hp : ∀ k, v.ownBlock = some k → ¬ P k) : w'.ownsRow base e size v n xs := by
  refine ⟨h.1, ?_⟩
  rcases h.2 with hn | ⟨g, cap, cur, rfl, hb, hg, rest⟩
  · exact .inl hn
  · exact .inr ⟨g, cap, cur, rfl, hb, (ho.2 g (Array.getElem?_eq_some_iff.1 hg).1 (hp g rfl)).trans hg, rest⟩
/-- Appending nothing. -/
theorem run_append_none (w : World) (p q : Option Addr) (n c c' : Nat) (hn : n ≤ c) (ty : TypeId) :
    (Builtin.append_ #[67, 67] ty #[.slice p n c, .slice q 0 c']).run Tryz.prog w = .ok (.slice p n c) w := by
  obtain ⟨i0, hi, hz0, hz1, hz2⟩ := info_parts info5
  have hl : ∀ a, (loadCells a 0).run Tryz.prog w = .ok #[] w := fun a => rfl
  cases p <;> cases q <;> simp [hl, Builtin.append_, run_underlying Tryz.underlying67, sizeOf, typeInfo, hi, hz1, Builtin.lenOf, hn, Builtin.firstCells, storeCells, Result.andThen]
end Go.Proofs.YtffiaogbphgmgaaGreatDoor

namespace Go.Proofs.YtffiaogbphgmgaaGreatDoor
open Go.RowKit
/-- What a disk is: its sectors as they last, as they were written last; the pending writes; the acts (kind, sector); its fuse; is it dead. -/
structure DSt where
  last : List ByteArray
  now : List ByteArray
  pend : List (Nat × ByteArray)
  acts : List (Nat × Nat)
  fuse : Int
  dead : Bool
def strs (l : List ByteArray) : List Value := l.map Value.string
def wrs : List (Nat × ByteArray) → List Value
  | [] => []
  | p :: r => .int .i64 (p.1 : Int) :: .string p.2 :: wrs r
def acs : List (Nat × Nat) → List Value
  | [] => []
  | p :: r => .int .u8 (p.1 : Int) :: .int .u16 (p.2 : Int) :: acs r
/-- The rows of a disk. -/
structure DV where
  l : Value
  n : Value
  p : Value
  a : Value
/-- At block b lies a disk with the rows v, which is s. -/
structure Dk (w : World) (base b : Nat) (v : DV) (s : DSt) : Prop where
  blk : Blk w b #[v.l, v.n, v.p, v.a, .int .i64 s.fuse, .bool s.dead] 63
  rl : w.ownsRow base 9 1 v.l s.last.length (strs s.last)
  rn : w.ownsRow base 9 1 v.n s.now.length (strs s.now)
  rp : w.ownsRow base 49 2 v.p s.pend.length (wrs s.pend)
  ra : w.ownsRow base 135 2 v.a s.acts.length (acs s.acts)
  ne : ∀ k, v.l.ownBlock = some k → v.n.ownBlock ≠ some k
  lo : base ≤ b
/-- The blocks of a disk. -/
def Fd (b : Nat) (v : DV) (k : Nat) : Prop := k = b ∨ v.l.ownBlock = some k ∨ v.n.ownBlock = some k ∨ v.p.ownBlock = some k ∨ v.a.ownBlock = some k
/-- Behind a call of the disk at b, whose rows were v: it is s now. -/
def DPost (base b : Nat) (v : DV) (s : DSt) (w w' : World) : Prop :=
  ∃ v', Dk w' base b v' s ∧ Only (Fd b v) w w' ∧ ∀ k, Fd b v' k → Fd b v k ∨ w.heap.size ≤ k
theorem Dk.only {w w' : World} {base b : Nat} {v : DV} {s : DSt} {P : Nat → Prop} (h : Dk w base b v s) (ho : Only P w w') (hp : ∀ k, Fd b v k → ¬ P k) : Dk w' base b v s :=
  ⟨h.blk.only ho (hp b (.inl rfl)), owns_only h.rl ho (fun k hk => hp k (.inr (.inl hk))), owns_only h.rn ho (fun k hk => hp k (.inr (.inr (.inl hk)))), owns_only h.rp ho (fun k hk => hp k (.inr (.inr (.inr (.inl hk))))), owns_only h.ra ho (fun k hk => hp k (.inr (.inr (.inr (.inr hk))))), h.ne, h.lo⟩
theorem Dk.below {w w' : World} {base b : Nat} {v : DV} {s : DSt} (h : Dk w base b v s) (hb : Below w.heap.size w w') : Dk w' base b v s := h.only (Only.of_below (P := fun _ => False) hb) (fun _ _ q => q)
theorem DPost.refl {w : World} {base b : Nat} {v : DV} {s : DSt} (h : Dk w base b v s) : DPost base b v s w w := ⟨v, h, Only.refl _ _, fun _ hk => .inl hk⟩
theorem row_form {w : World} {base n : Nat} {e : TypeId} {k : Nat} {v : Value} {xs : List Value} (h : w.ownsRow base e k v n xs) : ∃ p cap, v = .slice p n cap ∧ n ≤ cap := by
  rcases h.2 with ⟨h1, h2⟩ | ⟨g, cap, cur, h1, _, _, h3, _⟩
  · exact ⟨none, 0, by rw [h1, h2], by omega⟩
  · exact ⟨_, cap, h1, h3⟩
theorem strs_len (l : List ByteArray) : (strs l).length = l.length := by simp [strs]
theorem wrs_app : ∀ l m : List (Nat × ByteArray), wrs (l ++ m) = wrs l ++ wrs m
  | [], m => rfl
  | p :: r, m => by simp [wrs, wrs_app r m]
theorem acs_app : ∀ l m : List (Nat × Nat), acs (l ++ m) = acs l ++ acs m
  | [], m => rfl
  | p :: r, m => by simp [acs, acs_app r m]
set_option maxRecDepth 100000 in
set_option maxHeartbeats 1000000 in
theorem pending_any (w : World) (base b : Nat) (v : DV) (s : DSt) (h : Dk w base b v s) :
    Calls Tryz.prog 42 #[.pointer (some ⟨b, 0, none⟩)] w fun e w' => e = .returned (.int .i64 (s.pend.length : Int)) ∧ w' = w := by
  obtain ⟨p, cap, e, hc⟩ := row_form h.rp
  have c2 : w.cell? ⟨b, 2, none⟩ = some (.slice p s.pend.length cap) := by rw [h.blk.cell 2, ← e]; rfl
  clear h
  go_enter Tryz.func42, Tryz.ntmps42
  go_wp2
  go_ret
  exact ⟨rfl, rfl⟩
set_option maxRecDepth 100000 in
set_option maxHeartbeats 1000000 in
theorem size_any (w : World) (base b : Nat) (v : DV) (s : DSt) (h : Dk w base b v s) :
    Calls Tryz.prog 45 #[.pointer (some ⟨b, 0, none⟩)] w fun e w' => e = .returned (.int .i64 (s.last.length : Int)) ∧ w' = w := by
  obtain ⟨p, cap, e, hc⟩ := row_form h.rl
  have c2 : w.cell? ⟨b, 0, none⟩ = some (.slice p s.last.length cap) := by rw [h.blk.cell 0, ← e]; rfl
  clear h
  go_enter Tryz.func45, Tryz.ntmps45
  go_wp2
  go_ret
  exact ⟨rfl, rfl⟩
set_option maxRecDepth 100000 in
set_option maxHeartbeats 1000000 in
theorem dead_any (w : World) (base b : Nat) (v : DV) (s : DSt) (h : Dk w base b v s) :
    Calls Tryz.prog 41 #[.pointer (some ⟨b, 0, none⟩)] w fun e w' => e = .returned (.bool s.dead) ∧ w' = w := by
  have c2 : w.cell? ⟨b, 5, none⟩ = some (.bool s.dead) := by rw [h.blk.cell 5]; rfl
  clear h
  go_enter Tryz.func41, Tryz.ntmps41
  go_wp2
  go_ret
  exact ⟨rfl, rfl⟩
set_option maxRecDepth 100000 in
set_option maxHeartbeats 1000000 in
theorem has_any (w : World) (base b : Nat) (v : DV) (s : DSt) (h : Dk w base b v s) (i : Int) :
    Calls Tryz.prog 55 #[.pointer (some ⟨b, 0, none⟩), .int .i64 i] w fun e w' => e = .returned (.bool (decide (0 ≤ i ∧ i < (s.last.length : Int)))) ∧ w' = w := by
  have H := hide h
  clear h
  by_cases h0 : 0 ≤ i
  · go_enter Tryz.func55, Tryz.ntmps55
    go_wp2_with fail
    refine (size_any w base b v s (unhide H)).mono ?_
    rintro ev x1 ⟨rfl, rfl⟩
    go_wp2
    go_ret
    exact ⟨by simp [h0], rfl⟩
  · go_enter Tryz.func55, Tryz.ntmps55
    go_wp2
    go_ret
    exact ⟨by simp; omega, rfl⟩
set_option maxRecDepth 100000 in
set_option maxHeartbeats 1000000 in
theorem isSector_any (t : ByteArray) (w : World) :
    Calls Tryz.prog 63 #[.string t] w fun e w' => e = .returned (.bool (decide (t.size = 256))) ∧ w' = w := by
  go_enter Tryz.func63, Tryz.ntmps63
  go_wp2
  go_ret
  refine ⟨?_, rfl⟩
  by_cases h : t.size = 256
  · simp [h]
  · have : ¬ ((t.size : Int) = 256) := by omega
    simp [h, this]
set_option maxRecDepth 100000 in
set_option maxHeartbeats 1000000 in
theorem isSize_any (n : Int) (w : World) :
    Calls Tryz.prog 16 #[.int .i64 n] w fun e w' => e = .returned (.bool (decide (128 ≤ n ∧ n ≤ 1024))) ∧ w' = w := by
  by_cases h0 : 128 ≤ n
  · go_enter Tryz.func16, Tryz.ntmps16
    go_wp2
    go_ret
    exact ⟨by simp [h0], rfl⟩
  · go_enter Tryz.func16, Tryz.ntmps16
    go_wp2
    go_ret
    exact ⟨by simp; omega, rfl⟩
end Go.Proofs.YtffiaogbphgmgaaGreatDoor

namespace Go.Proofs.YtffiaogbphgmgaaGreatDoor
open Go.RowKit
/-- Another cell of a row of one's own. -/
theorem owns_set {w : World} {base : Nat} {e : TypeId} {k n : Nat} {v : Value} {xs : List Value} (h : w.ownsRow base e k v n xs) {g : Nat} (hv : v.ownBlock = some g) (j : Nat) (u : Value) : (w.setCell ⟨g, j, none⟩ u).ownsRow base e k v n (xs.set j u) := by
  refine ⟨by rw [List.length_set]; exact h.1, ?_⟩
  rcases h.2 with ⟨h1, h2⟩ | ⟨g', cap, cur, rfl, hb, hg, hn, hc, hs, hx⟩
  · rw [h1] at hv; cases hv
  · obtain rfl : g' = g := by simpa [Value.ownBlock] using hv
    refine .inr ⟨g', cap, cur.setIfInBounds j u, rfl, hb, Blk.set hg j u, hn, hc, by simpa using hs, ?_⟩
    rw [← hx]
    simp [List.take_set]
theorem owns_setO {w : World} {base : Nat} {e : TypeId} {k n : Nat} {v : Value} {xs : List Value} (h : w.ownsRow base e k v n xs) (a : Addr) (u : Value) (hv : v.ownBlock ≠ some a.block) : (w.setCell a u).ownsRow base e k v n xs :=
  owns_only h ((Only.refl (fun k => k = a.block) w).setCell a u (fun _ => rfl)) (fun _ hk hkb => hv (hkb ▸ hk))
theorem Dk.nb {w : World} {base b : Nat} {v : DV} {s : DSt} (h : Dk w base b v s) : v.l.ownBlock ≠ some b ∧ v.n.ownBlock ≠ some b ∧ v.p.ownBlock ≠ some b ∧ v.a.ownBlock ≠ some b :=
  ⟨h.blk.not_row (by decide) h.rl, h.blk.not_row (by decide) h.rn, h.blk.not_row (by decide) h.rp, h.blk.not_row (by decide) h.ra⟩
theorem rows_ne {w : World} {base : Nat} {e1 e2 : TypeId} {k1 k2 n1 n2 : Nat} {v1 v2 : Value} {xs1 xs2 : List Value} (h1 : w.ownsRow base e1 k1 v1 n1 xs1) (h2 : w.ownsRow base e2 k2 v2 n2 xs2) (he : e1 ≠ e2) (g : Nat) (hg : v1.ownBlock = some g) : v2.ownBlock ≠ some g := by
  rcases h1.2 with ⟨q1, q2⟩ | ⟨g', cap, cur, rfl, hb, hh, _⟩
  · rw [q1] at hg; cases hg
  · obtain rfl : g' = g := by simpa [Value.ownBlock] using hg
    exact Blk.not_row hh he h2
/-- The disk's own cells are written. -/
theorem Dk.cells {w : World} {base b : Nat} {v : DV} {s : DSt} (h : Dk w base b v s) (j : Nat) (u : Value) (v' : DV) (s' : DSt) (hb : (#[v.l, v.n, v.p, v.a, .int .i64 s.fuse, .bool s.dead] : Array Value).setIfInBounds j u = #[v'.l, v'.n, v'.p, v'.a, .int .i64 s'.fuse, .bool s'.dead])
    (hl : (w.setCell ⟨b, j, none⟩ u).ownsRow base 9 1 v'.l s'.last.length (strs s'.last)) (hn : (w.setCell ⟨b, j, none⟩ u).ownsRow base 9 1 v'.n s'.now.length (strs s'.now)) (hp : (w.setCell ⟨b, j, none⟩ u).ownsRow base 49 2 v'.p s'.pend.length (wrs s'.pend)) (ha : (w.setCell ⟨b, j, none⟩ u).ownsRow base 135 2 v'.a s'.acts.length (acs s'.acts))
    (hne : ∀ k, v'.l.ownBlock = some k → v'.n.ownBlock ≠ some k) : Dk (w.setCell ⟨b, j, none⟩ u) base b v' s' :=
  ⟨by rw [← hb]; exact h.blk.set j u, hl, hn, hp, ha, hne, h.lo⟩
theorem Dk.setFuse {w : World} {base b : Nat} {v : DV} {s : DSt} (h : Dk w base b v s) (n : Int) : Dk (w.setCell ⟨b, 4, none⟩ (.int .i64 n)) base b v { s with fuse := n } :=
  h.cells 4 _ v _ rfl (owns_setO h.rl _ _ h.nb.1) (owns_setO h.rn _ _ h.nb.2.1) (owns_setO h.rp _ _ h.nb.2.2.1) (owns_setO h.ra _ _ h.nb.2.2.2) h.ne
theorem Dk.setDead {w : World} {base b : Nat} {v : DV} {s : DSt} (h : Dk w base b v s) (n : Bool) : Dk (w.setCell ⟨b, 5, none⟩ (.bool n)) base b v { s with dead := n } :=
  h.cells 5 _ v _ rfl (owns_setO h.rl _ _ h.nb.1) (owns_setO h.rn _ _ h.nb.2.1) (owns_setO h.rp _ _ h.nb.2.2.1) (owns_setO h.ra _ _ h.nb.2.2.2) h.ne
theorem only_b {w w' : World} {b : Nat} {v : DV} (h : Only (Fd b v) w w') (j : Nat) (u : Value) : Only (Fd b v) w (w'.setCell ⟨b, j, none⟩ u) := h.setCell _ _ (fun _ => .inl rfl)
def diesS (s : DSt) : DSt := if 0 < s.fuse then { s with fuse := s.fuse - 1, dead := decide (s.fuse = 1) } else s
set_option maxRecDepth 100000 in
set_option maxHeartbeats 1000000 in
theorem dies_any (w : World) (base b : Nat) (v : DV) (s : DSt) (h : Dk w base b v s) (hf : I64 s.fuse) :
    Calls Tryz.prog 64 #[.pointer (some ⟨b, 0, none⟩)] w fun e w' => e = .returned (.bool (diesS s).dead) ∧ Dk w' base b v (diesS s) ∧ Only (Fd b v) w w' := by
  have c4 : w.cell? ⟨b, 4, none⟩ = some (.int .i64 s.fuse) := by rw [h.blk.cell 4]; rfl
  have c5 : w.cell? ⟨b, 5, none⟩ = some (.bool s.dead) := by rw [h.blk.cell 5]; rfl
  have f4 := h.blk.frozen 4
  have f5 := h.blk.frozen 5
  have H := hide h
  clear h
  by_cases h0 : 0 < s.fuse
  · have e1 : diesS s = { s with fuse := s.fuse - 1, dead := decide (s.fuse = 1) } := by rw [diesS, if_pos h0]
    rw [e1]
    have hb := hf.2
    clear hf e1
    go_enter Tryz.func64, Tryz.ntmps64
    go_wp2
    go_ret
    have eb : (s.fuse - 1 == 0) = decide (s.fuse = 1) := by
      by_cases h1 : s.fuse = 1
      · simp [h1]
      · have : ¬ s.fuse - 1 = 0 := by omega
        simp [h1, this]
    rw [eb]
    exact ⟨rfl, ((unhide H).setFuse _).setDead _, only_b (only_b (Only.refl _ _) _ _) _ _⟩
  · have e1 : diesS s = s := by rw [diesS, if_neg h0]
    rw [e1]
    clear e1 hf
    go_enter Tryz.func64, Tryz.ntmps64
    go_wp2
    go_ret
    exact ⟨rfl, unhide H, Only.refl _ _⟩
def armE (s : DSt) (n : Int) : Int := if n < 0 then 1 else if s.dead then 2 else 0
def armS (s : DSt) (n : Int) : DSt := if n < 0 then s else if s.dead then s else { s with fuse := n }
set_option maxRecDepth 100000 in
set_option maxHeartbeats 1000000 in
theorem arm_any (w : World) (base b : Nat) (v : DV) (s : DSt) (h : Dk w base b v s) (n : Int) :
    Calls Tryz.prog 24 #[.pointer (some ⟨b, 0, none⟩), .int .i64 n] w fun e w' => e = .returned (.int .i64 (armE s n)) ∧ Dk w' base b v (armS s n) ∧ Only (Fd b v) w w' := by
  have c4 : w.cell? ⟨b, 4, none⟩ = some (.int .i64 s.fuse) := by rw [h.blk.cell 4]; rfl
  have c5 : w.cell? ⟨b, 5, none⟩ = some (.bool s.dead) := by rw [h.blk.cell 5]; rfl
  have f4 := h.blk.frozen 4
  have H := hide h
  clear h
  by_cases h0 : n < 0
  · rw [armE, armS, if_pos h0, if_pos h0]
    go_enter Tryz.func24, Tryz.ntmps24
    go_wp2
    go_ret
    exact ⟨rfl, unhide H, Only.refl _ _⟩
  · rw [armE, armS, if_neg h0, if_neg h0]
    by_cases hd : s.dead = true
    · rw [if_pos hd, if_pos hd]
      rw [hd] at c5
      go_enter Tryz.func24, Tryz.ntmps24
      go_wp2
      go_ret
      exact ⟨rfl, unhide H, Only.refl _ _⟩
    · rw [if_neg hd, if_neg hd]
      rw [Bool.not_eq_true] at hd
      rw [hd] at c5
      clear hd
      go_enter Tryz.func24, Tryz.ntmps24
      go_wp2
      go_ret
      exact ⟨rfl, (unhide H).setFuse n, only_b (Only.refl _ _) _ _⟩
end Go.Proofs.YtffiaogbphgmgaaGreatDoor
