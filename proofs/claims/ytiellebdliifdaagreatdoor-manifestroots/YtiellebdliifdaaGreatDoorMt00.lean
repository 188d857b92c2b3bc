import Derived.WalkKit
import Derived.WalkSmall
import Derived.Deep.MidRow
import Derived.Test.YtiellebdliifdaaGreatDoorChecked
import Derived.Deep.RegionLaw
import Derived.Laws.BytesArg
import Derived.ArgAppend
import Derived.Laws.IdiomStrings
import Derived.Lib.AppendStr
import Derived.Laws.BitsAllLaws
import Derived.StillTailTactics
import Derived.Deep.RegionHeld3
import Derived.Deep.RegionWith
import Derived.RangeFuncBox
import Derived.Deep.AppendLies
import Derived.LaidEql
import Derived.Stop.Asserts
import Derived.RowKitTokens
import Derived.Recover
namespace Go.Proofs.YtiellebdliifdaaGreatDoor
open Go.RowKit
theorem results_cell {fn : Func} {p : Tmp} {ty : TypeId} (h : fn.results = #[.cell p ty]) (tmps : Array Value) (P : Program) (w : World) (ad : Addr) (ha : tmps.getD p undef = .pointer (some ad)) (v : Value) (hl : (loadVar ty ad).run P w = .ok v w) :
  (results fn tmps).run P w = .ok v w := by
 have ha' : tmps[p]?.getD undef = .pointer (some ad) := by simpa using ha
 simp only [results, h]
 simp [ha', asAddr, hl]
theorem hide {p : Prop} (h : p) : Hid p := h
theorem unhide {p : Prop} (h : Hid p) : p := h
def Arr (w : World) (b o : Nat) (k : IntKind) (l : List Int) : Prop :=
 ∀ j, j < l.length → w.cell? ⟨b, o + j, none⟩ = some (.int k (l.getD j 0)) ∧ w.frozen? ⟨b, o + j, none⟩ = false
theorem Arr.get {w : World} {b o : Nat} {k : IntKind} {l : List Int} (h : Arr w b o k l) (j : Nat) (hj : j < l.length) : w.cell? ⟨b, o + j, none⟩ = some (.int k (l.getD j 0)) := (h j hj).1
theorem Arr.free {w : World} {b o : Nat} {k : IntKind} {l : List Int} (h : Arr w b o k l) (j : Nat) (hj : j < l.length) : w.frozen? ⟨b, o + j, none⟩ = false := (h j hj).2
theorem Arr.get0 {w : World} {b : Nat} {k : IntKind} {l : List Int} (h : Arr w b 0 k l) (j : Nat) (hj : j < l.length) : w.cell? ⟨b, j, none⟩ = some (.int k (l.getD j 0)) := by simpa using (h j hj).1
theorem Arr.free0 {w : World} {b : Nat} {k : IntKind} {l : List Int} (h : Arr w b 0 k l) (j : Nat) (hj : j < l.length) : w.frozen? ⟨b, j, none⟩ = false := by simpa using (h j hj).2
theorem Arr.set {w : World} {b o : Nat} {k : IntKind} {l : List Int} (h : Arr w b o k l) (i : Nat) (hi : i < l.length) (v : Int) : Arr (w.setCell ⟨b, o + i, none⟩ (.int k v)) b o k (l.set i v) := by
 intro j hj
 rw [List.length_set] at hj
 refine ⟨?_, by rw [World.frozen?_setCell]; exact (h j hj).2⟩
 by_cases e : i = j
 ·subst e
  rw [World.cell?_setCell_same _ _ _ (h i hi).1]
  simp [hi]
 ·rw [World.cell?_setCell_other _ _ _ _ (by simp), (h j hj).1]
  simp [e]
theorem Arr.set0 {w : World} {b : Nat} {k : IntKind} {l : List Int} (h : Arr w b 0 k l) (i : Nat) (hi : i < l.length) (v : Int) : Arr (w.setCell ⟨b, i, none⟩ (.int k v)) b 0 k (l.set i v) := by
 have := h.set i hi v; simpa using this
theorem Arr.other {w : World} {b o : Nat} {k : IntKind} {l : List Int} (h : Arr w b o k l) (a : Addr) (v : Value) (ha : a.block ≠ b ∨ a.off < o ∨ o + l.length ≤ a.off) : Arr (w.setCell a v) b o k l := by
 intro j hj
 refine ⟨?_, by rw [World.frozen?_setCell]; exact (h j hj).2⟩
 rw [World.cell?_setCell_other _ _ _ _ (by intro hh; subst hh; simp at ha; omega), (h j hj).1]
theorem Arr.alloc {w : World} {b o : Nat} {k : IntKind} {l : List Int} (h : Arr w b o k l) (hb : b < w.heap.size) (x : Obj) : Arr (w.alloc x) b o k l := by
 intro j hj
 rw [World.cell?_alloc_past (hn := hb), World.frozen?_alloc_past (hn := hb)]
 exact h j hj
theorem Arr.drew {w : World} {b o : Nat} {k : IntKind} {l : List Int} (h : Arr w b o k l) : Arr w.drew b o k l := h
theorem Arr.drewN {w : World} {b o : Nat} {k : IntKind} {l : List Int} (h : Arr w b o k l) (n : Nat) : Arr (w.drewN n) b o k l := h
theorem Arr.below {w w' : World} {B b o : Nat} {k : IntKind} {l : List Int} (h : Arr w b o k l) (hb : Below B w w') (hB : b < B) : Arr w' b o k l := by
 intro j hj
 rw [hb.cell (p := ⟨b, o + j, none⟩) hB, hb.frozen (p := ⟨b, o + j, none⟩) hB]
 exact h j hj
theorem Arr.range {w : World} {b o : Nat} {k : IntKind} {l : List Int} (h : Arr w b o k l) : w.rangeAt b o (l.map (Value.int k)) := by
 intro j v hv
 rw [List.getElem?_map] at hv
 cases hq : l[j]? with
 | none => simp [hq] at hv
 | some x =>
  obtain ⟨hj, e⟩ := List.getElem?_eq_some_iff.1 hq
  simp [hq] at hv
  rw [(h j hj).1, ← hv]
  simp [hq]
theorem Arr.there {w : World} {b o : Nat} {k : IntKind} {l : List Int} (h : Arr w b o k l) : w.there b o l.length := by
 intro j hj
 exact ⟨by rw [(h j hj).1]; rfl, (h j hj).2⟩
theorem Arr.setCells {w : World} {b o : Nat} {k : IntKind} {l : List Int} (h : Arr w b o k l) (l' : List Int) (hl : l'.length = l.length) : Arr (w.setCells b o (l'.map (Value.int k))) b o k l' := by
 intro j hj
 have hr := World.rangeAt_setCells_same w b o (l'.map (Value.int k)) (by intro i hi; exact h.there i (by simpa [hl] using hi))
 refine ⟨hr j _ (by simp [hj]), ?_⟩
 rw [World.frozen?_setCells]; exact (h j (by omega)).2
theorem below_setCells {B : Nat} {a : World} {b : Nat} (hb : B ≤ b) : ∀ (vs : List Value) (o : Nat) {w : World}, Below B a w → Below B a (w.setCells b o vs)
 | [], _, _, h => h
 | v :: r, o, w, h => by
  rw [World.setCells]
  exact below_setCells hb r (o + 1) (h.setCell (p := ⟨b, o, none⟩) hb v)
theorem arr_new (w : World) (k : IntKind) (l : List Int) (t : TypeId) (c : Array Value) (hc : c = (l.map (Value.int k)).toArray) : Arr (w.alloc (.cells c t)) w.heap.size 0 k l := by
 subst hc
 intro j hj
 rw [World.cell?_alloc_at (hn := rfl), World.frozen?_alloc_at (hn := rfl)]
 simp [hj]
end Go.Proofs.YtiellebdliifdaaGreatDoor
namespace Go.Proofs.YtiellebdliifdaaGreatDoor
open Go.RowKit
end Go.Proofs.YtiellebdliifdaaGreatDoor
namespace Go.Proofs.YtiellebdliifdaaGreatDoor
open Go.RowKit
def Bytes (p : List Int) : Prop := ∀ j : Nat, 0 ≤ p.getD j 0 ∧ p.getD j 0 < 256
def nums (t : ByteArray) : List Int := t.data.toList.map (fun x => (x.toNat : Int))
theorem nums_len (t : ByteArray) : (nums t).length = t.size := by rw [nums, List.length_map]; rfl
theorem nums_bytes (t : ByteArray) : Bytes (nums t) := by
 intro j
 simp only [nums, List.getD_eq_getElem?_getD, List.getElem?_map]
 cases t.data.toList[j]? with
 | none => simp
 | some x => have := x.toNat_lt; simp; omega
theorem nums_strOfNums (l : List Int) (h : Bytes l) : nums (strOfNums l) = l := by
 unfold nums
 rw [strOfNums_data, List.map_map]
 apply List.ext_getElem?
 intro j
 have hj := h j
 rw [List.getD_eq_getElem?_getD] at hj
 rw [List.getElem?_map]
 cases e : l[j]? with
 | none => rfl
 | some x =>
  rw [e] at hj
  simp at hj
  simp [UInt8.toNat_ofNat']
  omega
theorem strOfNums_nums (t : ByteArray) : strOfNums (nums t) = t := by
 have : (strOfNums (nums t)).data.toList = t.data.toList := by
  rw [strOfNums_data, nums, List.map_map]
  conv => rhs; rw [← List.map_id t.data.toList]
  apply List.map_congr_left
  intro x _
  simp
 cases t with
 | mk d =>
  cases d with
  | mk dl =>
   have h2 : (strOfNums (nums ⟨⟨dl⟩⟩)) = ⟨⟨(strOfNums (nums ⟨⟨dl⟩⟩)).data.toList⟩⟩ := rfl
   rw [h2, this]
theorem index_str (t : ByteArray) (i : Nat) (hi : i < t.size) (w : World) : (Instr.index 9 (.string t) (.int .i64 (i : Int))).run Tryz.prog w = .ok (.int .u8 ((nums t).getD i 0)) w := by
 have h1 : (nums t).getD i 0 = ((t[i]'hi).toNat : Int) := by
  have hl : i < t.data.toList.length := by simpa using hi
  simp only [nums, List.getD_eq_getElem?_getD, List.getElem?_map]
  rw [List.getElem?_eq_getElem hl]
  simp
  rfl
 have h2 : t[i]? = some (t[i]'hi) := by simp [hi]
 rw [h1]
 simp only [Instr.index, asIntOf, Sem.run_bind, Sem.run_pure, Result.andThen_ok, run_underlying Tryz.underlying9]
 have h0 : (0 : Int) ≤ (i : Int) := by omega
 simp [h2]
theorem info5 : (Tryz.prog.info? 5).map (fun i => (i.zero, i.size, i.bytes)) = some (some (.int .u8 0), 1, 1) := by kernel_rfl
set_option maxRecDepth 100000 in
theorem run_make_u8 (l c : Nat) (hlc : l ≤ c) (hc : c ≤ 281474976710656) (w : World) : (Instr.makeSlice 101 (.int .i64 (l : Int)) (.int .i64 (c : Int))).run Tryz.prog w = .ok (.slice (some ⟨w.heap.size, 0, none⟩) l c) (w.alloc (.cells ((List.replicate c (0 : Int)).map (Value.int .u8)).toArray 5)) := by
 obtain ⟨i0, hi, hz0, hz1, hz2⟩ := info_parts info5
 have := run_make (P := Tryz.prog) w 101 5 i0 (.int .u8 0) Tryz.underlying101 hi hz0 .i64 .i64 (l : Int) (c : Int) (by omega) (by omega) (by rw [hz2]; omega) (by omega)
 rw [this, hz1]
 simp only [Int.toNat_natCast, Nat.mul_one]
 congr 3
 apply Array.ext
 ·simp [size_madeCells]
 ·intro j h1 h2
  simp [madeCells, Value.cells, Nat.mod_one]
def Bsl (w : World) (base b cap : Nat) (L : List Int) : Prop :=
 base ≤ b ∧ b < w.heap.size ∧ L.length ≤ cap ∧ cap ≤ maxLen ∧ Arr w b 0 .u8 L ∧ w.there b 0 cap
theorem Bsl.alloc {w : World} {base b cap : Nat} {L : List Int} (h : Bsl w base b cap L) (o : Obj) : Bsl (w.alloc o) base b cap L :=
 ⟨h.1, by simp; have := h.2.1; omega, h.2.2.1, h.2.2.2.1, h.2.2.2.2.1.alloc h.2.1 o, World.there_alloc h.2.2.2.2.2 o⟩
theorem Bsl.of_string (w : World) (t : ByteArray) (ht : t.size ≤ 140737488355328) : ∃ cap W, (convert 9 101 (Value.string t)).run Tryz.prog w = .ok (.slice (some ⟨w.heap.size, 0, none⟩) t.size cap) W ∧ Bsl W w.heap.size w.heap.size cap (nums t) ∧ Below w.heap.size w W := by
 have hrun := run_bytes_of_string (P := Tryz.prog) w 9 101 5 t Tryz.underlying9 Tryz.underlying101 Tryz.underlying5
 have hge := grownCap_ge w t.size 0 5
 have hle := grownCap_le_maxLen w t.size 0 5 (by unfold maxLen; omega)
 refine ⟨_, _, hrun, ?_, ((Below.refl _ w).drew).alloc (Nat.le_refl _) _⟩
 generalize grownCap w t.size 0 5 = cap at *
 have hsz : (bytesRow t cap).size = cap := by
  have : t.data.size = t.size := rfl
  simp [bytesRow, this]; omega
 have hcell : ∀ j, (w.drew.alloc (Obj.cells (bytesRow t cap) 5 ((bytesRow t cap).size, (bytesRow t cap).size + 1))).cell? ⟨w.heap.size, j, none⟩ = (bytesRow t cap)[j]? := fun j => World.cell?_alloc_mark w.drew _ 5 _ j
 have hfr : ∀ j, j < cap → (w.drew.alloc (Obj.cells (bytesRow t cap) 5 ((bytesRow t cap).size, (bytesRow t cap).size + 1))).frozen? ⟨w.heap.size, j, none⟩ = false := fun j hj => by
  have := World.frozen?_alloc_mark w.drew (bytesRow t cap) 5 (bytesRow t cap).size ((bytesRow t cap).size + 1) j
  rw [show (w.drew.heap.size) = w.heap.size from rfl] at this
  rw [this, hsz]
  simp
  omega
 refine ⟨Nat.le_refl _, by simp, by rw [nums_len]; exact hge, hle, fun j hj => ?_, fun j hj => ?_⟩
 ·rw [nums_len] at hj
  rw [Nat.zero_add]
  refine ⟨?_, hfr j (by omega)⟩
  have hjd : j < t.data.size := hj
  rw [hcell, bytesRow_at t cap j hjd]
  simp [nums]
  rw [Array.getElem?_eq_getElem hjd]
  rfl
 ·rw [Nat.zero_add]
  refine ⟨?_, hfr j hj⟩
  rw [hcell, Array.getElem?_eq_getElem (by omega)]
  rfl
theorem Bsl.of_owns {w w' : World} {base : Nat} {v : Value} {L : List Int} (hb : base ≤ w.heap.size) (h : w'.ownsRow w.heap.size 5 1 v L.length (L.map (Value.int .u8))) (hne : 0 < L.length) : ∃ b cap, v = .slice (some ⟨b, 0, none⟩) L.length cap ∧ Bsl w' base b cap L := by
 obtain ⟨_, h | ⟨g, cap, cur, rfl, hg, hh, hn, hc, hs, hx⟩⟩ := h
 ·omega
 ·rw [Nat.mul_one] at hs hx
  have hcell : ∀ j, w'.cell? ⟨g, j, none⟩ = cur[j]? := fun j => cell_of_row w' g j cur 5 (0, 0) hh
  have hlt : g < w'.heap.size := by
   rcases Nat.lt_or_ge g w'.heap.size with h | h
   ·exact h
   ·rw [Array.getElem?_eq_none h] at hh; cases hh
  have hfr : ∀ j, w'.frozen? ⟨g, j, none⟩ = false := fun j => by simp [World.frozen?, hh]
  refine ⟨g, cap, rfl, by omega, hlt, hn, hc, fun j hj => ?_, fun j hj => ?_⟩
  ·rw [Nat.zero_add, hcell]
   refine ⟨?_, hfr j⟩
   have e : cur.toList[j]? = (L.map (Value.int .u8))[j]? := by rw [← hx, List.getElem?_take, if_pos hj]
   rw [← Array.getElem?_toList, e]
   simp [hj]
  ·rw [Nat.zero_add, hcell, Array.getElem?_eq_getElem (by omega)]
   exact ⟨rfl, hfr j⟩
theorem nums_app (a b : ByteArray) : nums (a ++ b) = nums a ++ nums b := by simp [nums, ByteArray.data_append]
theorem str_ne {s t : ByteArray} (h : ¬ s = t) : (s.toList == t.toList) = false := by
 rw [ByteArray.toList_eq, ByteArray.toList_eq]
 simp
 exact fun h2 => h (Go.WideShapes.bytes_inj (by rw [h2]))
def I64 (x : Int) : Prop := -9223372036854775808 ≤ x ∧ x ≤ 9223372036854775807
theorem wrap64_eq (n : Int) (h1 : -9223372036854775808 ≤ n) (h2 : n ≤ 9223372036854775807) : wrap64 n = n := by unfold wrap64; omega
theorem wrapI_eq (n : Int) (h1 : -9223372036854775808 ≤ n) (h2 : n ≤ 9223372036854775807) : IntKind.i64.wrap n = n := by rw [IntKind.wrap_i64]; omega
end Go.Proofs.YtiellebdliifdaaGreatDoor
namespace Go.Proofs.YtiellebdliifdaaGreatDoor
open Go.RowKit
def Blk (w : World) (b : Nat) (cur : Array Value) (T : TypeId) : Prop := w.heap[b]? = some (.cells cur T (0, 0))
theorem Blk.lt {w : World} {b : Nat} {cur : Array Value} {T : TypeId} (h : Blk w b cur T) : b < w.heap.size := (Array.getElem?_eq_some_iff.1 h).1
theorem Blk.cell {w : World} {b : Nat} {cur : Array Value} {T : TypeId} (h : Blk w b cur T) (j : Nat) : w.cell? ⟨b, j, none⟩ = cur[j]? := by simp [World.cell?, show w.heap[b]? = _ from h]
theorem Blk.frozen {w : World} {b : Nat} {cur : Array Value} {T : TypeId} (h : Blk w b cur T) (j : Nat) : w.frozen? ⟨b, j, none⟩ = false := by simp [World.frozen?, show w.heap[b]? = _ from h]
theorem Blk.new (w : World) (T : TypeId) (cur : Array Value) : Blk (w.alloc (.cells cur T)) w.heap.size cur T := World.alloc_heap_new w _
theorem Blk.kept {w w' : World} {b : Nat} {cur : Array Value} {T : TypeId} (h : Blk w b cur T) (e : w'.heap[b]? = w.heap[b]?) : Blk w' b cur T := e.trans h
theorem Blk.alloc {w : World} {b : Nat} {cur : Array Value} {T : TypeId} (h : Blk w b cur T) (o : Obj) : Blk (w.alloc o) b cur T :=
 h.kept ((World.grownBy_alloc w o none).block b h.lt (by simp))
theorem Blk.set {w : World} {b : Nat} {cur : Array Value} {T : TypeId} (h : Blk w b cur T) (o : Nat) (v : Value) : Blk (w.setCell ⟨b, o, none⟩ v) b (cur.setIfInBounds o v) T := by
 obtain ⟨hlt, hk⟩ := Array.getElem?_eq_some_iff.1 h
 show (w.heap.modify b _)[b]? = _
 rw [Array.getElem?_eq_getElem (by rw [Array.size_modify]; exact hlt), Array.getElem_modify_self, hk]
 rfl
theorem Blk.other {w : World} {b : Nat} {cur : Array Value} {T : TypeId} (h : Blk w b cur T) (a : Addr) (v : Value) (ha : a.block ≠ b) : Blk (w.setCell a v) b cur T :=
 h.kept (Below.heap_setCell _ _ _ _ (fun e => ha e.symm))
theorem Blk.below {w w' : World} {B b : Nat} {cur : Array Value} {T : TypeId} (h : Blk w b cur T) (hb : Below B w w') (hB : b < B) : Blk w' b cur T := h.kept (hb.block b hB)
theorem Blk.not_row {w : World} {b : Nat} {cur : Array Value} {T e : TypeId} (h : Blk w b cur T) (hte : T ≠ e) {base size k : Nat} {v : Value} {xs : List Value} (hr : w.ownsRow base e size v k xs) : v.ownBlock ≠ some b := by
 rcases hr.2 with ⟨rfl, _⟩ | ⟨g, cap, cur', rfl, _, hgb, _⟩
 ·simp [Value.ownBlock]
 ·intro e'
  obtain rfl : g = b := by simpa [Value.ownBlock] using e'
  have := (show w.heap[g]? = _ from h).symm.trans hgb
  simp at this
  exact hte this.2
def Only (P : Nat → Prop) (w w' : World) : Prop := Below 0 w w' ∧ ∀ k, k < w.heap.size → ¬ P k → w'.heap[k]? = w.heap[k]?
theorem Only.refl (P : Nat → Prop) (w : World) : Only P w w := ⟨Below.refl _ _, fun _ _ _ => rfl⟩
theorem Only.trans {P Q : Nat → Prop} {w w1 w2 : World} (h : Only P w w1) (k : Only Q w1 w2) (hq : ∀ k, k < w.heap.size → Q k → P k) : Only P w w2 :=
 ⟨h.1.trans k.1, fun j hj hp => (k.2 j (Nat.lt_of_lt_of_le hj h.1.size) (fun q => hp (hq j hj q))).trans (h.2 j hj hp)⟩
theorem Only.mono {P Q : Nat → Prop} {w w' : World} (h : Only P w w') (hq : ∀ k, k < w.heap.size → P k → Q k) : Only Q w w' := ⟨h.1, fun j hj hp => h.2 j hj (fun q => hp (hq j hj q))⟩
theorem Only.of_below {P : Nat → Prop} {w w' : World} (h : Below w.heap.size w w') : Only P w w' := ⟨h.mono (Nat.zero_le _), fun k hk _ => h.block k hk⟩
theorem Only.below {P : Nat → Prop} {w w' : World} {B : Nat} (h : Only P w w') (hB : B ≤ w.heap.size) (hp : ∀ k, k < B → ¬ P k) : Below B w w' :=
 ⟨h.1.os, h.1.tape, h.1.output, h.1.size, fun k hk => h.2 k (by omega) (hp k hk)⟩
theorem Only.setCell {P : Nat → Prop} {w w' : World} (h : Only P w w') (a : Addr) (v : Value) (ha : a.block < w.heap.size → P a.block) : Only P w (w'.setCell a v) :=
 ⟨h.1.setCell (Nat.zero_le _) v, fun k hk hp => (Below.heap_setCell _ _ _ _ (fun e => by subst e; exact hp (ha hk))).trans (h.2 k hk hp)⟩
theorem Only.alloc {P : Nat → Prop} {w w' : World} (h : Only P w w') (o : Obj) : Only P w (w'.alloc o) :=
 h.trans (Q := fun _ => False) ⟨(Below.refl 0 w').alloc (Nat.zero_le _) o, fun k hk _ => (World.grownBy_alloc w' o none).block k hk (by simp)⟩ (fun _ _ q => q.elim)
theorem Only.drew {P : Nat → Prop} {w w' : World} (h : Only P w w') : Only P w w'.drew := ⟨h.1.drew, h.2⟩
theorem Only.drewN {P : Nat → Prop} {w w' : World} (h : Only P w w') (n : Nat) : Only P w (w'.drewN n) := ⟨below_drewN h.1 n, h.2⟩
theorem Only.grown {P : Nat → Prop} {w w1 w2 : World} {row : Option Nat} (h : Only P w w1) (hg : w1.grownBy w2 row) (hr : ∀ k, k < w.heap.size → row = some k → P k) : Only P w w2 :=
 h.trans (Q := fun k => row = some k) ⟨⟨hg.os, hg.tape, hg.output, hg.size, fun k hk => absurd hk (Nat.not_lt_zero k)⟩, fun k hk hn => hg.block k hk (fun e => hn e.symm)⟩ hr
theorem Only.size {P : Nat → Prop} {w w' : World} (h : Only P w w') : w.heap.size ≤ w'.heap.size := h.1.size
theorem Blk.only {w w' : World} {b : Nat} {cur : Array Value} {T : TypeId} {P : Nat → Prop} (h : Blk w b cur T) (ho : Only P w w') (hp : ¬ P b) : Blk w' b cur T := h.kept (ho.2 b h.lt hp)
theorem Arr.only {w w' : World} {c o : Nat} {k : IntKind} {l : List Int} {P : Nat → Prop} (h : Arr w c o k l) (ho : Only P w w') (hp : ¬ P c) (hc : c < w.heap.size) : Arr w' c o k l := by
 intro j hj
 have e := ho.2 c hc hp
 rw [World.cell?_of_block (a := ⟨c, o + j, none⟩) e, World.frozen?_of_block (a := ⟨c, o + j, none⟩) e]
 exact h j hj
theorem owns_only {w w' : World} {base : Nat} {e : TypeId} {size n : Nat} {v : Value} {xs : List Value} {P : Nat → Prop} (h : w.ownsRow base e size v n xs) (ho : Only P w w') (hp : ∀ k, v.ownBlock = some k → ¬ P k) : w'.ownsRow base e size v n xs := by
 refine ⟨h.1, ?_⟩
 rcases h.2 with hn | ⟨g, cap, cur, rfl, hb, hg, rest⟩
 ·exact .inl hn
 ·exact .inr ⟨g, cap, cur, rfl, hb, (ho.2 g (Array.getElem?_eq_some_iff.1 hg).1 (hp g rfl)).trans hg, rest⟩
theorem run_append_none (w : World) (p q : Option Addr) (n c c' : Nat) (hn : n ≤ c) (ty : TypeId) :
  (Builtin.append_ #[101, 101] ty #[.slice p n c, .slice q 0 c']).run Tryz.prog w = .ok (.slice p n c) w := by
 obtain ⟨i0, hi, hz0, hz1, hz2⟩ := info_parts info5
 have hl : ∀ a, (loadCells a 0).run Tryz.prog w = .ok #[] w := fun a => rfl
 cases p <;> cases q <;> simp [hl, Builtin.append_, run_underlying Tryz.underlying101, sizeOf, typeInfo, hi, hz1, Builtin.lenOf, hn, Builtin.firstCells, storeCells, Result.andThen]
end Go.Proofs.YtiellebdliifdaaGreatDoor
namespace Go.Proofs.YtiellebdliifdaaGreatDoor
open Go.RowKit Go.Extern.Stop Go.Stop Go.Extern
/-! errors.As at the target *giveUp, of an error that is a giveUp: after the kit's worked toy 'toyas'. -/
theorem ea_valueOfP (t : Addr) (w : World) : (ReflectliteValue.unpack (.iface 244 (.pointer (some t)))).run Tryz.prog w
  = .ok (.agg #[.pointer (some ⟨2, 244, none⟩), .pointer (some ⟨w.heap.size, 0, none⟩), .int .u64 150]) (w.alloc (.cells #[.pointer (some t)] 244)) := by kernel_rfl
theorem ea_typeP (a : Addr) (w : World) : (ReflectliteValue.methodAny (ReflectliteValue.valueError "reflectlite.Value.Type" 0) (fun t _ _ _ => ReflectliteType.toType t) #[.agg #[.pointer (some ⟨2, 244, none⟩), .pointer (some a), .int .u64 150]]).run Tryz.prog w
  = .ok (.iface 266 (.agg #[.pointer (some ⟨2, 244, none⟩)])) w := by kernel_rfl
theorem ea_methodKind (h : Value) (w : World) : (Go.method 407 266 (.agg #[h]) "Kind").run Tryz.prog w = .ok (232, h) w := by kernel_rfl
theorem ea_kindP (w : World) : ((ReflectliteType.abiMethod fun t => (fun a : Nat => Value.int IntKind.u8 (a : Int)) <$> Rtype.kind t) #[.pointer (some ⟨2, 244, none⟩)]).run Tryz.prog w = .ok (.int .u8 22) w := by kernel_rfl
theorem ea_kindS (w : World) : ((ReflectliteType.abiMethod fun t => (fun a : Nat => Value.int IntKind.u8 (a : Int)) <$> Rtype.kind t) #[.pointer (some ⟨2, 225, none⟩)]).run Tryz.prog w = .ok (.int .u8 25) w := by kernel_rfl
theorem rlm (z : Sem Value) (f : TypeId → Addr → Nat → Nat → Sem Value) (v : Value) :
  ReflectliteValue.method z f #[v] = (do match ← ReflectliteValue.parts v with | none => z | some (t, a, fl) => f t a fl (fl % 32)) := rfl
theorem ea_partsP (a : Addr) (w : World) : (ReflectliteValue.parts (.agg #[.pointer (some ⟨2, 244, none⟩), .pointer (some a), .int .u64 150])).run Tryz.prog w = .ok (some (244, a, 150)) w := by kernel_rfl
theorem ea_isNilP (a p : Addr) (W : World) (ha : W.cell? a = some (.pointer (some p))) :
  (ReflectliteValue.method (ReflectliteValue.valueError "reflectlite.Value.IsNil" 0) ReflectliteValue.isNil #[.agg #[.pointer (some ⟨2, 244, none⟩), .pointer (some a), .int .u64 150]]).run Tryz.prog W = .ok (.bool false) W := by
 rw [rlm]
 simp only [Sem.run_bind, ea_partsP, Result.andThen]
 simp [ReflectliteValue.isNil, loadVar, isAgg, underlying, Tryz.underlying244, ha, Result.andThen]
theorem ea_methodElem (h : Value) (w : World) : (Go.method 407 266 (.agg #[h]) "Elem").run Tryz.prog w = .ok (247, .agg #[h]) w := by kernel_rfl
theorem ea_methodImplements (h : Value) (w : World) : (Go.method 407 266 (.agg #[h]) "Implements").run Tryz.prog w = .ok (248, .agg #[h]) w := by kernel_rfl
theorem ea_methodAssignableTo (h : Value) (w : World) : (Go.method 407 266 (.agg #[h]) "AssignableTo").run Tryz.prog w = .ok (245, .agg #[h]) w := by kernel_rfl
theorem ea_elemP (w : World) : (ReflectliteType.method ReflectliteType.elem #[.agg #[.pointer (some ⟨2, 244, none⟩)]]).run Tryz.prog w = .ok (.iface 266 (.agg #[.pointer (some ⟨2, 225, none⟩)])) w := by kernel_rfl
theorem ea_implementsS (w : World) : (ReflectliteType.relation "Implements" ReflectliteType.implements_ #[.agg #[.pointer (some ⟨2, 225, none⟩)], .iface 266 (.agg #[.pointer (some ⟨2, 165, none⟩)])]).run Tryz.prog w = .ok (.bool true) w := by kernel_rfl
theorem ea_typeOfS (v : Value) (w : World) : (ReflectliteType.typeOf #[.iface 225 v]).run Tryz.prog w = .ok (.iface 266 (.agg #[.pointer (some ⟨2, 225, none⟩)])) w := by kernel_rfl
theorem ea_assignableS (w : World) : (ReflectliteType.relation "AssignableTo" ReflectliteType.assignableTo #[.agg #[.pointer (some ⟨2, 225, none⟩)], .iface 266 (.agg #[.pointer (some ⟨2, 225, none⟩)])]).run Tryz.prog w = .ok (.bool true) w := by kernel_rfl
theorem ea_valueOfS (x : Int) (w : World) : (ReflectliteValue.unpack (.iface 225 (.agg #[.int .i64 x]))).run Tryz.prog w
  = .ok (.agg #[.pointer (some ⟨2, 225, none⟩), .pointer (some ⟨w.heap.size, 0, none⟩), .int .u64 153]) (w.alloc (.cells #[.int .i64 x] 225)) := by kernel_rfl
theorem ea_elemOfP (w : World) : (Rtype.elem? 244).run Tryz.prog w = .ok (some 225) w := by kernel_rfl
theorem ea_mkS (p : Addr) (w : World) : (ReflectliteValue.mk 225 p ReflectliteValue.flagAddr).run Tryz.prog w = .ok (.agg #[.pointer (some ⟨2, 225, none⟩), .pointer (some p), .int .u64 409]) w := by kernel_rfl
theorem ea_elemVP (a p : Addr) (W : World) (ha : W.cell? a = some (.pointer (some p))) :
  (ReflectliteValue.method (ReflectliteValue.valueError "reflectlite.Value.Elem" 0) ReflectliteValue.elem #[.agg #[.pointer (some ⟨2, 244, none⟩), .pointer (some a), .int .u64 150]]).run Tryz.prog W
   = .ok (.agg #[.pointer (some ⟨2, 225, none⟩), .pointer (some p), .int .u64 409]) W := by
 rw [rlm]
 simp only [Sem.run_bind, ea_partsP, Result.andThen]
 simp [ReflectliteValue.elem, loadVar, isAgg, underlying, Tryz.underlying244, ha, Result.andThen, ea_elemOfP, ea_mkS]
theorem rls (v x : Value) : ReflectliteValue.set #[v, x] = (do
  let (some (dst, a, fl), some (src, b, _)) := (← ReflectliteValue.parts v, ← ReflectliteValue.parts x)
   | unsupported (.noEntry "extern/(internal/reflectlite.Value).Set.zeroValue")
  if fl / ReflectliteValue.flagAddr % 2 == 0 then unsupported (.noEntry "extern/(internal/reflectlite.Value).Set.unaddressable")
  let val ← loadVar src b
  if ← Rtype.directlyAssignable dst src then storeVar dst a val
  else if ← Rtype.implements dst src then
   if (← Rtype.kind src) == 20 then
    match val with
    | .nilIface => unsupported (.noEntry "extern/reflectlite: a nil value of one interface type handed on as a value of another")
    | _ => storeVar dst a val
   else storeVar dst a (.iface src val)
  else panicString ("reflectlite.Set: value of type " ++ (← Rtype.spelt src) ++ " is not assignable to type " ++ (← Rtype.spelt dst))
  pure (.tuple #[])) := rfl
theorem ea_partsSa (a : Addr) (w : World) : (ReflectliteValue.parts (.agg #[.pointer (some ⟨2, 225, none⟩), .pointer (some a), .int .u64 409])).run Tryz.prog w = .ok (some (225, a, 409)) w := by kernel_rfl
theorem ea_partsS (a : Addr) (w : World) : (ReflectliteValue.parts (.agg #[.pointer (some ⟨2, 225, none⟩), .pointer (some a), .int .u64 153])).run Tryz.prog w = .ok (some (225, a, 153)) w := by kernel_rfl
theorem ea_directS (w : World) : (Rtype.directlyAssignable 225 225).run Tryz.prog w = .ok true w := by kernel_rfl
theorem ea_setS (ta b : Addr) (x : Int) (old : Value) (W : World) (hb : W.cell? b = some (.int .i64 x)) (ht : W.cell? ta = some old) (hf : W.frozen? ta = false) :
  (ReflectliteValue.set #[.agg #[.pointer (some ⟨2, 225, none⟩), .pointer (some ta), .int .u64 409], .agg #[.pointer (some ⟨2, 225, none⟩), .pointer (some b), .int .u64 153]]).run Tryz.prog W
   = .ok (.tuple #[]) (W.setCell ta (.int .i64 x)) := by
 rw [rls]
 simp only [Sem.run_bind, ea_partsSa, ea_partsS, Result.andThen]
 have hlv : (loadVar 225 b).run Tryz.prog W = .ok (.agg #[.int .i64 x]) W := by
  simp [loadVar, isAgg, underlying, Tryz.underlying225, Result.andThen, loadCells, loadCellsFrom, Addr.add, hb]
 simp [ReflectliteValue.flagAddr, hlv, Result.andThen, ea_directS, storeVar, Value.cells, storeCells, Addr.add]
 rw [run_store Tryz.prog W ta _ _ (by rfl)]
 simp [ht, hf]
end Go.Proofs.YtiellebdliifdaaGreatDoor
namespace Go.Proofs.YtiellebdliifdaaGreatDoor
open Go.RowKit Go.Extern.Stop Go.Stop Go.Extern
def ETy (w : World) : Prop := w.cell? ⟨1, 0, none⟩ = some (.iface 266 (.agg #[.pointer (some ⟨2, 165, none⟩)]))
theorem ETy.lt {w : World} (h : ETy w) : 1 < w.heap.size := World.block_lt_of_cell? w _ h
theorem ETy.below {w w' : World} {B : Nat} (h : ETy w) (hb : Below B w w') (hB : 1 < B) : ETy w' := (hb.cell (p := ⟨1, 0, none⟩) hB).trans h
theorem ETy.only {w w' : World} {P : Nat → Prop} (h : ETy w) (ho : Only P w w') (hp : ¬ P 1) : ETy w' := (World.cell?_of_block (a := ⟨1, 0, none⟩) (ho.2 1 h.lt hp)).trans h
set_option maxRecDepth 100000 in
set_option maxHeartbeats 4000000 in
theorem as_hit (x : Int) (t : Addr) (old : Value) (w : World) (hg : ETy w) (ht0 : w.cell? t = some old) (hf0 : w.frozen? t = false) :
  Calls Tryz.prog 203 #[.iface 225 (.agg #[.int .i64 x]), .iface 244 (.pointer (some t))] w fun ev w' => ev = .returned (.bool true) ∧ w' = ((((w.alloc (.cells #[.pointer (some t)] 244)).alloc (.cells #[.pointer (some ⟨2, 244, none⟩), .pointer (some ⟨w.heap.size, 0, none⟩), .int .u64 150] 253)).alloc (.cells #[.pointer (some ⟨2, 244, none⟩), .pointer (some ⟨w.heap.size, 0, none⟩), .int .u64 150] 253)).alloc (.cells #[.int .i64 x] 225)).setCell t (.int .i64 x) := by
 have hVO := @run_callFunc_extern Tryz.prog 210 _ (fun args => ReflectliteValue.unpack (args.getD 0 (.tuple #[]))) Tryz.func210 (by kernel_rfl) (by kernel_rfl) (by kernel_rfl) (by kernel_rfl)
 have hTY := @run_callFunc_extern Tryz.prog 211 _ (ReflectliteValue.methodAny (ReflectliteValue.valueError "reflectlite.Value.Type" 0) (fun t _ _ _ => ReflectliteType.toType t)) Tryz.func211 (by kernel_rfl) (by kernel_rfl) (by kernel_rfl) (by kernel_rfl)
 have hNI := @run_callFunc_extern Tryz.prog 212 _ (ReflectliteValue.method (ReflectliteValue.valueError "reflectlite.Value.IsNil" 0) ReflectliteValue.isNil) Tryz.func212 (by kernel_rfl) (by kernel_rfl) (by kernel_rfl) (by kernel_rfl)
 have hKI := @run_callFunc_extern Tryz.prog 232 _ (ReflectliteType.abiMethod fun t => do pure (.int .u8 (← Rtype.kind t))) Tryz.func232 (by kernel_rfl) (by kernel_rfl) (by kernel_rfl) (by kernel_rfl)
 have hEL := @run_callFunc_extern Tryz.prog 247 _ (ReflectliteType.method ReflectliteType.elem) Tryz.func247 (by kernel_rfl) (by kernel_rfl) (by kernel_rfl) (by kernel_rfl)
 have hIM := @run_callFunc_extern Tryz.prog 248 _ (ReflectliteType.relation "Implements" ReflectliteType.implements_) Tryz.func248 (by kernel_rfl) (by kernel_rfl) (by kernel_rfl) (by kernel_rfl)
 have hTO := @run_callFunc_extern Tryz.prog 215 _ ReflectliteType.typeOf Tryz.func215 (by kernel_rfl) (by kernel_rfl) (by kernel_rfl) (by kernel_rfl)
 have hAT := @run_callFunc_extern Tryz.prog 245 _ (ReflectliteType.relation "AssignableTo" ReflectliteType.assignableTo) Tryz.func245 (by kernel_rfl) (by kernel_rfl) (by kernel_rfl) (by kernel_rfl)
 have hVE := @run_callFunc_extern Tryz.prog 216 _ (ReflectliteValue.method (ReflectliteValue.valueError "reflectlite.Value.Elem" 0) ReflectliteValue.elem) Tryz.func216 (by kernel_rfl) (by kernel_rfl) (by kernel_rfl) (by kernel_rfl)
 have hSE := @run_callFunc_extern Tryz.prog 217 _ ReflectliteValue.set Tryz.func217 (by kernel_rfl) (by kernel_rfl) (by kernel_rfl) (by kernel_rfl)
 have tO := ea_typeOfS
 have mA := ea_methodAssignableTo
 have a25 := ea_assignableS
 have v25 := ea_valueOfS
 have f6 := ea_valueOfP
 have f7 := ea_typeP
 have mK := ea_methodKind
 have mE := ea_methodElem
 have mI := ea_methodImplements
 have k27 := ea_kindP
 have k25 := ea_kindS
 have e27 := ea_elemP
 have i25 := ea_implementsS
 have n8 := ea_isNilP ⟨w.heap.size, 0, none⟩ t ((w.alloc (.cells #[.pointer (some t)] 244)).alloc (.cells #[.pointer (some ⟨2, 244, none⟩), .pointer (some ⟨w.heap.size, 0, none⟩), .int .u64 150] 253)) (by simp)
 have hlt : 1 < w.heap.size := hg.lt
 have hg2 : ((w.alloc (.cells #[.pointer (some t)] 244)).alloc (.cells #[.pointer (some ⟨2, 244, none⟩), .pointer (some ⟨w.heap.size, 0, none⟩), .int .u64 150] 253)).cell? ⟨1, 0, none⟩ = some (.iface 266 (.agg #[.pointer (some ⟨2, 165, none⟩)])) := by
  rw [World.cell?_alloc_lt _ _ ⟨1, 0, none⟩ (by simp <;> omega), World.cell?_alloc_lt _ _ ⟨1, 0, none⟩ hlt]; exact hg
 have htl : t.block < w.heap.size := World.block_lt_of_cell? w _ ht0
 have el := ea_elemVP ⟨w.heap.size, 0, none⟩ t (((w.alloc (.cells #[.pointer (some t)] 244)).alloc (.cells #[.pointer (some ⟨2, 244, none⟩), .pointer (some ⟨w.heap.size, 0, none⟩), .int .u64 150] 253)).alloc (.cells #[.pointer (some ⟨2, 244, none⟩), .pointer (some ⟨w.heap.size, 0, none⟩), .int .u64 150] 253)) (by rw [World.cell?_alloc_lt _ _ ⟨w.heap.size, 0, none⟩ (by simp; omega)]; simp)
 have st := ea_setS t ⟨w.heap.size + 1 + 1 + 1, 0, none⟩ x old ((((w.alloc (.cells #[.pointer (some t)] 244)).alloc (.cells #[.pointer (some ⟨2, 244, none⟩), .pointer (some ⟨w.heap.size, 0, none⟩), .int .u64 150] 253)).alloc (.cells #[.pointer (some ⟨2, 244, none⟩), .pointer (some ⟨w.heap.size, 0, none⟩), .int .u64 150] 253)).alloc (.cells #[.int .i64 x] 225))
  (by rw [World.cell?_alloc_at _ _ _ _ (by simp)]; rfl)
  (by rw [World.cell?_alloc_lt _ _ t (by simp; omega), World.cell?_alloc_lt _ _ t (by simp; omega), World.cell?_alloc_lt _ _ t (by simp; omega), World.cell?_alloc_lt _ _ t htl]; exact ht0)
  (by rw [World.frozen?_alloc_old _ _ t (by simp; omega), World.frozen?_alloc_old _ _ t (by simp; omega), World.frozen?_alloc_old _ _ t (by simp; omega), World.frozen?_alloc_old _ _ t (Nat.ne_of_lt htl)]; exact hf0)
 clear hg ht0 hf0
 go_enter Tryz.func203, Tryz.ntmps203
 go_wp2
 refine wp_loop_rounds 1 ?_
 rw [rounds_succ]
 go_wp2
 go_ret
 exact ⟨rfl, rfl⟩
end Go.Proofs.YtiellebdliifdaaGreatDoor
namespace Go.Proofs.YtiellebdliifdaaGreatDoor
open Go.RowKit
section
variable {P : Program} {ops : Array Oper} {Q : Exit → Act → List Frame → World → Prop} {md : Region.Mode}
def wpOpS (P : Program) (ops : Array Oper) (Q : Exit → Act → List Frame → World → Prop) (i : Nat) (K : Act → List Frame → World → Prop) (a : Act) (cs : List Frame) (w : World) : Prop :=
 match ops[i]? with
 | none => K a cs w
 | some o =>
  if Region.wanted o (yielded ops a.tmps) then
   match (execOp a.eval o).run P w with
   | .ok .recover w' =>
    match recoverD cs with
    | some (v, cs') => K (a.put o.dst v) cs' w'
    | none => K (a.put o.dst .nilIface) cs w'
   | r => o.upon P a (fun a' w' => K a' cs w') (fun e a' w' => Q e a' cs w') r
  else K (a.put o.dst undef) cs w
theorem wpOpsS_cons (i : Nat) (rest : List Nat) (a : Act) (cs : List Frame) (w : World) : wpOpsS P ops Q (i :: rest) a cs w = wpOpS P ops Q i (wpOpsS P ops Q rest) a cs w := rfl
theorem upon_mono {o : Oper} {a : Act} {K K' : Act → World → Prop} {R : Exit → Act → World → Prop} (h : ∀ a w, K a w → K' a w) (r : Result Next) (hh : o.upon P a K R r) : o.upon P a K' R r := by
 cases r with
 | ok n w' =>
  cases n <;> simp only [Oper.upon] at hh ⊢ <;>
   first
    | exact h _ _ hh
    | exact Calls.mono hh (fun e w'' he => by cases e <;> first | exact h _ _ he | exact he)
    | exact Rows.mono hh (fun _ _ he => h _ _ he)
 | halt x w' => cases x <;> simp only [Oper.upon] at hh ⊢ <;> exact hh
theorem wpOpS_mono {i : Nat} {a : Act} {cs : List Frame} {w : World} {K K' : Act → List Frame → World → Prop} (h : ∀ a cs w, K a cs w → K' a cs w) (hh : wpOpS P ops Q i K a cs w) : wpOpS P ops Q i K' a cs w := by
 unfold wpOpS at *
 cases ho : ops[i]? with
 | none => simp only [ho] at hh ⊢; exact h _ _ _ hh
 | some o =>
  simp only [ho] at hh ⊢
  by_cases hw : Region.wanted o (yielded ops a.tmps) = true
  ·simp only [hw, if_true] at hh ⊢
   split at hh
   ·split at hh
    ·exact h _ _ _ hh
    ·exact h _ _ _ hh
   ·exact upon_mono (fun a w => h a cs w) _ hh
  ·simp only [hw] at hh ⊢
   exact h _ _ _ hh
def wpAnyS (P : Program) (md : Region.Mode) (ops : Array Oper) (Q : Exit → Act → List Frame → World → Prop) : Nat → Array Bool → Act → List Frame → World → Prop
 | 0, listed, a, cs, w => Region.ready md ops listed = [] ∧ Q .normal a cs w
 | fuel + 1, listed, a, cs, w =>
  (Region.ready md ops listed = [] → Q .normal a cs w) ∧
  ∀ i ∈ Region.ready md ops listed, wpOpS P ops Q i (wpAnyS P md ops Q fuel (listed.setIfInBounds i true)) a cs w
theorem wpAnyS_sound : ∀ (fuel t : Nat) (listed : Array Bool) (a : Act) (cs : List Frame) (w : World), wpAnyS P md ops Q fuel listed a cs w →
  wpOpsS P ops Q (Region.linearise.go md ops fuel t listed []) a cs w := by
 intro fuel
 induction fuel with
 | zero => intro t listed a cs w h; simpa [Region.linearise.go, wpOpsS] using h.2
 | succ fuel ih =>
  intro t listed a cs w h
  obtain ⟨h₀, h₁⟩ := h
  simp only [Region.linearise.go]
  change wpOpsS P ops Q (match (Region.ready md ops listed)[t % (Region.ready md ops listed).length]? with
   | some i => Region.linearise.go md ops fuel (t / (Region.ready md ops listed).length) (listed.setIfInBounds i true) [i]
   | none => [].reverse) a cs w
  cases hi : (Region.ready md ops listed)[t % (Region.ready md ops listed).length]? with
  | none =>
   have hnil : Region.ready md ops listed = [] := by
    cases hr : Region.ready md ops listed with
    | nil => rfl
    | cons x xs =>
     rw [hr] at hi
     have hlt : t % (x :: xs).length < (x :: xs).length := Nat.mod_lt _ (by simp)
     simp at hi
     simp at hlt
     omega
   simpa [wpOpsS] using h₀ hnil
  | some i =>
   simp only []
   rw [linearise_go_acc, List.reverse_singleton, List.singleton_append, wpOpsS_cons]
   exact wpOpS_mono (fun a cs w => ih _ _ a cs w) (h₁ i (List.mem_of_getElem? hi))
theorem wpS_region_any {id : Nat} {a : Act} {cs : List Frame} {w : World} (hm : P.follows .mixedOrders = true)
  (h : wpAnyS P .any ops Q ops.size (Array.replicate ops.size false) a cs { w with drawn := w.drawn + 1 }) : (Code.region id ops true).wpS P Q a cs w :=
 fun b k hb hr => by
  obtain ⟨e, a', cs', w', q, r⟩ := wp_opsS (Region.schedule (P.follows .mixedOrders) ops (w.tape w.drawn (.order b.fn id))) a cs { w with drawn := w.drawn + 1 } (by
   simp only [Region.schedule, hm, Bool.true_or, if_true]
   exact wpAnyS_sound ops.size _ _ a cs _ h) b k hb hr
  exact ⟨e, a', cs', w', q, .of_steps (.one step_region_draw) r⟩
end
end Go.Proofs.YtiellebdliifdaaGreatDoor
namespace Go.Proofs.YtiellebdliifdaaGreatDoor
open Go.RowKit Go.Extern.Stop Go.Stop Go.Extern
def Rdr (w : World) (b : Nat) (r : ByteArray) (t e : Int) : Prop := Blk w b #[.string r, .int .i64 t, .int .i64 e] 222
theorem as_b (x : Int) (t : Addr) (old : Value) (w : World) (hg : ETy w) (ht0 : w.cell? t = some old) (hf0 : w.frozen? t = false) :
  Calls Tryz.prog 203 #[.iface 225 (.agg #[.int .i64 x]), .iface 244 (.pointer (some t))] w fun ev w' => ev = .returned (.bool true) ∧ w'.cell? t = some (.int .i64 x) ∧ Only (fun k => k = t.block) w w' := by
 have htl : t.block < w.heap.size := World.block_lt_of_cell? w _ ht0
 refine (as_hit x t old w hg ht0 hf0).mono ?_
 rintro ev w' ⟨rfl, rfl⟩
 refine ⟨rfl, ?_, (((((Only.refl _ w).alloc _).alloc _).alloc _).alloc _).setCell _ _ (fun _ => rfl)⟩
 exact World.cell?_setCell_same _ _ _ (u := old) (by
  rw [World.cell?_alloc_lt _ _ t (by simp; omega), World.cell?_alloc_lt _ _ t (by simp; omega), World.cell?_alloc_lt _ _ t (by simp; omega), World.cell?_alloc_lt _ _ t htl]
  exact ht0)
theorem ea_isError (v : Value) (w : World) : (Instr.typeAssert (.iface 225 v) 20 165 true).run Tryz.prog w = .ok (.tuple #[.iface 225 v, .bool true]) w := run_typeAssert_hasB Tryz.underlying165 (by kernel_rfl) v 20 w
set_option maxRecDepth 100000 in
set_option maxHeartbeats 400000 in
theorem settle_nil (b : Nat) (t : Int) (w : World) :
  Calls Tryz.prog 181 #[.pointer (some ⟨b, 0, none⟩), .int .i64 t, .nilIface] w fun ev w' => ev = .returned (.tuple #[]) ∧ w' = w := by
 go_enter Tryz.func181, Tryz.ntmps181
 go_wp2
 (try simp only [Exit.inBlock, Exit.then])
 exact bodyPost_ret (results_none rfl _ _ _) rfl ⟨rfl, rfl⟩
set_option maxRecDepth 100000 in
set_option maxHeartbeats 2000000 in
theorem settle_hit (b : Nat) (r : ByteArray) (t0 t e x : Int) (w : World) (hg : ETy w) (h : Rdr w b r t0 e) :
  Calls Tryz.prog 181 #[.pointer (some ⟨b, 0, none⟩), .int .i64 t, .iface 225 (.agg #[.int .i64 x])] w fun ev w' => ev = .returned (.tuple #[]) ∧ Rdr w' b ⟨#[]⟩ t x ∧ Only (fun k => k = b) w w' := by
 have hE := ea_isError
 have hA0 := (Only.refl (fun _ => False) w).alloc (Obj.cells #[Value.int .i64 0] 225)
 have HA := hide (as_b x ⟨w.heap.size, 0, none⟩ (.int .i64 0) (w.alloc (Obj.cells #[Value.int .i64 0] 225)) (hg.only hA0 (fun q => q)) (by simp) (by simp))
 have HR := hide h
 have hlt := h.lt
 clear h hg hA0
 go_enter Tryz.func181, Tryz.ntmps181
 go_wp2_with fail
 refine (unhide HA).mono ?_
 rintro ev w2 ⟨rfl, hc, hO⟩
 have HO := hide hO
 clear hO
 have hB2 : Blk w2 b #[.string r, .int .i64 t0, .int .i64 e] 222 := Blk.only (Blk.alloc (unhide HR) _) (unhide HO) (by show ¬ b = w.heap.size; omega)
 have c0 : w2.cell? ⟨b, 0, none⟩ = some (.string r) := by rw [hB2.cell 0]; rfl
 have c1 : w2.cell? ⟨b, 1, none⟩ = some (.int .i64 t0) := by rw [hB2.cell 1]; rfl
 have c2 : w2.cell? ⟨b, 2, none⟩ = some (.int .i64 e) := by rw [hB2.cell 2]; rfl
 have f0 := hB2.frozen 0
 have f1 := hB2.frozen 1
 have f2 := hB2.frozen 2
 have HB2 := hide hB2
 clear hB2
 have HS := hide hc
 go_wp2
 (try simp only [Exit.inBlock, Exit.then])
 refine bodyPost_ret (results_none rfl _ _ _) rfl ⟨rfl, ?_, ?_⟩
 ·exact (((unhide HB2).set 0 _).set 1 _).set 2 _
 ·have h1 : Only (fun k => k = b) w w2 := ((Only.refl _ w).alloc _).trans (unhide HO) (fun k hk hq => by
   have : k = w.heap.size := hq
   omega)
  exact ((h1.setCell _ _ (fun _ => rfl)).setCell _ _ (fun _ => rfl)).setCell _ _ (fun _ => rfl)
end Go.Proofs.YtiellebdliifdaaGreatDoor
