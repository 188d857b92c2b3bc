import Derived.WalkKit
import Derived.WalkSmall
import Derived.Deep.MidRow
import Derived.Test.YtdpnbemagiekoaaGreatDoorChecked
import Derived.Deep.RegionLaw
import Derived.Laws.BytesArg
import Derived.ArgAppend
import Derived.Laws.IdiomStrings
import Derived.Lib.AppendStr
import Derived.Laws.BitsAllLaws
import Derived.StillTailTactics
import Derived.Deep.RegionHeld3
import Derived.Deep.RegionWith
import Derived.RangeFuncBox
import Derived.Deep.AppendLies
import Derived.Laws.CopyOwn
import Derived.LaidEql
import Derived.Stop.Asserts
import Derived.RowKitTokens
import Derived.Recover
set_option maxHeartbeats 4000000
set_option maxRecDepth 100000
namespace Go.Proofs.YtdpnbemagiekoaaGreatDoor
section
open Go.RowKit
theorem zAv {fn : Func} {p : Tmp} {ty : TypeId} (h : fn.results = #[.cell p ty]) (tmps : Array Value) (P : Program) (w : World) (ad : Addr) (ha : tmps.getD p undef = .pointer (some ad)) (v : Value) (hl : (loadVar ty ad).run P w = .ok v w) :
  (results fn tmps).run P w = .ok v w := by
 have ha' : tmps[p]?.getD undef = .pointer (some ad) := by simpa using ha
 simp only [results, h]
 simp [ha', asAddr, hl]
theorem uB {p : Prop} (h : p) : Hid p := h
theorem uA {p : Prop} (h : Hid p) : p := h
def Arr (w : World) (b o : Nat) (k : IntKind) (l : List Int) : Prop :=
 ∀ j, j < l.length -> w.cell? ⟨b, o + j, none⟩ = some (.int k (l.getD j 0)) /\ w.frozen? ⟨b, o + j, none⟩ = false
theorem Arr.get {w : World} {b o : Nat} {k : IntKind} {l : List Int} (h : Arr w b o k l) (j : Nat) (hj : j < l.length) : w.cell? ⟨b, o + j, none⟩ = some (.int k (l.getD j 0)) := (h j hj).1
theorem Arr.free {w : World} {b o : Nat} {k : IntKind} {l : List Int} (h : Arr w b o k l) (j : Nat) (hj : j < l.length) : w.frozen? ⟨b, o + j, none⟩ = false := (h j hj).2
theorem Arr.get0 {w : World} {b : Nat} {k : IntKind} {l : List Int} (h : Arr w b 0 k l) (j : Nat) (hj : j < l.length) : w.cell? ⟨b, j, none⟩ = some (.int k (l.getD j 0)) := by simpa using (h j hj).1
theorem Arr.free0 {w : World} {b : Nat} {k : IntKind} {l : List Int} (h : Arr w b 0 k l) (j : Nat) (hj : j < l.length) : w.frozen? ⟨b, j, none⟩ = false := by simpa using (h j hj).2
theorem Arr.set {w : World} {b o : Nat} {k : IntKind} {l : List Int} (h : Arr w b o k l) (i : Nat) (hi : i < l.length) (v : Int) : Arr (w.setCell ⟨b, o + i, none⟩ (.int k v)) b o k (l.set i v) := by
 intro j hj
 rw [List.length_set] at hj
 refine ⟨?_, by rw [World.frozen?_setCell]; exact (h j hj).2⟩
 by_cases e : i = j
 ·subst e
  rw [World.cell?_setCell_same _ _ _ (h i hi).1]
  simp [hi]
 ·rw [World.cell?_setCell_other _ _ _ _ (by simp), (h j hj).1]
  simp [e]
theorem Arr.set0 {w : World} {b : Nat} {k : IntKind} {l : List Int} (h : Arr w b 0 k l) (i : Nat) (hi : i < l.length) (v : Int) : Arr (w.setCell ⟨b, i, none⟩ (.int k v)) b 0 k (l.set i v) := by
 have := h.set i hi v; simpa using this
theorem Arr.other {w : World} {b o : Nat} {k : IntKind} {l : List Int} (h : Arr w b o k l) (a : Addr) (v : Value) (ha : a.block ≠ b ∨ a.off < o ∨ o + l.length <= a.off) : Arr (w.setCell a v) b o k l := by
 intro j hj
 refine ⟨?_, by rw [World.frozen?_setCell]; exact (h j hj).2⟩
 rw [World.cell?_setCell_other _ _ _ _ (by intro hh; subst hh; simp at ha; omega), (h j hj).1]
theorem Arr.alloc {w : World} {b o : Nat} {k : IntKind} {l : List Int} (h : Arr w b o k l) (hb : b < w.heap.size) (x : Obj) : Arr (w.alloc x) b o k l := by
 intro j hj
 rw [World.cell?_alloc_past (hn := hb), World.frozen?_alloc_past (hn := hb)]
 exact h j hj
theorem Arr.below {w w' : World} {B b o : Nat} {k : IntKind} {l : List Int} (h : Arr w b o k l) (hb : Below B w w') (hB : b < B) : Arr w' b o k l := by
 intro j hj
 rw [hb.cell (p := ⟨b, o + j, none⟩) hB, hb.frozen (p := ⟨b, o + j, none⟩) hB]
 exact h j hj
theorem Arr.range {w : World} {b o : Nat} {k : IntKind} {l : List Int} (h : Arr w b o k l) : w.rangeAt b o (l.map (Value.int k)) := by
 intro j v hv
 rw [List.getElem?_map] at hv
 cases hq : l[j]? with
 | none => simp [hq] at hv
 | some x =>
  obtain ⟨hj, e⟩ := List.getElem?_eq_some_iff.1 hq
  simp [hq] at hv
  rw [(h j hj).1, <- hv]
  simp [hq]
theorem Arr.there {w : World} {b o : Nat} {k : IntKind} {l : List Int} (h : Arr w b o k l) : w.there b o l.length := by
 intro j hj
 exact ⟨by rw [(h j hj).1]; rfl, (h j hj).2⟩
theorem Arr.setCells {w : World} {b o : Nat} {k : IntKind} {l : List Int} (h : Arr w b o k l) (l' : List Int) (hl : l'.length = l.length) : Arr (w.setCells b o (l'.map (Value.int k))) b o k l' := by
 intro j hj
 have hr := World.rangeAt_setCells_same w b o (l'.map (Value.int k)) (by intro i hi; exact h.there i (by simpa [hl] using hi))
 refine ⟨hr j _ (by simp [hj]), ?_⟩
 rw [World.frozen?_setCells]; exact (h j (by omega)).2
theorem Arr.setCells_apart {w : World} {b o : Nat} {k : IntKind} {l : List Int} (h : Arr w b o k l) (b' o' : Nat) (vs : List Value) (hap : b ≠ b' ∨ o + l.length <= o' ∨ o' + vs.length <= o) : Arr (w.setCells b' o' vs) b o k l := by
 intro j hj
 rw [World.frozen?_setCells, World.cell?_setCells_out b' vs o' w ⟨b, o + j, none⟩ (by intro hb _; simp at hb; simp; omega)]
 exact h j hj
theorem zAc {B : Nat} {a : World} {b : Nat} (hb : B <= b) : ∀ (vs : List Value) (o : Nat) {w : World}, Below B a w -> Below B a (w.setCells b o vs)
 | [], _, _, h => h
 | v :: r, o, w, h => by
  rw [World.setCells]
  exact zAc hb r (o + 1) (h.setCell (p := ⟨b, o, none⟩) hb v)
theorem zDj {b : Nat} : ∀ (vs : List Value) (o : Nat) (w : World), (w.setCells b o vs).heap.size = w.heap.size
 | [], _, _ => rfl
 | v :: r, o, w => by
  rw [World.setCells, zDj r (o + 1)]
  simp
theorem zBM {P : Program} {ops : Array Oper} {rest : List Oper} {op : Oper} {a : Act} {w : World} {Q : Exit -> Act -> World -> Prop} (hgd : op.guard = none) (ty : TypeId) (x y : Operand) (ho : op.op = .store ty x y)
  (b o : Nat) (cells : Array Value) (hx : a.eval x = .pointer (some ⟨b, o, none⟩)) (hy : a.eval y = .agg cells)
  (ht : w.there b o cells.size) (hi : (P.info? ty).map (·.size) = some cells.size) (h1 : cells.all (·.oneCell') = true)
  (h : ∀ w', w' = w.setCells b o cells.toList -> wpList P ops Q rest (a.put op.dst undef) w') : wpList P ops Q (op :: rest) a w :=
 wpList_store_mid hgd ty x y ho b o cells hx hy ht hi h1 (h _ rfl)
theorem zB2 (k : IntKind) (l : List Int) : (l.map (Value.int k)).toArray.all (·.oneCell') = true := all_oneCell_toArray (by simp [Value.oneCell'])
theorem zA8 (w : World) (k : IntKind) (l : List Int) (t : TypeId) (c : Array Value) (hc : c = (l.map (Value.int k)).toArray) : Arr (w.alloc (.cells c t)) w.heap.size 0 k l := by
 subst hc
 intro j hj
 rw [World.cell?_alloc_at (hn := rfl), World.frozen?_alloc_at (hn := rfl)]
 simp [hj]
theorem zDT (w : World) (k : IntKind) (pre l post : List Value) (ll : List Int) (t : TypeId) (c : Array Value) (hl : l = ll.map (Value.int k)) (hc : c = (pre ++ l ++ post).toArray) : Arr (w.alloc (.cells c t)) w.heap.size pre.length k ll := by
 subst hc hl
 intro j hj
 rw [World.cell?_alloc_at (hn := rfl), World.frozen?_alloc_at (hn := rfl)]
 simp [hj, List.getElem?_append]
end
section
open Go.RowKit
theorem Arr.tail {w : World} {b o : Nat} {k : IntKind} {l : List Int} (h : Arr w b o k l) (i : Nat) (l' : List Int) (hl : i + l'.length = l.length) : Arr (w.setCells b (o + i) (l'.map (Value.int k))) b o k (l.take i ++ l') := by
 intro j hj
 have hjl : j < l.length := by simp at hj; omega
 refine ⟨?_, by rw [World.frozen?_setCells]; exact (h j hjl).2⟩
 by_cases hji : j < i
 ·rw [World.cell?_setCells_out b _ (o + i) w ⟨b, o + j, none⟩ (by intro _ _; left; simp; omega), (h j hjl).1]
  simp [List.getElem?_append, hji, hjl, Nat.min_eq_left (show i <= l.length by omega)]
 ·obtain ⟨m, rfl⟩ : ∃ m, j = i + m := ⟨j - i, by omega⟩
  have hr := World.rangeAt_setCells_same w b (o + i) (l'.map (Value.int k)) (by
   intro x hx; have hx' : i + x < l.length := by (simp at hx; omega)
   rw [Nat.add_assoc]; exact h.there (i + x) hx')
  have hm : m < l'.length := by omega
  have := hr m (.int k (l'.getD m 0)) (by simp [hm])
  rw [Nat.add_assoc] at this
  rw [this]
  have hn : ¬ i + m < i := by omega
  simp [List.getElem?_append, hn, Nat.min_eq_left (show i <= l.length by omega)]
end
section
open Go.RowKit
def Bytes (p : List Int) : Prop := ∀ j : Nat, 0 <= p.getD j 0 /\ p.getD j 0 < 256
def nums (t : ByteArray) : List Int := t.data.toList.map (fun x => (x.toNat : Int))
theorem zAf (t : ByteArray) : (nums t).length = t.size := by rw [nums, List.length_map]; rfl
theorem zAt (t : ByteArray) : Bytes (nums t) := by
 intro j
 simp only [nums, List.getD_eq_getElem?_getD, List.getElem?_map]
 cases t.data.toList[j]? with
 | none => simp
 | some x => have := x.toNat_lt; simp; omega
def Touch (b : Nat) (w w' : World) : Prop := Below b w w' /\ ∀ k, b < k -> k < w.heap.size -> w'.heap[k]? = w.heap[k]?
theorem Touch.refl (b : Nat) (w : World) : Touch b w w := ⟨Below.refl _ _, fun _ _ _ => rfl⟩
theorem Touch.trans {b : Nat} {w w1 w2 : World} (h : Touch b w w1) (k : Touch b w1 w2) : Touch b w w2 :=
 ⟨h.1.trans k.1, fun j hj hs => (k.2 j hj (Nat.lt_of_lt_of_le hs h.1.size)).trans (h.2 j hj hs)⟩
theorem Touch.of_below {b : Nat} {w w' : World} (h : Below w.heap.size w w') (hb : b <= w.heap.size) : Touch b w w' := ⟨h.mono hb, fun k _ hs => h.block k hs⟩
theorem Touch.drew {b : Nat} {w w' : World} (h : Touch b w w') : Touch b w w'.drew := ⟨h.1.drew, h.2⟩
theorem Touch.setCell {b : Nat} {w w' : World} (h : Touch b w w') (o : Nat) (v : Value) : Touch b w (w'.setCell ⟨b, o, none⟩ v) :=
 ⟨h.1.setCell (Nat.le_refl _) v, fun k hk hs => by rw [Below.heap_setCell _ _ _ _ (by simp; omega)]; exact h.2 k hk hs⟩
theorem Touch.setCells {b : Nat} {w : World} : ∀ (vs : List Value) (o : Nat) {w' : World}, Touch b w w' -> Touch b w (w'.setCells b o vs)
 | [], _, _, h => h
 | v :: r, o, w', h => by
  rw [World.setCells]
  exact Touch.setCells r (o + 1) (h.setCell o v)
theorem zAd (l : List Int) (h : Bytes l) : nums (strOfNums l) = l := by
 unfold nums
 rw [strOfNums_data, List.map_map]
 apply List.ext_getElem?
 intro j
 have hj := h j
 rw [List.getD_eq_getElem?_getD] at hj
 rw [List.getElem?_map]
 cases e : l[j]? with
 | none => rfl
 | some x =>
  rw [e] at hj
  simp at hj
  simp [UInt8.toNat_ofNat']
  omega
theorem zAV (t : ByteArray) : strOfNums (nums t) = t := by
 have : (strOfNums (nums t)).data.toList = t.data.toList := by
  rw [strOfNums_data, nums, List.map_map]
  conv => rhs; rw [<- List.map_id t.data.toList]
  apply List.map_congr_left
  intro x _
  simp
 cases t with
 | mk d =>
  cases d with
  | mk dl =>
   have h2 : (strOfNums (nums ⟨⟨dl⟩⟩)) = ⟨⟨(strOfNums (nums ⟨⟨dl⟩⟩)).data.toList⟩⟩ := rfl
   rw [h2, this]
def KeyInv (w : World) (l : List Int) (wr : World) : Prop := Arr wr w.heap.size 0 .u8 l /\ Below w.heap.size w wr /\ w.heap.size < wr.heap.size
theorem KeyInv.put {w : World} {l l' : List Int} {wr : World} (h : KeyInv w l wr) (t : Nat) (ht : t < l.length) (v : Int) (e : l.set t v = l') : KeyInv w l' (wr.setCell ⟨w.heap.size, t, none⟩ (.int .u8 v)) := by
 subst e
 exact ⟨h.1.set0 t ht v, h.2.1.setCell (by simp) _, by simpa using h.2.2⟩
theorem zGx (t : ByteArray) (i : Nat) (hi : i < t.size) (w : World) : (Instr.index 9 (.string t) (.int .i64 (i : Int))).run Tryz.prog w = .ok (.int .u8 ((nums t).getD i 0)) w := by
 have h1 : (nums t).getD i 0 = ((t[i]'hi).toNat : Int) := by
  have hl : i < t.data.toList.length := by simpa using hi
  simp only [nums, List.getD_eq_getElem?_getD, List.getElem?_map]
  rw [List.getElem?_eq_getElem hl]
  simp
  rfl
 have h2 : t[i]? = some (t[i]'hi) := by simp [hi]
 rw [h1]
 simp only [Instr.index, asIntOf, Sem.run_bind, Sem.run_pure, Result.andThen_ok, run_underlying Tryz.underlying9]
 have h0 : (0 : Int) <= (i : Int) := by omega
 simp [h2]
theorem zNH : (Tryz.prog.info? 5).map (fun i => (i.zero, i.size, i.bytes)) = some (some (.int .u8 0), 1, 1) := by kernel_rfl
theorem zHZ (l c : Nat) (hlc : l <= c) (hc : c <= 281474976710656) (w : World) : (Instr.makeSlice 119 (.int .i64 (l : Int)) (.int .i64 (c : Int))).run Tryz.prog w = .ok (.slice (some ⟨w.heap.size, 0, none⟩) l c) (w.alloc (.cells ((List.replicate c (0 : Int)).map (Value.int .u8)).toArray 5)) := by
 obtain ⟨i0, hi, hz0, hz1, hz2⟩ := info_parts zNH
 have := run_make (P := Tryz.prog) w 119 5 i0 (.int .u8 0) Tryz.underlying119 hi hz0 .i64 .i64 (l : Int) (c : Int) (by omega) (by omega) (by rw [hz2]; omega) (by omega)
 rw [this, hz1]
 simp only [Int.toNat_natCast, Nat.mul_one]
 congr 3
 apply Array.ext
 ·simp [size_madeCells]
 ·intro j h1 h2
  simp [madeCells, Value.cells, Nat.mod_one]
def Bsl (w : World) (base b cap : Nat) (L : List Int) : Prop :=
 base <= b /\ b < w.heap.size /\ L.length <= cap /\ cap <= maxLen /\ Arr w b 0 .u8 L /\ w.there b 0 cap
theorem Bsl.of_string (w : World) (t : ByteArray) (ht : t.size <= 140737488355328) : ∃ cap W, (convert 9 119 (Value.string t)).run Tryz.prog w = .ok (.slice (some ⟨w.heap.size, 0, none⟩) t.size cap) W /\ Bsl W w.heap.size w.heap.size cap (nums t) /\ Below w.heap.size w W := by
 have hrun := run_bytes_of_string (P := Tryz.prog) w 9 119 5 t Tryz.underlying9 Tryz.underlying119 Tryz.underlying5
 have hge := grownCap_ge w t.size 0 5
 have hle := grownCap_le_maxLen w t.size 0 5 (by unfold maxLen; omega)
 refine ⟨_, _, hrun, ?_, ((Below.refl _ w).drew).alloc (Nat.le_refl _) _⟩
 generalize grownCap w t.size 0 5 = cap at *
 have hsz : (bytesRow t cap).size = cap := by
  have : t.data.size = t.size := rfl
  simp [bytesRow, this]; omega
 have hcell : ∀ j, (w.drew.alloc (Obj.cells (bytesRow t cap) 5 ((bytesRow t cap).size, (bytesRow t cap).size + 1))).cell? ⟨w.heap.size, j, none⟩ = (bytesRow t cap)[j]? := fun j => World.cell?_alloc_mark w.drew _ 5 _ j
 have hfr : ∀ j, j < cap -> (w.drew.alloc (Obj.cells (bytesRow t cap) 5 ((bytesRow t cap).size, (bytesRow t cap).size + 1))).frozen? ⟨w.heap.size, j, none⟩ = false := fun j hj => by
  have := World.frozen?_alloc_mark w.drew (bytesRow t cap) 5 (bytesRow t cap).size ((bytesRow t cap).size + 1) j
  rw [show (w.drew.heap.size) = w.heap.size from rfl] at this
  rw [this, hsz]
  simp
  omega
 refine ⟨Nat.le_refl _, by simp, by rw [zAf]; exact hge, hle, fun j hj => ?_, fun j hj => ?_⟩
 ·rw [zAf] at hj
  rw [Nat.zero_add]
  refine ⟨?_, hfr j (by omega)⟩
  have hjd : j < t.data.size := hj
  rw [hcell, bytesRow_at t cap j hjd]
  simp [nums]
  rw [Array.getElem?_eq_getElem hjd]
  rfl
 ·rw [Nat.zero_add]
  refine ⟨?_, hfr j hj⟩
  rw [hcell, Array.getElem?_eq_getElem (by omega)]
  rfl
theorem zFK (a b : ByteArray) : nums (a ++ b) = nums a ++ nums b := by simp [nums, ByteArray.data_append]
theorem zNq {s t : ByteArray} (h : ¬ s = t) : (s.toList == t.toList) = false := by
 rw [ByteArray.toList_eq, ByteArray.toList_eq]
 simp
 exact fun h2 => h (Go.WideShapes.bytes_inj (by rw [h2]))
def I64 (x : Int) : Prop := -9223372036854775808 <= x /\ x <= 9223372036854775807
theorem zJ7 (n : Int) (h1 : -9223372036854775808 <= n) (h2 : n <= 9223372036854775807) : wrap64 n = n := by unfold wrap64; omega
theorem zAB (n : Int) (h1 : -9223372036854775808 <= n) (h2 : n <= 9223372036854775807) : IntKind.i64.wrap n = n := by rw [IntKind.wrap_i64]; omega
end
section
open Go.RowKit
def Blk (w : World) (b : Nat) (cur : Array Value) (T : TypeId) : Prop := w.heap[b]? = some (.cells cur T (0, 0))
theorem Blk.lt {w : World} {b : Nat} {cur : Array Value} {T : TypeId} (h : Blk w b cur T) : b < w.heap.size := (Array.getElem?_eq_some_iff.1 h).1
theorem Blk.cell {w : World} {b : Nat} {cur : Array Value} {T : TypeId} (h : Blk w b cur T) (j : Nat) : w.cell? ⟨b, j, none⟩ = cur[j]? := by simp [World.cell?, show w.heap[b]? = _ from h]
theorem Blk.frozen {w : World} {b : Nat} {cur : Array Value} {T : TypeId} (h : Blk w b cur T) (j : Nat) : w.frozen? ⟨b, j, none⟩ = false := by simp [World.frozen?, show w.heap[b]? = _ from h]
theorem Blk.new (w : World) (T : TypeId) (cur : Array Value) : Blk (w.alloc (.cells cur T)) w.heap.size cur T := World.alloc_heap_new w _
theorem Blk.kept {w w' : World} {b : Nat} {cur : Array Value} {T : TypeId} (h : Blk w b cur T) (e : w'.heap[b]? = w.heap[b]?) : Blk w' b cur T := e.trans h
theorem Blk.alloc {w : World} {b : Nat} {cur : Array Value} {T : TypeId} (h : Blk w b cur T) (o : Obj) : Blk (w.alloc o) b cur T :=
 h.kept ((World.grownBy_alloc w o none).block b h.lt (by simp))
theorem Blk.set {w : World} {b : Nat} {cur : Array Value} {T : TypeId} (h : Blk w b cur T) (o : Nat) (v : Value) : Blk (w.setCell ⟨b, o, none⟩ v) b (cur.setIfInBounds o v) T := by
 obtain ⟨hlt, hk⟩ := Array.getElem?_eq_some_iff.1 h
 show (w.heap.modify b _)[b]? = _
 rw [Array.getElem?_eq_getElem (by rw [Array.size_modify]; exact hlt), Array.getElem_modify_self, hk]
 rfl
theorem Blk.other {w : World} {b : Nat} {cur : Array Value} {T : TypeId} (h : Blk w b cur T) (a : Addr) (v : Value) (ha : a.block ≠ b) : Blk (w.setCell a v) b cur T :=
 h.kept (Below.heap_setCell _ _ _ _ (fun e => ha e.symm))
theorem Blk.below {w w' : World} {B b : Nat} {cur : Array Value} {T : TypeId} (h : Blk w b cur T) (hb : Below B w w') (hB : b < B) : Blk w' b cur T := h.kept (hb.block b hB)
theorem Blk.not_row {w : World} {b : Nat} {cur : Array Value} {T e : TypeId} (h : Blk w b cur T) (hte : T ≠ e) {base size k : Nat} {v : Value} {xs : List Value} (hr : w.ownsRow base e size v k xs) : v.ownBlock ≠ some b := by
 rcases hr.2 with ⟨rfl, _⟩ | ⟨g, cap, cur', rfl, _, hgb, _⟩
 ·simp [Value.ownBlock]
 ·intro e'
  obtain rfl : g = b := by simpa [Value.ownBlock] using e'
  have := (show w.heap[g]? = _ from h).symm.trans hgb
  simp at this
  exact hte this.2
def Only (P : Nat -> Prop) (w w' : World) : Prop := Below 0 w w' /\ ∀ k, k < w.heap.size -> ¬ P k -> w'.heap[k]? = w.heap[k]?
theorem Only.refl (P : Nat -> Prop) (w : World) : Only P w w := ⟨Below.refl _ _, fun _ _ _ => rfl⟩
theorem Only.trans {P Q : Nat -> Prop} {w w1 w2 : World} (h : Only P w w1) (k : Only Q w1 w2) (hq : ∀ k, k < w.heap.size -> Q k -> P k) : Only P w w2 :=
 ⟨h.1.trans k.1, fun j hj hp => (k.2 j (Nat.lt_of_lt_of_le hj h.1.size) (fun q => hp (hq j hj q))).trans (h.2 j hj hp)⟩
theorem Only.mono {P Q : Nat -> Prop} {w w' : World} (h : Only P w w') (hq : ∀ k, k < w.heap.size -> P k -> Q k) : Only Q w w' := ⟨h.1, fun j hj hp => h.2 j hj (fun q => hp (hq j hj q))⟩
theorem Only.of_below {P : Nat -> Prop} {w w' : World} (h : Below w.heap.size w w') : Only P w w' := ⟨h.mono (Nat.zero_le _), fun k hk _ => h.block k hk⟩
theorem Only.below {P : Nat -> Prop} {w w' : World} {B : Nat} (h : Only P w w') (hB : B <= w.heap.size) (hp : ∀ k, k < B -> ¬ P k) : Below B w w' :=
 ⟨h.1.os, h.1.tape, h.1.output, h.1.size, fun k hk => h.2 k (by omega) (hp k hk)⟩
theorem Only.setCell {P : Nat -> Prop} {w w' : World} (h : Only P w w') (a : Addr) (v : Value) (ha : a.block < w.heap.size -> P a.block) : Only P w (w'.setCell a v) :=
 ⟨h.1.setCell (Nat.zero_le _) v, fun k hk hp => (Below.heap_setCell _ _ _ _ (fun e => by subst e; exact hp (ha hk))).trans (h.2 k hk hp)⟩
theorem Only.alloc {P : Nat -> Prop} {w w' : World} (h : Only P w w') (o : Obj) : Only P w (w'.alloc o) :=
 h.trans (Q := fun _ => False) ⟨(Below.refl 0 w').alloc (Nat.zero_le _) o, fun k hk _ => (World.grownBy_alloc w' o none).block k hk (by simp)⟩ (fun _ _ q => q.elim)
theorem Only.drew {P : Nat -> Prop} {w w' : World} (h : Only P w w') : Only P w w'.drew := ⟨h.1.drew, h.2⟩
theorem Only.drewN {P : Nat -> Prop} {w w' : World} (h : Only P w w') (n : Nat) : Only P w (w'.drewN n) := ⟨below_drewN h.1 n, h.2⟩
theorem Only.grown {P : Nat -> Prop} {w w1 w2 : World} {row : Option Nat} (h : Only P w w1) (hg : w1.grownBy w2 row) (hr : ∀ k, k < w.heap.size -> row = some k -> P k) : Only P w w2 :=
 h.trans (Q := fun k => row = some k) ⟨⟨hg.os, hg.tape, hg.output, hg.size, fun k hk => absurd hk (Nat.not_lt_zero k)⟩, fun k hk hn => hg.block k hk (fun e => hn e.symm)⟩ hr
theorem Only.size {P : Nat -> Prop} {w w' : World} (h : Only P w w') : w.heap.size <= w'.heap.size := h.1.size
theorem Blk.only {w w' : World} {b : Nat} {cur : Array Value} {T : TypeId} {P : Nat -> Prop} (h : Blk w b cur T) (ho : Only P w w') (hp : ¬ P b) : Blk w' b cur T := h.kept (ho.2 b h.lt hp)
theorem zAh {w w' : World} {base : Nat} {e : TypeId} {size n : Nat} {v : Value} {xs : List Value} {P : Nat -> Prop} (h : w.ownsRow base e size v n xs) (ho : Only P w w') (hp : ∀ k, v.ownBlock = some k -> ¬ P k) : w'.ownsRow base e size v n xs := by
 refine ⟨h.1, ?_⟩
 rcases h.2 with hn | ⟨g, cap, cur, rfl, hb, hg, rest⟩
 ·exact .inl hn
 ·exact .inr ⟨g, cap, cur, rfl, hb, (ho.2 g (Array.getElem?_eq_some_iff.1 hg).1 (hp g rfl)).trans hg, rest⟩
theorem zEK (w : World) (p q : Option Addr) (n c c' : Nat) (hn : n <= c) (ty : TypeId) :
  (Builtin.append_ #[119, 119] ty #[.slice p n c, .slice q 0 c']).run Tryz.prog w = .ok (.slice p n c) w := by
 obtain ⟨i0, hi, hz0, hz1, hz2⟩ := info_parts zNH
 have hl : ∀ a, (loadCells a 0).run Tryz.prog w = .ok #[] w := fun a => rfl
 cases p <;> cases q <;> simp [hl, Builtin.append_, run_underlying Tryz.underlying119, sizeOf, typeInfo, hi, hz1, Builtin.lenOf, hn, Builtin.firstCells, storeCells, Result.andThen]
end
section
open Go.RowKit
def Inl (w : World) (p : Option Addr) (L : List Int) : Prop := L = [] ∨ ∃ lb lo, p = some ⟨lb, lo, none⟩ /\ lb < w.heap.size /\ ∀ j, j < L.length -> w.cell? ⟨lb, lo + j, none⟩ = some (.int .i64 (L.getD j 0))
theorem Inl.only {w w' : World} {p : Option Addr} {L : List Int} {P : Nat -> Prop} (h : Inl w p L) (ho : Only P w w') (hp : 0 < L.length -> ∀ k o, p = some ⟨k, o, none⟩ -> ¬ P k) : Inl w' p L := by
 by_cases h0 : 0 < L.length
 ·rcases h with h | ⟨lb, lo, e, h1, h2⟩
  ·exact .inl h
  ·exact .inr ⟨lb, lo, e, Nat.lt_of_lt_of_le h1 ho.size, fun j hj => (World.cell?_of_block (a := ⟨lb, lo + j, none⟩) (ho.2 lb h1 (hp h0 lb lo e))).trans (h2 j hj)⟩
 ·exact .inl (List.eq_nil_of_length_eq_zero (by omega))
theorem Inl.below {w w' : World} {B : Nat} {p : Option Addr} {L : List Int} (h : Inl w p L) (hb : Below B w w') (hp : 0 < L.length -> ∀ k o, p = some ⟨k, o, none⟩ -> k < B) : Inl w' p L := by
 by_cases h0 : 0 < L.length
 ·rcases h with h | ⟨lb, lo, e, h1, h2⟩
  ·exact .inl h
  ·exact .inr ⟨lb, lo, e, Nat.lt_of_lt_of_le h1 hb.size, fun j hj => (hb.cell (p := ⟨lb, lo + j, none⟩) (hp h0 lb lo e)).trans (h2 j hj)⟩
 ·exact .inl (List.eq_nil_of_length_eq_zero (by omega))
theorem zIH : (Tryz.prog.info? 3).map (fun i => (i.zero, i.size, i.bytes)) = some (some (.int .i64 0), 1, 8) := by kernel_rfl
theorem zGw (l c : Nat) (hlc : l <= c) (hc : c <= 17592186044416) (w : World) : (Instr.makeSlice 53 (.int .i64 (l : Int)) (.int .i64 (c : Int))).run Tryz.prog w = .ok (.slice (some ⟨w.heap.size, 0, none⟩) l c) (w.alloc (.cells ((List.replicate c (0 : Int)).map (Value.int .i64)).toArray 3)) := by
 obtain ⟨i0, hi, hz0, hz1, hz2⟩ := info_parts zIH
 have := run_make (P := Tryz.prog) w 53 3 i0 (.int .i64 0) Tryz.underlying53 hi hz0 .i64 .i64 (l : Int) (c : Int) (by omega) (by omega) (by rw [hz2]; omega) (by omega)
 rw [this, hz1]
 simp only [Int.toNat_natCast, Nat.mul_one]
 congr 3
 apply Array.ext
 ·simp [size_madeCells]
 ·intro j h1 h2
  simp [madeCells, Value.cells, Nat.mod_one]
end
section
open Go.RowKit Go.Extern.Stop Go.Stop Go.Extern
/-! errors.As at the target *giveUp, of an error that is a giveUp: after the kit's worked toy 'toyas'. -/
theorem zHV (t : Addr) (w : World) : (ReflectliteValue.unpack (.iface 358 (.pointer (some t)))).run Tryz.prog w
  = .ok (.agg #[.pointer (some ⟨7, 358, none⟩), .pointer (some ⟨w.heap.size, 0, none⟩), .int .u64 150]) (w.alloc (.cells #[.pointer (some t)] 358)) := by kernel_rfl
theorem zMH (a : Addr) (w : World) : (ReflectliteValue.methodAny (ReflectliteValue.valueError "reflectlite.Value.Type" 0) (fun t _ _ _ => ReflectliteType.toType t) #[.agg #[.pointer (some ⟨7, 358, none⟩), .pointer (some a), .int .u64 150]]).run Tryz.prog w
  = .ok (.iface 297 (.agg #[.pointer (some ⟨7, 358, none⟩)])) w := by kernel_rfl
theorem zF7 (h : Value) (w : World) : (Go.method 524 297 (.agg #[h]) "Kind").run Tryz.prog w = .ok (358, h) w := by kernel_rfl
theorem zMm (w : World) : ((ReflectliteType.abiMethod fun t => (fun a : Nat => Value.int IntKind.u8 (a : Int)) <$> Rtype.kind t) #[.pointer (some ⟨7, 358, none⟩)]).run Tryz.prog w = .ok (.int .u8 22) w := by kernel_rfl
theorem zMr (w : World) : ((ReflectliteType.abiMethod fun t => (fun a : Nat => Value.int IntKind.u8 (a : Int)) <$> Rtype.kind t) #[.pointer (some ⟨7, 314, none⟩)]).run Tryz.prog w = .ok (.int .u8 25) w := by kernel_rfl
theorem rlm (z : Sem Value) (f : TypeId -> Addr -> Nat -> Nat -> Sem Value) (v : Value) :
  ReflectliteValue.method z f #[v] = (do match <- ReflectliteValue.parts v with | none => z | some (t, a, fl) => f t a fl (fl % 32)) := rfl
theorem zGQ (a : Addr) (w : World) : (ReflectliteValue.parts (.agg #[.pointer (some ⟨7, 358, none⟩), .pointer (some a), .int .u64 150])).run Tryz.prog w = .ok (some (358, a, 150)) w := by kernel_rfl
theorem zK2 (a p : Addr) (W : World) (ha : W.cell? a = some (.pointer (some p))) :
  (ReflectliteValue.method (ReflectliteValue.valueError "reflectlite.Value.IsNil" 0) ReflectliteValue.isNil #[.agg #[.pointer (some ⟨7, 358, none⟩), .pointer (some a), .int .u64 150]]).run Tryz.prog W = .ok (.bool false) W := by
 rw [rlm]
 simp only [Sem.run_bind, zGQ, Result.andThen]
 simp [ReflectliteValue.isNil, loadVar, isAgg, underlying, Tryz.underlying358, ha, Result.andThen]
theorem zGk (h : Value) (w : World) : (Go.method 524 297 (.agg #[h]) "Elem").run Tryz.prog w = .ok (372, .agg #[h]) w := by kernel_rfl
theorem zCN (h : Value) (w : World) : (Go.method 524 297 (.agg #[h]) "Implements").run Tryz.prog w = .ok (373, .agg #[h]) w := by kernel_rfl
theorem zCt (h : Value) (w : World) : (Go.method 524 297 (.agg #[h]) "AssignableTo").run Tryz.prog w = .ok (370, .agg #[h]) w := by kernel_rfl
theorem zMM (w : World) : (ReflectliteType.method ReflectliteType.elem #[.agg #[.pointer (some ⟨7, 358, none⟩)]]).run Tryz.prog w = .ok (.iface 297 (.agg #[.pointer (some ⟨7, 314, none⟩)])) w := by kernel_rfl
theorem zEY (w : World) : (ReflectliteType.relation "Implements" ReflectliteType.implements_ #[.agg #[.pointer (some ⟨7, 314, none⟩)], .iface 297 (.agg #[.pointer (some ⟨7, 86, none⟩)])]).run Tryz.prog w = .ok (.bool true) w := by kernel_rfl
theorem zI4 (v : Value) (w : World) : (ReflectliteType.typeOf #[.iface 314 v]).run Tryz.prog w = .ok (.iface 297 (.agg #[.pointer (some ⟨7, 314, none⟩)])) w := by kernel_rfl
theorem zE1 (w : World) : (ReflectliteType.relation "AssignableTo" ReflectliteType.assignableTo #[.agg #[.pointer (some ⟨7, 314, none⟩)], .iface 297 (.agg #[.pointer (some ⟨7, 314, none⟩)])]).run Tryz.prog w = .ok (.bool true) w := by kernel_rfl
theorem zHE (x : Int) (w : World) : (ReflectliteValue.unpack (.iface 314 (.agg #[.int .i64 x]))).run Tryz.prog w
  = .ok (.agg #[.pointer (some ⟨7, 314, none⟩), .pointer (some ⟨w.heap.size, 0, none⟩), .int .u64 153]) (w.alloc (.cells #[.int .i64 x] 314)) := by kernel_rfl
theorem zJr (w : World) : (Rtype.elem? 358).run Tryz.prog w = .ok (some 314) w := by kernel_rfl
theorem zPj (p : Addr) (w : World) : (ReflectliteValue.mk 314 p ReflectliteValue.flagAddr).run Tryz.prog w = .ok (.agg #[.pointer (some ⟨7, 314, none⟩), .pointer (some p), .int .u64 409]) w := by kernel_rfl
theorem zLm (a p : Addr) (W : World) (ha : W.cell? a = some (.pointer (some p))) :
  (ReflectliteValue.method (ReflectliteValue.valueError "reflectlite.Value.Elem" 0) ReflectliteValue.elem #[.agg #[.pointer (some ⟨7, 358, none⟩), .pointer (some a), .int .u64 150]]).run Tryz.prog W
   = .ok (.agg #[.pointer (some ⟨7, 314, none⟩), .pointer (some p), .int .u64 409]) W := by
 rw [rlm]
 simp only [Sem.run_bind, zGQ, Result.andThen]
 simp [ReflectliteValue.elem, loadVar, isAgg, underlying, Tryz.underlying358, ha, Result.andThen, zJr, zPj]
theorem rls (v x : Value) : ReflectliteValue.set #[v, x] = (do
  let (some (dst, a, fl), some (src, b, _)) := (<- ReflectliteValue.parts v, <- ReflectliteValue.parts x)
   | unsupported (.noEntry "extern/(internal/reflectlite.Value).Set.zeroValue")
  if fl / ReflectliteValue.flagAddr % 2 == 0 then unsupported (.noEntry "extern/(internal/reflectlite.Value).Set.unaddressable")
  let val <- loadVar src b
  if <- Rtype.directlyAssignable dst src then storeVar dst a val
  else if <- Rtype.implements dst src then
   if (<- Rtype.kind src) == 20 then
    match val with
    | .nilIface => unsupported (.noEntry "extern/reflectlite: a nil value of one interface type handed on as a value of another")
    | _ => storeVar dst a val
   else storeVar dst a (.iface src val)
  else panicString ("reflectlite.Set: value of type " ++ (<- Rtype.spelt src) ++ " is not assignable to type " ++ (<- Rtype.spelt dst))
  pure (.tuple #[])) := rfl
theorem zI6 (a : Addr) (w : World) : (ReflectliteValue.parts (.agg #[.pointer (some ⟨7, 314, none⟩), .pointer (some a), .int .u64 409])).run Tryz.prog w = .ok (some (314, a, 409)) w := by kernel_rfl
theorem zKQ (a : Addr) (w : World) : (ReflectliteValue.parts (.agg #[.pointer (some ⟨7, 314, none⟩), .pointer (some a), .int .u64 153])).run Tryz.prog w = .ok (some (314, a, 153)) w := by kernel_rfl
theorem zJi (w : World) : (Rtype.directlyAssignable 314 314).run Tryz.prog w = .ok true w := by kernel_rfl
theorem zOn (ta b : Addr) (x : Int) (old : Value) (W : World) (hb : W.cell? b = some (.int .i64 x)) (ht : W.cell? ta = some old) (hf : W.frozen? ta = false) :
  (ReflectliteValue.set #[.agg #[.pointer (some ⟨7, 314, none⟩), .pointer (some ta), .int .u64 409], .agg #[.pointer (some ⟨7, 314, none⟩), .pointer (some b), .int .u64 153]]).run Tryz.prog W
   = .ok (.tuple #[]) (W.setCell ta (.int .i64 x)) := by
 rw [rls]
 simp only [Sem.run_bind, zI6, zKQ, Result.andThen]
 have hlv : (loadVar 314 b).run Tryz.prog W = .ok (.agg #[.int .i64 x]) W := by
  simp [loadVar, isAgg, underlying, Tryz.underlying314, Result.andThen, loadCells, loadCellsFrom, Addr.add, hb]
 simp [ReflectliteValue.flagAddr, hlv, Result.andThen, zJi, storeVar, Value.cells, storeCells, Addr.add]
 rw [run_store Tryz.prog W ta _ _ (by rfl)]
 simp [ht, hf]
end
section
open Go.RowKit Go.Extern.Stop Go.Stop Go.Extern
def ETy (w : World) : Prop := w.cell? ⟨6, 0, none⟩ = some (.iface 297 (.agg #[.pointer (some ⟨7, 86, none⟩)]))
theorem ETy.lt {w : World} (h : ETy w) : 6 < w.heap.size := World.block_lt_of_cell? w _ h
theorem ETy.below {w w' : World} {B : Nat} (h : ETy w) (hb : Below B w w') (hB : 6 < B) : ETy w' := (hb.cell (p := ⟨6, 0, none⟩) hB).trans h
theorem ETy.only {w w' : World} {P : Nat -> Prop} (h : ETy w) (ho : Only P w w') (hp : ¬ P 6) : ETy w' := (World.cell?_of_block (a := ⟨6, 0, none⟩) (ho.2 6 h.lt hp)).trans h
theorem zPs (x : Int) (t : Addr) (old : Value) (w : World) (hg : ETy w) (ht0 : w.cell? t = some old) (hf0 : w.frozen? t = false) :
  Calls Tryz.prog 305 #[.iface 314 (.agg #[.int .i64 x]), .iface 358 (.pointer (some t))] w fun ev w' => ev = .returned (.bool true) /\ w' = ((((w.alloc (.cells #[.pointer (some t)] 358)).alloc (.cells #[.pointer (some ⟨7, 358, none⟩), .pointer (some ⟨w.heap.size, 0, none⟩), .int .u64 150] 373)).alloc (.cells #[.pointer (some ⟨7, 358, none⟩), .pointer (some ⟨w.heap.size, 0, none⟩), .int .u64 150] 373)).alloc (.cells #[.int .i64 x] 314)).setCell t (.int .i64 x) := by
 have hVO := @run_callFunc_extern Tryz.prog 328 _ (fun args => ReflectliteValue.unpack (args.getD 0 (.tuple #[]))) Tryz.func328 (by kernel_rfl) (by kernel_rfl) (by kernel_rfl) (by kernel_rfl)
 have hTY := @run_callFunc_extern Tryz.prog 329 _ (ReflectliteValue.methodAny (ReflectliteValue.valueError "reflectlite.Value.Type" 0) (fun t _ _ _ => ReflectliteType.toType t)) Tryz.func329 (by kernel_rfl) (by kernel_rfl) (by kernel_rfl) (by kernel_rfl)
 have hNI := @run_callFunc_extern Tryz.prog 330 _ (ReflectliteValue.method (ReflectliteValue.valueError "reflectlite.Value.IsNil" 0) ReflectliteValue.isNil) Tryz.func330 (by kernel_rfl) (by kernel_rfl) (by kernel_rfl) (by kernel_rfl)
 have hKI := @run_callFunc_extern Tryz.prog 358 _ (ReflectliteType.abiMethod fun t => do pure (.int .u8 (<- Rtype.kind t))) Tryz.func358 (by kernel_rfl) (by kernel_rfl) (by kernel_rfl) (by kernel_rfl)
 have hEL := @run_callFunc_extern Tryz.prog 372 _ (ReflectliteType.method ReflectliteType.elem) Tryz.func372 (by kernel_rfl) (by kernel_rfl) (by kernel_rfl) (by kernel_rfl)
 have hIM := @run_callFunc_extern Tryz.prog 373 _ (ReflectliteType.relation "Implements" ReflectliteType.implements_) Tryz.func373 (by kernel_rfl) (by kernel_rfl) (by kernel_rfl) (by kernel_rfl)
 have hTO := @run_callFunc_extern Tryz.prog 170 _ ReflectliteType.typeOf Tryz.func170 (by kernel_rfl) (by kernel_rfl) (by kernel_rfl) (by kernel_rfl)
 have hAT := @run_callFunc_extern Tryz.prog 370 _ (ReflectliteType.relation "AssignableTo" ReflectliteType.assignableTo) Tryz.func370 (by kernel_rfl) (by kernel_rfl) (by kernel_rfl) (by kernel_rfl)
 have hVE := @run_callFunc_extern Tryz.prog 340 _ (ReflectliteValue.method (ReflectliteValue.valueError "reflectlite.Value.Elem" 0) ReflectliteValue.elem) Tryz.func340 (by kernel_rfl) (by kernel_rfl) (by kernel_rfl) (by kernel_rfl)
 have hSE := @run_callFunc_extern Tryz.prog 341 _ ReflectliteValue.set Tryz.func341 (by kernel_rfl) (by kernel_rfl) (by kernel_rfl) (by kernel_rfl)
 have tO := zI4
 have mA := zCt
 have a25 := zE1
 have v25 := zHE
 have f6 := zHV
 have f7 := zMH
 have mK := zF7
 have mE := zGk
 have mI := zCN
 have k27 := zMm
 have k25 := zMr
 have e27 := zMM
 have i25 := zEY
 have n8 := zK2 ⟨w.heap.size, 0, none⟩ t ((w.alloc (.cells #[.pointer (some t)] 358)).alloc (.cells #[.pointer (some ⟨7, 358, none⟩), .pointer (some ⟨w.heap.size, 0, none⟩), .int .u64 150] 373)) (by simp)
 have hlt : 6 < w.heap.size := hg.lt
 have hg2 : ((w.alloc (.cells #[.pointer (some t)] 358)).alloc (.cells #[.pointer (some ⟨7, 358, none⟩), .pointer (some ⟨w.heap.size, 0, none⟩), .int .u64 150] 373)).cell? ⟨6, 0, none⟩ = some (.iface 297 (.agg #[.pointer (some ⟨7, 86, none⟩)])) := by
  rw [World.cell?_alloc_lt _ _ ⟨6, 0, none⟩ (by simp <;> omega), World.cell?_alloc_lt _ _ ⟨6, 0, none⟩ hlt]; exact hg
 have htl : t.block < w.heap.size := World.block_lt_of_cell? w _ ht0
 have el := zLm ⟨w.heap.size, 0, none⟩ t (((w.alloc (.cells #[.pointer (some t)] 358)).alloc (.cells #[.pointer (some ⟨7, 358, none⟩), .pointer (some ⟨w.heap.size, 0, none⟩), .int .u64 150] 373)).alloc (.cells #[.pointer (some ⟨7, 358, none⟩), .pointer (some ⟨w.heap.size, 0, none⟩), .int .u64 150] 373)) (by rw [World.cell?_alloc_lt _ _ ⟨w.heap.size, 0, none⟩ (by simp; omega)]; simp)
 have st := zOn t ⟨w.heap.size + 1 + 1 + 1, 0, none⟩ x old ((((w.alloc (.cells #[.pointer (some t)] 358)).alloc (.cells #[.pointer (some ⟨7, 358, none⟩), .pointer (some ⟨w.heap.size, 0, none⟩), .int .u64 150] 373)).alloc (.cells #[.pointer (some ⟨7, 358, none⟩), .pointer (some ⟨w.heap.size, 0, none⟩), .int .u64 150] 373)).alloc (.cells #[.int .i64 x] 314))
  (by rw [World.cell?_alloc_at _ _ _ _ (by simp)]; rfl)
  (by rw [World.cell?_alloc_lt _ _ t (by simp; omega), World.cell?_alloc_lt _ _ t (by simp; omega), World.cell?_alloc_lt _ _ t (by simp; omega), World.cell?_alloc_lt _ _ t htl]; exact ht0)
  (by rw [World.frozen?_alloc_old _ _ t (by simp; omega), World.frozen?_alloc_old _ _ t (by simp; omega), World.frozen?_alloc_old _ _ t (by simp; omega), World.frozen?_alloc_old _ _ t (Nat.ne_of_lt htl)]; exact hf0)
 clear hg ht0 hf0
 go_enter Tryz.func305, Tryz.ntmps305
 go_wp2
 refine wp_loop_rounds 1 ?_
 rw [rounds_succ]
 go_wp2
 go_ret
 exact ⟨rfl, rfl⟩
end
section
open Go.RowKit Go.Extern.Stop Go.Stop Go.Extern
abbrev eP (a : Addr) : Value := .iface 394 (.pointer (some a))
theorem zLb (v : Value) (w : World) : (Extern.ReflectliteType.typeOf #[.iface 394 v]).run Tryz.prog w = .ok (.iface 297 (.agg #[.pointer (some ⟨7, 394, none⟩)])) w := by kernel_rfl
def cmpF : Array Value -> Sem Value := Extern.ReflectliteType.method fun t => do Go.Extern.Rtype.noPackHeld "Comparable" t; pure (.bool (<- typeInfo t).comparable)
theorem zGo (w : World) : (cmpF #[.agg #[.pointer (some ⟨7, 394, none⟩)]]).run Tryz.prog w = .ok (.bool true) w := by kernel_rfl
theorem zC0 (v : Value) (w : World) : (Go.method 524 297 v "Comparable").run Tryz.prog w = .ok (371, v) w := by kernel_rfl
theorem zOr : (Tryz.prog.info? 394).map (·.comparable) = some true := by kernel_rfl
theorem zNE : (Tryz.prog.info? 413).map (·.size) = some 1 := by kernel_rfl
theorem zJ3 (a : Addr) (w : World) :
  Calls Tryz.prog 104 #[eP a, eP a] w fun e w' => e = .returned (.bool true) /\ w' = w := by
 obtain ⟨i, hi, hcmp⟩ := Option.map_eq_some_iff.1 zOr
 obtain ⟨j, hj, hjs⟩ := Option.map_eq_some_iff.1 zNE
 have h8 := @run_callFunc_extern Tryz.prog 170 _ Extern.ReflectliteType.typeOf Tryz.func170 (by kernel_rfl) (by kernel_rfl) (by kernel_rfl) (by kernel_rfl)
 have h32 := @run_callFunc_extern Tryz.prog 371 _ cmpF Tryz.func371 (by kernel_rfl) (by kernel_rfl) (by kernel_rfl) (by kernel_rfl)
 have tT := zLb
 have cT := zGo
 have mR := zC0
 have heq := run_eql_iface_ptr_same (P := Tryz.prog) w a Tryz.underlying86 Tryz.underlying394 hi hcmp hj
 go_enter Tryz.func104, Tryz.ntmps104
 go_wp2
 refine wp_loop_rounds 1 ?_
 rw [rounds_succ]
 go_wp2
 go_ret
 exact ⟨rfl, rfl⟩
end
section
open Go.RowKit
section
variable {P : Program} {ops : Array Oper} {Q : Exit -> Act -> List Frame -> World -> Prop} {md : Region.Mode}
def zAo (P : Program) (ops : Array Oper) (Q : Exit -> Act -> List Frame -> World -> Prop) (i : Nat) (K : Act -> List Frame -> World -> Prop) (a : Act) (cs : List Frame) (w : World) : Prop :=
 match ops[i]? with
 | none => K a cs w
 | some o =>
  if Region.wanted o (yielded ops a.tmps) then
   match (execOp a.eval o).run P w with
   | .ok .recover w' =>
    match recoverD cs with
    | some (v, cs') => K (a.put o.dst v) cs' w'
    | none => K (a.put o.dst .nilIface) cs w'
   | r => o.upon P a (fun a' w' => K a' cs w') (fun e a' w' => Q e a' cs w') r
  else K (a.put o.dst undef) cs w
theorem zH1 (i : Nat) (rest : List Nat) (a : Act) (cs : List Frame) (w : World) : wpOpsS P ops Q (i :: rest) a cs w = zAo P ops Q i (wpOpsS P ops Q rest) a cs w := rfl
theorem zK7 {o : Oper} {a : Act} {K K' : Act -> World -> Prop} {R : Exit -> Act -> World -> Prop} (h : ∀ a w, K a w -> K' a w) (r : Result Next) (hh : o.upon P a K R r) : o.upon P a K' R r := by
 cases r with
 | ok n w' =>
  cases n <;> simp only [Oper.upon] at hh ⊢ <;>
   first
    | exact h _ _ hh
    | exact Calls.mono hh (fun e w'' he => by cases e <;> first | exact h _ _ he | exact he)
    | exact Rows.mono hh (fun _ _ he => h _ _ he)
 | halt x w' => cases x <;> simp only [Oper.upon] at hh ⊢ <;> exact hh
theorem zJF {i : Nat} {a : Act} {cs : List Frame} {w : World} {K K' : Act -> List Frame -> World -> Prop} (h : ∀ a cs w, K a cs w -> K' a cs w) (hh : zAo P ops Q i K a cs w) : zAo P ops Q i K' a cs w := by
 unfold zAo at *
 cases ho : ops[i]? with
 | none => simp only [ho] at hh ⊢; exact h _ _ _ hh
 | some o =>
  simp only [ho] at hh ⊢
  by_cases hw : Region.wanted o (yielded ops a.tmps) = true
  ·simp only [hw, if_true] at hh ⊢
   split at hh
   ·split at hh
    ·exact h _ _ _ hh
    ·exact h _ _ _ hh
   ·exact zK7 (fun a w => h a cs w) _ hh
  ·simp only [hw] at hh ⊢
   exact h _ _ _ hh
def zAi (P : Program) (md : Region.Mode) (ops : Array Oper) (Q : Exit -> Act -> List Frame -> World -> Prop) : Nat -> Array Bool -> Act -> List Frame -> World -> Prop
 | 0, listed, a, cs, w => Region.ready md ops listed = [] /\ Q .normal a cs w
 | fuel + 1, listed, a, cs, w =>
  (Region.ready md ops listed = [] -> Q .normal a cs w) /\
  ∀ i ∈ Region.ready md ops listed, zAo P ops Q i (zAi P md ops Q fuel (listed.setIfInBounds i true)) a cs w
theorem zG7 : ∀ (fuel t : Nat) (listed : Array Bool) (a : Act) (cs : List Frame) (w : World), zAi P md ops Q fuel listed a cs w ->
  wpOpsS P ops Q (Region.linearise.go md ops fuel t listed []) a cs w := by
 intro fuel
 induction fuel with
 | zero => intro t listed a cs w h; simpa [Region.linearise.go, wpOpsS] using h.2
 | succ fuel ih =>
  intro t listed a cs w h
  obtain ⟨h₀, h₁⟩ := h
  simp only [Region.linearise.go]
  change wpOpsS P ops Q (match (Region.ready md ops listed)[t % (Region.ready md ops listed).length]? with
   | some i => Region.linearise.go md ops fuel (t / (Region.ready md ops listed).length) (listed.setIfInBounds i true) [i]
   | none => [].reverse) a cs w
  cases hi : (Region.ready md ops listed)[t % (Region.ready md ops listed).length]? with
  | none =>
   have hnil : Region.ready md ops listed = [] := by
    cases hr : Region.ready md ops listed with
    | nil => rfl
    | cons x xs =>
     rw [hr] at hi
     have hlt : t % (x :: xs).length < (x :: xs).length := Nat.mod_lt _ (by simp)
     simp at hi
     simp at hlt
     omega
   simpa [wpOpsS] using h₀ hnil
  | some i =>
   simp only []
   rw [linearise_go_acc, List.reverse_singleton, List.singleton_append, zH1]
   exact zJF (fun a cs w => ih _ _ a cs w) (h₁ i (List.mem_of_getElem? hi))
theorem zBt {id : Nat} {a : Act} {cs : List Frame} {w : World} (hm : P.follows .mixedOrders = true)
  (h : zAi P .any ops Q ops.size (Array.replicate ops.size false) a cs { w with drawn := w.drawn + 1 }) : (Code.region id ops true).wpS P Q a cs w :=
 fun b k hb hr => by
  obtain ⟨e, a', cs', w', q, r⟩ := wp_opsS (Region.schedule (P.follows .mixedOrders) ops (w.tape w.drawn (.order b.fn id))) a cs { w with drawn := w.drawn + 1 } (by
   simp only [Region.schedule, hm, Bool.true_or, if_true]
   exact zG7 ops.size _ _ a cs _ h) b k hb hr
  exact ⟨e, a', cs', w', q, .of_steps (.one step_region_draw) r⟩
end
end
end Go.Proofs.YtdpnbemagiekoaaGreatDoor
