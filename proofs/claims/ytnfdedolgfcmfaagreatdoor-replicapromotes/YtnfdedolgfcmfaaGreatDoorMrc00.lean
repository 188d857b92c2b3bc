import Derived.WalkKit
import Derived.WalkSmall
import Derived.Deep.MidRow
import Derived.Test.YtnfdedolgfcmfaaGreatDoorChecked
import Derived.Deep.RegionLaw
import Derived.Laws.BytesArg
import Derived.ArgAppend
import Derived.Laws.IdiomStrings
import Derived.Lib.AppendStr
import Derived.Laws.BitsAllLaws
import Derived.StillTailTactics
import Derived.Deep.RegionHeld3
import Derived.Deep.RegionWith
import Derived.Laws.BitsAll
import Derived.WalkSpells
import Derived.WalkLawsBesides
import Derived.RegionTactic
import Derived.Deep.QuietTactic
import Derived.BigQuiet
import Derived.Deep.DeepMust
namespace Go.Proofs.YtnfdedolgfcmfaaGreatDoor
open Go.RowKit

theorem results_cell {fn : Func} {p : Tmp} {ty : TypeId} (h : fn.results = #[.cell p ty]) (tmps : Array Value) (P : Program) (w : World) (ad : Addr) (ha : tmps.getD p undef = .pointer (some ad)) (v : Value) (hl : (loadVar ty ad).run P w = .ok v w) :
    (results fn tmps).run P w = .ok v w := by
  have ha' : tmps[p]?.getD undef = .pointer (some ad) := by simpa using ha
  simp only [results, h]
  simp [ha', asAddr, hl]
theorem hide {p : Prop} (h : p) : Hid p := h
theorem unhide {p : Prop} (h : Hid p) : p := h
/-- In block b, from offset o on, lie the numbers l, of kind k, and may be written. -/
def Arr (w : World) (b o : Nat) (k : IntKind) (l : List Int) : Prop :=
  ∀ j, j < l.length → w.cell? ⟨b, o + j, none⟩ = some (.int k (l.getD j 0)) ∧ w.frozen? ⟨b, o + j, none⟩ = false

theorem Arr.get {w : World} {b o : Nat} {k : IntKind} {l : List Int} (h : Arr w b o k l) (j : Nat) (hj : j < l.length) : w.cell? ⟨b, o + j, none⟩ = some (.int k (l.getD j 0)) := (h j hj).1
theorem Arr.free {w : World} {b o : Nat} {k : IntKind} {l : List Int} (h : Arr w b o k l) (j : Nat) (hj : j < l.length) : w.frozen? ⟨b, o + j, none⟩ = false := (h j hj).2
theorem Arr.get0 {w : World} {b : Nat} {k : IntKind} {l : List Int} (h : Arr w b 0 k l) (j : Nat) (hj : j < l.length) : w.cell? ⟨b, j, none⟩ = some (.int k (l.getD j 0)) := by simpa using (h j hj).1
theorem Arr.free0 {w : World} {b : Nat} {k : IntKind} {l : List Int} (h : Arr w b 0 k l) (j : Nat) (hj : j < l.length) : w.frozen? ⟨b, j, none⟩ = false := by simpa using (h j hj).2
theorem Arr.set {w : World} {b o : Nat} {k : IntKind} {l : List Int} (h : Arr w b o k l) (i : Nat) (hi : i < l.length) (v : Int) : Arr (w.setCell ⟨b, o + i, none⟩ (.int k v)) b o k (l.set i v) := by
  intro j hj
  rw [List.length_set] at hj
  refine ⟨?_, by rw [World.frozen?_setCell]; exact (h j hj).2⟩
  by_cases e : i = j
  · subst e
    rw [World.cell?_setCell_same _ _ _ (h i hi).1]
    simp [hi]
  · rw [World.cell?_setCell_other _ _ _ _ (by simp), (h j hj).1]
    simp [e]
theorem Arr.set0 {w : World} {b : Nat} {k : IntKind} {l : List Int} (h : Arr w b 0 k l) (i : Nat) (hi : i < l.length) (v : Int) : Arr (w.setCell ⟨b, i, none⟩ (.int k v)) b 0 k (l.set i v) := by
  have := h.set i hi v; simpa using this
theorem Arr.other {w : World} {b o : Nat} {k : IntKind} {l : List Int} (h : Arr w b o k l) (a : Addr) (v : Value) (ha : a.block ≠ b ∨ a.off < o ∨ o + l.length ≤ a.off) : Arr (w.setCell a v) b o k l := by
  intro j hj
  refine ⟨?_, by rw [World.frozen?_setCell]; exact (h j hj).2⟩
  rw [World.cell?_setCell_other _ _ _ _ (by intro hh; subst hh; simp at ha; omega), (h j hj).1]
theorem Arr.alloc {w : World} {b o : Nat} {k : IntKind} {l : List Int} (h : Arr w b o k l) (hb : b < w.heap.size) (x : Obj) : Arr (w.alloc x) b o k l := by
  intro j hj
  rw [World.cell?_alloc_past (hn := hb), World.frozen?_alloc_past (hn := hb)]
  exact h j hj
theorem Arr.drew {w : World} {b o : Nat} {k : IntKind} {l : List Int} (h : Arr w b o k l) : Arr w.drew b o k l := h
theorem Arr.drewN {w : World} {b o : Nat} {k : IntKind} {l : List Int} (h : Arr w b o k l) (n : Nat) : Arr (w.drewN n) b o k l := h
theorem Arr.below {w w' : World} {B b o : Nat} {k : IntKind} {l : List Int} (h : Arr w b o k l) (hb : Below B w w') (hB : b < B) : Arr w' b o k l := by
  intro j hj
  rw [hb.cell (p := ⟨b, o + j, none⟩) hB, hb.frozen (p := ⟨b, o + j, none⟩) hB]
  exact h j hj
theorem Arr.range {w : World} {b o : Nat} {k : IntKind} {l : List Int} (h : Arr w b o k l) : w.rangeAt b o (l.map (Value.int k)) := by
  intro j v hv
  rw [List.getElem?_map] at hv
  cases hq : l[j]? with
  | none => simp [hq] at hv
  | some x =>
    obtain ⟨hj, e⟩ := List.getElem?_eq_some_iff.1 hq
    simp [hq] at hv
    rw [(h j hj).1, ← hv]
    simp [hq]
theorem Arr.there {w : World} {b o : Nat} {k : IntKind} {l : List Int} (h : Arr w b o k l) : w.there b o l.length := by
  intro j hj
  exact ⟨by rw [(h j hj).1]; rfl, (h j hj).2⟩
theorem Arr.setCells {w : World} {b o : Nat} {k : IntKind} {l : List Int} (h : Arr w b o k l) (l' : List Int) (hl : l'.length = l.length) : Arr (w.setCells b o (l'.map (Value.int k))) b o k l' := by
  intro j hj
  have hr := World.rangeAt_setCells_same w b o (l'.map (Value.int k)) (by intro i hi; exact h.there i (by simpa [hl] using hi))
  refine ⟨hr j _ (by simp [hj]), ?_⟩
  rw [World.frozen?_setCells]; exact (h j (by omega)).2
theorem Arr.setCells_apart {w : World} {b o : Nat} {k : IntKind} {l : List Int} (h : Arr w b o k l) (b' o' : Nat) (vs : List Value) (hap : b ≠ b' ∨ o + l.length ≤ o' ∨ o' + vs.length ≤ o) : Arr (w.setCells b' o' vs) b o k l := by
  intro j hj
  rw [World.frozen?_setCells, World.cell?_setCells_out b' vs o' w ⟨b, o + j, none⟩ (by intro hb _; simp at hb; simp; omega)]
  exact h j hj
theorem below_setCells {B : Nat} {a : World} {b : Nat} (hb : B ≤ b) : ∀ (vs : List Value) (o : Nat) {w : World}, Below B a w → Below B a (w.setCells b o vs)
  | [], _, _, h => h
  | v :: r, o, w, h => by
    rw [World.setCells]
    exact below_setCells hb r (o + 1) (h.setCell (p := ⟨b, o, none⟩) hb v)
theorem size_setCells {b : Nat} : ∀ (vs : List Value) (o : Nat) (w : World), (w.setCells b o vs).heap.size = w.heap.size
  | [], _, _ => rfl
  | v :: r, o, w => by
    rw [World.setCells, size_setCells r (o + 1)]
    simp
theorem wpList_store_to {P : Program} {ops : Array Oper} {rest : List Oper} {op : Oper} {a : Act} {w : World} {Q : Exit → Act → World → Prop} (hgd : op.guard = none) (ty : TypeId) (x y : Operand) (ho : op.op = .store ty x y)
    (b o : Nat) (cells : Array Value) (hx : a.eval x = .pointer (some ⟨b, o, none⟩)) (hy : a.eval y = .agg cells)
    (ht : w.there b o cells.size) (hi : (P.info? ty).map (·.size) = some cells.size) (h1 : cells.all (·.oneCell') = true)
    (h : ∀ w', w' = w.setCells b o cells.toList → wpList P ops Q rest (a.put op.dst undef) w') : wpList P ops Q (op :: rest) a w :=
  wpList_store_mid hgd ty x y ho b o cells hx hy ht hi h1 (h _ rfl)
theorem one_ints (k : IntKind) (l : List Int) : (l.map (Value.int k)).toArray.all (·.oneCell') = true := all_oneCell_toArray (by simp [Value.oneCell'])
theorem arr_new (w : World) (k : IntKind) (l : List Int) (t : TypeId) (c : Array Value) (hc : c = (l.map (Value.int k)).toArray) : Arr (w.alloc (.cells c t)) w.heap.size 0 k l := by
  subst hc
  intro j hj
  rw [World.cell?_alloc_at (hn := rfl), World.frozen?_alloc_at (hn := rfl)]
  simp [hj]
theorem arr_new_at (w : World) (k : IntKind) (pre l post : List Value) (ll : List Int) (t : TypeId) (c : Array Value) (hl : l = ll.map (Value.int k)) (hc : c = (pre ++ l ++ post).toArray) : Arr (w.alloc (.cells c t)) w.heap.size pre.length k ll := by
  subst hc hl
  intro j hj
  rw [World.cell?_alloc_at (hn := rfl), World.frozen?_alloc_at (hn := rfl)]
  simp [hj, List.getElem?_append]
end Go.Proofs.YtnfdedolgfcmfaaGreatDoor

namespace Go.Proofs.YtnfdedolgfcmfaaGreatDoor
open Go.RowKit
theorem Arr.tail {w : World} {b o : Nat} {k : IntKind} {l : List Int} (h : Arr w b o k l) (i : Nat) (l' : List Int) (hl : i + l'.length = l.length) : Arr (w.setCells b (o + i) (l'.map (Value.int k))) b o k (l.take i ++ l') := by
  intro j hj
  have hjl : j < l.length := by simp at hj; omega
  refine ⟨?_, by rw [World.frozen?_setCells]; exact (h j hjl).2⟩
  by_cases hji : j < i
  · rw [World.cell?_setCells_out b _ (o + i) w ⟨b, o + j, none⟩ (by intro _ _; left; simp; omega), (h j hjl).1]
    simp [List.getElem?_append, hji, hjl, Nat.min_eq_left (show i ≤ l.length by omega)]
  · obtain ⟨m, rfl⟩ : ∃ m, j = i + m := ⟨j - i, by omega⟩
    have hr := World.rangeAt_setCells_same w b (o + i) (l'.map (Value.int k)) (by intro x hx; have hx' : i + x < l.length := by (simp at hx; omega)
                                                                                  rw [Nat.add_assoc]; exact h.there (i + x) hx')
    have hm : m < l'.length := by omega
    have := hr m (.int k (l'.getD m 0)) (by simp [hm])
    rw [Nat.add_assoc] at this
    rw [this]
    have hn : ¬ i + m < i := by omega
    simp [List.getElem?_append, hn, Nat.min_eq_left (show i ≤ l.length by omega)]
end Go.Proofs.YtnfdedolgfcmfaaGreatDoor

namespace Go.Proofs.YtnfdedolgfcmfaaGreatDoor
open Go.RowKit
def Bytes (p : List Int) : Prop := ∀ j : Nat, 0 ≤ p.getD j 0 ∧ p.getD j 0 < 256
def nums (t : ByteArray) : List Int := t.data.toList.map (fun x => (x.toNat : Int))
theorem nums_len (t : ByteArray) : (nums t).length = t.size := by rw [nums, List.length_map]; rfl
theorem nums_bytes (t : ByteArray) : Bytes (nums t) := by
  intro j
  simp only [nums, List.getD_eq_getElem?_getD, List.getElem?_map]
  cases t.data.toList[j]? with
  | none => simp
  | some x => have := x.toNat_lt; simp; omega
/-- w' is w but for block b and new blocks. -/
def Touch (b : Nat) (w w' : World) : Prop := Below b w w' ∧ ∀ k, b < k → k < w.heap.size → w'.heap[k]? = w.heap[k]?
theorem Touch.refl (b : Nat) (w : World) : Touch b w w := ⟨Below.refl _ _, fun _ _ _ => rfl⟩
theorem Touch.trans {b : Nat} {w w1 w2 : World} (h : Touch b w w1) (k : Touch b w1 w2) : Touch b w w2 :=
  ⟨h.1.trans k.1, fun j hj hs => (k.2 j hj (Nat.lt_of_lt_of_le hs h.1.size)).trans (h.2 j hj hs)⟩
theorem Touch.of_below {b : Nat} {w w' : World} (h : Below w.heap.size w w') (hb : b ≤ w.heap.size) : Touch b w w' := ⟨h.mono hb, fun k _ hs => h.block k hs⟩
theorem Touch.drew {b : Nat} {w w' : World} (h : Touch b w w') : Touch b w w'.drew := ⟨h.1.drew, h.2⟩
theorem Touch.drewN {b : Nat} {w w' : World} (h : Touch b w w') (n : Nat) : Touch b w (w'.drewN n) := ⟨below_drewN h.1 n, h.2⟩
theorem Touch.setCell {b : Nat} {w w' : World} (h : Touch b w w') (o : Nat) (v : Value) : Touch b w (w'.setCell ⟨b, o, none⟩ v) :=
  ⟨h.1.setCell (Nat.le_refl _) v, fun k hk hs => by rw [Below.heap_setCell _ _ _ _ (by simp; omega)]; exact h.2 k hk hs⟩
theorem Touch.setCells {b : Nat} {w : World} : ∀ (vs : List Value) (o : Nat) {w' : World}, Touch b w w' → Touch b w (w'.setCells b o vs)
  | [], _, _, h => h
  | v :: r, o, w', h => by
    rw [World.setCells]
    exact Touch.setCells r (o + 1) (h.setCell o v)
theorem Touch.cell {b : Nat} {w w' : World} (h : Touch b w w') {c : Nat} (hc : c ≠ b) (hs : c < w.heap.size) (o : Nat) : w'.cell? ⟨c, o, none⟩ = w.cell? ⟨c, o, none⟩ := by
  refine World.cell?_of_block (w := w) ?_
  rcases Nat.lt_or_gt_of_ne hc with h1 | h1
  · exact h.1.block c h1
  · exact h.2 c h1 hs
theorem Touch.frozen {b : Nat} {w w' : World} (h : Touch b w w') {c : Nat} (hc : c ≠ b) (hs : c < w.heap.size) (o : Nat) : w'.frozen? ⟨c, o, none⟩ = w.frozen? ⟨c, o, none⟩ := by
  refine World.frozen?_of_block (w := w) ?_
  rcases Nat.lt_or_gt_of_ne hc with h1 | h1
  · exact h.1.block c h1
  · exact h.2 c h1 hs
theorem Arr.touch {w w' : World} {b c o : Nat} {k : IntKind} {l : List Int} (h : Arr w c o k l) (ht : Touch b w w') (hc : c ≠ b) (hs : c < w.heap.size) : Arr w' c o k l := by
  intro j hj
  rw [ht.cell hc hs, ht.frozen hc hs]
  exact h j hj
theorem nums_strOfNums (l : List Int) (h : Bytes l) : nums (strOfNums l) = l := by
  unfold nums
  rw [strOfNums_data, List.map_map]
  apply List.ext_getElem?
  intro j
  have hj := h j
  rw [List.getD_eq_getElem?_getD] at hj
  rw [List.getElem?_map]
  cases e : l[j]? with
  | none => rfl
  | some x =>
    rw [e] at hj
    simp at hj
    simp [UInt8.toNat_ofNat']
    omega
theorem strOfNums_nums (t : ByteArray) : strOfNums (nums t) = t := by
  have : (strOfNums (nums t)).data.toList = t.data.toList := by
    rw [strOfNums_data, nums, List.map_map]
    conv => rhs; rw [← List.map_id t.data.toList]
    apply List.map_congr_left
    intro x _
    simp
  cases t with
  | mk d =>
    cases d with
    | mk dl =>
      have h2 : (strOfNums (nums ⟨⟨dl⟩⟩)) = ⟨⟨(strOfNums (nums ⟨⟨dl⟩⟩)).data.toList⟩⟩ := rfl
      rw [h2, this]
def KeyInv (w : World) (l : List Int) (wr : World) : Prop := Arr wr w.heap.size 0 .u8 l ∧ Below w.heap.size w wr ∧ w.heap.size < wr.heap.size
theorem KeyInv.put {w : World} {l l' : List Int} {wr : World} (h : KeyInv w l wr) (t : Nat) (ht : t < l.length) (v : Int) (e : l.set t v = l') : KeyInv w l' (wr.setCell ⟨w.heap.size, t, none⟩ (.int .u8 v)) := by
  subst e
  exact ⟨h.1.set0 t ht v, h.2.1.setCell (by simp) _, by simpa using h.2.2⟩
theorem index_str (t : ByteArray) (i : Nat) (hi : i < t.size) (w : World) : (Instr.index 9 (.string t) (.int .i64 (i : Int))).run Tryz.prog w = .ok (.int .u8 ((nums t).getD i 0)) w := by
  have h1 : (nums t).getD i 0 = ((t[i]'hi).toNat : Int) := by
    have hl : i < t.data.toList.length := by simpa using hi
    simp only [nums, List.getD_eq_getElem?_getD, List.getElem?_map]
    rw [List.getElem?_eq_getElem hl]
    simp
    rfl
  have h2 : t[i]? = some (t[i]'hi) := by simp [hi]
  rw [h1]
  simp only [Instr.index, asIntOf, Sem.run_bind, Sem.run_pure, Result.andThen_ok, run_underlying Tryz.underlying9]
  have h0 : (0 : Int) ≤ (i : Int) := by omega
  simp [h2]
theorem info5 : (Tryz.prog.info? 5).map (fun i => (i.zero, i.size, i.bytes)) = some (some (.int .u8 0), 1, 1) := by kernel_rfl
set_option maxRecDepth 100000 in
theorem run_make_u8 (l c : Nat) (hlc : l ≤ c) (hc : c ≤ 281474976710656) (w : World) : (Instr.makeSlice 122 (.int .i64 (l : Int)) (.int .i64 (c : Int))).run Tryz.prog w = .ok (.slice (some ⟨w.heap.size, 0, none⟩) l c) (w.alloc (.cells ((List.replicate c (0 : Int)).map (Value.int .u8)).toArray 5)) := by
  obtain ⟨i0, hi, hz0, hz1, hz2⟩ := info_parts info5
  have := run_make (P := Tryz.prog) w 122 5 i0 (.int .u8 0) Tryz.underlying122 hi hz0 .i64 .i64 (l : Int) (c : Int) (by omega) (by omega) (by rw [hz2]; omega) (by omega)
  rw [this, hz1]
  simp only [Int.toNat_natCast, Nat.mul_one]
  congr 3
  apply Array.ext
  · simp [size_madeCells]
  · intro j h1 h2
    simp [madeCells, Value.cells, Nat.mod_one]
/-- A slice of the call's own: block b, from its head; the bytes L; room for 'cap' of them. -/
def Bsl (w : World) (base b cap : Nat) (L : List Int) : Prop :=
  base ≤ b ∧ b < w.heap.size ∧ L.length ≤ cap ∧ cap ≤ maxLen ∧ Arr w b 0 .u8 L ∧ w.there b 0 cap
theorem Bsl.alloc {w : World} {base b cap : Nat} {L : List Int} (h : Bsl w base b cap L) (o : Obj) : Bsl (w.alloc o) base b cap L :=
  ⟨h.1, by simp; have := h.2.1; omega, h.2.2.1, h.2.2.2.1, h.2.2.2.2.1.alloc h.2.1 o, World.there_alloc h.2.2.2.2.2 o⟩
theorem Bsl.of_string (w : World) (t : ByteArray) (ht : t.size ≤ 140737488355328) : ∃ cap W, (convert 9 122 (Value.string t)).run Tryz.prog w = .ok (.slice (some ⟨w.heap.size, 0, none⟩) t.size cap) W ∧ Bsl W w.heap.size w.heap.size cap (nums t) ∧ Below w.heap.size w W := by
  have hrun := run_bytes_of_string (P := Tryz.prog) w 9 122 5 t Tryz.underlying9 Tryz.underlying122 Tryz.underlying5
  have hge := grownCap_ge w t.size 0 5
  have hle := grownCap_le_maxLen w t.size 0 5 (by unfold maxLen; omega)
  refine ⟨_, _, hrun, ?_, ((Below.refl _ w).drew).alloc (Nat.le_refl _) _⟩
  generalize grownCap w t.size 0 5 = cap at *
  have hsz : (bytesRow t cap).size = cap := by
    have : t.data.size = t.size := rfl
    simp [bytesRow, this]; omega
  have hcell : ∀ j, (w.drew.alloc (Obj.cells (bytesRow t cap) 5 ((bytesRow t cap).size, (bytesRow t cap).size + 1))).cell? ⟨w.heap.size, j, none⟩ = (bytesRow t cap)[j]? := fun j => World.cell?_alloc_mark w.drew _ 5 _ j
  have hfr : ∀ j, j < cap → (w.drew.alloc (Obj.cells (bytesRow t cap) 5 ((bytesRow t cap).size, (bytesRow t cap).size + 1))).frozen? ⟨w.heap.size, j, none⟩ = false := fun j hj => by
    have := World.frozen?_alloc_mark w.drew (bytesRow t cap) 5 (bytesRow t cap).size ((bytesRow t cap).size + 1) j
    rw [show (w.drew.heap.size) = w.heap.size from rfl] at this
    rw [this, hsz]
    simp
    omega
  refine ⟨Nat.le_refl _, by simp, by rw [nums_len]; exact hge, hle, fun j hj => ?_, fun j hj => ?_⟩
  · rw [nums_len] at hj
    rw [Nat.zero_add]
    refine ⟨?_, hfr j (by omega)⟩
    have hjd : j < t.data.size := hj
    rw [hcell, bytesRow_at t cap j hjd]
    simp [nums]
    rw [Array.getElem?_eq_getElem hjd]
    rfl
  · rw [Nat.zero_add]
    refine ⟨?_, hfr j hj⟩
    rw [hcell, Array.getElem?_eq_getElem (by omega)]
    rfl
theorem Bsl.of_owns {w w' : World} {base : Nat} {v : Value} {L : List Int} (hb : base ≤ w.heap.size) (h : w'.ownsRow w.heap.size 5 1 v L.length (L.map (Value.int .u8))) (hne : 0 < L.length) : ∃ b cap, v = .slice (some ⟨b, 0, none⟩) L.length cap ∧ Bsl w' base b cap L := by
  obtain ⟨_, h | ⟨g, cap, cur, rfl, hg, hh, hn, hc, hs, hx⟩⟩ := h
  · omega
  · rw [Nat.mul_one] at hs hx
    have hcell : ∀ j, w'.cell? ⟨g, j, none⟩ = cur[j]? := fun j => cell_of_row w' g j cur 5 (0, 0) hh
    have hlt : g < w'.heap.size := by
      rcases Nat.lt_or_ge g w'.heap.size with h | h
      · exact h
      · rw [Array.getElem?_eq_none h] at hh; cases hh
    have hfr : ∀ j, w'.frozen? ⟨g, j, none⟩ = false := fun j => by simp [World.frozen?, hh]
    refine ⟨g, cap, rfl, by omega, hlt, hn, hc, fun j hj => ?_, fun j hj => ?_⟩
    · rw [Nat.zero_add, hcell]
      refine ⟨?_, hfr j⟩
      have e : cur.toList[j]? = (L.map (Value.int .u8))[j]? := by rw [← hx, List.getElem?_take, if_pos hj]
      rw [← Array.getElem?_toList, e]
      simp [hj]
    · rw [Nat.zero_add, hcell, Array.getElem?_eq_getElem (by omega)]
      exact ⟨rfl, hfr j⟩
theorem nums_app (a b : ByteArray) : nums (a ++ b) = nums a ++ nums b := by simp [nums, ByteArray.data_append]
theorem str_ne {s t : ByteArray} (h : ¬ s = t) : (s.toList == t.toList) = false := by
  rw [ByteArray.toList_eq, ByteArray.toList_eq]
  simp
  exact fun h2 => h (Go.WideShapes.bytes_inj (by rw [h2]))
def I64 (x : Int) : Prop := -9223372036854775808 ≤ x ∧ x ≤ 9223372036854775807
theorem wrap64_eq (n : Int) (h1 : -9223372036854775808 ≤ n) (h2 : n ≤ 9223372036854775807) : wrap64 n = n := by unfold wrap64; omega
theorem wrapI_eq (n : Int) (h1 : -9223372036854775808 ≤ n) (h2 : n ≤ 9223372036854775807) : IntKind.i64.wrap n = n := by rw [IntKind.wrap_i64]; omega
end Go.Proofs.YtnfdedolgfcmfaaGreatDoor

namespace Go.Proofs.YtnfdedolgfcmfaaGreatDoor
open Go.RowKit

/-- Eight words. -/
structure H8 where
  a : Int
  b : Int
  c : Int
  d : Int
  e : Int
  f : Int
  g : Int
  h : Int

def rotr (x n : Int) : Int := bits .or .u32 (x / 2 ^ n.toNat) (IntKind.u32.wrap (x * 2 ^ (32 - n).toNat))
def xr (x y : Int) : Int := bits .xor .u32 x y
def nd (x y : Int) : Int := bits .and .u32 x y
def ad (x y : Int) : Int := (x + y) % 4294967296
def bigS1 (e : Int) : Int := xr (xr (rotr e 6) (rotr e 11)) (rotr e 25)
def bigS0 (a : Int) : Int := xr (xr (rotr a 2) (rotr a 13)) (rotr a 22)
def chv (e f g : Int) : Int := xr (nd e f) (nd (bits .xor .u32 4294967295 e) g)
def majv (a b c : Int) : Int := xr (xr (nd a b) (nd a c)) (nd b c)
def sm1 (x : Int) : Int := xr (xr (rotr x 17) (rotr x 19)) (x / 1024)
def sm0 (y : Int) : Int := xr (xr (rotr y 7) (rotr y 18)) (y / 8)
def word (p : List Int) (t : Nat) : Int := ((p.getD (4 * t) 0 * 256 + p.getD (4 * t + 1) 0) * 256 + p.getD (4 * t + 2) 0) * 256 + p.getD (4 * t + 3) 0
def nextW (l : List Int) (t : Nat) : Int := ad (ad (ad (sm1 (l.getD (t - 2) 0)) (l.getD (t - 7) 0)) (sm0 (l.getD (t - 15) 0))) (l.getD (t - 16) 0)
/-- The first t words of the spread piece. -/
def spr (p : List Int) : Nat → List Int
  | 0 => []
  | t + 1 => spr p t ++ [if t < 16 then word p t else nextW (spr p t) t]
def rnd (s : H8) (k w : Int) : H8 :=
  let t1 := ad (ad (ad (ad s.h (bigS1 s.e)) (chv s.e s.f s.g)) k) w
  let t2 := ad (bigS0 s.a) (majv s.a s.b s.c)
  ⟨ad t1 t2, s.a, s.b, s.c, ad s.d t1, s.e, s.f, s.g⟩
def rnds (s : H8) (ks ws : List Int) : Nat → H8
  | 0 => s
  | n + 1 => rnd (rnds s ks ws n) (ks.getD n 0) (ws.getD n 0)
def add8 (s t : H8) : H8 := ⟨ad s.a t.a, ad s.b t.b, ad s.c t.c, ad s.d t.d, ad s.e t.e, ad s.f t.f, ad s.g t.g, ad s.h t.h⟩
def kWords : List Int := [1116352408, 1899447441, 3049323471, 3921009573, 961987163, 1508970993, 2453635748, 2870763221, 3624381080, 310598401, 607225278, 1426881987, 1925078388, 2162078206, 2614888103, 3248222580, 3835390401, 4022224774, 264347078, 604807628, 770255983, 1249150122, 1555081692, 1996064986, 2554220882, 2821834349, 2952996808, 3210313671, 3336571891, 3584528711, 113926993, 338241895, 666307205, 773529912, 1294757372, 1396182291, 1695183700, 1986661051, 2177026350, 2456956037, 2730485921, 2820302411, 3259730800, 3345764771, 3516065817, 3600352804, 4094571909, 275423344, 430227734, 506948616, 659060556, 883997877, 958139571, 1322822218, 1537002063, 1747873779, 1955562222, 2024104815, 2227730452, 2361852424, 2428436474, 2756734187, 3204031479, 3329325298]
def comp (s : H8) (p : List Int) : H8 := add8 s (rnds s kWords (spr p 64) 64)
def start8 : H8 := ⟨0x6a09e667, 0xbb67ae85, 0x3c6ef372, 0xa54ff53a, 0x510e527f, 0x9b05688c, 0x1f83d9ab, 0x5be0cd19⟩
def padded (l : List Int) : List Int := l ++ [128] ++ List.replicate ((119 - l.length % 64) % 64) 0 ++ (List.range 8).map (fun i => (8 * (l.length : Int)) / 2 ^ (8 * (7 - i)) % 256)
/-- n pieces of a filled text are gone through. -/
def comps (s : H8) (l : List Int) : Nat → H8
  | 0 => s
  | n + 1 => comp (comps s l n) ((l.drop (64 * n)).take 64)
def out4 (x : Int) : List Int := [x / 2 ^ 24 % 256, x / 2 ^ 16 % 256, x / 2 ^ 8 % 256, x % 256]
def outBytes (s : H8) : List Int := out4 s.a ++ out4 s.b ++ out4 s.c ++ out4 s.d ++ out4 s.e ++ out4 s.f ++ out4 s.g ++ out4 s.h
def sha (l : List Int) : List Int := outBytes (comps start8 (padded l) ((padded l).length / 64))
end Go.Proofs.YtnfdedolgfcmfaaGreatDoor

namespace Go.Proofs.YtnfdedolgfcmfaaGreatDoor
open Go.RowKit
def part (p : List Int) (t : Nat) : Nat → Int
  | 0 => 0
  | k + 1 => part p t k * 256 + p.getD (4 * t + k) 0
theorem part_four (p : List Int) (t : Nat) : part p t 4 = word p t := by simp [part, word]
theorem part_bd (p : List Int) (hp : Bytes p) (t : Nat) : ∀ k : Nat, k ≤ 3 → 0 ≤ part p t k ∧ part p t k < 16777216 := by
  intro k hk
  have h0 := hp (4 * t); have h1 := hp (4 * t + 1); have h2 := hp (4 * t + 2)
  rcases (show k = 0 ∨ k = 1 ∨ k = 2 ∨ k = 3 by omega) with rfl | rfl | rfl | rfl <;> simp only [part, Nat.add_zero] <;> omega
theorem or_byte (x b : Int) (h0 : 0 ≤ x) (h1 : x < 16777216) (h2 : 0 ≤ b) (h3 : b < 256) : bits .or .u32 (IntKind.u32.wrap (x * 2 ^ 8)) b = x * 256 + b := by
  obtain ⟨X, rfl⟩ := Int.eq_ofNat_of_zero_le h0
  obtain ⟨B, rfl⟩ := Int.eq_ofNat_of_zero_le h2
  have e : IntKind.u32.wrap ((X : Int) * 2 ^ 8) = ((X * 256 : Nat) : Int) := by rw [IntKind.wrap_u32']; omega
  rw [e, u32_or_nat _ _ (by omega) (by omega)]
  have : X * 256 ||| B = X * 256 + B := by
    have := Nat.shiftLeft_add_eq_or_of_lt (i := 8) (b := B) (by omega) X
    rw [Nat.shiftLeft_eq, show (2 : Nat) ^ 8 = 256 from rfl] at this; exact this.symm
  rw [this]; omega
theorem spr_len (p : List Int) : ∀ t, (spr p t).length = t
  | 0 => rfl
  | t + 1 => by simp [spr, spr_len p t]
theorem getD_set (l : List Int) (i j : Nat) (v : Int) : (l.set i v).getD j 0 = if i = j ∧ i < l.length then v else l.getD j 0 := by
  simp only [List.getD_eq_getElem?_getD, List.getElem?_set]
  by_cases h : i = j
  · by_cases hl : i < l.length
    · simp [h, h ▸ hl]
    · subst h; simp [hl]
  · simp [h]
theorem fill_set (l : List Int) (n : Nat) (v : Int) (h : l.length < n) : (l ++ List.replicate (n - l.length) 0).set l.length v = l ++ [v] ++ List.replicate (n - (l.length + 1)) 0 := by
  obtain ⟨m, hm⟩ : ∃ m, n - l.length = m + 1 := ⟨n - l.length - 1, by omega⟩
  rw [hm, List.replicate_succ, List.set_append, if_neg (by omega)]
  have : n - (l.length + 1) = m := by omega
  simp [this]
def H8.vals (s : H8) : List Int := [s.a, s.b, s.c, s.d, s.e, s.f, s.g, s.h]
theorem take_set (z s : List Int) (i : Nat) (v : Int) (hz : i < z.length) (hs : i < s.length) (hv : v = z.getD i 0) : (z.take i ++ s.drop i).set i v = z.take (i + 1) ++ s.drop (i + 1) := by
  subst hv
  have h1 : (z.take i).length = i := by simp; omega
  rw [List.set_append, if_neg (by omega), h1, Nat.sub_self, List.drop_eq_getElem_cons hs, List.set_cons_zero, List.take_succ_eq_append_getElem hz, List.append_assoc, List.singleton_append]
  congr 2
  simp [hz]
theorem getD_take_drop (z s : List Int) (i : Nat) (hz : i ≤ z.length) : (z.take i ++ s.drop i).getD i 0 = s.getD i 0 := by
  simp [List.getElem?_append, Nat.min_eq_left hz]
theorem add8_vals (s t : H8) : (add8 s t).vals = List.zipWith ad s.vals t.vals := by simp [add8, H8.vals]
end Go.Proofs.YtnfdedolgfcmfaaGreatDoor

namespace Go.Proofs.YtnfdedolgfcmfaaGreatDoor
open Go.RowKit

def SprInv (w : World) (p l : List Int) (wr : World) : Prop :=
  Arr wr w.heap.size 0 .u8 p ∧ Arr wr (w.heap.size + 1 + 1) 0 .u32 l ∧ Arr wr (w.heap.size + 1) 0 .u32 (List.replicate 64 0) ∧ Below w.heap.size w wr

theorem SprInv.drew {w : World} {p l : List Int} {wr : World} (h : SprInv w p l wr) : SprInv w p l wr.drew := ⟨h.1, h.2.1, h.2.2.1, h.2.2.2.drew⟩
theorem SprInv.drewN {w : World} {p l : List Int} {wr : World} (h : SprInv w p l wr) (n : Nat) : SprInv w p l (wr.drewN n) := ⟨h.1, h.2.1, h.2.2.1, below_drewN h.2.2.2 n⟩
theorem SprInv.put {w : World} {p l l' : List Int} {wr : World} (h : SprInv w p l wr) (t : Nat) (ht : t < l.length) (v : Int) (e : l.set t v = l') : SprInv w p l' (wr.setCell ⟨w.heap.size + 1 + 1, t, none⟩ (.int .u32 v)) := by
  subst e
  exact ⟨h.1.other _ _ (.inl (by simp; omega)), h.2.1.set0 t ht v, h.2.2.1.other _ _ (.inl (by simp)), h.2.2.2.setCell (by simp; omega) _⟩
theorem SprInv.start (w : World) (p : List Int) (c : Array Value) (hc : c = ((List.replicate 64 (0 : Int)).map (Value.int .u32)).toArray) :
    SprInv w p (List.replicate 64 0) (((w.alloc (Obj.cells (List.map (Value.int IntKind.u8) p).toArray 272)).alloc (Obj.cells c 245)).alloc (Obj.cells c 245)) :=
  ⟨((arr_new w .u8 p 272 _ rfl).alloc (by simp) _).alloc (by simp; omega) _, by simpa using arr_new ((w.alloc (Obj.cells (List.map (Value.int IntKind.u8) p).toArray 272)).alloc (Obj.cells c 245)) .u32 (List.replicate 64 0) 245 c hc,
   by simpa using (arr_new (w.alloc (Obj.cells (List.map (Value.int IntKind.u8) p).toArray 272)) .u32 (List.replicate 64 0) 245 c hc).alloc (by simp) (Obj.cells c 245),
   (((Below.refl _ _).alloc (Nat.le_refl _) _).alloc (by simp) _).alloc (by simp; omega) _⟩
theorem or_byte' (x b y : Int) (h0 : 0 ≤ x) (h1 : x < 16777216) (h2 : 0 ≤ b) (h3 : b < 256) (hy : y = x * 256) : bits .or .u32 y b = x * 256 + b := by
  rw [← or_byte x b h0 h1 h2 h3, hy]
  congr 1
  rw [IntKind.wrap_u32']
  omega

theorem size245 : (Tryz.prog.info? 245).map (·.size) = some 64 := by kernel_rfl
theorem size243 : (Tryz.prog.info? 243).map (·.size) = some 8 := by kernel_rfl
theorem size272 : (Tryz.prog.info? 272).map (·.size) = some 64 := by kernel_rfl
theorem hturned_any (x n : Int) (w : World) (h0 : 0 ≤ n) (h1 : n ≤ 32) :
    Calls Tryz.prog 192 #[.int .u32 x, .int .u64 n] w fun e w' => e = .returned (.int .u32 (rotr x n)) ∧ w' = w := by
  go_enter Tryz.func192, Tryz.ntmps192
  go_wp2
  go_ret
  exact ⟨rfl, rfl⟩
set_option maxHeartbeats 1000000 in
theorem spread_any (p : List Int) (hp : p.length = 64) (hb : Bytes p) (w : World) :
    Calls Tryz.prog 191 #[.agg (p.map (Value.int .u8)).toArray] w fun e w' => e = .returned (.agg ((spr p 64).map (Value.int .u32)).toArray) ∧ Below w.heap.size w w' := by
  have HS := hide (SprInv.start w p _ rfl)
  go_enter Tryz.func191, Tryz.ntmps191
  go_wp2
  go_loopw [11] (fun i wr => ∃ t : Nat, t ≤ 16 ∧ i = .int .i64 t ∧ SprInv w p (spr p t ++ List.replicate (64 - t) 0) wr) (fun i _ => 16 - (intOf i).toNat)
  case atStart => exact ⟨0, by omega, rfl, unhide HS⟩
  case round =>
    clear HS
    obtain ⟨t, ht, rfl, hI⟩ := hrel
    by_cases htl : t < 16
    · obtain ⟨wo, rfl⟩ : ∃ wo : World, wo = wr := ⟨_, rfl⟩
      have HI := hide hI
      clear hI
      go_wp2
      go_loopw [14] (fun i wr => ∃ k : Nat, k ≤ 4 ∧ i = .int .i64 k ∧ SprInv w p ((spr p t ++ List.replicate (64 - t) 0).set t (part p t k)) wr) (fun i _ => 4 - (intOf i).toNat)
      case atStart => exact ⟨0, by omega, rfl, by
        have := unhide HI
        have e : (spr p t ++ List.replicate (64 - t) 0).set t (part p t 0) = spr p t ++ List.replicate (64 - t) 0 := by
          apply List.ext_getElem?
          intro i
          rw [List.getElem?_set]
          by_cases h : t = i
          · subst h
            have h1 : t < t + (64 - t) := by omega
            simp [part, spr_len, h1]
          · simp [h]
        rw [e]; exact this⟩
      case round =>
        obtain ⟨k, hk, rfl, hI⟩ := hrel
        by_cases hkl : k < 4
        · have c1 := hI.1.get0 (4 * t + k) (by omega)
          have c2 := hI.2.1.get0 t (by simp [spr_len]; omega)
          rw [getD_set, if_pos ⟨rfl, by simp [spr_len]; omega⟩] at c2
          have f2 := hI.2.1.free0 t (by simp [spr_len]; omega)
          have HI2 := hide hI
          clear hI
          have bd := part_bd p hb t k (by omega)
          have bb := hb (4 * t + k)
          obtain ⟨x, hx⟩ : ∃ x, x = part p t k := ⟨_, rfl⟩
          obtain ⟨y, hy⟩ : ∃ y, y = p.getD (4 * t + k) 0 := ⟨_, rfl⟩
          rw [← hx] at c2 bd
          rw [← hy] at c1 bb
          have HX := hide hx; have HY := hide hy
          clear hx hy
          go_wp2
          go_region
          go_wp2
          go_roundw
          case rel =>
            refine ⟨k + 1, by omega, by go_num, ((unhide HI2).put t (by simp [spr_len]; omega) _ ?_).drew⟩
            rw [List.set_set, or_byte' x y _ bd.1 bd.2 bb.1 bb.2 (by omega)]
            rw [part, unhide HX, unhide HY]
          case measure => simp [intOf]; omega
        · have : k = 4 := by omega
          subst this
          have HI2 := hide hI
          clear hI
          go_wp2
          go_roundw
          case rel =>
            refine ⟨t + 1, by omega, by go_num, ?_⟩
            have := unhide HI2
            rw [part_four] at this
            have e := fill_set (spr p t) 64 (word p t) (by rw [spr_len]; omega)
            rw [spr_len] at e
            rw [e] at this
            rw [spr, if_pos htl]; exact this
          case measure => simp [intOf]; omega
    · have e16 : t = 16 := by omega
      rw [e16] at hI
      have HI2 := hide hI
      clear hI e16
      go_wp2
      go_loopw [6] (fun i wr => ∃ t : Nat, 16 ≤ t ∧ t ≤ 64 ∧ i = .int .i64 t ∧ SprInv w p (spr p t ++ List.replicate (64 - t) 0) wr) (fun i _ => 64 - (intOf i).toNat)
      case atStart => exact ⟨16, by omega, by omega, rfl, unhide HI2⟩
      case round =>
        clear HI2
        clear ht htl
        obtain ⟨t, ht1, ht2, rfl, hI⟩ := hrel
        by_cases htl : t < 64
        · have gd : ∀ j, j < t → (spr p t ++ List.replicate (64 - t) 0).getD j 0 = (spr p t).getD j 0 := by
            intro j hj
            simp [List.getElem?_append, spr_len, hj]
          have hlen : (spr p t ++ List.replicate (64 - t) 0).length = 64 := by simp [spr_len]; omega
          have c2 := hI.2.1.get0 (t - 2) (by omega)
          have c15 := hI.2.1.get0 (t - 15) (by omega)
          have c7 := hI.2.1.get0 (t - 7) (by omega)
          have c16 := hI.2.1.get0 (t - 16) (by omega)
          have c0 := hI.2.1.get0 t (by omega)
          have f0 := hI.2.1.free0 t (by omega)
          rw [gd _ (by omega)] at c2 c15 c7 c16
          obtain ⟨z, hz⟩ : ∃ z, z = (spr p t ++ List.replicate (64 - t) 0).getD t 0 := ⟨_, rfl⟩
          rw [← hz] at c0
          clear hz
          obtain ⟨x2, h2⟩ : ∃ z, z = (spr p t).getD (t - 2) 0 := ⟨_, rfl⟩
          obtain ⟨x15, h15⟩ : ∃ z, z = (spr p t).getD (t - 15) 0 := ⟨_, rfl⟩
          obtain ⟨x7, h7⟩ : ∃ z, z = (spr p t).getD (t - 7) 0 := ⟨_, rfl⟩
          obtain ⟨x16, h16⟩ : ∃ z, z = (spr p t).getD (t - 16) 0 := ⟨_, rfl⟩
          rw [← h2] at c2
          rw [← h15] at c15
          rw [← h7] at c7
          rw [← h16] at c16
          have hn : nextW (spr p t) t = ad (ad (ad (sm1 x2) x7) (sm0 x15)) x16 := by rw [nextW, h2, h15, h7, h16]
          have HN := hide hn
          have HI2 := hide hI
          have HL := hide hlen
          clear hI hlen gd h2 h15 h7 h16 hn
          have e2 : ((t : Int) - 2).toNat = t - 2 := by omega
          have e15 : ((t : Int) - 15).toNat = t - 15 := by omega
          have e7 : ((t : Int) - 7).toNat = t - 7 := by omega
          have e16 : ((t : Int) - 16).toNat = t - 16 := by omega
          go_wp2
          go_quiet (fail)
          go_wp2_with (go_at_call 192; refine (hturned_any _ _ _ (by decide) (by decide)).mono ?_; rintro e w' ⟨rfl, rfl⟩)
          go_region
          go_wp2
          go_roundw
          case rel =>
            refine ⟨t + 1, by omega, by omega, by go_num, ?_⟩
            refine ((unhide HI2).drewN _).put t (by rw [unhide HL]; exact htl) _ ?_
            have e := fill_set (spr p t) 64 (nextW (spr p t) t) (by rw [spr_len]; exact htl)
            rw [spr_len] at e
            rw [spr, if_neg (by omega), ← e, unhide HN]
            congr 1
            simp only [ad, sm1, sm0, xr]
            omega
          case measure => simp [intOf]; omega
        · have e64 : t = 64 := by omega
          rw [e64] at hI
          simp only [Nat.sub_self, List.replicate_zero, List.append_nil] at hI
          obtain ⟨_, hA, hR, hB⟩ := hI
          clear e64
          have hr := hide hA.range
          have ht := hide hR.there
          have HB := hide hB
          clear hA hR hB
          go_wp2_with (first
            | (refine wpList_load_mid rfl 245 (.tmp 3) rfl (w.heap.size + 1 + 1) 0 rfl _ _ (unhide hr) Tryz.underlying245 rfl (by rw [size245]; simp [spr_len]) ?_)
            | (refine wpList_store_mid rfl 245 (.tmp 2) (.tmp 76) rfl (w.heap.size + 1) 0 _ rfl rfl (by simpa [spr_len] using unhide ht) (by rw [size245]; simp [spr_len]) (all_oneCell_toArray (by simp [Value.oneCell'])) ?_))
          have hld := run_loadVar_mid (P := Tryz.prog) _ (w.heap.size + 1) 0 245 _ _ (World.rangeAt_setCells_same wr (w.heap.size + 1) 0 ((spr p 64).map (Value.int .u32)) (by simpa [spr_len] using unhide ht)) Tryz.underlying245 rfl (by rw [size245]; simp [spr_len])
          refine bodyPost_ret (v := .agg ((spr p 64).map (Value.int .u32)).toArray) ?_ rfl ⟨rfl, below_setCells (by omega) _ _ (unhide HB)⟩
          exact results_cell rfl _ _ _ ⟨w.heap.size + 1, 0, none⟩ rfl _ hld
end Go.Proofs.YtnfdedolgfcmfaaGreatDoor
