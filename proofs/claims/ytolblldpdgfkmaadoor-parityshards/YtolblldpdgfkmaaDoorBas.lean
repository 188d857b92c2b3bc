import Derived.Test.YtolblldpdgfkmaaDoorChecked
import Derived.Test.YtolblldpdgfkmaaDoorArr
import Derived.Test.YtolblldpdgfkmaaDoorArrb
import Derived.Deep.RegionLaw
import Derived.Laws.BytesArg
import Derived.ArgAppend
import Derived.Laws.IdiomStrings
import Derived.Lib.AppendStr
import Derived.Laws.BitsAllLaws
import Derived.StillTailTactics
import Derived.Deep.RegionHeld3
import Derived.Deep.RegionWith
namespace Go.Proofs.YtolblldpdgfkmaaDoor
open Go.RowKit
def Bytes (p : List Int) : Prop := ∀ j : Nat, 0 ≤ p.getD j 0 ∧ p.getD j 0 < 256
def nums (t : ByteArray) : List Int := t.data.toList.map (fun x => (x.toNat : Int))
theorem nums_len (t : ByteArray) : (nums t).length = t.size := by rw [nums, List.length_map]; rfl
theorem nums_bytes (t : ByteArray) : Bytes (nums t) := by
  intro j
  simp only [nums, List.getD_eq_getElem?_getD, List.getElem?_map]
  cases t.data.toList[j]? with
  | none => simp
  | some x => have := x.toNat_lt; simp; omega
/-- w' is w but for block b and new blocks. -/
def Touch (b : Nat) (w w' : World) : Prop := Below b w w' ∧ ∀ k, b < k → k < w.heap.size → w'.heap[k]? = w.heap[k]?
theorem Touch.refl (b : Nat) (w : World) : Touch b w w := ⟨Below.refl _ _, fun _ _ _ => rfl⟩
theorem Touch.trans {b : Nat} {w w1 w2 : World} (h : Touch b w w1) (k : Touch b w1 w2) : Touch b w w2 :=
  ⟨h.1.trans k.1, fun j hj hs => (k.2 j hj (Nat.lt_of_lt_of_le hs h.1.size)).trans (h.2 j hj hs)⟩
theorem Touch.of_below {b : Nat} {w w' : World} (h : Below w.heap.size w w') (hb : b ≤ w.heap.size) : Touch b w w' := ⟨h.mono hb, fun k _ hs => h.block k hs⟩
theorem Touch.drew {b : Nat} {w w' : World} (h : Touch b w w') : Touch b w w'.drew := ⟨h.1.drew, h.2⟩
theorem Touch.drewN {b : Nat} {w w' : World} (h : Touch b w w') (n : Nat) : Touch b w (w'.drewN n) := ⟨below_drewN h.1 n, h.2⟩
theorem Touch.setCell {b : Nat} {w w' : World} (h : Touch b w w') (o : Nat) (v : Value) : Touch b w (w'.setCell ⟨b, o, none⟩ v) :=
  ⟨h.1.setCell (Nat.le_refl _) v, fun k hk hs => by rw [Below.heap_setCell _ _ _ _ (by simp; omega)]; exact h.2 k hk hs⟩
theorem Touch.setCells {b : Nat} {w : World} : ∀ (vs : List Value) (o : Nat) {w' : World}, Touch b w w' → Touch b w (w'.setCells b o vs)
  | [], _, _, h => h
  | v :: r, o, w', h => by
    rw [World.setCells]
    exact Touch.setCells r (o + 1) (h.setCell o v)
theorem Touch.cell {b : Nat} {w w' : World} (h : Touch b w w') {c : Nat} (hc : c ≠ b) (hs : c < w.heap.size) (o : Nat) : w'.cell? ⟨c, o, none⟩ = w.cell? ⟨c, o, none⟩ := by
  refine World.cell?_of_block (w := w) ?_
  rcases Nat.lt_or_gt_of_ne hc with h1 | h1
  · exact h.1.block c h1
  · exact h.2 c h1 hs
theorem Touch.frozen {b : Nat} {w w' : World} (h : Touch b w w') {c : Nat} (hc : c ≠ b) (hs : c < w.heap.size) (o : Nat) : w'.frozen? ⟨c, o, none⟩ = w.frozen? ⟨c, o, none⟩ := by
  refine World.frozen?_of_block (w := w) ?_
  rcases Nat.lt_or_gt_of_ne hc with h1 | h1
  · exact h.1.block c h1
  · exact h.2 c h1 hs
theorem Arr.touch {w w' : World} {b c o : Nat} {k : IntKind} {l : List Int} (h : Arr w c o k l) (ht : Touch b w w') (hc : c ≠ b) (hs : c < w.heap.size) : Arr w' c o k l := by
  intro j hj
  rw [ht.cell hc hs, ht.frozen hc hs]
  exact h j hj
theorem bits_u8 (op : BinOp) (x y : Int) : 0 ≤ bits op .u8 x y ∧ bits op .u8 x y < 256 := by
  unfold bits
  simp only [IntKind.wrap_u8']
  exact ⟨Int.emod_nonneg _ (by decide), Int.emod_lt_of_pos _ (by decide)⟩
theorem nums_strOfNums (l : List Int) (h : Bytes l) : nums (strOfNums l) = l := by
  unfold nums
  rw [strOfNums_data, List.map_map]
  apply List.ext_getElem?
  intro j
  have hj := h j
  rw [List.getD_eq_getElem?_getD] at hj
  rw [List.getElem?_map]
  cases e : l[j]? with
  | none => rfl
  | some x =>
    rw [e] at hj
    simp at hj
    simp [UInt8.toNat_ofNat']
    omega
theorem strOfNums_nums (t : ByteArray) : strOfNums (nums t) = t := by
  have : (strOfNums (nums t)).data.toList = t.data.toList := by
    rw [strOfNums_data, nums, List.map_map]
    conv => rhs; rw [← List.map_id t.data.toList]
    apply List.map_congr_left
    intro x _
    simp
  cases t with
  | mk d =>
    cases d with
    | mk dl =>
      have h2 : (strOfNums (nums ⟨⟨dl⟩⟩)) = ⟨⟨(strOfNums (nums ⟨⟨dl⟩⟩)).data.toList⟩⟩ := rfl
      rw [h2, this]
def KeyInv (w : World) (l : List Int) (wr : World) : Prop := Arr wr w.heap.size 0 .u8 l ∧ Below w.heap.size w wr ∧ w.heap.size < wr.heap.size
theorem KeyInv.put {w : World} {l l' : List Int} {wr : World} (h : KeyInv w l wr) (t : Nat) (ht : t < l.length) (v : Int) (e : l.set t v = l') : KeyInv w l' (wr.setCell ⟨w.heap.size, t, none⟩ (.int .u8 v)) := by
  subst e
  exact ⟨h.1.set0 t ht v, h.2.1.setCell (by simp) _, by simpa using h.2.2⟩
theorem index_str (t : ByteArray) (i : Nat) (hi : i < t.size) (w : World) : (Instr.index 9 (.string t) (.int .i64 (i : Int))).run Tryd.prog w = .ok (.int .u8 ((nums t).getD i 0)) w := by
  have h1 : (nums t).getD i 0 = ((t[i]'hi).toNat : Int) := by
    have hl : i < t.data.toList.length := by simpa using hi
    simp only [nums, List.getD_eq_getElem?_getD, List.getElem?_map]
    rw [List.getElem?_eq_getElem hl]
    simp
    rfl
  have h2 : t[i]? = some (t[i]'hi) := by simp [hi]
  rw [h1]
  simp only [Instr.index, asIntOf, Sem.run_bind, Sem.run_pure, Result.andThen_ok, run_underlying Tryd.underlying9]
  have h0 : (0 : Int) ≤ (i : Int) := by omega
  simp [h2]
theorem info5 : (Tryd.prog.info? 5).map (fun i => (i.zero, i.size, i.bytes)) = some (some (.int .u8 0), 1, 1) := by kernel_rfl
set_option maxRecDepth 100000 in
theorem run_make_u8 (l c : Nat) (hlc : l ≤ c) (hc : c ≤ 281474976710656) (w : World) : (Instr.makeSlice 51 (.int .i64 (l : Int)) (.int .i64 (c : Int))).run Tryd.prog w = .ok (.slice (some ⟨w.heap.size, 0, none⟩) l c) (w.alloc (.cells ((List.replicate c (0 : Int)).map (Value.int .u8)).toArray 5)) := by
  obtain ⟨i0, hi, hz0, hz1, hz2⟩ := info_parts info5
  have := run_make (P := Tryd.prog) w 51 5 i0 (.int .u8 0) Tryd.underlying51 hi hz0 .i64 .i64 (l : Int) (c : Int) (by omega) (by omega) (by rw [hz2]; omega) (by omega)
  rw [this, hz1]
  simp only [Int.toNat_natCast, Nat.mul_one]
  congr 3
  apply Array.ext
  · simp [size_madeCells]
  · intro j h1 h2
    simp [madeCells, Value.cells, Nat.mod_one]
/-- A slice of the call's own: block b, from its head; the bytes L; room for 'cap' of them. -/
def Bsl (w : World) (base b cap : Nat) (L : List Int) : Prop :=
  base ≤ b ∧ b < w.heap.size ∧ L.length ≤ cap ∧ cap ≤ maxLen ∧ Arr w b 0 .u8 L ∧ w.there b 0 cap
theorem Bsl.alloc {w : World} {base b cap : Nat} {L : List Int} (h : Bsl w base b cap L) (o : Obj) : Bsl (w.alloc o) base b cap L :=
  ⟨h.1, by simp; have := h.2.1; omega, h.2.2.1, h.2.2.2.1, h.2.2.2.2.1.alloc h.2.1 o, World.there_alloc h.2.2.2.2.2 o⟩
theorem Bsl.of_string (w : World) (t : ByteArray) (ht : t.size ≤ 140737488355328) : ∃ cap W, (convert 9 51 (Value.string t)).run Tryd.prog w = .ok (.slice (some ⟨w.heap.size, 0, none⟩) t.size cap) W ∧ Bsl W w.heap.size w.heap.size cap (nums t) ∧ Below w.heap.size w W := by
  have hrun := run_bytes_of_string (P := Tryd.prog) w 9 51 5 t Tryd.underlying9 Tryd.underlying51 Tryd.underlying5
  have hge := grownCap_ge w t.size 0 5
  have hle := grownCap_le_maxLen w t.size 0 5 (by unfold maxLen; omega)
  refine ⟨_, _, hrun, ?_, ((Below.refl _ w).drew).alloc (Nat.le_refl _) _⟩
  generalize grownCap w t.size 0 5 = cap at *
  have hsz : (bytesRow t cap).size = cap := by
    have : t.data.size = t.size := rfl
    simp [bytesRow, this]; omega
  have hcell : ∀ j, (w.drew.alloc (Obj.cells (bytesRow t cap) 5 ((bytesRow t cap).size, (bytesRow t cap).size + 1))).cell? ⟨w.heap.size, j, none⟩ = (bytesRow t cap)[j]? := fun j => World.cell?_alloc_mark w.drew _ 5 _ j
  have hfr : ∀ j, j < cap → (w.drew.alloc (Obj.cells (bytesRow t cap) 5 ((bytesRow t cap).size, (bytesRow t cap).size + 1))).frozen? ⟨w.heap.size, j, none⟩ = false := fun j hj => by
    have := World.frozen?_alloc_mark w.drew (bytesRow t cap) 5 (bytesRow t cap).size ((bytesRow t cap).size + 1) j
    rw [show (w.drew.heap.size) = w.heap.size from rfl] at this
    rw [this, hsz]
    simp
    omega
  refine ⟨Nat.le_refl _, by simp, by rw [nums_len]; exact hge, hle, fun j hj => ?_, fun j hj => ?_⟩
  · rw [nums_len] at hj
    rw [Nat.zero_add]
    refine ⟨?_, hfr j (by omega)⟩
    have hjd : j < t.data.size := hj
    rw [hcell, bytesRow_at t cap j hjd]
    simp [nums]
    rw [Array.getElem?_eq_getElem hjd]
    rfl
  · rw [Nat.zero_add]
    refine ⟨?_, hfr j hj⟩
    rw [hcell, Array.getElem?_eq_getElem (by omega)]
    rfl
theorem Bsl.snoc {w : World} {base b cap : Nat} {L : List Int} (h : Bsl w base b cap L) (hr : L.length + 1 ≤ cap) (y : Int) : Bsl (w.setCells b L.length [.int .u8 y]) base b cap (L ++ [y]) := by
  obtain ⟨h1, h2, h3, h4, h5, h6⟩ := h
  refine ⟨h1, by rw [size_setCells]; exact h2, by simp; omega, h4, fun j hj => ?_, World.there_setCells h6 _ _ _⟩
  rw [Nat.zero_add]
  simp at hj
  have hf := (h6 j (by omega)).2
  rw [Nat.zero_add] at hf
  refine ⟨?_, by rw [World.frozen?_setCells]; exact hf⟩
  by_cases e : j < L.length
  · rw [World.cell?_setCells_out b _ L.length w ⟨b, j, none⟩ (by intro _ _; left; exact e)]
    have := h5.get j e
    rw [Nat.zero_add] at this
    rw [this]
    simp [List.getElem?_append, e]
  · have hj2 : j = L.length := by omega
    subst hj2
    have hr := World.rangeAt_setCells_same w b L.length [.int .u8 y] (by
      intro x hx
      simp at hx
      subst hx
      have := h6 L.length (by omega)
      rw [Nat.zero_add] at this
      exact this)
    have := hr 0 (.int .u8 y) rfl
    rw [Nat.add_zero] at this
    rw [this]
    simp
theorem Bsl.of_owns {w w' : World} {base : Nat} {v : Value} {L : List Int} (hb : base ≤ w.heap.size) (h : w'.ownsRow w.heap.size 5 1 v L.length (L.map (Value.int .u8))) (hne : 0 < L.length) : ∃ b cap, v = .slice (some ⟨b, 0, none⟩) L.length cap ∧ Bsl w' base b cap L := by
  obtain ⟨_, h | ⟨g, cap, cur, rfl, hg, hh, hn, hc, hs, hx⟩⟩ := h
  · omega
  · rw [Nat.mul_one] at hs hx
    have hcell : ∀ j, w'.cell? ⟨g, j, none⟩ = cur[j]? := fun j => cell_of_row w' g j cur 5 (0, 0) hh
    have hlt : g < w'.heap.size := by
      rcases Nat.lt_or_ge g w'.heap.size with h | h
      · exact h
      · rw [Array.getElem?_eq_none h] at hh; cases hh
    have hfr : ∀ j, w'.frozen? ⟨g, j, none⟩ = false := fun j => by simp [World.frozen?, hh]
    refine ⟨g, cap, rfl, by omega, hlt, hn, hc, fun j hj => ?_, fun j hj => ?_⟩
    · rw [Nat.zero_add, hcell]
      refine ⟨?_, hfr j⟩
      have e : cur.toList[j]? = (L.map (Value.int .u8))[j]? := by rw [← hx, List.getElem?_take, if_pos hj]
      rw [← Array.getElem?_toList, e]
      simp [hj]
    · rw [Nat.zero_add, hcell, Array.getElem?_eq_getElem (by omega)]
      exact ⟨rfl, hfr j⟩
theorem wpList_app1 (w : World) {ops : Array Oper} {rest : List Oper} {o : Oper} {a : Act} {Q : Exit → Act → World → Prop}
    (hg : o.guard = none) (s x : Operand) (hop : o.op = Op.call { callee := Callee.builtin Builtin.append, args := #[s, x], argTypes := #[51, 51] })
    (base b cap : Nat) (L : List Int) (n : Nat) (hn : n = L.length) (hs : a.eval s = .slice (some ⟨b, 0, none⟩) n cap) (hB : Bsl w base b cap L) (hbase : base ≤ w.heap.size)
    (g : Nat) (y : Int) (hx : a.eval x = .slice (some ⟨g, 0, none⟩) 1 1) (hc : w.cell? ⟨g, 0, none⟩ = some (.int .u8 y)) (hsz : n + 1 ≤ 140737488355328)
    (h : ∀ b' cap' w', Bsl w' base b' cap' (L ++ [y]) → Below base w w' → wpList Tryd.prog ops Q rest (a.put o.dst (.slice (some ⟨b', 0, none⟩) (n + 1) cap')) w') : wpList Tryd.prog ops Q (o :: rest) a w := by
  subst hn
  obtain ⟨i0, hi, hz0, hz1, hz2⟩ := info_parts info5
  refine wpList_append_arg w hg s x 51 hop 5 i0 (.int .u8 0) 1 1 Tryd.underlying51 hi hz0 hz1 hz2 rfl (by decide) b 0 L.length cap (L.map (Value.int .u8)) hs (by simp) (fun j u hu => ?_) ⟨g, 0, none⟩ 1 1 [.int .u8 y] hx rfl (fun j u hu => ?_) (by simp [Value.oneCell']) (fun hr j hj => ?_) (by unfold maxLen; omega) (by omega) (fun hr => ?_) (fun _ v' w' ho hgr => ?_)
  · exact hB.2.2.2.2.1.range j u hu
  · cases j with
    | zero => simp at hu; subst hu; rw [Addr.add_mid]; exact hc
    | succ j => simp at hu
  · simp at hj
    subst hj
    have := hB.2.2.2.2.2 L.length (by omega)
    simpa using this
  · have := h b cap _ (hB.snoc hr y) (below_setCells hB.1 _ _ (Below.refl _ _))
    simpa using this
  · have ho2 : w'.ownsRow w.heap.size 5 1 v' (L ++ [y]).length ((L ++ [y]).map (Value.int .u8)) := by simpa using ho
    obtain ⟨b', cap', rfl, hB'⟩ := Bsl.of_owns hbase ho2 (by simp)
    have := h b' cap' w' hB' (((Below.refl w.heap.size w).grown hgr (Nat.le_refl _) (fun k hk => by cases hk)).mono hbase)
    simpa using this
theorem nums_app (a b : ByteArray) : nums (a ++ b) = nums a ++ nums b := by simp [nums, ByteArray.data_append]
theorem str_ne {s t : ByteArray} (h : ¬ s = t) : (s.toList == t.toList) = false := by
  rw [ByteArray.toList_eq, ByteArray.toList_eq]
  simp
  exact fun h2 => h (Go.WideShapes.bytes_inj (by rw [h2]))
def I64 (x : Int) : Prop := -9223372036854775808 ≤ x ∧ x ≤ 9223372036854775807
theorem wrap64_eq (n : Int) (h1 : -9223372036854775808 ≤ n) (h2 : n ≤ 9223372036854775807) : wrap64 n = n := by unfold wrap64; omega
theorem wrapI_eq (n : Int) (h1 : -9223372036854775808 ≤ n) (h2 : n ≤ 9223372036854775807) : IntKind.i64.wrap n = n := by rw [IntKind.wrap_i64]; omega
end Go.Proofs.YtolblldpdgfkmaaDoor
