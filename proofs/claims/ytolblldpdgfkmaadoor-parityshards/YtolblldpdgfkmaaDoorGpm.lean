import Derived.Test.YtolblldpdgfkmaaDoorGpl
import Derived.Laws.CopyRow
namespace Go.Proofs.YtolblldpdgfkmaaDoor
open Go.RowKit
set_option maxRecDepth 100000
theorem run_copy_str (w : World) (b o dLen dCap m : Nat) (t : ByteArray) (hm : m = min t.size dLen) (ht : w.there b o m) (ty : TypeId) :
    (Builtin.copy_ #[51, 9] ty #[.slice (some ⟨b, o, none⟩) dLen dCap, .string t]).run Tryd.prog w = .ok (.int .i64 m) (w.setCells b o (((nums t).take m).map (Value.int .u8))) := by
  have hmin : Nat.min t.size dLen = m := hm.symm
  have hz : ∀ w, (Go.sizeOf 5).run Tryd.prog w = .ok 1 w := fun w => by kernel_rfl
  have hml : m ≤ t.size := by omega
  have hle : (((nums t).take m).map (Value.int .u8)).length = m := by rw [List.length_map, List.length_take, nums_len]; omega
  have hst := run_storeCells_cells (P := Tryd.prog) b o (((nums t).take m).map (Value.int .u8)) 0 w (by rw [hle]; intro j hj; simpa using (ht j hj).1) (by rw [hle]; intro j hj; simpa using (ht j hj).2) (by
    intro v hv
    obtain ⟨x, _, rfl⟩ := List.mem_map.1 hv
    rfl)
  have he : List.take m (List.map (fun b : UInt8 => Value.int .u8 (b.toNat : Int)) t.data.toList) = ((nums t).take m).map (Value.int .u8) := by
    simp [nums, List.map_take, Function.comp_def]
  simp only [Nat.add_zero] at hst
  simp [Builtin.copy_, run_underlying Tryd.underlying51, Builtin.lenOf, Builtin.firstCells, hz, hmin]
  rw [he, hst, List.map_take]
  rfl
theorem getD_mid (q l : List Int) (i j : Nat) (hi : i + l.length ≤ q.length) : (q.take i ++ l ++ q.drop (i + l.length)).getD j 0 = if j < i then q.getD j 0 else if j < i + l.length then l.getD (j - i) 0 else q.getD j 0 := by
  have hm : min i q.length = i := by omega
  simp only [List.getD_eq_getElem?_getD, List.getElem?_append, List.length_append, List.length_take, hm]
  by_cases h1 : j < i
  · rw [if_pos (by omega), if_pos h1, if_pos h1, List.getElem?_take, if_pos h1]
  · by_cases h2 : j < i + l.length
    · rw [if_pos h2, if_neg h1, if_neg h1, if_pos h2]
    · rw [if_neg h2, if_neg h1, if_neg h2, List.getElem?_drop]
      congr 2
      omega
theorem Arr.mid {w : World} {b o : Nat} {k : IntKind} {q : List Int} (h : Arr w b o k q) (i : Nat) (l' : List Int) (hi : i + l'.length ≤ q.length) :
    Arr (w.setCells b (o + i) (l'.map (Value.int k))) b o k (q.take i ++ l' ++ q.drop (i + l'.length)) := by
  intro j hj
  have hjl : j < q.length := by simp at hj; omega
  refine ⟨?_, by rw [World.frozen?_setCells]; exact (h j hjl).2⟩
  rw [getD_mid _ _ _ _ (by omega)]
  by_cases h1 : j < i
  · rw [World.cell?_setCells_out b _ (o + i) w ⟨b, o + j, none⟩ (by intro _ _; left; simp; omega), (h j hjl).1, if_pos h1]
  · by_cases h2 : j < i + l'.length
    · obtain ⟨m, rfl⟩ : ∃ m, j = i + m := ⟨j - i, by omega⟩
      have hr := World.rangeAt_setCells_same w b (o + i) (l'.map (Value.int k)) (by
        intro x hx
        have hx' : i + x < q.length := by (simp at hx; omega)
        rw [Nat.add_assoc]; exact h.there (i + x) hx')
      have hm : m < l'.length := by omega
      have := hr m (.int k (l'.getD m 0)) (by simp [hm])
      rw [Nat.add_assoc] at this
      rw [this, if_neg h1, if_pos h2, Nat.add_sub_cancel_left]
    · rw [World.cell?_setCells_out b _ (o + i) w ⟨b, o + j, none⟩ (by intro _ _; right; simp; omega), (h j hjl).1, if_neg h1, if_neg h2]
theorem wpList_copy_str {ops : Array Oper} {rest : List Oper} {op : Oper} {a : Act} {w : World} {Q : Exit → Act → World → Prop} (hgd : op.guard = none) (d x : Operand) (hop : op.op = Op.call { callee := Callee.builtin Builtin.copy, args := #[d, x], argTypes := #[51, 9] })
    (b o dLen dCap : Nat) (t : ByteArray) (hd : a.eval d = .slice (some ⟨b, o, none⟩) dLen dCap) (hx : a.eval x = .string t) (m : Nat) (hm : m = min t.size dLen) (ht : w.there b o m)
    (h : ∀ w', w' = w.setCells b o (((nums t).take m).map (Value.int .u8)) → wpList Tryd.prog ops Q rest (a.put op.dst (.int .i64 m)) w') : wpList Tryd.prog ops Q (op :: rest) a w := by
  refine wpList_plain hgd fun K hK => ?_
  have hrun := run_copy_str w b o dLen dCap m t hm ht op.type
  unfold Oper.wp
  simp only [execOp, hop]
  simp [resolve, invoke, builtin, hd, hx, hrun, Result.andThen]
  exact hK _ _ (h _ (by rw [List.map_take]))
theorem zeroS (m : Nat) : (Builtin.zeroCells (Value.string ⟨#[]⟩).cells m).toList = List.replicate m (Value.string ⟨#[]⟩) := by
  apply List.ext_getElem
  · simp [Builtin.zeroCells, Value.cells]
  · intro i h1 h2
    simp [Builtin.zeroCells, Value.cells, Nat.mod_one]
theorem run_app_zero (w : World) (base : Nat) (v : Value) (n m : Nat) (xs : List Value) (hown : w.ownsRow base 9 1 v n xs) (hn1 : 1 ≤ n) (hn : n ≤ 1000) (hm : m ≤ 1000) (hbase : base ≤ w.heap.size) (ty : TypeId) : ∃ v' w', (Builtin.append_ #[22, 3] ty #[v, .int .i64 (m : Int)]).run Tryd.prog w = .ok v' w' ∧ w'.ownsRow base 9 1 v' (n + m) (xs ++ List.replicate m (Value.string ⟨#[]⟩)) ∧ w.grownBy w' v.ownBlock := by
  obtain ⟨i, hi, hz, hsize, hby⟩ := info_parts gr_str
  have hwm : IntKind.i64.wrap (m : Int) = (m : Int) := wrapI_eq _ (by omega) (by omega)
  have hlen : (xs ++ List.replicate m (Value.string ⟨#[]⟩)).length = (n + m) * 1 := by rw [List.length_append, hown.1, List.length_replicate]; omega
  have hneg : ¬ ((m : Int) < 0) := by omega
  have hbig : ¬ (281474976710656 < (m : Int) * 16) := by omega
  rcases hown.2 with ⟨rfl, h0⟩ | ⟨g, cap, cur, rfl, hbg, hg, hnc, hcm, hcs, htake⟩
  · omega
  · by_cases hroom : n + m ≤ cap
    · have hst := run_storeCells_at Tryd.prog g n 9 (List.replicate m (Value.string ⟨#[]⟩)) 0 cur w hg (by rw [List.length_replicate]; omega) (fun x hx => by rw [List.eq_of_mem_replicate hx]; simp [Value.oneCell'])
      simp only [Nat.add_zero, List.length_replicate] at hst
      refine ⟨.slice (some ⟨g, 0, none⟩) (n + m) cap, w.setRow g (cur.toList.take n ++ List.replicate m (Value.string ⟨#[]⟩) ++ cur.toList.drop (n + m)).toArray, ?_, ⟨hlen, .inr ⟨g, cap, _, rfl, hbg, setRow_heap w g cur _ 9 _ hg, hroom, hcm, ?_, ?_⟩⟩, ⟨rfl, rfl, rfl, by simp, fun k _ hk => setRow_other w g k _ (fun e => hk (by simp [Value.ownBlock, e]))⟩⟩
      · by_cases hm0 : m = 0
        · subst hm0
          have hw0 : IntKind.i64.wrap 0 = 0 := wrapI_eq 0 (by omega) (by omega)
          simp [Builtin.append_, run_underlying Tryd.underlying22, run_underlying Tryd.underlying3, sizeOf, typeInfo, hi, hby, asInt, asIntOf, hw0, show n ≤ cap by omega, storeCells]
          rw [setRow_self w g cur 9 (0, 0) hg]
        · simp [Builtin.append_, run_underlying Tryd.underlying22, run_underlying Tryd.underlying3, sizeOf, typeInfo, hi, hsize, hby, hz, zeroValue, asInt, asIntOf, hwm, hneg, hbig, hroom, hm0, Addr.add_lit, zeroS, hst]
      · simp only [List.size_toArray, List.length_append, List.length_take, List.length_drop, Array.length_toList, List.length_replicate]
        omega
      · rw [Nat.mul_one] at htake
        rw [htake, ← hlen]
        exact List.take_left
    · have holds : ∀ j u, xs[j]? = some u → w.drew.cell? ((⟨g, 0, none⟩ : Addr).add j) = some u := hown.cells (g := g) rfl
      have hfo := run_firstCells_some (P := Tryd.prog) w.drew 1 n ⟨g, 0, none⟩ n cap xs hown.1 holds
      have h63' : ¬ (9223372036854775807 < ((n : Int) + (m : Int))) := by omega
      have hfit := growslice_fits (need := n + m) (old := cap) (bytes := 16) (by omega) (by omega)
      have h48' : ¬ (281474976710656 < Builtin.nextslicecap (n + m) cap * 16) := by omega
      have hm0 : m ≠ 0 := by omega
      have hge := grownCap_ge w (n + m) cap 9
      have hcm2 : grownCap w (n + m) cap 9 ≤ maxLen := grownCap_le_maxLen w (n + m) cap 9 (by unfold maxLen; omega)
      refine ⟨.slice (some ⟨w.heap.size, 0, none⟩) (n + m) (grownCap w (n + m) cap 9), w.drew.alloc (.cells (xs.toArray ++ (List.replicate m (Value.string ⟨#[]⟩)).toArray ++ Builtin.zeroCells (Value.string ⟨#[]⟩).cells (grownCap w (n + m) cap 9 - (n + m))) 9), ?_, ⟨hlen, .inr ⟨w.heap.size, _, _, rfl, hbase, heap_alloc_new w.drew _, hge, hcm2, ?_, ?_⟩⟩, ⟨rfl, rfl, rfl, by simp, fun k hk _ => Below.heap_alloc w.drew _ k hk⟩⟩
      · have hzz : Builtin.zeroCells (Value.string ⟨#[]⟩).cells m = (List.replicate m (Value.string ⟨#[]⟩)).toArray := by
          rw [← zeroS]
        simp [Builtin.append_, run_underlying Tryd.underlying22, run_underlying Tryd.underlying3, sizeOf, typeInfo, hi, hsize, hby, hz, zeroValue, asInt, asIntOf, hwm, hneg, hbig, hroom, hm0, h63', h48', Question.forced, hfo, newRow, grownCap, hzz]
      · have hx := hown.1
        simp only [Array.size_append, List.size_toArray, size_zeroCells, List.length_replicate, hx]
        simp [Value.cells]
        omega
      · simp only [Array.toList_append, List.append_assoc]
        rw [← List.append_assoc, ← hlen]
        exact List.take_left
theorem wpList_app_zero (w : World) {ops : Array Oper} {rest : List Oper} {o : Oper} {a : Act} {Q : Exit → Act → World → Prop} (hgd : o.guard = none) (s x : Operand) (ho : o.op = .call { callee := .builtin .append, args := #[s, x], argTypes := #[22, 3] }) (base : Nat) (v : Value) (n m : Nat) (xs : List Value) (hs : a.eval s = v) (hx : a.eval x = .int .i64 (m : Int)) (hown : w.ownsRow base 9 1 v n xs) (hn1 : 1 ≤ n) (hn : n ≤ 1000) (hm : m ≤ 1000) (hbase : base ≤ w.heap.size)
    (h : ∀ v' w', w'.ownsRow base 9 1 v' (n + m) (xs ++ List.replicate m (Value.string ⟨#[]⟩)) → w.grownBy w' v.ownBlock → wpList Tryd.prog ops Q rest (a.put o.dst v') w') : wpList Tryd.prog ops Q (o :: rest) a w := by
  refine wpList_plain hgd fun K hK => ?_
  obtain ⟨v', w', hr, h2, h3⟩ := run_app_zero w base v n m xs hown hn1 hn hm hbase o.type
  unfold Oper.wp execOp
  simp only [ho, resolve, invoke, builtin, Sem.run_bind, Sem.run_pure, Result.andThen_ok, List.map_toArray, List.map_cons, List.map_nil, hs, hx, hr]
  exact hK _ _ (h v' w' h2 h3)
end Go.Proofs.YtolblldpdgfkmaaDoor
