import Derived.Test.YtbnefbncjnfjdaaDoorSpa
import Derived.Lib.AppendStr
namespace Go.Proofs.YtbnefbncjnfjdaaDoor
open Go.RowKit Go.Shelf
theorem run_append_str (w : World) (b sLen sCap : Nat) (s : ByteArray) (hroom : sLen + s.size ≤ sCap) (ht : w.there b sLen s.size) (ty : TypeId) :
    (Builtin.append_ #[37, 9] ty #[.slice (some ⟨b, 0, none⟩) sLen sCap, .string s]).run Tryd.prog w = .ok (.slice (some ⟨b, 0, none⟩) (sLen + s.size) sCap) (w.setCells b sLen ((nums s).map (Value.int .u8))) := by
  obtain ⟨i0, hi, hz0, hz1, hz2⟩ := info_parts info5
  have hf := Lib.run_firstCells_string (P := Tryd.prog) w 1 s
  have hsc : Lib.strCells s = (nums s).map (Value.int .u8) := by simp [Lib.strCells, nums, Function.comp_def]
  have hl : ((nums s).map (Value.int .u8)).length = s.size := by rw [List.length_map, nums_len]
  have hst := run_storeCells_cells (P := Tryd.prog) b sLen ((nums s).map (Value.int .u8)) 0 w (by rw [hl]; intro j hj; simpa using (ht j hj).1) (by rw [hl]; intro j hj; simpa using (ht j hj).2) (by
    intro v hv
    obtain ⟨x, _, rfl⟩ := List.mem_map.1 hv
    rfl)
  simp only [Nat.add_zero] at hst
  rw [hsc] at hf
  have ha : (⟨b, 0, none⟩ : Addr).add sLen = ⟨b, sLen, none⟩ := by rw [Addr.add_mid, Nat.zero_add]
  simp [Builtin.append_, run_underlying Tryd.underlying37, run_underlying Tryd.underlying9, sizeOf, typeInfo, hi, hz1, Builtin.lenOf, hroom, hf, ha, hst]
theorem wpListIn_append_str {F : Fence} {n : Nat} {ops : Array Oper} {rest : List Oper} {op : Oper} {a : Act} {w : World} {Q : Exit → Act → World → Prop} (hgd : op.guard = none) (d x : Operand) (hop : op.op = Op.call { callee := Callee.builtin Builtin.append, args := #[d, x], argTypes := #[37, 9] })
    (b sLen sCap : Nat) (t : ByteArray) (hd : a.eval d = .slice (some ⟨b, 0, none⟩) sLen sCap) (hx : a.eval x = .string t) (hroom : sLen + t.size ≤ sCap) (ht : w.there b sLen t.size)
    (h : ∀ w', w' = w.setCells b sLen ((nums t).map (Value.int .u8)) → wpListIn F n Tryd.prog ops Q rest (a.put op.dst (.slice (some ⟨b, 0, none⟩) (sLen + t.size) sCap)) w') : wpListIn F n Tryd.prog ops Q (op :: rest) a w := by
  refine wpListIn_plain hgd fun K hK => ?_
  have hrun := run_append_str w b sLen sCap t hroom ht op.type
  unfold Oper.wpIn
  refine ⟨?_, ?_⟩
  · simp [Oper.about, hop, resolve, Target.leads, Sem.run_pure]
  · rw [Oper.semAt_plain F _ _ (by rw [hop]; intro c hc'; cases hc')]
    simp [execOp, hop, resolve, invoke, builtin, hd, hx, hrun, Result.andThen]
    exact hK _ _ (h _ rfl)
/-- Between two rounds: the end's box, the given bytes' box, their row. -/
def GInv (w : World) (key : List Int) (r n : Nat) (pre : List Nat) (W : World) : Prop :=
  Boxed W w.heap.size 3 (.int .i64 ((r : Int) + (n : Int))) ∧ Boxed W (w.heap.size + 1 + 1) 37 (.slice (some ⟨w.heap.size + 1, 0, none⟩) (32 * pre.length) (r + n + 32)) ∧
  Arr W (w.heap.size + 1) 0 .u8 (pieces key pre ++ List.replicate (r + n + 32 - 32 * pre.length) 0) ∧ Below w.heap.size w W
theorem GInv.below {w : World} {key : List Int} {r n : Nat} {pre : List Nat} {W W' : World} (h : GInv w key r n pre W) (hb : Below (w.heap.size + 1 + 1 + 1) W W') : GInv w key r n pre W' :=
  ⟨(hb.block _ (by omega)).trans h.1, (hb.block _ (by omega)).trans h.2.1, h.2.2.1.below hb (by omega), h.2.2.2.trans (hb.mono (by omega))⟩
theorem GInv.own {w : World} {key : List Int} {r n : Nat} {pre : List Nat} {W W' : World} {B : Nat} {row : Option Nat} (h : GInv w key r n pre W) (hB : w.heap.size + 1 + 1 + 1 ≤ B) (hg : W.grownBy W' row) (hr : ∀ k, row = some k → B ≤ k) : GInv w key r n pre W' :=
  h.below ⟨hg.os, hg.tape, hg.output, hg.size, fun k hk => hg.block k (by have := h.2.1.lt; omega) (fun e => by have := hr k e.symm; omega)⟩
theorem GInv.add {w : World} {key : List Int} {r n : Nat} {pre : List Nat} {W : World} (h : GInv w key r n pre W) (hr : 32 * pre.length ≤ r + n) (x : Nat) (t : ByteArray) (ht : nums t = pieceP key x) :
    GInv w key r n (pre ++ [x]) ((W.setCells (w.heap.size + 1) (32 * pre.length) ((nums t).map (Value.int .u8))).setCell ⟨w.heap.size + 1 + 1, 0, none⟩ (.slice (some ⟨w.heap.size + 1, 0, none⟩) (32 * pre.length + 32) (r + n + 32))) := by
  have hp := pieces_len key pre
  have ht32 : (nums t).length = 32 := by rw [ht, pieceP_len]
  have hl : (pieces key pre ++ List.replicate (r + n + 32 - 32 * pre.length) (0 : Int)).length = r + n + 32 := by rw [List.length_append, hp, List.length_replicate]; omega
  have T := Touch.setCells ((nums t).map (Value.int .u8)) (32 * pre.length) (Touch.refl (w.heap.size + 1) W)
  have hlt := h.2.1.lt
  refine ⟨?_, ?_, ?_, ?_⟩
  · have h1 : Boxed (W.setCells (w.heap.size + 1) (32 * pre.length) ((nums t).map (Value.int .u8))) w.heap.size 3 (.int .i64 ((r : Int) + (n : Int))) := (T.1.block _ (by omega)).trans h.1
    exact h1.other (by omega) _
  · have h1 : Boxed (W.setCells (w.heap.size + 1) (32 * pre.length) ((nums t).map (Value.int .u8))) (w.heap.size + 1 + 1) 37 (.slice (some ⟨w.heap.size + 1, 0, none⟩) (32 * pre.length) (r + n + 32)) := (T.2 _ (by omega) hlt).trans h.2.1
    have h2 := h1.set (.slice (some ⟨w.heap.size + 1, 0, none⟩) (32 * pre.length + 32) (r + n + 32))
    rw [List.length_append, List.length_singleton, Nat.mul_add, Nat.mul_one]
    exact h2
  · have h1 := h.2.2.1.mid (32 * pre.length) (nums t) (by rw [hl, ht32]; omega)
    rw [Nat.zero_add, List.take_append_of_le_length (by omega), List.take_of_length_le (by omega), ht32, ← hp, ← List.drop_drop, List.drop_left, List.drop_replicate, ht, ← pieces_snoc] at h1
    rw [List.length_append, List.length_singleton, Nat.mul_add, Nat.mul_one, ht, ← hp]
    rw [hp, show r + n + 32 - 32 * pre.length - 32 = r + n + 32 - (32 * pre.length + 32) by omega, ← hp] at h1
    exact h1.other _ _ (.inl (by simp))
  · exact (below_setCells (by omega) _ _ h.2.2.2).setCell (p := ⟨w.heap.size + 1 + 1, 0, none⟩) (by simp; omega) _
end Go.Proofs.YtbnefbncjnfjdaaDoor
