import Derived.Test.YtilhilglokblpaaDoorBas
import Derived.Test.YtilhilglokblpaaDoorSum
namespace Go.Proofs.YtilhilglokblpaaDoor
open Go.RowKit
def pad64 (k : List Int) : List Int := k ++ List.replicate (64 - k.length) 0
def xb (m x : Int) : Int := bits .xor .u8 x m
def laidK (k : List Int) (m : Int) : List Int := (pad64 k).map (xb m)
theorem pad64_len (k : List Int) (h : k.length ≤ 64) : (pad64 k).length = 64 := by simp [pad64]; omega
theorem laidK_bytes (k : List Int) (m : Int) : Bytes (laidK k m) := by
  intro j
  simp only [laidK, List.getD_eq_getElem?_getD, List.getElem?_map]
  cases (pad64 k)[j]? with
  | none => simp
  | some x => exact bits_u8 .xor x m
theorem Arr.mid {w : World} {b o : Nat} {k : IntKind} {q : List Int} (h : Arr w b o k q) (i : Nat) (l' : List Int) (hi : i + l'.length ≤ q.length) :
    Arr (w.setCells b (o + i) (l'.map (Value.int k))) b o k (q.take i ++ l' ++ q.drop (i + l'.length)) := by
  intro j hj
  have hjl : j < q.length := by simp at hj; omega
  refine ⟨?_, by rw [World.frozen?_setCells]; exact (h j hjl).2⟩
  rw [getD_mid _ _ _ _ (by omega)]
  by_cases h1 : j < i
  · rw [World.cell?_setCells_out b _ (o + i) w ⟨b, o + j, none⟩ (by intro _ _; left; simp; omega), (h j hjl).1, if_pos h1]
  · by_cases h2 : j < i + l'.length
    · obtain ⟨m, rfl⟩ : ∃ m, j = i + m := ⟨j - i, by omega⟩
      have hr := World.rangeAt_setCells_same w b (o + i) (l'.map (Value.int k)) (by
        intro x hx
        have hx' : i + x < q.length := by (simp at hx; omega)
        rw [Nat.add_assoc]; exact h.there (i + x) hx')
      have hm : m < l'.length := by omega
      have := hr m (.int k (l'.getD m 0)) (by simp [hm])
      rw [Nat.add_assoc] at this
      rw [this, if_neg h1, if_pos h2, Nat.add_sub_cancel_left]
    · rw [World.cell?_setCells_out b _ (o + i) w ⟨b, o + j, none⟩ (by intro _ _; right; simp; omega), (h j hjl).1, if_neg h1, if_neg h2]
theorem wpList_copy_str {ops : Array Oper} {rest : List Oper} {op : Oper} {a : Act} {w : World} {Q : Exit → Act → World → Prop} (hgd : op.guard = none) (d x : Operand) (hop : op.op = Op.call { callee := Callee.builtin Builtin.copy, args := #[d, x], argTypes := #[67, 9] })
    (b o dLen dCap : Nat) (t : ByteArray) (hd : a.eval d = .slice (some ⟨b, o, none⟩) dLen dCap) (hx : a.eval x = .string t) (m : Nat) (hm : m = min t.size dLen) (ht : w.there b o m)
    (h : ∀ w', w' = w.setCells b o (((nums t).take m).map (Value.int .u8)) → wpList Tryd.prog ops Q rest (a.put op.dst (.int .i64 m)) w') : wpList Tryd.prog ops Q (op :: rest) a w := by
  refine wpList_plain hgd fun K hK => ?_
  have hrun := run_copy_str w b o dLen dCap m t hm ht op.type
  unfold Oper.wp
  simp only [execOp, hop]
  simp [resolve, invoke, builtin, hd, hx, hrun, Result.andThen]
  exact hK _ _ (h _ (by rw [List.map_take]))
theorem key_start (w W1 : World) (k : List Int) (hk : k.length ≤ 64) (c : Array Value) (hc : c = ((List.replicate 64 (0 : Int)).map (Value.int .u8)).toArray) (hW : W1 = (w.alloc (Obj.cells c 89)).setCells w.heap.size 0 (k.map (Value.int .u8))) : KeyInv w (pad64 k) W1 := by
  subst hW
  have ha := arr_new w .u8 (List.replicate 64 0) 89 c hc
  refine ⟨?_, below_setCells (Nat.le_refl _) _ _ ((Below.refl _ _).alloc (Nat.le_refl _) _), by rw [size_setCells]; simp⟩
  have hm := ha.mid 0 k (by simp; omega)
  have e : (List.replicate 64 (0 : Int)).take 0 ++ k ++ (List.replicate 64 (0 : Int)).drop (0 + k.length) = pad64 k := by simp only [List.take_zero, List.nil_append, Nat.zero_add, List.drop_replicate, pad64]
  rw [e] at hm
  simpa using hm
end Go.Proofs.YtilhilglokblpaaDoor
