import Derived.Test.YtokaomlhnmbajaaDoorLmb
import Derived.Test.YtokaomlhnmbajaaDoorBsl
import Derived.Laws.AppendOwn
namespace Go.Proofs.YtokaomlhnmbajaaDoor
open Go.RowKit
theorem info3 : (Tryd.prog.info? 3).map (fun i => (i.zero, i.size, i.bytes)) = some (some (.int .i64 0), 1, 8) := by kernel_rfl
/-- The slice v is the call's own, and holds the numbers L. -/
def Isl (w : World) (base : Nat) (v : Value) (L : List Int) : Prop := w.ownsRow base 3 1 v L.length (L.map (Value.int .i64))
theorem Isl.form {w : World} {base : Nat} {v : Value} {L : List Int} (h : Isl w base v L) (hne : 0 < L.length) : ∃ g cap, v = .slice (some ⟨g, 0, none⟩) L.length cap ∧ base ≤ g ∧ g < w.heap.size ∧ Arr w g 0 .i64 L := by
  obtain ⟨_, h | ⟨g, cap, cur, rfl, hg, hh, hn, hc, hs, hx⟩⟩ := h
  · omega
  · rw [Nat.mul_one] at hs hx
    have hcell : ∀ j, w.cell? ⟨g, j, none⟩ = cur[j]? := fun j => cell_of_row w g j cur 3 (0, 0) hh
    have hlt : g < w.heap.size := by
      rcases Nat.lt_or_ge g w.heap.size with h | h
      · exact h
      · rw [Array.getElem?_eq_none h] at hh; cases hh
    have hfr : ∀ j, w.frozen? ⟨g, j, none⟩ = false := fun j => by simp [World.frozen?, hh]
    refine ⟨g, cap, rfl, hg, hlt, fun j hj => ?_⟩
    rw [Nat.zero_add, hcell]
    refine ⟨?_, hfr j⟩
    have e : cur.toList[j]? = (L.map (Value.int .i64))[j]? := by rw [← hx, List.getElem?_take, if_pos hj]
    rw [← Array.getElem?_toList, e]
    simp [hj]
theorem Isl.len {w : World} {base : Nat} {v : Value} {L : List Int} (h : Isl w base v L) : ∃ a cap, v = .slice a L.length cap := by
  obtain ⟨_, ⟨rfl, h0⟩ | ⟨g, cap, cur, rfl, _⟩⟩ := h
  · exact ⟨none, 0, by rw [h0]⟩
  · exact ⟨_, cap, rfl⟩
theorem wpList_appI (w : World) {ops : Array Oper} {rest : List Oper} {o : Oper} {a : Act} {Q : Exit → Act → World → Prop}
    (hg : o.guard = none) (s x : Operand) (hop : o.op = Op.call { callee := Callee.builtin Builtin.append, args := #[s, x], argTypes := #[28, 28] })
    (base : Nat) (v : Value) (L : List Int) (hs : a.eval s = v) (hB : Isl w base v L) (hbase : base ≤ w.heap.size)
    (g : Nat) (y : Int) (hx : a.eval x = .slice (some ⟨g, 0, none⟩) 1 1) (hc : w.cell? ⟨g, 0, none⟩ = some (.int .i64 y)) (hsz : L.length < 100)
    (h : ∀ v' w', Isl w' base v' (L ++ [y]) → Below base w w' → wpList Tryd.prog ops Q rest (a.put o.dst v') w') : wpList Tryd.prog ops Q (o :: rest) a w := by
  obtain ⟨i0, hi, hz0, hz1, hz2⟩ := info_parts info3
  refine wpList_append_own w hg s x 28 hop base 3 i0 (.int .i64 0) 1 8 Tryd.underlying28 hi hz0 hz1 hz2 rfl (by decide) v L.length (L.map (Value.int .i64)) hs hB ⟨g, 0, none⟩ 1 1 [.int .i64 y] hx rfl (fun j u hu => ?_) (by simp [Value.oneCell']) (by unfold maxLen; omega) (by omega) hbase (fun v' w' ho hgr _ => ?_)
  · cases j with
    | zero => simp at hu; subst hu; rw [Addr.add_mid]; exact hc
    | succ j => simp at hu
  · refine h v' w' (by simpa [Isl] using ho) ((Below.refl base w).grown hgr hbase (fun k hk => (World.ownsRow.lt hB k hk).1))
set_option maxRecDepth 100000 in
set_option maxHeartbeats 400000 in
theorem limbs_any (n : Int) (h0 : 0 ≤ n) (h1 : n < 9223372036854775808) (w : World) :
    Calls Tryd.prog 42 #[.int .i64 n] w fun e w' => ∃ v, e = .returned v ∧ Isl w' w.heap.size v (limbsOf n) ∧ Below w.heap.size w w' := by
  go_enter Tryd.func42, Tryd.ntmps42
  go_wp2
  go_loopw [0, 3, 4] (fun nv v i wr => ∃ (k : Nat), k ≤ 4 ∧ i = .int .i64 (k : Int) ∧ nv = .int .i64 (n / 65536 ^ k) ∧ Isl wr w.heap.size v ((limbsOf n).take k) ∧ Below w.heap.size w wr) (fun _ _ i _ => 4 - (intOf i).toNat)
  case atStart => exact ⟨0, by omega, rfl, by simp, World.ownsRow_nil _ _ _ _, Below.refl _ _⟩
  case round =>
    obtain ⟨k, hk, rfl, rfl, hI, hb⟩ := hrel
    by_cases hlt : k < 4
    · have hlen : ((limbsOf n).take k).length < 100 := by simp [limbsOf]; omega
      have hts : (limbsOf n).take (k + 1) = (limbsOf n).take k ++ [n / 65536 ^ k % 65536] := by
        rcases (show k = 0 ∨ k = 1 ∨ k = 2 ∨ k = 3 by omega) with rfl | rfl | rfl | rfl <;> simp [limbsOf] <;> omega
      have hds : n / 65536 ^ (k + 1) = n / 65536 ^ k / 65536 := by
        rw [pow_s, Int.ediv_ediv_of_nonneg (Int.le_of_lt (pow_p k))]
      have hx0 : 0 ≤ n / 65536 ^ k := Int.ediv_nonneg h0 (Int.le_of_lt (pow_p k))
      have hx1 : n / 65536 ^ k ≤ n := Int.ediv_le_self _ h0
      generalize n / 65536 ^ k = x at *
      have HI := hide hI
      have HB := hide hb
      have HTS := hide hts
      have HDS := hide hds
      obtain ⟨a, cap, hv⟩ := hI.len
      clear hI hb hts hds
      go_wp2_with (at_builtin; refine wpList_appI (wr.alloc (Obj.cells #[.int .i64 (x % 65536)] 3)) rfl (.tmp 9) (.tmp 12) rfl w.heap.size _ _ rfl ((unhide HI).alloc _) (by have := (unhide HB).size; simp; omega) wr.heap.size (x % 65536) rfl (by simp) hlen ?_; intro v1 W1 hB1 hb1; have HB1 := hide hB1; have Hb1 := hide (((unhide HB).alloc (unhide HB).size _).trans hb1); clear hB1 hb1)
      go_roundw
      case rel => exact ⟨k + 1, by omega, by go_num, by rw [unhide HDS], by rw [unhide HTS]; exact unhide HB1, unhide Hb1⟩
      case measure => simp [intOf]; omega
    · have e4 : k = 4 := by omega
      rw [e4] at hI
      have HI := hide hI
      have HB := hide hb
      clear hI hb e4
      go_wp2
      go_ret
      exact ⟨_, rfl, unhide HI, unhide HB⟩
end Go.Proofs.YtokaomlhnmbajaaDoor
