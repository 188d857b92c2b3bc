import Derived.Test.YtkmgbicacbalfabDoorBlk
import Derived.Laws.CopyOwn
namespace Go.Proofs.YtkmgbicacbalfabDoor
open Go.RowKit
/-- Numbers that lie in memory. -/
def Inl (w : World) (p : Option Addr) (L : List Int) : Prop := L = [] ∨ ∃ lb lo, p = some ⟨lb, lo, none⟩ ∧ lb < w.heap.size ∧ ∀ j, j < L.length → w.cell? ⟨lb, lo + j, none⟩ = some (.int .i64 (L.getD j 0))
theorem Inl.only {w w' : World} {p : Option Addr} {L : List Int} {P : Nat → Prop} (h : Inl w p L) (ho : Only P w w') (hp : 0 < L.length → ∀ k o, p = some ⟨k, o, none⟩ → ¬ P k) : Inl w' p L := by
  by_cases h0 : 0 < L.length
  · rcases h with h | ⟨lb, lo, e, h1, h2⟩
    · exact .inl h
    · exact .inr ⟨lb, lo, e, Nat.lt_of_lt_of_le h1 ho.size, fun j hj => (World.cell?_of_block (a := ⟨lb, lo + j, none⟩) (ho.2 lb h1 (hp h0 lb lo e))).trans (h2 j hj)⟩
  · exact .inl (List.eq_nil_of_length_eq_zero (by omega))
theorem Inl.below {w w' : World} {B : Nat} {p : Option Addr} {L : List Int} (h : Inl w p L) (hb : Below B w w') (hp : 0 < L.length → ∀ k o, p = some ⟨k, o, none⟩ → k < B) : Inl w' p L := by
  by_cases h0 : 0 < L.length
  · rcases h with h | ⟨lb, lo, e, h1, h2⟩
    · exact .inl h
    · exact .inr ⟨lb, lo, e, Nat.lt_of_lt_of_le h1 hb.size, fun j hj => (hb.cell (p := ⟨lb, lo + j, none⟩) (hp h0 lb lo e)).trans (h2 j hj)⟩
  · exact .inl (List.eq_nil_of_length_eq_zero (by omega))
/-- A copy into a block of one's own: what it holds behind it. -/
theorem wpList_copy_into {w : World} {ops : Array Oper} {rest : List Oper} {o : Oper} {a : Act} {Q : Exit → Act → World → Prop} (hgd : o.guard = none) (d s : Operand) (dT sT : TypeId)
    (ho : o.op = .call { callee := .builtin .copy, args := #[d, s], argTypes := #[dT, sT] }) (elem : TypeId) (hu : Tryd.prog.underlying dT = some (.slice elem)) (hsz : (Tryd.prog.info? elem).map (·.size) = some 1)
    (g off dLen dCap : Nat) (ad : Addr) (sLen sCap : Nat) (hd : a.eval d = .slice (some ⟨g, off, none⟩) dLen dCap) (hs : a.eval s = .slice (some ad) sLen sCap)
    (cur : Array Value) (t : TypeId) (hg : Blk w g cur t) (cs : List Value) (hn : cs.length = Nat.min sLen dLen)
    (hsrc : ∀ j v, cs[j]? = some v → w.cell? (ad.add j) = some v) (hfit : off + cs.length ≤ cur.size) (h1 : ∀ v ∈ cs, v.oneCell' = true)
    (h : ∀ w1, Blk w1 g (cur.toList.take off ++ (cs ++ cur.toList.drop (off + cs.length))).toArray t → Only (fun k => k = g) w w1 → wpList Tryd.prog ops Q rest (a.put o.dst (goInt cs.length)) w1) : wpList Tryd.prog ops Q (o :: rest) a w :=
  wpList_copy_own hgd d s dT sT ho elem hu hsz g off dLen dCap ad sLen sCap hd hs cur t hg cs hn hsrc hfit h1
    (h _ (setRow_heap w g cur _ t _ hg) ⟨⟨rfl, rfl, rfl, by simp [World.setRow], fun k hk => absurd hk (Nat.not_lt_zero k)⟩, fun k _ hn => setRow_other w g k _ hn⟩)
theorem infoI3 : (Tryd.prog.info? 3).map (fun i => (i.zero, i.size, i.bytes)) = some (some (.int .i64 0), 1, 8) := by kernel_rfl
set_option maxRecDepth 100000 in
theorem run_make_i64 (l c : Nat) (hlc : l ≤ c) (hc : c ≤ 17592186044416) (w : World) : (Instr.makeSlice 26 (.int .i64 (l : Int)) (.int .i64 (c : Int))).run Tryd.prog w = .ok (.slice (some ⟨w.heap.size, 0, none⟩) l c) (w.alloc (.cells ((List.replicate c (0 : Int)).map (Value.int .i64)).toArray 3)) := by
  obtain ⟨i0, hi, hz0, hz1, hz2⟩ := info_parts infoI3
  have := run_make (P := Tryd.prog) w 26 3 i0 (.int .i64 0) Tryd.underlying26 hi hz0 .i64 .i64 (l : Int) (c : Int) (by omega) (by omega) (by rw [hz2]; omega) (by omega)
  rw [this, hz1]
  simp only [Int.toNat_natCast, Nat.mul_one]
  congr 3
  apply Array.ext
  · simp [size_madeCells]
  · intro j h1 h2
    simp [madeCells, Value.cells, Nat.mod_one]
set_option maxRecDepth 100000 in
set_option maxHeartbeats 1000000 in
theorem first3_any (w : World) (L : List Int) (p : Option Addr) (c : Nat) (hL : Inl w p L) :
    Calls Tryd.prog 12 #[.slice p L.length c] w fun e w' => e = .returned (.int .i64 (L.getD 0 0)) ∧ w' = w := by
  by_cases h0 : L = []
  · subst h0
    go_enter Tryd.func12, Tryd.ntmps12
    go_wp2
    go_ret
    exact ⟨rfl, rfl⟩
  · rcases hL with h | ⟨lb, lo, rfl, hlt, hc⟩
    · exact absurd h h0
    · have hp : 0 < L.length := List.length_pos_iff.2 h0
      have hc0 := hc 0 hp
      rw [Nat.add_zero] at hc0
      have hne : ((L.length : Int) == 0) = false := by simp; omega
      have i1 : (0 : Int) < (L.length : Int) := by omega
      generalize L.getD 0 0 = z at *
      clear hc
      go_enter Tryd.func12, Tryd.ntmps12
      go_wp2
      go_ret
      exact ⟨rfl, rfl⟩
theorem getD_at (L : List Int) (j : Nat) (hj : j < L.length) : L[j]? = some (L.getD j 0) := by simp [List.getD_eq_getElem?_getD, List.getElem?_eq_getElem hj]
end Go.Proofs.YtkmgbicacbalfabDoor
