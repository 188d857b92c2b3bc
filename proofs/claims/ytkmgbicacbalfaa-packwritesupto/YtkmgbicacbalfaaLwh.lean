import Derived.Test.YtkmgbicacbalfaaBlk
import Derived.Laws.CopyOwn
namespace Go.Proofs.Ytkmgbicacbalfaa
open Go.RowKit
/-- Numbers that lie in memory. -/
def Inl (w : World) (p : Option Addr) (L : List Int) : Prop := L = [] ∨ ∃ lb lo, p = some ⟨lb, lo, none⟩ ∧ lb < w.heap.size ∧ ∀ j, j < L.length → w.cell? ⟨lb, lo + j, none⟩ = some (.int .i64 (L.getD j 0))
theorem Inl.only {w w' : World} {p : Option Addr} {L : List Int} {P : Nat → Prop} (h : Inl w p L) (ho : Only P w w') (hp : 0 < L.length → ∀ k o, p = some ⟨k, o, none⟩ → ¬ P k) : Inl w' p L := by
  by_cases h0 : 0 < L.length
  · rcases h with h | ⟨lb, lo, e, h1, h2⟩
    · exact .inl h
    · exact .inr ⟨lb, lo, e, Nat.lt_of_lt_of_le h1 ho.size, fun j hj => (World.cell?_of_block (a := ⟨lb, lo + j, none⟩) (ho.2 lb h1 (hp h0 lb lo e))).trans (h2 j hj)⟩
  · exact .inl (List.eq_nil_of_length_eq_zero (by omega))
theorem Inl.below {w w' : World} {B : Nat} {p : Option Addr} {L : List Int} (h : Inl w p L) (hb : Below B w w') (hp : 0 < L.length → ∀ k o, p = some ⟨k, o, none⟩ → k < B) : Inl w' p L := by
  by_cases h0 : 0 < L.length
  · rcases h with h | ⟨lb, lo, e, h1, h2⟩
    · exact .inl h
    · exact .inr ⟨lb, lo, e, Nat.lt_of_lt_of_le h1 hb.size, fun j hj => (hb.cell (p := ⟨lb, lo + j, none⟩) (hp h0 lb lo e)).trans (h2 j hj)⟩
  · exact .inl (List.eq_nil_of_length_eq_zero (by omega))
/-- A copy into a block of one's own: what it holds behind it. -/
theorem wpList_copy_into {w : World} {ops : Array Oper} {rest : List Oper} {o : Oper} {a : Act} {Q : Exit → Act → World → Prop} (hgd : o.guard = none) (d s : Operand) (dT sT : TypeId)
    (ho : o.op = .call { callee := .builtin .copy, args := #[d, s], argTypes := #[dT, sT] }) (elem : TypeId) (hu : Try.prog.underlying dT = some (.slice elem)) (hsz : (Try.prog.info? elem).map (·.size) = some 1)
    (g off dLen dCap : Nat) (ad : Addr) (sLen sCap : Nat) (hd : a.eval d = .slice (some ⟨g, off, none⟩) dLen dCap) (hs : a.eval s = .slice (some ad) sLen sCap)
    (cur : Array Value) (t : TypeId) (hg : Blk w g cur t) (cs : List Value) (hn : cs.length = Nat.min sLen dLen)
    (hsrc : ∀ j v, cs[j]? = some v → w.cell? (ad.add j) = some v) (hfit : off + cs.length ≤ cur.size) (h1 : ∀ v ∈ cs, v.oneCell' = true)
    (h : ∀ w1, Blk w1 g (cur.toList.take off ++ (cs ++ cur.toList.drop (off + cs.length))).toArray t → Only (fun k => k = g) w w1 → wpList Try.prog ops Q rest (a.put o.dst (goInt cs.length)) w1) : wpList Try.prog ops Q (o :: rest) a w :=
  wpList_copy_own hgd d s dT sT ho elem hu hsz g off dLen dCap ad sLen sCap hd hs cur t hg cs hn hsrc hfit h1
    (h _ (setRow_heap w g cur _ t _ hg) ⟨⟨rfl, rfl, rfl, by simp [World.setRow], fun k hk => absurd hk (Nat.not_lt_zero k)⟩, fun k _ hn => setRow_other w g k _ hn⟩)
theorem infoI3 : (Try.prog.info? 3).map (fun i => (i.zero, i.size, i.bytes)) = some (some (.int .i64 0), 1, 8) := by kernel_rfl
set_option maxRecDepth 100000 in
theorem run_make_i64 (l c : Nat) (hlc : l ≤ c) (hc : c ≤ 17592186044416) (w : World) : (Instr.makeSlice 37 (.int .i64 (l : Int)) (.int .i64 (c : Int))).run Try.prog w = .ok (.slice (some ⟨w.heap.size, 0, none⟩) l c) (w.alloc (.cells ((List.replicate c (0 : Int)).map (Value.int .i64)).toArray 3)) := by
  obtain ⟨i0, hi, hz0, hz1, hz2⟩ := info_parts infoI3
  have := run_make (P := Try.prog) w 37 3 i0 (.int .i64 0) Try.underlying37 hi hz0 .i64 .i64 (l : Int) (c : Int) (by omega) (by omega) (by rw [hz2]; omega) (by omega)
  rw [this, hz1]
  simp only [Int.toNat_natCast, Nat.mul_one]
  congr 3
  apply Array.ext
  · simp [size_madeCells]
  · intro j h1 h2
    simp [madeCells, Value.cells, Nat.mod_one]
set_option maxRecDepth 100000 in
set_option maxHeartbeats 1000000 in
theorem first3_any (w : World) (L : List Int) (p : Option Addr) (c : Nat) (hL : Inl w p L) :
    Calls Try.prog 23 #[.slice p L.length c] w fun e w' => e = .returned (.int .i64 (L.getD 0 0)) ∧ w' = w := by
  by_cases h0 : L = []
  · subst h0
    go_enter Try.func23, Try.ntmps23
    go_wp2
    go_ret
    exact ⟨rfl, rfl⟩
  · rcases hL with h | ⟨lb, lo, rfl, hlt, hc⟩
    · exact absurd h h0
    · have hp : 0 < L.length := List.length_pos_iff.2 h0
      have hc0 := hc 0 hp
      rw [Nat.add_zero] at hc0
      have hne : ((L.length : Int) == 0) = false := by simp; omega
      have i1 : (0 : Int) < (L.length : Int) := by omega
      generalize L.getD 0 0 = z at *
      clear hc
      go_enter Try.func23, Try.ntmps23
      go_wp2
      go_ret
      exact ⟨rfl, rfl⟩
theorem getD_at (L : List Int) (j : Nat) (hj : j < L.length) : L[j]? = some (L.getD j 0) := by simp [List.getD_eq_getElem?_getD, List.getElem?_eq_getElem hj]
set_option maxRecDepth 100000 in
set_option maxHeartbeats 1000000 in
theorem lent3_nil (w : World) (p : Option Addr) (c : Nat) :
    Calls Try.prog 18 #[.slice p 0 c] w fun e w' => e = .returned (.tuple #[.slice none 0 0, .slice none 0 0]) ∧ w' = w := by
  go_enter Try.func18, Try.ntmps18
  go_wp2
  go_ret2
  exact ⟨rfl, rfl⟩
set_option maxRecDepth 100000 in
set_option maxHeartbeats 1000000 in
theorem lent3_any (w : World) (L : List Int) (lb lo c : Nat) (h0 : 0 < L.length) (hc : ∀ j, j < L.length → w.cell? ⟨lb, lo + j, none⟩ = some (.int .i64 (L.getD j 0))) (hlb : lb < w.heap.size) (hsz : L.length ≤ 1000000000) :
    Calls Try.prog 18 #[.slice (some ⟨lb, lo, none⟩) L.length c] w fun e w' => e = .returned (.tuple #[.slice (some ⟨w.heap.size, 0, none⟩) L.length (L.length + 2), .slice (some ⟨w.heap.size, 0, none⟩) (L.length + 2) (L.length + 2)]) ∧ Blk w' w.heap.size ((L ++ [71, 72]).map (Value.int .i64)).toArray 3 ∧ Below w.heap.size w w' := by
  obtain ⟨n, hn⟩ : ∃ n, n = L.length := ⟨_, rfl⟩
  have hmk : ∀ W : World, (Instr.makeSlice 37 (.int .i64 ((n : Int) + 2)) (.int .i64 ((n : Int) + 2))).run Try.prog W = .ok (.slice (some ⟨W.heap.size, 0, none⟩) (n + 2) (n + 2)) (W.alloc (.cells ((List.replicate (n + 2) (0 : Int)).map (Value.int .i64)).toArray 3)) := fun W => by
    have e : (n : Int) + 2 = ((n + 2 : Nat) : Int) := by omega
    rw [e]
    exact run_make_i64 (n + 2) (n + 2) (Nat.le_refl _) (by omega) W
  obtain ⟨zc, hzc⟩ : ∃ zc : Array Value, zc = ((List.replicate (n + 2) (0 : Int)).map (Value.int .i64)).toArray := ⟨_, rfl⟩
  rw [← hzc] at hmk
  have HC := hide hc
  have HN := hide hn
  have HZ := hide hzc
  rw [← hn] at h0 hsz ⊢
  have hne : ((n : Int) == 0) = false := by simp; omega
  clear hc hn hzc
  go_enter Try.func18, Try.ntmps18
  go_wp2_with (refine wpList_copy_into rfl (.tmp 13) (.tmp 14) 37 37 rfl 3 Try.underlying37 (by kernel_rfl) w.heap.size 0 (n + 2) (n + 2) ⟨lb, lo, none⟩ n c rfl rfl zc 3 (Blk.new w 3 zc) (L.map (Value.int .i64)) (by rw [List.length_map, ← unhide HN]; show n = min n (n + 2); omega) (fun j v hv => by
      rw [List.getElem?_map] at hv
      by_cases hj : j < L.length
      · rw [getD_at L j hj] at hv
        rw [Addr.add_mid, World.cell?_alloc_lt _ _ _ hlb, unhide HC j hj]
        simpa using hv
      · rw [List.getElem?_eq_none (by omega)] at hv
        cases hv) (by rw [List.length_map, ← unhide HN, unhide HZ]; simp) (by simp [Value.oneCell']) ?_)
  intro w1 hB hO
  have hB1 : Blk w1 w.heap.size (L.map (Value.int .i64) ++ [Value.int .i64 0, Value.int .i64 0]).toArray 3 := by
    have e : (L.map (Value.int .i64) ++ zc.toList.drop L.length).toArray = (L.map (Value.int .i64) ++ [Value.int .i64 0, Value.int .i64 0]).toArray := by
      rw [unhide HZ, ← unhide HN]
      simp
    rw [← e]
    exact hB
  have f1 := hB1.frozen n
  have f2 := hB1.frozen (n + 1)
  have c1 : w1.cell? ⟨w.heap.size, n, none⟩ = some (.int .i64 0) := by rw [hB1.cell n]; simp [unhide HN]
  have c2 : w1.cell? ⟨w.heap.size, n + 1, none⟩ = some (.int .i64 0) := by rw [hB1.cell (n + 1)]; simp [unhide HN]
  have i0 : 0 ≤ (n : Int) := by omega
  have i1 : (n : Int) < ((n + 2 : Nat) : Int) := by omega
  have i2 : (n : Int) + 1 < ((n + 2 : Nat) : Int) := by omega
  have i3 : 0 ≤ (n : Int) + 1 := by omega
  have i4 : ((n : Int) + 1).toNat = n + 1 := by omega
  have i5 : (n : Int) ≤ ((n + 2 : Nat) : Int) := by omega
  have hw1 : IntKind.i64.wrap ((n : Int) + 1) = (n : Int) + 1 := wrapI_eq _ (by omega) (by omega)
  have HX := hide (And.intro hB1 hO)
  clear hB hB1 hO hmk
  go_wp2
  go_ret2
  refine ⟨rfl, ?_, ?_⟩
  · have h2 := (((unhide HX).1.set n (.int .i64 71)).set (n + 1) (.int .i64 72))
    have e : (((L.map (Value.int .i64) ++ [Value.int .i64 0, Value.int .i64 0]).toArray.setIfInBounds n (Value.int .i64 71)).setIfInBounds (n + 1) (Value.int .i64 72)) = ((L ++ [71, 72]).map (Value.int .i64)).toArray := by
      have hl : (L.map (Value.int .i64)).length = n := by rw [List.length_map, ← unhide HN]
      generalize hM : L.map (Value.int .i64) = M at *
      subst hl
      simp [hM]
    rw [← e]
    exact h2
  · exact ((((Only.refl (fun k => k = w.heap.size) w).alloc _).trans (unhide HX).2 (fun _ _ q => q)).setCell _ _ (fun _ => rfl)).setCell _ _ (fun _ => rfl) |>.below (Nat.le_refl _) (fun k hk q => by omega)
end Go.Proofs.Ytkmgbicacbalfaa
