import Derived.Test.YtpcmifmgkccfnaaGreatDoorMv10
namespace Go.Proofs.YtpcmifmgkccfnaaGreatDoor
open Go.RowKit
set_option maxRecDepth 100000
def wAdd (r : Rc) (lf : Int) (q : Nat) : Int := if r.th then 111 else if lf < (q : Int) then 114 else 0
def wChg (r : Rc) (m : Int) : Int := if r.th then (if m < -(r.c : Int) then 119 else if (r.q : Int) - (r.c : Int) < m then 112 else 0) else 110
def posV (f : Nat → Nat × Nat) (a : Nat) : Nat → Nat
  | 0 => 0
  | k + 1 => if a < (f k).1 then posV f a k else k + 1
theorem posV_le (f : Nat → Nat × Nat) (a : Nat) : ∀ n, posV f a n ≤ n
  | 0 => Nat.le_refl _
  | k + 1 => by have := posV_le f a k; unfold posV; split <;> omega
theorem posV_hi (f : Nat → Nat × Nat) (a : Nat) : ∀ n i, posV f a n ≤ i → i < n → a < (f i).1
  | 0, i, _, h => absurd h (Nat.not_lt_zero _)
  | k + 1, i, h1, h2 => by
    unfold posV at h1
    split at h1
    · rename_i hk
      by_cases e : i = k
      · rw [e]; exact hk
      · exact posV_hi f a k i h1 (by omega)
    · omega
theorem posV_lo (f : Nat → Nat × Nat) (a : Nat) : ∀ n, posV f a n ≠ 0 → ¬ a < (f (posV f a n - 1)).1
  | 0, h => absurd rfl h
  | k + 1, h => by
    unfold posV at h ⊢
    split
    · rename_i hk
      rw [if_pos hk] at h
      exact posV_lo f a k h
    · rename_i hk
      simpa using hk
def shf (f : Nat → Nat × Nat) (k : Nat) : Nat → Nat × Nat := fun i => if i ≤ k then f i else f (i - 1)
theorem shf_start (f : Nat → Nat × Nat) (n : Nat) (hz : ∀ k, n ≤ k → f k = (0, 0)) : shf f n = f := by
  funext i
  unfold shf
  split
  · rfl
  · rw [hz (i - 1) (by omega), hz i (by omega)]
theorem shf_step (f : Nat → Nat × Nat) (j : Nat) : ups (shf f (j + 1)) (j + 1) (f j) = shf f j := by
  funext i
  unfold ups shf
  by_cases e : i = j + 1
  · subst e; rw [if_pos rfl, if_neg (by omega)]; rfl
  · rw [if_neg e]
    by_cases h : i ≤ j
    · rw [if_pos (by omega), if_pos h]
    · rw [if_neg (by omega), if_neg h]
theorem shf_at (f : Nat → Nat × Nat) (j : Nat) : shf f (j + 1) j = f j := by unfold shf; rw [if_pos (by omega)]
def addF (f : Nat → Nat × Nat) (n a b : Nat) : Nat → Nat × Nat := ups (shf f (posV f a n)) (posV f a n) (a, b)
def Rc.with (r : Rc) (a b : Nat) : Rc := ⟨r.th, r.q, r.c, (List.range (r.v.length + 1)).map (addF r.at r.v.length a b)⟩
theorem with_len (r : Rc) (a b : Nat) : (r.with a b).v.length = r.v.length + 1 := by simp [Rc.with]
theorem with_at (r : Rc) (a b : Nat) : (r.with a b).at = addF r.at r.v.length a b := by
  funext k
  by_cases h : k < r.v.length + 1
  · show ((List.range (r.v.length + 1)).map (addF r.at r.v.length a b)).getD k (0, 0) = _
    rw [List.getD_eq_getElem?_getD, List.getElem?_map, List.getElem?_range h]
    rfl
  · rw [Rc.at_ge _ _ (by rw [with_len]; omega)]
    have := posV_le r.at a r.v.length
    unfold addF ups shf
    rw [if_neg (by omega), if_neg (by omega), r.at_ge _ (by omega)]
theorem rV_with (r : Rc) (a b : Nat) : rV (r.with a b) = rC r.th r.q r.c (r.v.length + 1) (addF r.at r.v.length a b) := by
  unfold rV
  rw [with_len, with_at]
  rfl
theorem ROk.rise {r : Rc} (h : ROk r) : ∀ j i, i < j → j < r.v.length → (r.at i).1 < (r.at j).1
  | 0, i, h1, _ => absurd h1 (Nat.not_lt_zero _)
  | j + 1, i, h1, h2 => by
    have := h.ri j h2
    by_cases e : i = j
    · rw [e]; exact this
    · exact Nat.lt_trans (h.rise j i (by omega) (by omega)) this
theorem ROk.with {r : Rc} (h : ROk r) (ht : r.th = true) (hn : r.v.length < 8) (a b : Nat) (ha : a ≤ 99) (hb : b ≤ 1023) (hx : ∀ k, k < r.v.length → (r.at k).1 ≠ a) : ROk (r.with a b) := by
  have hp := posV_le r.at a r.v.length
  have hi := posV_hi r.at a r.v.length
  have hl := posV_lo r.at a r.v.length
  have hlo : ∀ i, i < posV r.at a r.v.length → (r.at i).1 < a := fun i hi' => by
    have h1 := hl (by omega)
    have h2 := hx (posV r.at a r.v.length - 1) (by omega)
    by_cases e : i = posV r.at a r.v.length - 1
    · rw [e]; omega
    · have := h.rise (posV r.at a r.v.length - 1) i (by omega) (by omega)
      omega
  refine ⟨fun q => (by rw [show (r.with a b).th = r.th from rfl, ht] at q; cases q), h.q, h.c, by rw [with_len]; omega, fun k hk => ?_, fun k hk => ?_⟩
  · rw [with_at]
    unfold addF ups shf
    split
    · exact ⟨ha, hb⟩
    · split
      · exact h.at8 _
      · exact h.at8 _
  · rw [with_len] at hk
    rw [with_at]
    unfold addF
    generalize posV r.at a r.v.length = p at *
    unfold ups shf
    by_cases e1 : k = p
    · rw [if_pos e1, if_neg (by omega), if_neg (by omega)]
      exact hi k (by omega) (by omega)
    · rw [if_neg e1]
      by_cases e2 : k + 1 = p
      · rw [if_pos e2, if_pos (by omega)]
        exact hlo k (by omega)
      · rw [if_neg e2]
        by_cases e3 : k < p
        · rw [if_pos (by omega), if_pos (by omega)]
          exact h.ri k (by omega)
        · rw [if_neg (by omega), if_neg (by omega)]
          have := h.ri (k - 1) (by omega)
          rwa [show k - 1 + 1 = k by omega] at this
set_option maxRecDepth 100000 in
set_option maxHeartbeats 2000000 in
theorem wAdd_any (r : Rc) (lf : Int) (t q a b : Nat) (m : Int) (w : World) : Calls Tryz.prog 81 #[.agg (rV r).toArray, .int .i64 lf, akA t q a b m] w fun e w' => e = .returned (.int .i64 (wAdd r lf q)) ∧ Below w.heap.size w w' := by
  obtain ⟨g, hg⟩ : ∃ g, w.heap.size = g := ⟨_, rfl⟩
  have hxl := rV_len r
  have h0 : (rV r).toArray[0]? = some (.bool r.th) := rfl
  unfold akA wAdd
  generalize rV r = xs at *
  obtain ⟨x1, hx1⟩ : ∃ xx, w.alloc (.cells xs.toArray 88) = xx := ⟨_, rfl⟩
  have hg1 : x1.heap.size = g + 1 := by rw [← hx1, ← hg]; simp
  obtain ⟨x2, hx2⟩ : ∃ xx, x1.alloc (.cells #[.int .i64 (t : Int), .int .i64 (q : Int), .int .i64 (a : Int), .int .i64 (b : Int), .int .i64 m] 107) = xx := ⟨_, rfl⟩
  have B : Blk x2 g xs.toArray 88 := by rw [← hx2, ← hx1, ← hg]; exact (Blk.new w _ _).alloc _
  have BA : Blk x2 (g + 1) #[.int .i64 (t : Int), .int .i64 (q : Int), .int .i64 (a : Int), .int .i64 (b : Int), .int .i64 m] 107 := by rw [← hx2, ← hg1]; exact Blk.new x1 _ _
  have hb : Below g w x2 := by rw [← hx2, ← hx1, ← hg]; exact ((Below.refl _ w).alloc (Nat.le_refl _) _).alloc (by simp) _
  have c0 : x2.cell? ⟨g, 0, none⟩ = some (.bool r.th) := by rw [B.cell]; exact h0
  have k0 : x2.cell? ⟨g + 1, 0, none⟩ = some (.int .i64 (t : Int)) := by rw [BA.cell]; rfl
  have k1 : x2.cell? ⟨g + 1, 1, none⟩ = some (.int .i64 (q : Int)) := by rw [BA.cell]; rfl
  have k2 : x2.cell? ⟨g + 1, 2, none⟩ = some (.int .i64 (a : Int)) := by rw [BA.cell]; rfl
  have k3 : x2.cell? ⟨g + 1, 3, none⟩ = some (.int .i64 (b : Int)) := by rw [BA.cell]; rfl
  have k4 : x2.cell? ⟨g + 1, 4, none⟩ = some (.int .i64 m) := by rw [BA.cell]; rfl
  have HB := hide hb
  clear hb B BA hxl
  cases hth : r.th with
  | true =>
    rw [hth] at c0
    simp only [if_true]
    rw [hg]
    go_enter Tryz.func81, Tryz.ntmps81
    go_wp2
    go_ret
    exact ⟨rfl, unhide HB⟩
  | false =>
    rw [hth] at c0
    simp only [Bool.false_eq_true, if_false]
    by_cases hq : lf < (q : Int)
    · rw [if_pos hq, hg]
      go_enter Tryz.func81, Tryz.ntmps81
      go_wp2
      go_ret
      exact ⟨rfl, unhide HB⟩
    · rw [if_neg hq, hg]
      go_enter Tryz.func81, Tryz.ntmps81
      go_wp2
      go_ret
      exact ⟨rfl, unhide HB⟩
set_option maxRecDepth 100000 in
set_option maxHeartbeats 2000000 in
theorem wChg_any (r : Rc) (h : ROk r) (lf : Int) (t q a b : Nat) (m : Int) (w : World) : Calls Tryz.prog 91 #[.agg (rV r).toArray, .int .i64 lf, akA t q a b m] w fun e w' => e = .returned (.int .i64 (wChg r m)) ∧ Below w.heap.size w w' := by
  obtain ⟨g, hg⟩ : ∃ g, w.heap.size = g := ⟨_, rfl⟩
  have hxl := rV_len r
  have h0 : (rV r).toArray[0]? = some (.bool r.th) := rfl
  have h1 : (rV r).toArray[1]? = some (.int .i64 (r.q : Int)) := rfl
  have h2 : (rV r).toArray[2]? = some (.int .i64 (r.c : Int)) := rfl
  have hc1 := h.c
  have hq1 := h.q
  have hw1 : IntKind.i64.wrap (-(r.c : Int)) = -(r.c : Int) := wrapI_eq _ (by omega) (by omega)
  have hw2 : IntKind.i64.wrap ((r.q : Int) - (r.c : Int)) = (r.q : Int) - (r.c : Int) := wrapI_eq _ (by omega) (by omega)
  unfold akA wChg
  generalize rV r = xs at *
  obtain ⟨x1, hx1⟩ : ∃ xx, w.alloc (.cells xs.toArray 88) = xx := ⟨_, rfl⟩
  have hg1 : x1.heap.size = g + 1 := by rw [← hx1, ← hg]; simp
  obtain ⟨x2, hx2⟩ : ∃ xx, x1.alloc (.cells #[.int .i64 (t : Int), .int .i64 (q : Int), .int .i64 (a : Int), .int .i64 (b : Int), .int .i64 m] 107) = xx := ⟨_, rfl⟩
  have B : Blk x2 g xs.toArray 88 := by rw [← hx2, ← hx1, ← hg]; exact (Blk.new w _ _).alloc _
  have BA : Blk x2 (g + 1) #[.int .i64 (t : Int), .int .i64 (q : Int), .int .i64 (a : Int), .int .i64 (b : Int), .int .i64 m] 107 := by rw [← hx2, ← hg1]; exact Blk.new x1 _ _
  have hb : Below g w x2 := by rw [← hx2, ← hx1, ← hg]; exact ((Below.refl _ w).alloc (Nat.le_refl _) _).alloc (by simp) _
  have c0 : x2.cell? ⟨g, 0, none⟩ = some (.bool r.th) := by rw [B.cell]; exact h0
  have c1 : x2.cell? ⟨g, 1, none⟩ = some (.int .i64 (r.q : Int)) := by rw [B.cell]; exact h1
  have c2 : x2.cell? ⟨g, 2, none⟩ = some (.int .i64 (r.c : Int)) := by rw [B.cell]; exact h2
  have k0 : x2.cell? ⟨g + 1, 0, none⟩ = some (.int .i64 (t : Int)) := by rw [BA.cell]; rfl
  have k1 : x2.cell? ⟨g + 1, 1, none⟩ = some (.int .i64 (q : Int)) := by rw [BA.cell]; rfl
  have k2 : x2.cell? ⟨g + 1, 2, none⟩ = some (.int .i64 (a : Int)) := by rw [BA.cell]; rfl
  have k3 : x2.cell? ⟨g + 1, 3, none⟩ = some (.int .i64 (b : Int)) := by rw [BA.cell]; rfl
  have k4 : x2.cell? ⟨g + 1, 4, none⟩ = some (.int .i64 m) := by rw [BA.cell]; rfl
  have HB := hide hb
  clear hb B BA hxl h
  cases hth : r.th with
  | false =>
    rw [hth] at c0
    simp only [Bool.false_eq_true, if_false]
    rw [hg]
    go_enter Tryz.func91, Tryz.ntmps91
    go_wp2
    go_ret
    exact ⟨rfl, unhide HB⟩
  | true =>
    rw [hth] at c0
    simp only [if_true]
    by_cases hm : m < -(r.c : Int)
    · rw [if_pos hm, hg]
      go_enter Tryz.func91, Tryz.ntmps91
      go_wp2
      go_ret
      exact ⟨rfl, unhide HB⟩
    · rw [if_neg hm]
      by_cases hm2 : (r.q : Int) - (r.c : Int) < m
      · rw [if_pos hm2, hg]
        go_enter Tryz.func91, Tryz.ntmps91
        go_wp2
        go_ret
        exact ⟨rfl, unhide HB⟩
      · rw [if_neg hm2, hg]
        go_enter Tryz.func91, Tryz.ntmps91
        go_wp2
        go_ret
        exact ⟨rfl, unhide HB⟩
set_option maxRecDepth 100000 in
set_option maxHeartbeats 2000000 in
theorem dAdd_any (r : Rc) (t q a b : Nat) (m : Int) (w : World) : Calls Tryz.prog 82 #[.agg (rV r).toArray, akA t q a b m] w fun e w' => e = .returned (.agg (rV ⟨true, q, 0, []⟩).toArray) ∧ Below w.heap.size w w' := by
  obtain ⟨g, hg⟩ : ∃ g, w.heap.size = g := ⟨_, rfl⟩
  have hxl := rV_len r
  unfold akA
  generalize rV r = xs at *
  have hyl := rV_len ⟨true, q, 0, []⟩
  have hyo := rV_one ⟨true, q, 0, []⟩
  have HE0 := hide (show (rV ⟨true, q, 0, []⟩).toArray = #[.bool true, .int .i64 (q : Int), .int .i64 0, .int .i64 0, .int .i64 0, .int .i64 0, .int .i64 0, .int .i64 0, .int .i64 0, .int .i64 0, .int .i64 0, .int .i64 0, .int .i64 0, .int .i64 0, .int .i64 0, .int .i64 0, .int .i64 0, .int .i64 0, .int .i64 0, .int .i64 0] from rfl)
  generalize rV ⟨true, q, 0, []⟩ = ys at *
  obtain ⟨x1, hx1⟩ : ∃ xx, w.alloc (.cells xs.toArray 88) = xx := ⟨_, rfl⟩
  have hg1 : x1.heap.size = g + 1 := by rw [← hx1, ← hg]; simp
  obtain ⟨x2, hx2⟩ : ∃ xx, x1.alloc (.cells #[.int .i64 (t : Int), .int .i64 (q : Int), .int .i64 (a : Int), .int .i64 (b : Int), .int .i64 m] 107) = xx := ⟨_, rfl⟩
  have B : Blk x2 g xs.toArray 88 := by rw [← hx2, ← hx1, ← hg]; exact (Blk.new w _ _).alloc _
  have BA : Blk x2 (g + 1) #[.int .i64 (t : Int), .int .i64 (q : Int), .int .i64 (a : Int), .int .i64 (b : Int), .int .i64 m] 107 := by rw [← hx2, ← hg1]; exact Blk.new x1 _ _
  have hb : Below g w x2 := by rw [← hx2, ← hx1, ← hg]; exact ((Below.refl _ w).alloc (Nat.le_refl _) _).alloc (by simp) _
  have hg2 : x2.heap.size = g + 2 := by rw [← hx2]; simp; omega
  obtain ⟨x3, hx3⟩ : ∃ xx, x2.alloc (.cells #[.bool false, .int .i64 0, .int .i64 0, .int .i64 0, .int .i64 0, .int .i64 0, .int .i64 0, .int .i64 0, .int .i64 0, .int .i64 0, .int .i64 0, .int .i64 0, .int .i64 0, .int .i64 0, .int .i64 0, .int .i64 0, .int .i64 0, .int .i64 0, .int .i64 0, .int .i64 0] 88) = xx := ⟨_, rfl⟩
  have BZ : Blk x3 (g + 2) #[.bool false, .int .i64 0, .int .i64 0, .int .i64 0, .int .i64 0, .int .i64 0, .int .i64 0, .int .i64 0, .int .i64 0, .int .i64 0, .int .i64 0, .int .i64 0, .int .i64 0, .int .i64 0, .int .i64 0, .int .i64 0, .int .i64 0, .int .i64 0, .int .i64 0, .int .i64 0] 88 := by rw [← hx3, ← hg2]; exact Blk.new x2 _ _
  have B3 : Blk x3 g xs.toArray 88 := by rw [← hx3]; exact B.alloc _
  have BA3 : Blk x3 (g + 1) #[.int .i64 (t : Int), .int .i64 (q : Int), .int .i64 (a : Int), .int .i64 (b : Int), .int .i64 m] 107 := by rw [← hx3]; exact BA.alloc _
  have hb3 : Below g w x3 := by rw [← hx3]; exact hb.alloc (by omega) _
  have k0 : x3.cell? ⟨g + 1, 0, none⟩ = some (.int .i64 (t : Int)) := by rw [BA3.cell]; rfl
  have k1 : x3.cell? ⟨g + 1, 1, none⟩ = some (.int .i64 (q : Int)) := by rw [BA3.cell]; rfl
  have k2 : x3.cell? ⟨g + 1, 2, none⟩ = some (.int .i64 (a : Int)) := by rw [BA3.cell]; rfl
  have k3 : x3.cell? ⟨g + 1, 3, none⟩ = some (.int .i64 (b : Int)) := by rw [BA3.cell]; rfl
  have k4 : x3.cell? ⟨g + 1, 4, none⟩ = some (.int .i64 m) := by rw [BA3.cell]; rfl
  have TH := hide (blk_there BZ ys.toArray.size (by simp [hyl]))
  have B4 := setCells_all BZ ys (by simp [hyl])
  have HLD := hide (iload_blk 88 _ B4 Tryz.underlying88 rfl (by rw [sizeRec]; simp [hyl]))
  have HB4 := hide (below_setCells (b := g + 2) (by omega) ys 0 hb3)
  have HYL := hide hyl
  have HYO := hide hyo
  clear hb hb3 B BA B3 BA3 BZ B4 hyl hyo hxl
  rw [hg]
  go_enter Tryz.func82, Tryz.ntmps82
  go_wp2_with (refine wpList_store_mid rfl 88 (.tmp 4) (.tmp 7) rfl (g + 2) 0 ys.toArray rfl (by rw [unhide HE0]; rfl) (unhide TH) (by rw [sizeRec]; simp [unhide HYL]) (unhide HYO) ?_)
  exact bodyPost_ret (v := .agg ys.toArray) (results_cell rfl _ _ _ ⟨g + 2, 0, none⟩ rfl _ (unhide HLD)) rfl ⟨rfl, unhide HB4⟩
set_option maxRecDepth 100000 in
set_option maxHeartbeats 2000000 in
theorem dChg_any (r : Rc) (c' : Nat) (t q a b : Nat) (m : Int) (w : World) (hc : (r.c : Int) + m = (c' : Int)) (hc' : c' ≤ 65535) : Calls Tryz.prog 92 #[.agg (rV r).toArray, akA t q a b m] w fun e w' => e = .returned (.agg (rV ⟨r.th, r.q, c', r.v⟩).toArray) ∧ Below w.heap.size w w' := by
  obtain ⟨g, hg⟩ : ∃ g, w.heap.size = g := ⟨_, rfl⟩
  have hxl := rV_len r
  have h2 : (rV r).toArray[2]? = some (.int .i64 (r.c : Int)) := rfl
  unfold akA
  have hset : (rV r).toArray.setIfInBounds 2 (.int .i64 (c' : Int)) = (rV ⟨r.th, r.q, c', r.v⟩).toArray := rfl
  have hyl := rV_len ⟨r.th, r.q, c', r.v⟩
  have hyo := rV_one ⟨r.th, r.q, c', r.v⟩
  generalize rV ⟨r.th, r.q, c', r.v⟩ = ys at *
  generalize rV r = xs at *
  obtain ⟨x1, hx1⟩ : ∃ xx, w.alloc (.cells xs.toArray 88) = xx := ⟨_, rfl⟩
  have hg1 : x1.heap.size = g + 1 := by rw [← hx1, ← hg]; simp
  obtain ⟨x2, hx2⟩ : ∃ xx, x1.alloc (.cells #[.int .i64 (t : Int), .int .i64 (q : Int), .int .i64 (a : Int), .int .i64 (b : Int), .int .i64 m] 107) = xx := ⟨_, rfl⟩
  have B : Blk x2 g xs.toArray 88 := by rw [← hx2, ← hx1, ← hg]; exact (Blk.new w _ _).alloc _
  have BA : Blk x2 (g + 1) #[.int .i64 (t : Int), .int .i64 (q : Int), .int .i64 (a : Int), .int .i64 (b : Int), .int .i64 m] 107 := by rw [← hx2, ← hg1]; exact Blk.new x1 _ _
  have hb : Below g w x2 := by rw [← hx2, ← hx1, ← hg]; exact ((Below.refl _ w).alloc (Nat.le_refl _) _).alloc (by simp) _
  have hg2 : x2.heap.size = g + 2 := by rw [← hx2]; simp; omega
  obtain ⟨x3, hx3⟩ : ∃ xx, x2.alloc (.cells #[.bool false, .int .i64 0, .int .i64 0, .int .i64 0, .int .i64 0, .int .i64 0, .int .i64 0, .int .i64 0, .int .i64 0, .int .i64 0, .int .i64 0, .int .i64 0, .int .i64 0, .int .i64 0, .int .i64 0, .int .i64 0, .int .i64 0, .int .i64 0, .int .i64 0, .int .i64 0] 88) = xx := ⟨_, rfl⟩
  have BZ : Blk x3 (g + 2) #[.bool false, .int .i64 0, .int .i64 0, .int .i64 0, .int .i64 0, .int .i64 0, .int .i64 0, .int .i64 0, .int .i64 0, .int .i64 0, .int .i64 0, .int .i64 0, .int .i64 0, .int .i64 0, .int .i64 0, .int .i64 0, .int .i64 0, .int .i64 0, .int .i64 0, .int .i64 0] 88 := by rw [← hx3, ← hg2]; exact Blk.new x2 _ _
  have B3 : Blk x3 g xs.toArray 88 := by rw [← hx3]; exact B.alloc _
  have BA3 : Blk x3 (g + 1) #[.int .i64 (t : Int), .int .i64 (q : Int), .int .i64 (a : Int), .int .i64 (b : Int), .int .i64 m] 107 := by rw [← hx3]; exact BA.alloc _
  have hb3 : Below g w x3 := by rw [← hx3]; exact hb.alloc (by omega) _
  have c2 : x3.cell? ⟨g, 2, none⟩ = some (.int .i64 (r.c : Int)) := by rw [B3.cell]; exact h2
  have k0 : x3.cell? ⟨g + 1, 0, none⟩ = some (.int .i64 (t : Int)) := by rw [BA3.cell]; rfl
  have k1 : x3.cell? ⟨g + 1, 1, none⟩ = some (.int .i64 (q : Int)) := by rw [BA3.cell]; rfl
  have k2 : x3.cell? ⟨g + 1, 2, none⟩ = some (.int .i64 (a : Int)) := by rw [BA3.cell]; rfl
  have k3 : x3.cell? ⟨g + 1, 3, none⟩ = some (.int .i64 (b : Int)) := by rw [BA3.cell]; rfl
  have k4 : x3.cell? ⟨g + 1, 4, none⟩ = some (.int .i64 m) := by rw [BA3.cell]; rfl
  have f2 := B3.frozen 2
  obtain ⟨x4, hx4⟩ : ∃ xx, x3.setCell ⟨g, 2, none⟩ (.int .i64 (c' : Int)) = xx := ⟨_, rfl⟩
  have B4 : Blk x4 g ys.toArray 88 := by rw [← hx4, ← hset]; exact B3.set _ _
  have BZ4 : Blk x4 (g + 2) #[.bool false, .int .i64 0, .int .i64 0, .int .i64 0, .int .i64 0, .int .i64 0, .int .i64 0, .int .i64 0, .int .i64 0, .int .i64 0, .int .i64 0, .int .i64 0, .int .i64 0, .int .i64 0, .int .i64 0, .int .i64 0, .int .i64 0, .int .i64 0, .int .i64 0, .int .i64 0] 88 := by rw [← hx4]; exact BZ.other _ _ (by show g ≠ g + 2; omega)
  have hb4 : Below g w x4 := by rw [← hx4]; exact hb3.setCell (Nat.le_refl _) _
  have R4 := hide (blk_range B4)
  have TH := hide (blk_there BZ4 ys.toArray.size (by simp [hyl]))
  have B5 := setCells_all BZ4 ys (by simp [hyl])
  have HLD := hide (iload_blk 88 _ B5 Tryz.underlying88 rfl (by rw [sizeRec]; simp [hyl]))
  have HB4 := hide (below_setCells (b := g + 2) (by omega) ys 0 hb4)
  have HYL := hide hyl
  have HYO := hide hyo
  have hw : IntKind.i64.wrap (c' : Int) = (c' : Int) := wrapI_eq _ (by omega) (by omega)
  generalize (r.c : Int) = rc at *
  clear hb hb3 B BA B3 BA3 BZ B4 BZ4 hb4 B5 hyl hyo hxl hset
  rw [hg]
  go_enter Tryz.func92, Tryz.ntmps92
  go_wp2_with (first | refine wpList_load_mid rfl 88 (.tmp 2) rfl g 0 rfl _ _ (unhide R4) Tryz.underlying88 rfl (by rw [sizeRec, unhide HYL]) ?_ | refine wpList_store_mid rfl 88 (.tmp 4) (.tmp 11) rfl (g + 2) 0 ys.toArray rfl rfl (unhide TH) (by rw [sizeRec]; simp [unhide HYL]) (unhide HYO) ?_)
  exact bodyPost_ret (v := .agg ys.toArray) (results_cell rfl _ _ _ ⟨g + 2, 0, none⟩ rfl _ (unhide HLD)) rfl ⟨rfl, unhide HB4⟩
end Go.Proofs.YtpcmifmgkccfnaaGreatDoor
