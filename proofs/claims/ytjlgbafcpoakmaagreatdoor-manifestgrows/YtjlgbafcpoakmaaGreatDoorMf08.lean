import Derived.Test.YtjlgbafcpoakmaaGreatDoorMf07
import Derived.Test.YtjlgbafcpoakmaaGreatDoorMf04
namespace Go.Proofs.YtjlgbafcpoakmaaGreatDoor
open Go.RowKit
set_option maxRecDepth 100000
theorem bIsBlock_any (z : Int) (w : World) : Calls Tryz.prog 44 #[.int .i64 z] w fun e w' => e = .returned (.bool (decide (0 ≤ z) && decide (z < 60))) ∧ w' = w := by
  by_cases h0 : 0 ≤ z
  · have hd : decide ((0 : Int) ≤ z) = true := by simpa using h0
    rw [hd, Bool.true_and]
    clear h0
    generalize hdz : decide (z < 60) = dz at *
    go_enter Tryz.func44, Tryz.ntmps44
    go_wp2
    go_ret
    exact ⟨rfl, rfl⟩
  · have hd : decide ((0 : Int) ≤ z) = false := by simpa using h0
    rw [hd, Bool.false_and]
    clear h0
    go_enter Tryz.func44, Tryz.ntmps44
    go_wp2
    go_ret
    exact ⟨rfl, rfl⟩
theorem isBlock_ok (b : Nat) (hb : b < 60) (w : World) : Calls Tryz.prog 44 #[.int .i64 (b : Int)] w fun e w' => e = .returned (.bool true) ∧ w' = w := by
  have := bIsBlock_any (b : Int) w
  rwa [show (decide (0 ≤ (b : Int)) && decide ((b : Int) < 60)) = true by simp; omega] at this
theorem leafOf_any (b : Nat) (hb : b < 60) (w : World) : Calls Tryz.prog 47 #[.int .i64 (b : Int)] w fun e w' => e = .returned (.int .i64 ((b / 3 : Nat) : Int)) ∧ w' = w := by
  have e1 : (b : Int).tdiv 3 = ((b / 3 : Nat) : Int) := by
    rw [Int.tdiv_eq_ediv_of_nonneg (by omega)]; omega
  have hq : b / 3 < 20 := by omega
  generalize b / 3 = q at *
  go_enter Tryz.func47, Tryz.ntmps47
  go_wp2
  go_ret
  exact ⟨rfl, rfl⟩
theorem seatOf_any (b : Nat) (hb : b < 60) (w : World) : Calls Tryz.prog 51 #[.int .i64 (b : Int)] w fun e w' => e = .returned (.int .i64 ((b % 3 : Nat) : Int)) ∧ w' = w := by
  have e1 : (b : Int).tmod 3 = ((b % 3 : Nat) : Int) := by
    rw [Int.tmod_eq_emod_of_nonneg (by omega)]; omega
  have hq : b % 3 < 3 := by omega
  generalize b % 3 = q at *
  go_enter Tryz.func51, Tryz.ntmps51
  go_wp2
  go_ret
  exact ⟨rfl, rfl⟩
theorem isEntry_ok (d t : ByteArray) (hd : d.size = 32) (ht : t.size = 48) (w : World) : Calls Tryz.prog 48 #[.agg #[.string d, .string t]] w fun e w' => e = .returned (.bool true) ∧ Below w.heap.size w w' := by
  have h1 : ((d.size : Int) == 32) = true := by rw [hd]; rfl
  have h2 : ((t.size : Int) == 48) = true := by rw [ht]; rfl
  clear hd ht
  go_enter Tryz.func48, Tryz.ntmps48
  go_wp2
  go_ret
  exact ⟨rfl, (Below.refl _ _).alloc (Nat.le_refl _) _⟩
theorem isMapped_any (e : Ent) (he : EOk e) (w : World) : Calls Tryz.prog 56 #[.agg #[.string (vtD e), .string (vtW e)]] w fun ev w' => ev = .returned (.bool e.isSome) ∧ Below w.heap.size w w' := by
  cases e with
  | none =>
    show Calls Tryz.prog 56 #[.agg #[.string ⟨#[]⟩, .string ⟨#[]⟩]] w fun ev w' => ev = .returned (.bool false) ∧ Below w.heap.size w w'
    go_enter Tryz.func56, Tryz.ntmps56
    go_wp2
    go_ret
    exact ⟨rfl, (Below.refl _ _).alloc (Nat.le_refl _) _⟩
  | some p =>
    have hd := (he p.1 p.2 rfl).1
    have h1 : ¬ p.1.toList = [] := fun q => by
      rw [ByteArray.toList_eq] at q
      have := congrArg List.length q
      rw [show p.1.data.toList.length = p.1.size from rfl, hd] at this
      cases this
    clear hd he
    show Calls Tryz.prog 56 #[.agg #[.string p.1, .string p.2]] w fun ev w' => ev = .returned (.bool true) ∧ Below w.heap.size w w'
    generalize p.1 = d at *
    generalize p.2 = t at *
    go_enter Tryz.func56, Tryz.ntmps56
    go_wp2
    go_ret
    exact ⟨rfl, (Below.refl _ _).alloc (Nat.le_refl _) _⟩
theorem isTenant_ok (z : Nat) (h1 : 1 ≤ z) (h8 : z ≤ 8) (w : World) : Calls Tryz.prog 88 #[.int .i64 (z : Int)] w fun e w' => e = .returned (.bool true) ∧ w' = w := by
  have hd : decide ((1 : Int) ≤ (z : Int)) = true := by simp; omega
  have hd2 : decide ((z : Int) ≤ 8) = true := by simp; omega
  clear h1 h8
  go_enter Tryz.func88, Tryz.ntmps88
  go_wp2
  go_ret
  exact ⟨rfl, rfl⟩
theorem isVolume_ok (z : Nat) (h8 : z ≤ 99) (w : World) : Calls Tryz.prog 89 #[.int .i64 (z : Int)] w fun e w' => e = .returned (.bool true) ∧ w' = w := by
  have hd : decide ((0 : Int) ≤ (z : Int)) = true := by simp
  have hd2 : decide ((z : Int) ≤ 99) = true := by simp; omega
  clear h8
  go_enter Tryz.func89, Tryz.ntmps89
  go_wp2
  go_ret
  exact ⟨rfl, rfl⟩
theorem tHas_any (r num : Int) (lf : Nat → Nat) (l : Nat) (hl : l < 20) (w : World) : Calls Tryz.prog 46 #[.agg (trC r num lf).toArray, .int .i64 (l : Int)] w fun e w' => e = .returned (.bool ((lf l : Int) != 0)) ∧ Below w.heap.size w w' := by
  have hx := trC_at r num lf l hl
  generalize (trC r num lf).toArray = xs at *
  have hc : (w.alloc (.cells xs 94)).cell? ⟨w.heap.size, 2 + l, none⟩ = some (.int .i64 (lf l : Int)) := by rw [World.cell?_alloc_at (hn := rfl)]; exact hx
  have h1 : (0 : Int) ≤ (l : Int) := by omega
  have h2 : (l : Int) < 20 := by omega
  generalize hz : ((lf l : Int) != 0) = z at *
  go_enter Tryz.func46, Tryz.ntmps46
  go_wp2
  go_ret
  exact ⟨rfl, (Below.refl _ _).alloc (Nat.le_refl _) _⟩
theorem tPlace_any (r num : Int) (lf : Nat → Nat) (l : Nat) (hl : l < 20) (p : Nat) (hp : lf l = p + 1) (hp2 : p < 1000) (w : World) : Calls Tryz.prog 53 #[.agg (trC r num lf).toArray, .int .i64 (l : Int)] w fun e w' => e = .returned (.int .i64 (p : Int)) ∧ Below w.heap.size w w' := by
  have hx := trC_at r num lf l hl
  rw [hp] at hx
  generalize (trC r num lf).toArray = xs at *
  have hc : (w.alloc (.cells xs 94)).cell? ⟨w.heap.size, 2 + l, none⟩ = some (.int .i64 ((p + 1 : Nat) : Int)) := by rw [World.cell?_alloc_at (hn := rfl)]; exact hx
  have h1 : (0 : Int) ≤ (l : Int) := by omega
  have h2 : (l : Int) < 20 := by omega
  have e1 : ((p + 1 : Nat) : Int) - 1 = (p : Int) := by omega
  generalize ((p + 1 : Nat) : Int) = q at *
  clear hp hx
  go_enter Tryz.func53, Tryz.ntmps53
  go_wp2
  go_ret
  exact ⟨rfl, (Below.refl _ _).alloc (Nat.le_refl _) _⟩
theorem tNumber_any (r : Int) (num : Nat) (hn : num ≤ 1000000) (lf : Nat → Nat) (l : Nat) (hl : l < 20) (w : World) : Calls Tryz.prog 123 #[.agg (trC r (num : Int) lf).toArray, .int .i64 (l : Int)] w fun e w' => e = .returned (.int .i64 ((32 * num + l : Nat) : Int)) ∧ Below w.heap.size w w' := by
  have hx := trC_1 r (num : Int) lf
  generalize (trC r (num : Int) lf).toArray = xs at *
  have hc : (w.alloc (.cells xs 94)).cell? ⟨w.heap.size, 1, none⟩ = some (.int .i64 (num : Int)) := by rw [World.cell?_alloc_at (hn := rfl)]; exact hx
  have e1 : 32 * (num : Int) + (l : Int) = ((32 * num + l : Nat) : Int) := by omega
  have h2 : 32 * num + l ≤ 100000000 := by omega
  generalize 32 * num + l = q at *
  clear hx
  go_enter Tryz.func123, Tryz.ntmps123
  go_wp2
  go_ret
  exact ⟨rfl, (Below.refl _ _).alloc (Nat.le_refl _) _⟩
theorem answerOf_ok (w : World) : Calls Tryz.prog 120 #[.int .i64 0] w fun e w' => e = .returned (.int .i64 0) ∧ w' = w := by
  go_enter Tryz.func120, Tryz.ntmps120
  go_wp2
  go_ret
  exact ⟨rfl, rfl⟩
end Go.Proofs.YtjlgbafcpoakmaaGreatDoor

namespace Go.Proofs.YtjlgbafcpoakmaaGreatDoor
open Go.RowKit
set_option maxRecDepth 100000 in
set_option maxHeartbeats 2000000 in
theorem tWith_any (r num : Int) (lf : Nat → Nat) (l : Nat) (hl : l < 20) (p : Nat) (hp : p < 1000) (w : World) : Calls Tryz.prog 128 #[.agg (trC r num lf).toArray, .int .i64 (l : Int), .int .i64 (p : Int)] w fun e w' => e = .returned (.agg (trC r num (ups lf l (p + 1))).toArray) ∧ Below w.heap.size w w' := by
  obtain ⟨g, hg⟩ : ∃ g, w.heap.size = g := ⟨_, rfl⟩
  have hx := trC_at r num lf l hl
  have hset := trC_set r num lf l hl (p + 1)
  have hyl := trC_len r num (ups lf l (p + 1))
  have hyo := trC_one r num (ups lf l (p + 1))
  generalize (trC r num lf).toArray = xs at *
  generalize trC r num (ups lf l (p + 1)) = ys at *
  obtain ⟨x2, hx2⟩ : ∃ q, (w.alloc (.cells xs 94)).alloc (.cells #[.int .i64 0, .int .i64 0, .int .i64 0, .int .i64 0, .int .i64 0, .int .i64 0, .int .i64 0, .int .i64 0, .int .i64 0, .int .i64 0, .int .i64 0, .int .i64 0, .int .i64 0, .int .i64 0, .int .i64 0, .int .i64 0, .int .i64 0, .int .i64 0, .int .i64 0, .int .i64 0, .int .i64 0, .int .i64 0] 94) = q := ⟨_, rfl⟩
  have B : Blk x2 g xs 94 := by rw [← hx2, ← hg]; exact (Blk.new w _ _).alloc _
  have BZ : Blk x2 (g + 1) #[.int .i64 0, .int .i64 0, .int .i64 0, .int .i64 0, .int .i64 0, .int .i64 0, .int .i64 0, .int .i64 0, .int .i64 0, .int .i64 0, .int .i64 0, .int .i64 0, .int .i64 0, .int .i64 0, .int .i64 0, .int .i64 0, .int .i64 0, .int .i64 0, .int .i64 0, .int .i64 0, .int .i64 0, .int .i64 0] 94 := by
    rw [← hx2]
    have := Blk.new (w.alloc (.cells xs 94)) 94 #[.int .i64 0, .int .i64 0, .int .i64 0, .int .i64 0, .int .i64 0, .int .i64 0, .int .i64 0, .int .i64 0, .int .i64 0, .int .i64 0, .int .i64 0, .int .i64 0, .int .i64 0, .int .i64 0, .int .i64 0, .int .i64 0, .int .i64 0, .int .i64 0, .int .i64 0, .int .i64 0, .int .i64 0, .int .i64 0]
    rw [show (w.alloc (.cells xs 94)).heap.size = g + 1 by simp [hg]] at this
    exact this
  have hb : Below g w x2 := by rw [← hx2, ← hg]; exact ((Below.refl _ w).alloc (Nat.le_refl _) _).alloc (by simp) _
  have hc : x2.cell? ⟨g, 2 + l, none⟩ = some (.int .i64 (lf l : Int)) := by rw [B.cell]; exact hx
  have hf := B.frozen (2 + l)
  obtain ⟨x3, hx3⟩ : ∃ q, x2.setCell ⟨g, 2 + l, none⟩ (.int .i64 ((p + 1 : Nat) : Int)) = q := ⟨_, rfl⟩
  have B3 : Blk x3 g ys.toArray 94 := by rw [← hx3, ← hset]; exact B.set _ _
  have Z3 : Blk x3 (g + 1) #[.int .i64 0, .int .i64 0, .int .i64 0, .int .i64 0, .int .i64 0, .int .i64 0, .int .i64 0, .int .i64 0, .int .i64 0, .int .i64 0, .int .i64 0, .int .i64 0, .int .i64 0, .int .i64 0, .int .i64 0, .int .i64 0, .int .i64 0, .int .i64 0, .int .i64 0, .int .i64 0, .int .i64 0, .int .i64 0] 94 := by rw [← hx3]; exact BZ.other _ _ (by simp)
  have hb3 : Below g w x3 := by rw [← hx3]; exact hb.setCell (Nat.le_refl _) _
  have R3 := hide (blk_range B3)
  have TH := hide (blk_there Z3 ys.toArray.size (by simp [hyl]))
  have B4 := setCells_all Z3 ys (by simp [hyl])
  have HLD := hide (iload_blk 94 _ B4 Tryz.underlying94 rfl (by rw [sizeTree]; simp [hyl]))
  have HB4 := hide (below_setCells (Nat.le_succ _) ys 0 hb3)
  have HYL := hide hyl
  have HYO := hide hyo
  have h1 : (0 : Int) ≤ (l : Int) := by omega
  have h2 : (l : Int) < 20 := by omega
  have e1 : (p : Int) + 1 = ((p + 1 : Nat) : Int) := by omega
  generalize ((p + 1 : Nat) : Int) = q at *
  clear hx hset hyl hyo B BZ hb B3 Z3 hb3 B4 hl
  rw [hg]
  go_enter Tryz.func128, Tryz.ntmps128
  go_wp2_with (first | refine wpList_load_mid rfl 94 (.tmp 3) rfl g 0 rfl _ _ (unhide R3) Tryz.underlying94 rfl (by rw [sizeTree, unhide HYL]) ?_ | refine wpList_store_mid rfl 94 (.tmp 6) (.tmp 12) rfl (g + 1) 0 ys.toArray rfl rfl (unhide TH) (by rw [sizeTree]; simp [unhide HYL]) (unhide HYO) ?_)
  refine bodyPost_ret (v := .agg ys.toArray) (results_cell rfl _ _ _ ⟨g + 1, 0, none⟩ rfl _ (unhide HLD)) rfl ⟨rfl, unhide HB4⟩
set_option maxRecDepth 100000 in
set_option maxHeartbeats 2000000 in
theorem tWithout_any (r num : Int) (lf : Nat → Nat) (l : Nat) (hl : l < 20) (w : World) : Calls Tryz.prog 129 #[.agg (trC r num lf).toArray, .int .i64 (l : Int)] w fun e w' => e = .returned (.agg (trC r num (ups lf l 0)).toArray) ∧ Below w.heap.size w w' := by
  obtain ⟨g, hg⟩ : ∃ g, w.heap.size = g := ⟨_, rfl⟩
  have hx := trC_at r num lf l hl
  have hset := trC_set r num lf l hl 0
  have hyl := trC_len r num (ups lf l 0)
  have hyo := trC_one r num (ups lf l 0)
  generalize (trC r num lf).toArray = xs at *
  generalize trC r num (ups lf l 0) = ys at *
  obtain ⟨x2, hx2⟩ : ∃ q, (w.alloc (.cells xs 94)).alloc (.cells #[.int .i64 0, .int .i64 0, .int .i64 0, .int .i64 0, .int .i64 0, .int .i64 0, .int .i64 0, .int .i64 0, .int .i64 0, .int .i64 0, .int .i64 0, .int .i64 0, .int .i64 0, .int .i64 0, .int .i64 0, .int .i64 0, .int .i64 0, .int .i64 0, .int .i64 0, .int .i64 0, .int .i64 0, .int .i64 0] 94) = q := ⟨_, rfl⟩
  have B : Blk x2 g xs 94 := by rw [← hx2, ← hg]; exact (Blk.new w _ _).alloc _
  have BZ : Blk x2 (g + 1) #[.int .i64 0, .int .i64 0, .int .i64 0, .int .i64 0, .int .i64 0, .int .i64 0, .int .i64 0, .int .i64 0, .int .i64 0, .int .i64 0, .int .i64 0, .int .i64 0, .int .i64 0, .int .i64 0, .int .i64 0, .int .i64 0, .int .i64 0, .int .i64 0, .int .i64 0, .int .i64 0, .int .i64 0, .int .i64 0] 94 := by
    rw [← hx2]
    have := Blk.new (w.alloc (.cells xs 94)) 94 #[.int .i64 0, .int .i64 0, .int .i64 0, .int .i64 0, .int .i64 0, .int .i64 0, .int .i64 0, .int .i64 0, .int .i64 0, .int .i64 0, .int .i64 0, .int .i64 0, .int .i64 0, .int .i64 0, .int .i64 0, .int .i64 0, .int .i64 0, .int .i64 0, .int .i64 0, .int .i64 0, .int .i64 0, .int .i64 0]
    rw [show (w.alloc (.cells xs 94)).heap.size = g + 1 by simp [hg]] at this
    exact this
  have hb : Below g w x2 := by rw [← hx2, ← hg]; exact ((Below.refl _ w).alloc (Nat.le_refl _) _).alloc (by simp) _
  have hc : x2.cell? ⟨g, 2 + l, none⟩ = some (.int .i64 (lf l : Int)) := by rw [B.cell]; exact hx
  have hf := B.frozen (2 + l)
  obtain ⟨x3, hx3⟩ : ∃ q, x2.setCell ⟨g, 2 + l, none⟩ (.int .i64 ((0 : Nat) : Int)) = q := ⟨_, rfl⟩
  have B3 : Blk x3 g ys.toArray 94 := by rw [← hx3, ← hset]; exact B.set _ _
  have Z3 : Blk x3 (g + 1) #[.int .i64 0, .int .i64 0, .int .i64 0, .int .i64 0, .int .i64 0, .int .i64 0, .int .i64 0, .int .i64 0, .int .i64 0, .int .i64 0, .int .i64 0, .int .i64 0, .int .i64 0, .int .i64 0, .int .i64 0, .int .i64 0, .int .i64 0, .int .i64 0, .int .i64 0, .int .i64 0, .int .i64 0, .int .i64 0] 94 := by rw [← hx3]; exact BZ.other _ _ (by simp)
  have hb3 : Below g w x3 := by rw [← hx3]; exact hb.setCell (Nat.le_refl _) _
  have R3 := hide (blk_range B3)
  have TH := hide (blk_there Z3 ys.toArray.size (by simp [hyl]))
  have B4 := setCells_all Z3 ys (by simp [hyl])
  have HLD := hide (iload_blk 94 _ B4 Tryz.underlying94 rfl (by rw [sizeTree]; simp [hyl]))
  have HB4 := hide (below_setCells (Nat.le_succ _) ys 0 hb3)
  have HYL := hide hyl
  have HYO := hide hyo
  have h1 : (0 : Int) ≤ (l : Int) := by omega
  have h2 : (l : Int) < 20 := by omega
  have e1 : ((0 : Nat) : Int) = 0 := rfl
  rw [e1] at hx3
  clear e1
  clear hx hset hyl hyo B BZ hb B3 Z3 hb3 B4 hl
  rw [hg]
  go_enter Tryz.func129, Tryz.ntmps129
  go_wp2_with (first | refine wpList_load_mid rfl 94 (.tmp 2) rfl g 0 rfl _ _ (unhide R3) Tryz.underlying94 rfl (by rw [sizeTree, unhide HYL]) ?_ | refine wpList_store_mid rfl 94 (.tmp 4) (.tmp 8) rfl (g + 1) 0 ys.toArray rfl rfl (unhide TH) (by rw [sizeTree]; simp [unhide HYL]) (unhide HYO) ?_)
  refine bodyPost_ret (v := .agg ys.toArray) (results_cell rfl _ _ _ ⟨g + 1, 0, none⟩ rfl _ (unhide HLD)) rfl ⟨rfl, unhide HB4⟩
end Go.Proofs.YtjlgbafcpoakmaaGreatDoor

namespace Go.Proofs.YtjlgbafcpoakmaaGreatDoor
open Go.RowKit
def Lf0 : Nat → Nat := fun _ => 0
theorem trC_new (r num : Int) : (trC r num Lf0).toArray = #[.int .i64 r, .int .i64 num, .int .i64 0, .int .i64 0, .int .i64 0, .int .i64 0, .int .i64 0, .int .i64 0, .int .i64 0, .int .i64 0, .int .i64 0, .int .i64 0, .int .i64 0, .int .i64 0, .int .i64 0, .int .i64 0, .int .i64 0, .int .i64 0, .int .i64 0, .int .i64 0, .int .i64 0, .int .i64 0] := rfl
set_option maxRecDepth 100000 in
set_option maxHeartbeats 2000000 in
theorem newTree_any (a v : Nat) (ha : a ≤ 8) (hv : v ≤ 99) (w : World) : Calls Tryz.prog 92 #[.int .i64 (a : Int), .int .i64 (v : Int)] w fun e w' => e = .returned (.agg (trC 0 ((100 * a + v : Nat) : Int) Lf0).toArray) ∧ Below w.heap.size w w' := by
  obtain ⟨g, hg⟩ : ∃ g, w.heap.size = g := ⟨_, rfl⟩
  have e1 : 100 * (a : Int) + (v : Int) = ((100 * a + v : Nat) : Int) := by omega
  have h2 : 100 * a + v ≤ 1000 := by omega
  generalize 100 * a + v = q at *
  have HE := hide (trC_new 0 (q : Int))
  have hyl := trC_len 0 (q : Int) Lf0
  have hyo := trC_one 0 (q : Int) Lf0
  generalize trC 0 (q : Int) Lf0 = ys at *
  obtain ⟨x2, hx2⟩ : ∃ q, w.alloc (.cells #[.int .i64 0, .int .i64 0, .int .i64 0, .int .i64 0, .int .i64 0, .int .i64 0, .int .i64 0, .int .i64 0, .int .i64 0, .int .i64 0, .int .i64 0, .int .i64 0, .int .i64 0, .int .i64 0, .int .i64 0, .int .i64 0, .int .i64 0, .int .i64 0, .int .i64 0, .int .i64 0, .int .i64 0, .int .i64 0] 94) = q := ⟨_, rfl⟩
  have BZ : Blk x2 g #[.int .i64 0, .int .i64 0, .int .i64 0, .int .i64 0, .int .i64 0, .int .i64 0, .int .i64 0, .int .i64 0, .int .i64 0, .int .i64 0, .int .i64 0, .int .i64 0, .int .i64 0, .int .i64 0, .int .i64 0, .int .i64 0, .int .i64 0, .int .i64 0, .int .i64 0, .int .i64 0, .int .i64 0, .int .i64 0] 94 := by rw [← hx2, ← hg]; exact Blk.new w _ _
  have hb : Below g w x2 := by rw [← hx2, ← hg]; exact (Below.refl _ w).alloc (Nat.le_refl _) _
  have TH := hide (blk_there BZ ys.toArray.size (by simp [hyl]))
  have B4 := setCells_all BZ ys (by simp [hyl])
  have HLD := hide (iload_blk 94 _ B4 Tryz.underlying94 rfl (by rw [sizeTree]; simp [hyl]))
  have HB4 := hide (below_setCells (Nat.le_refl _) ys 0 hb)
  have HYL := hide hyl
  have HYO := hide hyo
  clear hyl hyo BZ hb B4
  rw [hg]
  go_enter Tryz.func92, Tryz.ntmps92
  go_wp2_with (refine wpList_store_mid rfl 94 (.tmp 4) (.tmp 9) rfl g 0 ys.toArray rfl (by rw [unhide HE]; rfl) (unhide TH) (by rw [sizeTree]; simp [unhide HYL]) (unhide HYO) ?_)
  refine bodyPost_ret (v := .agg ys.toArray) (results_cell rfl _ _ _ ⟨g, 0, none⟩ rfl _ (unhide HLD)) rfl ⟨rfl, unhide HB4⟩
theorem lv_err (lf : Nat → Nat) (h : ∀ l, l < 20 → lf l ≤ 1000) : errN 2 (lvL lf) = 0 := by
  rw [errN, if_neg (by omega), if_pos]
  intro n hn
  simp only [lvL, List.mem_map, List.mem_range] at hn
  obtain ⟨l, hl, rfl⟩ := hn
  exact fits2n _ (by have := h l hl; omega)
set_option maxRecDepth 100000 in
set_option maxHeartbeats 2000000 in
theorem tPage_any (r : Int) (num : Nat) (lf : Nat → Nat) (hlf : ∀ l, l < 20 → lf l ≤ 1000) (w : World) : Calls Tryz.prog 93 #[.agg (trC r (num : Int) lf).toArray] w fun e w' => e = .returned (.agg #[.int .i64 6, .int .i64 (num : Int), .string (rtB lf)]) ∧ Below w.heap.size w w' := by
  obtain ⟨g, hg⟩ : ∃ g, w.heap.size = g := ⟨_, rfl⟩
  have hx1 := trC_1 r (num : Int) lf
  have HAT := hide (fun l (hl : l < 20) => trC_at r (num : Int) lf l hl)
  have HER := hide (lv_err lf hlf)
  have HTX := hide (show strOfNums (outN (2 : Int).toNat (lvL lf)) = rtB lf from rfl)
  obtain ⟨tx, htx⟩ : ∃ q, rtB lf = q := ⟨_, rfl⟩
  rw [htx] at HTX ⊢
  clear htx
  generalize (trC r (num : Int) lf).toArray = xs at *
  obtain ⟨x2, hx2⟩ : ∃ q, (w.alloc (.cells xs 94)).alloc (.cells #[.int .i64 0, .int .i64 0, .string ⟨#[]⟩] 111) = q := ⟨_, rfl⟩
  have B : Blk x2 g xs 94 := by rw [← hx2, ← hg]; exact (Blk.new w _ _).alloc _
  have BZ : Blk x2 (g + 1) #[.int .i64 0, .int .i64 0, .string ⟨#[]⟩] 111 := by
    rw [← hx2]
    have := Blk.new (w.alloc (.cells xs 94)) 111 #[.int .i64 0, .int .i64 0, .string ⟨#[]⟩]
    rw [show (w.alloc (.cells xs 94)).heap.size = g + 1 by simp [hg]] at this
    exact this
  have hb : Below g w x2 := by rw [← hx2, ← hg]; exact ((Below.refl _ w).alloc (Nat.le_refl _) _).alloc (by simp) _
  have X2 := hide (And.intro B (And.intro BZ (And.intro hb hx1)))
  clear B BZ hb hx1 hlf
  rw [hg]
  go_enter Tryz.func93, Tryz.ntmps93
  go_wp2_with fail
  refine (newWriter_any _).mono ?_
  rintro e x3 ⟨rfl, hW3, hb3, hs3⟩
  obtain ⟨B, BZ, hb, hx1⟩ := unhide X2
  have B3 := B.below hb3 B.lt
  have BZ3 := BZ.below hb3 BZ.lt
  have hb13 : Below g w x3 := hb.trans (hb3.mono (by have := BZ.lt; omega))
  obtain ⟨bw, hbw⟩ : ∃ q, x2.heap.size = q := ⟨_, rfl⟩
  rw [hbw] at hW3
  have hgb : g ≠ bw ∧ g + 1 ≠ bw ∧ g ≤ bw := by have := BZ.lt; omega
  have HN := hide (num_any x3 bw bw (.slice none 0 0) [] 0 hW3 (by have := hb3.size; omega) 2 (lvL lf) (some ⟨g, 2, none⟩) 20 (.inr ⟨g, 2, rfl, B3.lt, fun q => (by rcases q with q | q; exact hgb.1 q; cases q), fun j hj => by rw [B3.cell, unhide HAT j (by rw [lvL_len] at hj; exact hj), lvL_at lf j (by rw [lvL_len] at hj; exact hj)]⟩) (by rw [lvL_len]; decide))
  rw [lvL_len, unhide HER, wl_good, we_good, List.nil_append] at HN
  rw [hbw]
  have X3 := hide (And.intro B3 (And.intro BZ3 (And.intro hb13 (And.intro hx1 hgb))))
  clear B BZ hb hx1 hb3 hs3 hbw B3 BZ3 hb13 hgb X2 hW3 hx2
  go_wp2_with fail
  refine (unhide HN).mono ?_
  rintro e x4 ⟨rfl, hP4⟩
  obtain ⟨B3, BZ3, hb13, hx1, hgb⟩ := unhide X3
  have hP := hP4
  obtain ⟨v4, W4, O4, -⟩ := hP4
  have hFp : ∀ k, k ≠ bw → ¬ Fp bw (.slice none 0 0) k := fun k hk q => by rcases q with q | q; exact hk q; cases q
  have B4 := B3.only O4 (hFp _ hgb.1)
  have BZ4 := BZ3.only O4 (hFp _ hgb.2.1)
  have hb14 : Below g w x4 := hb13.trans (O4.below (by have := B3.lt; omega) (fun k hk => hFp k (by omega)))
  have HD := hide (done_any x4 bw bw v4 _ 0 W4)
  rw [unhide HTX] at HD
  have X4 := hide (And.intro B4 (And.intro BZ4 (And.intro hb14 (And.intro hx1 hgb))))
  clear B3 BZ3 hb13 hx1 hgb hP W4 O4 hFp B4 BZ4 hb14 X3 HN
  go_wp2_with fail
  refine (unhide HD).mono ?_
  rintro e x5 ⟨rfl, hb5⟩
  obtain ⟨B4, BZ4, hb14, hx1, hgb⟩ := unhide X4
  have B5 := B4.below hb5 B4.lt
  have BZ5 := BZ4.below hb5 BZ4.lt
  have hb15 : Below g w x5 := hb14.trans (hb5.mono (by have := B4.lt; omega))
  have c1 : x5.cell? ⟨g, 1, none⟩ = some (.int .i64 (num : Int)) := by rw [B5.cell]; exact hx1
  have q0 : x5.cell? ⟨g + 1, 0, none⟩ = some (.int .i64 0) := BZ5.cell 0
  have q1 : x5.cell? ⟨g + 1, 1, none⟩ = some (.int .i64 0) := BZ5.cell 1
  have q2 : x5.cell? ⟨g + 1, 2, none⟩ = some (.string ⟨#[]⟩) := BZ5.cell 2
  have p0 := BZ5.frozen 0
  have p1 := BZ5.frozen 1
  have p2 := BZ5.frozen 2
  have B6 := ((BZ5.set 0 (.int .i64 6)).set 1 (.int .i64 (num : Int))).set 2 (.string tx)
  have HLD := hide (load_page _ (g + 1) 6 (num : Int) tx B6)
  have HB6 := hide (((hb15.setCell (p := ⟨g + 1, 0, none⟩) (Nat.le_succ _) (.int .i64 6)).setCell (p := ⟨g + 1, 1, none⟩) (Nat.le_succ _) (.int .i64 (num : Int))).setCell (p := ⟨g + 1, 2, none⟩) (Nat.le_succ _) (.string tx))
  clear B4 BZ4 hb14 hx1 hgb hb5 B5 BZ5 hb15 B6 X4 HD
  go_wp2
  exact bodyPost_ret (v := .agg #[.int .i64 6, .int .i64 (num : Int), .string tx]) (results_cell rfl _ _ _ ⟨g + 1, 0, none⟩ rfl _ (unhide HLD)) rfl ⟨rfl, unhide HB6⟩
/-- The first k leaves. -/
def cutL (lf : Nat → Nat) (k : Nat) : Nat → Nat := fun l => if l < k then lf l else 0
theorem cutL_0 (lf : Nat → Nat) : cutL lf 0 = Lf0 := by funext l; simp [cutL, Lf0]
theorem cutL_succ (lf : Nat → Nat) (k : Nat) : ups (cutL lf k) k (lf k) = cutL lf (k + 1) := by
  funext l
  unfold ups cutL
  by_cases e : l = k
  · subst e; rw [if_pos rfl, if_pos (by omega)]
  · rw [if_neg e]
    by_cases h : l < k
    · rw [if_pos h, if_pos (by omega)]
    · rw [if_neg h, if_neg (by omega)]
theorem trC_congr (r num : Int) (f g : Nat → Nat) (h : ∀ l, l < 20 → f l = g l) : trC r num f = trC r num g := by
  unfold trC lvL
  rw [show (List.range 20).map (fun l => (f l : Int)) = (List.range 20).map (fun l => (g l : Int)) from List.map_congr_left (fun l hl => by rw [h l (List.mem_range.1 hl)])]
theorem trC_cut (r num : Int) (lf : Nat → Nat) : trC r num (cutL lf 20) = trC r num lf := trC_congr _ _ _ _ (fun l hl => by unfold cutL; rw [if_pos hl])
def VTr (w : World) (g b : Nat) (r : Int) (num : Nat) (lf : Nat → Nat) (k : Nat) (wr : World) : Prop :=
  Blk wr (g + 1) #[.int .i64 0, .int .i64 0, .int .i64 0, .int .i64 0, .int .i64 0, .int .i64 0, .int .i64 0, .int .i64 0, .int .i64 0, .int .i64 0, .int .i64 0, .int .i64 0, .int .i64 0, .int .i64 0, .int .i64 0, .int .i64 0, .int .i64 0, .int .i64 0, .int .i64 0, .int .i64 0, .int .i64 0, .int .i64 0] 94 ∧ Blk wr (g + 2) (trC r (num : Int) (cutL lf k)).toArray 94 ∧ Rds wr b ⟨strOfNums (rtT lf k), 2 * (k : Int), 0⟩ ∧ Below g w wr
set_option maxRecDepth 100000 in
set_option maxHeartbeats 2000000 in
theorem parseTree_any (r kind : Int) (num : Nat) (hnum : num ≤ 1000000) (lf : Nat → Nat) (hlf : ∀ l, l < 20 → lf l ≤ 1000) (w : World) (hE : ETy w) : Calls Tryz.prog 122 #[.int .i64 r, .agg #[.int .i64 kind, .int .i64 (num : Int), .string (rtB lf)]] w fun e w' => e = .returned (.agg (trC r (num : Int) lf).toArray) ∧ Below w.heap.size w w' := by
  obtain ⟨g, hg⟩ : ∃ g, w.heap.size = g := ⟨_, rfl⟩
  have HTX := hide (show rtB lf = strOfNums (rtT lf 0) from rfl)
  obtain ⟨tx, htx⟩ : ∃ q, rtB lf = q := ⟨_, rfl⟩
  rw [htx] at HTX ⊢
  clear htx
  have HE0 := hide (trC_new r (num : Int))
  have hyl := trC_len r (num : Int) Lf0
  have hyo := trC_one r (num : Int) Lf0
  have HC0 := hide (show trC r (num : Int) (cutL lf 0) = trC r (num : Int) Lf0 by rw [cutL_0])
  obtain ⟨ys, hys⟩ : ∃ q, trC r (num : Int) Lf0 = q := ⟨_, rfl⟩
  rw [hys] at HE0 hyl hyo HC0
  clear hys
  obtain ⟨x2, hx2⟩ : ∃ q, ((w.alloc (.cells #[.int .i64 kind, .int .i64 (num : Int), .string tx] 111)).alloc (.cells #[.int .i64 0, .int .i64 0, .int .i64 0, .int .i64 0, .int .i64 0, .int .i64 0, .int .i64 0, .int .i64 0, .int .i64 0, .int .i64 0, .int .i64 0, .int .i64 0, .int .i64 0, .int .i64 0, .int .i64 0, .int .i64 0, .int .i64 0, .int .i64 0, .int .i64 0, .int .i64 0, .int .i64 0, .int .i64 0] 94)).alloc (.cells #[.int .i64 0, .int .i64 0, .int .i64 0, .int .i64 0, .int .i64 0, .int .i64 0, .int .i64 0, .int .i64 0, .int .i64 0, .int .i64 0, .int .i64 0, .int .i64 0, .int .i64 0, .int .i64 0, .int .i64 0, .int .i64 0, .int .i64 0, .int .i64 0, .int .i64 0, .int .i64 0, .int .i64 0, .int .i64 0] 94) = q := ⟨_, rfl⟩
  have hs1 : (w.alloc (.cells #[.int .i64 kind, .int .i64 (num : Int), .string tx] 111)).heap.size = g + 1 := by simp [hg]
  have hs2 : ((w.alloc (.cells #[.int .i64 kind, .int .i64 (num : Int), .string tx] 111)).alloc (.cells #[.int .i64 0, .int .i64 0, .int .i64 0, .int .i64 0, .int .i64 0, .int .i64 0, .int .i64 0, .int .i64 0, .int .i64 0, .int .i64 0, .int .i64 0, .int .i64 0, .int .i64 0, .int .i64 0, .int .i64 0, .int .i64 0, .int .i64 0, .int .i64 0, .int .i64 0, .int .i64 0, .int .i64 0, .int .i64 0] 94)).heap.size = g + 2 := by simp; omega
  have B : Blk x2 g #[.int .i64 kind, .int .i64 (num : Int), .string tx] 111 := by rw [← hx2, ← hg]; exact ((Blk.new w _ _).alloc _).alloc _
  have BZ : Blk x2 (g + 1) #[.int .i64 0, .int .i64 0, .int .i64 0, .int .i64 0, .int .i64 0, .int .i64 0, .int .i64 0, .int .i64 0, .int .i64 0, .int .i64 0, .int .i64 0, .int .i64 0, .int .i64 0, .int .i64 0, .int .i64 0, .int .i64 0, .int .i64 0, .int .i64 0, .int .i64 0, .int .i64 0, .int .i64 0, .int .i64 0] 94 := by
    rw [← hx2, ← hs1]
    exact (Blk.new (w.alloc (.cells #[.int .i64 kind, .int .i64 (num : Int), .string tx] 111)) 94 #[.int .i64 0, .int .i64 0, .int .i64 0, .int .i64 0, .int .i64 0, .int .i64 0, .int .i64 0, .int .i64 0, .int .i64 0, .int .i64 0, .int .i64 0, .int .i64 0, .int .i64 0, .int .i64 0, .int .i64 0, .int .i64 0, .int .i64 0, .int .i64 0, .int .i64 0, .int .i64 0, .int .i64 0, .int .i64 0]).alloc _
  have BY : Blk x2 (g + 2) #[.int .i64 0, .int .i64 0, .int .i64 0, .int .i64 0, .int .i64 0, .int .i64 0, .int .i64 0, .int .i64 0, .int .i64 0, .int .i64 0, .int .i64 0, .int .i64 0, .int .i64 0, .int .i64 0, .int .i64 0, .int .i64 0, .int .i64 0, .int .i64 0, .int .i64 0, .int .i64 0, .int .i64 0, .int .i64 0] 94 := by
    rw [← hx2, ← hs2]
    exact Blk.new ((w.alloc (.cells #[.int .i64 kind, .int .i64 (num : Int), .string tx] 111)).alloc (.cells #[.int .i64 0, .int .i64 0, .int .i64 0, .int .i64 0, .int .i64 0, .int .i64 0, .int .i64 0, .int .i64 0, .int .i64 0, .int .i64 0, .int .i64 0, .int .i64 0, .int .i64 0, .int .i64 0, .int .i64 0, .int .i64 0, .int .i64 0, .int .i64 0, .int .i64 0, .int .i64 0, .int .i64 0, .int .i64 0] 94)) 94 #[.int .i64 0, .int .i64 0, .int .i64 0, .int .i64 0, .int .i64 0, .int .i64 0, .int .i64 0, .int .i64 0, .int .i64 0, .int .i64 0, .int .i64 0, .int .i64 0, .int .i64 0, .int .i64 0, .int .i64 0, .int .i64 0, .int .i64 0, .int .i64 0, .int .i64 0, .int .i64 0, .int .i64 0, .int .i64 0]
  have hb : Below g w x2 := by rw [← hx2, ← hg]; exact (((Below.refl _ w).alloc (Nat.le_refl _) _).alloc (by simp) _).alloc (by simp; omega) _
  clear hs1 hs2
  have TH := hide (blk_there BY ys.toArray.size (by simp [hyl]))
  obtain ⟨x3, hx3⟩ : ∃ q, x2.setCells (g + 2) 0 ys = q := ⟨_, rfl⟩
  have B3 : Blk x3 g #[.int .i64 kind, .int .i64 (num : Int), .string tx] 111 := by rw [← hx3]; exact blk_cells_other _ _ B _ (by omega)
  have BZ3 : Blk x3 (g + 1) #[.int .i64 0, .int .i64 0, .int .i64 0, .int .i64 0, .int .i64 0, .int .i64 0, .int .i64 0, .int .i64 0, .int .i64 0, .int .i64 0, .int .i64 0, .int .i64 0, .int .i64 0, .int .i64 0, .int .i64 0, .int .i64 0, .int .i64 0, .int .i64 0, .int .i64 0, .int .i64 0, .int .i64 0, .int .i64 0] 94 := by rw [← hx3]; exact blk_cells_other _ _ BZ _ (by omega)
  have BY3 : Blk x3 (g + 2) ys.toArray 94 := by rw [← hx3]; exact setCells_all BY ys (by simp [hyl])
  have hb3 : Below g w x3 := by rw [← hx3]; exact below_setCells (by omega) ys 0 hb
  have c1 : x2.cell? ⟨g, 1, none⟩ = some (.int .i64 (num : Int)) := by rw [B.cell]; rfl
  have c2 : x3.cell? ⟨g, 2, none⟩ = some (.string tx) := by rw [B3.cell]; rfl
  have HYL := hide hyl
  have HYO := hide hyo
  have X3 := hide (And.intro BZ3 (And.intro BY3 hb3))
  have HQ := hide (And.intro hlf hnum)
  have HEW := hide (fun W (h : Below g w W) => hE.below h (by rw [← hg]; exact hE.lt))
  have c1' : (((w.alloc (.cells #[.int .i64 kind, .int .i64 (num : Int), .string tx] 111)).alloc (.cells #[.int .i64 0, .int .i64 0, .int .i64 0, .int .i64 0, .int .i64 0, .int .i64 0, .int .i64 0, .int .i64 0, .int .i64 0, .int .i64 0, .int .i64 0, .int .i64 0, .int .i64 0, .int .i64 0, .int .i64 0, .int .i64 0, .int .i64 0, .int .i64 0, .int .i64 0, .int .i64 0, .int .i64 0, .int .i64 0] 94))).cell? ⟨g, 1, none⟩ = some (.int .i64 (num : Int)) := by
    have : Blk ((w.alloc (.cells #[.int .i64 kind, .int .i64 (num : Int), .string tx] 111)).alloc (.cells #[.int .i64 0, .int .i64 0, .int .i64 0, .int .i64 0, .int .i64 0, .int .i64 0, .int .i64 0, .int .i64 0, .int .i64 0, .int .i64 0, .int .i64 0, .int .i64 0, .int .i64 0, .int .i64 0, .int .i64 0, .int .i64 0, .int .i64 0, .int .i64 0, .int .i64 0, .int .i64 0, .int .i64 0, .int .i64 0] 94)) g #[.int .i64 kind, .int .i64 (num : Int), .string tx] 111 := by rw [← hg]; exact (Blk.new w _ _).alloc _
    rw [this.cell]; rfl
  clear hyl hyo B BZ BY hb B3 BZ3 BY3 hb3 hE hlf hnum c1
  rw [hg]
  go_enter Tryz.func122, Tryz.ntmps122
  go_wp2_with (refine wpList_store_mid rfl 94 (.tmp 5) (.tmp 11) rfl (g + 2) 0 ys.toArray rfl (by rw [unhide HE0]; rfl) (unhide TH) (by rw [sizeTree]; simp [unhide HYL]) (unhide HYO) ?_)
  clear TH hx2 c1'
  refine (newReader_any tx _).mono ?_
  rintro e x4 ⟨rfl, hR4, hb4, hs4⟩
  obtain ⟨BZ3, BY3, hb3⟩ := unhide X3
  obtain ⟨b, hbq⟩ : ∃ q, x3.heap.size = q := ⟨_, rfl⟩
  have hgb : g + 2 < b := by rw [← hbq]; exact BY3.lt
  rw [hbq] at hR4 ⊢
  have HI := hide (show VTr w g b r num lf 0 x4 from ⟨BZ3.below hb4 BZ3.lt, by rw [unhide HC0]; exact BY3.below hb4 BY3.lt, by rw [unhide HTX] at hR4; exact hR4, hb3.trans (hb4.mono (by omega))⟩)
  clear BZ3 BY3 hb3 hR4 hb4 hs4 X3 hbq c2 hx3 HC0 HTX
  go_wp2
  go_loopw [15, 7] (fun i j wr => ∃ k : Nat, k ≤ 20 ∧ i = .int .i64 (k : Int) ∧ VTr w g b r num lf k wr) (fun i _ _ => 20 - (intOf i).toNat)
  case atStart => exact ⟨0, by omega, rfl, unhide HI⟩
  case round =>
    obtain ⟨k, hk, rfl, hI⟩ := hrel
    by_cases hkn : k < 20
    · have hkn' : (k : Int) < 20 := by omega
      have hk0 : (0 : Int) ≤ (k : Int) := by omega
      obtain ⟨I1, I2, I3, I4⟩ := hI
      have I5 := unhide HEW wr I4
      rw [rtT_step lf k hkn] at I3
      have HN := hide (rnumK I3 I5 (by decide) (by decide) (fits2n _ (by have := (unhide HQ).1 k hkn; omega)) (by have := (unhide HQ).1 k hkn; omega) (rtT_bytes lf (k + 1)) (by omega) (by rw [rtT_len lf (k + 1) (by omega)]; omega) 2 rfl (2 * ((k + 1 : Nat) : Int)) (by omega))
      have HI5 := hide (And.intro I1 (And.intro I2 I4))
      clear I1 I2 I3 I4 I5
      go_wp2_with fail
      refine (unhide HN).mono ?_
      rintro e y1 ⟨rfl, hR1, hO1⟩
      obtain ⟨I1, I2, I4⟩ := unhide HI5
      have J1 := I1.only hO1 (by omega)
      have J2 := I2.only hO1 (by omega)
      have c : y1.cell? ⟨g + 2, 2 + k, none⟩ = some (.int .i64 ((cutL lf k) k : Int)) := by rw [J2.cell, trC_at _ _ _ k hkn]
      have cf := J2.frozen (2 + k)
      have HI6 := hide (show VTr w g b r num lf (k + 1) (y1.setCell ⟨g + 2, 2 + k, none⟩ (.int .i64 (lf k : Int))) from ⟨J1.other _ _ (by simp), by have := J2.set (2 + k) (.int .i64 (lf k : Int)); rwa [trC_set _ _ _ k hkn, cutL_succ] at this, Blk.other hR1 _ _ (by show g + 2 ≠ b; omega), (I4.trans (hO1.below (by have := I2.lt; omega) (fun x hx => by omega))).setCell (by show g ≤ g + 2; omega) _⟩)
      clear I1 I2 I4 J1 J2 hR1 hO1 HI5 HN
      go_wp2
      go_roundw
      case rel => exact ⟨k + 1, by omega, by go_num, unhide HI6⟩
      case measure => simp [intOf]; omega
    · have hke : k = 20 := by omega
      have hkn' : ¬ (k : Int) < 20 := by omega
      obtain ⟨I1, I2, I3, I4⟩ := hI
      have I2' : Blk wr (g + 2) (trC r (num : Int) lf).toArray 94 := by rw [hke, trC_cut] at I2; exact I2
      have hzl := trC_len r (num : Int) lf
      have hzo := trC_one r (num : Int) lf
      obtain ⟨zs, hzs⟩ : ∃ q, trC r (num : Int) lf = q := ⟨_, rfl⟩
      rw [hzs] at I2' hzl hzo
      have HZS := hide hzs
      have R3 := hide (blk_range I2')
      have TH := hide (blk_there I1 zs.toArray.size (by simp [hzl]))
      have B4 := setCells_all I1 zs (by simp [hzl])
      have HLD := hide (iload_blk 94 _ B4 Tryz.underlying94 rfl (by rw [sizeTree]; simp [hzl]))
      have HB4 := hide (below_setCells (Nat.le_succ _) zs 0 I4)
      have HZL := hide hzl
      have HZO := hide hzo
      clear I1 I2 I3 I4 I2' hzl hzo B4 hzs hke
      go_wp2_with (first | refine wpList_load_mid rfl 94 (.tmp 5) rfl (g + 2) 0 rfl _ _ (unhide R3) Tryz.underlying94 rfl (by rw [sizeTree, unhide HZL]) ?_ | refine wpList_store_mid rfl 94 (.tmp 4) (.tmp 24) rfl (g + 1) 0 zs.toArray rfl rfl (unhide TH) (by rw [sizeTree]; simp [unhide HZL]) (unhide HZO) ?_)
      refine bodyPost_ret (v := .agg zs.toArray) (results_cell rfl _ _ _ ⟨g + 1, 0, none⟩ rfl _ (unhide HLD)) rfl ⟨by rw [unhide HZS], unhide HB4⟩
end Go.Proofs.YtjlgbafcpoakmaaGreatDoor
