import Derived.Test.YtpcmifmgkccfnaaGreatDoorMv11
namespace Go.Proofs.YtpcmifmgkccfnaaGreatDoor
open Go.RowKit
set_option maxRecDepth 100000
set_option maxRecDepth 100000 in
set_option maxHeartbeats 2000000 in
theorem seat_any (r : Rc) (h : ROk r) (z : Nat) (w : World) : Calls Tryz.prog 137 #[.agg (rV r).toArray, .int .i64 (z : Int)] w fun e w' => ((∃ p, p < r.v.length ∧ (r.at p).1 = z ∧ e = .returned (.tuple #[.int .i64 (p : Int), .bool true])) ∨ ((∀ p, p < r.v.length → (r.at p).1 ≠ z) ∧ e = .returned (.tuple #[.int .i64 0, .bool false]))) ∧ Below w.heap.size w w' := by
  obtain ⟨g, hg⟩ : ∃ g, w.heap.size = g := ⟨_, rfl⟩
  have HAT := hide (fun k (hk : k < 8) => (rC_at r.th r.q r.c r.v.length r.at k hk).1)
  have h3 : (rV r).toArray[3]? = some (.int .i64 (r.v.length : Int)) := rfl
  have hn := h.n
  unfold rV at h3
  rw [show rV r = rC r.th r.q r.c r.v.length r.at from rfl]
  generalize (rC r.th r.q r.c r.v.length r.at).toArray = xs at *
  generalize r.v.length = n at *
  generalize r.at = f at *
  obtain ⟨x2, hx2⟩ : ∃ xx, w.alloc (.cells xs 88) = xx := ⟨_, rfl⟩
  have B : Blk x2 g xs 88 := by rw [← hx2, ← hg]; exact Blk.new w _ _
  have hb : Below g w x2 := by rw [← hx2, ← hg]; exact (Below.refl _ w).alloc (Nat.le_refl _) _
  have c3 : x2.cell? ⟨g, 3, none⟩ = some (.int .i64 (n : Int)) := by rw [B.cell]; exact h3
  have HC := hide (fun k (hk : k < 8) => show x2.cell? ⟨g, 4 + k * 2, none⟩ = some (.int .i64 ((f k).1 : Int)) by rw [B.cell]; exact unhide HAT k hk)
  have HB := hide hb
  clear B hb h h3
  rw [hg]
  go_enter Tryz.func137, Tryz.ntmps137
  go_wp2
  clear hx2 c3
  go_loopw [9, 6] (fun i _ wr => ∃ k : Nat, k ≤ n ∧ i = .int .i64 (k : Int) ∧ wr = x2 ∧ ∀ p, p < k → (f p).1 ≠ z) (fun i _ _ => n - (intOf i).toNat)
  case atStart => exact ⟨0, by omega, rfl, rfl, fun p hp => absurd hp (Nat.not_lt_zero _)⟩
  case round =>
    obtain ⟨k, hk, rfl, hwr, hall⟩ := hrel
    subst hwr
    by_cases hkn : k < n
    · have hkn' : (k : Int) < (n : Int) := by omega
      have hk0 : (0 : Int) ≤ (k : Int) := by omega
      have hk8 : (k : Int) < 8 := by omega
      have ck := unhide HC k (by omega)
      have HALL := hide hall
      clear hall
      by_cases hz : (f k).1 = z
      · have hz' : (((f k).1 : Int) == (z : Int)) = true := by rw [hz]; simp
        have HZ := hide hz
        generalize ((f k).1 : Int) = fk at *
        clear hz
        go_wp2
        go_ret2
        exact ⟨.inl ⟨k, hkn, unhide HZ, rfl⟩, unhide HB⟩
      · have hz' : (((f k).1 : Int) == (z : Int)) = false := by simp; omega
        have HZ := hide hz
        generalize ((f k).1 : Int) = fk at *
        clear hz
        go_wp2
        go_roundw
        case rel => exact ⟨k + 1, by omega, by go_num, by first | rfl | trivial, fun p hp => by
          by_cases e : p = k
          · rw [e]; exact unhide HZ
          · exact unhide HALL p (by omega)⟩
        case measure => simp [intOf]; omega
    · have hke : k = n := by omega
      have hkn' : ¬ (k : Int) < (n : Int) := by omega
      have HALL := hide (show ∀ p, p < n → (f p).1 ≠ z by rw [← hke]; exact hall)
      clear hke hall
      go_wp2
      go_ret2
      exact ⟨.inr ⟨unhide HALL, rfl⟩, unhide HB⟩
set_option maxRecDepth 100000 in
set_option maxHeartbeats 2000000 in
theorem with_c (th : Bool) (q c n : Nat) (f : Nat → Nat × Nat) (hn : n < 8) (hz : ∀ k, n ≤ k → f k = (0, 0)) (a b : Nat) (w : World) : Calls Tryz.prog 87 #[.agg (rC th q c n f).toArray, .agg #[.int .i64 (a : Int), .int .i64 (b : Int)]] w fun e w' => e = .returned (.agg (rC th q c (n + 1) (addF f n a b)).toArray) ∧ Below w.heap.size w w' := by
  obtain ⟨g, hg⟩ : ∃ g, w.heap.size = g := ⟨_, rfl⟩
  have HSS := hide (shf_start f n hz)
  obtain ⟨x1, hx1⟩ : ∃ xx, w.alloc (.cells (rC th q c n f).toArray 88) = xx := ⟨_, rfl⟩
  have hg1 : x1.heap.size = g + 1 := by rw [← hx1, ← hg]; simp
  obtain ⟨x2, hx2⟩ : ∃ xx, x1.alloc (.cells #[.int .i64 (a : Int), .int .i64 (b : Int)] 54) = xx := ⟨_, rfl⟩
  have hg2 : x2.heap.size = g + 2 := by rw [← hx2]; simp; omega
  obtain ⟨x3, hx3⟩ : ∃ xx, x2.alloc (.cells #[.bool false, .int .i64 0, .int .i64 0, .int .i64 0, .int .i64 0, .int .i64 0, .int .i64 0, .int .i64 0, .int .i64 0, .int .i64 0, .int .i64 0, .int .i64 0, .int .i64 0, .int .i64 0, .int .i64 0, .int .i64 0, .int .i64 0, .int .i64 0, .int .i64 0, .int .i64 0] 88) = xx := ⟨_, rfl⟩
  have B : Blk x3 g (rC th q c n f).toArray 88 := by rw [← hx3, ← hx2, ← hx1, ← hg]; exact ((Blk.new w _ _).alloc _).alloc _
  have BA : Blk x3 (g + 1) #[.int .i64 (a : Int), .int .i64 (b : Int)] 54 := by rw [← hx3, ← hx2, ← hg1]; exact (Blk.new x1 _ _).alloc _
  have BZ : Blk x3 (g + 2) #[.bool false, .int .i64 0, .int .i64 0, .int .i64 0, .int .i64 0, .int .i64 0, .int .i64 0, .int .i64 0, .int .i64 0, .int .i64 0, .int .i64 0, .int .i64 0, .int .i64 0, .int .i64 0, .int .i64 0, .int .i64 0, .int .i64 0, .int .i64 0, .int .i64 0, .int .i64 0] 88 := by rw [← hx3, ← hg2]; exact Blk.new x2 _ _
  have hb : Below g w x3 := by rw [← hx3, ← hx2, ← hx1, ← hg]; exact (((Below.refl _ w).alloc (Nat.le_refl _) _).alloc (by simp) _).alloc (by simp; omega) _
  have c3 : x3.cell? ⟨g, 3, none⟩ = some (.int .i64 (n : Int)) := by rw [B.cell]; rfl
  have HI := hide (show Blk x3 g (rC th q c n (shf f n)).toArray 88 ∧ Blk x3 (g + 1) #[.int .i64 (a : Int), .int .i64 (b : Int)] 54 ∧ Blk x3 (g + 2) #[.bool false, .int .i64 0, .int .i64 0, .int .i64 0, .int .i64 0, .int .i64 0, .int .i64 0, .int .i64 0, .int .i64 0, .int .i64 0, .int .i64 0, .int .i64 0, .int .i64 0, .int .i64 0, .int .i64 0, .int .i64 0, .int .i64 0, .int .i64 0, .int .i64 0, .int .i64 0] 88 ∧ Below g w x3 from ⟨by rw [unhide HSS]; exact B, BA, BZ, hb⟩)
  clear B BA BZ hb hz HSS
  rw [hg]
  generalize hxx : (rC th q c n f).toArray = xx at *
  clear hxx
  go_enter Tryz.func87, Tryz.ntmps87
  go_wp2
  clear hx1 hx2 hx3 hg1 hg2 c3
  go_loopw [5] (fun i wr => ∃ k : Nat, k ≤ n ∧ i = .int .i64 (k : Int) ∧ posV f a n = posV f a k ∧ (Blk wr g (rC th q c n (shf f k)).toArray 88 ∧ Blk wr (g + 1) #[.int .i64 (a : Int), .int .i64 (b : Int)] 54 ∧ Blk wr (g + 2) #[.bool false, .int .i64 0, .int .i64 0, .int .i64 0, .int .i64 0, .int .i64 0, .int .i64 0, .int .i64 0, .int .i64 0, .int .i64 0, .int .i64 0, .int .i64 0, .int .i64 0, .int .i64 0, .int .i64 0, .int .i64 0, .int .i64 0, .int .i64 0, .int .i64 0, .int .i64 0] 88 ∧ Below g w wr)) (fun i _ => (intOf i).toNat)
  case atStart => exact ⟨n, Nat.le_refl _, rfl, rfl, unhide HI⟩
  case round =>
    obtain ⟨k, hk, rfl, hpos, hI⟩ := hrel
    have hk8 : k < 8 := by omega
    have hk8' : (k : Int) < 8 := by omega
    have hk0' : (0 : Int) ≤ (k : Int) := by omega
    have HS0 := hide (And.intro hI.1 hI.2.1)
    obtain ⟨wz, hwz⟩ : ∃ xx, wr.drew = xx := ⟨_, rfl⟩
    have HD1 := hide (show Blk wz g (rC th q c n (shf f k)).toArray 88 ∧ Blk wz (g + 1) #[.int .i64 (a : Int), .int .i64 (b : Int)] 54 ∧ Blk wz (g + 2) #[.bool false, .int .i64 0, .int .i64 0, .int .i64 0, .int .i64 0, .int .i64 0, .int .i64 0, .int .i64 0, .int .i64 0, .int .i64 0, .int .i64 0, .int .i64 0, .int .i64 0, .int .i64 0, .int .i64 0, .int .i64 0, .int .i64 0, .int .i64 0, .int .i64 0, .int .i64 0] 88 ∧ Below g w wz by rw [← hwz]; exact ⟨hI.1, hI.2.1, hI.2.2.1, hI.2.2.2.drew⟩)
    by_cases hkz : k = 0
    · have hkp : ¬ (0 : Int) < (k : Int) := by omega
      have HPE := hide (show k = posV f a n by rw [hpos, hkz]; rfl)
      clear hkz hI hpos HI
      go_wp2
      refine wp_region_held_drew (S := fun w' => Blk w' g (rC th q c n (shf f k)).toArray 88 ∧ Blk w' (g + 1) #[.int .i64 (a : Int), .int .i64 (b : Int)] 54) (by kernel_rfl) (unhide HS0) ?_
      intro hS
      refine wpAnyH_takeD 0 (some 8) (.int .i64 (k : Int)) rfl rfl (by kernel_rfl) (by kernel_rfl) (by kernel_rfl) (fun _ _ _ h => h) (Or.inl ⟨by rfl, fun w hSw => by clear hSw; go_simp; try omega⟩) hS ?_
      simp only [Act.put, List.setIfInBounds_toArray, List.set_cons_zero, List.set_cons_succ]
      refine wpAnyH_takeD 1 (some 9) (.bool false) rfl rfl (by kernel_rfl) (by kernel_rfl) (by kernel_rfl) (fun _ _ _ h => h) (Or.inl ⟨by rfl, fun w hSw => by clear hSw; go_simp; try omega⟩) hS ?_
      simp only [Act.put, List.setIfInBounds_toArray, List.set_cons_zero, List.set_cons_succ]
      refine wpAnyH_takeD 2 (some 10) (.bool false) rfl rfl (by kernel_rfl) (by kernel_rfl) (by kernel_rfl) (fun _ _ _ h => h) (Or.inl ⟨by rfl, fun w hSw => by clear hSw; go_simp; try omega⟩) hS ?_
      simp only [Act.put, List.setIfInBounds_toArray, List.set_cons_zero, List.set_cons_succ]
      refine wpAnyH_takeD 3 (some 11) undef rfl rfl (by kernel_rfl) (by kernel_rfl) (by kernel_rfl) (fun _ _ _ h => h) (Or.inr ⟨by rfl, rfl⟩) hS ?_
      simp only [Act.put, List.setIfInBounds_toArray, List.set_cons_zero, List.set_cons_succ]
      refine wpAnyH_takeD 4 (some 12) undef rfl rfl (by kernel_rfl) (by kernel_rfl) (by kernel_rfl) (fun _ _ _ h => h) (Or.inr ⟨by rfl, rfl⟩) hS ?_
      simp only [Act.put, List.setIfInBounds_toArray, List.set_cons_zero, List.set_cons_succ]
      refine wpAnyH_takeD 5 (some 13) undef rfl rfl (by kernel_rfl) (by kernel_rfl) (by kernel_rfl) (fun _ _ _ h => h) (Or.inr ⟨by rfl, rfl⟩) hS ?_
      simp only [Act.put, List.setIfInBounds_toArray, List.set_cons_zero, List.set_cons_succ]
      refine wpAnyH_takeD 6 (some 14) undef rfl rfl (by kernel_rfl) (by kernel_rfl) (by kernel_rfl) (fun _ _ _ h => h) (Or.inr ⟨by rfl, rfl⟩) hS ?_
      simp only [Act.put, List.setIfInBounds_toArray, List.set_cons_zero, List.set_cons_succ]
      refine wpAnyH_takeD 7 (some 15) undef rfl rfl (by kernel_rfl) (by kernel_rfl) (by kernel_rfl) (fun _ _ _ h => h) (Or.inr ⟨by rfl, rfl⟩) hS ?_
      simp only [Act.put, List.setIfInBounds_toArray, List.set_cons_zero, List.set_cons_succ]
      refine wpAnyH_takeD 8 (some 16) undef rfl rfl (by kernel_rfl) (by kernel_rfl) (by kernel_rfl) (fun _ _ _ h => h) (Or.inr ⟨by rfl, rfl⟩) hS ?_
      simp only [Act.put, List.setIfInBounds_toArray, List.set_cons_zero, List.set_cons_succ]
      refine wpAnyH_takeD 9 (some 17) undef rfl rfl (by kernel_rfl) (by kernel_rfl) (by kernel_rfl) (fun _ _ _ h => h) (Or.inr ⟨by rfl, rfl⟩) hS ?_
      simp only [Act.put, List.setIfInBounds_toArray, List.set_cons_zero, List.set_cons_succ]
      refine wpAnyH_takeD 10 (some 18) undef rfl rfl (by kernel_rfl) (by kernel_rfl) (by kernel_rfl) (fun _ _ _ h => h) (Or.inr ⟨by rfl, rfl⟩) hS ?_
      simp only [Act.put, List.setIfInBounds_toArray, List.set_cons_zero, List.set_cons_succ]
      refine wpAnyH_takeD 11 (some 19) undef rfl rfl (by kernel_rfl) (by kernel_rfl) (by kernel_rfl) (fun _ _ _ h => h) (Or.inr ⟨by rfl, rfl⟩) hS ?_
      simp only [Act.put, List.setIfInBounds_toArray, List.set_cons_zero, List.set_cons_succ]
      refine wpAnyH_takeD 12 (some 20) (.bool false) rfl rfl (by kernel_rfl) (by kernel_rfl) (by kernel_rfl) (fun _ _ _ h => h) (Or.inl ⟨by rfl, fun w hSw => by clear hSw; go_simp; try omega⟩) hS ?_
      simp only [Act.put, List.setIfInBounds_toArray, List.set_cons_zero, List.set_cons_succ]
      refine wpAnyH_done (by kernel_rfl) ?_ _
      clear hS HS0
      rw [hwz]
      have HSB := hide (unhide HPE)
      clear HPE
      have D1 := unhide HD1
      have hset1 := rC_set1 th q c n (shf f k) k hk8 a
      have hset2 := rC_set2 th q c n (ups (shf f k) k (a, (shf f k k).2)) k hk8 b
      rw [ups_same, ups_ups] at hset2
      have hset3 : (rC th q c n (ups (shf f k) k (a, b))).toArray.setIfInBounds 3 (.int .i64 ((n + 1 : Nat) : Int)) = (rC th q c (n + 1) (ups (shf f k) k (a, b))).toArray := rfl
      obtain ⟨I1, I2, I3, I4⟩ := D1
      have p1 : wz.cell? ⟨g, 4 + k * 2, none⟩ = some (.int .i64 ((shf f k k).1 : Int)) := by rw [I1.cell]; exact (rC_at _ _ _ _ _ k hk8).1
      have p2 : wz.cell? ⟨g, 4 + k * 2 + 1, none⟩ = some (.int .i64 ((shf f k k).2 : Int)) := by rw [I1.cell]; exact (rC_at _ _ _ _ _ k hk8).2
      have q1 := I1.frozen (4 + k * 2)
      have q2 := I1.frozen (4 + k * 2 + 1)
      have v0 : wz.cell? ⟨g + 1, 0, none⟩ = some (.int .i64 (a : Int)) := I2.cell 0
      have v1 : wz.cell? ⟨g + 1, 1, none⟩ = some (.int .i64 (b : Int)) := I2.cell 1
      obtain ⟨y1, hy1⟩ : ∃ xx, (wz.setCell ⟨g, 4 + k * 2, none⟩ (.int .i64 (a : Int))).setCell ⟨g, 4 + k * 2 + 1, none⟩ (.int .i64 (b : Int)) = xx := ⟨_, rfl⟩
      have L1 : Blk y1 g (rC th q c n (ups (shf f k) k (a, b))).toArray 88 := by rw [← hy1, ← hset2, ← hset1]; exact (I1.set _ _).set _ _
      have L3 : Blk y1 (g + 2) #[.bool false, .int .i64 0, .int .i64 0, .int .i64 0, .int .i64 0, .int .i64 0, .int .i64 0, .int .i64 0, .int .i64 0, .int .i64 0, .int .i64 0, .int .i64 0, .int .i64 0, .int .i64 0, .int .i64 0, .int .i64 0, .int .i64 0, .int .i64 0, .int .i64 0, .int .i64 0] 88 := by rw [← hy1]; exact (I3.other _ _ (by show g ≠ g + 2; omega)).other _ _ (by show g ≠ g + 2; omega)
      have L4 : Below g w y1 := by rw [← hy1]; exact (I4.setCell (Nat.le_refl _) _).setCell (Nat.le_refl _) _
      have p3 : y1.cell? ⟨g, 3, none⟩ = some (.int .i64 (n : Int)) := by rw [L1.cell]; rfl
      have q3 := L1.frozen 3
      obtain ⟨y2, hy2⟩ : ∃ xx, y1.setCell ⟨g, 3, none⟩ (.int .i64 ((n + 1 : Nat) : Int)) = xx := ⟨_, rfl⟩
      have N1 : Blk y2 g (rC th q c (n + 1) (ups (shf f k) k (a, b))).toArray 88 := by rw [← hy2, ← hset3]; exact L1.set _ _
      have N3 : Blk y2 (g + 2) #[.bool false, .int .i64 0, .int .i64 0, .int .i64 0, .int .i64 0, .int .i64 0, .int .i64 0, .int .i64 0, .int .i64 0, .int .i64 0, .int .i64 0, .int .i64 0, .int .i64 0, .int .i64 0, .int .i64 0, .int .i64 0, .int .i64 0, .int .i64 0, .int .i64 0, .int .i64 0] 88 := by rw [← hy2]; exact L3.other _ _ (by show g ≠ g + 2; omega)
      have N4 : Below g w y2 := by rw [← hy2]; exact L4.setCell (Nat.le_refl _) _
      have HYQ := hide (show rC th q c (n + 1) (ups (shf f k) k (a, b)) = rC th q c (n + 1) (addF f n a b) by unfold addF; rw [← unhide HSB])
      have hyl := rC_len th q c (n + 1) (ups (shf f k) k (a, b))
      have hyo := rC_one th q c (n + 1) (ups (shf f k) k (a, b))
      generalize rC th q c (n + 1) (ups (shf f k) k (a, b)) = ys at *
      have R4 := hide (blk_range N1)
      have TH := hide (blk_there N3 ys.toArray.size (by simp [hyl]))
      have B5 := setCells_all N3 ys (by simp [hyl])
      have HLD := hide (iload_blk 88 _ B5 Tryz.underlying88 rfl (by rw [sizeRec]; simp [hyl]))
      have HB4 := hide (below_setCells (b := g + 2) (by omega) ys 0 N4)
      have HYL := hide hyl
      have HYO := hide hyo
      have e1 : (n : Int) + 1 = ((n + 1 : Nat) : Int) := by omega
      have hw1 : IntKind.i64.wrap ((n + 1 : Nat) : Int) = ((n + 1 : Nat) : Int) := wrapI_eq _ (by omega) (by omega)
      generalize ((n + 1 : Nat) : Int) = nn at *
      generalize ((shf f k k).1 : Int) = s1 at *
      generalize ((shf f k k).2 : Int) = s2 at *
      clear I1 I2 I3 I4 hset1 hset2 hset3 L1 L3 L4 N1 N3 N4 B5 hyl hyo HSB HD1
      go_wp2_with (first | refine wpList_load_mid rfl 88 (.tmp 2) rfl g 0 rfl _ _ (unhide R4) Tryz.underlying88 rfl (by rw [sizeRec, unhide HYL]) ?_ | refine wpList_store_mid rfl 88 (.tmp 4) (.tmp 39) rfl (g + 2) 0 ys.toArray rfl rfl (unhide TH) (by rw [sizeRec]; simp [unhide HYL]) (unhide HYO) ?_)
      exact bodyPost_ret (v := .agg ys.toArray) (results_cell rfl _ _ _ ⟨g + 2, 0, none⟩ rfl _ (unhide HLD)) rfl ⟨by rw [unhide HYQ], unhide HB4⟩
    · have hkp : (0 : Int) < (k : Int) := by omega
      obtain ⟨j, hj⟩ : ∃ j, k = j + 1 := ⟨k - 1, by omega⟩
      have hjk : (k : Int) - 1 = (j : Int) := by omega
      have hj8 : (j : Int) < 8 := by omega
      have hj0 : (0 : Int) ≤ (j : Int) := by omega
      have hwj : IntKind.i64.wrap (j : Int) = (j : Int) := wrapI_eq _ (by omega) (by omega)
      have HSJ := hide (show shf f k j = f j by rw [hj]; exact shf_at f j)
      have HAJ := hide (show (rC th q c n (shf f k)).toArray[4 + j * 2]? = some (.int .i64 ((f j).1 : Int)) ∧ (rC th q c n (shf f k)).toArray[4 + j * 2 + 1]? = some (.int .i64 ((f j).2 : Int)) by
        have := rC_at th q c n (shf f k) j (by omega)
        rwa [unhide HSJ] at this)
      by_cases hgt : a < (f j).1
      · have hgt' : (a : Int) < ((f j).1 : Int) := by omega
        have HPK := hide (show posV f a n = posV f a j by rw [hpos, hj]; show (if a < (f j).1 then posV f a j else j + 1) = _; rw [if_pos hgt])
        have HST := hide (show ups (shf f k) k (f j) = shf f j by rw [hj]; exact shf_step f j)
        have HJK := hide hj
        clear hkz hI hpos HI hgt hj
        go_wp2
        refine wp_region_held_drew (S := fun w' => Blk w' g (rC th q c n (shf f k)).toArray 88 ∧ Blk w' (g + 1) #[.int .i64 (a : Int), .int .i64 (b : Int)] 54) (by kernel_rfl) (unhide HS0) ?_
        intro hS
        refine wpAnyH_takeD 0 (some 8) (.int .i64 (k : Int)) rfl rfl (by kernel_rfl) (by kernel_rfl) (by kernel_rfl) (fun _ _ _ h => h) (Or.inl ⟨by rfl, fun w hSw => by have a0 : w.cell? ⟨g + 1, 0, none⟩ = some (.int .i64 (a : Int)) := Blk.cell hSw.2 0; have a1 : w.cell? ⟨g, 4 + j * 2, none⟩ = some (.int .i64 ((f j).1 : Int)) := (Blk.cell hSw.1 _).trans (unhide HAJ).1; clear hSw; go_simp; try omega⟩) hS ?_
        simp only [Act.put, List.setIfInBounds_toArray, List.set_cons_zero, List.set_cons_succ]
        refine wpAnyH_takeD 1 (some 9) (.bool true) rfl rfl (by kernel_rfl) (by kernel_rfl) (by kernel_rfl) (fun _ _ _ h => h) (Or.inl ⟨by rfl, fun w hSw => by have a0 : w.cell? ⟨g + 1, 0, none⟩ = some (.int .i64 (a : Int)) := Blk.cell hSw.2 0; have a1 : w.cell? ⟨g, 4 + j * 2, none⟩ = some (.int .i64 ((f j).1 : Int)) := (Blk.cell hSw.1 _).trans (unhide HAJ).1; clear hSw; go_simp; try omega⟩) hS ?_
        simp only [Act.put, List.setIfInBounds_toArray, List.set_cons_zero, List.set_cons_succ]
        refine wpAnyH_takeD 2 (some 10) (.bool true) rfl rfl (by kernel_rfl) (by kernel_rfl) (by kernel_rfl) (fun _ _ _ h => h) (Or.inl ⟨by rfl, fun w hSw => by have a0 : w.cell? ⟨g + 1, 0, none⟩ = some (.int .i64 (a : Int)) := Blk.cell hSw.2 0; have a1 : w.cell? ⟨g, 4 + j * 2, none⟩ = some (.int .i64 ((f j).1 : Int)) := (Blk.cell hSw.1 _).trans (unhide HAJ).1; clear hSw; go_simp; try omega⟩) hS ?_
        simp only [Act.put, List.setIfInBounds_toArray, List.set_cons_zero, List.set_cons_succ]
        refine wpAnyH_takeD 3 (some 11) (.int .i64 (k : Int)) rfl rfl (by kernel_rfl) (by kernel_rfl) (by kernel_rfl) (fun _ _ _ h => h) (Or.inl ⟨by rfl, fun w hSw => by have a0 : w.cell? ⟨g + 1, 0, none⟩ = some (.int .i64 (a : Int)) := Blk.cell hSw.2 0; have a1 : w.cell? ⟨g, 4 + j * 2, none⟩ = some (.int .i64 ((f j).1 : Int)) := (Blk.cell hSw.1 _).trans (unhide HAJ).1; clear hSw; go_simp; try omega⟩) hS ?_
        simp only [Act.put, List.setIfInBounds_toArray, List.set_cons_zero, List.set_cons_succ]
        refine wpAnyH_takeD 4 (some 12) (.int .i64 (j : Int)) rfl rfl (by kernel_rfl) (by kernel_rfl) (by kernel_rfl) (fun _ _ _ h => h) (Or.inl ⟨by rfl, fun w hSw => by have a0 : w.cell? ⟨g + 1, 0, none⟩ = some (.int .i64 (a : Int)) := Blk.cell hSw.2 0; have a1 : w.cell? ⟨g, 4 + j * 2, none⟩ = some (.int .i64 ((f j).1 : Int)) := (Blk.cell hSw.1 _).trans (unhide HAJ).1; clear hSw; go_simp; try omega⟩) hS ?_
        simp only [Act.put, List.setIfInBounds_toArray, List.set_cons_zero, List.set_cons_succ]
        refine wpAnyH_takeD 5 (some 13) (.pointer (some ⟨g, 4, none⟩)) rfl rfl (by kernel_rfl) (by kernel_rfl) (by kernel_rfl) (fun _ _ _ h => h) (Or.inl ⟨by rfl, fun w hSw => by have a0 : w.cell? ⟨g + 1, 0, none⟩ = some (.int .i64 (a : Int)) := Blk.cell hSw.2 0; have a1 : w.cell? ⟨g, 4 + j * 2, none⟩ = some (.int .i64 ((f j).1 : Int)) := (Blk.cell hSw.1 _).trans (unhide HAJ).1; clear hSw; go_simp; try omega⟩) hS ?_
        simp only [Act.put, List.setIfInBounds_toArray, List.set_cons_zero, List.set_cons_succ]
        refine wpAnyH_takeD 6 (some 14) (.pointer (some ⟨g, 4 + j * 2, none⟩)) rfl rfl (by kernel_rfl) (by kernel_rfl) (by kernel_rfl) (fun _ _ _ h => h) (Or.inl ⟨by rfl, fun w hSw => by have a0 : w.cell? ⟨g + 1, 0, none⟩ = some (.int .i64 (a : Int)) := Blk.cell hSw.2 0; have a1 : w.cell? ⟨g, 4 + j * 2, none⟩ = some (.int .i64 ((f j).1 : Int)) := (Blk.cell hSw.1 _).trans (unhide HAJ).1; clear hSw; go_simp; try omega⟩) hS ?_
        simp only [Act.put, List.setIfInBounds_toArray, List.set_cons_zero, List.set_cons_succ]
        refine wpAnyH_takeD 7 (some 15) (.pointer (some ⟨g, 4 + j * 2, none⟩)) rfl rfl (by kernel_rfl) (by kernel_rfl) (by kernel_rfl) (fun _ _ _ h => h) (Or.inl ⟨by rfl, fun w hSw => by have a0 : w.cell? ⟨g + 1, 0, none⟩ = some (.int .i64 (a : Int)) := Blk.cell hSw.2 0; have a1 : w.cell? ⟨g, 4 + j * 2, none⟩ = some (.int .i64 ((f j).1 : Int)) := (Blk.cell hSw.1 _).trans (unhide HAJ).1; clear hSw; go_simp; try omega⟩) hS ?_
        simp only [Act.put, List.setIfInBounds_toArray, List.set_cons_zero, List.set_cons_succ]
        refine wpAnyH_takeD 8 (some 16) (.int .i64 ((f j).1 : Int)) rfl rfl (by kernel_rfl) (by kernel_rfl) (by kernel_rfl) (fun _ _ _ h => h) (Or.inl ⟨by rfl, fun w hSw => by have a0 : w.cell? ⟨g + 1, 0, none⟩ = some (.int .i64 (a : Int)) := Blk.cell hSw.2 0; have a1 : w.cell? ⟨g, 4 + j * 2, none⟩ = some (.int .i64 ((f j).1 : Int)) := (Blk.cell hSw.1 _).trans (unhide HAJ).1; clear hSw; go_simp; try omega⟩) hS ?_
        simp only [Act.put, List.setIfInBounds_toArray, List.set_cons_zero, List.set_cons_succ]
        refine wpAnyH_takeD 9 (some 17) (.pointer (some ⟨g + 1, 0, none⟩)) rfl rfl (by kernel_rfl) (by kernel_rfl) (by kernel_rfl) (fun _ _ _ h => h) (Or.inl ⟨by rfl, fun w hSw => by have a0 : w.cell? ⟨g + 1, 0, none⟩ = some (.int .i64 (a : Int)) := Blk.cell hSw.2 0; have a1 : w.cell? ⟨g, 4 + j * 2, none⟩ = some (.int .i64 ((f j).1 : Int)) := (Blk.cell hSw.1 _).trans (unhide HAJ).1; clear hSw; go_simp; try omega⟩) hS ?_
        simp only [Act.put, List.setIfInBounds_toArray, List.set_cons_zero, List.set_cons_succ]
        refine wpAnyH_takeD 10 (some 18) (.int .i64 (a : Int)) rfl rfl (by kernel_rfl) (by kernel_rfl) (by kernel_rfl) (fun _ _ _ h => h) (Or.inl ⟨by rfl, fun w hSw => by have a0 : w.cell? ⟨g + 1, 0, none⟩ = some (.int .i64 (a : Int)) := Blk.cell hSw.2 0; have a1 : w.cell? ⟨g, 4 + j * 2, none⟩ = some (.int .i64 ((f j).1 : Int)) := (Blk.cell hSw.1 _).trans (unhide HAJ).1; clear hSw; go_simp; try omega⟩) hS ?_
        simp only [Act.put, List.setIfInBounds_toArray, List.set_cons_zero, List.set_cons_succ]
        refine wpAnyH_takeD 11 (some 19) (.bool true) rfl rfl (by kernel_rfl) (by kernel_rfl) (by kernel_rfl) (fun _ _ _ h => h) (Or.inl ⟨by rfl, fun w hSw => by have a0 : w.cell? ⟨g + 1, 0, none⟩ = some (.int .i64 (a : Int)) := Blk.cell hSw.2 0; have a1 : w.cell? ⟨g, 4 + j * 2, none⟩ = some (.int .i64 ((f j).1 : Int)) := (Blk.cell hSw.1 _).trans (unhide HAJ).1; clear hSw; go_simp; try omega⟩) hS ?_
        simp only [Act.put, List.setIfInBounds_toArray, List.set_cons_zero, List.set_cons_succ]
        refine wpAnyH_takeD 12 (some 20) (.bool true) rfl rfl (by kernel_rfl) (by kernel_rfl) (by kernel_rfl) (fun _ _ _ h => h) (Or.inl ⟨by rfl, fun w hSw => by have a0 : w.cell? ⟨g + 1, 0, none⟩ = some (.int .i64 (a : Int)) := Blk.cell hSw.2 0; have a1 : w.cell? ⟨g, 4 + j * 2, none⟩ = some (.int .i64 ((f j).1 : Int)) := (Blk.cell hSw.1 _).trans (unhide HAJ).1; clear hSw; go_simp; try omega⟩) hS ?_
        simp only [Act.put, List.setIfInBounds_toArray, List.set_cons_zero, List.set_cons_succ]
        refine wpAnyH_done (by kernel_rfl) ?_ _
        clear hS HS0
        rw [hwz]
        obtain ⟨I1, I2, I3, I4⟩ := unhide HD1
        have a1 : wz.cell? ⟨g, 4 + j * 2, none⟩ = some (.int .i64 ((f j).1 : Int)) := by rw [I1.cell]; exact (unhide HAJ).1
        have a2 : wz.cell? ⟨g, 4 + j * 2 + 1, none⟩ = some (.int .i64 ((f j).2 : Int)) := by rw [I1.cell]; exact (unhide HAJ).2
        have p1 : wz.cell? ⟨g, 4 + k * 2, none⟩ = some (.int .i64 ((shf f k k).1 : Int)) := by rw [I1.cell]; exact (rC_at _ _ _ _ _ k hk8).1
        have p2 : wz.cell? ⟨g, 4 + k * 2 + 1, none⟩ = some (.int .i64 ((shf f k k).2 : Int)) := by rw [I1.cell]; exact (rC_at _ _ _ _ _ k hk8).2
        have q1 := I1.frozen (4 + k * 2)
        have q2 := I1.frozen (4 + k * 2 + 1)
        have hset1 := rC_set1 th q c n (shf f k) k hk8 (f j).1
        have hset2 := rC_set2 th q c n (ups (shf f k) k ((f j).1, (shf f k k).2)) k hk8 (f j).2
        rw [ups_same, ups_ups, show ((f j).1, (f j).2) = f j from rfl, unhide HST] at hset2
        have HF := hide (show Blk ((wz.setCell ⟨g, 4 + k * 2, none⟩ (.int .i64 ((f j).1 : Int))).setCell ⟨g, 4 + k * 2 + 1, none⟩ (.int .i64 ((f j).2 : Int))) g (rC th q c n (shf f j)).toArray 88 ∧ Blk ((wz.setCell ⟨g, 4 + k * 2, none⟩ (.int .i64 ((f j).1 : Int))).setCell ⟨g, 4 + k * 2 + 1, none⟩ (.int .i64 ((f j).2 : Int))) (g + 1) #[.int .i64 (a : Int), .int .i64 (b : Int)] 54 ∧ Blk ((wz.setCell ⟨g, 4 + k * 2, none⟩ (.int .i64 ((f j).1 : Int))).setCell ⟨g, 4 + k * 2 + 1, none⟩ (.int .i64 ((f j).2 : Int))) (g + 2) #[.bool false, .int .i64 0, .int .i64 0, .int .i64 0, .int .i64 0, .int .i64 0, .int .i64 0, .int .i64 0, .int .i64 0, .int .i64 0, .int .i64 0, .int .i64 0, .int .i64 0, .int .i64 0, .int .i64 0, .int .i64 0, .int .i64 0, .int .i64 0, .int .i64 0, .int .i64 0] 88 ∧ Below g w ((wz.setCell ⟨g, 4 + k * 2, none⟩ (.int .i64 ((f j).1 : Int))).setCell ⟨g, 4 + k * 2 + 1, none⟩ (.int .i64 ((f j).2 : Int))) from ⟨by rw [← hset2, ← hset1]; exact (I1.set _ _).set _ _, (I2.other _ _ (by show g ≠ g + 1; omega)).other _ _ (by show g ≠ g + 1; omega), (I3.other _ _ (by show g ≠ g + 2; omega)).other _ _ (by show g ≠ g + 2; omega), (I4.setCell (Nat.le_refl _) _).setCell (Nat.le_refl _) _⟩)
        clear I1 I2 I3 I4 hset1 hset2 HD1
        generalize ((shf f k k).1 : Int) = s1 at *
        generalize ((shf f k k).2 : Int) = s2 at *
        generalize ((f j).1 : Int) = f1 at *
        generalize ((f j).2 : Int) = f2 at *
        go_wp2
        go_roundw
        case rel => exact ⟨j, by have := unhide HJK; omega, rfl, unhide HPK, unhide HF⟩
        case measure => have := unhide HJK; simp [intOf]; omega
      · have hgt' : ¬ (a : Int) < ((f j).1 : Int) := by omega
        have HPE := hide (show k = posV f a n by rw [hpos, hj]; show j + 1 = (if a < (f j).1 then posV f a j else j + 1); rw [if_neg hgt])
        clear hkz hI hpos HI hgt hj
        go_wp2
        refine wp_region_held_drew (S := fun w' => Blk w' g (rC th q c n (shf f k)).toArray 88 ∧ Blk w' (g + 1) #[.int .i64 (a : Int), .int .i64 (b : Int)] 54) (by kernel_rfl) (unhide HS0) ?_
        intro hS
        refine wpAnyH_takeD 0 (some 8) (.int .i64 (k : Int)) rfl rfl (by kernel_rfl) (by kernel_rfl) (by kernel_rfl) (fun _ _ _ h => h) (Or.inl ⟨by rfl, fun w hSw => by have a0 : w.cell? ⟨g + 1, 0, none⟩ = some (.int .i64 (a : Int)) := Blk.cell hSw.2 0; have a1 : w.cell? ⟨g, 4 + j * 2, none⟩ = some (.int .i64 ((f j).1 : Int)) := (Blk.cell hSw.1 _).trans (unhide HAJ).1; clear hSw; go_simp; try omega⟩) hS ?_
        simp only [Act.put, List.setIfInBounds_toArray, List.set_cons_zero, List.set_cons_succ]
        refine wpAnyH_takeD 1 (some 9) (.bool true) rfl rfl (by kernel_rfl) (by kernel_rfl) (by kernel_rfl) (fun _ _ _ h => h) (Or.inl ⟨by rfl, fun w hSw => by have a0 : w.cell? ⟨g + 1, 0, none⟩ = some (.int .i64 (a : Int)) := Blk.cell hSw.2 0; have a1 : w.cell? ⟨g, 4 + j * 2, none⟩ = some (.int .i64 ((f j).1 : Int)) := (Blk.cell hSw.1 _).trans (unhide HAJ).1; clear hSw; go_simp; try omega⟩) hS ?_
        simp only [Act.put, List.setIfInBounds_toArray, List.set_cons_zero, List.set_cons_succ]
        refine wpAnyH_takeD 2 (some 10) (.bool true) rfl rfl (by kernel_rfl) (by kernel_rfl) (by kernel_rfl) (fun _ _ _ h => h) (Or.inl ⟨by rfl, fun w hSw => by have a0 : w.cell? ⟨g + 1, 0, none⟩ = some (.int .i64 (a : Int)) := Blk.cell hSw.2 0; have a1 : w.cell? ⟨g, 4 + j * 2, none⟩ = some (.int .i64 ((f j).1 : Int)) := (Blk.cell hSw.1 _).trans (unhide HAJ).1; clear hSw; go_simp; try omega⟩) hS ?_
        simp only [Act.put, List.setIfInBounds_toArray, List.set_cons_zero, List.set_cons_succ]
        refine wpAnyH_takeD 3 (some 11) (.int .i64 (k : Int)) rfl rfl (by kernel_rfl) (by kernel_rfl) (by kernel_rfl) (fun _ _ _ h => h) (Or.inl ⟨by rfl, fun w hSw => by have a0 : w.cell? ⟨g + 1, 0, none⟩ = some (.int .i64 (a : Int)) := Blk.cell hSw.2 0; have a1 : w.cell? ⟨g, 4 + j * 2, none⟩ = some (.int .i64 ((f j).1 : Int)) := (Blk.cell hSw.1 _).trans (unhide HAJ).1; clear hSw; go_simp; try omega⟩) hS ?_
        simp only [Act.put, List.setIfInBounds_toArray, List.set_cons_zero, List.set_cons_succ]
        refine wpAnyH_takeD 4 (some 12) (.int .i64 (j : Int)) rfl rfl (by kernel_rfl) (by kernel_rfl) (by kernel_rfl) (fun _ _ _ h => h) (Or.inl ⟨by rfl, fun w hSw => by have a0 : w.cell? ⟨g + 1, 0, none⟩ = some (.int .i64 (a : Int)) := Blk.cell hSw.2 0; have a1 : w.cell? ⟨g, 4 + j * 2, none⟩ = some (.int .i64 ((f j).1 : Int)) := (Blk.cell hSw.1 _).trans (unhide HAJ).1; clear hSw; go_simp; try omega⟩) hS ?_
        simp only [Act.put, List.setIfInBounds_toArray, List.set_cons_zero, List.set_cons_succ]
        refine wpAnyH_takeD 5 (some 13) (.pointer (some ⟨g, 4, none⟩)) rfl rfl (by kernel_rfl) (by kernel_rfl) (by kernel_rfl) (fun _ _ _ h => h) (Or.inl ⟨by rfl, fun w hSw => by have a0 : w.cell? ⟨g + 1, 0, none⟩ = some (.int .i64 (a : Int)) := Blk.cell hSw.2 0; have a1 : w.cell? ⟨g, 4 + j * 2, none⟩ = some (.int .i64 ((f j).1 : Int)) := (Blk.cell hSw.1 _).trans (unhide HAJ).1; clear hSw; go_simp; try omega⟩) hS ?_
        simp only [Act.put, List.setIfInBounds_toArray, List.set_cons_zero, List.set_cons_succ]
        refine wpAnyH_takeD 6 (some 14) (.pointer (some ⟨g, 4 + j * 2, none⟩)) rfl rfl (by kernel_rfl) (by kernel_rfl) (by kernel_rfl) (fun _ _ _ h => h) (Or.inl ⟨by rfl, fun w hSw => by have a0 : w.cell? ⟨g + 1, 0, none⟩ = some (.int .i64 (a : Int)) := Blk.cell hSw.2 0; have a1 : w.cell? ⟨g, 4 + j * 2, none⟩ = some (.int .i64 ((f j).1 : Int)) := (Blk.cell hSw.1 _).trans (unhide HAJ).1; clear hSw; go_simp; try omega⟩) hS ?_
        simp only [Act.put, List.setIfInBounds_toArray, List.set_cons_zero, List.set_cons_succ]
        refine wpAnyH_takeD 7 (some 15) (.pointer (some ⟨g, 4 + j * 2, none⟩)) rfl rfl (by kernel_rfl) (by kernel_rfl) (by kernel_rfl) (fun _ _ _ h => h) (Or.inl ⟨by rfl, fun w hSw => by have a0 : w.cell? ⟨g + 1, 0, none⟩ = some (.int .i64 (a : Int)) := Blk.cell hSw.2 0; have a1 : w.cell? ⟨g, 4 + j * 2, none⟩ = some (.int .i64 ((f j).1 : Int)) := (Blk.cell hSw.1 _).trans (unhide HAJ).1; clear hSw; go_simp; try omega⟩) hS ?_
        simp only [Act.put, List.setIfInBounds_toArray, List.set_cons_zero, List.set_cons_succ]
        refine wpAnyH_takeD 8 (some 16) (.int .i64 ((f j).1 : Int)) rfl rfl (by kernel_rfl) (by kernel_rfl) (by kernel_rfl) (fun _ _ _ h => h) (Or.inl ⟨by rfl, fun w hSw => by have a0 : w.cell? ⟨g + 1, 0, none⟩ = some (.int .i64 (a : Int)) := Blk.cell hSw.2 0; have a1 : w.cell? ⟨g, 4 + j * 2, none⟩ = some (.int .i64 ((f j).1 : Int)) := (Blk.cell hSw.1 _).trans (unhide HAJ).1; clear hSw; go_simp; try omega⟩) hS ?_
        simp only [Act.put, List.setIfInBounds_toArray, List.set_cons_zero, List.set_cons_succ]
        refine wpAnyH_takeD 9 (some 17) (.pointer (some ⟨g + 1, 0, none⟩)) rfl rfl (by kernel_rfl) (by kernel_rfl) (by kernel_rfl) (fun _ _ _ h => h) (Or.inl ⟨by rfl, fun w hSw => by have a0 : w.cell? ⟨g + 1, 0, none⟩ = some (.int .i64 (a : Int)) := Blk.cell hSw.2 0; have a1 : w.cell? ⟨g, 4 + j * 2, none⟩ = some (.int .i64 ((f j).1 : Int)) := (Blk.cell hSw.1 _).trans (unhide HAJ).1; clear hSw; go_simp; try omega⟩) hS ?_
        simp only [Act.put, List.setIfInBounds_toArray, List.set_cons_zero, List.set_cons_succ]
        refine wpAnyH_takeD 10 (some 18) (.int .i64 (a : Int)) rfl rfl (by kernel_rfl) (by kernel_rfl) (by kernel_rfl) (fun _ _ _ h => h) (Or.inl ⟨by rfl, fun w hSw => by have a0 : w.cell? ⟨g + 1, 0, none⟩ = some (.int .i64 (a : Int)) := Blk.cell hSw.2 0; have a1 : w.cell? ⟨g, 4 + j * 2, none⟩ = some (.int .i64 ((f j).1 : Int)) := (Blk.cell hSw.1 _).trans (unhide HAJ).1; clear hSw; go_simp; try omega⟩) hS ?_
        simp only [Act.put, List.setIfInBounds_toArray, List.set_cons_zero, List.set_cons_succ]
        refine wpAnyH_takeD 11 (some 19) (.bool false) rfl rfl (by kernel_rfl) (by kernel_rfl) (by kernel_rfl) (fun _ _ _ h => h) (Or.inl ⟨by rfl, fun w hSw => by have a0 : w.cell? ⟨g + 1, 0, none⟩ = some (.int .i64 (a : Int)) := Blk.cell hSw.2 0; have a1 : w.cell? ⟨g, 4 + j * 2, none⟩ = some (.int .i64 ((f j).1 : Int)) := (Blk.cell hSw.1 _).trans (unhide HAJ).1; clear hSw; go_simp; try omega⟩) hS ?_
        simp only [Act.put, List.setIfInBounds_toArray, List.set_cons_zero, List.set_cons_succ]
        refine wpAnyH_takeD 12 (some 20) (.bool false) rfl rfl (by kernel_rfl) (by kernel_rfl) (by kernel_rfl) (fun _ _ _ h => h) (Or.inl ⟨by rfl, fun w hSw => by have a0 : w.cell? ⟨g + 1, 0, none⟩ = some (.int .i64 (a : Int)) := Blk.cell hSw.2 0; have a1 : w.cell? ⟨g, 4 + j * 2, none⟩ = some (.int .i64 ((f j).1 : Int)) := (Blk.cell hSw.1 _).trans (unhide HAJ).1; clear hSw; go_simp; try omega⟩) hS ?_
        simp only [Act.put, List.setIfInBounds_toArray, List.set_cons_zero, List.set_cons_succ]
        refine wpAnyH_done (by kernel_rfl) ?_ _
        clear hS HS0
        rw [hwz]
        have HSB := hide (unhide HPE)
        clear HPE
        have D1 := unhide HD1
        have hset1 := rC_set1 th q c n (shf f k) k hk8 a
        have hset2 := rC_set2 th q c n (ups (shf f k) k (a, (shf f k k).2)) k hk8 b
        rw [ups_same, ups_ups] at hset2
        have hset3 : (rC th q c n (ups (shf f k) k (a, b))).toArray.setIfInBounds 3 (.int .i64 ((n + 1 : Nat) : Int)) = (rC th q c (n + 1) (ups (shf f k) k (a, b))).toArray := rfl
        obtain ⟨I1, I2, I3, I4⟩ := D1
        have p1 : wz.cell? ⟨g, 4 + k * 2, none⟩ = some (.int .i64 ((shf f k k).1 : Int)) := by rw [I1.cell]; exact (rC_at _ _ _ _ _ k hk8).1
        have p2 : wz.cell? ⟨g, 4 + k * 2 + 1, none⟩ = some (.int .i64 ((shf f k k).2 : Int)) := by rw [I1.cell]; exact (rC_at _ _ _ _ _ k hk8).2
        have q1 := I1.frozen (4 + k * 2)
        have q2 := I1.frozen (4 + k * 2 + 1)
        have v0 : wz.cell? ⟨g + 1, 0, none⟩ = some (.int .i64 (a : Int)) := I2.cell 0
        have v1 : wz.cell? ⟨g + 1, 1, none⟩ = some (.int .i64 (b : Int)) := I2.cell 1
        obtain ⟨y1, hy1⟩ : ∃ xx, (wz.setCell ⟨g, 4 + k * 2, none⟩ (.int .i64 (a : Int))).setCell ⟨g, 4 + k * 2 + 1, none⟩ (.int .i64 (b : Int)) = xx := ⟨_, rfl⟩
        have L1 : Blk y1 g (rC th q c n (ups (shf f k) k (a, b))).toArray 88 := by rw [← hy1, ← hset2, ← hset1]; exact (I1.set _ _).set _ _
        have L3 : Blk y1 (g + 2) #[.bool false, .int .i64 0, .int .i64 0, .int .i64 0, .int .i64 0, .int .i64 0, .int .i64 0, .int .i64 0, .int .i64 0, .int .i64 0, .int .i64 0, .int .i64 0, .int .i64 0, .int .i64 0, .int .i64 0, .int .i64 0, .int .i64 0, .int .i64 0, .int .i64 0, .int .i64 0] 88 := by rw [← hy1]; exact (I3.other _ _ (by show g ≠ g + 2; omega)).other _ _ (by show g ≠ g + 2; omega)
        have L4 : Below g w y1 := by rw [← hy1]; exact (I4.setCell (Nat.le_refl _) _).setCell (Nat.le_refl _) _
        have p3 : y1.cell? ⟨g, 3, none⟩ = some (.int .i64 (n : Int)) := by rw [L1.cell]; rfl
        have q3 := L1.frozen 3
        obtain ⟨y2, hy2⟩ : ∃ xx, y1.setCell ⟨g, 3, none⟩ (.int .i64 ((n + 1 : Nat) : Int)) = xx := ⟨_, rfl⟩
        have N1 : Blk y2 g (rC th q c (n + 1) (ups (shf f k) k (a, b))).toArray 88 := by rw [← hy2, ← hset3]; exact L1.set _ _
        have N3 : Blk y2 (g + 2) #[.bool false, .int .i64 0, .int .i64 0, .int .i64 0, .int .i64 0, .int .i64 0, .int .i64 0, .int .i64 0, .int .i64 0, .int .i64 0, .int .i64 0, .int .i64 0, .int .i64 0, .int .i64 0, .int .i64 0, .int .i64 0, .int .i64 0, .int .i64 0, .int .i64 0, .int .i64 0] 88 := by rw [← hy2]; exact L3.other _ _ (by show g ≠ g + 2; omega)
        have N4 : Below g w y2 := by rw [← hy2]; exact L4.setCell (Nat.le_refl _) _
        have HYQ := hide (show rC th q c (n + 1) (ups (shf f k) k (a, b)) = rC th q c (n + 1) (addF f n a b) by unfold addF; rw [← unhide HSB])
        have hyl := rC_len th q c (n + 1) (ups (shf f k) k (a, b))
        have hyo := rC_one th q c (n + 1) (ups (shf f k) k (a, b))
        generalize rC th q c (n + 1) (ups (shf f k) k (a, b)) = ys at *
        have R4 := hide (blk_range N1)
        have TH := hide (blk_there N3 ys.toArray.size (by simp [hyl]))
        have B5 := setCells_all N3 ys (by simp [hyl])
        have HLD := hide (iload_blk 88 _ B5 Tryz.underlying88 rfl (by rw [sizeRec]; simp [hyl]))
        have HB4 := hide (below_setCells (b := g + 2) (by omega) ys 0 N4)
        have HYL := hide hyl
        have HYO := hide hyo
        have e1 : (n : Int) + 1 = ((n + 1 : Nat) : Int) := by omega
        have hw1 : IntKind.i64.wrap ((n + 1 : Nat) : Int) = ((n + 1 : Nat) : Int) := wrapI_eq _ (by omega) (by omega)
        generalize ((n + 1 : Nat) : Int) = nn at *
        generalize ((shf f k k).1 : Int) = s1 at *
        generalize ((shf f k k).2 : Int) = s2 at *
        clear I1 I2 I3 I4 hset1 hset2 hset3 L1 L3 L4 N1 N3 N4 B5 hyl hyo HSB HD1
        go_wp2_with (first | refine wpList_load_mid rfl 88 (.tmp 2) rfl g 0 rfl _ _ (unhide R4) Tryz.underlying88 rfl (by rw [sizeRec, unhide HYL]) ?_ | refine wpList_store_mid rfl 88 (.tmp 4) (.tmp 39) rfl (g + 2) 0 ys.toArray rfl rfl (unhide TH) (by rw [sizeRec]; simp [unhide HYL]) (unhide HYO) ?_)
        exact bodyPost_ret (v := .agg ys.toArray) (results_cell rfl _ _ _ ⟨g + 2, 0, none⟩ rfl _ (unhide HLD)) rfl ⟨by rw [unhide HYQ], unhide HB4⟩
end Go.Proofs.YtpcmifmgkccfnaaGreatDoor
