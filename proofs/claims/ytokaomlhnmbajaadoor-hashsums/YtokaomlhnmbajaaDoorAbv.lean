import Derived.Test.YtokaomlhnmbajaaDoorTms
namespace Go.Proofs.YtokaomlhnmbajaaDoor
open Go.RowKit
set_option maxRecDepth 100000 in
set_option maxHeartbeats 1000000 in
theorem above_any (X Y : List Int) (gx gy cx0 cy0 : Nat) (w : World) (hX : Limbs X) (hY : Limbs Y) (hxl : X.length ≤ 100) (hyl : Y.length ≤ 100)
    (hax : Arr w gx 0 .i64 X) (hay : Arr w gy 0 .i64 Y) :
    Calls Tryd.prog 44 #[.slice (some ⟨gx, 0, none⟩) X.length cx0, .slice (some ⟨gy, 0, none⟩) Y.length cy0] w fun e w' => e = .returned (.bool (decide (lval Y < lval X))) ∧ w' = w := by
  generalize hnx : X.length = nx at *
  generalize hny : Y.length = ny at *
  have HNX := hide hnx
  have HNY := hide hny
  have LX := hide hX
  have LY := hide hY
  have HX := hide hax
  have HY := hide hay
  clear hnx hny hX hY hax hay
  go_enter Tryd.func44, Tryd.ntmps44
  go_wp2
  go_loopw [5] (fun i wr => ∃ m : Nat, m ≤ nx + ny + 1 ∧ i = .int .i64 ((m : Int) - 1) ∧ (∀ j, m ≤ j → X.getD j 0 = Y.getD j 0) ∧ wr = w) (fun i _ => (intOf i + 1).toNat)
  case atStart =>
    refine ⟨nx + ny + 1, Nat.le_refl _, congrArg (Value.int .i64) (by omega), fun j hj => ?_, rfl⟩
    rw [List.getD_eq_getElem?_getD, List.getD_eq_getElem?_getD, List.getElem?_eq_none (by rw [unhide HNX]; omega), List.getElem?_eq_none (by rw [unhide HNY]; omega)]
  case round =>
    obtain ⟨m, hm, rfl, hE, rfl⟩ := hrel
    cases m with
    | zero =>
      have HR : Hid (decide (lval Y < lval X) = false) := by
        have := lval_eq X Y (fun j => hE j (by omega))
        exact decide_eq_false (by omega)
      clear hE
      go_wp2
      go_ret
      exact ⟨by rw [unhide HR]; rfl, rfl⟩
    | succ q =>
      rw [show ((q + 1 : Nat) : Int) - 1 = (q : Int) by omega]
      have HGT := hide (fun h => lval_gt X Y q (unhide LX) (unhide LY) (fun j hj => hE j (by omega)) h)
      have HLT := hide (fun h => lval_gt Y X q (unhide LY) (unhide LX) (fun j hj => (hE j (by omega)).symm) h)
      have HEQ : Hid (X.getD q 0 = Y.getD q 0 → ∀ j, q ≤ j → X.getD j 0 = Y.getD j 0) := fun h j hj => by
        rcases (show q = j ∨ q + 1 ≤ j by omega) with rfl | h2
        · exact h
        · exact hE j h2
      clear hE
      by_cases h1 : q < nx
      · by_cases h2 : q < ny
        · skip
          have cx := (unhide HX).get0 q (by rw [unhide HNX]; exact h1)
          have cy := (unhide HY).get0 q (by rw [unhide HNY]; exact h2)
          generalize X.getD q 0 = x at *
          generalize Y.getD q 0 = y at *
          by_cases hxy : x = y
          · have hbn : (x != y) = false := by simp [hxy]
            have HEQ2 := hide (unhide HEQ hxy)
            clear HGT HLT HEQ hxy
            go_wp2
            go_roundw
            case rel => exact ⟨q, by omega, congrArg (Value.int .i64) (by omega), unhide HEQ2, trivial⟩
            case measure => simp [intOf]
          · have hbn : (x != y) = true := by simp [hxy]
            have HR : Hid (decide (y < x) = decide (lval Y < lval X)) := by
              have h : decide (y < x) = decide (lval Y < lval X) := by
                rcases Int.lt_or_gt_of_ne hxy with h | h
                · have := unhide HLT h; rw [decide_eq_false (by omega), decide_eq_false (by omega)]
                · have := unhide HGT h; rw [decide_eq_true (by omega), decide_eq_true (by omega)]
              exact h
            clear HGT HLT HEQ hxy
            go_wp2
            go_ret
            exact ⟨by rw [← unhide HR]; rfl, rfl⟩
        · skip
          have cx := (unhide HX).get0 q (by rw [unhide HNX]; exact h1)
          have ey : Y.getD q 0 = 0 := by rw [List.getD_eq_getElem?_getD, List.getElem?_eq_none (by rw [unhide HNY]; omega)]; rfl
          rw [ey] at HGT HLT HEQ
          generalize X.getD q 0 = x at *
          by_cases hxy : x = 0
          · have hbn : (x != 0) = false := by simp [hxy]
            have HEQ2 := hide (unhide HEQ hxy)
            clear HGT HLT HEQ hxy
            go_wp2
            go_roundw
            case rel => exact ⟨q, by omega, congrArg (Value.int .i64) (by omega), unhide HEQ2, trivial⟩
            case measure => simp [intOf]
          · have hbn : (x != 0) = true := by simp [hxy]
            have HR : Hid (decide (0 < x) = decide (lval Y < lval X)) := by
              have h : decide (0 < x) = decide (lval Y < lval X) := by
                rcases Int.lt_or_gt_of_ne hxy with h | h
                · have := unhide HLT h; rw [decide_eq_false (by omega), decide_eq_false (by omega)]
                · have := unhide HGT h; rw [decide_eq_true (by omega), decide_eq_true (by omega)]
              exact h
            clear HGT HLT HEQ hxy
            go_wp2
            go_ret
            exact ⟨by rw [← unhide HR]; rfl, rfl⟩
      · by_cases h2 : q < ny
        · skip
          have ex : X.getD q 0 = 0 := by rw [List.getD_eq_getElem?_getD, List.getElem?_eq_none (by rw [unhide HNX]; omega)]; rfl
          have cy := (unhide HY).get0 q (by rw [unhide HNY]; exact h2)
          rw [ex] at HGT HLT HEQ
          generalize Y.getD q 0 = y at *
          by_cases hxy : 0 = y
          · have hbn : (0 != y) = false := by simp [hxy]
            have HEQ2 := hide (unhide HEQ hxy)
            clear HGT HLT HEQ hxy
            go_wp2
            go_roundw
            case rel => exact ⟨q, by omega, congrArg (Value.int .i64) (by omega), unhide HEQ2, trivial⟩
            case measure => simp [intOf]
          · have hbn : (0 != y) = true := by simp [hxy]
            have HR : Hid (decide (y < 0) = decide (lval Y < lval X)) := by
              have h : decide (y < 0) = decide (lval Y < lval X) := by
                rcases Int.lt_or_gt_of_ne hxy with h | h
                · have := unhide HLT h; rw [decide_eq_false (by omega), decide_eq_false (by omega)]
                · have := unhide HGT h; rw [decide_eq_true (by omega), decide_eq_true (by omega)]
              exact h
            clear HGT HLT HEQ hxy
            go_wp2
            go_ret
            exact ⟨by rw [← unhide HR]; rfl, rfl⟩
        · skip
          have ex : X.getD q 0 = 0 := by rw [List.getD_eq_getElem?_getD, List.getElem?_eq_none (by rw [unhide HNX]; omega)]; rfl
          have ey : Y.getD q 0 = 0 := by rw [List.getD_eq_getElem?_getD, List.getElem?_eq_none (by rw [unhide HNY]; omega)]; rfl
          rw [ex] at HGT HLT HEQ
          rw [ey] at HGT HLT HEQ
          clear HGT HLT
          go_wp2
          go_roundw
          case rel => exact ⟨q, by omega, congrArg (Value.int .i64) (by omega), unhide HEQ rfl, trivial⟩
          case measure => simp [intOf]
end Go.Proofs.YtokaomlhnmbajaaDoor
