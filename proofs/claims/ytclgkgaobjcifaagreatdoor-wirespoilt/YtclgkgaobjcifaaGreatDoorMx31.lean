import Derived.Test.YtclgkgaobjcifaaGreatDoorMx30
import Derived.Test.YtclgkgaobjcifaaGreatDoorMx08
namespace Go.Proofs.YtclgkgaobjcifaaGreatDoor
open Go.RowKit
set_option maxRecDepth 100000
theorem yieldsIf_neQ {ops : Array Oper} {S : World → Prop} {op : Oper} {a : Act} (hw : Region.wanted op (yielded ops a.tmps) = true) (x y : Operand) (ho : op.op = .binOp .neq 29 x y 29) (r s : Req) (hx : a.eval x = .agg r.cs) (hy : a.eval y = .agg s.cs) (D : Bool) (hD : (!eqQ r s) = D) : YieldsIf Tryz.prog ops S op (.bool D) a :=
  .inl ⟨hw, fun w _ => by
    have e0 := run_eqQ r s w
    rw [run_eql_struct] at e0
    have e : (binOp .neq 29 (.agg r.cs) (.agg s.cs)).run Tryz.prog w = .ok (.bool D) w := by
      rw [run_neq_struct]
      cases hq : (Op.equalIn 10000 29 (.agg r.cs) (.agg s.cs)).run Tryz.prog w with
      | ok b w' =>
        rw [hq] at e0
        simp only [Result.andThen_ok, Result.ok.injEq, Value.bool.injEq] at e0
        obtain ⟨e1, e2⟩ := e0
        subst e1 e2
        simp only [Result.andThen_ok, hD]
      | halt z w' =>
        rw [hq] at e0
        simp [Result.andThen] at e0
    have e2 := run_eqGuard_agg (P := Tryz.prog) w .neq 29 x y r.cs s.cs guard_req
    unfold execOp
    simp only [ho, hx, hy, Sem.run_bind, e2, Result.andThen_ok, e, Sem.run_pure]⟩
theorem req_cells {W : World} {g : Nat} {T : TypeId} {kd te qu vo bl no : Int} {di wr sa da : ByteArray} (h : Blk W g #[.int .i64 kd, .int .i64 te, .int .i64 qu, .int .i64 vo, .int .i64 bl, .int .i64 no, .string di, .string wr, .string sa, .string da] T) : W.cell? ⟨g, 0, none⟩ = some (.int .i64 kd) ∧ W.cell? ⟨g, 1, none⟩ = some (.int .i64 te) ∧ W.cell? ⟨g, 2, none⟩ = some (.int .i64 qu) ∧ W.cell? ⟨g, 3, none⟩ = some (.int .i64 vo) ∧ W.cell? ⟨g, 4, none⟩ = some (.int .i64 bl) ∧ W.cell? ⟨g, 5, none⟩ = some (.int .i64 no) ∧ W.cell? ⟨g, 6, none⟩ = some (.string di) ∧ W.cell? ⟨g, 7, none⟩ = some (.string wr) ∧ W.cell? ⟨g, 8, none⟩ = some (.string sa) ∧ W.cell? ⟨g, 9, none⟩ = some (.string da) := by
  refine ⟨?_, ?_, ?_, ?_, ?_, ?_, ?_, ?_, ?_, ?_⟩ <;> (rw [h.cell]; rfl)
/-- may a volume and a block be? -/
def placeQ (vo bl : Int) : Bool := decide (1 ≤ vo ∧ vo ≤ 99) && decide (0 ≤ bl ∧ bl ≤ 255)
set_option maxHeartbeats 2000000 in
theorem place_any (r : Req) (w : World) : Calls Tryz.prog 86 #[.agg r.cl.toArray] w fun e w' => e = .returned (.bool (placeQ r.vo r.bl)) ∧ Below w.heap.size w w' := by
  obtain ⟨kd, te, qu, vo, bl, no, di, wr, sa, da⟩ := r
  show Calls Tryz.prog 86 #[.agg #[.int .i64 kd, .int .i64 te, .int .i64 qu, .int .i64 vo, .int .i64 bl, .int .i64 no, .string di, .string wr, .string sa, .string da]] w fun e w' => e = .returned (.bool (placeQ vo bl)) ∧ Below w.heap.size w w'
  have HV := hide (within_any vo 1 99)
  have HW := hide (within_any bl 0 255)
  unfold placeQ
  generalize decide (1 ≤ vo ∧ vo ≤ 99) = P at *
  generalize decide (0 ≤ bl ∧ bl ≤ 255) = Q at *
  cases P with
  | false =>
    rw [Bool.false_and]
    go_enter Tryz.func86, Tryz.ntmps86
    go_wp2_with fail
    refine (unhide HV _).mono ?_
    rintro e x ⟨rfl, hx⟩
    subst x
    go_wp2
    go_ret
    exact ⟨rfl, (Below.refl _ _).alloc (Nat.le_refl _) _⟩
  | true =>
    rw [Bool.true_and]
    go_enter Tryz.func86, Tryz.ntmps86
    go_wp2_with fail
    refine (unhide HV _).mono ?_
    rintro e x ⟨rfl, hx⟩
    subst x
    go_wp2_with fail
    refine (unhide HW _).mono ?_
    rintro e x ⟨rfl, hx⟩
    subst x
    go_wp2
    go_ret
    exact ⟨rfl, (Below.refl _ _).alloc (Nat.le_refl _) _⟩
/-- may a request of a kind be, if it has nothing else? -/
def condQ (r : Req) : Bool :=
  if r.kd = 1 then decide (1 ≤ r.te ∧ r.te ≤ 8) && decide (0 ≤ r.qu ∧ r.qu ≤ 65535)
  else if r.kd = 2 then decide (1 ≤ r.te ∧ r.te ≤ 8)
  else if r.kd = 3 then decide (1 ≤ r.te ∧ r.te ≤ 8)
  else if r.kd = 4 then decide (1 ≤ r.vo ∧ r.vo ≤ 99)
  else if r.kd = 5 then decide (1 ≤ r.vo ∧ r.vo ≤ 99)
  else if r.kd = 6 then true
  else if r.kd = 7 then true
  else if r.kd = 8 then placeQ r.vo r.bl && ((r.di.size : Int) == 32) && ((r.wr.size : Int) == 48)
  else if r.kd = 9 then decide (0 ≤ r.no ∧ r.no ≤ 4294967295) && ((r.sa.size : Int) == 8)
  else if r.kd = 10 then placeQ r.vo r.bl && ((r.wr.size : Int) == 48) && ((r.da.size : Int) == 256)
  else if r.kd = 11 then placeQ r.vo r.bl
  else if r.kd = 12 then placeQ r.vo r.bl
  else true
set_option maxHeartbeats 4000000 in
theorem may_no (r : Req) (h : 1 ≤ r.kd ∧ r.kd ≤ 12) (he : eqQ r (onlyQ r) = false) (w : World) : Calls Tryz.prog 53 #[.agg r.cl.toArray] w fun e w' => e = .returned (.bool false) ∧ Below w.heap.size w w' := by
  obtain ⟨g, hg⟩ : ∃ g, w.heap.size = g := ⟨_, rfl⟩
  obtain ⟨x2, hx2⟩ : ∃ Z, w.alloc (.cells r.cl.toArray 29) = Z := ⟨_, rfl⟩
  have B : Blk x2 g r.cl.toArray 29 := by rw [← hx2, ← hg]; exact Blk.new w _ _
  have hb : Below g w x2 := by rw [← hx2, ← hg]; exact (Below.refl _ w).alloc (Nat.le_refl _) _
  have HS0 := hide B
  have HSW := hide (show ∀ W, Below x2.heap.size x2 W → Blk W g r.cl.toArray 29 from fun W hW => B.below hW B.lt)
  have HB2 := hide (And.intro hb B.lt)
  have HON := hide (only_any r h)
  have HNE := hide (show (!eqQ r (onlyQ r)) = true by rw [he]; rfl)
  clear B hb h he
  rw [hg]
  go_enter Tryz.func53, Tryz.ntmps53
  go_wp2
  refine wp_region_held_drew (S := fun w' => Blk w' g r.cl.toArray 29) (by kernel_rfl) (unhide HS0) ?_
  intro hS
  refine wpAnyH_takeD 0 (some 4) (.agg r.cl.toArray) rfl rfl (by kernel_rfl) (by kernel_rfl) (by kernel_rfl) (fun _ _ _ h => h) (yieldsIf_load_mid (by rfl) 29 (.tmp 1) rfl g 0 rfl _ _ (fun w hSw => blk_range hSw) Tryz.underlying29 rfl size_req) hS ?_
  simp only [Act.put, List.setIfInBounds_toArray, List.set_cons_zero, List.set_cons_succ]
  refine wpAnyH_takeD 1 (some 5) (.agg r.cl.toArray) rfl rfl (by kernel_rfl) (by kernel_rfl) (by kernel_rfl) (fun _ _ _ h => h) (yieldsIf_load_mid (by rfl) 29 (.tmp 1) rfl g 0 rfl _ _ (fun w hSw => blk_range hSw) Tryz.underlying29 rfl size_req) hS ?_
  simp only [Act.put, List.setIfInBounds_toArray, List.set_cons_zero, List.set_cons_succ]
  refine wpAnyH_ready (rs := [2]) (by kernel_rfl) (by simp) ?_
  refine AllReadyH.cons rfl (fun K hK => ?_) AllReadyH.nil
  simp only [List.getElem_toArray, List.getElem_cons_succ, List.getElem_cons_zero]
  go_simp
  refine (unhide HON _).mono ?_
  rintro e x4 ⟨rfl, hb4⟩
  have HS4 := hide (unhide HSW x4 (((Below.refl _ x2).drew).trans hb4))
  have HB4 := hide (show Below g w x4 from (unhide HB2).1.trans ((((Below.refl _ x2).drew).trans hb4).mono (Nat.le_of_lt (unhide HB2).2)))
  clear hb4
  refine hK.out _ _ (unhide HS4) (fun hS => ?_)
  clear hK K
  refine wpAnyH_takeD 3 (some 7) (.bool true) rfl rfl (by kernel_rfl) (by kernel_rfl) (by kernel_rfl) (fun _ _ _ h => h) (yieldsIf_neQ (by rfl) (.tmp 4) (.tmp 6) rfl r (onlyQ r) rfl rfl _ (unhide HNE)) hS ?_
  simp only [Act.put, List.setIfInBounds_toArray, List.set_cons_zero, List.set_cons_succ]
  refine wpAnyH_done (by kernel_rfl) ?_ _
  go_wp2
  go_ret
  exact ⟨rfl, unhide HB4⟩
set_option maxHeartbeats 4000000 in
theorem may_1_0 (te qu vo bl no : Int) (di wr sa da : ByteArray) (r : Req) (hr : r = ⟨1, te, qu, vo, bl, no, di, wr, sa, da⟩) (he : eqQ r (onlyQ r) = true) (c0 : decide (1 ≤ te ∧ te ≤ 8) = false) (w : World) : Calls Tryz.prog 53 #[.agg r.cl.toArray] w fun e w' => e = .returned (.bool (false)) ∧ Below w.heap.size w w' := by
  have h : 1 ≤ r.kd ∧ r.kd ≤ 12 := by rw [hr]; exact ⟨by show (1 : Int) ≤ 1; decide, by show (1 : Int) ≤ 12; decide⟩
  obtain ⟨g, hg⟩ : ∃ g, w.heap.size = g := ⟨_, rfl⟩
  obtain ⟨x2, hx2⟩ : ∃ Z, w.alloc (.cells r.cl.toArray 29) = Z := ⟨_, rfl⟩
  have B : Blk x2 g r.cl.toArray 29 := by rw [← hx2, ← hg]; exact Blk.new w _ _
  have hb : Below g w x2 := by rw [← hx2, ← hg]; exact (Below.refl _ w).alloc (Nat.le_refl _) _
  have HS0 := hide B
  have HSW := hide (show ∀ W, Below x2.heap.size x2 W → Blk W g r.cl.toArray 29 from fun W hW => B.below hW B.lt)
  have HB2 := hide (And.intro hb B.lt)
  have HON := hide (only_any r h)
  have HNE := hide (show (!eqQ r (onlyQ r)) = false by rw [he]; rfl)
  have HPL := hide (place_any r)
  have HRL := hide (show r.cl.toArray = #[.int .i64 1, .int .i64 te, .int .i64 qu, .int .i64 vo, .int .i64 bl, .int .i64 no, .string di, .string wr, .string sa, .string da] by rw [hr]; rfl)
  have HPV := hide (show placeQ r.vo r.bl = placeQ vo bl by rw [hr])
  have HW0 := hide (within_any te 1 8)
  rw [c0] at HW0
  generalize placeQ r.vo r.bl = PQ at *
  clear B hb h he hr
  rw [hg]
  go_enter Tryz.func53, Tryz.ntmps53
  go_wp2
  refine wp_region_held_drew (S := fun w' => Blk w' g r.cl.toArray 29) (by kernel_rfl) (unhide HS0) ?_
  intro hS
  refine wpAnyH_takeD 0 (some 4) (.agg r.cl.toArray) rfl rfl (by kernel_rfl) (by kernel_rfl) (by kernel_rfl) (fun _ _ _ h => h) (yieldsIf_load_mid (by rfl) 29 (.tmp 1) rfl g 0 rfl _ _ (fun w hSw => blk_range hSw) Tryz.underlying29 rfl size_req) hS ?_
  simp only [Act.put, List.setIfInBounds_toArray, List.set_cons_zero, List.set_cons_succ]
  refine wpAnyH_takeD 1 (some 5) (.agg r.cl.toArray) rfl rfl (by kernel_rfl) (by kernel_rfl) (by kernel_rfl) (fun _ _ _ h => h) (yieldsIf_load_mid (by rfl) 29 (.tmp 1) rfl g 0 rfl _ _ (fun w hSw => blk_range hSw) Tryz.underlying29 rfl size_req) hS ?_
  simp only [Act.put, List.setIfInBounds_toArray, List.set_cons_zero, List.set_cons_succ]
  refine wpAnyH_ready (rs := [2]) (by kernel_rfl) (by simp) ?_
  refine AllReadyH.cons rfl (fun K hK => ?_) AllReadyH.nil
  simp only [List.getElem_toArray, List.getElem_cons_succ, List.getElem_cons_zero]
  go_simp
  refine (unhide HON _).mono ?_
  rintro e x4 ⟨rfl, hb4⟩
  have HS4 := hide (unhide HSW x4 (((Below.refl _ x2).drew).trans hb4))
  have HB4 := hide (show Below g w x4 from (unhide HB2).1.trans ((((Below.refl _ x2).drew).trans hb4).mono (Nat.le_of_lt (unhide HB2).2)))
  clear hb4
  refine hK.out _ _ (unhide HS4) (fun hS => ?_)
  clear hK K
  refine wpAnyH_takeD 3 (some 7) (.bool false) rfl rfl (by kernel_rfl) (by kernel_rfl) (by kernel_rfl) (fun _ _ _ h => h) (yieldsIf_neQ (by rfl) (.tmp 4) (.tmp 6) rfl r (onlyQ r) rfl rfl _ (unhide HNE)) hS ?_
  simp only [Act.put, List.setIfInBounds_toArray, List.set_cons_zero, List.set_cons_succ]
  refine wpAnyH_done (by kernel_rfl) ?_ _
  have B4 := unhide HS4
  have HPL4 := hide (unhide HPL x4)
  have HB5 := hide (fun W (q : Below x4.heap.size x4 W) => show Blk W g #[.int .i64 1, .int .i64 te, .int .i64 qu, .int .i64 vo, .int .i64 bl, .int .i64 no, .string di, .string wr, .string sa, .string da] 29 from unhide HRL ▸ (unhide HS4).below q (unhide HS4).lt)
  have HRG := hide (show x4.rangeAt g 0 r.cl from blk_range B4)
  have hgl := B4.lt
  clear B4
  go_wp2_with (refine wpList_load_mid rfl 29 (.tmp 1) rfl g 0 rfl r.cl _ (unhide HRG) Tryz.underlying29 rfl size_req ?_)
  refine (unhide HPL4).mono ?_
  rintro e x5 ⟨rfl, hx5⟩
  obtain ⟨d0, d1, d2, d3, d4, d5, d6, d7, d8, d9⟩ := req_cells (unhide HB5 x5 hx5)
  have HX5 := hide (show Below g w x5 from (unhide HB4).trans (hx5.mono (Nat.le_of_lt hgl)))
  clear hx5
  go_wp2_with fail
  refine (unhide HW0 _).mono ?_
  rintro e x ⟨rfl, hx⟩
  subst x
  go_wp2
  go_ret
  exact ⟨rfl, unhide HX5⟩
set_option maxHeartbeats 4000000 in
theorem may_1_1 (te qu vo bl no : Int) (di wr sa da : ByteArray) (r : Req) (hr : r = ⟨1, te, qu, vo, bl, no, di, wr, sa, da⟩) (he : eqQ r (onlyQ r) = true) (c0 : decide (1 ≤ te ∧ te ≤ 8) = true) (w : World) : Calls Tryz.prog 53 #[.agg r.cl.toArray] w fun e w' => e = .returned (.bool (decide (0 ≤ qu ∧ qu ≤ 65535))) ∧ Below w.heap.size w w' := by
  have h : 1 ≤ r.kd ∧ r.kd ≤ 12 := by rw [hr]; exact ⟨by show (1 : Int) ≤ 1; decide, by show (1 : Int) ≤ 12; decide⟩
  obtain ⟨g, hg⟩ : ∃ g, w.heap.size = g := ⟨_, rfl⟩
  obtain ⟨x2, hx2⟩ : ∃ Z, w.alloc (.cells r.cl.toArray 29) = Z := ⟨_, rfl⟩
  have B : Blk x2 g r.cl.toArray 29 := by rw [← hx2, ← hg]; exact Blk.new w _ _
  have hb : Below g w x2 := by rw [← hx2, ← hg]; exact (Below.refl _ w).alloc (Nat.le_refl _) _
  have HS0 := hide B
  have HSW := hide (show ∀ W, Below x2.heap.size x2 W → Blk W g r.cl.toArray 29 from fun W hW => B.below hW B.lt)
  have HB2 := hide (And.intro hb B.lt)
  have HON := hide (only_any r h)
  have HNE := hide (show (!eqQ r (onlyQ r)) = false by rw [he]; rfl)
  have HPL := hide (place_any r)
  have HRL := hide (show r.cl.toArray = #[.int .i64 1, .int .i64 te, .int .i64 qu, .int .i64 vo, .int .i64 bl, .int .i64 no, .string di, .string wr, .string sa, .string da] by rw [hr]; rfl)
  have HPV := hide (show placeQ r.vo r.bl = placeQ vo bl by rw [hr])
  have HW0 := hide (within_any te 1 8)
  rw [c0] at HW0
  have HW1 := hide (within_any qu 0 65535)
  generalize decide (0 ≤ qu ∧ qu ≤ 65535) = RES at *
  generalize placeQ r.vo r.bl = PQ at *
  clear B hb h he hr
  rw [hg]
  go_enter Tryz.func53, Tryz.ntmps53
  go_wp2
  refine wp_region_held_drew (S := fun w' => Blk w' g r.cl.toArray 29) (by kernel_rfl) (unhide HS0) ?_
  intro hS
  refine wpAnyH_takeD 0 (some 4) (.agg r.cl.toArray) rfl rfl (by kernel_rfl) (by kernel_rfl) (by kernel_rfl) (fun _ _ _ h => h) (yieldsIf_load_mid (by rfl) 29 (.tmp 1) rfl g 0 rfl _ _ (fun w hSw => blk_range hSw) Tryz.underlying29 rfl size_req) hS ?_
  simp only [Act.put, List.setIfInBounds_toArray, List.set_cons_zero, List.set_cons_succ]
  refine wpAnyH_takeD 1 (some 5) (.agg r.cl.toArray) rfl rfl (by kernel_rfl) (by kernel_rfl) (by kernel_rfl) (fun _ _ _ h => h) (yieldsIf_load_mid (by rfl) 29 (.tmp 1) rfl g 0 rfl _ _ (fun w hSw => blk_range hSw) Tryz.underlying29 rfl size_req) hS ?_
  simp only [Act.put, List.setIfInBounds_toArray, List.set_cons_zero, List.set_cons_succ]
  refine wpAnyH_ready (rs := [2]) (by kernel_rfl) (by simp) ?_
  refine AllReadyH.cons rfl (fun K hK => ?_) AllReadyH.nil
  simp only [List.getElem_toArray, List.getElem_cons_succ, List.getElem_cons_zero]
  go_simp
  refine (unhide HON _).mono ?_
  rintro e x4 ⟨rfl, hb4⟩
  have HS4 := hide (unhide HSW x4 (((Below.refl _ x2).drew).trans hb4))
  have HB4 := hide (show Below g w x4 from (unhide HB2).1.trans ((((Below.refl _ x2).drew).trans hb4).mono (Nat.le_of_lt (unhide HB2).2)))
  clear hb4
  refine hK.out _ _ (unhide HS4) (fun hS => ?_)
  clear hK K
  refine wpAnyH_takeD 3 (some 7) (.bool false) rfl rfl (by kernel_rfl) (by kernel_rfl) (by kernel_rfl) (fun _ _ _ h => h) (yieldsIf_neQ (by rfl) (.tmp 4) (.tmp 6) rfl r (onlyQ r) rfl rfl _ (unhide HNE)) hS ?_
  simp only [Act.put, List.setIfInBounds_toArray, List.set_cons_zero, List.set_cons_succ]
  refine wpAnyH_done (by kernel_rfl) ?_ _
  have B4 := unhide HS4
  have HPL4 := hide (unhide HPL x4)
  have HB5 := hide (fun W (q : Below x4.heap.size x4 W) => show Blk W g #[.int .i64 1, .int .i64 te, .int .i64 qu, .int .i64 vo, .int .i64 bl, .int .i64 no, .string di, .string wr, .string sa, .string da] 29 from unhide HRL ▸ (unhide HS4).below q (unhide HS4).lt)
  have HRG := hide (show x4.rangeAt g 0 r.cl from blk_range B4)
  have hgl := B4.lt
  clear B4
  go_wp2_with (refine wpList_load_mid rfl 29 (.tmp 1) rfl g 0 rfl r.cl _ (unhide HRG) Tryz.underlying29 rfl size_req ?_)
  refine (unhide HPL4).mono ?_
  rintro e x5 ⟨rfl, hx5⟩
  obtain ⟨d0, d1, d2, d3, d4, d5, d6, d7, d8, d9⟩ := req_cells (unhide HB5 x5 hx5)
  have HX5 := hide (show Below g w x5 from (unhide HB4).trans (hx5.mono (Nat.le_of_lt hgl)))
  clear hx5
  go_wp2_with fail
  refine (unhide HW0 _).mono ?_
  rintro e x ⟨rfl, hx⟩
  subst x
  go_wp2_with fail
  refine (unhide HW1 _).mono ?_
  rintro e x ⟨rfl, hx⟩
  subst x
  go_wp2
  go_ret
  exact ⟨rfl, unhide HX5⟩
set_option maxHeartbeats 4000000 in
theorem may_2_0 (te qu vo bl no : Int) (di wr sa da : ByteArray) (r : Req) (hr : r = ⟨2, te, qu, vo, bl, no, di, wr, sa, da⟩) (he : eqQ r (onlyQ r) = true) (w : World) : Calls Tryz.prog 53 #[.agg r.cl.toArray] w fun e w' => e = .returned (.bool (decide (1 ≤ te ∧ te ≤ 8))) ∧ Below w.heap.size w w' := by
  have h : 1 ≤ r.kd ∧ r.kd ≤ 12 := by rw [hr]; exact ⟨by show (1 : Int) ≤ 2; decide, by show (2 : Int) ≤ 12; decide⟩
  obtain ⟨g, hg⟩ : ∃ g, w.heap.size = g := ⟨_, rfl⟩
  obtain ⟨x2, hx2⟩ : ∃ Z, w.alloc (.cells r.cl.toArray 29) = Z := ⟨_, rfl⟩
  have B : Blk x2 g r.cl.toArray 29 := by rw [← hx2, ← hg]; exact Blk.new w _ _
  have hb : Below g w x2 := by rw [← hx2, ← hg]; exact (Below.refl _ w).alloc (Nat.le_refl _) _
  have HS0 := hide B
  have HSW := hide (show ∀ W, Below x2.heap.size x2 W → Blk W g r.cl.toArray 29 from fun W hW => B.below hW B.lt)
  have HB2 := hide (And.intro hb B.lt)
  have HON := hide (only_any r h)
  have HNE := hide (show (!eqQ r (onlyQ r)) = false by rw [he]; rfl)
  have HPL := hide (place_any r)
  have HRL := hide (show r.cl.toArray = #[.int .i64 2, .int .i64 te, .int .i64 qu, .int .i64 vo, .int .i64 bl, .int .i64 no, .string di, .string wr, .string sa, .string da] by rw [hr]; rfl)
  have HPV := hide (show placeQ r.vo r.bl = placeQ vo bl by rw [hr])
  have HW0 := hide (within_any te 1 8)
  generalize decide (1 ≤ te ∧ te ≤ 8) = RES at *
  generalize placeQ r.vo r.bl = PQ at *
  clear B hb h he hr
  rw [hg]
  go_enter Tryz.func53, Tryz.ntmps53
  go_wp2
  refine wp_region_held_drew (S := fun w' => Blk w' g r.cl.toArray 29) (by kernel_rfl) (unhide HS0) ?_
  intro hS
  refine wpAnyH_takeD 0 (some 4) (.agg r.cl.toArray) rfl rfl (by kernel_rfl) (by kernel_rfl) (by kernel_rfl) (fun _ _ _ h => h) (yieldsIf_load_mid (by rfl) 29 (.tmp 1) rfl g 0 rfl _ _ (fun w hSw => blk_range hSw) Tryz.underlying29 rfl size_req) hS ?_
  simp only [Act.put, List.setIfInBounds_toArray, List.set_cons_zero, List.set_cons_succ]
  refine wpAnyH_takeD 1 (some 5) (.agg r.cl.toArray) rfl rfl (by kernel_rfl) (by kernel_rfl) (by kernel_rfl) (fun _ _ _ h => h) (yieldsIf_load_mid (by rfl) 29 (.tmp 1) rfl g 0 rfl _ _ (fun w hSw => blk_range hSw) Tryz.underlying29 rfl size_req) hS ?_
  simp only [Act.put, List.setIfInBounds_toArray, List.set_cons_zero, List.set_cons_succ]
  refine wpAnyH_ready (rs := [2]) (by kernel_rfl) (by simp) ?_
  refine AllReadyH.cons rfl (fun K hK => ?_) AllReadyH.nil
  simp only [List.getElem_toArray, List.getElem_cons_succ, List.getElem_cons_zero]
  go_simp
  refine (unhide HON _).mono ?_
  rintro e x4 ⟨rfl, hb4⟩
  have HS4 := hide (unhide HSW x4 (((Below.refl _ x2).drew).trans hb4))
  have HB4 := hide (show Below g w x4 from (unhide HB2).1.trans ((((Below.refl _ x2).drew).trans hb4).mono (Nat.le_of_lt (unhide HB2).2)))
  clear hb4
  refine hK.out _ _ (unhide HS4) (fun hS => ?_)
  clear hK K
  refine wpAnyH_takeD 3 (some 7) (.bool false) rfl rfl (by kernel_rfl) (by kernel_rfl) (by kernel_rfl) (fun _ _ _ h => h) (yieldsIf_neQ (by rfl) (.tmp 4) (.tmp 6) rfl r (onlyQ r) rfl rfl _ (unhide HNE)) hS ?_
  simp only [Act.put, List.setIfInBounds_toArray, List.set_cons_zero, List.set_cons_succ]
  refine wpAnyH_done (by kernel_rfl) ?_ _
  have B4 := unhide HS4
  have HPL4 := hide (unhide HPL x4)
  have HB5 := hide (fun W (q : Below x4.heap.size x4 W) => show Blk W g #[.int .i64 2, .int .i64 te, .int .i64 qu, .int .i64 vo, .int .i64 bl, .int .i64 no, .string di, .string wr, .string sa, .string da] 29 from unhide HRL ▸ (unhide HS4).below q (unhide HS4).lt)
  have HRG := hide (show x4.rangeAt g 0 r.cl from blk_range B4)
  have hgl := B4.lt
  clear B4
  go_wp2_with (refine wpList_load_mid rfl 29 (.tmp 1) rfl g 0 rfl r.cl _ (unhide HRG) Tryz.underlying29 rfl size_req ?_)
  refine (unhide HPL4).mono ?_
  rintro e x5 ⟨rfl, hx5⟩
  obtain ⟨d0, d1, d2, d3, d4, d5, d6, d7, d8, d9⟩ := req_cells (unhide HB5 x5 hx5)
  have HX5 := hide (show Below g w x5 from (unhide HB4).trans (hx5.mono (Nat.le_of_lt hgl)))
  clear hx5
  go_wp2_with fail
  refine (unhide HW0 _).mono ?_
  rintro e x ⟨rfl, hx⟩
  subst x
  go_wp2
  go_ret
  exact ⟨rfl, unhide HX5⟩
set_option maxHeartbeats 4000000 in
theorem may_3_0 (te qu vo bl no : Int) (di wr sa da : ByteArray) (r : Req) (hr : r = ⟨3, te, qu, vo, bl, no, di, wr, sa, da⟩) (he : eqQ r (onlyQ r) = true) (w : World) : Calls Tryz.prog 53 #[.agg r.cl.toArray] w fun e w' => e = .returned (.bool (decide (1 ≤ te ∧ te ≤ 8))) ∧ Below w.heap.size w w' := by
  have h : 1 ≤ r.kd ∧ r.kd ≤ 12 := by rw [hr]; exact ⟨by show (1 : Int) ≤ 3; decide, by show (3 : Int) ≤ 12; decide⟩
  obtain ⟨g, hg⟩ : ∃ g, w.heap.size = g := ⟨_, rfl⟩
  obtain ⟨x2, hx2⟩ : ∃ Z, w.alloc (.cells r.cl.toArray 29) = Z := ⟨_, rfl⟩
  have B : Blk x2 g r.cl.toArray 29 := by rw [← hx2, ← hg]; exact Blk.new w _ _
  have hb : Below g w x2 := by rw [← hx2, ← hg]; exact (Below.refl _ w).alloc (Nat.le_refl _) _
  have HS0 := hide B
  have HSW := hide (show ∀ W, Below x2.heap.size x2 W → Blk W g r.cl.toArray 29 from fun W hW => B.below hW B.lt)
  have HB2 := hide (And.intro hb B.lt)
  have HON := hide (only_any r h)
  have HNE := hide (show (!eqQ r (onlyQ r)) = false by rw [he]; rfl)
  have HPL := hide (place_any r)
  have HRL := hide (show r.cl.toArray = #[.int .i64 3, .int .i64 te, .int .i64 qu, .int .i64 vo, .int .i64 bl, .int .i64 no, .string di, .string wr, .string sa, .string da] by rw [hr]; rfl)
  have HPV := hide (show placeQ r.vo r.bl = placeQ vo bl by rw [hr])
  have HW0 := hide (within_any te 1 8)
  generalize decide (1 ≤ te ∧ te ≤ 8) = RES at *
  generalize placeQ r.vo r.bl = PQ at *
  clear B hb h he hr
  rw [hg]
  go_enter Tryz.func53, Tryz.ntmps53
  go_wp2
  refine wp_region_held_drew (S := fun w' => Blk w' g r.cl.toArray 29) (by kernel_rfl) (unhide HS0) ?_
  intro hS
  refine wpAnyH_takeD 0 (some 4) (.agg r.cl.toArray) rfl rfl (by kernel_rfl) (by kernel_rfl) (by kernel_rfl) (fun _ _ _ h => h) (yieldsIf_load_mid (by rfl) 29 (.tmp 1) rfl g 0 rfl _ _ (fun w hSw => blk_range hSw) Tryz.underlying29 rfl size_req) hS ?_
  simp only [Act.put, List.setIfInBounds_toArray, List.set_cons_zero, List.set_cons_succ]
  refine wpAnyH_takeD 1 (some 5) (.agg r.cl.toArray) rfl rfl (by kernel_rfl) (by kernel_rfl) (by kernel_rfl) (fun _ _ _ h => h) (yieldsIf_load_mid (by rfl) 29 (.tmp 1) rfl g 0 rfl _ _ (fun w hSw => blk_range hSw) Tryz.underlying29 rfl size_req) hS ?_
  simp only [Act.put, List.setIfInBounds_toArray, List.set_cons_zero, List.set_cons_succ]
  refine wpAnyH_ready (rs := [2]) (by kernel_rfl) (by simp) ?_
  refine AllReadyH.cons rfl (fun K hK => ?_) AllReadyH.nil
  simp only [List.getElem_toArray, List.getElem_cons_succ, List.getElem_cons_zero]
  go_simp
  refine (unhide HON _).mono ?_
  rintro e x4 ⟨rfl, hb4⟩
  have HS4 := hide (unhide HSW x4 (((Below.refl _ x2).drew).trans hb4))
  have HB4 := hide (show Below g w x4 from (unhide HB2).1.trans ((((Below.refl _ x2).drew).trans hb4).mono (Nat.le_of_lt (unhide HB2).2)))
  clear hb4
  refine hK.out _ _ (unhide HS4) (fun hS => ?_)
  clear hK K
  refine wpAnyH_takeD 3 (some 7) (.bool false) rfl rfl (by kernel_rfl) (by kernel_rfl) (by kernel_rfl) (fun _ _ _ h => h) (yieldsIf_neQ (by rfl) (.tmp 4) (.tmp 6) rfl r (onlyQ r) rfl rfl _ (unhide HNE)) hS ?_
  simp only [Act.put, List.setIfInBounds_toArray, List.set_cons_zero, List.set_cons_succ]
  refine wpAnyH_done (by kernel_rfl) ?_ _
  have B4 := unhide HS4
  have HPL4 := hide (unhide HPL x4)
  have HB5 := hide (fun W (q : Below x4.heap.size x4 W) => show Blk W g #[.int .i64 3, .int .i64 te, .int .i64 qu, .int .i64 vo, .int .i64 bl, .int .i64 no, .string di, .string wr, .string sa, .string da] 29 from unhide HRL ▸ (unhide HS4).below q (unhide HS4).lt)
  have HRG := hide (show x4.rangeAt g 0 r.cl from blk_range B4)
  have hgl := B4.lt
  clear B4
  go_wp2_with (refine wpList_load_mid rfl 29 (.tmp 1) rfl g 0 rfl r.cl _ (unhide HRG) Tryz.underlying29 rfl size_req ?_)
  refine (unhide HPL4).mono ?_
  rintro e x5 ⟨rfl, hx5⟩
  obtain ⟨d0, d1, d2, d3, d4, d5, d6, d7, d8, d9⟩ := req_cells (unhide HB5 x5 hx5)
  have HX5 := hide (show Below g w x5 from (unhide HB4).trans (hx5.mono (Nat.le_of_lt hgl)))
  clear hx5
  go_wp2_with fail
  refine (unhide HW0 _).mono ?_
  rintro e x ⟨rfl, hx⟩
  subst x
  go_wp2
  go_ret
  exact ⟨rfl, unhide HX5⟩
set_option maxHeartbeats 4000000 in
theorem may_4_0 (te qu vo bl no : Int) (di wr sa da : ByteArray) (r : Req) (hr : r = ⟨4, te, qu, vo, bl, no, di, wr, sa, da⟩) (he : eqQ r (onlyQ r) = true) (w : World) : Calls Tryz.prog 53 #[.agg r.cl.toArray] w fun e w' => e = .returned (.bool (decide (1 ≤ vo ∧ vo ≤ 99))) ∧ Below w.heap.size w w' := by
  have h : 1 ≤ r.kd ∧ r.kd ≤ 12 := by rw [hr]; exact ⟨by show (1 : Int) ≤ 4; decide, by show (4 : Int) ≤ 12; decide⟩
  obtain ⟨g, hg⟩ : ∃ g, w.heap.size = g := ⟨_, rfl⟩
  obtain ⟨x2, hx2⟩ : ∃ Z, w.alloc (.cells r.cl.toArray 29) = Z := ⟨_, rfl⟩
  have B : Blk x2 g r.cl.toArray 29 := by rw [← hx2, ← hg]; exact Blk.new w _ _
  have hb : Below g w x2 := by rw [← hx2, ← hg]; exact (Below.refl _ w).alloc (Nat.le_refl _) _
  have HS0 := hide B
  have HSW := hide (show ∀ W, Below x2.heap.size x2 W → Blk W g r.cl.toArray 29 from fun W hW => B.below hW B.lt)
  have HB2 := hide (And.intro hb B.lt)
  have HON := hide (only_any r h)
  have HNE := hide (show (!eqQ r (onlyQ r)) = false by rw [he]; rfl)
  have HPL := hide (place_any r)
  have HRL := hide (show r.cl.toArray = #[.int .i64 4, .int .i64 te, .int .i64 qu, .int .i64 vo, .int .i64 bl, .int .i64 no, .string di, .string wr, .string sa, .string da] by rw [hr]; rfl)
  have HPV := hide (show placeQ r.vo r.bl = placeQ vo bl by rw [hr])
  have HW0 := hide (within_any vo 1 99)
  generalize decide (1 ≤ vo ∧ vo ≤ 99) = RES at *
  generalize placeQ r.vo r.bl = PQ at *
  clear B hb h he hr
  rw [hg]
  go_enter Tryz.func53, Tryz.ntmps53
  go_wp2
  refine wp_region_held_drew (S := fun w' => Blk w' g r.cl.toArray 29) (by kernel_rfl) (unhide HS0) ?_
  intro hS
  refine wpAnyH_takeD 0 (some 4) (.agg r.cl.toArray) rfl rfl (by kernel_rfl) (by kernel_rfl) (by kernel_rfl) (fun _ _ _ h => h) (yieldsIf_load_mid (by rfl) 29 (.tmp 1) rfl g 0 rfl _ _ (fun w hSw => blk_range hSw) Tryz.underlying29 rfl size_req) hS ?_
  simp only [Act.put, List.setIfInBounds_toArray, List.set_cons_zero, List.set_cons_succ]
  refine wpAnyH_takeD 1 (some 5) (.agg r.cl.toArray) rfl rfl (by kernel_rfl) (by kernel_rfl) (by kernel_rfl) (fun _ _ _ h => h) (yieldsIf_load_mid (by rfl) 29 (.tmp 1) rfl g 0 rfl _ _ (fun w hSw => blk_range hSw) Tryz.underlying29 rfl size_req) hS ?_
  simp only [Act.put, List.setIfInBounds_toArray, List.set_cons_zero, List.set_cons_succ]
  refine wpAnyH_ready (rs := [2]) (by kernel_rfl) (by simp) ?_
  refine AllReadyH.cons rfl (fun K hK => ?_) AllReadyH.nil
  simp only [List.getElem_toArray, List.getElem_cons_succ, List.getElem_cons_zero]
  go_simp
  refine (unhide HON _).mono ?_
  rintro e x4 ⟨rfl, hb4⟩
  have HS4 := hide (unhide HSW x4 (((Below.refl _ x2).drew).trans hb4))
  have HB4 := hide (show Below g w x4 from (unhide HB2).1.trans ((((Below.refl _ x2).drew).trans hb4).mono (Nat.le_of_lt (unhide HB2).2)))
  clear hb4
  refine hK.out _ _ (unhide HS4) (fun hS => ?_)
  clear hK K
  refine wpAnyH_takeD 3 (some 7) (.bool false) rfl rfl (by kernel_rfl) (by kernel_rfl) (by kernel_rfl) (fun _ _ _ h => h) (yieldsIf_neQ (by rfl) (.tmp 4) (.tmp 6) rfl r (onlyQ r) rfl rfl _ (unhide HNE)) hS ?_
  simp only [Act.put, List.setIfInBounds_toArray, List.set_cons_zero, List.set_cons_succ]
  refine wpAnyH_done (by kernel_rfl) ?_ _
  have B4 := unhide HS4
  have HPL4 := hide (unhide HPL x4)
  have HB5 := hide (fun W (q : Below x4.heap.size x4 W) => show Blk W g #[.int .i64 4, .int .i64 te, .int .i64 qu, .int .i64 vo, .int .i64 bl, .int .i64 no, .string di, .string wr, .string sa, .string da] 29 from unhide HRL ▸ (unhide HS4).below q (unhide HS4).lt)
  have HRG := hide (show x4.rangeAt g 0 r.cl from blk_range B4)
  have hgl := B4.lt
  clear B4
  go_wp2_with (refine wpList_load_mid rfl 29 (.tmp 1) rfl g 0 rfl r.cl _ (unhide HRG) Tryz.underlying29 rfl size_req ?_)
  refine (unhide HPL4).mono ?_
  rintro e x5 ⟨rfl, hx5⟩
  obtain ⟨d0, d1, d2, d3, d4, d5, d6, d7, d8, d9⟩ := req_cells (unhide HB5 x5 hx5)
  have HX5 := hide (show Below g w x5 from (unhide HB4).trans (hx5.mono (Nat.le_of_lt hgl)))
  clear hx5
  go_wp2_with fail
  refine (unhide HW0 _).mono ?_
  rintro e x ⟨rfl, hx⟩
  subst x
  go_wp2
  go_ret
  exact ⟨rfl, unhide HX5⟩
set_option maxHeartbeats 4000000 in
theorem may_5_0 (te qu vo bl no : Int) (di wr sa da : ByteArray) (r : Req) (hr : r = ⟨5, te, qu, vo, bl, no, di, wr, sa, da⟩) (he : eqQ r (onlyQ r) = true) (w : World) : Calls Tryz.prog 53 #[.agg r.cl.toArray] w fun e w' => e = .returned (.bool (decide (1 ≤ vo ∧ vo ≤ 99))) ∧ Below w.heap.size w w' := by
  have h : 1 ≤ r.kd ∧ r.kd ≤ 12 := by rw [hr]; exact ⟨by show (1 : Int) ≤ 5; decide, by show (5 : Int) ≤ 12; decide⟩
  obtain ⟨g, hg⟩ : ∃ g, w.heap.size = g := ⟨_, rfl⟩
  obtain ⟨x2, hx2⟩ : ∃ Z, w.alloc (.cells r.cl.toArray 29) = Z := ⟨_, rfl⟩
  have B : Blk x2 g r.cl.toArray 29 := by rw [← hx2, ← hg]; exact Blk.new w _ _
  have hb : Below g w x2 := by rw [← hx2, ← hg]; exact (Below.refl _ w).alloc (Nat.le_refl _) _
  have HS0 := hide B
  have HSW := hide (show ∀ W, Below x2.heap.size x2 W → Blk W g r.cl.toArray 29 from fun W hW => B.below hW B.lt)
  have HB2 := hide (And.intro hb B.lt)
  have HON := hide (only_any r h)
  have HNE := hide (show (!eqQ r (onlyQ r)) = false by rw [he]; rfl)
  have HPL := hide (place_any r)
  have HRL := hide (show r.cl.toArray = #[.int .i64 5, .int .i64 te, .int .i64 qu, .int .i64 vo, .int .i64 bl, .int .i64 no, .string di, .string wr, .string sa, .string da] by rw [hr]; rfl)
  have HPV := hide (show placeQ r.vo r.bl = placeQ vo bl by rw [hr])
  have HW0 := hide (within_any vo 1 99)
  generalize decide (1 ≤ vo ∧ vo ≤ 99) = RES at *
  generalize placeQ r.vo r.bl = PQ at *
  clear B hb h he hr
  rw [hg]
  go_enter Tryz.func53, Tryz.ntmps53
  go_wp2
  refine wp_region_held_drew (S := fun w' => Blk w' g r.cl.toArray 29) (by kernel_rfl) (unhide HS0) ?_
  intro hS
  refine wpAnyH_takeD 0 (some 4) (.agg r.cl.toArray) rfl rfl (by kernel_rfl) (by kernel_rfl) (by kernel_rfl) (fun _ _ _ h => h) (yieldsIf_load_mid (by rfl) 29 (.tmp 1) rfl g 0 rfl _ _ (fun w hSw => blk_range hSw) Tryz.underlying29 rfl size_req) hS ?_
  simp only [Act.put, List.setIfInBounds_toArray, List.set_cons_zero, List.set_cons_succ]
  refine wpAnyH_takeD 1 (some 5) (.agg r.cl.toArray) rfl rfl (by kernel_rfl) (by kernel_rfl) (by kernel_rfl) (fun _ _ _ h => h) (yieldsIf_load_mid (by rfl) 29 (.tmp 1) rfl g 0 rfl _ _ (fun w hSw => blk_range hSw) Tryz.underlying29 rfl size_req) hS ?_
  simp only [Act.put, List.setIfInBounds_toArray, List.set_cons_zero, List.set_cons_succ]
  refine wpAnyH_ready (rs := [2]) (by kernel_rfl) (by simp) ?_
  refine AllReadyH.cons rfl (fun K hK => ?_) AllReadyH.nil
  simp only [List.getElem_toArray, List.getElem_cons_succ, List.getElem_cons_zero]
  go_simp
  refine (unhide HON _).mono ?_
  rintro e x4 ⟨rfl, hb4⟩
  have HS4 := hide (unhide HSW x4 (((Below.refl _ x2).drew).trans hb4))
  have HB4 := hide (show Below g w x4 from (unhide HB2).1.trans ((((Below.refl _ x2).drew).trans hb4).mono (Nat.le_of_lt (unhide HB2).2)))
  clear hb4
  refine hK.out _ _ (unhide HS4) (fun hS => ?_)
  clear hK K
  refine wpAnyH_takeD 3 (some 7) (.bool false) rfl rfl (by kernel_rfl) (by kernel_rfl) (by kernel_rfl) (fun _ _ _ h => h) (yieldsIf_neQ (by rfl) (.tmp 4) (.tmp 6) rfl r (onlyQ r) rfl rfl _ (unhide HNE)) hS ?_
  simp only [Act.put, List.setIfInBounds_toArray, List.set_cons_zero, List.set_cons_succ]
  refine wpAnyH_done (by kernel_rfl) ?_ _
  have B4 := unhide HS4
  have HPL4 := hide (unhide HPL x4)
  have HB5 := hide (fun W (q : Below x4.heap.size x4 W) => show Blk W g #[.int .i64 5, .int .i64 te, .int .i64 qu, .int .i64 vo, .int .i64 bl, .int .i64 no, .string di, .string wr, .string sa, .string da] 29 from unhide HRL ▸ (unhide HS4).below q (unhide HS4).lt)
  have HRG := hide (show x4.rangeAt g 0 r.cl from blk_range B4)
  have hgl := B4.lt
  clear B4
  go_wp2_with (refine wpList_load_mid rfl 29 (.tmp 1) rfl g 0 rfl r.cl _ (unhide HRG) Tryz.underlying29 rfl size_req ?_)
  refine (unhide HPL4).mono ?_
  rintro e x5 ⟨rfl, hx5⟩
  obtain ⟨d0, d1, d2, d3, d4, d5, d6, d7, d8, d9⟩ := req_cells (unhide HB5 x5 hx5)
  have HX5 := hide (show Below g w x5 from (unhide HB4).trans (hx5.mono (Nat.le_of_lt hgl)))
  clear hx5
  go_wp2_with fail
  refine (unhide HW0 _).mono ?_
  rintro e x ⟨rfl, hx⟩
  subst x
  go_wp2
  go_ret
  exact ⟨rfl, unhide HX5⟩
set_option maxHeartbeats 4000000 in
theorem may_6_0 (te qu vo bl no : Int) (di wr sa da : ByteArray) (r : Req) (hr : r = ⟨6, te, qu, vo, bl, no, di, wr, sa, da⟩) (he : eqQ r (onlyQ r) = true) (w : World) : Calls Tryz.prog 53 #[.agg r.cl.toArray] w fun e w' => e = .returned (.bool (true)) ∧ Below w.heap.size w w' := by
  have h : 1 ≤ r.kd ∧ r.kd ≤ 12 := by rw [hr]; exact ⟨by show (1 : Int) ≤ 6; decide, by show (6 : Int) ≤ 12; decide⟩
  obtain ⟨g, hg⟩ : ∃ g, w.heap.size = g := ⟨_, rfl⟩
  obtain ⟨x2, hx2⟩ : ∃ Z, w.alloc (.cells r.cl.toArray 29) = Z := ⟨_, rfl⟩
  have B : Blk x2 g r.cl.toArray 29 := by rw [← hx2, ← hg]; exact Blk.new w _ _
  have hb : Below g w x2 := by rw [← hx2, ← hg]; exact (Below.refl _ w).alloc (Nat.le_refl _) _
  have HS0 := hide B
  have HSW := hide (show ∀ W, Below x2.heap.size x2 W → Blk W g r.cl.toArray 29 from fun W hW => B.below hW B.lt)
  have HB2 := hide (And.intro hb B.lt)
  have HON := hide (only_any r h)
  have HNE := hide (show (!eqQ r (onlyQ r)) = false by rw [he]; rfl)
  have HPL := hide (place_any r)
  have HRL := hide (show r.cl.toArray = #[.int .i64 6, .int .i64 te, .int .i64 qu, .int .i64 vo, .int .i64 bl, .int .i64 no, .string di, .string wr, .string sa, .string da] by rw [hr]; rfl)
  have HPV := hide (show placeQ r.vo r.bl = placeQ vo bl by rw [hr])
  generalize placeQ r.vo r.bl = PQ at *
  clear B hb h he hr
  rw [hg]
  go_enter Tryz.func53, Tryz.ntmps53
  go_wp2
  refine wp_region_held_drew (S := fun w' => Blk w' g r.cl.toArray 29) (by kernel_rfl) (unhide HS0) ?_
  intro hS
  refine wpAnyH_takeD 0 (some 4) (.agg r.cl.toArray) rfl rfl (by kernel_rfl) (by kernel_rfl) (by kernel_rfl) (fun _ _ _ h => h) (yieldsIf_load_mid (by rfl) 29 (.tmp 1) rfl g 0 rfl _ _ (fun w hSw => blk_range hSw) Tryz.underlying29 rfl size_req) hS ?_
  simp only [Act.put, List.setIfInBounds_toArray, List.set_cons_zero, List.set_cons_succ]
  refine wpAnyH_takeD 1 (some 5) (.agg r.cl.toArray) rfl rfl (by kernel_rfl) (by kernel_rfl) (by kernel_rfl) (fun _ _ _ h => h) (yieldsIf_load_mid (by rfl) 29 (.tmp 1) rfl g 0 rfl _ _ (fun w hSw => blk_range hSw) Tryz.underlying29 rfl size_req) hS ?_
  simp only [Act.put, List.setIfInBounds_toArray, List.set_cons_zero, List.set_cons_succ]
  refine wpAnyH_ready (rs := [2]) (by kernel_rfl) (by simp) ?_
  refine AllReadyH.cons rfl (fun K hK => ?_) AllReadyH.nil
  simp only [List.getElem_toArray, List.getElem_cons_succ, List.getElem_cons_zero]
  go_simp
  refine (unhide HON _).mono ?_
  rintro e x4 ⟨rfl, hb4⟩
  have HS4 := hide (unhide HSW x4 (((Below.refl _ x2).drew).trans hb4))
  have HB4 := hide (show Below g w x4 from (unhide HB2).1.trans ((((Below.refl _ x2).drew).trans hb4).mono (Nat.le_of_lt (unhide HB2).2)))
  clear hb4
  refine hK.out _ _ (unhide HS4) (fun hS => ?_)
  clear hK K
  refine wpAnyH_takeD 3 (some 7) (.bool false) rfl rfl (by kernel_rfl) (by kernel_rfl) (by kernel_rfl) (fun _ _ _ h => h) (yieldsIf_neQ (by rfl) (.tmp 4) (.tmp 6) rfl r (onlyQ r) rfl rfl _ (unhide HNE)) hS ?_
  simp only [Act.put, List.setIfInBounds_toArray, List.set_cons_zero, List.set_cons_succ]
  refine wpAnyH_done (by kernel_rfl) ?_ _
  have B4 := unhide HS4
  have HPL4 := hide (unhide HPL x4)
  have HB5 := hide (fun W (q : Below x4.heap.size x4 W) => show Blk W g #[.int .i64 6, .int .i64 te, .int .i64 qu, .int .i64 vo, .int .i64 bl, .int .i64 no, .string di, .string wr, .string sa, .string da] 29 from unhide HRL ▸ (unhide HS4).below q (unhide HS4).lt)
  have HRG := hide (show x4.rangeAt g 0 r.cl from blk_range B4)
  have hgl := B4.lt
  clear B4
  go_wp2_with (refine wpList_load_mid rfl 29 (.tmp 1) rfl g 0 rfl r.cl _ (unhide HRG) Tryz.underlying29 rfl size_req ?_)
  refine (unhide HPL4).mono ?_
  rintro e x5 ⟨rfl, hx5⟩
  obtain ⟨d0, d1, d2, d3, d4, d5, d6, d7, d8, d9⟩ := req_cells (unhide HB5 x5 hx5)
  have HX5 := hide (show Below g w x5 from (unhide HB4).trans (hx5.mono (Nat.le_of_lt hgl)))
  clear hx5
  go_wp2
  go_ret
  exact ⟨rfl, unhide HX5⟩
set_option maxHeartbeats 4000000 in
theorem may_7_0 (te qu vo bl no : Int) (di wr sa da : ByteArray) (r : Req) (hr : r = ⟨7, te, qu, vo, bl, no, di, wr, sa, da⟩) (he : eqQ r (onlyQ r) = true) (w : World) : Calls Tryz.prog 53 #[.agg r.cl.toArray] w fun e w' => e = .returned (.bool (true)) ∧ Below w.heap.size w w' := by
  have h : 1 ≤ r.kd ∧ r.kd ≤ 12 := by rw [hr]; exact ⟨by show (1 : Int) ≤ 7; decide, by show (7 : Int) ≤ 12; decide⟩
  obtain ⟨g, hg⟩ : ∃ g, w.heap.size = g := ⟨_, rfl⟩
  obtain ⟨x2, hx2⟩ : ∃ Z, w.alloc (.cells r.cl.toArray 29) = Z := ⟨_, rfl⟩
  have B : Blk x2 g r.cl.toArray 29 := by rw [← hx2, ← hg]; exact Blk.new w _ _
  have hb : Below g w x2 := by rw [← hx2, ← hg]; exact (Below.refl _ w).alloc (Nat.le_refl _) _
  have HS0 := hide B
  have HSW := hide (show ∀ W, Below x2.heap.size x2 W → Blk W g r.cl.toArray 29 from fun W hW => B.below hW B.lt)
  have HB2 := hide (And.intro hb B.lt)
  have HON := hide (only_any r h)
  have HNE := hide (show (!eqQ r (onlyQ r)) = false by rw [he]; rfl)
  have HPL := hide (place_any r)
  have HRL := hide (show r.cl.toArray = #[.int .i64 7, .int .i64 te, .int .i64 qu, .int .i64 vo, .int .i64 bl, .int .i64 no, .string di, .string wr, .string sa, .string da] by rw [hr]; rfl)
  have HPV := hide (show placeQ r.vo r.bl = placeQ vo bl by rw [hr])
  generalize placeQ r.vo r.bl = PQ at *
  clear B hb h he hr
  rw [hg]
  go_enter Tryz.func53, Tryz.ntmps53
  go_wp2
  refine wp_region_held_drew (S := fun w' => Blk w' g r.cl.toArray 29) (by kernel_rfl) (unhide HS0) ?_
  intro hS
  refine wpAnyH_takeD 0 (some 4) (.agg r.cl.toArray) rfl rfl (by kernel_rfl) (by kernel_rfl) (by kernel_rfl) (fun _ _ _ h => h) (yieldsIf_load_mid (by rfl) 29 (.tmp 1) rfl g 0 rfl _ _ (fun w hSw => blk_range hSw) Tryz.underlying29 rfl size_req) hS ?_
  simp only [Act.put, List.setIfInBounds_toArray, List.set_cons_zero, List.set_cons_succ]
  refine wpAnyH_takeD 1 (some 5) (.agg r.cl.toArray) rfl rfl (by kernel_rfl) (by kernel_rfl) (by kernel_rfl) (fun _ _ _ h => h) (yieldsIf_load_mid (by rfl) 29 (.tmp 1) rfl g 0 rfl _ _ (fun w hSw => blk_range hSw) Tryz.underlying29 rfl size_req) hS ?_
  simp only [Act.put, List.setIfInBounds_toArray, List.set_cons_zero, List.set_cons_succ]
  refine wpAnyH_ready (rs := [2]) (by kernel_rfl) (by simp) ?_
  refine AllReadyH.cons rfl (fun K hK => ?_) AllReadyH.nil
  simp only [List.getElem_toArray, List.getElem_cons_succ, List.getElem_cons_zero]
  go_simp
  refine (unhide HON _).mono ?_
  rintro e x4 ⟨rfl, hb4⟩
  have HS4 := hide (unhide HSW x4 (((Below.refl _ x2).drew).trans hb4))
  have HB4 := hide (show Below g w x4 from (unhide HB2).1.trans ((((Below.refl _ x2).drew).trans hb4).mono (Nat.le_of_lt (unhide HB2).2)))
  clear hb4
  refine hK.out _ _ (unhide HS4) (fun hS => ?_)
  clear hK K
  refine wpAnyH_takeD 3 (some 7) (.bool false) rfl rfl (by kernel_rfl) (by kernel_rfl) (by kernel_rfl) (fun _ _ _ h => h) (yieldsIf_neQ (by rfl) (.tmp 4) (.tmp 6) rfl r (onlyQ r) rfl rfl _ (unhide HNE)) hS ?_
  simp only [Act.put, List.setIfInBounds_toArray, List.set_cons_zero, List.set_cons_succ]
  refine wpAnyH_done (by kernel_rfl) ?_ _
  have B4 := unhide HS4
  have HPL4 := hide (unhide HPL x4)
  have HB5 := hide (fun W (q : Below x4.heap.size x4 W) => show Blk W g #[.int .i64 7, .int .i64 te, .int .i64 qu, .int .i64 vo, .int .i64 bl, .int .i64 no, .string di, .string wr, .string sa, .string da] 29 from unhide HRL ▸ (unhide HS4).below q (unhide HS4).lt)
  have HRG := hide (show x4.rangeAt g 0 r.cl from blk_range B4)
  have hgl := B4.lt
  clear B4
  go_wp2_with (refine wpList_load_mid rfl 29 (.tmp 1) rfl g 0 rfl r.cl _ (unhide HRG) Tryz.underlying29 rfl size_req ?_)
  refine (unhide HPL4).mono ?_
  rintro e x5 ⟨rfl, hx5⟩
  obtain ⟨d0, d1, d2, d3, d4, d5, d6, d7, d8, d9⟩ := req_cells (unhide HB5 x5 hx5)
  have HX5 := hide (show Below g w x5 from (unhide HB4).trans (hx5.mono (Nat.le_of_lt hgl)))
  clear hx5
  go_wp2
  go_ret
  exact ⟨rfl, unhide HX5⟩
set_option maxHeartbeats 4000000 in
theorem may_8_0 (te qu vo bl no : Int) (di wr sa da : ByteArray) (r : Req) (hr : r = ⟨8, te, qu, vo, bl, no, di, wr, sa, da⟩) (he : eqQ r (onlyQ r) = true) (c0 : placeQ vo bl = false) (w : World) : Calls Tryz.prog 53 #[.agg r.cl.toArray] w fun e w' => e = .returned (.bool (false)) ∧ Below w.heap.size w w' := by
  have h : 1 ≤ r.kd ∧ r.kd ≤ 12 := by rw [hr]; exact ⟨by show (1 : Int) ≤ 8; decide, by show (8 : Int) ≤ 12; decide⟩
  obtain ⟨g, hg⟩ : ∃ g, w.heap.size = g := ⟨_, rfl⟩
  obtain ⟨x2, hx2⟩ : ∃ Z, w.alloc (.cells r.cl.toArray 29) = Z := ⟨_, rfl⟩
  have B : Blk x2 g r.cl.toArray 29 := by rw [← hx2, ← hg]; exact Blk.new w _ _
  have hb : Below g w x2 := by rw [← hx2, ← hg]; exact (Below.refl _ w).alloc (Nat.le_refl _) _
  have HS0 := hide B
  have HSW := hide (show ∀ W, Below x2.heap.size x2 W → Blk W g r.cl.toArray 29 from fun W hW => B.below hW B.lt)
  have HB2 := hide (And.intro hb B.lt)
  have HON := hide (only_any r h)
  have HNE := hide (show (!eqQ r (onlyQ r)) = false by rw [he]; rfl)
  have HPL := hide (place_any r)
  have HRL := hide (show r.cl.toArray = #[.int .i64 8, .int .i64 te, .int .i64 qu, .int .i64 vo, .int .i64 bl, .int .i64 no, .string di, .string wr, .string sa, .string da] by rw [hr]; rfl)
  have HPV := hide (show placeQ r.vo r.bl = placeQ vo bl by rw [hr])
  rw [unhide HPV] at HPL
  rw [c0] at HPL
  clear B hb h he hr
  rw [hg]
  go_enter Tryz.func53, Tryz.ntmps53
  go_wp2
  refine wp_region_held_drew (S := fun w' => Blk w' g r.cl.toArray 29) (by kernel_rfl) (unhide HS0) ?_
  intro hS
  refine wpAnyH_takeD 0 (some 4) (.agg r.cl.toArray) rfl rfl (by kernel_rfl) (by kernel_rfl) (by kernel_rfl) (fun _ _ _ h => h) (yieldsIf_load_mid (by rfl) 29 (.tmp 1) rfl g 0 rfl _ _ (fun w hSw => blk_range hSw) Tryz.underlying29 rfl size_req) hS ?_
  simp only [Act.put, List.setIfInBounds_toArray, List.set_cons_zero, List.set_cons_succ]
  refine wpAnyH_takeD 1 (some 5) (.agg r.cl.toArray) rfl rfl (by kernel_rfl) (by kernel_rfl) (by kernel_rfl) (fun _ _ _ h => h) (yieldsIf_load_mid (by rfl) 29 (.tmp 1) rfl g 0 rfl _ _ (fun w hSw => blk_range hSw) Tryz.underlying29 rfl size_req) hS ?_
  simp only [Act.put, List.setIfInBounds_toArray, List.set_cons_zero, List.set_cons_succ]
  refine wpAnyH_ready (rs := [2]) (by kernel_rfl) (by simp) ?_
  refine AllReadyH.cons rfl (fun K hK => ?_) AllReadyH.nil
  simp only [List.getElem_toArray, List.getElem_cons_succ, List.getElem_cons_zero]
  go_simp
  refine (unhide HON _).mono ?_
  rintro e x4 ⟨rfl, hb4⟩
  have HS4 := hide (unhide HSW x4 (((Below.refl _ x2).drew).trans hb4))
  have HB4 := hide (show Below g w x4 from (unhide HB2).1.trans ((((Below.refl _ x2).drew).trans hb4).mono (Nat.le_of_lt (unhide HB2).2)))
  clear hb4
  refine hK.out _ _ (unhide HS4) (fun hS => ?_)
  clear hK K
  refine wpAnyH_takeD 3 (some 7) (.bool false) rfl rfl (by kernel_rfl) (by kernel_rfl) (by kernel_rfl) (fun _ _ _ h => h) (yieldsIf_neQ (by rfl) (.tmp 4) (.tmp 6) rfl r (onlyQ r) rfl rfl _ (unhide HNE)) hS ?_
  simp only [Act.put, List.setIfInBounds_toArray, List.set_cons_zero, List.set_cons_succ]
  refine wpAnyH_done (by kernel_rfl) ?_ _
  have B4 := unhide HS4
  have HPL4 := hide (unhide HPL x4)
  have HB5 := hide (fun W (q : Below x4.heap.size x4 W) => show Blk W g #[.int .i64 8, .int .i64 te, .int .i64 qu, .int .i64 vo, .int .i64 bl, .int .i64 no, .string di, .string wr, .string sa, .string da] 29 from unhide HRL ▸ (unhide HS4).below q (unhide HS4).lt)
  have HRG := hide (show x4.rangeAt g 0 r.cl from blk_range B4)
  have hgl := B4.lt
  clear B4
  go_wp2_with (refine wpList_load_mid rfl 29 (.tmp 1) rfl g 0 rfl r.cl _ (unhide HRG) Tryz.underlying29 rfl size_req ?_)
  refine (unhide HPL4).mono ?_
  rintro e x5 ⟨rfl, hx5⟩
  obtain ⟨d0, d1, d2, d3, d4, d5, d6, d7, d8, d9⟩ := req_cells (unhide HB5 x5 hx5)
  have HX5 := hide (show Below g w x5 from (unhide HB4).trans (hx5.mono (Nat.le_of_lt hgl)))
  clear hx5
  go_wp2
  go_ret
  exact ⟨rfl, unhide HX5⟩
set_option maxHeartbeats 4000000 in
theorem may_8_1 (te qu vo bl no : Int) (di wr sa da : ByteArray) (r : Req) (hr : r = ⟨8, te, qu, vo, bl, no, di, wr, sa, da⟩) (he : eqQ r (onlyQ r) = true) (c0 : placeQ vo bl = true) (c1 : ((di.size : Int) == 32) = false) (w : World) : Calls Tryz.prog 53 #[.agg r.cl.toArray] w fun e w' => e = .returned (.bool (false)) ∧ Below w.heap.size w w' := by
  have h : 1 ≤ r.kd ∧ r.kd ≤ 12 := by rw [hr]; exact ⟨by show (1 : Int) ≤ 8; decide, by show (8 : Int) ≤ 12; decide⟩
  obtain ⟨g, hg⟩ : ∃ g, w.heap.size = g := ⟨_, rfl⟩
  obtain ⟨x2, hx2⟩ : ∃ Z, w.alloc (.cells r.cl.toArray 29) = Z := ⟨_, rfl⟩
  have B : Blk x2 g r.cl.toArray 29 := by rw [← hx2, ← hg]; exact Blk.new w _ _
  have hb : Below g w x2 := by rw [← hx2, ← hg]; exact (Below.refl _ w).alloc (Nat.le_refl _) _
  have HS0 := hide B
  have HSW := hide (show ∀ W, Below x2.heap.size x2 W → Blk W g r.cl.toArray 29 from fun W hW => B.below hW B.lt)
  have HB2 := hide (And.intro hb B.lt)
  have HON := hide (only_any r h)
  have HNE := hide (show (!eqQ r (onlyQ r)) = false by rw [he]; rfl)
  have HPL := hide (place_any r)
  have HRL := hide (show r.cl.toArray = #[.int .i64 8, .int .i64 te, .int .i64 qu, .int .i64 vo, .int .i64 bl, .int .i64 no, .string di, .string wr, .string sa, .string da] by rw [hr]; rfl)
  have HPV := hide (show placeQ r.vo r.bl = placeQ vo bl by rw [hr])
  rw [unhide HPV] at HPL
  rw [c0] at HPL
  clear B hb h he hr
  rw [hg]
  go_enter Tryz.func53, Tryz.ntmps53
  go_wp2
  refine wp_region_held_drew (S := fun w' => Blk w' g r.cl.toArray 29) (by kernel_rfl) (unhide HS0) ?_
  intro hS
  refine wpAnyH_takeD 0 (some 4) (.agg r.cl.toArray) rfl rfl (by kernel_rfl) (by kernel_rfl) (by kernel_rfl) (fun _ _ _ h => h) (yieldsIf_load_mid (by rfl) 29 (.tmp 1) rfl g 0 rfl _ _ (fun w hSw => blk_range hSw) Tryz.underlying29 rfl size_req) hS ?_
  simp only [Act.put, List.setIfInBounds_toArray, List.set_cons_zero, List.set_cons_succ]
  refine wpAnyH_takeD 1 (some 5) (.agg r.cl.toArray) rfl rfl (by kernel_rfl) (by kernel_rfl) (by kernel_rfl) (fun _ _ _ h => h) (yieldsIf_load_mid (by rfl) 29 (.tmp 1) rfl g 0 rfl _ _ (fun w hSw => blk_range hSw) Tryz.underlying29 rfl size_req) hS ?_
  simp only [Act.put, List.setIfInBounds_toArray, List.set_cons_zero, List.set_cons_succ]
  refine wpAnyH_ready (rs := [2]) (by kernel_rfl) (by simp) ?_
  refine AllReadyH.cons rfl (fun K hK => ?_) AllReadyH.nil
  simp only [List.getElem_toArray, List.getElem_cons_succ, List.getElem_cons_zero]
  go_simp
  refine (unhide HON _).mono ?_
  rintro e x4 ⟨rfl, hb4⟩
  have HS4 := hide (unhide HSW x4 (((Below.refl _ x2).drew).trans hb4))
  have HB4 := hide (show Below g w x4 from (unhide HB2).1.trans ((((Below.refl _ x2).drew).trans hb4).mono (Nat.le_of_lt (unhide HB2).2)))
  clear hb4
  refine hK.out _ _ (unhide HS4) (fun hS => ?_)
  clear hK K
  refine wpAnyH_takeD 3 (some 7) (.bool false) rfl rfl (by kernel_rfl) (by kernel_rfl) (by kernel_rfl) (fun _ _ _ h => h) (yieldsIf_neQ (by rfl) (.tmp 4) (.tmp 6) rfl r (onlyQ r) rfl rfl _ (unhide HNE)) hS ?_
  simp only [Act.put, List.setIfInBounds_toArray, List.set_cons_zero, List.set_cons_succ]
  refine wpAnyH_done (by kernel_rfl) ?_ _
  have B4 := unhide HS4
  have HPL4 := hide (unhide HPL x4)
  have HB5 := hide (fun W (q : Below x4.heap.size x4 W) => show Blk W g #[.int .i64 8, .int .i64 te, .int .i64 qu, .int .i64 vo, .int .i64 bl, .int .i64 no, .string di, .string wr, .string sa, .string da] 29 from unhide HRL ▸ (unhide HS4).below q (unhide HS4).lt)
  have HRG := hide (show x4.rangeAt g 0 r.cl from blk_range B4)
  have hgl := B4.lt
  clear B4
  go_wp2_with (refine wpList_load_mid rfl 29 (.tmp 1) rfl g 0 rfl r.cl _ (unhide HRG) Tryz.underlying29 rfl size_req ?_)
  refine (unhide HPL4).mono ?_
  rintro e x5 ⟨rfl, hx5⟩
  obtain ⟨d0, d1, d2, d3, d4, d5, d6, d7, d8, d9⟩ := req_cells (unhide HB5 x5 hx5)
  have HX5 := hide (show Below g w x5 from (unhide HB4).trans (hx5.mono (Nat.le_of_lt hgl)))
  clear hx5
  go_wp2
  go_ret
  exact ⟨rfl, unhide HX5⟩
set_option maxHeartbeats 4000000 in
theorem may_8_2 (te qu vo bl no : Int) (di wr sa da : ByteArray) (r : Req) (hr : r = ⟨8, te, qu, vo, bl, no, di, wr, sa, da⟩) (he : eqQ r (onlyQ r) = true) (c0 : placeQ vo bl = true) (c1 : ((di.size : Int) == 32) = true) (w : World) : Calls Tryz.prog 53 #[.agg r.cl.toArray] w fun e w' => e = .returned (.bool (((wr.size : Int) == 48))) ∧ Below w.heap.size w w' := by
  have h : 1 ≤ r.kd ∧ r.kd ≤ 12 := by rw [hr]; exact ⟨by show (1 : Int) ≤ 8; decide, by show (8 : Int) ≤ 12; decide⟩
  obtain ⟨g, hg⟩ : ∃ g, w.heap.size = g := ⟨_, rfl⟩
  obtain ⟨x2, hx2⟩ : ∃ Z, w.alloc (.cells r.cl.toArray 29) = Z := ⟨_, rfl⟩
  have B : Blk x2 g r.cl.toArray 29 := by rw [← hx2, ← hg]; exact Blk.new w _ _
  have hb : Below g w x2 := by rw [← hx2, ← hg]; exact (Below.refl _ w).alloc (Nat.le_refl _) _
  have HS0 := hide B
  have HSW := hide (show ∀ W, Below x2.heap.size x2 W → Blk W g r.cl.toArray 29 from fun W hW => B.below hW B.lt)
  have HB2 := hide (And.intro hb B.lt)
  have HON := hide (only_any r h)
  have HNE := hide (show (!eqQ r (onlyQ r)) = false by rw [he]; rfl)
  have HPL := hide (place_any r)
  have HRL := hide (show r.cl.toArray = #[.int .i64 8, .int .i64 te, .int .i64 qu, .int .i64 vo, .int .i64 bl, .int .i64 no, .string di, .string wr, .string sa, .string da] by rw [hr]; rfl)
  have HPV := hide (show placeQ r.vo r.bl = placeQ vo bl by rw [hr])
  rw [unhide HPV] at HPL
  rw [c0] at HPL
  generalize hRES : ((wr.size : Int) == 48) = RES at *
  clear B hb h he hr
  rw [hg]
  go_enter Tryz.func53, Tryz.ntmps53
  go_wp2
  refine wp_region_held_drew (S := fun w' => Blk w' g r.cl.toArray 29) (by kernel_rfl) (unhide HS0) ?_
  intro hS
  refine wpAnyH_takeD 0 (some 4) (.agg r.cl.toArray) rfl rfl (by kernel_rfl) (by kernel_rfl) (by kernel_rfl) (fun _ _ _ h => h) (yieldsIf_load_mid (by rfl) 29 (.tmp 1) rfl g 0 rfl _ _ (fun w hSw => blk_range hSw) Tryz.underlying29 rfl size_req) hS ?_
  simp only [Act.put, List.setIfInBounds_toArray, List.set_cons_zero, List.set_cons_succ]
  refine wpAnyH_takeD 1 (some 5) (.agg r.cl.toArray) rfl rfl (by kernel_rfl) (by kernel_rfl) (by kernel_rfl) (fun _ _ _ h => h) (yieldsIf_load_mid (by rfl) 29 (.tmp 1) rfl g 0 rfl _ _ (fun w hSw => blk_range hSw) Tryz.underlying29 rfl size_req) hS ?_
  simp only [Act.put, List.setIfInBounds_toArray, List.set_cons_zero, List.set_cons_succ]
  refine wpAnyH_ready (rs := [2]) (by kernel_rfl) (by simp) ?_
  refine AllReadyH.cons rfl (fun K hK => ?_) AllReadyH.nil
  simp only [List.getElem_toArray, List.getElem_cons_succ, List.getElem_cons_zero]
  go_simp
  refine (unhide HON _).mono ?_
  rintro e x4 ⟨rfl, hb4⟩
  have HS4 := hide (unhide HSW x4 (((Below.refl _ x2).drew).trans hb4))
  have HB4 := hide (show Below g w x4 from (unhide HB2).1.trans ((((Below.refl _ x2).drew).trans hb4).mono (Nat.le_of_lt (unhide HB2).2)))
  clear hb4
  refine hK.out _ _ (unhide HS4) (fun hS => ?_)
  clear hK K
  refine wpAnyH_takeD 3 (some 7) (.bool false) rfl rfl (by kernel_rfl) (by kernel_rfl) (by kernel_rfl) (fun _ _ _ h => h) (yieldsIf_neQ (by rfl) (.tmp 4) (.tmp 6) rfl r (onlyQ r) rfl rfl _ (unhide HNE)) hS ?_
  simp only [Act.put, List.setIfInBounds_toArray, List.set_cons_zero, List.set_cons_succ]
  refine wpAnyH_done (by kernel_rfl) ?_ _
  have B4 := unhide HS4
  have HPL4 := hide (unhide HPL x4)
  have HB5 := hide (fun W (q : Below x4.heap.size x4 W) => show Blk W g #[.int .i64 8, .int .i64 te, .int .i64 qu, .int .i64 vo, .int .i64 bl, .int .i64 no, .string di, .string wr, .string sa, .string da] 29 from unhide HRL ▸ (unhide HS4).below q (unhide HS4).lt)
  have HRG := hide (show x4.rangeAt g 0 r.cl from blk_range B4)
  have hgl := B4.lt
  clear B4
  go_wp2_with (refine wpList_load_mid rfl 29 (.tmp 1) rfl g 0 rfl r.cl _ (unhide HRG) Tryz.underlying29 rfl size_req ?_)
  refine (unhide HPL4).mono ?_
  rintro e x5 ⟨rfl, hx5⟩
  obtain ⟨d0, d1, d2, d3, d4, d5, d6, d7, d8, d9⟩ := req_cells (unhide HB5 x5 hx5)
  have HX5 := hide (show Below g w x5 from (unhide HB4).trans (hx5.mono (Nat.le_of_lt hgl)))
  clear hx5
  go_wp2
  go_ret
  exact ⟨rfl, unhide HX5⟩
set_option maxHeartbeats 4000000 in
theorem may_9_0 (te qu vo bl no : Int) (di wr sa da : ByteArray) (r : Req) (hr : r = ⟨9, te, qu, vo, bl, no, di, wr, sa, da⟩) (he : eqQ r (onlyQ r) = true) (c0 : decide (0 ≤ no ∧ no ≤ 4294967295) = false) (w : World) : Calls Tryz.prog 53 #[.agg r.cl.toArray] w fun e w' => e = .returned (.bool (false)) ∧ Below w.heap.size w w' := by
  have h : 1 ≤ r.kd ∧ r.kd ≤ 12 := by rw [hr]; exact ⟨by show (1 : Int) ≤ 9; decide, by show (9 : Int) ≤ 12; decide⟩
  obtain ⟨g, hg⟩ : ∃ g, w.heap.size = g := ⟨_, rfl⟩
  obtain ⟨x2, hx2⟩ : ∃ Z, w.alloc (.cells r.cl.toArray 29) = Z := ⟨_, rfl⟩
  have B : Blk x2 g r.cl.toArray 29 := by rw [← hx2, ← hg]; exact Blk.new w _ _
  have hb : Below g w x2 := by rw [← hx2, ← hg]; exact (Below.refl _ w).alloc (Nat.le_refl _) _
  have HS0 := hide B
  have HSW := hide (show ∀ W, Below x2.heap.size x2 W → Blk W g r.cl.toArray 29 from fun W hW => B.below hW B.lt)
  have HB2 := hide (And.intro hb B.lt)
  have HON := hide (only_any r h)
  have HNE := hide (show (!eqQ r (onlyQ r)) = false by rw [he]; rfl)
  have HPL := hide (place_any r)
  have HRL := hide (show r.cl.toArray = #[.int .i64 9, .int .i64 te, .int .i64 qu, .int .i64 vo, .int .i64 bl, .int .i64 no, .string di, .string wr, .string sa, .string da] by rw [hr]; rfl)
  have HPV := hide (show placeQ r.vo r.bl = placeQ vo bl by rw [hr])
  have HW0 := hide (within_any no 0 4294967295)
  rw [c0] at HW0
  generalize placeQ r.vo r.bl = PQ at *
  clear B hb h he hr
  rw [hg]
  go_enter Tryz.func53, Tryz.ntmps53
  go_wp2
  refine wp_region_held_drew (S := fun w' => Blk w' g r.cl.toArray 29) (by kernel_rfl) (unhide HS0) ?_
  intro hS
  refine wpAnyH_takeD 0 (some 4) (.agg r.cl.toArray) rfl rfl (by kernel_rfl) (by kernel_rfl) (by kernel_rfl) (fun _ _ _ h => h) (yieldsIf_load_mid (by rfl) 29 (.tmp 1) rfl g 0 rfl _ _ (fun w hSw => blk_range hSw) Tryz.underlying29 rfl size_req) hS ?_
  simp only [Act.put, List.setIfInBounds_toArray, List.set_cons_zero, List.set_cons_succ]
  refine wpAnyH_takeD 1 (some 5) (.agg r.cl.toArray) rfl rfl (by kernel_rfl) (by kernel_rfl) (by kernel_rfl) (fun _ _ _ h => h) (yieldsIf_load_mid (by rfl) 29 (.tmp 1) rfl g 0 rfl _ _ (fun w hSw => blk_range hSw) Tryz.underlying29 rfl size_req) hS ?_
  simp only [Act.put, List.setIfInBounds_toArray, List.set_cons_zero, List.set_cons_succ]
  refine wpAnyH_ready (rs := [2]) (by kernel_rfl) (by simp) ?_
  refine AllReadyH.cons rfl (fun K hK => ?_) AllReadyH.nil
  simp only [List.getElem_toArray, List.getElem_cons_succ, List.getElem_cons_zero]
  go_simp
  refine (unhide HON _).mono ?_
  rintro e x4 ⟨rfl, hb4⟩
  have HS4 := hide (unhide HSW x4 (((Below.refl _ x2).drew).trans hb4))
  have HB4 := hide (show Below g w x4 from (unhide HB2).1.trans ((((Below.refl _ x2).drew).trans hb4).mono (Nat.le_of_lt (unhide HB2).2)))
  clear hb4
  refine hK.out _ _ (unhide HS4) (fun hS => ?_)
  clear hK K
  refine wpAnyH_takeD 3 (some 7) (.bool false) rfl rfl (by kernel_rfl) (by kernel_rfl) (by kernel_rfl) (fun _ _ _ h => h) (yieldsIf_neQ (by rfl) (.tmp 4) (.tmp 6) rfl r (onlyQ r) rfl rfl _ (unhide HNE)) hS ?_
  simp only [Act.put, List.setIfInBounds_toArray, List.set_cons_zero, List.set_cons_succ]
  refine wpAnyH_done (by kernel_rfl) ?_ _
  have B4 := unhide HS4
  have HPL4 := hide (unhide HPL x4)
  have HB5 := hide (fun W (q : Below x4.heap.size x4 W) => show Blk W g #[.int .i64 9, .int .i64 te, .int .i64 qu, .int .i64 vo, .int .i64 bl, .int .i64 no, .string di, .string wr, .string sa, .string da] 29 from unhide HRL ▸ (unhide HS4).below q (unhide HS4).lt)
  have HRG := hide (show x4.rangeAt g 0 r.cl from blk_range B4)
  have hgl := B4.lt
  clear B4
  go_wp2_with (refine wpList_load_mid rfl 29 (.tmp 1) rfl g 0 rfl r.cl _ (unhide HRG) Tryz.underlying29 rfl size_req ?_)
  refine (unhide HPL4).mono ?_
  rintro e x5 ⟨rfl, hx5⟩
  obtain ⟨d0, d1, d2, d3, d4, d5, d6, d7, d8, d9⟩ := req_cells (unhide HB5 x5 hx5)
  have HX5 := hide (show Below g w x5 from (unhide HB4).trans (hx5.mono (Nat.le_of_lt hgl)))
  clear hx5
  go_wp2_with fail
  refine (unhide HW0 _).mono ?_
  rintro e x ⟨rfl, hx⟩
  subst x
  go_wp2
  go_ret
  exact ⟨rfl, unhide HX5⟩
set_option maxHeartbeats 4000000 in
theorem may_9_1 (te qu vo bl no : Int) (di wr sa da : ByteArray) (r : Req) (hr : r = ⟨9, te, qu, vo, bl, no, di, wr, sa, da⟩) (he : eqQ r (onlyQ r) = true) (c0 : decide (0 ≤ no ∧ no ≤ 4294967295) = true) (w : World) : Calls Tryz.prog 53 #[.agg r.cl.toArray] w fun e w' => e = .returned (.bool (((sa.size : Int) == 8))) ∧ Below w.heap.size w w' := by
  have h : 1 ≤ r.kd ∧ r.kd ≤ 12 := by rw [hr]; exact ⟨by show (1 : Int) ≤ 9; decide, by show (9 : Int) ≤ 12; decide⟩
  obtain ⟨g, hg⟩ : ∃ g, w.heap.size = g := ⟨_, rfl⟩
  obtain ⟨x2, hx2⟩ : ∃ Z, w.alloc (.cells r.cl.toArray 29) = Z := ⟨_, rfl⟩
  have B : Blk x2 g r.cl.toArray 29 := by rw [← hx2, ← hg]; exact Blk.new w _ _
  have hb : Below g w x2 := by rw [← hx2, ← hg]; exact (Below.refl _ w).alloc (Nat.le_refl _) _
  have HS0 := hide B
  have HSW := hide (show ∀ W, Below x2.heap.size x2 W → Blk W g r.cl.toArray 29 from fun W hW => B.below hW B.lt)
  have HB2 := hide (And.intro hb B.lt)
  have HON := hide (only_any r h)
  have HNE := hide (show (!eqQ r (onlyQ r)) = false by rw [he]; rfl)
  have HPL := hide (place_any r)
  have HRL := hide (show r.cl.toArray = #[.int .i64 9, .int .i64 te, .int .i64 qu, .int .i64 vo, .int .i64 bl, .int .i64 no, .string di, .string wr, .string sa, .string da] by rw [hr]; rfl)
  have HPV := hide (show placeQ r.vo r.bl = placeQ vo bl by rw [hr])
  have HW0 := hide (within_any no 0 4294967295)
  rw [c0] at HW0
  generalize hRES : ((sa.size : Int) == 8) = RES at *
  generalize placeQ r.vo r.bl = PQ at *
  clear B hb h he hr
  rw [hg]
  go_enter Tryz.func53, Tryz.ntmps53
  go_wp2
  refine wp_region_held_drew (S := fun w' => Blk w' g r.cl.toArray 29) (by kernel_rfl) (unhide HS0) ?_
  intro hS
  refine wpAnyH_takeD 0 (some 4) (.agg r.cl.toArray) rfl rfl (by kernel_rfl) (by kernel_rfl) (by kernel_rfl) (fun _ _ _ h => h) (yieldsIf_load_mid (by rfl) 29 (.tmp 1) rfl g 0 rfl _ _ (fun w hSw => blk_range hSw) Tryz.underlying29 rfl size_req) hS ?_
  simp only [Act.put, List.setIfInBounds_toArray, List.set_cons_zero, List.set_cons_succ]
  refine wpAnyH_takeD 1 (some 5) (.agg r.cl.toArray) rfl rfl (by kernel_rfl) (by kernel_rfl) (by kernel_rfl) (fun _ _ _ h => h) (yieldsIf_load_mid (by rfl) 29 (.tmp 1) rfl g 0 rfl _ _ (fun w hSw => blk_range hSw) Tryz.underlying29 rfl size_req) hS ?_
  simp only [Act.put, List.setIfInBounds_toArray, List.set_cons_zero, List.set_cons_succ]
  refine wpAnyH_ready (rs := [2]) (by kernel_rfl) (by simp) ?_
  refine AllReadyH.cons rfl (fun K hK => ?_) AllReadyH.nil
  simp only [List.getElem_toArray, List.getElem_cons_succ, List.getElem_cons_zero]
  go_simp
  refine (unhide HON _).mono ?_
  rintro e x4 ⟨rfl, hb4⟩
  have HS4 := hide (unhide HSW x4 (((Below.refl _ x2).drew).trans hb4))
  have HB4 := hide (show Below g w x4 from (unhide HB2).1.trans ((((Below.refl _ x2).drew).trans hb4).mono (Nat.le_of_lt (unhide HB2).2)))
  clear hb4
  refine hK.out _ _ (unhide HS4) (fun hS => ?_)
  clear hK K
  refine wpAnyH_takeD 3 (some 7) (.bool false) rfl rfl (by kernel_rfl) (by kernel_rfl) (by kernel_rfl) (fun _ _ _ h => h) (yieldsIf_neQ (by rfl) (.tmp 4) (.tmp 6) rfl r (onlyQ r) rfl rfl _ (unhide HNE)) hS ?_
  simp only [Act.put, List.setIfInBounds_toArray, List.set_cons_zero, List.set_cons_succ]
  refine wpAnyH_done (by kernel_rfl) ?_ _
  have B4 := unhide HS4
  have HPL4 := hide (unhide HPL x4)
  have HB5 := hide (fun W (q : Below x4.heap.size x4 W) => show Blk W g #[.int .i64 9, .int .i64 te, .int .i64 qu, .int .i64 vo, .int .i64 bl, .int .i64 no, .string di, .string wr, .string sa, .string da] 29 from unhide HRL ▸ (unhide HS4).below q (unhide HS4).lt)
  have HRG := hide (show x4.rangeAt g 0 r.cl from blk_range B4)
  have hgl := B4.lt
  clear B4
  go_wp2_with (refine wpList_load_mid rfl 29 (.tmp 1) rfl g 0 rfl r.cl _ (unhide HRG) Tryz.underlying29 rfl size_req ?_)
  refine (unhide HPL4).mono ?_
  rintro e x5 ⟨rfl, hx5⟩
  obtain ⟨d0, d1, d2, d3, d4, d5, d6, d7, d8, d9⟩ := req_cells (unhide HB5 x5 hx5)
  have HX5 := hide (show Below g w x5 from (unhide HB4).trans (hx5.mono (Nat.le_of_lt hgl)))
  clear hx5
  go_wp2_with fail
  refine (unhide HW0 _).mono ?_
  rintro e x ⟨rfl, hx⟩
  subst x
  go_wp2
  go_ret
  exact ⟨rfl, unhide HX5⟩
set_option maxHeartbeats 4000000 in
theorem may_10_0 (te qu vo bl no : Int) (di wr sa da : ByteArray) (r : Req) (hr : r = ⟨10, te, qu, vo, bl, no, di, wr, sa, da⟩) (he : eqQ r (onlyQ r) = true) (c0 : placeQ vo bl = false) (w : World) : Calls Tryz.prog 53 #[.agg r.cl.toArray] w fun e w' => e = .returned (.bool (false)) ∧ Below w.heap.size w w' := by
  have h : 1 ≤ r.kd ∧ r.kd ≤ 12 := by rw [hr]; exact ⟨by show (1 : Int) ≤ 10; decide, by show (10 : Int) ≤ 12; decide⟩
  obtain ⟨g, hg⟩ : ∃ g, w.heap.size = g := ⟨_, rfl⟩
  obtain ⟨x2, hx2⟩ : ∃ Z, w.alloc (.cells r.cl.toArray 29) = Z := ⟨_, rfl⟩
  have B : Blk x2 g r.cl.toArray 29 := by rw [← hx2, ← hg]; exact Blk.new w _ _
  have hb : Below g w x2 := by rw [← hx2, ← hg]; exact (Below.refl _ w).alloc (Nat.le_refl _) _
  have HS0 := hide B
  have HSW := hide (show ∀ W, Below x2.heap.size x2 W → Blk W g r.cl.toArray 29 from fun W hW => B.below hW B.lt)
  have HB2 := hide (And.intro hb B.lt)
  have HON := hide (only_any r h)
  have HNE := hide (show (!eqQ r (onlyQ r)) = false by rw [he]; rfl)
  have HPL := hide (place_any r)
  have HRL := hide (show r.cl.toArray = #[.int .i64 10, .int .i64 te, .int .i64 qu, .int .i64 vo, .int .i64 bl, .int .i64 no, .string di, .string wr, .string sa, .string da] by rw [hr]; rfl)
  have HPV := hide (show placeQ r.vo r.bl = placeQ vo bl by rw [hr])
  rw [unhide HPV] at HPL
  rw [c0] at HPL
  clear B hb h he hr
  rw [hg]
  go_enter Tryz.func53, Tryz.ntmps53
  go_wp2
  refine wp_region_held_drew (S := fun w' => Blk w' g r.cl.toArray 29) (by kernel_rfl) (unhide HS0) ?_
  intro hS
  refine wpAnyH_takeD 0 (some 4) (.agg r.cl.toArray) rfl rfl (by kernel_rfl) (by kernel_rfl) (by kernel_rfl) (fun _ _ _ h => h) (yieldsIf_load_mid (by rfl) 29 (.tmp 1) rfl g 0 rfl _ _ (fun w hSw => blk_range hSw) Tryz.underlying29 rfl size_req) hS ?_
  simp only [Act.put, List.setIfInBounds_toArray, List.set_cons_zero, List.set_cons_succ]
  refine wpAnyH_takeD 1 (some 5) (.agg r.cl.toArray) rfl rfl (by kernel_rfl) (by kernel_rfl) (by kernel_rfl) (fun _ _ _ h => h) (yieldsIf_load_mid (by rfl) 29 (.tmp 1) rfl g 0 rfl _ _ (fun w hSw => blk_range hSw) Tryz.underlying29 rfl size_req) hS ?_
  simp only [Act.put, List.setIfInBounds_toArray, List.set_cons_zero, List.set_cons_succ]
  refine wpAnyH_ready (rs := [2]) (by kernel_rfl) (by simp) ?_
  refine AllReadyH.cons rfl (fun K hK => ?_) AllReadyH.nil
  simp only [List.getElem_toArray, List.getElem_cons_succ, List.getElem_cons_zero]
  go_simp
  refine (unhide HON _).mono ?_
  rintro e x4 ⟨rfl, hb4⟩
  have HS4 := hide (unhide HSW x4 (((Below.refl _ x2).drew).trans hb4))
  have HB4 := hide (show Below g w x4 from (unhide HB2).1.trans ((((Below.refl _ x2).drew).trans hb4).mono (Nat.le_of_lt (unhide HB2).2)))
  clear hb4
  refine hK.out _ _ (unhide HS4) (fun hS => ?_)
  clear hK K
  refine wpAnyH_takeD 3 (some 7) (.bool false) rfl rfl (by kernel_rfl) (by kernel_rfl) (by kernel_rfl) (fun _ _ _ h => h) (yieldsIf_neQ (by rfl) (.tmp 4) (.tmp 6) rfl r (onlyQ r) rfl rfl _ (unhide HNE)) hS ?_
  simp only [Act.put, List.setIfInBounds_toArray, List.set_cons_zero, List.set_cons_succ]
  refine wpAnyH_done (by kernel_rfl) ?_ _
  have B4 := unhide HS4
  have HPL4 := hide (unhide HPL x4)
  have HB5 := hide (fun W (q : Below x4.heap.size x4 W) => show Blk W g #[.int .i64 10, .int .i64 te, .int .i64 qu, .int .i64 vo, .int .i64 bl, .int .i64 no, .string di, .string wr, .string sa, .string da] 29 from unhide HRL ▸ (unhide HS4).below q (unhide HS4).lt)
  have HRG := hide (show x4.rangeAt g 0 r.cl from blk_range B4)
  have hgl := B4.lt
  clear B4
  go_wp2_with (refine wpList_load_mid rfl 29 (.tmp 1) rfl g 0 rfl r.cl _ (unhide HRG) Tryz.underlying29 rfl size_req ?_)
  refine (unhide HPL4).mono ?_
  rintro e x5 ⟨rfl, hx5⟩
  obtain ⟨d0, d1, d2, d3, d4, d5, d6, d7, d8, d9⟩ := req_cells (unhide HB5 x5 hx5)
  have HX5 := hide (show Below g w x5 from (unhide HB4).trans (hx5.mono (Nat.le_of_lt hgl)))
  clear hx5
  go_wp2
  go_ret
  exact ⟨rfl, unhide HX5⟩
set_option maxHeartbeats 4000000 in
theorem may_10_1 (te qu vo bl no : Int) (di wr sa da : ByteArray) (r : Req) (hr : r = ⟨10, te, qu, vo, bl, no, di, wr, sa, da⟩) (he : eqQ r (onlyQ r) = true) (c0 : placeQ vo bl = true) (c1 : ((wr.size : Int) == 48) = false) (w : World) : Calls Tryz.prog 53 #[.agg r.cl.toArray] w fun e w' => e = .returned (.bool (false)) ∧ Below w.heap.size w w' := by
  have h : 1 ≤ r.kd ∧ r.kd ≤ 12 := by rw [hr]; exact ⟨by show (1 : Int) ≤ 10; decide, by show (10 : Int) ≤ 12; decide⟩
  obtain ⟨g, hg⟩ : ∃ g, w.heap.size = g := ⟨_, rfl⟩
  obtain ⟨x2, hx2⟩ : ∃ Z, w.alloc (.cells r.cl.toArray 29) = Z := ⟨_, rfl⟩
  have B : Blk x2 g r.cl.toArray 29 := by rw [← hx2, ← hg]; exact Blk.new w _ _
  have hb : Below g w x2 := by rw [← hx2, ← hg]; exact (Below.refl _ w).alloc (Nat.le_refl _) _
  have HS0 := hide B
  have HSW := hide (show ∀ W, Below x2.heap.size x2 W → Blk W g r.cl.toArray 29 from fun W hW => B.below hW B.lt)
  have HB2 := hide (And.intro hb B.lt)
  have HON := hide (only_any r h)
  have HNE := hide (show (!eqQ r (onlyQ r)) = false by rw [he]; rfl)
  have HPL := hide (place_any r)
  have HRL := hide (show r.cl.toArray = #[.int .i64 10, .int .i64 te, .int .i64 qu, .int .i64 vo, .int .i64 bl, .int .i64 no, .string di, .string wr, .string sa, .string da] by rw [hr]; rfl)
  have HPV := hide (show placeQ r.vo r.bl = placeQ vo bl by rw [hr])
  rw [unhide HPV] at HPL
  rw [c0] at HPL
  clear B hb h he hr
  rw [hg]
  go_enter Tryz.func53, Tryz.ntmps53
  go_wp2
  refine wp_region_held_drew (S := fun w' => Blk w' g r.cl.toArray 29) (by kernel_rfl) (unhide HS0) ?_
  intro hS
  refine wpAnyH_takeD 0 (some 4) (.agg r.cl.toArray) rfl rfl (by kernel_rfl) (by kernel_rfl) (by kernel_rfl) (fun _ _ _ h => h) (yieldsIf_load_mid (by rfl) 29 (.tmp 1) rfl g 0 rfl _ _ (fun w hSw => blk_range hSw) Tryz.underlying29 rfl size_req) hS ?_
  simp only [Act.put, List.setIfInBounds_toArray, List.set_cons_zero, List.set_cons_succ]
  refine wpAnyH_takeD 1 (some 5) (.agg r.cl.toArray) rfl rfl (by kernel_rfl) (by kernel_rfl) (by kernel_rfl) (fun _ _ _ h => h) (yieldsIf_load_mid (by rfl) 29 (.tmp 1) rfl g 0 rfl _ _ (fun w hSw => blk_range hSw) Tryz.underlying29 rfl size_req) hS ?_
  simp only [Act.put, List.setIfInBounds_toArray, List.set_cons_zero, List.set_cons_succ]
  refine wpAnyH_ready (rs := [2]) (by kernel_rfl) (by simp) ?_
  refine AllReadyH.cons rfl (fun K hK => ?_) AllReadyH.nil
  simp only [List.getElem_toArray, List.getElem_cons_succ, List.getElem_cons_zero]
  go_simp
  refine (unhide HON _).mono ?_
  rintro e x4 ⟨rfl, hb4⟩
  have HS4 := hide (unhide HSW x4 (((Below.refl _ x2).drew).trans hb4))
  have HB4 := hide (show Below g w x4 from (unhide HB2).1.trans ((((Below.refl _ x2).drew).trans hb4).mono (Nat.le_of_lt (unhide HB2).2)))
  clear hb4
  refine hK.out _ _ (unhide HS4) (fun hS => ?_)
  clear hK K
  refine wpAnyH_takeD 3 (some 7) (.bool false) rfl rfl (by kernel_rfl) (by kernel_rfl) (by kernel_rfl) (fun _ _ _ h => h) (yieldsIf_neQ (by rfl) (.tmp 4) (.tmp 6) rfl r (onlyQ r) rfl rfl _ (unhide HNE)) hS ?_
  simp only [Act.put, List.setIfInBounds_toArray, List.set_cons_zero, List.set_cons_succ]
  refine wpAnyH_done (by kernel_rfl) ?_ _
  have B4 := unhide HS4
  have HPL4 := hide (unhide HPL x4)
  have HB5 := hide (fun W (q : Below x4.heap.size x4 W) => show Blk W g #[.int .i64 10, .int .i64 te, .int .i64 qu, .int .i64 vo, .int .i64 bl, .int .i64 no, .string di, .string wr, .string sa, .string da] 29 from unhide HRL ▸ (unhide HS4).below q (unhide HS4).lt)
  have HRG := hide (show x4.rangeAt g 0 r.cl from blk_range B4)
  have hgl := B4.lt
  clear B4
  go_wp2_with (refine wpList_load_mid rfl 29 (.tmp 1) rfl g 0 rfl r.cl _ (unhide HRG) Tryz.underlying29 rfl size_req ?_)
  refine (unhide HPL4).mono ?_
  rintro e x5 ⟨rfl, hx5⟩
  obtain ⟨d0, d1, d2, d3, d4, d5, d6, d7, d8, d9⟩ := req_cells (unhide HB5 x5 hx5)
  have HX5 := hide (show Below g w x5 from (unhide HB4).trans (hx5.mono (Nat.le_of_lt hgl)))
  clear hx5
  go_wp2
  go_ret
  exact ⟨rfl, unhide HX5⟩
set_option maxHeartbeats 4000000 in
theorem may_10_2 (te qu vo bl no : Int) (di wr sa da : ByteArray) (r : Req) (hr : r = ⟨10, te, qu, vo, bl, no, di, wr, sa, da⟩) (he : eqQ r (onlyQ r) = true) (c0 : placeQ vo bl = true) (c1 : ((wr.size : Int) == 48) = true) (w : World) : Calls Tryz.prog 53 #[.agg r.cl.toArray] w fun e w' => e = .returned (.bool (((da.size : Int) == 256))) ∧ Below w.heap.size w w' := by
  have h : 1 ≤ r.kd ∧ r.kd ≤ 12 := by rw [hr]; exact ⟨by show (1 : Int) ≤ 10; decide, by show (10 : Int) ≤ 12; decide⟩
  obtain ⟨g, hg⟩ : ∃ g, w.heap.size = g := ⟨_, rfl⟩
  obtain ⟨x2, hx2⟩ : ∃ Z, w.alloc (.cells r.cl.toArray 29) = Z := ⟨_, rfl⟩
  have B : Blk x2 g r.cl.toArray 29 := by rw [← hx2, ← hg]; exact Blk.new w _ _
  have hb : Below g w x2 := by rw [← hx2, ← hg]; exact (Below.refl _ w).alloc (Nat.le_refl _) _
  have HS0 := hide B
  have HSW := hide (show ∀ W, Below x2.heap.size x2 W → Blk W g r.cl.toArray 29 from fun W hW => B.below hW B.lt)
  have HB2 := hide (And.intro hb B.lt)
  have HON := hide (only_any r h)
  have HNE := hide (show (!eqQ r (onlyQ r)) = false by rw [he]; rfl)
  have HPL := hide (place_any r)
  have HRL := hide (show r.cl.toArray = #[.int .i64 10, .int .i64 te, .int .i64 qu, .int .i64 vo, .int .i64 bl, .int .i64 no, .string di, .string wr, .string sa, .string da] by rw [hr]; rfl)
  have HPV := hide (show placeQ r.vo r.bl = placeQ vo bl by rw [hr])
  rw [unhide HPV] at HPL
  rw [c0] at HPL
  generalize hRES : ((da.size : Int) == 256) = RES at *
  clear B hb h he hr
  rw [hg]
  go_enter Tryz.func53, Tryz.ntmps53
  go_wp2
  refine wp_region_held_drew (S := fun w' => Blk w' g r.cl.toArray 29) (by kernel_rfl) (unhide HS0) ?_
  intro hS
  refine wpAnyH_takeD 0 (some 4) (.agg r.cl.toArray) rfl rfl (by kernel_rfl) (by kernel_rfl) (by kernel_rfl) (fun _ _ _ h => h) (yieldsIf_load_mid (by rfl) 29 (.tmp 1) rfl g 0 rfl _ _ (fun w hSw => blk_range hSw) Tryz.underlying29 rfl size_req) hS ?_
  simp only [Act.put, List.setIfInBounds_toArray, List.set_cons_zero, List.set_cons_succ]
  refine wpAnyH_takeD 1 (some 5) (.agg r.cl.toArray) rfl rfl (by kernel_rfl) (by kernel_rfl) (by kernel_rfl) (fun _ _ _ h => h) (yieldsIf_load_mid (by rfl) 29 (.tmp 1) rfl g 0 rfl _ _ (fun w hSw => blk_range hSw) Tryz.underlying29 rfl size_req) hS ?_
  simp only [Act.put, List.setIfInBounds_toArray, List.set_cons_zero, List.set_cons_succ]
  refine wpAnyH_ready (rs := [2]) (by kernel_rfl) (by simp) ?_
  refine AllReadyH.cons rfl (fun K hK => ?_) AllReadyH.nil
  simp only [List.getElem_toArray, List.getElem_cons_succ, List.getElem_cons_zero]
  go_simp
  refine (unhide HON _).mono ?_
  rintro e x4 ⟨rfl, hb4⟩
  have HS4 := hide (unhide HSW x4 (((Below.refl _ x2).drew).trans hb4))
  have HB4 := hide (show Below g w x4 from (unhide HB2).1.trans ((((Below.refl _ x2).drew).trans hb4).mono (Nat.le_of_lt (unhide HB2).2)))
  clear hb4
  refine hK.out _ _ (unhide HS4) (fun hS => ?_)
  clear hK K
  refine wpAnyH_takeD 3 (some 7) (.bool false) rfl rfl (by kernel_rfl) (by kernel_rfl) (by kernel_rfl) (fun _ _ _ h => h) (yieldsIf_neQ (by rfl) (.tmp 4) (.tmp 6) rfl r (onlyQ r) rfl rfl _ (unhide HNE)) hS ?_
  simp only [Act.put, List.setIfInBounds_toArray, List.set_cons_zero, List.set_cons_succ]
  refine wpAnyH_done (by kernel_rfl) ?_ _
  have B4 := unhide HS4
  have HPL4 := hide (unhide HPL x4)
  have HB5 := hide (fun W (q : Below x4.heap.size x4 W) => show Blk W g #[.int .i64 10, .int .i64 te, .int .i64 qu, .int .i64 vo, .int .i64 bl, .int .i64 no, .string di, .string wr, .string sa, .string da] 29 from unhide HRL ▸ (unhide HS4).below q (unhide HS4).lt)
  have HRG := hide (show x4.rangeAt g 0 r.cl from blk_range B4)
  have hgl := B4.lt
  clear B4
  go_wp2_with (refine wpList_load_mid rfl 29 (.tmp 1) rfl g 0 rfl r.cl _ (unhide HRG) Tryz.underlying29 rfl size_req ?_)
  refine (unhide HPL4).mono ?_
  rintro e x5 ⟨rfl, hx5⟩
  obtain ⟨d0, d1, d2, d3, d4, d5, d6, d7, d8, d9⟩ := req_cells (unhide HB5 x5 hx5)
  have HX5 := hide (show Below g w x5 from (unhide HB4).trans (hx5.mono (Nat.le_of_lt hgl)))
  clear hx5
  go_wp2
  go_ret
  exact ⟨rfl, unhide HX5⟩
set_option maxHeartbeats 4000000 in
theorem may_11_0 (te qu vo bl no : Int) (di wr sa da : ByteArray) (r : Req) (hr : r = ⟨11, te, qu, vo, bl, no, di, wr, sa, da⟩) (he : eqQ r (onlyQ r) = true) (w : World) : Calls Tryz.prog 53 #[.agg r.cl.toArray] w fun e w' => e = .returned (.bool (placeQ vo bl)) ∧ Below w.heap.size w w' := by
  have h : 1 ≤ r.kd ∧ r.kd ≤ 12 := by rw [hr]; exact ⟨by show (1 : Int) ≤ 11; decide, by show (11 : Int) ≤ 12; decide⟩
  obtain ⟨g, hg⟩ : ∃ g, w.heap.size = g := ⟨_, rfl⟩
  obtain ⟨x2, hx2⟩ : ∃ Z, w.alloc (.cells r.cl.toArray 29) = Z := ⟨_, rfl⟩
  have B : Blk x2 g r.cl.toArray 29 := by rw [← hx2, ← hg]; exact Blk.new w _ _
  have hb : Below g w x2 := by rw [← hx2, ← hg]; exact (Below.refl _ w).alloc (Nat.le_refl _) _
  have HS0 := hide B
  have HSW := hide (show ∀ W, Below x2.heap.size x2 W → Blk W g r.cl.toArray 29 from fun W hW => B.below hW B.lt)
  have HB2 := hide (And.intro hb B.lt)
  have HON := hide (only_any r h)
  have HNE := hide (show (!eqQ r (onlyQ r)) = false by rw [he]; rfl)
  have HPL := hide (place_any r)
  have HRL := hide (show r.cl.toArray = #[.int .i64 11, .int .i64 te, .int .i64 qu, .int .i64 vo, .int .i64 bl, .int .i64 no, .string di, .string wr, .string sa, .string da] by rw [hr]; rfl)
  have HPV := hide (show placeQ r.vo r.bl = placeQ vo bl by rw [hr])
  rw [unhide HPV] at HPL
  generalize placeQ vo bl = RES at *
  clear B hb h he hr
  rw [hg]
  go_enter Tryz.func53, Tryz.ntmps53
  go_wp2
  refine wp_region_held_drew (S := fun w' => Blk w' g r.cl.toArray 29) (by kernel_rfl) (unhide HS0) ?_
  intro hS
  refine wpAnyH_takeD 0 (some 4) (.agg r.cl.toArray) rfl rfl (by kernel_rfl) (by kernel_rfl) (by kernel_rfl) (fun _ _ _ h => h) (yieldsIf_load_mid (by rfl) 29 (.tmp 1) rfl g 0 rfl _ _ (fun w hSw => blk_range hSw) Tryz.underlying29 rfl size_req) hS ?_
  simp only [Act.put, List.setIfInBounds_toArray, List.set_cons_zero, List.set_cons_succ]
  refine wpAnyH_takeD 1 (some 5) (.agg r.cl.toArray) rfl rfl (by kernel_rfl) (by kernel_rfl) (by kernel_rfl) (fun _ _ _ h => h) (yieldsIf_load_mid (by rfl) 29 (.tmp 1) rfl g 0 rfl _ _ (fun w hSw => blk_range hSw) Tryz.underlying29 rfl size_req) hS ?_
  simp only [Act.put, List.setIfInBounds_toArray, List.set_cons_zero, List.set_cons_succ]
  refine wpAnyH_ready (rs := [2]) (by kernel_rfl) (by simp) ?_
  refine AllReadyH.cons rfl (fun K hK => ?_) AllReadyH.nil
  simp only [List.getElem_toArray, List.getElem_cons_succ, List.getElem_cons_zero]
  go_simp
  refine (unhide HON _).mono ?_
  rintro e x4 ⟨rfl, hb4⟩
  have HS4 := hide (unhide HSW x4 (((Below.refl _ x2).drew).trans hb4))
  have HB4 := hide (show Below g w x4 from (unhide HB2).1.trans ((((Below.refl _ x2).drew).trans hb4).mono (Nat.le_of_lt (unhide HB2).2)))
  clear hb4
  refine hK.out _ _ (unhide HS4) (fun hS => ?_)
  clear hK K
  refine wpAnyH_takeD 3 (some 7) (.bool false) rfl rfl (by kernel_rfl) (by kernel_rfl) (by kernel_rfl) (fun _ _ _ h => h) (yieldsIf_neQ (by rfl) (.tmp 4) (.tmp 6) rfl r (onlyQ r) rfl rfl _ (unhide HNE)) hS ?_
  simp only [Act.put, List.setIfInBounds_toArray, List.set_cons_zero, List.set_cons_succ]
  refine wpAnyH_done (by kernel_rfl) ?_ _
  have B4 := unhide HS4
  have HPL4 := hide (unhide HPL x4)
  have HB5 := hide (fun W (q : Below x4.heap.size x4 W) => show Blk W g #[.int .i64 11, .int .i64 te, .int .i64 qu, .int .i64 vo, .int .i64 bl, .int .i64 no, .string di, .string wr, .string sa, .string da] 29 from unhide HRL ▸ (unhide HS4).below q (unhide HS4).lt)
  have HRG := hide (show x4.rangeAt g 0 r.cl from blk_range B4)
  have hgl := B4.lt
  clear B4
  go_wp2_with (refine wpList_load_mid rfl 29 (.tmp 1) rfl g 0 rfl r.cl _ (unhide HRG) Tryz.underlying29 rfl size_req ?_)
  refine (unhide HPL4).mono ?_
  rintro e x5 ⟨rfl, hx5⟩
  obtain ⟨d0, d1, d2, d3, d4, d5, d6, d7, d8, d9⟩ := req_cells (unhide HB5 x5 hx5)
  have HX5 := hide (show Below g w x5 from (unhide HB4).trans (hx5.mono (Nat.le_of_lt hgl)))
  clear hx5
  go_wp2
  go_ret
  exact ⟨rfl, unhide HX5⟩
set_option maxHeartbeats 4000000 in
theorem may_12_0 (te qu vo bl no : Int) (di wr sa da : ByteArray) (r : Req) (hr : r = ⟨12, te, qu, vo, bl, no, di, wr, sa, da⟩) (he : eqQ r (onlyQ r) = true) (w : World) : Calls Tryz.prog 53 #[.agg r.cl.toArray] w fun e w' => e = .returned (.bool (placeQ vo bl)) ∧ Below w.heap.size w w' := by
  have h : 1 ≤ r.kd ∧ r.kd ≤ 12 := by rw [hr]; exact ⟨by show (1 : Int) ≤ 12; decide, by show (12 : Int) ≤ 12; decide⟩
  obtain ⟨g, hg⟩ : ∃ g, w.heap.size = g := ⟨_, rfl⟩
  obtain ⟨x2, hx2⟩ : ∃ Z, w.alloc (.cells r.cl.toArray 29) = Z := ⟨_, rfl⟩
  have B : Blk x2 g r.cl.toArray 29 := by rw [← hx2, ← hg]; exact Blk.new w _ _
  have hb : Below g w x2 := by rw [← hx2, ← hg]; exact (Below.refl _ w).alloc (Nat.le_refl _) _
  have HS0 := hide B
  have HSW := hide (show ∀ W, Below x2.heap.size x2 W → Blk W g r.cl.toArray 29 from fun W hW => B.below hW B.lt)
  have HB2 := hide (And.intro hb B.lt)
  have HON := hide (only_any r h)
  have HNE := hide (show (!eqQ r (onlyQ r)) = false by rw [he]; rfl)
  have HPL := hide (place_any r)
  have HRL := hide (show r.cl.toArray = #[.int .i64 12, .int .i64 te, .int .i64 qu, .int .i64 vo, .int .i64 bl, .int .i64 no, .string di, .string wr, .string sa, .string da] by rw [hr]; rfl)
  have HPV := hide (show placeQ r.vo r.bl = placeQ vo bl by rw [hr])
  rw [unhide HPV] at HPL
  generalize placeQ vo bl = RES at *
  clear B hb h he hr
  rw [hg]
  go_enter Tryz.func53, Tryz.ntmps53
  go_wp2
  refine wp_region_held_drew (S := fun w' => Blk w' g r.cl.toArray 29) (by kernel_rfl) (unhide HS0) ?_
  intro hS
  refine wpAnyH_takeD 0 (some 4) (.agg r.cl.toArray) rfl rfl (by kernel_rfl) (by kernel_rfl) (by kernel_rfl) (fun _ _ _ h => h) (yieldsIf_load_mid (by rfl) 29 (.tmp 1) rfl g 0 rfl _ _ (fun w hSw => blk_range hSw) Tryz.underlying29 rfl size_req) hS ?_
  simp only [Act.put, List.setIfInBounds_toArray, List.set_cons_zero, List.set_cons_succ]
  refine wpAnyH_takeD 1 (some 5) (.agg r.cl.toArray) rfl rfl (by kernel_rfl) (by kernel_rfl) (by kernel_rfl) (fun _ _ _ h => h) (yieldsIf_load_mid (by rfl) 29 (.tmp 1) rfl g 0 rfl _ _ (fun w hSw => blk_range hSw) Tryz.underlying29 rfl size_req) hS ?_
  simp only [Act.put, List.setIfInBounds_toArray, List.set_cons_zero, List.set_cons_succ]
  refine wpAnyH_ready (rs := [2]) (by kernel_rfl) (by simp) ?_
  refine AllReadyH.cons rfl (fun K hK => ?_) AllReadyH.nil
  simp only [List.getElem_toArray, List.getElem_cons_succ, List.getElem_cons_zero]
  go_simp
  refine (unhide HON _).mono ?_
  rintro e x4 ⟨rfl, hb4⟩
  have HS4 := hide (unhide HSW x4 (((Below.refl _ x2).drew).trans hb4))
  have HB4 := hide (show Below g w x4 from (unhide HB2).1.trans ((((Below.refl _ x2).drew).trans hb4).mono (Nat.le_of_lt (unhide HB2).2)))
  clear hb4
  refine hK.out _ _ (unhide HS4) (fun hS => ?_)
  clear hK K
  refine wpAnyH_takeD 3 (some 7) (.bool false) rfl rfl (by kernel_rfl) (by kernel_rfl) (by kernel_rfl) (fun _ _ _ h => h) (yieldsIf_neQ (by rfl) (.tmp 4) (.tmp 6) rfl r (onlyQ r) rfl rfl _ (unhide HNE)) hS ?_
  simp only [Act.put, List.setIfInBounds_toArray, List.set_cons_zero, List.set_cons_succ]
  refine wpAnyH_done (by kernel_rfl) ?_ _
  have B4 := unhide HS4
  have HPL4 := hide (unhide HPL x4)
  have HB5 := hide (fun W (q : Below x4.heap.size x4 W) => show Blk W g #[.int .i64 12, .int .i64 te, .int .i64 qu, .int .i64 vo, .int .i64 bl, .int .i64 no, .string di, .string wr, .string sa, .string da] 29 from unhide HRL ▸ (unhide HS4).below q (unhide HS4).lt)
  have HRG := hide (show x4.rangeAt g 0 r.cl from blk_range B4)
  have hgl := B4.lt
  clear B4
  go_wp2_with (refine wpList_load_mid rfl 29 (.tmp 1) rfl g 0 rfl r.cl _ (unhide HRG) Tryz.underlying29 rfl size_req ?_)
  refine (unhide HPL4).mono ?_
  rintro e x5 ⟨rfl, hx5⟩
  obtain ⟨d0, d1, d2, d3, d4, d5, d6, d7, d8, d9⟩ := req_cells (unhide HB5 x5 hx5)
  have HX5 := hide (show Below g w x5 from (unhide HB4).trans (hx5.mono (Nat.le_of_lt hgl)))
  clear hx5
  go_wp2
  go_ret
  exact ⟨rfl, unhide HX5⟩
/-- may a request be? -/
def mayQ (r : Req) : Bool := eqQ r (onlyQ r) && condQ r
theorem may_any (r : Req) (h : 1 ≤ r.kd ∧ r.kd ≤ 12) (w : World) : Calls Tryz.prog 53 #[.agg r.cl.toArray] w fun e w' => e = .returned (.bool (mayQ r)) ∧ Below w.heap.size w w' := by
  unfold mayQ
  cases he : eqQ r (onlyQ r) with
  | false => exact may_no r h he w
  | true =>
    rw [Bool.true_and]
    obtain ⟨kd, te, qu, vo, bl, no, di, wr, sa, da⟩ := r
    rcases kinds12 h with rfl | rfl | rfl | rfl | rfl | rfl | rfl | rfl | rfl | rfl | rfl | rfl
    · show Calls Tryz.prog 53 _ w fun e w' => e = .returned (.bool (decide (1 ≤ te ∧ te ≤ 8) && decide (0 ≤ qu ∧ qu ≤ 65535))) ∧ Below w.heap.size w w'
      cases c0 : decide (1 ≤ te ∧ te ≤ 8) with
      | false => exact may_1_0 te qu vo bl no di wr sa da _ rfl he c0 w
      | true =>
        exact may_1_1 te qu vo bl no di wr sa da _ rfl he c0 w
    · show Calls Tryz.prog 53 _ w fun e w' => e = .returned (.bool (decide (1 ≤ te ∧ te ≤ 8))) ∧ Below w.heap.size w w'
      exact may_2_0 te qu vo bl no di wr sa da _ rfl he w
    · show Calls Tryz.prog 53 _ w fun e w' => e = .returned (.bool (decide (1 ≤ te ∧ te ≤ 8))) ∧ Below w.heap.size w w'
      exact may_3_0 te qu vo bl no di wr sa da _ rfl he w
    · show Calls Tryz.prog 53 _ w fun e w' => e = .returned (.bool (decide (1 ≤ vo ∧ vo ≤ 99))) ∧ Below w.heap.size w w'
      exact may_4_0 te qu vo bl no di wr sa da _ rfl he w
    · show Calls Tryz.prog 53 _ w fun e w' => e = .returned (.bool (decide (1 ≤ vo ∧ vo ≤ 99))) ∧ Below w.heap.size w w'
      exact may_5_0 te qu vo bl no di wr sa da _ rfl he w
    · show Calls Tryz.prog 53 _ w fun e w' => e = .returned (.bool (true)) ∧ Below w.heap.size w w'
      exact may_6_0 te qu vo bl no di wr sa da _ rfl he w
    · show Calls Tryz.prog 53 _ w fun e w' => e = .returned (.bool (true)) ∧ Below w.heap.size w w'
      exact may_7_0 te qu vo bl no di wr sa da _ rfl he w
    · show Calls Tryz.prog 53 _ w fun e w' => e = .returned (.bool (placeQ vo bl && ((di.size : Int) == 32) && ((wr.size : Int) == 48))) ∧ Below w.heap.size w w'
      cases c0 : placeQ vo bl with
      | false => exact may_8_0 te qu vo bl no di wr sa da _ rfl he c0 w
      | true =>
        cases c1 : ((di.size : Int) == 32) with
        | false => exact may_8_1 te qu vo bl no di wr sa da _ rfl he c0 c1 w
        | true =>
          exact may_8_2 te qu vo bl no di wr sa da _ rfl he c0 c1 w
    · show Calls Tryz.prog 53 _ w fun e w' => e = .returned (.bool (decide (0 ≤ no ∧ no ≤ 4294967295) && ((sa.size : Int) == 8))) ∧ Below w.heap.size w w'
      cases c0 : decide (0 ≤ no ∧ no ≤ 4294967295) with
      | false => exact may_9_0 te qu vo bl no di wr sa da _ rfl he c0 w
      | true =>
        exact may_9_1 te qu vo bl no di wr sa da _ rfl he c0 w
    · show Calls Tryz.prog 53 _ w fun e w' => e = .returned (.bool (placeQ vo bl && ((wr.size : Int) == 48) && ((da.size : Int) == 256))) ∧ Below w.heap.size w w'
      cases c0 : placeQ vo bl with
      | false => exact may_10_0 te qu vo bl no di wr sa da _ rfl he c0 w
      | true =>
        cases c1 : ((wr.size : Int) == 48) with
        | false => exact may_10_1 te qu vo bl no di wr sa da _ rfl he c0 c1 w
        | true =>
          exact may_10_2 te qu vo bl no di wr sa da _ rfl he c0 c1 w
    · show Calls Tryz.prog 53 _ w fun e w' => e = .returned (.bool (placeQ vo bl)) ∧ Below w.heap.size w w'
      exact may_11_0 te qu vo bl no di wr sa da _ rfl he w
    · show Calls Tryz.prog 53 _ w fun e w' => e = .returned (.bool (placeQ vo bl)) ∧ Below w.heap.size w w'
      exact may_12_0 te qu vo bl no di wr sa da _ rfl he w
end Go.Proofs.YtclgkgaobjcifaaGreatDoor
