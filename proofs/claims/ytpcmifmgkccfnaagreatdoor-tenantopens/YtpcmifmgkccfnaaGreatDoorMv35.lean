import Derived.Test.YtpcmifmgkccfnaaGreatDoorMv34
namespace Go.Proofs.YtpcmifmgkccfnaaGreatDoor
open Go.RowKit Go.Maps Go.Sort Go.Shelf
set_option maxRecDepth 100000
set_option maxHeartbeats 2000000 in
/-- a sector is laid to the front of nothing, and nothing is kept -/
theorem rlay0 {w : World} {b jb qb : Nat} {m : Int} (hq : Blk w qb #[.pointer (some ⟨b, 0, none⟩), .pointer (some ⟨jb, 0, none⟩), .int .i64 0, .slice none 0 0, .slice none 0 0, .bool false, .bool false, .int .i64 0, .int .i64 m] 81) (i : Int) (s : ByteArray) :
    Calls Tryz.prog 170 #[.pointer (some ⟨qb, 0, none⟩), .agg #[.int .i64 i, .string s]] w fun e w' => e = .returned (.tuple #[]) ∧ Only (fun x => x = qb) w w' := by
  obtain ⟨g1, hg1⟩ : ∃ z, w.heap.size = z := ⟨_, rfl⟩
  obtain ⟨x1, hx1⟩ : ∃ z, w.alloc (.cells #[.int .i64 i, .string s] 111) = z := ⟨_, rfl⟩
  have B1 : Blk x1 g1 #[.int .i64 i, .string s] 111 := by rw [← hx1, ← hg1]; exact Blk.new w _ _
  have a0 : x1.cell? ⟨g1, 0, none⟩ = some (.int .i64 i) := B1.cell 0
  have a1 : x1.cell? ⟨g1, 1, none⟩ = some (.string s) := B1.cell 1
  have q1 : Blk x1 qb #[.pointer (some ⟨b, 0, none⟩), .pointer (some ⟨jb, 0, none⟩), .int .i64 0, .slice none 0 0, .slice none 0 0, .bool false, .bool false, .int .i64 0, .int .i64 m] 81 := by rw [← hx1]; exact hq.alloc _
  obtain ⟨g2, hg2⟩ : ∃ z, x1.heap.size = z := ⟨_, rfl⟩
  obtain ⟨x2, hx2⟩ : ∃ z, x1.alloc (.cells #[.int .i64 i, .string s] 111) = z := ⟨_, rfl⟩
  have q2 : Blk x2 qb #[.pointer (some ⟨b, 0, none⟩), .pointer (some ⟨jb, 0, none⟩), .int .i64 0, .slice none 0 0, .slice none 0 0, .bool false, .bool false, .int .i64 0, .int .i64 m] 81 := by rw [← hx2]; exact q1.alloc _
  have c2 : x2.cell? ⟨qb, 2, none⟩ = some (.int .i64 0) := q2.cell 2
  have c3 : x2.cell? ⟨qb, 3, none⟩ = some (.slice none 0 0) := q2.cell 3
  have f3 : x2.frozen? ⟨qb, 3, none⟩ = false := q2.frozen 3
  have hO : Only (fun x => x = qb) w x2 := by rw [← hx2, ← hx1]; exact ((Only.refl _ w).alloc _).alloc _
  have HO := hide (fun u => hO.setCell ⟨qb, 3, none⟩ u (fun _ => rfl))
  clear hq B1 q1 q2 hO
  go_enter Tryz.func170, Tryz.ntmps170
  go_wp2
  (try rw [hx1])
  (try rw [hx2])
  clear hx1 hx2 hg1 hg2 a0 a1
  go_loopw [4, 5] (fun l k wr => k = .int .i64 0 ∧ l = .slice (some ⟨g2, 0, none⟩) 1 1 ∧ wr = x2) (fun _ _ _ => 0)
  case atStart => exact ⟨rfl, rfl, rfl⟩
  case round =>
    obtain ⟨rfl, rfl, rfl⟩ := hrel
    go_wp2
    go_end0
    exact ⟨rfl, unhide HO _⟩
set_option maxHeartbeats 2000000 in
theorem rpread0 {w : World} {base b jb qb : Nat} {v : RV} {L : List ByteArray} {A : List (Nat × Nat)} (h : Rk w base b v (rs L A)) (hC : Coh (rs L A)) (hL : L.length = 128) (hq : Blk w qb #[.pointer (some ⟨b, 0, none⟩), .pointer (some ⟨jb, 0, none⟩), .int .i64 0, .slice none 0 0, .slice none 0 0, .bool false, .bool false, .int .i64 0, .int .i64 0] 81) (i : Nat) (hi : i < 128) :
    Calls Tryz.prog 130 #[.pointer (some ⟨qb, 0, none⟩), .int .i64 (i : Int)] w fun e w' => e = .returned (.tuple #[.string (L.getD i ByteArray.empty), .int .i64 0]) ∧ Only (fun x => x = qb) w w' := by
  have HSZ := hide (rpsize0 h hL hq)
  have HD := hide (rrd_any w base b v (rs L A) h hC (Nat.zero_le _) (i : Int))
  rw [(read_rs L A i (by omega)).1, (read_rs L A i (by omega)).2] at HD
  have HAT := hide (fun W => rat_nil (i : Int) W)
  have HQ := hide hq
  have c6 : w.cell? ⟨qb, 6, none⟩ = some (.bool false) := hq.cell 6
  have c4 : w.cell? ⟨qb, 4, none⟩ = some (.slice none 0 0) := hq.cell 4
  have c3 : w.cell? ⟨qb, 3, none⟩ = some (.slice none 0 0) := hq.cell 3
  have c0 : w.cell? ⟨qb, 0, none⟩ = some (.pointer (some ⟨b, 0, none⟩)) := hq.cell 0
  have d0 : decide ((i : Int) < 0) = false := decide_eq_false (by omega)
  have d1 : decide ((128 : Int) ≤ (i : Int)) = false := decide_eq_false (by omega)
  obtain ⟨tx, htx⟩ : ∃ z, L.getD i ByteArray.empty = z := ⟨_, rfl⟩
  rw [htx] at HD ⊢
  clear h hC hL hq htx hi
  go_enter Tryz.func130, Tryz.ntmps130
  go_wp2_with (first | (go_at_call 34; refine (unhide HSZ).mono ?_; rintro e w' ⟨rfl, hw'⟩; subst w') | (go_at_call 169; refine (unhide HAT _).mono ?_; rintro e w' ⟨rfl, hw'⟩; subst w'))
  refine (unhide HD).mono ?_
  rintro e x1 ⟨rfl, hb1⟩
  have q1 := (unhide HQ).below hb1 (unhide HQ).lt
  have c8 : x1.cell? ⟨qb, 8, none⟩ = some (.int .i64 0) := q1.cell 8
  have f8 : x1.frozen? ⟨qb, 8, none⟩ = false := q1.frozen 8
  have q2 : Blk (x1.setCell ⟨qb, 8, none⟩ (.int .i64 1)) qb #[.pointer (some ⟨b, 0, none⟩), .pointer (some ⟨jb, 0, none⟩), .int .i64 0, .slice none 0 0, .slice none 0 0, .bool false, .bool false, .int .i64 0, .int .i64 1] 81 := q1.set 8 (.int .i64 1)
  have HLY := hide (rlay0 q2 (i : Int) tx)
  have HO := hide (show Only (fun x => x = qb) w (x1.setCell ⟨qb, 8, none⟩ (.int .i64 1)) from (Only.of_below (P := fun x => x = qb) hb1).setCell _ _ (fun _ => rfl))
  obtain ⟨x2, hx2⟩ : ∃ z, x1.setCell ⟨qb, 8, none⟩ (.int .i64 1) = z := ⟨_, rfl⟩
  rw [hx2] at HLY HO
  clear hb1 q1 q2 HD HSZ HAT HQ c6 c4 c3 c0
  go_wp2_with fail
  refine (unhide HLY).mono ?_
  rintro e x3 ⟨rfl, hO3⟩
  have HF := hide ((unhide HO).trans hO3 (fun _ _ q => q))
  clear hO3 HLY HO
  go_wp2
  go_ret2
  exact ⟨rfl, unhide HF⟩
theorem results_cell3 {fn : Func} {p q r : Tmp} {ty : TypeId} (h : fn.results = #[.cell p ty, .tmp q, .tmp r]) (tmps : Array Value) (P : Program) (w : World) (ad : Addr) (ha : tmps.getD p undef = .pointer (some ad)) (v : Value) (hl : (loadVar ty ad).run P w = .ok v w) :
    (results fn tmps).run P w = .ok (.tuple #[v, tmps.getD q undef, tmps.getD r undef]) w := by
  have ha' : tmps[p]?.getD undef = .pointer (some ad) := by simpa using ha
  simp only [results, h]
  simp [ha', asAddr, hl]
def zTen : Array Value := #[.int .i64 0, .int .i64 0, .int .i64 0, .slice none 0 0]
theorem zTen_size : zTen.size = 4 := rfl
theorem zTen_one : zTen.all (·.oneCell') = true := by kernel_rfl
theorem zTen_arr : zTen.toList.toArray = zTen := by simp
theorem sizeTen : (Tryz.prog.info? 50).map (·.size) = some 4 := by kernel_rfl
set_option maxHeartbeats 4000000 in
theorem rtread_bad {w : World} {base b jb qb tb : Nat} {v : RV} {L : List ByteArray} {A : List (Nat × Nat)} (h : Rk w base b v (rs L A)) (hC : Coh (rs L A)) (hL : L.length = 128) (hq : Blk w qb #[.pointer (some ⟨b, 0, none⟩), .pointer (some ⟨jb, 0, none⟩), .int .i64 0, .slice none 0 0, .slice none 0 0, .bool false, .bool false, .int .i64 0, .int .i64 0] 81) (a : Nat) (ha : a ≤ 120) (cap : Int) (hB : Blk w tb #[.pointer (some ⟨qb, 0, none⟩), .int .i64 (a : Int), .int .i64 cap] 95) (hne : tb ≠ qb) (hN : NoT (L.getD a ByteArray.empty)) :
    Calls Tryz.prog 76 #[.pointer (some ⟨tb, 0, none⟩), .int .i64 1] w fun e w' => e = .returned (.tuple #[.agg zTen, .bool false, .int .i64 115]) ∧ Only (fun x => x = qb) w w' := by
  obtain ⟨g, hg⟩ : ∃ z, w.heap.size = z := ⟨_, rfl⟩
  obtain ⟨x1, hx1⟩ : ∃ z, w.alloc (.cells #[.int .i64 0, .int .i64 0, .int .i64 0, .slice none 0 0] 50) = z := ⟨_, rfl⟩
  have B1 : Blk x1 g #[.int .i64 0, .int .i64 0, .int .i64 0, .slice none 0 0] 50 := by rw [← hx1, ← hg]; exact Blk.new w _ _
  have hb1 : Below w.heap.size w x1.drew := by rw [← hx1]; exact ((Below.refl _ w).alloc (Nat.le_refl _) _).drew
  have hqg : qb ≠ g := by rw [← hg]; exact Nat.ne_of_lt hq.lt
  have hRd := h.below hb1
  have hQd := hq.below hb1 hq.lt
  have hBd := hB.below hb1 hB.lt
  have HRD := hide (rpread0 hRd hC hL hQd a (by omega))
  have HPS := hide (fun W => rparse_any (L.getD a ByteArray.empty) W)
  obtain ⟨tx, htx⟩ : ∃ z, L.getD a ByteArray.empty = z := ⟨_, rfl⟩
  rw [htx] at HRD HPS hN
  have HNT := hide hN.2
  have HNE := hide hne
  have HB1 := hide (show Blk x1.drew g #[.int .i64 0, .int .i64 0, .int .i64 0, .slice none 0 0] 50 from B1.below ((Below.refl _ x1).drew) B1.lt)
  have HQG := hide hqg
  obtain ⟨a1, ha1⟩ : ∃ z : Int, (a : Int) + 1 = z := ⟨_, rfl⟩
  have w1 : IntKind.i64.wrap ((a : Int) + 1) = a1 := by rw [wrapI_eq _ (by omega) (by omega), ha1]
  have w2 : IntKind.i64.wrap (a1 - 1) = (a : Int) := by rw [wrapI_eq _ (by omega) (by omega)]; omega
  have HBD := hide hBd
  have HOD := hide (show Only (fun x => x = qb) w x1.drew from Only.of_below hb1)
  clear h hC hL hq hB hne hN htx B1 hb1 hqg hRd hQd hBd ha1
  go_enter Tryz.func76, Tryz.ntmps76
  go_wp2_with fail
  (try rw [hx1])
  clear hx1
  have hBd := unhide HBD
  refine wp_region_held_drew (S := fun W => Blk W tb #[.pointer (some ⟨qb, 0, none⟩), .int .i64 (a : Int), .int .i64 cap] 95) (by kernel_rfl) hBd ?_
  intro hS
  refine wpAnyH_takeD 0 (some 15) (.pointer (some ⟨tb, 0, none⟩)) rfl rfl (by kernel_rfl) (by kernel_rfl) (by kernel_rfl) (fun _ _ _ h => h) (Or.inl ⟨by rfl, fun w hSw => by have q0 : w.cell? ⟨tb, 0, none⟩ = some (.pointer (some ⟨qb, 0, none⟩)) := hSw.cell 0; have q1 : w.cell? ⟨tb, 1, none⟩ = some (.int .i64 (a : Int)) := hSw.cell 1; go_simp⟩) hS ?_
  simp only [Act.put, List.setIfInBounds_toArray, List.set_cons_zero, List.set_cons_succ]
  refine wpAnyH_takeD 1 (some 16) (.pointer (some ⟨tb, 0, none⟩)) rfl rfl (by kernel_rfl) (by kernel_rfl) (by kernel_rfl) (fun _ _ _ h => h) (Or.inl ⟨by rfl, fun w hSw => by have q0 : w.cell? ⟨tb, 0, none⟩ = some (.pointer (some ⟨qb, 0, none⟩)) := hSw.cell 0; have q1 : w.cell? ⟨tb, 1, none⟩ = some (.int .i64 (a : Int)) := hSw.cell 1; go_simp⟩) hS ?_
  simp only [Act.put, List.setIfInBounds_toArray, List.set_cons_zero, List.set_cons_succ]
  refine wpAnyH_takeD 2 (some 17) (.pointer (some ⟨tb, 0, none⟩)) rfl rfl (by kernel_rfl) (by kernel_rfl) (by kernel_rfl) (fun _ _ _ h => h) (Or.inl ⟨by rfl, fun w hSw => by have q0 : w.cell? ⟨tb, 0, none⟩ = some (.pointer (some ⟨qb, 0, none⟩)) := hSw.cell 0; have q1 : w.cell? ⟨tb, 1, none⟩ = some (.int .i64 (a : Int)) := hSw.cell 1; go_simp⟩) hS ?_
  simp only [Act.put, List.setIfInBounds_toArray, List.set_cons_zero, List.set_cons_succ]
  refine wpAnyH_takeD 3 (some 18) (.pointer (some ⟨qb, 0, none⟩)) rfl rfl (by kernel_rfl) (by kernel_rfl) (by kernel_rfl) (fun _ _ _ h => h) (Or.inl ⟨by rfl, fun w hSw => by have q0 : w.cell? ⟨tb, 0, none⟩ = some (.pointer (some ⟨qb, 0, none⟩)) := hSw.cell 0; have q1 : w.cell? ⟨tb, 1, none⟩ = some (.int .i64 (a : Int)) := hSw.cell 1; go_simp⟩) hS ?_
  simp only [Act.put, List.setIfInBounds_toArray, List.set_cons_zero, List.set_cons_succ]
  refine wpAnyH_takeD 4 (some 19) (.pointer (some ⟨tb, 0, none⟩)) rfl rfl (by kernel_rfl) (by kernel_rfl) (by kernel_rfl) (fun _ _ _ h => h) (Or.inl ⟨by rfl, fun w hSw => by have q0 : w.cell? ⟨tb, 0, none⟩ = some (.pointer (some ⟨qb, 0, none⟩)) := hSw.cell 0; have q1 : w.cell? ⟨tb, 1, none⟩ = some (.int .i64 (a : Int)) := hSw.cell 1; go_simp⟩) hS ?_
  simp only [Act.put, List.setIfInBounds_toArray, List.set_cons_zero, List.set_cons_succ]
  refine wpAnyH_takeD 5 (some 20) (.pointer (some ⟨tb, 0, none⟩)) rfl rfl (by kernel_rfl) (by kernel_rfl) (by kernel_rfl) (fun _ _ _ h => h) (Or.inl ⟨by rfl, fun w hSw => by have q0 : w.cell? ⟨tb, 0, none⟩ = some (.pointer (some ⟨qb, 0, none⟩)) := hSw.cell 0; have q1 : w.cell? ⟨tb, 1, none⟩ = some (.int .i64 (a : Int)) := hSw.cell 1; go_simp⟩) hS ?_
  simp only [Act.put, List.setIfInBounds_toArray, List.set_cons_zero, List.set_cons_succ]
  refine wpAnyH_takeD 6 (some 21) (.pointer (some ⟨tb, 1, none⟩)) rfl rfl (by kernel_rfl) (by kernel_rfl) (by kernel_rfl) (fun _ _ _ h => h) (Or.inl ⟨by rfl, fun w hSw => by have q0 : w.cell? ⟨tb, 0, none⟩ = some (.pointer (some ⟨qb, 0, none⟩)) := hSw.cell 0; have q1 : w.cell? ⟨tb, 1, none⟩ = some (.int .i64 (a : Int)) := hSw.cell 1; go_simp⟩) hS ?_
  simp only [Act.put, List.setIfInBounds_toArray, List.set_cons_zero, List.set_cons_succ]
  refine wpAnyH_takeD 7 (some 22) (.int .i64 (a : Int)) rfl rfl (by kernel_rfl) (by kernel_rfl) (by kernel_rfl) (fun _ _ _ h => h) (Or.inl ⟨by rfl, fun w hSw => by have q0 : w.cell? ⟨tb, 0, none⟩ = some (.pointer (some ⟨qb, 0, none⟩)) := hSw.cell 0; have q1 : w.cell? ⟨tb, 1, none⟩ = some (.int .i64 (a : Int)) := hSw.cell 1; go_simp⟩) hS ?_
  simp only [Act.put, List.setIfInBounds_toArray, List.set_cons_zero, List.set_cons_succ]
  refine wpAnyH_takeD 8 (some 23) (.int .i64 1) rfl rfl (by kernel_rfl) (by kernel_rfl) (by kernel_rfl) (fun _ _ _ h => h) (Or.inl ⟨by rfl, fun w hSw => by have q0 : w.cell? ⟨tb, 0, none⟩ = some (.pointer (some ⟨qb, 0, none⟩)) := hSw.cell 0; have q1 : w.cell? ⟨tb, 1, none⟩ = some (.int .i64 (a : Int)) := hSw.cell 1; go_simp⟩) hS ?_
  simp only [Act.put, List.setIfInBounds_toArray, List.set_cons_zero, List.set_cons_succ]
  refine wpAnyH_takeD 9 (some 24) (.int .i64 a1) rfl rfl (by kernel_rfl) (by kernel_rfl) (by kernel_rfl) (fun _ _ _ h => h) (Or.inl ⟨by rfl, fun w hSw => by have q0 : w.cell? ⟨tb, 0, none⟩ = some (.pointer (some ⟨qb, 0, none⟩)) := hSw.cell 0; have q1 : w.cell? ⟨tb, 1, none⟩ = some (.int .i64 (a : Int)) := hSw.cell 1; go_simp⟩) hS ?_
  simp only [Act.put, List.setIfInBounds_toArray, List.set_cons_zero, List.set_cons_succ]
  refine wpAnyH_takeD 10 (some 25) (.int .i64 (a : Int)) rfl rfl (by kernel_rfl) (by kernel_rfl) (by kernel_rfl) (fun _ _ _ h => h) (Or.inl ⟨by rfl, fun w hSw => by have q0 : w.cell? ⟨tb, 0, none⟩ = some (.pointer (some ⟨qb, 0, none⟩)) := hSw.cell 0; have q1 : w.cell? ⟨tb, 1, none⟩ = some (.int .i64 (a : Int)) := hSw.cell 1; go_simp⟩) hS ?_
  simp only [Act.put, List.setIfInBounds_toArray, List.set_cons_zero, List.set_cons_succ]
  refine wpAnyH_ready (rs := [11]) (by kernel_rfl) (by simp) ?_
  refine AllReadyH.cons rfl (fun K hK => ?_) AllReadyH.nil
  simp only [List.getElem_toArray, List.getElem_cons_succ, List.getElem_cons_zero]
  go_simp
  refine (unhide HRD).mono ?_
  rintro e x4 ⟨rfl, hO4⟩
  have hB4 : Blk x4 tb #[.pointer (some ⟨qb, 0, none⟩), .int .i64 (a : Int), .int .i64 cap] 95 := hBd.only hO4 (fun q => unhide HNE q)
  have H4 := hide hO4
  clear hO4
  refine hK.out _ _ hB4 (fun hS => ?_)
  clear hK K
  refine wpAnyH_takeD 12 (some 14) (.tuple #[.string tx, .int .i64 0]) rfl rfl (by kernel_rfl) (by kernel_rfl) (by kernel_rfl) (fun _ _ _ h => h) (Or.inl ⟨by rfl, fun w hSw => by have q0 : w.cell? ⟨tb, 0, none⟩ = some (.pointer (some ⟨qb, 0, none⟩)) := hSw.cell 0; have q1 : w.cell? ⟨tb, 1, none⟩ = some (.int .i64 (a : Int)) := hSw.cell 1; go_simp⟩) hS ?_
  simp only [Act.put, List.setIfInBounds_toArray, List.set_cons_zero, List.set_cons_succ]
  refine wpAnyH_takeD 13 (some 27) (.string tx) rfl rfl (by kernel_rfl) (by kernel_rfl) (by kernel_rfl) (fun _ _ _ h => h) (Or.inl ⟨by rfl, fun w hSw => by have q0 : w.cell? ⟨tb, 0, none⟩ = some (.pointer (some ⟨qb, 0, none⟩)) := hSw.cell 0; have q1 : w.cell? ⟨tb, 1, none⟩ = some (.int .i64 (a : Int)) := hSw.cell 1; go_simp⟩) hS ?_
  simp only [Act.put, List.setIfInBounds_toArray, List.set_cons_zero, List.set_cons_succ]
  refine wpAnyH_takeD 14 (some 28) (.int .i64 0) rfl rfl (by kernel_rfl) (by kernel_rfl) (by kernel_rfl) (fun _ _ _ h => h) (Or.inl ⟨by rfl, fun w hSw => by have q0 : w.cell? ⟨tb, 0, none⟩ = some (.pointer (some ⟨qb, 0, none⟩)) := hSw.cell 0; have q1 : w.cell? ⟨tb, 1, none⟩ = some (.int .i64 (a : Int)) := hSw.cell 1; go_simp⟩) hS ?_
  simp only [Act.put, List.setIfInBounds_toArray, List.set_cons_zero, List.set_cons_succ]
  refine wpAnyH_takeD 15 (some 7) (.string tx) rfl rfl (by kernel_rfl) (by kernel_rfl) (by kernel_rfl) (fun _ _ _ h => h) (Or.inl ⟨by rfl, fun w hSw => by have q0 : w.cell? ⟨tb, 0, none⟩ = some (.pointer (some ⟨qb, 0, none⟩)) := hSw.cell 0; have q1 : w.cell? ⟨tb, 1, none⟩ = some (.int .i64 (a : Int)) := hSw.cell 1; go_simp⟩) hS ?_
  simp only [Act.put, List.setIfInBounds_toArray, List.set_cons_zero, List.set_cons_succ]
  refine wpAnyH_takeD 16 (some 8) (.int .i64 0) rfl rfl (by kernel_rfl) (by kernel_rfl) (by kernel_rfl) (fun _ _ _ h => h) (Or.inl ⟨by rfl, fun w hSw => by have q0 : w.cell? ⟨tb, 0, none⟩ = some (.pointer (some ⟨qb, 0, none⟩)) := hSw.cell 0; have q1 : w.cell? ⟨tb, 1, none⟩ = some (.int .i64 (a : Int)) := hSw.cell 1; go_simp⟩) hS ?_
  simp only [Act.put, List.setIfInBounds_toArray, List.set_cons_zero, List.set_cons_succ]
  refine wpAnyH_done (by kernel_rfl) ?_ _
  clear hS hB4 hBd w1 w2
  go_wp2_with fail
  refine (unhide HPS _).mono ?_
  rintro e x5 ⟨hpp, hb5⟩
  have J1 := (unhide HB1).only (unhide H4) (fun q => unhide HQG q.symm)
  have J2 := J1.below hb5 J1.lt
  have HJ := hide J2
  have HO5 := hide (show Only (fun x => x = qb) w x5 from ((unhide HOD).trans (unhide H4) (fun _ _ q => q)).trans (Only.of_below (P := fun x => x = qb) hb5) (fun _ _ q => q))
  clear J1 J2 hb5 H4 HB1 HQG HPS HNE HRD HBD
  have HGW := hide hg
  have FIN : ∀ x6, Below x5.heap.size x5 x6 → Only (fun x => x = qb) w (x6.setCells g 0 zTen.toList) ∧ x6.there g 0 zTen.size ∧ (loadVar 50 ⟨g, 0, none⟩).run Tryz.prog (x6.setCells g 0 zTen.toList) = .ok (.agg zTen) (x6.setCells g 0 zTen.toList) := fun x6 h6 => by
    have J3 := (unhide HJ).below h6 (unhide HJ).lt
    exact ⟨((unhide HO5).trans (Only.of_below (P := fun x => x = qb) h6) (fun _ _ q => q)).trans (only_cells (P := fun x => x = g) g 0 _ rfl) (fun k hk q => by have := unhide HGW; omega), blk_there J3 zTen.size rfl, iload_blk 50 _ (by have := setCells_all J3 zTen.toList rfl; rwa [zTen_arr] at this) Tryz.underlying50 rfl (by rw [sizeTen, zTen_size])⟩
  have HFI := hide FIN
  clear FIN
  rcases hpp with ⟨hok, rfl⟩ | ⟨hno, rfl⟩
  · have h5 : pkd tx ≠ 5 := unhide HNT hok
    generalize pkd tx = kd at *
    generalize pnm tx = nm at *
    generalize pbd tx = bd at *
    obtain ⟨g4, hg4⟩ : ∃ xx, x5.heap.size = xx := ⟨_, rfl⟩
    obtain ⟨x6, hx6⟩ : ∃ xx, x5.alloc (.cells #[.int .i64 kd, .int .i64 nm, .string bd] 140) = xx := ⟨_, rfl⟩
    have B4 : Blk x6 g4 #[.int .i64 kd, .int .i64 nm, .string bd] 140 := by rw [← hx6, ← hg4]; exact Blk.new x5 _ _
    have a0 : x6.cell? ⟨g4, 0, none⟩ = some (.int .i64 kd) := B4.cell 0
    have h5b : (kd != 5) = true := by simpa using h5
    obtain ⟨OF, TH, LD⟩ := unhide HFI x6 (by rw [← hx6]; exact (Below.refl _ _).alloc (Nat.le_refl _) _)
    obtain ⟨x7, hx7⟩ : ∃ Z, x6.setCells g 0 zTen.toList = Z := ⟨_, rfl⟩
    rw [hx7] at OF LD
    have HX7 := hide hx7
    have HTH := hide TH
    have HLD := hide LD
    have HOF := hide OF
    clear hx7
    clear OF TH LD B4 HFI HJ HNT h5
    go_wp2_with (refine wpList_store_mid rfl 50 (.tmp 4) (.tmp 57) rfl g 0 zTen rfl rfl (unhide HTH) (by rw [sizeTen, zTen_size]) zTen_one ?_; rw [unhide HX7])
    exact bodyPost_ret (v := .tuple #[.agg zTen, .bool false, .int .i64 115]) (results_cell3 (p := 4) (q := 5) (r := 6) (ty := 50) rfl _ _ _ ⟨g, 0, none⟩ rfl _ (unhide HLD)) rfl ⟨rfl, unhide HOF⟩
  · obtain ⟨OF, TH, LD⟩ := unhide HFI (x5.alloc (.cells #[.int .i64 0, .int .i64 0, .string ⟨#[]⟩] 140)) ((Below.refl _ _).alloc (Nat.le_refl _) _)
    obtain ⟨x7, hx7⟩ : ∃ Z, (x5.alloc (.cells #[.int .i64 0, .int .i64 0, .string ⟨#[]⟩] 140)).setCells g 0 zTen.toList = Z := ⟨_, rfl⟩
    rw [hx7] at OF LD
    have HX7 := hide hx7
    have HTH := hide TH
    have HLD := hide LD
    have HOF := hide OF
    clear hx7
    clear OF TH LD HFI HJ HNT hno
    go_wp2_with (refine wpList_store_mid rfl 50 (.tmp 4) (.tmp 57) rfl g 0 zTen rfl rfl (unhide HTH) (by rw [sizeTen, zTen_size]) zTen_one ?_; rw [unhide HX7])
    exact bodyPost_ret (v := .tuple #[.agg zTen, .bool false, .int .i64 115]) (results_cell3 (p := 4) (q := 5) (r := 6) (ty := 50) rfl _ _ _ ⟨g, 0, none⟩ rfl _ (unhide HLD)) rfl ⟨rfl, unhide HOF⟩
set_option maxHeartbeats 2000000 in
theorem rtall_bad {w : World} {tb : Nat} {qb : Nat} (hR : Calls Tryz.prog 76 #[.pointer (some ⟨tb, 0, none⟩), .int .i64 1] w fun e w' => e = .returned (.tuple #[.agg zTen, .bool false, .int .i64 115]) ∧ Only (fun x => x = qb) w w') :
    Calls Tryz.prog 35 #[.pointer (some ⟨tb, 0, none⟩)] w fun e w' => e = .returned (.tuple #[.slice none 0 0, .int .i64 0, .int .i64 115]) ∧ Only (fun x => x = qb) w w' := by
  have HR := hide hR
  clear hR
  go_enter Tryz.func35, Tryz.ntmps35
  go_wp2
  go_loopw [7, 5, 6, 8, 9, 10] (fun k _ _ _ _ _ wr => k = .int .i64 1 ∧ wr = w) (fun _ _ _ _ _ _ _ => 0)
  case atStart => exact ⟨rfl, rfl⟩
  case round =>
    obtain ⟨rfl, hwr⟩ := hrel
    subst wr
    go_wp2_with fail
    refine (unhide HR).mono ?_
    rintro e x1 ⟨rfl, hO1⟩
    obtain ⟨g8, hg8⟩ : ∃ z, x1.heap.size = z := ⟨_, rfl⟩
    obtain ⟨x2, hx2⟩ : ∃ z, x1.alloc (.cells #[.int .i64 0, .int .i64 0, .int .i64 0, .slice none 0 0] 50) = z := ⟨_, rfl⟩
    have B2 : Blk x2 g8 #[.int .i64 0, .int .i64 0, .int .i64 0, .slice none 0 0] 50 := by rw [← hx2, ← hg8]; exact Blk.new x1 _ _
    have TH := hide (blk_there B2 zTen.size rfl)
    have HF := hide (show Only (fun x => x = qb) w (x2.setCells g8 0 zTen.toList) from (by rw [← hx2]; exact (hO1.alloc _).trans (only_cells (P := fun x => x = g8) g8 0 _ rfl) (fun k hk q => by have := hO1.size; omega)))
    obtain ⟨x3, hx3⟩ : ∃ z, x2.setCells g8 0 zTen.toList = z := ⟨_, rfl⟩
    rw [hx3] at HF
    have HX3 := hide hx3
    clear HR hO1 B2 hx3
    go_wp2_with (refine wpList_store_mid rfl 50 (.tmp 8) (.tmp 19) rfl g8 0 zTen rfl rfl (unhide TH) (by rw [sizeTen, zTen_size]) zTen_one ?_; rw [unhide HX3])
    go_ret3
    exact ⟨rfl, unhide HF⟩
end Go.Proofs.YtpcmifmgkccfnaaGreatDoor

namespace Go.Proofs.YtpcmifmgkccfnaaGreatDoor
open Go.RowKit Go.Maps Go.Sort Go.Shelf
set_option maxRecDepth 100000
set_option maxHeartbeats 4000000 in
theorem tRead_bad {w0 w : World} {b jb pb tb : Nat} {X : Nat → Prop} {a cap : Nat} {L : List ByteArray} {A : List (Nat × Nat)} {nx kp : Nat} (K : PK w0 w b jb pb (restP L A nx kp) X) (hB : Blk w tb (Tbv pb a cap) 85) (hX : X tb) (hg : ETy w0) (hL : L.length = 128) (ha : a ≤ 120) (hN : NoT (L.getD a ByteArray.empty)) :
    Calls Tryz.prog 32 #[.pointer (some ⟨tb, 0, none⟩)] w fun e w' => e = .returned (.tuple #[.agg Tryz.zeroCells90, .int .i64 115]) ∧ Only (fun x => ¬ X x) w w' ∧ Below w0.heap.size w0 w' := by
  obtain ⟨g, hgg⟩ : ∃ xx, w.heap.size = xx := ⟨_, rfl⟩
  obtain ⟨x1, hx1⟩ : ∃ xx, w.alloc (.cells Tryz.zeroCells90 90) = xx := ⟨_, rfl⟩
  obtain ⟨x2, hx2⟩ : ∃ xx, x1.alloc (.cells Tryz.zeroCells90 90) = xx := ⟨_, rfl⟩
  have hg1 : x1.heap.size = g + 1 := by rw [← hx1, ← hgg]; simp
  have hb1 : Below w.heap.size w x1 := by rw [← hx1]; exact (Below.refl _ _).alloc (Nat.le_refl _) _
  have hb2 : Below w.heap.size w x2 := by rw [← hx2]; exact hb1.alloc (by rw [hg1]; omega) _
  have B1 : Blk x1 g Tryz.zeroCells90 90 := by rw [← hx1, ← hgg]; exact Blk.new w _ _
  have B2 : Blk x2 g Tryz.zeroCells90 90 := by rw [← hx2]; exact B1.alloc _
  have hXlt : ∀ x, X x → x < g := fun x hx => by rw [← hgg]; exact K.lt x hx
  have K2 := K.more (Y := fun x => X x ∨ x = g) hb2 (fun x q => q.imp_right (fun e => by rw [e]; exact ⟨by omega, B2.lt⟩))
  have hBt := hB.below hb2 hB.lt
  have hbd : Below x2.heap.size x2 x2.drew := (Below.refl _ x2).drew
  have Kd := K2.below hbd
  have hBd := hBt.below hbd hBt.lt
  have HSC := hide (tSector_any hBd (by omega) 0 (by omega))
  rw [show ((0 + 1 : Nat) : Int) = 1 from rfl, show ((a + 0 : Nat) : Int) = (a : Int) from rfl] at HSC
  obtain ⟨r1, r2⟩ := rest_read L A nx kp a (by omega)
  have HRD := hide (pread_any Kd (a : Int) (by show (readT (rs L A) (a : Int)).size ≤ maxLen; rw [(read_rs L A a (by omega)).2, hN.1]; decide))
  rw [r1, r2] at HRD
  have HRO := hide (fun W (q : ETy W) => recordOf_bad 1 (L.getD a ByteArray.empty) hN W q)
  obtain ⟨tx, htx⟩ : ∃ z, L.getD a ByteArray.empty = z := ⟨_, rfl⟩
  rw [htx] at HRD HRO
  have HWG := hide (show w0.heap.size ≤ g from by rw [← hgg]; exact K.bel.size)
  have HXT := hide hX
  have HXL := hide hXlt
  have HB2 := hide B2
  have HO2 := hide (show Only (fun x => ¬ X x) w x2 from Only.of_below hb2)
  have HG0 := hide hg
  have hbx : Below w.heap.size w x2.drew := hb2.drew
  have HBX := hide hbx
  clear K hB hX hg hN hXlt K2 hBt hbd Kd r1 r2 htx hb1 hb2 B1 B2 hL hbx
  go_enter Tryz.func32, Tryz.ntmps32
  have HBD := hide hBd
  clear hBd
  go_wp2
  (try rw [hx1])
  (try rw [hx2])
  clear hx1 hx2
  go_loopw [11, 5, 6, 7, 8, 9, 10] (fun i _ _ _ _ _ _ wr => i = .int .i64 0 ∧ wr = x2) (fun _ _ _ _ _ _ _ _ => 0)
  case atStart => exact ⟨rfl, rfl⟩
  case round =>
    obtain ⟨rfl, hwr⟩ := hrel
    subst wr
    have hBd := unhide HBD
    go_wp2_with fail
    refine wp_region_held_drew (S := fun W => Blk W tb (Tbv pb a cap) 85) (by kernel_rfl) hBd ?_
    intro hS
    refine wpAnyH_takeD 0 (some 17) (.pointer (some ⟨tb, 0, none⟩)) rfl rfl (by kernel_rfl) (by kernel_rfl) (by kernel_rfl) (fun _ _ _ h => h) (Or.inl ⟨by rfl, fun w hSw => by have q0 : w.cell? ⟨tb, 0, none⟩ = some (.pointer (some ⟨pb, 0, none⟩)) := hSw.cell 0; go_simp⟩) hS ?_
    simp only [Act.put, List.setIfInBounds_toArray, List.set_cons_zero, List.set_cons_succ]
    refine wpAnyH_takeD 1 (some 18) (.pointer (some ⟨tb, 0, none⟩)) rfl rfl (by kernel_rfl) (by kernel_rfl) (by kernel_rfl) (fun _ _ _ h => h) (Or.inl ⟨by rfl, fun w hSw => by have q0 : w.cell? ⟨tb, 0, none⟩ = some (.pointer (some ⟨pb, 0, none⟩)) := hSw.cell 0; go_simp⟩) hS ?_
    simp only [Act.put, List.setIfInBounds_toArray, List.set_cons_zero, List.set_cons_succ]
    refine wpAnyH_takeD 2 (some 19) (.pointer (some ⟨tb, 0, none⟩)) rfl rfl (by kernel_rfl) (by kernel_rfl) (by kernel_rfl) (fun _ _ _ h => h) (Or.inl ⟨by rfl, fun w hSw => by have q0 : w.cell? ⟨tb, 0, none⟩ = some (.pointer (some ⟨pb, 0, none⟩)) := hSw.cell 0; go_simp⟩) hS ?_
    simp only [Act.put, List.setIfInBounds_toArray, List.set_cons_zero, List.set_cons_succ]
    refine wpAnyH_takeD 3 (some 20) (.pointer (some ⟨pb, 0, none⟩)) rfl rfl (by kernel_rfl) (by kernel_rfl) (by kernel_rfl) (fun _ _ _ h => h) (Or.inl ⟨by rfl, fun w hSw => by have q0 : w.cell? ⟨tb, 0, none⟩ = some (.pointer (some ⟨pb, 0, none⟩)) := hSw.cell 0; go_simp⟩) hS ?_
    simp only [Act.put, List.setIfInBounds_toArray, List.set_cons_zero, List.set_cons_succ]
    refine wpAnyH_takeD 4 (some 21) (.pointer (some ⟨tb, 0, none⟩)) rfl rfl (by kernel_rfl) (by kernel_rfl) (by kernel_rfl) (fun _ _ _ h => h) (Or.inl ⟨by rfl, fun w hSw => by have q0 : w.cell? ⟨tb, 0, none⟩ = some (.pointer (some ⟨pb, 0, none⟩)) := hSw.cell 0; go_simp⟩) hS ?_
    simp only [Act.put, List.setIfInBounds_toArray, List.set_cons_zero, List.set_cons_succ]
    refine wpAnyH_takeD 5 (some 22) (.int .i64 1) rfl rfl (by kernel_rfl) (by kernel_rfl) (by kernel_rfl) (fun _ _ _ h => h) (Or.inl ⟨by rfl, fun w hSw => by have q0 : w.cell? ⟨tb, 0, none⟩ = some (.pointer (some ⟨pb, 0, none⟩)) := hSw.cell 0; go_simp⟩) hS ?_
    simp only [Act.put, List.setIfInBounds_toArray, List.set_cons_zero, List.set_cons_succ]
    refine wpAnyH_ready (rs := [6]) (by kernel_rfl) (by simp) ?_
    refine AllReadyH.cons rfl (fun K hK => ?_) AllReadyH.nil
    simp only [List.getElem_toArray, List.getElem_cons_succ, List.getElem_cons_zero]
    go_simp
    refine (unhide HSC).mono ?_
    rintro e x3 ⟨rfl, hx3⟩
    subst x3
    refine hK.out _ _ hS (fun hS => ?_)
    clear hK K
    refine wpAnyH_ready (rs := [7]) (by kernel_rfl) (by simp) ?_
    refine AllReadyH.cons rfl (fun K hK => ?_) AllReadyH.nil
    simp only [List.getElem_toArray, List.getElem_cons_succ, List.getElem_cons_zero]
    go_simp
    refine (unhide HRD).mono ?_
    rintro e x4 ⟨rfl, K4, hO4⟩
    have hB4 : Blk x4 tb (Tbv pb a cap) 85 := hBd.only hO4 (fun q => q (.inl (unhide HXT)))
    have H4 := hide (And.intro K4 hO4)
    clear K4 hO4
    refine hK.out _ _ hB4 (fun hS => ?_)
    clear hK K
    refine wpAnyH_takeD 8 (some 16) (.tuple #[.string tx, .int .i64 0]) rfl rfl (by kernel_rfl) (by kernel_rfl) (by kernel_rfl) (fun _ _ _ h => h) (Or.inl ⟨by rfl, fun w hSw => by have q0 : w.cell? ⟨tb, 0, none⟩ = some (.pointer (some ⟨pb, 0, none⟩)) := hSw.cell 0; go_simp⟩) hS ?_
    simp only [Act.put, List.setIfInBounds_toArray, List.set_cons_zero, List.set_cons_succ]
    refine wpAnyH_takeD 9 (some 25) (.string tx) rfl rfl (by kernel_rfl) (by kernel_rfl) (by kernel_rfl) (fun _ _ _ h => h) (Or.inl ⟨by rfl, fun w hSw => by have q0 : w.cell? ⟨tb, 0, none⟩ = some (.pointer (some ⟨pb, 0, none⟩)) := hSw.cell 0; go_simp⟩) hS ?_
    simp only [Act.put, List.setIfInBounds_toArray, List.set_cons_zero, List.set_cons_succ]
    refine wpAnyH_takeD 10 (some 26) (.int .i64 0) rfl rfl (by kernel_rfl) (by kernel_rfl) (by kernel_rfl) (fun _ _ _ h => h) (Or.inl ⟨by rfl, fun w hSw => by have q0 : w.cell? ⟨tb, 0, none⟩ = some (.pointer (some ⟨pb, 0, none⟩)) := hSw.cell 0; go_simp⟩) hS ?_
    simp only [Act.put, List.setIfInBounds_toArray, List.set_cons_zero, List.set_cons_succ]
    refine wpAnyH_takeD 11 (some 7) (.string tx) rfl rfl (by kernel_rfl) (by kernel_rfl) (by kernel_rfl) (fun _ _ _ h => h) (Or.inl ⟨by rfl, fun w hSw => by have q0 : w.cell? ⟨tb, 0, none⟩ = some (.pointer (some ⟨pb, 0, none⟩)) := hSw.cell 0; go_simp⟩) hS ?_
    simp only [Act.put, List.setIfInBounds_toArray, List.set_cons_zero, List.set_cons_succ]
    refine wpAnyH_takeD 12 (some 8) (.int .i64 0) rfl rfl (by kernel_rfl) (by kernel_rfl) (by kernel_rfl) (fun _ _ _ h => h) (Or.inl ⟨by rfl, fun w hSw => by have q0 : w.cell? ⟨tb, 0, none⟩ = some (.pointer (some ⟨pb, 0, none⟩)) := hSw.cell 0; go_simp⟩) hS ?_
    simp only [Act.put, List.setIfInBounds_toArray, List.set_cons_zero, List.set_cons_succ]
    refine wpAnyH_done (by kernel_rfl) ?_ _
    clear hS hB4 hBd
    go_wp2_with fail
    have hE4 : ETy x4 := (unhide HG0).below (unhide H4).1.bel (unhide HG0).lt
    refine (unhide HRO _ hE4).mono ?_
    rintro e x5 ⟨rfl, hb5⟩
    obtain ⟨h9, hh9⟩ : ∃ xx, x5.heap.size = xx := ⟨_, rfl⟩
    obtain ⟨x6, hx6⟩ : ∃ xx, x5.alloc (.cells #[.bool false, .int .i64 0, .int .i64 0, .int .i64 0, .int .i64 0, .int .i64 0, .int .i64 0, .int .i64 0, .int .i64 0, .int .i64 0, .int .i64 0, .int .i64 0, .int .i64 0, .int .i64 0, .int .i64 0, .int .i64 0, .int .i64 0, .int .i64 0, .int .i64 0, .int .i64 0] 88) = xx := ⟨_, rfl⟩
    have B6 : Blk x6 h9 #[.bool false, .int .i64 0, .int .i64 0, .int .i64 0, .int .i64 0, .int .i64 0, .int .i64 0, .int .i64 0, .int .i64 0, .int .i64 0, .int .i64 0, .int .i64 0, .int .i64 0, .int .i64 0, .int .i64 0, .int .i64 0, .int .i64 0, .int .i64 0, .int .i64 0, .int .i64 0] 88 := by rw [← hx6, ← hh9]; exact Blk.new x5 _ _
    have hb6 : Below x5.heap.size x5 x6 := by rw [← hx6]; exact (Below.refl _ x5).alloc (Nat.le_refl _) _
    have J0 := (unhide HB2).below ((Below.refl _ x2).drew) (unhide HB2).lt
    have J1 := J0.only (unhide H4).2 (fun q => q (.inr rfl))
    have J2 := J1.below hb5 J1.lt
    have J3 : Blk x6 g Tryz.zeroCells90 90 := J2.below hb6 J2.lt
    have h9g : g < h9 := by rw [← hh9]; exact J2.lt
    have TH := hide (blk_there B6 zRec.size rfl)
    obtain ⟨x7, hx7⟩ : ∃ xx, x6.setCells h9 0 zRec.toList = xx := ⟨_, rfl⟩
    have hb7 : Below x5.heap.size x5 x7 := by rw [← hx7]; exact below_setCells (by omega) _ 0 hb6
    have J4 : Blk x7 g Tryz.zeroCells90 90 := by rw [← hx7]; exact blk_cells_other _ 0 J3 h9 (by omega)
    have hzs : (Tryz.zeroCells90).size = 160 := by rw [← lC_zero]; simp [lC_len]
    have TH2 := hide (blk_there J4 (Tryz.zeroCells90).size rfl)
    have B8 := setCells_all J4 (Tryz.zeroCells90).toList (by simp)
    rw [Array.toArray_toList] at B8
    have HLD := hide (iload_blk 90 _ B8 Tryz.underlying90 rfl (by rw [sizeRol, hzs]))
    have hno : ¬ X g := fun q => by have := unhide HXL g q; omega
    have HFB := hide (show Below w0.heap.size w0 (x7.setCells g 0 (Tryz.zeroCells90).toList) from by
      have b1 := (unhide H4).1.bel
      have b2 := b1.trans (hb5.mono b1.size)
      have b3 := b2.trans (hb7.mono b2.size)
      exact below_setCells (unhide HWG) _ 0 b3)
    have HF := hide (show Only (fun x => ¬ X x) w (x7.setCells g 0 (Tryz.zeroCells90).toList) from by
      have o1 := (unhide HO2).trans (Only.of_below (P := fun x => ¬ X x) ((Below.refl _ x2).drew)) (fun _ _ q => q)
      have o2 := o1.trans ((unhide H4).2.mono (fun x _ q r => q (.inl r))) (fun _ _ q => q)
      have o3 := o2.trans (Only.of_below (P := fun x => ¬ X x) hb5) (fun _ _ q => q)
      have o4 := o3.trans (Only.of_below (P := fun x => ¬ X x) hb7) (fun _ _ q => q)
      exact o4.trans (only_cells (P := fun x => ¬ X x) g 0 _ hno) (fun _ _ q => q))
    have HZS := hide hzs
    have HZO := hide (show (Tryz.zeroCells90).all (·.oneCell') = true from by rw [← lC_zero]; exact lC_one _)
    have hx7' := hide hx7
    obtain ⟨x8, hx8⟩ : ∃ Z, x7.setCells g 0 (Tryz.zeroCells90).toList = Z := ⟨_, rfl⟩
    rw [hx8] at HF HFB HLD
    have HX8 := hide hx8
    clear hx7 hx8
    clear B6 hb6 J0 J1 J2 J3 J4 h9g hb7 hzs B8 hno hb5 H4 HRO HRD HSC
    go_wp2_with (first | (refine wpList_store_mid rfl 88 (.tmp 9) (.tmp 35) rfl h9 0 zRec rfl rfl (unhide TH) (by rw [sizeRec, zRec_size]) zRec_one ?_; rw [unhide hx7']) | (refine wpList_store_mid rfl 90 (.tmp 2) (.tmp 39) rfl g 0 Tryz.zeroCells90 rfl rfl (unhide TH2) (by rw [sizeRol, unhide HZS]) (unhide HZO) ?_; rw [unhide HX8]))
    exact bodyPost_ret (v := .tuple #[.agg Tryz.zeroCells90, .int .i64 115]) (results_cell2 (p := 2) (q := 3) (ty := 90) rfl _ _ _ ⟨g, 0, none⟩ rfl _ (unhide HLD)) rfl ⟨rfl, unhide HF, unhide HFB⟩
end Go.Proofs.YtpcmifmgkccfnaaGreatDoor
