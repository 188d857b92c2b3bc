import Derived.Test.YtkmgbicacbalfaaDoorRdt
namespace Go.Proofs.YtkmgbicacbalfaaDoor
open Go.RowKit
theorem two_alloc {w : World} {b c : Nat} {S : ByteArray} {a : Nat} {e : Int} (h : Two w b c S a e) (o : Obj) : Two (w.alloc o) b c S a e := ⟨Blk.alloc h.1 _, Blk.alloc h.2.1 _, h.2.2⟩
theorem ety_only {w w' : World} {b : Nat} {s : RSt} (hg : ETy w) (h : Rds w b s) (ho : Only (fun k => k = b) w w') : ETy w' := hg.only ho (fun q => h.ne hg q.symm)
theorem ety_only2 {w w' : World} {c : Nat} {S : ByteArray} {t e : Int} (hg : ETy w) (h : Rrf w c S t e) (ho : Only (fun k => k = c) w w') : ETy w' := hg.only ho (fun q => by
  have q : 0 = c := q
  subst q
  have h1 := h.cells.1
  have h2 : w.cell? ⟨0, 0, none⟩ = _ := hg
  rw [h1] at h2
  cases h2)
theorem ety_alloc {w : World} (hg : ETy w) (o : Obj) : ETy (w.alloc o) := hg.below ((Below.refl _ w).alloc (Nat.le_refl _) o) hg.lt
def OnlyTwo (b c : Nat) (w w' : World) : Prop := Only (fun k => k = b ∨ k = c) w w'
set_option maxRecDepth 100000 in
set_option maxHeartbeats 4000000 in
theorem readsNum (w : World) (b c : Nat) (S : ByteArray) (a : Nat) (e0 : Int) (h : Two w b c S a e0) (hg : ETy w) (hs : S.size ≤ 9223372036854775807) (N : Int) (L : Value) (T : ByteArray) :
    Calls Tryd.prog 8 #[.pointer (some ⟨b, 0, none⟩), .pointer (some ⟨c, 0, none⟩), .agg #[.int .i64 1, .int .i64 N, L, .string T]] w fun ev w' => ev = .returned (.bool true) ∧ ∃ a' e', (Two w' b c S a' e' ∧ ETy w') ∧ Only (fun k => k = b ∨ k = c) w w' := by
  obtain ⟨V, a', e', ha', hA, hB⟩ := tNum S a e0 h.2.2.2 hs N
  have HA := hide hA
  have HB := hide hB
  have hbc := h.2.2.1
  have hbl : b < w.heap.size := Blk.lt h.1
  have hcl : c < w.heap.size := Blk.lt h.2.1
  have R0 := hide (show Rds ((w.alloc (Obj.cells #[.int .i64 1, .int .i64 N, L, .string T] 31)).drew) b (rst S a e0) from (two_alloc h _).1)
  have C0 := hide (show Rrf ((w.alloc (Obj.cells #[.int .i64 1, .int .i64 N, L, .string T] 31)).drew) c S (a : Int) e0 from (two_alloc h _).2.1)
  have G0 := hide (show ETy ((w.alloc (Obj.cells #[.int .i64 1, .int .i64 N, L, .string T] 31)).drew) from ety_alloc hg _)
  have O0 := hide (show Blk ((w.alloc (Obj.cells #[.int .i64 1, .int .i64 N, L, .string T] 31)).drew) w.heap.size #[.int .i64 1, .int .i64 N, L, .string T] 31 from Blk.new w _ _)
  have q0 : (w.alloc (Obj.cells #[.int .i64 1, .int .i64 N, L, .string T] 31)).cell? ⟨w.heap.size, 1, none⟩ = some (.int .i64 N) := by simp
  clear hA hB h hg
  go_enter Tryd.func8, Tryd.ntmps8
  go_wp2
  refine wp_region_held_drew (S := fun w' => w'.cell? ⟨w.heap.size, 1, none⟩ = some (.int .i64 N) ∧ True) (by kernel_rfl) ⟨q0, trivial⟩ ?_
  intro hS
  refine wpAnyH_takeD 0 (some 15) (.pointer (some ⟨b, 0, none⟩)) rfl rfl (by kernel_rfl) (by kernel_rfl) (by kernel_rfl) (fun _ _ _ h => h) (Or.inl ⟨by rfl, fun w' hSw => by obtain ⟨q1, _⟩ := hSw; go_simp⟩) hS ?_
  simp only [Act.put, List.setIfInBounds_toArray, List.set_cons_zero, List.set_cons_succ]
  refine wpAnyH_takeD 1 (some 16) (.pointer (some ⟨w.heap.size, 1, none⟩)) rfl rfl (by kernel_rfl) (by kernel_rfl) (by kernel_rfl) (fun _ _ _ h => h) (Or.inl ⟨by rfl, fun w' hSw => by obtain ⟨q1, _⟩ := hSw; go_simp⟩) hS ?_
  simp only [Act.put, List.setIfInBounds_toArray, List.set_cons_zero, List.set_cons_succ]
  refine wpAnyH_takeD 2 (some 17) (.int .i64 N) rfl rfl (by kernel_rfl) (by kernel_rfl) (by kernel_rfl) (fun _ _ _ h => h) (Or.inl ⟨by rfl, fun w' hSw => by obtain ⟨q1, _⟩ := hSw; go_simp⟩) hS ?_
  simp only [Act.put, List.setIfInBounds_toArray, List.set_cons_zero, List.set_cons_succ]
  refine wpAnyH_takeD 4 (some 19) (.pointer (some ⟨c, 0, none⟩)) rfl rfl (by kernel_rfl) (by kernel_rfl) (by kernel_rfl) (fun _ _ _ h => h) (Or.inl ⟨by rfl, fun w' hSw => by obtain ⟨q1, _⟩ := hSw; go_simp⟩) hS ?_
  simp only [Act.put, List.setIfInBounds_toArray, List.set_cons_zero, List.set_cons_succ]
  refine wpAnyH_takeD 5 (some 20) (.pointer (some ⟨w.heap.size, 1, none⟩)) rfl rfl (by kernel_rfl) (by kernel_rfl) (by kernel_rfl) (fun _ _ _ h => h) (Or.inl ⟨by rfl, fun w' hSw => by obtain ⟨q1, _⟩ := hSw; go_simp⟩) hS ?_
  simp only [Act.put, List.setIfInBounds_toArray, List.set_cons_zero, List.set_cons_succ]
  refine wpAnyH_takeD 6 (some 21) (.int .i64 N) rfl rfl (by kernel_rfl) (by kernel_rfl) (by kernel_rfl) (fun _ _ _ h => h) (Or.inl ⟨by rfl, fun w' hSw => by obtain ⟨q1, _⟩ := hSw; go_simp⟩) hS ?_
  simp only [Act.put, List.setIfInBounds_toArray, List.set_cons_zero, List.set_cons_succ]
  refine wpAnyH_ready (rs := [3]) (by kernel_rfl) (by simp) ?_
  refine AllReadyH.cons rfl (fun K hK => ?_) AllReadyH.nil
  simp only [List.getElem_toArray, List.getElem_cons_succ, List.getElem_cons_zero]
  go_simp
  refine (unhide HA _ b (unhide R0) (unhide G0)).mono ?_
  rintro e x1 ⟨rfl, hR1, hO1⟩
  have C1 := hide (show Rrf x1 c S (a : Int) e0 from (unhide C0).only hO1 (fun q => hbc q.symm))
  have G1 := hide (ety_only (unhide G0) (unhide R0) hO1)
  have O1 := hide hO1
  have R1 := hide hR1
  have hSS : x1.cell? ⟨w.heap.size, 1, none⟩ = some (.int .i64 N) ∧ True := ⟨by rw [(Blk.only (unhide O0) hO1 (by show ¬ w.heap.size = b; omega)).cell 1]; rfl, trivial⟩
  have OB1 := hide (Blk.only (unhide O0) hO1 (by show ¬ w.heap.size = b; omega))
  clear hR1 hO1 HA G0 R0 C0 O0
  refine hK.out _ _ hSS (fun hS => ?_)
  clear hSS hK K
  refine wpAnyH_ready (rs := [7]) (by kernel_rfl) (by simp) ?_
  refine AllReadyH.cons rfl (fun K hK => ?_) AllReadyH.nil
  simp only [List.getElem_toArray, List.getElem_cons_succ, List.getElem_cons_zero]
  go_simp
  refine (unhide HB _ c (unhide C1)).mono ?_
  rintro e x2 ⟨rfl, hR2, hO2⟩
  have HX := hide (show (Two x2 b c S a' e' ∧ ETy x2) ∧ Only (fun k => k = b ∨ k = c) w x2 from ⟨⟨⟨(unhide R1).only hO2 (fun q => hbc q), hR2, hbc, ha'⟩, ety_only2 (unhide G1) (unhide C1) hO2⟩, by
    refine Only.trans ?_ hO2 (fun _ _ q => Or.inr q)
    refine Only.trans ?_ (unhide O1) (fun _ _ q => Or.inl q)
    exact ((Only.refl _ w).alloc _).drew⟩)
  have hSS : x2.cell? ⟨w.heap.size, 1, none⟩ = some (.int .i64 N) ∧ True := ⟨by rw [(Blk.only (unhide OB1) hO2 (by show ¬ w.heap.size = c; omega)).cell 1]; rfl, trivial⟩
  clear hR2 hO2 HB G1 R1 C1 O1 OB1
  refine hK.out _ _ hSS (fun hS => ?_)
  clear hSS hK K
  refine wpAnyH_takeD 8 (some 23) (.bool true) rfl rfl (by kernel_rfl) (by kernel_rfl) (by kernel_rfl) (fun _ _ _ h => h) (Or.inl ⟨by rfl, fun w' hSw => by obtain ⟨q1, _⟩ := hSw; go_simp⟩) hS ?_
  simp only [Act.put, List.setIfInBounds_toArray, List.set_cons_zero, List.set_cons_succ]
  refine wpAnyH_takeD 9 (some 6) (.bool true) rfl rfl (by kernel_rfl) (by kernel_rfl) (by kernel_rfl) (fun _ _ _ h => h) (Or.inl ⟨by rfl, fun w' hSw => by obtain ⟨q1, _⟩ := hSw; go_simp⟩) hS ?_
  simp only [Act.put, List.setIfInBounds_toArray, List.set_cons_zero, List.set_cons_succ]
  refine wpAnyH_done (by kernel_rfl) ?_ _
  clear hS q0
  go_wp2
  go_ret
  exact ⟨rfl, a', e', unhide HX⟩
set_option maxRecDepth 100000 in
set_option maxHeartbeats 4000000 in
theorem readsRaw (w : World) (b c : Nat) (S : ByteArray) (a : Nat) (e0 : Int) (h : Two w b c S a e0) (hg : ETy w) (hs : S.size ≤ 9223372036854775807) (N : Int) (L : Value) (T : ByteArray) :
    Calls Tryd.prog 8 #[.pointer (some ⟨b, 0, none⟩), .pointer (some ⟨c, 0, none⟩), .agg #[.int .i64 3, .int .i64 N, L, .string T]] w fun ev w' => ev = .returned (.bool true) ∧ ∃ a' e', (Two w' b c S a' e' ∧ ETy w') ∧ Only (fun k => k = b ∨ k = c) w w' := by
  obtain ⟨V, a', e', ha', hA, hB⟩ := tRaw S a e0 h.2.2.2 hs N
  have HA := hide hA
  have HB := hide hB
  have hbc := h.2.2.1
  have hbl : b < w.heap.size := Blk.lt h.1
  have hcl : c < w.heap.size := Blk.lt h.2.1
  have R0 := hide (show Rds ((w.alloc (Obj.cells #[.int .i64 3, .int .i64 N, L, .string T] 31)).drew) b (rst S a e0) from (two_alloc h _).1)
  have C0 := hide (show Rrf ((w.alloc (Obj.cells #[.int .i64 3, .int .i64 N, L, .string T] 31)).drew) c S (a : Int) e0 from (two_alloc h _).2.1)
  have G0 := hide (show ETy ((w.alloc (Obj.cells #[.int .i64 3, .int .i64 N, L, .string T] 31)).drew) from ety_alloc hg _)
  have O0 := hide (show Blk ((w.alloc (Obj.cells #[.int .i64 3, .int .i64 N, L, .string T] 31)).drew) w.heap.size #[.int .i64 3, .int .i64 N, L, .string T] 31 from Blk.new w _ _)
  have q0 : (w.alloc (Obj.cells #[.int .i64 3, .int .i64 N, L, .string T] 31)).cell? ⟨w.heap.size, 1, none⟩ = some (.int .i64 N) := by simp
  clear hA hB h hg
  go_enter Tryd.func8, Tryd.ntmps8
  go_wp2
  refine wp_region_held_drew (S := fun w' => w'.cell? ⟨w.heap.size, 1, none⟩ = some (.int .i64 N) ∧ True) (by kernel_rfl) ⟨q0, trivial⟩ ?_
  intro hS
  refine wpAnyH_takeD 0 (some 33) (.pointer (some ⟨b, 0, none⟩)) rfl rfl (by kernel_rfl) (by kernel_rfl) (by kernel_rfl) (fun _ _ _ h => h) (Or.inl ⟨by rfl, fun w' hSw => by obtain ⟨q1, _⟩ := hSw; go_simp⟩) hS ?_
  simp only [Act.put, List.setIfInBounds_toArray, List.set_cons_zero, List.set_cons_succ]
  refine wpAnyH_takeD 1 (some 34) (.pointer (some ⟨w.heap.size, 1, none⟩)) rfl rfl (by kernel_rfl) (by kernel_rfl) (by kernel_rfl) (fun _ _ _ h => h) (Or.inl ⟨by rfl, fun w' hSw => by obtain ⟨q1, _⟩ := hSw; go_simp⟩) hS ?_
  simp only [Act.put, List.setIfInBounds_toArray, List.set_cons_zero, List.set_cons_succ]
  refine wpAnyH_takeD 2 (some 35) (.int .i64 N) rfl rfl (by kernel_rfl) (by kernel_rfl) (by kernel_rfl) (fun _ _ _ h => h) (Or.inl ⟨by rfl, fun w' hSw => by obtain ⟨q1, _⟩ := hSw; go_simp⟩) hS ?_
  simp only [Act.put, List.setIfInBounds_toArray, List.set_cons_zero, List.set_cons_succ]
  refine wpAnyH_takeD 4 (some 37) (.pointer (some ⟨c, 0, none⟩)) rfl rfl (by kernel_rfl) (by kernel_rfl) (by kernel_rfl) (fun _ _ _ h => h) (Or.inl ⟨by rfl, fun w' hSw => by obtain ⟨q1, _⟩ := hSw; go_simp⟩) hS ?_
  simp only [Act.put, List.setIfInBounds_toArray, List.set_cons_zero, List.set_cons_succ]
  refine wpAnyH_takeD 5 (some 38) (.pointer (some ⟨w.heap.size, 1, none⟩)) rfl rfl (by kernel_rfl) (by kernel_rfl) (by kernel_rfl) (fun _ _ _ h => h) (Or.inl ⟨by rfl, fun w' hSw => by obtain ⟨q1, _⟩ := hSw; go_simp⟩) hS ?_
  simp only [Act.put, List.setIfInBounds_toArray, List.set_cons_zero, List.set_cons_succ]
  refine wpAnyH_takeD 6 (some 39) (.int .i64 N) rfl rfl (by kernel_rfl) (by kernel_rfl) (by kernel_rfl) (fun _ _ _ h => h) (Or.inl ⟨by rfl, fun w' hSw => by obtain ⟨q1, _⟩ := hSw; go_simp⟩) hS ?_
  simp only [Act.put, List.setIfInBounds_toArray, List.set_cons_zero, List.set_cons_succ]
  refine wpAnyH_ready (rs := [3]) (by kernel_rfl) (by simp) ?_
  refine AllReadyH.cons rfl (fun K hK => ?_) AllReadyH.nil
  simp only [List.getElem_toArray, List.getElem_cons_succ, List.getElem_cons_zero]
  go_simp
  refine (unhide HA _ b (unhide R0) (unhide G0)).mono ?_
  rintro e x1 ⟨rfl, hR1, hO1⟩
  have C1 := hide (show Rrf x1 c S (a : Int) e0 from (unhide C0).only hO1 (fun q => hbc q.symm))
  have G1 := hide (ety_only (unhide G0) (unhide R0) hO1)
  have O1 := hide hO1
  have R1 := hide hR1
  have hSS : x1.cell? ⟨w.heap.size, 1, none⟩ = some (.int .i64 N) ∧ True := ⟨by rw [(Blk.only (unhide O0) hO1 (by show ¬ w.heap.size = b; omega)).cell 1]; rfl, trivial⟩
  have OB1 := hide (Blk.only (unhide O0) hO1 (by show ¬ w.heap.size = b; omega))
  clear hR1 hO1 HA G0 R0 C0 O0
  refine hK.out _ _ hSS (fun hS => ?_)
  clear hSS hK K
  refine wpAnyH_ready (rs := [7]) (by kernel_rfl) (by simp) ?_
  refine AllReadyH.cons rfl (fun K hK => ?_) AllReadyH.nil
  simp only [List.getElem_toArray, List.getElem_cons_succ, List.getElem_cons_zero]
  go_simp
  refine (unhide HB _ c (unhide C1)).mono ?_
  rintro e x2 ⟨rfl, hR2, hO2⟩
  have HX := hide (show (Two x2 b c S a' e' ∧ ETy x2) ∧ Only (fun k => k = b ∨ k = c) w x2 from ⟨⟨⟨(unhide R1).only hO2 (fun q => hbc q), hR2, hbc, ha'⟩, ety_only2 (unhide G1) (unhide C1) hO2⟩, by
    refine Only.trans ?_ hO2 (fun _ _ q => Or.inr q)
    refine Only.trans ?_ (unhide O1) (fun _ _ q => Or.inl q)
    exact ((Only.refl _ w).alloc _).drew⟩)
  have hSS : x2.cell? ⟨w.heap.size, 1, none⟩ = some (.int .i64 N) ∧ True := ⟨by rw [(Blk.only (unhide OB1) hO2 (by show ¬ w.heap.size = c; omega)).cell 1]; rfl, trivial⟩
  clear hR2 hO2 HB G1 R1 C1 O1 OB1
  refine hK.out _ _ hSS (fun hS => ?_)
  clear hSS hK K
  refine wpAnyH_takeD 8 (some 41) (.bool true) rfl rfl (by kernel_rfl) (by kernel_rfl) (by kernel_rfl) (fun _ _ _ h => h) (Or.inl ⟨by rfl, fun w' hSw => by obtain ⟨q1, _⟩ := hSw; go_simp⟩) hS ?_
  simp only [Act.put, List.setIfInBounds_toArray, List.set_cons_zero, List.set_cons_succ]
  refine wpAnyH_takeD 9 (some 6) (.bool true) rfl rfl (by kernel_rfl) (by kernel_rfl) (by kernel_rfl) (fun _ _ _ h => h) (Or.inl ⟨by rfl, fun w' hSw => by obtain ⟨q1, _⟩ := hSw; go_simp⟩) hS ?_
  simp only [Act.put, List.setIfInBounds_toArray, List.set_cons_zero, List.set_cons_succ]
  refine wpAnyH_done (by kernel_rfl) ?_ _
  clear hS q0
  go_wp2
  go_ret
  exact ⟨rfl, a', e', unhide HX⟩
set_option maxRecDepth 100000 in
set_option maxHeartbeats 4000000 in
theorem readsText (w : World) (b c : Nat) (S : ByteArray) (a : Nat) (e0 : Int) (h : Two w b c S a e0) (hg : ETy w) (hs : S.size ≤ 9223372036854775807) (N : Int) (L : Value) (T : ByteArray) :
    Calls Tryd.prog 8 #[.pointer (some ⟨b, 0, none⟩), .pointer (some ⟨c, 0, none⟩), .agg #[.int .i64 4, .int .i64 N, L, .string T]] w fun ev w' => ev = .returned (.bool true) ∧ ∃ a' e', (Two w' b c S a' e' ∧ ETy w') ∧ Only (fun k => k = b ∨ k = c) w w' := by
  obtain ⟨V, a', e', ha', hA, hB⟩ := tText S a e0 h.2.2.2 hs N
  have HA := hide hA
  have HB := hide hB
  have hbc := h.2.2.1
  have hbl : b < w.heap.size := Blk.lt h.1
  have hcl : c < w.heap.size := Blk.lt h.2.1
  have R0 := hide (show Rds ((w.alloc (Obj.cells #[.int .i64 4, .int .i64 N, L, .string T] 31)).drew) b (rst S a e0) from (two_alloc h _).1)
  have C0 := hide (show Rrf ((w.alloc (Obj.cells #[.int .i64 4, .int .i64 N, L, .string T] 31)).drew) c S (a : Int) e0 from (two_alloc h _).2.1)
  have G0 := hide (show ETy ((w.alloc (Obj.cells #[.int .i64 4, .int .i64 N, L, .string T] 31)).drew) from ety_alloc hg _)
  have O0 := hide (show Blk ((w.alloc (Obj.cells #[.int .i64 4, .int .i64 N, L, .string T] 31)).drew) w.heap.size #[.int .i64 4, .int .i64 N, L, .string T] 31 from Blk.new w _ _)
  have q0 : (w.alloc (Obj.cells #[.int .i64 4, .int .i64 N, L, .string T] 31)).cell? ⟨w.heap.size, 1, none⟩ = some (.int .i64 N) := by simp
  clear hA hB h hg
  go_enter Tryd.func8, Tryd.ntmps8
  go_wp2
  refine wp_region_held_drew (S := fun w' => w'.cell? ⟨w.heap.size, 1, none⟩ = some (.int .i64 N) ∧ True) (by kernel_rfl) ⟨q0, trivial⟩ ?_
  intro hS
  refine wpAnyH_takeD 0 (some 44) (.pointer (some ⟨b, 0, none⟩)) rfl rfl (by kernel_rfl) (by kernel_rfl) (by kernel_rfl) (fun _ _ _ h => h) (Or.inl ⟨by rfl, fun w' hSw => by obtain ⟨q1, _⟩ := hSw; go_simp⟩) hS ?_
  simp only [Act.put, List.setIfInBounds_toArray, List.set_cons_zero, List.set_cons_succ]
  refine wpAnyH_takeD 1 (some 45) (.pointer (some ⟨w.heap.size, 1, none⟩)) rfl rfl (by kernel_rfl) (by kernel_rfl) (by kernel_rfl) (fun _ _ _ h => h) (Or.inl ⟨by rfl, fun w' hSw => by obtain ⟨q1, _⟩ := hSw; go_simp⟩) hS ?_
  simp only [Act.put, List.setIfInBounds_toArray, List.set_cons_zero, List.set_cons_succ]
  refine wpAnyH_takeD 2 (some 46) (.int .i64 N) rfl rfl (by kernel_rfl) (by kernel_rfl) (by kernel_rfl) (fun _ _ _ h => h) (Or.inl ⟨by rfl, fun w' hSw => by obtain ⟨q1, _⟩ := hSw; go_simp⟩) hS ?_
  simp only [Act.put, List.setIfInBounds_toArray, List.set_cons_zero, List.set_cons_succ]
  refine wpAnyH_takeD 4 (some 48) (.pointer (some ⟨c, 0, none⟩)) rfl rfl (by kernel_rfl) (by kernel_rfl) (by kernel_rfl) (fun _ _ _ h => h) (Or.inl ⟨by rfl, fun w' hSw => by obtain ⟨q1, _⟩ := hSw; go_simp⟩) hS ?_
  simp only [Act.put, List.setIfInBounds_toArray, List.set_cons_zero, List.set_cons_succ]
  refine wpAnyH_takeD 5 (some 49) (.pointer (some ⟨w.heap.size, 1, none⟩)) rfl rfl (by kernel_rfl) (by kernel_rfl) (by kernel_rfl) (fun _ _ _ h => h) (Or.inl ⟨by rfl, fun w' hSw => by obtain ⟨q1, _⟩ := hSw; go_simp⟩) hS ?_
  simp only [Act.put, List.setIfInBounds_toArray, List.set_cons_zero, List.set_cons_succ]
  refine wpAnyH_takeD 6 (some 50) (.int .i64 N) rfl rfl (by kernel_rfl) (by kernel_rfl) (by kernel_rfl) (fun _ _ _ h => h) (Or.inl ⟨by rfl, fun w' hSw => by obtain ⟨q1, _⟩ := hSw; go_simp⟩) hS ?_
  simp only [Act.put, List.setIfInBounds_toArray, List.set_cons_zero, List.set_cons_succ]
  refine wpAnyH_ready (rs := [3]) (by kernel_rfl) (by simp) ?_
  refine AllReadyH.cons rfl (fun K hK => ?_) AllReadyH.nil
  simp only [List.getElem_toArray, List.getElem_cons_succ, List.getElem_cons_zero]
  go_simp
  refine (unhide HA _ b (unhide R0) (unhide G0)).mono ?_
  rintro e x1 ⟨rfl, hR1, hO1⟩
  have C1 := hide (show Rrf x1 c S (a : Int) e0 from (unhide C0).only hO1 (fun q => hbc q.symm))
  have G1 := hide (ety_only (unhide G0) (unhide R0) hO1)
  have O1 := hide hO1
  have R1 := hide hR1
  have hSS : x1.cell? ⟨w.heap.size, 1, none⟩ = some (.int .i64 N) ∧ True := ⟨by rw [(Blk.only (unhide O0) hO1 (by show ¬ w.heap.size = b; omega)).cell 1]; rfl, trivial⟩
  have OB1 := hide (Blk.only (unhide O0) hO1 (by show ¬ w.heap.size = b; omega))
  clear hR1 hO1 HA G0 R0 C0 O0
  refine hK.out _ _ hSS (fun hS => ?_)
  clear hSS hK K
  refine wpAnyH_ready (rs := [7]) (by kernel_rfl) (by simp) ?_
  refine AllReadyH.cons rfl (fun K hK => ?_) AllReadyH.nil
  simp only [List.getElem_toArray, List.getElem_cons_succ, List.getElem_cons_zero]
  go_simp
  refine (unhide HB _ c (unhide C1)).mono ?_
  rintro e x2 ⟨rfl, hR2, hO2⟩
  have HX := hide (show (Two x2 b c S a' e' ∧ ETy x2) ∧ Only (fun k => k = b ∨ k = c) w x2 from ⟨⟨⟨(unhide R1).only hO2 (fun q => hbc q), hR2, hbc, ha'⟩, ety_only2 (unhide G1) (unhide C1) hO2⟩, by
    refine Only.trans ?_ hO2 (fun _ _ q => Or.inr q)
    refine Only.trans ?_ (unhide O1) (fun _ _ q => Or.inl q)
    exact ((Only.refl _ w).alloc _).drew⟩)
  have hSS : x2.cell? ⟨w.heap.size, 1, none⟩ = some (.int .i64 N) ∧ True := ⟨by rw [(Blk.only (unhide OB1) hO2 (by show ¬ w.heap.size = c; omega)).cell 1]; rfl, trivial⟩
  clear hR2 hO2 HB G1 R1 C1 O1 OB1
  refine hK.out _ _ hSS (fun hS => ?_)
  clear hSS hK K
  refine wpAnyH_takeD 8 (some 52) (.bool true) rfl rfl (by kernel_rfl) (by kernel_rfl) (by kernel_rfl) (fun _ _ _ h => h) (Or.inl ⟨by rfl, fun w' hSw => by obtain ⟨q1, _⟩ := hSw; go_simp⟩) hS ?_
  simp only [Act.put, List.setIfInBounds_toArray, List.set_cons_zero, List.set_cons_succ]
  refine wpAnyH_takeD 9 (some 6) (.bool true) rfl rfl (by kernel_rfl) (by kernel_rfl) (by kernel_rfl) (fun _ _ _ h => h) (Or.inl ⟨by rfl, fun w' hSw => by obtain ⟨q1, _⟩ := hSw; go_simp⟩) hS ?_
  simp only [Act.put, List.setIfInBounds_toArray, List.set_cons_zero, List.set_cons_succ]
  refine wpAnyH_done (by kernel_rfl) ?_ _
  clear hS q0
  go_wp2
  go_ret
  exact ⟨rfl, a', e', unhide HX⟩
set_option maxRecDepth 100000 in
set_option maxHeartbeats 4000000 in
theorem readsVar (w : World) (b c : Nat) (S : ByteArray) (a : Nat) (e0 : Int) (h : Two w b c S a e0) (hg : ETy w) (hs : S.size ≤ 9223372036854775807) (N : Int) (L : Value) (T : ByteArray) :
    Calls Tryd.prog 8 #[.pointer (some ⟨b, 0, none⟩), .pointer (some ⟨c, 0, none⟩), .agg #[.int .i64 2, .int .i64 N, L, .string T]] w fun ev w' => ev = .returned (.bool true) ∧ ∃ a' e', (Two w' b c S a' e' ∧ ETy w') ∧ Only (fun k => k = b ∨ k = c) w w' := by
  have hbc := h.2.2.1
  have hbl : b < w.heap.size := Blk.lt h.1
  have hcl : c < w.heap.size := Blk.lt h.2.1
  have T0 := hide (two_alloc h (Obj.cells #[.int .i64 2, .int .i64 N, L, .string T] 31))
  have G0 := hide (ety_alloc hg (Obj.cells #[.int .i64 2, .int .i64 N, L, .string T] 31))
  obtain ⟨V, a', e', ha', hA, hB⟩ := tVar S a e0 h.2.2.2 hs
  have HA := hide hA
  have HB := hide hB
  clear hA hB h hg
  go_enter Tryd.func8, Tryd.ntmps8
  go_wp2_with fail
  refine (unhide HA _ b (unhide T0).1 (unhide G0)).mono ?_
  rintro e x1 ⟨rfl, hR1, hO1⟩
  have C1 := hide (show Rrf x1 c S (a : Int) e0 from (unhide T0).2.1.only hO1 (fun q => hbc q.symm))
  have G1 := hide (ety_only (unhide G0) (unhide T0).1 hO1)
  have O1 := hide hO1
  have R1 := hide hR1
  clear hR1 hO1 HA G0 T0
  go_wp2_with fail
  refine (unhide HB _ c (unhide C1)).mono ?_
  rintro e x2 ⟨rfl, hR2, hO2⟩
  have HX := hide (show (Two x2 b c S a' e' ∧ ETy x2) ∧ Only (fun k => k = b ∨ k = c) w x2 from ⟨⟨⟨(unhide R1).only hO2 (fun q => hbc q), hR2, hbc, ha'⟩, ety_only2 (unhide G1) (unhide C1) hO2⟩, by
    refine Only.trans ?_ hO2 (fun _ _ q => Or.inr q)
    refine Only.trans ?_ (unhide O1) (fun _ _ q => Or.inl q)
    exact (Only.refl _ w).alloc _⟩)
  clear hR2 hO2 HB G1 R1 C1 O1
  go_wp2
  go_ret
  exact ⟨rfl, a', e', unhide HX⟩
set_option maxRecDepth 100000 in
set_option maxHeartbeats 4000000 in
theorem readsDone (w : World) (b c : Nat) (S : ByteArray) (a : Nat) (e0 : Int) (h : Two w b c S a e0) (hg : ETy w) (_hs : S.size ≤ 9223372036854775807) (N : Int) (L : Value) (T : ByteArray) :
    Calls Tryd.prog 8 #[.pointer (some ⟨b, 0, none⟩), .pointer (some ⟨c, 0, none⟩), .agg #[.int .i64 5, .int .i64 N, L, .string T]] w fun ev w' => ev = .returned (.bool true) ∧ ∃ a' e', (Two w' b c S a' e' ∧ ETy w') ∧ Only (fun k => k = b ∨ k = c) w w' := by
  have hbc := h.2.2.1
  have hbl : b < w.heap.size := Blk.lt h.1
  have hcl : c < w.heap.size := Blk.lt h.2.1
  have T0 := hide (two_alloc h (Obj.cells #[.int .i64 5, .int .i64 N, L, .string T] 31))
  have G0 := hide (ety_alloc hg (Obj.cells #[.int .i64 5, .int .i64 N, L, .string T] 31))
  have HA := hide (fun W (hW : Rds W b (rst S a e0)) => rdone_any W b _ _ _ hW)
  have HB := hide (fun W (hW : Rrf W c S (a : Int) e0) => fdone_any W c S a e0 hW (S.extract a S.size) (by simp))
  have hE : doneE (rst S a e0).r (rst S a e0).e = doneE (S.extract a S.size) e0 := by
    unfold doneE rst
    by_cases he : e0 = 0
    · simp [he]
    · simp [he]
  have hT : (rst S a e0).t = (a : Int) := rfl
  rw [hE, hT] at HA
  generalize doneE (S.extract a S.size) e0 = E at *
  have ha' := h.2.2.2
  clear h hg hE hT
  go_enter Tryd.func8, Tryd.ntmps8
  go_wp2_with fail
  refine (unhide HA _ (unhide T0).1).mono ?_
  rintro e x1 ⟨rfl, hB1⟩
  have T1 := hide (show Two x1 b c S a e0 from ⟨Blk.below (unhide T0).1 hB1 (by simp; omega), Blk.below (unhide T0).2.1 hB1 (by simp; omega), hbc, ha'⟩)
  have G1 := hide ((unhide G0).below hB1 (unhide G0).lt)
  have O1 := hide (show Below w.heap.size w x1 from ((Below.refl _ w).alloc (Nat.le_refl _) _).trans (hB1.mono (by simp)))
  have hl1 : w.heap.size ≤ x1.heap.size := (unhide O1).size
  clear hB1 HA G0 T0
  go_wp2_with fail
  refine (unhide HB _ (unhide T1).2.1).mono ?_
  rintro e x2 ⟨rfl, hB2⟩
  have HX := hide (show (Two x2 b c S a e0 ∧ ETy x2) ∧ Only (fun k => k = b ∨ k = c) w x2 from ⟨⟨⟨Blk.below (unhide T1).1 hB2 (by omega), Blk.below (unhide T1).2.1 hB2 (by omega), hbc, ha'⟩, (unhide G1).below hB2 (unhide G1).lt⟩, Only.of_below ((unhide O1).trans (hB2.mono hl1))⟩)
  clear hB2 HB G1 O1 T1
  go_wp2
  go_ret
  exact ⟨rfl, a, e0, unhide HX⟩
set_option maxRecDepth 100000 in
set_option maxHeartbeats 4000000 in
theorem readsOther (w : World) (b c : Nat) (S : ByteArray) (a : Nat) (e0 : Int) (h : Two w b c S a e0) (hg : ETy w) (_hs : S.size ≤ 9223372036854775807) (N : Int) (L : Value) (T : ByteArray) (KD : Int) (h1 : KD ≠ 1) (h2 : KD ≠ 2) (h3 : KD ≠ 3) (h4 : KD ≠ 4) (h5 : KD ≠ 5) :
    Calls Tryd.prog 8 #[.pointer (some ⟨b, 0, none⟩), .pointer (some ⟨c, 0, none⟩), .agg #[.int .i64 KD, .int .i64 N, L, .string T]] w fun ev w' => ev = .returned (.bool true) ∧ ∃ a' e', (Two w' b c S a' e' ∧ ETy w') ∧ Only (fun k => k = b ∨ k = c) w w' := by
  have hbc := h.2.2.1
  have hbl : b < w.heap.size := Blk.lt h.1
  have hcl : c < w.heap.size := Blk.lt h.2.1
  have T0 := hide (two_alloc h (Obj.cells #[.int .i64 KD, .int .i64 N, L, .string T] 31))
  have G0 := hide (ety_alloc hg (Obj.cells #[.int .i64 KD, .int .i64 N, L, .string T] 31))
  have HX := hide (show (Two (w.alloc (Obj.cells #[.int .i64 KD, .int .i64 N, L, .string T] 31)) b c S a e0 ∧ ETy (w.alloc (Obj.cells #[.int .i64 KD, .int .i64 N, L, .string T] 31))) ∧ Only (fun k => k = b ∨ k = c) w (w.alloc (Obj.cells #[.int .i64 KD, .int .i64 N, L, .string T] 31)) from ⟨⟨unhide T0, unhide G0⟩, (Only.refl _ w).alloc _⟩)
  have g1 : (KD == 1) = false := by simpa using h1
  have g2 : (KD == 2) = false := by simpa using h2
  have g3 : (KD == 3) = false := by simpa using h3
  have g4 : (KD == 4) = false := by simpa using h4
  have g5 : (KD == 5) = false := by simpa using h5
  clear h hg T0 G0 h1 h2 h3 h4 h5
  go_enter Tryd.func8, Tryd.ntmps8
  go_wp2
  go_ret
  exact ⟨rfl, a, e0, unhide HX⟩
theorem reads_any (w : World) (b c : Nat) (S : ByteArray) (a : Nat) (e0 : Int) (h : Two w b c S a e0) (hg : ETy w) (hs : S.size ≤ 9223372036854775807) (KD N : Int) (L : Value) (T : ByteArray) :
    Calls Tryd.prog 8 #[.pointer (some ⟨b, 0, none⟩), .pointer (some ⟨c, 0, none⟩), .agg #[.int .i64 KD, .int .i64 N, L, .string T]] w fun ev w' => ev = .returned (.bool true) ∧ ∃ a' e', (Two w' b c S a' e' ∧ ETy w') ∧ Only (fun k => k = b ∨ k = c) w w' := by
  by_cases h1 : KD = 1
  · subst h1; exact readsNum w b c S a e0 h hg hs N L T
  by_cases h2 : KD = 2
  · subst h2; exact readsVar w b c S a e0 h hg hs N L T
  by_cases h3 : KD = 3
  · subst h3; exact readsRaw w b c S a e0 h hg hs N L T
  by_cases h4 : KD = 4
  · subst h4; exact readsText w b c S a e0 h hg hs N L T
  by_cases h5 : KD = 5
  · subst h5; exact readsDone w b c S a e0 h hg hs N L T
  exact readsOther w b c S a e0 h hg hs N L T KD h1 h2 h3 h4 h5
end Go.Proofs.YtkmgbicacbalfaaDoor
