import Derived.Test.YtabgcgdpeikieaaDoorPla
namespace Go.Proofs.YtabgcgdpeikieaaDoor
open Go.RowKit Go.Conc
set_option maxRecDepth 100000
theorem stood_off : Tryd.prog.stoodInHeld 31 = false := by kernel_rfl
theorem guard_off : Tryd.prog.eqGuardType Tryd.prog.depth 31 = false := by kernel_rfl
theorem run_eqO (a b : Int) (c d : ByteArray) (w : World) : (binOp .eql 31 (.agg #[.int .i64 a, .int .i64 b, .string c, .string d]) (.agg #[.int .i64 a, .int .i64 b, .string c, .string d])).run Tryd.prog w = .ok (.bool true) w := by
  rw [run_eql_struct, run_equalIn_struct _ _ _ _ _ (by kernel_rfl) stood_off]
  simp [Program.fieldsOf, Tryd.underlying31, go_sem]
theorem yieldsIf_eqO {ops : Array Oper} {S : World → Prop} {op : Oper} {a : Act} {r : Bool} (hw : Region.wanted op (yielded ops a.tmps) = true) (x y : Operand) (ho : op.op = .binOp .eql 31 x y 31) (A B : Array Value) (hx : a.eval x = .agg A) (hy : a.eval y = .agg B)
    (he : ∀ w, (binOp .eql 31 (.agg A) (.agg B)).run Tryd.prog w = .ok (.bool r) w) : YieldsIf Tryd.prog ops S op (.bool r) a :=
  .inl ⟨hw, fun w _ => by
    have e2 := run_eqGuard_agg (P := Tryd.prog) w .eql 31 x y A B guard_off
    unfold execOp
    simp only [ho, hx, hy, Sem.run_bind, e2, Result.andThen_ok, he w, Sem.run_pure]⟩
/-- The first challenge of a tenant. -/
theorem offer_first {w : World} {b : Nat} {c : Nat → Nat} {L : Nat → List Chl} (h : Bk w b c (fun _ => 0) L) (i : Nat) (hi : i < 8) (vol blk : Int) (dg wr dr : ByteArray) (hr : dr.size = 16) (hg : dg.size = 32) (hK : KTab w) (t : Int) (ht : t = (i : Int) + 1) :
    Calls Tryd.prog 12 #[.pointer (some ⟨b, 0, none⟩), .int .i64 t, .agg #[.int .i64 vol, .int .i64 blk, .string dg, .string wr], .string dr] w fun e w' => ∃ g, e = .returned (.tuple #[.int .i64 1, .slice (some ⟨g, 0, none⟩) 8 8, .int .i64 0]) ∧ w.heap.size ≤ g ∧ Blk w' g (arr8 (plO dr dg)) 78 ∧
      Bk w' b c (ups (fun _ => 0) i 1) (ups L i (pushL (L i) ⟨1, vol, blk, dg, wr, fun j => (((plO dr dg).getD j 0 : Nat) : Int)⟩)) ∧ Only (OnB b c) w w' := by
  subst ht
  exact offer_ok h i hi (Int.le_refl _) vol blk dg wr dr hr hg hK
theorem below_onB {N b : Nat} {c : Nat → Nat} {w0 w w' : World} (h : Below N w0 w) (ho : Only (OnB b c) w w') (hN : N ≤ w.heap.size) (hb : N ≤ b) (hc : ∀ i, i < 8 → N ≤ c i) : Below N w0 w' :=
  h.trans (ho.below hN (fun k hk q => by
    rcases q with q | ⟨i, hi, q⟩
    · omega
    · have := hc i hi; omega))
set_option maxHeartbeats 4000000 in
theorem known13_any (w : World) (hK : KTab w) : Calls Tryd.prog 9 #[] w fun e w' => e = .returned (.bool true) ∧ Below w.heap.size w w' := by
  obtain ⟨N, hn⟩ : ∃ N, w.heap.size = N := ⟨_, rfl⟩
  have HN := hide (bnew_any w)
  rw [hn] at HN
  have HKT := hide (fun (z : World) (h : Below N w z) => hK.low (w' := z) (by rw [hn]; exact h))
  have HOF := hide (fun (z : World) (h : Below N w z) => offer13_any 1 (by unfold I64; omega) z (unhide HKT z h))
  have HDR := hide (fun z : World => draw_any 2 z)
  clear hK
  rw [hn]
  go_enter Tryd.func9, Tryd.ntmps9
  go_wp2_with fail
  refine (unhide HN).mono ?_
  rintro e z1 ⟨rfl, hB1, hb1⟩
  have hz1 : N < z1.heap.size := hB1.blk.lt
  have HB1 := hide hB1
  have HL1 := hide hb1
  have HZ1 := hide hz1
  clear hB1 hb1 hz1 HN
  go_wp2_with fail
  refine (unhide HOF _ (unhide HL1)).mono ?_
  rintro e z2 ⟨rfl, hb⟩
  have HB2 := hide ((unhide HB1).below hb)
  have HL2 := hide ((unhide HL1).trans (hb.mono (Nat.le_of_lt (unhide HZ1))))
  clear hb HB1 HL1 HZ1
  go_wp2_with fail
  refine (unhide HDR _).mono ?_
  rintro e z3 ⟨rfl, hb⟩
  have hB3 := (unhide HB2).below hb
  have hL3 := (unhide HL2).trans (hb.mono (Nat.le_of_lt (unhide HB2).blk.lt))
  have HOK := hide (offer_first hB3 6 (by omega) (ofV 1 : Int) (ofB 1 : Int) (ofD 1) (ofW 1) (drB 2) (drB_size 2) (ofD_size 1) (unhide HKT _ hL3) 7 rfl)
  have HB3 := hide hB3
  have HL3 := hide hL3
  clear hb HB2 HL2 hB3 hL3
  go_wp2_with fail
  refine (unhide HOK).mono ?_
  rintro e z4 ⟨g, rfl, hg, hG, hB4, hO4⟩
  have hL4 := below_onB (unhide HL3) hO4 (Nat.le_of_lt (unhide HB3).blk.lt) (Nat.le_refl _) (fun i _ => by omega)
  generalize hx : (⟨1, (ofV 1 : Int), (ofB 1 : Int), ofD 1, ofW 1, fun j => (((plO (drB 2) (ofD 1)).getD j 0 : Nat) : Int)⟩ : Chl) = x at hB4
  have hxn : x.n = 1 := by rw [← hx]
  have ht1 : tk 1 (ups (fun _ => ([] : List Chl)) 6 (pushL [] x) 6) (ups (fun _ => ([] : List Chl)) 6 (pushL [] x) 6).length = some x := by rw [ups_same]; simp [pushL, tk, hxn]
  have hT1 := take_yes hB4 6 (by omega) 1 x ht1
  have HT1 := hide hT1
  have HB4 := hide hB4
  have HL4 := hide hL4
  have HXE := hide hx
  clear hg hG hB4 hO4 hL4 hT1 ht1 HB3 HL3 HOK
  rw [show (((6 : Nat) : Int) + 1) = 7 from rfl] at HT1
  go_wp2_with fail
  refine (unhide HT1).mono ?_
  rintro e z5 ⟨g2, rfl, hg2, hG2, hB5, hO5⟩
  have hL5 := below_onB (unhide HL4) hO5 (Nat.le_of_lt (unhide HB4).blk.lt) (Nat.le_refl _) (fun i _ => by omega)
  simp only []
  obtain ⟨G, hGG⟩ : ∃ G, z5.heap.size = G := ⟨_, rfl⟩
  obtain ⟨y5, hy5⟩ : ∃ Z, z5.alloc (.cells #[.int .i64 0, .int .i64 0, .string ⟨#[]⟩, .string ⟨#[]⟩] 31) = Z := ⟨_, rfl⟩
  have hlo5 : Below z5.heap.size z5 y5 := by rw [← hy5]; exact (Below.refl _ _).alloc (Nat.le_refl _) _
  have hN5 : Blk y5 G #[.int .i64 0, .int .i64 0, .string ⟨#[]⟩, .string ⟨#[]⟩] 31 := by rw [← hy5, ← hGG]; exact Blk.new _ _ _
  have hNG : N < G := by rw [← hGG]; exact hB5.blk.lt
  have hGc : ∀ j, j < 8 → (fun i => N + 1 + i) j < G := fun j hj => by rw [← hGG]; exact (hB5.ch j hj).lt
  have HX5 := hide (And.intro (hB5.below hlo5) (And.intro hN5 (hL5.trans (hlo5.mono (Nat.le_of_lt hB5.blk.lt)))))
  have HGN := hide hNG
  have HGC := hide hGc
  have HXV := hide (show x.v = (ofV 1 : Int) ∧ x.k = (ofB 1 : Int) ∧ x.d = ofD 1 ∧ x.q = ofW 1 from by rw [← unhide HXE]; exact ⟨rfl, rfl, rfl, rfl⟩)
  rw [(unhide HXV).1, (unhide HXV).2.1, (unhide HXV).2.2.1, (unhide HXV).2.2.2]
  clear hg2 hG2 hB5 hO5 hL5 hlo5 hN5 hNG hGc HT1 HB4 HL4
  rename_i K8 a8 K9 a9
  have A8 := hide a8
  clear a8
  go_step
  go_wp2_with (refine wpList_store_mid rfl 31 (.tmp 5) (.tmp 25) rfl G 0 #[.int .i64 (ofV 1 : Int), .int .i64 (ofB 1 : Int), .string (ofD 1), .string (ofW 1)] rfl rfl (blk_there (unhide HX5).2.1 4 rfl) (by rw [sizeOff]; rfl) (by simp [Value.oneCell']) ?_)
  obtain ⟨x1, x2, x3⟩ := unhide HX5
  have ho6 : Only (fun x => x = G) y5 (y5.setCells G 0 [.int .i64 (ofV 1 : Int), .int .i64 (ofB 1 : Int), .string (ofD 1), .string (ofW 1)]) := only_cells G 0 _ rfl
  have hW6 := setCells_all x2 [.int .i64 (ofV 1 : Int), .int .i64 (ofB 1 : Int), .string (ofD 1), .string (ofW 1)] rfl
  have hgn := unhide HGN
  have hB6 := x1.only ho6 (by omega) (fun j hj => by have := unhide HGC j hj; omega)
  have hL6 := x3.trans (ho6.below (by have := x2.lt; omega) (fun k hk => by omega))
  generalize y5.setCells G 0 [.int .i64 (ofV 1 : Int), .int .i64 (ofB 1 : Int), .string (ofD 1), .string (ofW 1)] = z6 at *
  have ht2 : tk 1 (ups (ups (fun _ => ([] : List Chl)) 6 (pushL [] x)) 6 (rmv 1 (ups (fun _ => ([] : List Chl)) 6 (pushL [] x) 6)) 6) (ups (ups (fun _ => ([] : List Chl)) 6 (pushL [] x)) 6 (rmv 1 (ups (fun _ => ([] : List Chl)) 6 (pushL [] x) 6)) 6).length = none := by
    rw [ups_same, ups_same]
    simp [pushL, rmv, hxn, tk]
  have HT2 := hide (take_no hB6 6 (by omega) 1 ht2)
  rw [show (((6 : Nat) : Int) + 1) = 7 from rfl] at HT2
  have HX6 := hide (And.intro hB6 (And.intro hW6 hL6))
  clear x1 x2 x3 ho6 hW6 hgn hB6 hL6 ht2 HX5 hy5 hGG hx HXE HXV hxn
  clear y5
  refine unhide A8 _ _ ?_
  clear A8 K8
  go_wp2_with fail
  refine (unhide HT2).mono ?_
  rintro e z7 ⟨rfl, hB7, hO7⟩
  obtain ⟨x1, x2, x3⟩ := unhide HX6
  have hgn := unhide HGN
  have hL7 := below_onB x3 hO7 (Nat.le_of_lt x1.blk.lt) (Nat.le_refl _) (fun i _ => by omega)
  have hW7 := x2.only hO7 (fun q => by
    rcases q with q | ⟨i, hi, q⟩
    · omega
    · have h9 := unhide HGC i hi
      have q9 : G = N + 1 + i := q
      omega)
  have hW7l := hW7.lt
  obtain ⟨G8, hG8⟩ : ∃ G, z7.heap.size = G := ⟨_, rfl⟩
  obtain ⟨y8, hy8⟩ : ∃ Z, z7.alloc (.cells #[.int .i64 0, .int .i64 0, .string ⟨#[]⟩, .string ⟨#[]⟩] 31) = Z := ⟨_, rfl⟩
  have hlo8 : Below z7.heap.size z7 y8 := by rw [← hy8]; exact (Below.refl _ _).alloc (Nat.le_refl _) _
  have hN8 : Blk y8 G8 #[.int .i64 0, .int .i64 0, .string ⟨#[]⟩, .string ⟨#[]⟩] 31 := by rw [← hy8, ← hG8]; exact Blk.new _ _ _
  have HX8 := hide (And.intro hN8 (And.intro (hW7.below hlo8 hW7l) (hL7.trans (hlo8.mono (by omega)))))
  have HG8 := hide (show G < G8 from by omega)
  clear x1 x2 x3 hB7 hO7 hgn hL7 hW7 hW7l hlo8 hN8 HT2 HX6
  simp only []
  rename_i K8 a8 K9 a9
  have A8 := hide a8
  clear a8
  go_step
  go_wp2_with (refine wpList_store_mid rfl 31 (.tmp 8) (.tmp 31) rfl G8 0 #[.int .i64 0, .int .i64 0, .string ⟨#[]⟩, .string ⟨#[]⟩] rfl rfl (blk_there (unhide HX8).1 4 rfl) (by rw [sizeOff]; rfl) (by simp [Value.oneCell']) ?_)
  obtain ⟨x1, x2, x3⟩ := unhide HX8
  have ho9 : Only (fun x => x = G8) y8 (y8.setCells G8 0 (#[.int .i64 0, .int .i64 0, .string ⟨#[]⟩, .string ⟨#[]⟩] : Array Value).toList) := only_cells G8 0 _ rfl
  have hgn := unhide HGN
  have hg8 := unhide HG8
  have HS7 := hide (show Blk (y8.setCells G8 0 (#[.int .i64 0, .int .i64 0, .string ⟨#[]⟩, .string ⟨#[]⟩] : Array Value).toList).drew G #[.int .i64 (ofV 1 : Int), .int .i64 (ofB 1 : Int), .string (ofD 1), .string (ofW 1)] 31 ∧ Below N w (y8.setCells G8 0 (#[.int .i64 0, .int .i64 0, .string ⟨#[]⟩, .string ⟨#[]⟩] : Array Value).toList).drew from ⟨x2.only ho9.drew (fun e => by have e9 : G = G8 := e; omega), (x3.trans (ho9.below (B := N) (by have := x1.lt; omega) (fun k hk e => by have e9 : k = G8 := e; omega))).drew⟩)
  simp only [] at HS7 ⊢
  generalize y8.setCells G8 0 _ = z8 at *
  clear x1 x2 x3 ho9 hgn hg8 HX8 hy8 hG8
  clear y8
  refine unhide A8 _ _ ?_
  clear A8 K8
  go_wp2
  refine wp_region_held_drew (S := fun W => Blk W G #[.int .i64 (ofV 1 : Int), .int .i64 (ofB 1 : Int), .string (ofD 1), .string (ofW 1)] 31 ∧ Below N w W) (by kernel_rfl) (unhide HS7) ?_
  intro hS
  refine wpAnyH_takeD 0 (some 34) (.int .i64 1) rfl rfl (by kernel_rfl) (by kernel_rfl) (by kernel_rfl) (fun _ _ _ h => h) (Or.inl ⟨by rfl, fun w hSw => by clear hSw; go_simp⟩) hS ?_
  simp only [Act.put, List.setIfInBounds_toArray, List.set_cons_zero, List.set_cons_succ]
  refine wpAnyH_takeD 1 (some 35) (.bool true) rfl rfl (by kernel_rfl) (by kernel_rfl) (by kernel_rfl) (fun _ _ _ h => h) (Or.inl ⟨by rfl, fun w hSw => by clear hSw; go_simp⟩) hS ?_
  simp only [Act.put, List.setIfInBounds_toArray, List.set_cons_zero, List.set_cons_succ]
  refine wpAnyH_takeD 2 (some 36) (.bool true) rfl rfl (by kernel_rfl) (by kernel_rfl) (by kernel_rfl) (fun _ _ _ h => h) (Or.inl ⟨by rfl, fun w hSw => by clear hSw; go_simp⟩) hS ?_
  simp only [Act.put, List.setIfInBounds_toArray, List.set_cons_zero, List.set_cons_succ]
  refine wpAnyH_takeD 3 (some 37) (.slice (some ⟨g, 0, none⟩) 8 8) rfl rfl (by kernel_rfl) (by kernel_rfl) (by kernel_rfl) (fun _ _ _ h => h) (Or.inl ⟨by rfl, fun w hSw => by clear hSw; go_simp⟩) hS ?_
  simp only [Act.put, List.setIfInBounds_toArray, List.set_cons_zero, List.set_cons_succ]
  refine wpAnyH_takeD 4 (some 38) (.int .i64 8) rfl rfl (by kernel_rfl) (by kernel_rfl) (by kernel_rfl) (fun _ _ _ h => h) (Or.inl ⟨by rfl, fun w hSw => by clear hSw; go_simp⟩) hS ?_
  simp only [Act.put, List.setIfInBounds_toArray, List.set_cons_zero, List.set_cons_succ]
  refine wpAnyH_takeD 5 (some 39) (.bool true) rfl rfl (by kernel_rfl) (by kernel_rfl) (by kernel_rfl) (fun _ _ _ h => h) (Or.inl ⟨by rfl, fun w hSw => by clear hSw; go_simp⟩) hS ?_
  simp only [Act.put, List.setIfInBounds_toArray, List.set_cons_zero, List.set_cons_succ]
  refine wpAnyH_takeD 6 (some 40) (.bool true) rfl rfl (by kernel_rfl) (by kernel_rfl) (by kernel_rfl) (fun _ _ _ h => h) (Or.inl ⟨by rfl, fun w hSw => by clear hSw; go_simp⟩) hS ?_
  simp only [Act.put, List.setIfInBounds_toArray, List.set_cons_zero, List.set_cons_succ]
  refine wpAnyH_takeD 7 (some 41) (.bool true) rfl rfl (by kernel_rfl) (by kernel_rfl) (by kernel_rfl) (fun _ _ _ h => h) (Or.inl ⟨by rfl, fun w hSw => by clear hSw; go_simp⟩) hS ?_
  simp only [Act.put, List.setIfInBounds_toArray, List.set_cons_zero, List.set_cons_succ]
  refine wpAnyH_takeD 8 (some 42) (.int .i64 0) rfl rfl (by kernel_rfl) (by kernel_rfl) (by kernel_rfl) (fun _ _ _ h => h) (Or.inl ⟨by rfl, fun w hSw => by clear hSw; go_simp⟩) hS ?_
  simp only [Act.put, List.setIfInBounds_toArray, List.set_cons_zero, List.set_cons_succ]
  refine wpAnyH_takeD 9 (some 43) (.bool true) rfl rfl (by kernel_rfl) (by kernel_rfl) (by kernel_rfl) (fun _ _ _ h => h) (Or.inl ⟨by rfl, fun w hSw => by clear hSw; go_simp⟩) hS ?_
  simp only [Act.put, List.setIfInBounds_toArray, List.set_cons_zero, List.set_cons_succ]
  refine wpAnyH_takeD 10 (some 44) (.bool true) rfl rfl (by kernel_rfl) (by kernel_rfl) (by kernel_rfl) (fun _ _ _ h => h) (Or.inl ⟨by rfl, fun w hSw => by clear hSw; go_simp⟩) hS ?_
  simp only [Act.put, List.setIfInBounds_toArray, List.set_cons_zero, List.set_cons_succ]
  refine wpAnyH_takeD 11 (some 45) (.bool true) rfl rfl (by kernel_rfl) (by kernel_rfl) (by kernel_rfl) (fun _ _ _ h => h) (Or.inl ⟨by rfl, fun w hSw => by clear hSw; go_simp⟩) hS ?_
  simp only [Act.put, List.setIfInBounds_toArray, List.set_cons_zero, List.set_cons_succ]
  refine wpAnyH_takeD 12 (some 46) (.agg [.int .i64 (ofV 1 : Int), .int .i64 (ofB 1 : Int), .string (ofD 1), .string (ofW 1)].toArray) rfl rfl (by kernel_rfl) (by kernel_rfl) (by kernel_rfl) (fun _ _ _ h => h) (yieldsIf_load_mid rfl 31 (.tmp 5) rfl G 0 rfl [.int .i64 (ofV 1 : Int), .int .i64 (ofB 1 : Int), .string (ofD 1), .string (ofW 1)] _ (fun W hW => blk_range hW.1) Tryd.underlying31 rfl (by rw [sizeOff]; rfl)) hS ?_
  simp only [Act.put, List.setIfInBounds_toArray, List.set_cons_zero, List.set_cons_succ]
  refine wpAnyH_ready (rs := [13]) (by kernel_rfl) (by simp) ?_
  refine AllReadyH.cons rfl (fun K hK => ?_) AllReadyH.nil
  simp only [List.getElem_toArray, List.getElem_cons_succ, List.getElem_cons_zero]
  go_simp
  refine (unhide HOF _ hS.2).mono ?_
  rintro e z9 ⟨rfl, hb9⟩
  have hS9 : Blk z9 G #[.int .i64 (ofV 1 : Int), .int .i64 (ofB 1 : Int), .string (ofD 1), .string (ofW 1)] 31 ∧ Below N w z9 := ⟨hS.1.below hb9 hS.1.lt, hS.2.trans (hb9.mono (by have := unhide HGN; have := hS.1.lt; omega))⟩
  refine hK.out _ _ hS9 (fun hS => ?_)
  clear hK K
  refine wpAnyH_takeD 14 (some 48) (.bool true) rfl rfl (by kernel_rfl) (by kernel_rfl) (by kernel_rfl) (fun _ _ _ h => h) (yieldsIf_eqO rfl (.tmp 46) (.tmp 47) rfl _ _ rfl rfl (run_eqO _ _ _ _)) hS ?_
  simp only [Act.put, List.setIfInBounds_toArray, List.set_cons_zero, List.set_cons_succ]
  refine wpAnyH_takeD 15 (some 49) (.bool true) rfl rfl (by kernel_rfl) (by kernel_rfl) (by kernel_rfl) (fun _ _ _ h => h) (Or.inl ⟨by rfl, fun w hSw => by clear hSw; go_simp⟩) hS ?_
  simp only [Act.put, List.setIfInBounds_toArray, List.set_cons_zero, List.set_cons_succ]
  refine wpAnyH_takeD 16 (some 50) (.bool true) rfl rfl (by kernel_rfl) (by kernel_rfl) (by kernel_rfl) (fun _ _ _ h => h) (Or.inl ⟨by rfl, fun w hSw => by clear hSw; go_simp⟩) hS ?_
  simp only [Act.put, List.setIfInBounds_toArray, List.set_cons_zero, List.set_cons_succ]
  refine wpAnyH_takeD 17 (some 51) (.slice (some ⟨g2, 5, none⟩) 8 8) rfl rfl (by kernel_rfl) (by kernel_rfl) (by kernel_rfl) (fun _ _ _ h => h) (Or.inl ⟨by rfl, fun w hSw => by clear hSw; go_simp⟩) hS ?_
  simp only [Act.put, List.setIfInBounds_toArray, List.set_cons_zero, List.set_cons_succ]
  refine wpAnyH_takeD 18 (some 52) (.int .i64 8) rfl rfl (by kernel_rfl) (by kernel_rfl) (by kernel_rfl) (fun _ _ _ h => h) (Or.inl ⟨by rfl, fun w hSw => by clear hSw; go_simp⟩) hS ?_
  simp only [Act.put, List.setIfInBounds_toArray, List.set_cons_zero, List.set_cons_succ]
  refine wpAnyH_takeD 19 (some 53) (.bool true) rfl rfl (by kernel_rfl) (by kernel_rfl) (by kernel_rfl) (fun _ _ _ h => h) (Or.inl ⟨by rfl, fun w hSw => by clear hSw; go_simp⟩) hS ?_
  simp only [Act.put, List.setIfInBounds_toArray, List.set_cons_zero, List.set_cons_succ]
  refine wpAnyH_takeD 20 (some 54) (.bool true) rfl rfl (by kernel_rfl) (by kernel_rfl) (by kernel_rfl) (fun _ _ _ h => h) (Or.inl ⟨by rfl, fun w hSw => by clear hSw; go_simp⟩) hS ?_
  simp only [Act.put, List.setIfInBounds_toArray, List.set_cons_zero, List.set_cons_succ]
  refine wpAnyH_takeD 21 (some 55) (.bool true) rfl rfl (by kernel_rfl) (by kernel_rfl) (by kernel_rfl) (fun _ _ _ h => h) (Or.inl ⟨by rfl, fun w hSw => by clear hSw; go_simp⟩) hS ?_
  simp only [Act.put, List.setIfInBounds_toArray, List.set_cons_zero, List.set_cons_succ]
  refine wpAnyH_takeD 22 (some 56) (.int .i64 0) rfl rfl (by kernel_rfl) (by kernel_rfl) (by kernel_rfl) (fun _ _ _ h => h) (Or.inl ⟨by rfl, fun w hSw => by clear hSw; go_simp⟩) hS ?_
  simp only [Act.put, List.setIfInBounds_toArray, List.set_cons_zero, List.set_cons_succ]
  refine wpAnyH_takeD 23 (some 57) (.bool true) rfl rfl (by kernel_rfl) (by kernel_rfl) (by kernel_rfl) (fun _ _ _ h => h) (Or.inl ⟨by rfl, fun w hSw => by clear hSw; go_simp⟩) hS ?_
  simp only [Act.put, List.setIfInBounds_toArray, List.set_cons_zero, List.set_cons_succ]
  refine wpAnyH_takeD 24 (some 58) (.bool true) rfl rfl (by kernel_rfl) (by kernel_rfl) (by kernel_rfl) (fun _ _ _ h => h) (Or.inl ⟨by rfl, fun w hSw => by clear hSw; go_simp⟩) hS ?_
  simp only [Act.put, List.setIfInBounds_toArray, List.set_cons_zero, List.set_cons_succ]
  refine wpAnyH_takeD 25 (some 59) (.bool true) rfl rfl (by kernel_rfl) (by kernel_rfl) (by kernel_rfl) (fun _ _ _ h => h) (Or.inl ⟨by rfl, fun w hSw => by clear hSw; go_simp⟩) hS ?_
  simp only [Act.put, List.setIfInBounds_toArray, List.set_cons_zero, List.set_cons_succ]
  refine wpAnyH_takeD 26 (some 60) (.int .i64 130) rfl rfl (by kernel_rfl) (by kernel_rfl) (by kernel_rfl) (fun _ _ _ h => h) (Or.inl ⟨by rfl, fun w hSw => by clear hSw; go_simp⟩) hS ?_
  simp only [Act.put, List.setIfInBounds_toArray, List.set_cons_zero, List.set_cons_succ]
  refine wpAnyH_takeD 27 (some 61) (.bool true) rfl rfl (by kernel_rfl) (by kernel_rfl) (by kernel_rfl) (fun _ _ _ h => h) (Or.inl ⟨by rfl, fun w hSw => by clear hSw; go_simp⟩) hS ?_
  simp only [Act.put, List.setIfInBounds_toArray, List.set_cons_zero, List.set_cons_succ]
  refine wpAnyH_takeD 28 (some 62) (.bool true) rfl rfl (by kernel_rfl) (by kernel_rfl) (by kernel_rfl) (fun _ _ _ h => h) (Or.inl ⟨by rfl, fun w hSw => by clear hSw; go_simp⟩) hS ?_
  simp only [Act.put, List.setIfInBounds_toArray, List.set_cons_zero, List.set_cons_succ]
  refine wpAnyH_takeD 29 (some 0) (.bool true) rfl rfl (by kernel_rfl) (by kernel_rfl) (by kernel_rfl) (fun _ _ _ h => h) (Or.inl ⟨by rfl, fun w hSw => by clear hSw; go_simp⟩) hS ?_
  simp only [Act.put, List.setIfInBounds_toArray, List.set_cons_zero]
  refine wpAnyH_done (by kernel_rfl) ?_ _
  have HS8 := hide hS
  clear hS
  go_wp2
  go_ret
  exact ⟨rfl, (unhide HS8).2⟩
end Go.Proofs.YtabgcgdpeikieaaDoor
