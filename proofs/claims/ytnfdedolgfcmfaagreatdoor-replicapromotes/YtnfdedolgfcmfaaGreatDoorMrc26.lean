import Derived.Test.YtnfdedolgfcmfaaGreatDoorMrc25
namespace Go.Proofs.YtnfdedolgfcmfaaGreatDoor
open Go.RowKit
set_option maxRecDepth 100000
theorem Sg.drew {w : World} {b g : Nat} {l : List ByteArray} (h : Sg w b g l) : Sg w.drew b g l := h.below ((Below.refl _ w).drew)
theorem own_low {w : World} {b b' : Nat} {e : TypeId} {k n : Nat} {v : Value} {xs : List Value} (h : w.ownsRow b e k v n xs) (hb : b' ≤ b) : w.ownsRow b' e k v n xs := by
  refine ⟨h.1, ?_⟩
  rcases h.2 with q | ⟨g, cap, cur, q1, q2, q3⟩
  · exact .inl q
  · exact .inr ⟨g, cap, cur, q1, Nat.le_trans hb q2, q3⟩
/-- a frame that is answered -/
def FrQ (w : World) (k z f t : Nat) (R : ByteArray) (L : List (Nat × ByteArray)) (n : Nat) (e : Ending) (w' : World) : Prop := ∃ p c, e = .returned (.agg #[.int .i64 (k : Int), .int .i64 (z : Int), .int .i64 (f : Int), .int .i64 (t : Int), .string R, .slice p n c]) ∧ w'.ownsRow w.heap.size 149 2 (.slice p n c) n (wrR L)
set_option maxHeartbeats 8000000 in
theorem ywhole_any (w : World) (g gl t z n : Nat) (M : List ByteArray) (hG : Sg w g gl M) (hK : KTab w) (hM : imB M = true) (hz : M.length = z) (L : List (Nat × ByteArray)) (hL : otU (List.replicate z (zR 256)) M z = L) (hn : L.length = n) : Calls Tryz.prog 76 #[.int .i64 (t : Int), .pointer (some ⟨g, 0, none⟩)] w fun e w' => FrQ w 1 z t t (rt M) L n e w' ∧ Sg w' g gl M ∧ Only (fun k => k = g) w w' := by
  have hzl := imB_len hM
  have hT := imB_sht hM
  have hB0 := Blk.new w 97 #[.int .i64 0, .int .i64 0, .int .i64 0, .int .i64 0, .string ⟨#[]⟩, .slice none 0 0]
  have hb0 : Below w.heap.size w (w.alloc (Obj.cells #[.int .i64 0, .int .i64 0, .int .i64 0, .int .i64 0, .string ⟨#[]⟩, .slice none 0 0] 97)) := (Below.refl _ _).alloc (Nat.le_refl _) _
  obtain ⟨y0, hy0⟩ : ∃ q, w.alloc (Obj.cells #[.int .i64 0, .int .i64 0, .int .i64 0, .int .i64 0, .string ⟨#[]⟩, .slice none 0 0] 97) = q := ⟨_, rfl⟩
  obtain ⟨h, hhe⟩ : ∃ q, w.heap.size = q := ⟨_, rfl⟩
  have hbl := hG.lt
  rw [hy0] at hB0 hb0
  have hS0 := hG.below hb0
  have hK0 : KTab y0 := hK.below hb0 hK.1
  rw [hhe] at hB0 hb0 hbl
  have HY := hide (And.intro hy0 hhe)
  have HHS := hide (show w.heap.size ≤ h by omega)
  have hne : (⟨h, 0, none⟩ : Addr).block ≠ (⟨g, 0, none⟩ : Addr).block := by show h ≠ g; omega
  have HO0 := hide (show Only (fun k => k = g) w y0 from Only.of_below (by rw [hhe]; exact hb0))
  have c0 : y0.cell? ⟨g, 0, none⟩ = some (.slice (some ⟨gl, 0, none⟩) z z) := by rw [hS0.c0, hz]
  have HRT := hide (yrootG_any y0.drew g gl M (hS0.below ((Below.refl _ _).drew)) hK0 hT (by omega))
  obtain ⟨R, hRe⟩ : ∃ q, rt M = q := ⟨_, rfl⟩
  have HZ := hide (show M.length = z ∧ 1 ≤ z ∧ z ≤ 1024 from ⟨hz, by omega, by omega⟩)
  have HB0 := hide hB0
  have HOT := hide (show ∀ y2 gb, Blk y2 gb (strs (List.replicate z (zR 256))).toArray 9 → Sg y2 g gl M → Calls Tryz.prog 107 #[.slice (some ⟨gb, 0, none⟩) z z, .slice (some ⟨gl, 0, none⟩) z z] y2 (fun e w' => ∃ v, e = .returned v ∧ w'.ownsRow y2.heap.size 149 2 v n (wrR L) ∧ Below y2.heap.size y2 w') from fun y2 gb hb hs => by
    have := yothers_any (List.replicate z (zR 256)) M z hz List.length_replicate (by omega) y2 y2.heap.size y2.heap.size z z _ _ (Blk.sb hb) hs.lst.sb (Nat.le_refl _) (Nat.le_refl _)
    rwa [hL, hn] at this)
  have HNX := hide (show ∀ y1 y2 y3 pv cv, (Sg y1 g gl M ∧ Only (fun k => k = g) y0.drew y1) → (Sg y2 g gl M ∧ Below y1.heap.size y1 y2) → y3.ownsRow y2.heap.size 149 2 (.slice pv n cv) n (wrR L) → Below y2.heap.size y2 y3 → y3.cell? ⟨g, 0, none⟩ = some (.slice (some ⟨gl, 0, none⟩) z z) ∧ y3.cell? ⟨h, 0, none⟩ = some (.int .i64 0) ∧ y3.cell? ⟨h, 1, none⟩ = some (.int .i64 0) ∧ y3.cell? ⟨h, 2, none⟩ = some (.int .i64 0) ∧ y3.cell? ⟨h, 3, none⟩ = some (.int .i64 0) ∧ y3.cell? ⟨h, 4, none⟩ = some (.string ⟨#[]⟩) ∧ y3.cell? ⟨h, 5, none⟩ = some (.slice none 0 0) ∧ y3.frozen? ⟨h, 0, none⟩ = false ∧ y3.frozen? ⟨h, 1, none⟩ = false ∧ y3.frozen? ⟨h, 2, none⟩ = false ∧ y3.frozen? ⟨h, 3, none⟩ = false ∧ y3.frozen? ⟨h, 4, none⟩ = false ∧ y3.frozen? ⟨h, 5, none⟩ = false ∧ Blk ((((((y3.setCell ⟨h, 0, none⟩ (.int .i64 1)).setCell ⟨h, 1, none⟩ (.int .i64 (z : Int))).setCell ⟨h, 2, none⟩ (.int .i64 (t : Int))).setCell ⟨h, 3, none⟩ (.int .i64 (t : Int))).setCell ⟨h, 4, none⟩ (.string R)).setCell ⟨h, 5, none⟩ (.slice pv n cv)) h #[.int .i64 1, .int .i64 (z : Int), .int .i64 (t : Int), .int .i64 (t : Int), .string R, .slice pv n cv] 97 ∧ ((((((y3.setCell ⟨h, 0, none⟩ (.int .i64 1)).setCell ⟨h, 1, none⟩ (.int .i64 (z : Int))).setCell ⟨h, 2, none⟩ (.int .i64 (t : Int))).setCell ⟨h, 3, none⟩ (.int .i64 (t : Int))).setCell ⟨h, 4, none⟩ (.string R)).setCell ⟨h, 5, none⟩ (.slice pv n cv)).ownsRow w.heap.size 149 2 (.slice pv n cv) n (wrR L) ∧ Sg ((((((y3.setCell ⟨h, 0, none⟩ (.int .i64 1)).setCell ⟨h, 1, none⟩ (.int .i64 (z : Int))).setCell ⟨h, 2, none⟩ (.int .i64 (t : Int))).setCell ⟨h, 3, none⟩ (.int .i64 (t : Int))).setCell ⟨h, 4, none⟩ (.string R)).setCell ⟨h, 5, none⟩ (.slice pv n cv)) g gl M ∧ Only (fun k => k = g) w ((((((y3.setCell ⟨h, 0, none⟩ (.int .i64 1)).setCell ⟨h, 1, none⟩ (.int .i64 (z : Int))).setCell ⟨h, 2, none⟩ (.int .i64 (t : Int))).setCell ⟨h, 3, none⟩ (.int .i64 (t : Int))).setCell ⟨h, 4, none⟩ (.string R)).setCell ⟨h, 5, none⟩ (.slice pv n cv)) from fun y1 y2 y3 pv cv hs1 hs2 hr hb3 => by
    have k3 := hs2.1.below hb3
    have o1 : Only (fun k => k = g) y0 y1 := ⟨⟨hs1.2.1.os, hs1.2.1.tape, hs1.2.1.output, hs1.2.1.size, hs1.2.1.block⟩, hs1.2.2⟩
    have k1 := ((((unhide HB0).only o1 (by show ¬ h = g; exact hne)).below hs2.2 ((unhide HB0).only o1 (by show ¬ h = g; exact hne)).lt))
    have kb := k1.below hb3 k1.lt
    have hsz : w.heap.size ≤ y2.heap.size := by
      have u1 := (unhide HO0).size
      have u2 := o1.size
      have u3 := hs2.2.size
      omega
    have ow : Only (fun k => k = g) w y3 := (((unhide HO0).trans o1 (fun _ _ q => q)).trans (Only.of_below (P := fun k => k = g) hs2.2) (fun _ _ q => q)).trans (Only.of_below (P := fun k => k = g) hb3) (fun _ _ q => q)
    have oh : Only (fun k => k = h) y3 ((((((y3.setCell ⟨h, 0, none⟩ (.int .i64 1)).setCell ⟨h, 1, none⟩ (.int .i64 (z : Int))).setCell ⟨h, 2, none⟩ (.int .i64 (t : Int))).setCell ⟨h, 3, none⟩ (.int .i64 (t : Int))).setCell ⟨h, 4, none⟩ (.string R)).setCell ⟨h, 5, none⟩ (.slice pv n cv)) := (((((((Only.refl (fun k => k = h) y3).setCell _ _ (fun _ => rfl)).setCell _ _ (fun _ => rfl)).setCell _ _ (fun _ => rfl)).setCell _ _ (fun _ => rfl)).setCell _ _ (fun _ => rfl)).setCell _ _ (fun _ => rfl))
    refine ⟨by rw [k3.c0, (unhide HZ).1], by rw [kb.cell 0]; rfl, by rw [kb.cell 1]; rfl, by rw [kb.cell 2]; rfl, by rw [kb.cell 3]; rfl, by rw [kb.cell 4]; rfl, by rw [kb.cell 5]; rfl, kb.frozen 0, kb.frozen 1, kb.frozen 2, kb.frozen 3, kb.frozen 4, kb.frozen 5, ((((((kb.set 0 (.int .i64 1)).set 1 (.int .i64 (z : Int))).set 2 (.int .i64 (t : Int))).set 3 (.int .i64 (t : Int))).set 4 (.string R)).set 5 (.slice pv n cv)), own_low (owns_only hr oh (fun k hk e => by have := (hr.lt k hk).1; have := k1.lt; omega)) hsz, k3.only oh (fun e => hne e.symm) (fun kk cc e hk => by subst e; exact kb.tyne hk (by decide) rfl), ((((((ow.setCell _ _ (fun q => absurd q (by have q9 := unhide HHS; show ¬ h < _; omega))).setCell _ _ (fun q => absurd q (by have q9 := unhide HHS; show ¬ h < _; omega))).setCell _ _ (fun q => absurd q (by have q9 := unhide HHS; show ¬ h < _; omega))).setCell _ _ (fun q => absurd q (by have q9 := unhide HHS; show ¬ h < _; omega))).setCell _ _ (fun q => absurd q (by have q9 := unhide HHS; show ¬ h < _; omega))).setCell _ _ (fun q => absurd q (by have q9 := unhide HHS; show ¬ h < _; omega)))⟩)
  rw [hRe] at HRT ⊢
  clear hB0 hb0 hG hS0 hK hK0 hT hy0 hRe hM hz hL hn hbl hhe hzl
  go_enter Tryz.func76, Tryz.ntmps76
  go_wp2_with (rw [(unhide HY).1, (unhide HY).2])
  refine wp_region_held_drew (S := fun W => W.cell? ⟨g, 0, none⟩ = some (.slice (some ⟨gl, 0, none⟩) z z)) (by kernel_rfl) c0 ?_
  intro hS
  refine wpAnyH_takeD 0 (some 11) (.int .i64 (z : Int)) rfl rfl (by kernel_rfl) (by kernel_rfl) (by kernel_rfl) (fun _ _ _ h => h) (Or.inl ⟨by rfl, fun w hSw => by have q1 := hSw; clear hSw; go_simp; try (intro hbad; omega)⟩) hS ?_
  simp only [Act.put, List.setIfInBounds_toArray, List.set_cons_zero, List.set_cons_succ]
  refine wpAnyH_takeD 1 (some 12) (.int .i64 (t : Int)) rfl rfl (by kernel_rfl) (by kernel_rfl) (by kernel_rfl) (fun _ _ _ h => h) (Or.inl ⟨by rfl, fun w hSw => by have q1 := hSw; clear hSw; go_simp; try (intro hbad; omega)⟩) hS ?_
  simp only [Act.put, List.setIfInBounds_toArray, List.set_cons_zero, List.set_cons_succ]
  refine wpAnyH_takeD 2 (some 13) (.int .i64 (t : Int)) rfl rfl (by kernel_rfl) (by kernel_rfl) (by kernel_rfl) (fun _ _ _ h => h) (Or.inl ⟨by rfl, fun w hSw => by have q1 := hSw; clear hSw; go_simp; try (intro hbad; omega)⟩) hS ?_
  simp only [Act.put, List.setIfInBounds_toArray, List.set_cons_zero, List.set_cons_succ]
  refine wpAnyH_takeD 3 (some 14) (.pointer (some ⟨g, 0, none⟩)) rfl rfl (by kernel_rfl) (by kernel_rfl) (by kernel_rfl) (fun _ _ _ h => h) (Or.inl ⟨by rfl, fun w hSw => by have q1 := hSw; clear hSw; go_simp; try (intro hbad; omega)⟩) hS ?_
  simp only [Act.put, List.setIfInBounds_toArray, List.set_cons_zero, List.set_cons_succ]
  refine wpAnyH_takeD 5 (some 16) (.int .i64 (z : Int)) rfl rfl (by kernel_rfl) (by kernel_rfl) (by kernel_rfl) (fun _ _ _ h => h) (Or.inl ⟨by rfl, fun w hSw => by have q1 := hSw; clear hSw; go_simp; try (intro hbad; omega)⟩) hS ?_
  simp only [Act.put, List.setIfInBounds_toArray, List.set_cons_zero, List.set_cons_succ]
  refine wpAnyH_takeD 7 (some 18) (.pointer (some ⟨g, 0, none⟩)) rfl rfl (by kernel_rfl) (by kernel_rfl) (by kernel_rfl) (fun _ _ _ h => h) (Or.inl ⟨by rfl, fun w hSw => by have q1 := hSw; clear hSw; go_simp; try (intro hbad; omega)⟩) hS ?_
  simp only [Act.put, List.setIfInBounds_toArray, List.set_cons_zero, List.set_cons_succ]
  refine wpAnyH_takeD 8 (some 19) (.pointer (some ⟨g, 0, none⟩)) rfl rfl (by kernel_rfl) (by kernel_rfl) (by kernel_rfl) (fun _ _ _ h => h) (Or.inl ⟨by rfl, fun w hSw => by have q1 := hSw; clear hSw; go_simp; try (intro hbad; omega)⟩) hS ?_
  simp only [Act.put, List.setIfInBounds_toArray, List.set_cons_zero, List.set_cons_succ]
  refine wpAnyH_takeD 9 (some 20) (.pointer (some ⟨g, 0, none⟩)) rfl rfl (by kernel_rfl) (by kernel_rfl) (by kernel_rfl) (fun _ _ _ h => h) (Or.inl ⟨by rfl, fun w hSw => by have q1 := hSw; clear hSw; go_simp; try (intro hbad; omega)⟩) hS ?_
  simp only [Act.put, List.setIfInBounds_toArray, List.set_cons_zero, List.set_cons_succ]
  refine wpAnyH_takeD 10 (some 21) (.slice (some ⟨gl, 0, none⟩) z z) rfl rfl (by kernel_rfl) (by kernel_rfl) (by kernel_rfl) (fun _ _ _ h => h) (Or.inl ⟨by rfl, fun w hSw => by have q1 := hSw; clear hSw; go_simp; try (intro hbad; omega)⟩) hS ?_
  simp only [Act.put, List.setIfInBounds_toArray, List.set_cons_zero, List.set_cons_succ]
  refine wpAnyH_ready (rs := [4]) (by kernel_rfl) (by simp) ?_
  refine AllReadyH.cons rfl (fun K hK => ?_) AllReadyH.nil
  simp only [List.getElem_toArray, List.getElem_cons_succ, List.getElem_cons_zero]
  go_simp
  refine (unhide HRT).mono ?_
  rintro e y1 ⟨rfl, hs1, ho1⟩
  have m1 : y1.cell? ⟨g, 0, none⟩ = some (.slice (some ⟨gl, 0, none⟩) z z) := by rw [hs1.c0, (unhide HZ).1]
  have HS1 := hide (And.intro hs1 ho1)
  clear hs1 ho1
  refine hK.out _ _ m1 (fun hS => ?_)
  clear hK K
  refine wpAnyH_ready (rs := [6]) (by kernel_rfl) (by simp) ?_
  refine AllReadyH.cons rfl (fun K hK => ?_) AllReadyH.nil
  simp only [List.getElem_toArray, List.getElem_cons_succ, List.getElem_cons_zero]
  go_simp
  refine (yblankImage_any z (unhide HZ).2.1 (unhide HZ).2.2 y1).mono ?_
  rintro e y2 ⟨gb, rfl, hgb, hbk, hb2⟩
  have hs2 := (unhide HS1).1.below hb2
  have m2 : y2.cell? ⟨g, 0, none⟩ = some (.slice (some ⟨gl, 0, none⟩) z z) := by rw [hs2.c0, (unhide HZ).1]
  have HOC := hide (unhide HOT y2 gb hbk hs2)
  have HS2 := hide (And.intro hs2 hb2)
  clear hs2 hb2 hbk hgb m1
  refine hK.out _ _ m2 (fun hS => ?_)
  clear hK K
  refine wpAnyH_ready (rs := [11]) (by kernel_rfl) (by simp) ?_
  refine AllReadyH.cons rfl (fun K hK => ?_) AllReadyH.nil
  simp only [List.getElem_toArray, List.getElem_cons_succ, List.getElem_cons_zero]
  go_simp
  refine (unhide HOC).mono ?_
  rintro e y3 ⟨v, rfl, hrow, hb3⟩
  obtain ⟨pv, cv, rfl, hcv⟩ := yr_form hrow
  obtain ⟨m3, s0, s1, s2, s3, s4, s5, f0, f1, f2, f3, f4, f5, hx9⟩ := unhide HNX y1 y2 y3 pv cv (unhide HS1) (unhide HS2) hrow hb3
  have HX9 := hide hx9
  clear hx9 hrow hb3 HOC m2
  refine hK.out _ _ m3 (fun hS => ?_)
  clear hK K
  refine wpAnyH_takeD 12 (some 23) (.agg #[.int .i64 1, .int .i64 (z : Int), .int .i64 (t : Int), .int .i64 (t : Int), .string R, .slice pv n cv]) rfl rfl (by kernel_rfl) (by kernel_rfl) (by kernel_rfl) (fun _ _ _ h => h) (Or.inl ⟨by rfl, fun w hSw => by have q1 := hSw; clear hSw; go_simp; try (intro hbad; omega)⟩) hS ?_
  simp only [Act.put, List.setIfInBounds_toArray, List.set_cons_zero, List.set_cons_succ]
  refine wpAnyH_ready (rs := [13]) (by kernel_rfl) (by simp) ?_
  refine AllReadyH.cons rfl (fun K hK => ?_) AllReadyH.nil
  simp only [List.getElem_toArray, List.getElem_cons_succ, List.getElem_cons_zero]
  go_simp
  refine hK.out _ _ ((World.cell?_setCell_far _ _ _ _ hne).trans ((World.cell?_setCell_far _ _ _ _ hne).trans ((World.cell?_setCell_far _ _ _ _ hne).trans ((World.cell?_setCell_far _ _ _ _ hne).trans ((World.cell?_setCell_far _ _ _ _ hne).trans ((World.cell?_setCell_far _ _ _ _ hne).trans m3)))))) (fun hS => ?_)
  clear hK K
  refine wpAnyH_done (by kernel_rfl) ?_ _
  clear hS m3 s0 s1 s2 s3 s4 s5 f0 f1 f2 f3 f4 f5 c0
  go_wp2
  have hld := iload_blk 97 _ (unhide HX9).1 Tryz.underlying97 rfl (by kernel_rfl)
  refine bodyPost_ret (v := .agg #[.int .i64 1, .int .i64 (z : Int), .int .i64 (t : Int), .int .i64 (t : Int), .string R, .slice pv n cv]) (results_cell1 (p := 4) (ty := 97) rfl _ _ _ ⟨h, 0, none⟩ rfl _ hld) rfl ⟨⟨pv, cv, rfl, (unhide HX9).2.1⟩, (unhide HX9).2.2.1, (unhide HX9).2.2.2⟩
set_option maxHeartbeats 8000000 in
theorem ychange_any (w : World) (g gl g2 gl2 a t z n : Nat) (M A : List ByteArray) (hG : Sg w g gl M) (hG2 : Sg w g2 gl2 A) (hgg : g2 ≠ g) (hK : KTab w) (hM : imB M = true) (hz : M.length = z) (hz2 : A.length = z) (L : List (Nat × ByteArray)) (hL : otU A M z = L) (hn : L.length = n) : Calls Tryz.prog 77 #[.int .i64 (a : Int), .pointer (some ⟨g2, 0, none⟩), .int .i64 (t : Int), .pointer (some ⟨g, 0, none⟩)] w fun e w' => FrQ w 2 z a t (rt M) L n e w' ∧ Sg w' g gl M ∧ Only (fun k => k = g) w w' := by
  have hzl := imB_len hM
  have hT := imB_sht hM
  have hB0 := Blk.new w 97 #[.int .i64 0, .int .i64 0, .int .i64 0, .int .i64 0, .string ⟨#[]⟩, .slice none 0 0]
  have hb0 : Below w.heap.size w (w.alloc (Obj.cells #[.int .i64 0, .int .i64 0, .int .i64 0, .int .i64 0, .string ⟨#[]⟩, .slice none 0 0] 97)) := (Below.refl _ _).alloc (Nat.le_refl _) _
  obtain ⟨y0, hy0⟩ : ∃ q, w.alloc (Obj.cells #[.int .i64 0, .int .i64 0, .int .i64 0, .int .i64 0, .string ⟨#[]⟩, .slice none 0 0] 97) = q := ⟨_, rfl⟩
  obtain ⟨h, hhe⟩ : ∃ q, w.heap.size = q := ⟨_, rfl⟩
  have hbl := hG.lt
  rw [hy0] at hB0 hb0
  have hS0 := hG.below hb0
  have hK0 : KTab y0 := hK.below hb0 hK.1
  rw [hhe] at hB0 hb0 hbl
  have HY := hide (And.intro hy0 hhe)
  have HHS := hide (show w.heap.size ≤ h by omega)
  have hne : (⟨h, 0, none⟩ : Addr).block ≠ (⟨g, 0, none⟩ : Addr).block := by show h ≠ g; omega
  have HO0 := hide (show Only (fun k => k = g) w y0 from Only.of_below (by rw [hhe]; exact hb0))
  have c0 : y0.cell? ⟨g, 0, none⟩ = some (.slice (some ⟨gl, 0, none⟩) z z) := by rw [hS0.c0, hz]
  have HRT := hide (yrootG_any y0.drew g gl M (hS0.below ((Below.refl _ _).drew)) hK0 hT (by omega))
  obtain ⟨R, hRe⟩ : ∃ q, rt M = q := ⟨_, rfl⟩
  have HZ := hide (show M.length = z ∧ 1 ≤ z ∧ z ≤ 1024 from ⟨hz, by omega, by omega⟩)
  have HB0 := hide hB0
  have hS2 := hG2.below (show Below w.heap.size w y0 from by rw [hhe]; exact hb0)
  have hbl2 := hG2.lt
  have hne2 : (⟨h, 0, none⟩ : Addr).block ≠ (⟨g2, 0, none⟩ : Addr).block := by show h ≠ g2; omega
  have d0 : y0.cell? ⟨g2, 0, none⟩ = some (.slice (some ⟨gl2, 0, none⟩) z z) := by rw [hS2.c0, hz2]
  have HA := hide (show ∀ y1, Sg y1 g gl M → Only (fun k => k = g) y0.drew y1 → Sg y1 g2 gl2 A from fun y1 hs ho => (hS2.below ((Below.refl _ _).drew)).only ho (fun e => hgg e) (hS0.drew.nine))
  have HM1 := hide (show ∀ y1, Sg y1 g gl M → Only (fun k => k = g) y0.drew y1 → y1.cell? ⟨g, 0, none⟩ = some (.slice (some ⟨gl, 0, none⟩) z z) ∧ y1.cell? ⟨g2, 0, none⟩ = some (.slice (some ⟨gl2, 0, none⟩) z z) from fun y1 hs ho => ⟨by rw [hs.c0, hz], by rw [(unhide HA y1 hs ho).c0, hz2]⟩)
  have HOT := hide (show ∀ y2, Sg y2 g gl M → Only (fun k => k = g) y0.drew y2 → Calls Tryz.prog 107 #[.slice (some ⟨gl2, 0, none⟩) z z, .slice (some ⟨gl, 0, none⟩) z z] y2 (fun e w' => ∃ v, e = .returned v ∧ w'.ownsRow y2.heap.size 149 2 v n (wrR L) ∧ Below y2.heap.size y2 w') from fun y2 hs ho => by
    have := yothers_any A M z hz hz2 (by omega) y2 y2.heap.size y2.heap.size z z _ _ (unhide HA y2 hs ho).lst.sb hs.lst.sb (Nat.le_refl _) (Nat.le_refl _)
    rwa [hL, hn] at this)
  have HNX := hide (show ∀ y1 y3 pv cv, (Sg y1 g gl M ∧ Only (fun k => k = g) y0.drew y1) → y3.ownsRow y1.heap.size 149 2 (.slice pv n cv) n (wrR L) → Below y1.heap.size y1 y3 → (y3.cell? ⟨g, 0, none⟩ = some (.slice (some ⟨gl, 0, none⟩) z z) ∧ y3.cell? ⟨g2, 0, none⟩ = some (.slice (some ⟨gl2, 0, none⟩) z z)) ∧ y3.cell? ⟨h, 0, none⟩ = some (.int .i64 0) ∧ y3.cell? ⟨h, 1, none⟩ = some (.int .i64 0) ∧ y3.cell? ⟨h, 2, none⟩ = some (.int .i64 0) ∧ y3.cell? ⟨h, 3, none⟩ = some (.int .i64 0) ∧ y3.cell? ⟨h, 4, none⟩ = some (.string ⟨#[]⟩) ∧ y3.cell? ⟨h, 5, none⟩ = some (.slice none 0 0) ∧ y3.frozen? ⟨h, 0, none⟩ = false ∧ y3.frozen? ⟨h, 1, none⟩ = false ∧ y3.frozen? ⟨h, 2, none⟩ = false ∧ y3.frozen? ⟨h, 3, none⟩ = false ∧ y3.frozen? ⟨h, 4, none⟩ = false ∧ y3.frozen? ⟨h, 5, none⟩ = false ∧ Blk ((((((y3.setCell ⟨h, 0, none⟩ (.int .i64 2)).setCell ⟨h, 1, none⟩ (.int .i64 (z : Int))).setCell ⟨h, 2, none⟩ (.int .i64 (a : Int))).setCell ⟨h, 3, none⟩ (.int .i64 (t : Int))).setCell ⟨h, 4, none⟩ (.string R)).setCell ⟨h, 5, none⟩ (.slice pv n cv)) h #[.int .i64 2, .int .i64 (z : Int), .int .i64 (a : Int), .int .i64 (t : Int), .string R, .slice pv n cv] 97 ∧ ((((((y3.setCell ⟨h, 0, none⟩ (.int .i64 2)).setCell ⟨h, 1, none⟩ (.int .i64 (z : Int))).setCell ⟨h, 2, none⟩ (.int .i64 (a : Int))).setCell ⟨h, 3, none⟩ (.int .i64 (t : Int))).setCell ⟨h, 4, none⟩ (.string R)).setCell ⟨h, 5, none⟩ (.slice pv n cv)).ownsRow w.heap.size 149 2 (.slice pv n cv) n (wrR L) ∧ Sg ((((((y3.setCell ⟨h, 0, none⟩ (.int .i64 2)).setCell ⟨h, 1, none⟩ (.int .i64 (z : Int))).setCell ⟨h, 2, none⟩ (.int .i64 (a : Int))).setCell ⟨h, 3, none⟩ (.int .i64 (t : Int))).setCell ⟨h, 4, none⟩ (.string R)).setCell ⟨h, 5, none⟩ (.slice pv n cv)) g gl M ∧ Only (fun k => k = g) w ((((((y3.setCell ⟨h, 0, none⟩ (.int .i64 2)).setCell ⟨h, 1, none⟩ (.int .i64 (z : Int))).setCell ⟨h, 2, none⟩ (.int .i64 (a : Int))).setCell ⟨h, 3, none⟩ (.int .i64 (t : Int))).setCell ⟨h, 4, none⟩ (.string R)).setCell ⟨h, 5, none⟩ (.slice pv n cv)) from fun y1 y3 pv cv hs1 hr hb3 => by
    have k3 := hs1.1.below hb3
    have a3 := (unhide HA y1 hs1.1 hs1.2).below hb3
    have o1 : Only (fun k => k = g) y0 y1 := ⟨⟨hs1.2.1.os, hs1.2.1.tape, hs1.2.1.output, hs1.2.1.size, hs1.2.1.block⟩, hs1.2.2⟩
    have k1 := (unhide HB0).only o1 (by show ¬ h = g; exact hne)
    have kb := k1.below hb3 k1.lt
    have hsz : w.heap.size ≤ y1.heap.size := by
      have u1 := (unhide HO0).size
      have u2 := o1.size
      omega
    have ow : Only (fun k => k = g) w y3 := ((unhide HO0).trans o1 (fun _ _ q => q)).trans (Only.of_below (P := fun k => k = g) hb3) (fun _ _ q => q)
    have oh : Only (fun k => k = h) y3 ((((((y3.setCell ⟨h, 0, none⟩ (.int .i64 2)).setCell ⟨h, 1, none⟩ (.int .i64 (z : Int))).setCell ⟨h, 2, none⟩ (.int .i64 (a : Int))).setCell ⟨h, 3, none⟩ (.int .i64 (t : Int))).setCell ⟨h, 4, none⟩ (.string R)).setCell ⟨h, 5, none⟩ (.slice pv n cv)) := (((((((Only.refl (fun k => k = h) y3).setCell _ _ (fun _ => rfl)).setCell _ _ (fun _ => rfl)).setCell _ _ (fun _ => rfl)).setCell _ _ (fun _ => rfl)).setCell _ _ (fun _ => rfl)).setCell _ _ (fun _ => rfl))
    refine ⟨⟨by rw [k3.c0, (unhide HZ).1], by rw [a3.c0, hz2]⟩, by rw [kb.cell 0]; rfl, by rw [kb.cell 1]; rfl, by rw [kb.cell 2]; rfl, by rw [kb.cell 3]; rfl, by rw [kb.cell 4]; rfl, by rw [kb.cell 5]; rfl, kb.frozen 0, kb.frozen 1, kb.frozen 2, kb.frozen 3, kb.frozen 4, kb.frozen 5, ((((((kb.set 0 (.int .i64 2)).set 1 (.int .i64 (z : Int))).set 2 (.int .i64 (a : Int))).set 3 (.int .i64 (t : Int))).set 4 (.string R)).set 5 (.slice pv n cv)), own_low (owns_only hr oh (fun k hk e => by have := (hr.lt k hk).1; have := k1.lt; omega)) hsz, k3.only oh (fun e => hne e.symm) (fun kk cc e hk => by subst e; exact kb.tyne hk (by decide) rfl), ((((((ow.setCell _ _ (fun q => absurd q (by have q9 := unhide HHS; show ¬ h < _; omega))).setCell _ _ (fun q => absurd q (by have q9 := unhide HHS; show ¬ h < _; omega))).setCell _ _ (fun q => absurd q (by have q9 := unhide HHS; show ¬ h < _; omega))).setCell _ _ (fun q => absurd q (by have q9 := unhide HHS; show ¬ h < _; omega))).setCell _ _ (fun q => absurd q (by have q9 := unhide HHS; show ¬ h < _; omega))).setCell _ _ (fun q => absurd q (by have q9 := unhide HHS; show ¬ h < _; omega)))⟩)
  rw [hRe] at HRT ⊢
  clear hB0 hb0 hG hS0 hK hK0 hT hy0 hRe hM hz hL hn hbl hhe hzl hS2 hG2 hbl2 hz2 hgg HA
  go_enter Tryz.func77, Tryz.ntmps77
  go_wp2_with (rw [(unhide HY).1, (unhide HY).2])
  refine wp_region_held_drew (S := fun W => W.cell? ⟨g, 0, none⟩ = some (.slice (some ⟨gl, 0, none⟩) z z) ∧ W.cell? ⟨g2, 0, none⟩ = some (.slice (some ⟨gl2, 0, none⟩) z z)) (by kernel_rfl) ⟨c0, d0⟩ ?_
  intro hS
  refine wpAnyH_takeD 0 (some 9) (.pointer (some ⟨g, 0, none⟩)) rfl rfl (by kernel_rfl) (by kernel_rfl) (by kernel_rfl) (fun _ _ _ h => h) (Or.inl ⟨by rfl, fun w hSw => by obtain ⟨q1, q2⟩ := hSw; go_simp; try (intro hbad; omega)⟩) hS ?_
  simp only [Act.put, List.setIfInBounds_toArray, List.set_cons_zero, List.set_cons_succ]
  refine wpAnyH_takeD 1 (some 10) (.pointer (some ⟨g, 0, none⟩)) rfl rfl (by kernel_rfl) (by kernel_rfl) (by kernel_rfl) (fun _ _ _ h => h) (Or.inl ⟨by rfl, fun w hSw => by obtain ⟨q1, q2⟩ := hSw; go_simp; try (intro hbad; omega)⟩) hS ?_
  simp only [Act.put, List.setIfInBounds_toArray, List.set_cons_zero, List.set_cons_succ]
  refine wpAnyH_takeD 2 (some 11) (.pointer (some ⟨g, 0, none⟩)) rfl rfl (by kernel_rfl) (by kernel_rfl) (by kernel_rfl) (fun _ _ _ h => h) (Or.inl ⟨by rfl, fun w hSw => by obtain ⟨q1, q2⟩ := hSw; go_simp; try (intro hbad; omega)⟩) hS ?_
  simp only [Act.put, List.setIfInBounds_toArray, List.set_cons_zero, List.set_cons_succ]
  refine wpAnyH_takeD 3 (some 12) (.slice (some ⟨gl, 0, none⟩) z z) rfl rfl (by kernel_rfl) (by kernel_rfl) (by kernel_rfl) (fun _ _ _ h => h) (Or.inl ⟨by rfl, fun w hSw => by obtain ⟨q1, q2⟩ := hSw; go_simp; try (intro hbad; omega)⟩) hS ?_
  simp only [Act.put, List.setIfInBounds_toArray, List.set_cons_zero, List.set_cons_succ]
  refine wpAnyH_takeD 4 (some 13) (.int .i64 (z : Int)) rfl rfl (by kernel_rfl) (by kernel_rfl) (by kernel_rfl) (fun _ _ _ h => h) (Or.inl ⟨by rfl, fun w hSw => by obtain ⟨q1, q2⟩ := hSw; go_simp; try (intro hbad; omega)⟩) hS ?_
  simp only [Act.put, List.setIfInBounds_toArray, List.set_cons_zero, List.set_cons_succ]
  refine wpAnyH_takeD 5 (some 14) (.int .i64 (a : Int)) rfl rfl (by kernel_rfl) (by kernel_rfl) (by kernel_rfl) (fun _ _ _ h => h) (Or.inl ⟨by rfl, fun w hSw => by obtain ⟨q1, q2⟩ := hSw; go_simp; try (intro hbad; omega)⟩) hS ?_
  simp only [Act.put, List.setIfInBounds_toArray, List.set_cons_zero, List.set_cons_succ]
  refine wpAnyH_takeD 6 (some 15) (.int .i64 (t : Int)) rfl rfl (by kernel_rfl) (by kernel_rfl) (by kernel_rfl) (fun _ _ _ h => h) (Or.inl ⟨by rfl, fun w hSw => by obtain ⟨q1, q2⟩ := hSw; go_simp; try (intro hbad; omega)⟩) hS ?_
  simp only [Act.put, List.setIfInBounds_toArray, List.set_cons_zero, List.set_cons_succ]
  refine wpAnyH_takeD 7 (some 16) (.pointer (some ⟨g, 0, none⟩)) rfl rfl (by kernel_rfl) (by kernel_rfl) (by kernel_rfl) (fun _ _ _ h => h) (Or.inl ⟨by rfl, fun w hSw => by obtain ⟨q1, q2⟩ := hSw; go_simp; try (intro hbad; omega)⟩) hS ?_
  simp only [Act.put, List.setIfInBounds_toArray, List.set_cons_zero, List.set_cons_succ]
  refine wpAnyH_takeD 9 (some 18) (.pointer (some ⟨g2, 0, none⟩)) rfl rfl (by kernel_rfl) (by kernel_rfl) (by kernel_rfl) (fun _ _ _ h => h) (Or.inl ⟨by rfl, fun w hSw => by obtain ⟨q1, q2⟩ := hSw; go_simp; try (intro hbad; omega)⟩) hS ?_
  simp only [Act.put, List.setIfInBounds_toArray, List.set_cons_zero, List.set_cons_succ]
  refine wpAnyH_takeD 10 (some 19) (.pointer (some ⟨g2, 0, none⟩)) rfl rfl (by kernel_rfl) (by kernel_rfl) (by kernel_rfl) (fun _ _ _ h => h) (Or.inl ⟨by rfl, fun w hSw => by obtain ⟨q1, q2⟩ := hSw; go_simp; try (intro hbad; omega)⟩) hS ?_
  simp only [Act.put, List.setIfInBounds_toArray, List.set_cons_zero, List.set_cons_succ]
  refine wpAnyH_takeD 11 (some 20) (.pointer (some ⟨g2, 0, none⟩)) rfl rfl (by kernel_rfl) (by kernel_rfl) (by kernel_rfl) (fun _ _ _ h => h) (Or.inl ⟨by rfl, fun w hSw => by obtain ⟨q1, q2⟩ := hSw; go_simp; try (intro hbad; omega)⟩) hS ?_
  simp only [Act.put, List.setIfInBounds_toArray, List.set_cons_zero, List.set_cons_succ]
  refine wpAnyH_takeD 12 (some 21) (.slice (some ⟨gl2, 0, none⟩) z z) rfl rfl (by kernel_rfl) (by kernel_rfl) (by kernel_rfl) (fun _ _ _ h => h) (Or.inl ⟨by rfl, fun w hSw => by obtain ⟨q1, q2⟩ := hSw; go_simp; try (intro hbad; omega)⟩) hS ?_
  simp only [Act.put, List.setIfInBounds_toArray, List.set_cons_zero, List.set_cons_succ]
  refine wpAnyH_takeD 13 (some 22) (.pointer (some ⟨g, 0, none⟩)) rfl rfl (by kernel_rfl) (by kernel_rfl) (by kernel_rfl) (fun _ _ _ h => h) (Or.inl ⟨by rfl, fun w hSw => by obtain ⟨q1, q2⟩ := hSw; go_simp; try (intro hbad; omega)⟩) hS ?_
  simp only [Act.put, List.setIfInBounds_toArray, List.set_cons_zero, List.set_cons_succ]
  refine wpAnyH_takeD 14 (some 23) (.pointer (some ⟨g, 0, none⟩)) rfl rfl (by kernel_rfl) (by kernel_rfl) (by kernel_rfl) (fun _ _ _ h => h) (Or.inl ⟨by rfl, fun w hSw => by obtain ⟨q1, q2⟩ := hSw; go_simp; try (intro hbad; omega)⟩) hS ?_
  simp only [Act.put, List.setIfInBounds_toArray, List.set_cons_zero, List.set_cons_succ]
  refine wpAnyH_takeD 15 (some 24) (.pointer (some ⟨g, 0, none⟩)) rfl rfl (by kernel_rfl) (by kernel_rfl) (by kernel_rfl) (fun _ _ _ h => h) (Or.inl ⟨by rfl, fun w hSw => by obtain ⟨q1, q2⟩ := hSw; go_simp; try (intro hbad; omega)⟩) hS ?_
  simp only [Act.put, List.setIfInBounds_toArray, List.set_cons_zero, List.set_cons_succ]
  refine wpAnyH_takeD 16 (some 25) (.slice (some ⟨gl, 0, none⟩) z z) rfl rfl (by kernel_rfl) (by kernel_rfl) (by kernel_rfl) (fun _ _ _ h => h) (Or.inl ⟨by rfl, fun w hSw => by obtain ⟨q1, q2⟩ := hSw; go_simp; try (intro hbad; omega)⟩) hS ?_
  simp only [Act.put, List.setIfInBounds_toArray, List.set_cons_zero, List.set_cons_succ]
  refine wpAnyH_ready (rs := [8]) (by kernel_rfl) (by simp) ?_
  refine AllReadyH.cons rfl (fun K hK => ?_) AllReadyH.nil
  simp only [List.getElem_toArray, List.getElem_cons_succ, List.getElem_cons_zero]
  go_simp
  refine (unhide HRT).mono ?_
  rintro e y1 ⟨rfl, hs1, ho1⟩
  have m1 := unhide HM1 y1 hs1 ho1
  have HOC := hide (unhide HOT y1 hs1 ho1)
  have HS1 := hide (And.intro hs1 ho1)
  clear hs1 ho1
  refine hK.out _ _ m1 (fun hS => ?_)
  clear hK K
  refine wpAnyH_ready (rs := [17]) (by kernel_rfl) (by simp) ?_
  refine AllReadyH.cons rfl (fun K hK => ?_) AllReadyH.nil
  simp only [List.getElem_toArray, List.getElem_cons_succ, List.getElem_cons_zero]
  go_simp
  refine (unhide HOC).mono ?_
  rintro e y3 ⟨v, rfl, hrow, hb3⟩
  obtain ⟨pv, cv, rfl, hcv⟩ := yr_form hrow
  obtain ⟨m3, s0, s1, s2, s3, s4, s5, f0, f1, f2, f3, f4, f5, hx9⟩ := unhide HNX y1 y3 pv cv (unhide HS1) hrow hb3
  have HX9 := hide hx9
  clear hx9 hrow hb3 HOC m1
  refine hK.out _ _ m3 (fun hS => ?_)
  clear hK K
  refine wpAnyH_takeD 18 (some 27) (.agg #[.int .i64 2, .int .i64 (z : Int), .int .i64 (a : Int), .int .i64 (t : Int), .string R, .slice pv n cv]) rfl rfl (by kernel_rfl) (by kernel_rfl) (by kernel_rfl) (fun _ _ _ h => h) (Or.inl ⟨by rfl, fun w hSw => by obtain ⟨q1, q2⟩ := hSw; go_simp; try (intro hbad; omega)⟩) hS ?_
  simp only [Act.put, List.setIfInBounds_toArray, List.set_cons_zero, List.set_cons_succ]
  refine wpAnyH_ready (rs := [19]) (by kernel_rfl) (by simp) ?_
  refine AllReadyH.cons rfl (fun K hK => ?_) AllReadyH.nil
  simp only [List.getElem_toArray, List.getElem_cons_succ, List.getElem_cons_zero]
  go_simp
  refine hK.out _ _ ⟨((World.cell?_setCell_far _ _ _ _ hne).trans ((World.cell?_setCell_far _ _ _ _ hne).trans ((World.cell?_setCell_far _ _ _ _ hne).trans ((World.cell?_setCell_far _ _ _ _ hne).trans ((World.cell?_setCell_far _ _ _ _ hne).trans ((World.cell?_setCell_far _ _ _ _ hne).trans m3.1)))))), ((World.cell?_setCell_far _ _ _ _ hne2).trans ((World.cell?_setCell_far _ _ _ _ hne2).trans ((World.cell?_setCell_far _ _ _ _ hne2).trans ((World.cell?_setCell_far _ _ _ _ hne2).trans ((World.cell?_setCell_far _ _ _ _ hne2).trans ((World.cell?_setCell_far _ _ _ _ hne2).trans m3.2))))))⟩ (fun hS => ?_)
  clear hK K
  refine wpAnyH_done (by kernel_rfl) ?_ _
  clear hS m3 s0 s1 s2 s3 s4 s5 f0 f1 f2 f3 f4 f5 c0 d0
  go_wp2
  have hld := iload_blk 97 _ (unhide HX9).1 Tryz.underlying97 rfl (by kernel_rfl)
  refine bodyPost_ret (v := .agg #[.int .i64 2, .int .i64 (z : Int), .int .i64 (a : Int), .int .i64 (t : Int), .string R, .slice pv n cv]) (results_cell1 (p := 8) (ty := 97) rfl _ _ _ ⟨h, 0, none⟩ rfl _ hld) rfl ⟨⟨pv, cv, rfl, (unhide HX9).2.1⟩, (unhide HX9).2.2.1, (unhide HX9).2.2.2⟩
end Go.Proofs.YtnfdedolgfcmfaaGreatDoor
