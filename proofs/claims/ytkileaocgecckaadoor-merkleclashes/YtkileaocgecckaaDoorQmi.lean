import Derived.Test.YtkileaocgecckaaDoorQmh
namespace Go.Proofs.YtkileaocgecckaaDoor
open Go.RowKit
set_option maxRecDepth 100000
/-- rungs in memory -/
theorem rg_range {w : World} {base g c : Nat} {T : List ByteArray} {q : Nat} (hT : T.length = q) (h : w.ownsRow base 110 33 (.slice (some ⟨g, 0, none⟩) q c) q (rgC T)) (k : Nat) (hk : k < q) : w.rangeAt g (k * 33) (rC (T.getD k ⟨#[]⟩)) := by
  intro j v hv
  have hj : j < 33 := by
    have := (List.getElem?_eq_some_iff.1 hv).1
    rw [rC_len] at this
    exact this
  rw [World.ownsRow.cellAt h (k * 33 + j) (by omega), rgC_at T k j (by omega) hj]
  exact hv
theorem rC_fst {w : World} {b o : Nat} {t : ByteArray} (h : w.rangeAt b o (rC t)) : w.cell? ⟨b, o, none⟩ = some (.string t) := h 0 _ rfl
theorem rC_snd {w : World} {b o : Nat} {t : ByteArray} (h : w.rangeAt b o (rC t)) : w.rangeAt b (o + 1) (dC (dg t)) := fun j v hv => by
  have := h (j + 1) v (by rw [rC]; exact hv)
  rw [show o + 1 + j = o + (j + 1) by omega]
  exact this
set_option maxHeartbeats 4000000 in
theorem firstClash_any (T T' : List ByteArray) (q c1 c2 : Nat) (hT : T.length = q) (hT' : T'.length = q) (hq : q ≤ 100000) (w : World) (g1 g2 base1 base2 : Nat) (ho1 : w.ownsRow base1 110 33 (.slice (some ⟨g1, 0, none⟩) q c1) q (rgC T)) (ho2 : w.ownsRow base2 110 33 (.slice (some ⟨g2, 0, none⟩) q c2) q (rgC T')) (hex : ∃ j, j < q ∧ Cl T T' j) : Calls Tryd.prog 67 #[.slice (some ⟨g1, 0, none⟩) q c1, .slice (some ⟨g2, 0, none⟩) q c2] w fun e w' => (∃ a b, e = .returned (.tuple #[.string a, .string b]) ∧ FcQ T T' a b) ∧ Below w.heap.size w w' := by
  obtain ⟨h, hh⟩ : ∃ h, w.heap.size = h := ⟨_, rfl⟩
  obtain ⟨hg1, hg2⟩ : g1 < h ∧ g2 < h := ⟨by rw [← hh]; exact (ho1.lt g1 rfl).2, by rw [← hh]; exact (ho2.lt g2 rfl).2⟩
  have HR1 := hide (show ∀ W, Below h w W → ∀ k, k < q → W.rangeAt g1 (k * 33) (rC (T.getD k ⟨#[]⟩)) from fun W hW k hk => rangeAt_below (rg_range hT ho1 k hk) hW hg1)
  have HR2 := hide (show ∀ W, Below h w W → ∀ k, k < q → W.rangeAt g2 (k * 33) (rC (T'.getD k ⟨#[]⟩)) from fun W hW k hk => rangeAt_below (rg_range hT' ho2 k hk) hW hg2)
  have HEX := hide hex
  have HFC := hide (show ∀ k, k < q → (∀ j, j < k → ¬ Cl T T' j) → Cl T T' k → FcQ T T' (T.getD k ⟨#[]⟩) (T'.getD k ⟨#[]⟩) from fun k hk h1 h2 => ⟨k, by omega, h1, h2, rfl, rfl⟩)
  rw [hh]
  clear ho1 ho2 hex hT hT'
  go_enter Tryd.func67, Tryd.ntmps67
  go_wp2
  go_loopw [10] (fun i wr => ∃ k : Nat, k ≤ q ∧ i = .int .i64 (k : Int) ∧ Hid (∀ j, j < k → ¬ Cl T T' j) ∧ Hid (Below h w wr)) (fun i _ => q - (intOf i).toNat)
  case atStart => exact ⟨0, by omega, rfl, fun j hj => absurd hj (by omega), Below.refl _ _⟩
  case round =>
  obtain ⟨k, hk, rfl, HJ, HB⟩ := hrel
  obtain ⟨wi, rfl⟩ : ∃ z, z = wr := ⟨_, rfl⟩
  by_cases hkq : k < q
  case neg =>
    exfalso
    obtain ⟨j, hj, hc⟩ := unhide HEX
    exact unhide HJ j (by omega) hc
  have hkq' : (k : Int) < (q : Int) := by omega
  obtain ⟨gd, hgd⟩ : ∃ z, wi.heap.size = z := ⟨_, rfl⟩
  have hs1 : h ≤ gd := by have := (unhide HB).size; omega
  have r1 := unhide HR1 wi (unhide HB) k hkq
  have r2 := unhide HR2 wi (unhide HB) k hkq
  have HFK := hide (unhide HFC k hkq (unhide HJ))
  have HCLd := hide (show Cl T T' k ↔ (T.getD k ⟨#[]⟩ ≠ T'.getD k ⟨#[]⟩ ∧ dg (T.getD k ⟨#[]⟩) = dg (T'.getD k ⟨#[]⟩)) from Iff.rfl)
  obtain ⟨t, ht⟩ : ∃ z, T.getD k ⟨#[]⟩ = z := ⟨_, rfl⟩
  obtain ⟨t', ht'⟩ : ∃ z, T'.getD k ⟨#[]⟩ = z := ⟨_, rfl⟩
  rw [ht] at r1 HFK HCLd
  rw [ht'] at r2 HFK HCLd
  clear ht ht'
  have HRR := hide r1
  obtain ⟨x1, hx1⟩ : ∃ z, wi.alloc (.cells #[.string ⟨#[]⟩, .int .u8 0, .int .u8 0, .int .u8 0, .int .u8 0, .int .u8 0, .int .u8 0, .int .u8 0, .int .u8 0, .int .u8 0, .int .u8 0, .int .u8 0, .int .u8 0, .int .u8 0, .int .u8 0, .int .u8 0, .int .u8 0, .int .u8 0, .int .u8 0, .int .u8 0, .int .u8 0, .int .u8 0, .int .u8 0, .int .u8 0, .int .u8 0, .int .u8 0, .int .u8 0, .int .u8 0, .int .u8 0, .int .u8 0, .int .u8 0, .int .u8 0, .int .u8 0] 110) = z := ⟨_, rfl⟩
  have HT1 := hide (show x1.there gd 0 33 from by rw [← hx1, ← hgd]; exact blk_there (Blk.new wi _ _) 33 (Nat.le_refl _))
  have hsz1 : x1.heap.size = gd + 1 := by rw [← hx1]; simp [hgd]
  obtain ⟨x2, hx2⟩ : ∃ z, x1.setCells gd 0 (rC t) = z := ⟨_, rfl⟩
  have HGD := hide (show x2.rangeAt gd 0 (rC t) from by rw [← hx2]; exact World.rangeAt_setCells_same x1 gd 0 (rC t) (by rw [rC_len]; exact unhide HT1))
  have HBX := hide (show Below gd wi x2 from by rw [← hx2, ← hx1]; exact below_setCells (Nat.le_refl _) _ _ ((Below.refl _ _).alloc (by omega) _))
  obtain ⟨b2, hb2⟩ : ∃ z, x2.heap.size = z := ⟨_, rfl⟩
  have hsb : gd < b2 := by have := (show Below gd x1 x2 from by rw [← hx2]; exact below_setCells (Nat.le_refl _) _ _ (Below.refl _ _)).size; omega
  have HBW := hide (show ∀ W, Below b2 x2 W → Below h w W from fun W hW => ((unhide HB).trans ((unhide HBX).mono hs1)).trans (hW.mono (by omega)))
  have HC := hide (show ∀ W, Below b2 x2 W → W.cell? ⟨gd, 0, none⟩ = some (.string t) ∧ W.cell? ⟨g2, k * 33, none⟩ = some (.string t') from fun W hW => ⟨rC_fst (rangeAt_below (unhide HGD) hW hsb), rC_fst (rangeAt_below (rangeAt_below r2 (unhide HBX) (by omega)) hW (by omega))⟩)
  have HD := hide (show ∀ W, Below b2 x2 W → W.rangeAt gd 1 (dC (dg t)) ∧ W.rangeAt g2 (k * 33 + 1) (dC (dg t')) from fun W hW => ⟨by have := rC_snd (rangeAt_below (unhide HGD) hW hsb); exact this, rC_snd (rangeAt_below (rangeAt_below r2 (unhide HBX) (by omega)) hW (by omega))⟩)
  have HLR := hide (rC_len t)
  have HO1 := hide (all_oneCell_toArray (rC_one t))
  have HLd := hide (dC_len _ (dg_size t))
  have HLe := hide (dC_len _ (dg_size t'))
  have HEQ0 := hide (fun W => eqD (dg t) (dg t') (dg_size _) (dg_size _) W)
  generalize rC t = cr at *
  generalize dC (dg t) = cd at *
  generalize dC (dg t') = ce at *
  clear r1 r2 HR1 HR2 hsz1 HBX HGD HFC HEX
  by_cases hcl : t ≠ t' ∧ dg t = dg t'
  · have HFK2 := hide (unhide HFK ((unhide HCLd).2 hcl))
    rw [decide_eq_true hcl.2] at HEQ0
    have HEQ := hide (fun W => unhide HEQ0 W)
    have hne : (t.toList == t'.toList) = false := str_ne hcl.1
    clear HFK HCLd HEQ0 hcl HJ
    go_wp2_with (first | refine wpList_load_mid rfl 110 (.tmp 13) rfl g1 (k * 33) rfl _ _ (unhide HRR) Tryd.underlying110 rfl (by rw [szR, unhide HLR]) ?_ | refine wpList_store_mid rfl 110 (.tmp 7) (.tmp 14) rfl gd 0 cr.toArray rfl rfl (by simpa [unhide HLR] using unhide HT1) (by rw [szR]; simp [unhide HLR]) (unhide HO1) ?_)
    refine wp_region_held_drew (S := fun W => Below b2 x2 W) (by kernel_rfl) (Below.refl _ _).drew ?_
    intro hS
    refine wpAnyH_takeD 0 (some 15) (.pointer (some ⟨gd, 0, none⟩)) rfl rfl (by kernel_rfl) (by kernel_rfl) (by kernel_rfl) (fun _ _ _ h => h) (Or.inl ⟨by rfl, fun w hSw => by have q0 := (unhide HC _ hSw).1; have q1 := (unhide HC _ hSw).2; clear hSw; go_simp; try (intro hbad; omega)⟩) hS ?_
    simp only [Act.put, List.setIfInBounds_toArray, List.set_cons_zero, List.set_cons_succ]
    refine wpAnyH_takeD 1 (some 16) (.string t) rfl rfl (by kernel_rfl) (by kernel_rfl) (by kernel_rfl) (fun _ _ _ h => h) (Or.inl ⟨by rfl, fun w hSw => by have q0 := (unhide HC _ hSw).1; have q1 := (unhide HC _ hSw).2; clear hSw; go_simp; try (intro hbad; omega)⟩) hS ?_
    simp only [Act.put, List.setIfInBounds_toArray, List.set_cons_zero, List.set_cons_succ]
    refine wpAnyH_takeD 2 (some 17) (.slice (some ⟨g2, 0, none⟩) q c2) rfl rfl (by kernel_rfl) (by kernel_rfl) (by kernel_rfl) (fun _ _ _ h => h) (Or.inl ⟨by rfl, fun w hSw => by have q0 := (unhide HC _ hSw).1; have q1 := (unhide HC _ hSw).2; clear hSw; go_simp; try (intro hbad; omega)⟩) hS ?_
    simp only [Act.put, List.setIfInBounds_toArray, List.set_cons_zero, List.set_cons_succ]
    refine wpAnyH_takeD 3 (some 18) (.int .i64 (k : Int)) rfl rfl (by kernel_rfl) (by kernel_rfl) (by kernel_rfl) (fun _ _ _ h => h) (Or.inl ⟨by rfl, fun w hSw => by have q0 := (unhide HC _ hSw).1; have q1 := (unhide HC _ hSw).2; clear hSw; go_simp; try (intro hbad; omega)⟩) hS ?_
    simp only [Act.put, List.setIfInBounds_toArray, List.set_cons_zero, List.set_cons_succ]
    refine wpAnyH_takeD 4 (some 19) (.pointer (some ⟨g2, k * 33, none⟩)) rfl rfl (by kernel_rfl) (by kernel_rfl) (by kernel_rfl) (fun _ _ _ h => h) (Or.inl ⟨by rfl, fun w hSw => by have q0 := (unhide HC _ hSw).1; have q1 := (unhide HC _ hSw).2; clear hSw; go_simp; try (intro hbad; omega)⟩) hS ?_
    simp only [Act.put, List.setIfInBounds_toArray, List.set_cons_zero, List.set_cons_succ]
    refine wpAnyH_takeD 5 (some 20) (.pointer (some ⟨g2, k * 33, none⟩)) rfl rfl (by kernel_rfl) (by kernel_rfl) (by kernel_rfl) (fun _ _ _ h => h) (Or.inl ⟨by rfl, fun w hSw => by have q0 := (unhide HC _ hSw).1; have q1 := (unhide HC _ hSw).2; clear hSw; go_simp; try (intro hbad; omega)⟩) hS ?_
    simp only [Act.put, List.setIfInBounds_toArray, List.set_cons_zero, List.set_cons_succ]
    refine wpAnyH_takeD 6 (some 21) (.string t') rfl rfl (by kernel_rfl) (by kernel_rfl) (by kernel_rfl) (fun _ _ _ h => h) (Or.inl ⟨by rfl, fun w hSw => by have q0 := (unhide HC _ hSw).1; have q1 := (unhide HC _ hSw).2; clear hSw; go_simp; try (intro hbad; omega)⟩) hS ?_
    simp only [Act.put, List.setIfInBounds_toArray, List.set_cons_zero, List.set_cons_succ]
    refine wpAnyH_takeD 7 (some 22) (.bool true) rfl rfl (by kernel_rfl) (by kernel_rfl) (by kernel_rfl) (fun _ _ _ h => h) (Or.inl ⟨by rfl, fun w hSw => by have q0 := (unhide HC _ hSw).1; have q1 := (unhide HC _ hSw).2; clear hSw; go_simp; try (intro hbad; omega)⟩) hS ?_
    simp only [Act.put, List.setIfInBounds_toArray, List.set_cons_zero, List.set_cons_succ]
    refine wpAnyH_takeD 8 (some 23) (.bool true) rfl rfl (by kernel_rfl) (by kernel_rfl) (by kernel_rfl) (fun _ _ _ h => h) (Or.inl ⟨by rfl, fun w hSw => by have q0 := (unhide HC _ hSw).1; have q1 := (unhide HC _ hSw).2; clear hSw; go_simp; try (intro hbad; omega)⟩) hS ?_
    simp only [Act.put, List.setIfInBounds_toArray, List.set_cons_zero, List.set_cons_succ]
    refine wpAnyH_takeD 9 (some 24) (.pointer (some ⟨gd, 1, none⟩)) rfl rfl (by kernel_rfl) (by kernel_rfl) (by kernel_rfl) (fun _ _ _ h => h) (Or.inl ⟨by rfl, fun w hSw => by have q0 := (unhide HC _ hSw).1; have q1 := (unhide HC _ hSw).2; clear hSw; go_simp; try (intro hbad; omega)⟩) hS ?_
    simp only [Act.put, List.setIfInBounds_toArray, List.set_cons_zero, List.set_cons_succ]
    refine wpAnyH_takeD 10 (some 25) (.agg cd.toArray) rfl rfl (by kernel_rfl) (by kernel_rfl) (by kernel_rfl) (fun _ _ _ h => h) (yieldsIf_load_mid (by rfl) 52 (.tmp 24) rfl gd 1 rfl _ _ (fun w hSw => (unhide HD _ hSw).1) Tryd.underlying52 rfl (by rw [szD, unhide HLd])) hS ?_
    simp only [Act.put, List.setIfInBounds_toArray, List.set_cons_zero, List.set_cons_succ]
    refine wpAnyH_takeD 11 (some 26) (.slice (some ⟨g2, 0, none⟩) q c2) rfl rfl (by kernel_rfl) (by kernel_rfl) (by kernel_rfl) (fun _ _ _ h => h) (Or.inl ⟨by rfl, fun w hSw => by have q0 := (unhide HC _ hSw).1; have q1 := (unhide HC _ hSw).2; clear hSw; go_simp; try (intro hbad; omega)⟩) hS ?_
    simp only [Act.put, List.setIfInBounds_toArray, List.set_cons_zero, List.set_cons_succ]
    refine wpAnyH_takeD 12 (some 27) (.int .i64 (k : Int)) rfl rfl (by kernel_rfl) (by kernel_rfl) (by kernel_rfl) (fun _ _ _ h => h) (Or.inl ⟨by rfl, fun w hSw => by have q0 := (unhide HC _ hSw).1; have q1 := (unhide HC _ hSw).2; clear hSw; go_simp; try (intro hbad; omega)⟩) hS ?_
    simp only [Act.put, List.setIfInBounds_toArray, List.set_cons_zero, List.set_cons_succ]
    refine wpAnyH_takeD 13 (some 28) (.pointer (some ⟨g2, k * 33, none⟩)) rfl rfl (by kernel_rfl) (by kernel_rfl) (by kernel_rfl) (fun _ _ _ h => h) (Or.inl ⟨by rfl, fun w hSw => by have q0 := (unhide HC _ hSw).1; have q1 := (unhide HC _ hSw).2; clear hSw; go_simp; try (intro hbad; omega)⟩) hS ?_
    simp only [Act.put, List.setIfInBounds_toArray, List.set_cons_zero, List.set_cons_succ]
    refine wpAnyH_takeD 14 (some 29) (.pointer (some ⟨g2, k * 33 + 1, none⟩)) rfl rfl (by kernel_rfl) (by kernel_rfl) (by kernel_rfl) (fun _ _ _ h => h) (Or.inl ⟨by rfl, fun w hSw => by have q0 := (unhide HC _ hSw).1; have q1 := (unhide HC _ hSw).2; clear hSw; go_simp; try (intro hbad; omega)⟩) hS ?_
    simp only [Act.put, List.setIfInBounds_toArray, List.set_cons_zero, List.set_cons_succ]
    refine wpAnyH_takeD 15 (some 30) (.agg ce.toArray) rfl rfl (by kernel_rfl) (by kernel_rfl) (by kernel_rfl) (fun _ _ _ h => h) (yieldsIf_load_mid (by rfl) 52 (.tmp 29) rfl g2 (k * 33 + 1) rfl _ _ (fun w hSw => (unhide HD _ hSw).2) Tryd.underlying52 rfl (by rw [szD, unhide HLe])) hS ?_
    simp only [Act.put, List.setIfInBounds_toArray, List.set_cons_zero, List.set_cons_succ]
    refine wpAnyH_takeD 16 (some 31) (.bool true) rfl rfl (by kernel_rfl) (by kernel_rfl) (by kernel_rfl) (fun _ _ _ h => h) (yieldsIf_eqD rfl (.tmp 25) (.tmp 30) rfl _ _ rfl rfl (unhide HEQ)) hS ?_
    simp only [Act.put, List.setIfInBounds_toArray, List.set_cons_zero, List.set_cons_succ]
    refine wpAnyH_takeD 17 (some 32) (.bool true) rfl rfl (by kernel_rfl) (by kernel_rfl) (by kernel_rfl) (fun _ _ _ h => h) (Or.inl ⟨by rfl, fun w hSw => by have q0 := (unhide HC _ hSw).1; have q1 := (unhide HC _ hSw).2; clear hSw; go_simp; try (intro hbad; omega)⟩) hS ?_
    simp only [Act.put, List.setIfInBounds_toArray, List.set_cons_zero, List.set_cons_succ]
    refine wpAnyH_done (by kernel_rfl) ?_ _
    clear hne
    go_wp2_with fail
    refine wp_region_held_drew (S := fun W => Below b2 x2 W) (by kernel_rfl) hS.drew ?_
    intro hS
    refine wpAnyH_takeD 0 (some 33) (.pointer (some ⟨gd, 0, none⟩)) rfl rfl (by kernel_rfl) (by kernel_rfl) (by kernel_rfl) (fun _ _ _ h => h) (Or.inl ⟨by rfl, fun w hSw => by have q0 := (unhide HC _ hSw).1; have q1 := (unhide HC _ hSw).2; clear hSw; go_simp; try (intro hbad; omega)⟩) hS ?_
    simp only [Act.put, List.setIfInBounds_toArray, List.set_cons_zero, List.set_cons_succ]
    refine wpAnyH_takeD 1 (some 34) (.string t) rfl rfl (by kernel_rfl) (by kernel_rfl) (by kernel_rfl) (fun _ _ _ h => h) (Or.inl ⟨by rfl, fun w hSw => by have q0 := (unhide HC _ hSw).1; have q1 := (unhide HC _ hSw).2; clear hSw; go_simp; try (intro hbad; omega)⟩) hS ?_
    simp only [Act.put, List.setIfInBounds_toArray, List.set_cons_zero, List.set_cons_succ]
    refine wpAnyH_takeD 2 (some 35) (.slice (some ⟨g2, 0, none⟩) q c2) rfl rfl (by kernel_rfl) (by kernel_rfl) (by kernel_rfl) (fun _ _ _ h => h) (Or.inl ⟨by rfl, fun w hSw => by have q0 := (unhide HC _ hSw).1; have q1 := (unhide HC _ hSw).2; clear hSw; go_simp; try (intro hbad; omega)⟩) hS ?_
    simp only [Act.put, List.setIfInBounds_toArray, List.set_cons_zero, List.set_cons_succ]
    refine wpAnyH_takeD 3 (some 36) (.int .i64 (k : Int)) rfl rfl (by kernel_rfl) (by kernel_rfl) (by kernel_rfl) (fun _ _ _ h => h) (Or.inl ⟨by rfl, fun w hSw => by have q0 := (unhide HC _ hSw).1; have q1 := (unhide HC _ hSw).2; clear hSw; go_simp; try (intro hbad; omega)⟩) hS ?_
    simp only [Act.put, List.setIfInBounds_toArray, List.set_cons_zero, List.set_cons_succ]
    refine wpAnyH_takeD 4 (some 37) (.pointer (some ⟨g2, k * 33, none⟩)) rfl rfl (by kernel_rfl) (by kernel_rfl) (by kernel_rfl) (fun _ _ _ h => h) (Or.inl ⟨by rfl, fun w hSw => by have q0 := (unhide HC _ hSw).1; have q1 := (unhide HC _ hSw).2; clear hSw; go_simp; try (intro hbad; omega)⟩) hS ?_
    simp only [Act.put, List.setIfInBounds_toArray, List.set_cons_zero, List.set_cons_succ]
    refine wpAnyH_takeD 5 (some 38) (.pointer (some ⟨g2, k * 33, none⟩)) rfl rfl (by kernel_rfl) (by kernel_rfl) (by kernel_rfl) (fun _ _ _ h => h) (Or.inl ⟨by rfl, fun w hSw => by have q0 := (unhide HC _ hSw).1; have q1 := (unhide HC _ hSw).2; clear hSw; go_simp; try (intro hbad; omega)⟩) hS ?_
    simp only [Act.put, List.setIfInBounds_toArray, List.set_cons_zero, List.set_cons_succ]
    refine wpAnyH_takeD 6 (some 39) (.string t') rfl rfl (by kernel_rfl) (by kernel_rfl) (by kernel_rfl) (fun _ _ _ h => h) (Or.inl ⟨by rfl, fun w hSw => by have q0 := (unhide HC _ hSw).1; have q1 := (unhide HC _ hSw).2; clear hSw; go_simp; try (intro hbad; omega)⟩) hS ?_
    simp only [Act.put, List.setIfInBounds_toArray, List.set_cons_zero, List.set_cons_succ]
    refine wpAnyH_takeD 7 (some 4) (.string t) rfl rfl (by kernel_rfl) (by kernel_rfl) (by kernel_rfl) (fun _ _ _ h => h) (Or.inl ⟨by rfl, fun w hSw => by have q0 := (unhide HC _ hSw).1; have q1 := (unhide HC _ hSw).2; clear hSw; go_simp; try (intro hbad; omega)⟩) hS ?_
    simp only [Act.put, List.setIfInBounds_toArray, List.set_cons_zero, List.set_cons_succ]
    refine wpAnyH_takeD 8 (some 5) (.string t') rfl rfl (by kernel_rfl) (by kernel_rfl) (by kernel_rfl) (fun _ _ _ h => h) (Or.inl ⟨by rfl, fun w hSw => by have q0 := (unhide HC _ hSw).1; have q1 := (unhide HC _ hSw).2; clear hSw; go_simp; try (intro hbad; omega)⟩) hS ?_
    simp only [Act.put, List.setIfInBounds_toArray, List.set_cons_zero, List.set_cons_succ]
    refine wpAnyH_done (by kernel_rfl) ?_ _
    go_wp2
    go_ret2
    exact ⟨⟨t, t', rfl, unhide HFK2⟩, unhide HBW _ hS⟩
  · have HJ2 := hide (show ∀ j, j < k + 1 → ¬ Cl T T' j from fun j hj => by
      by_cases e : j = k
      · rw [e]; exact fun hc => hcl ((unhide HCLd).1 hc)
      · exact unhide HJ j (by omega))
    by_cases htt : t = t'
    · have hee : (t.toList == t.toList) = true := by simp
      subst htt
      clear HFK HCLd HEQ0 hcl HJ
      go_wp2_with (first | refine wpList_load_mid rfl 110 (.tmp 13) rfl g1 (k * 33) rfl _ _ (unhide HRR) Tryd.underlying110 rfl (by rw [szR, unhide HLR]) ?_ | refine wpList_store_mid rfl 110 (.tmp 7) (.tmp 14) rfl gd 0 cr.toArray rfl rfl (by simpa [unhide HLR] using unhide HT1) (by rw [szR]; simp [unhide HLR]) (unhide HO1) ?_)
      refine wp_region_held_drew (S := fun W => Below b2 x2 W) (by kernel_rfl) (Below.refl _ _).drew ?_
      intro hS
      refine wpAnyH_takeD 0 (some 15) (.pointer (some ⟨gd, 0, none⟩)) rfl rfl (by kernel_rfl) (by kernel_rfl) (by kernel_rfl) (fun _ _ _ h => h) (Or.inl ⟨by rfl, fun w hSw => by have q0 := (unhide HC _ hSw).1; have q1 := (unhide HC _ hSw).2; clear hSw; go_simp; try (intro hbad; omega)⟩) hS ?_
      simp only [Act.put, List.setIfInBounds_toArray, List.set_cons_zero, List.set_cons_succ]
      refine wpAnyH_takeD 1 (some 16) (.string t) rfl rfl (by kernel_rfl) (by kernel_rfl) (by kernel_rfl) (fun _ _ _ h => h) (Or.inl ⟨by rfl, fun w hSw => by have q0 := (unhide HC _ hSw).1; have q1 := (unhide HC _ hSw).2; clear hSw; go_simp; try (intro hbad; omega)⟩) hS ?_
      simp only [Act.put, List.setIfInBounds_toArray, List.set_cons_zero, List.set_cons_succ]
      refine wpAnyH_takeD 2 (some 17) (.slice (some ⟨g2, 0, none⟩) q c2) rfl rfl (by kernel_rfl) (by kernel_rfl) (by kernel_rfl) (fun _ _ _ h => h) (Or.inl ⟨by rfl, fun w hSw => by have q0 := (unhide HC _ hSw).1; have q1 := (unhide HC _ hSw).2; clear hSw; go_simp; try (intro hbad; omega)⟩) hS ?_
      simp only [Act.put, List.setIfInBounds_toArray, List.set_cons_zero, List.set_cons_succ]
      refine wpAnyH_takeD 3 (some 18) (.int .i64 (k : Int)) rfl rfl (by kernel_rfl) (by kernel_rfl) (by kernel_rfl) (fun _ _ _ h => h) (Or.inl ⟨by rfl, fun w hSw => by have q0 := (unhide HC _ hSw).1; have q1 := (unhide HC _ hSw).2; clear hSw; go_simp; try (intro hbad; omega)⟩) hS ?_
      simp only [Act.put, List.setIfInBounds_toArray, List.set_cons_zero, List.set_cons_succ]
      refine wpAnyH_takeD 4 (some 19) (.pointer (some ⟨g2, k * 33, none⟩)) rfl rfl (by kernel_rfl) (by kernel_rfl) (by kernel_rfl) (fun _ _ _ h => h) (Or.inl ⟨by rfl, fun w hSw => by have q0 := (unhide HC _ hSw).1; have q1 := (unhide HC _ hSw).2; clear hSw; go_simp; try (intro hbad; omega)⟩) hS ?_
      simp only [Act.put, List.setIfInBounds_toArray, List.set_cons_zero, List.set_cons_succ]
      refine wpAnyH_takeD 5 (some 20) (.pointer (some ⟨g2, k * 33, none⟩)) rfl rfl (by kernel_rfl) (by kernel_rfl) (by kernel_rfl) (fun _ _ _ h => h) (Or.inl ⟨by rfl, fun w hSw => by have q0 := (unhide HC _ hSw).1; have q1 := (unhide HC _ hSw).2; clear hSw; go_simp; try (intro hbad; omega)⟩) hS ?_
      simp only [Act.put, List.setIfInBounds_toArray, List.set_cons_zero, List.set_cons_succ]
      refine wpAnyH_takeD 6 (some 21) (.string t) rfl rfl (by kernel_rfl) (by kernel_rfl) (by kernel_rfl) (fun _ _ _ h => h) (Or.inl ⟨by rfl, fun w hSw => by have q0 := (unhide HC _ hSw).1; have q1 := (unhide HC _ hSw).2; clear hSw; go_simp; try (intro hbad; omega)⟩) hS ?_
      simp only [Act.put, List.setIfInBounds_toArray, List.set_cons_zero, List.set_cons_succ]
      refine wpAnyH_takeD 7 (some 22) (.bool false) rfl rfl (by kernel_rfl) (by kernel_rfl) (by kernel_rfl) (fun _ _ _ h => h) (Or.inl ⟨by rfl, fun w hSw => by have q0 := (unhide HC _ hSw).1; have q1 := (unhide HC _ hSw).2; clear hSw; go_simp; try (intro hbad; omega)⟩) hS ?_
      simp only [Act.put, List.setIfInBounds_toArray, List.set_cons_zero, List.set_cons_succ]
      refine wpAnyH_takeD 8 (some 23) (.bool false) rfl rfl (by kernel_rfl) (by kernel_rfl) (by kernel_rfl) (fun _ _ _ h => h) (Or.inl ⟨by rfl, fun w hSw => by have q0 := (unhide HC _ hSw).1; have q1 := (unhide HC _ hSw).2; clear hSw; go_simp; try (intro hbad; omega)⟩) hS ?_
      simp only [Act.put, List.setIfInBounds_toArray, List.set_cons_zero, List.set_cons_succ]
      refine wpAnyH_takeD 9 (some 24) undef rfl rfl (by kernel_rfl) (by kernel_rfl) (by kernel_rfl) (fun _ _ _ h => h) (Or.inr ⟨by rfl, rfl⟩) hS ?_
      simp only [Act.put, List.setIfInBounds_toArray, List.set_cons_zero, List.set_cons_succ]
      refine wpAnyH_takeD 10 (some 25) undef rfl rfl (by kernel_rfl) (by kernel_rfl) (by kernel_rfl) (fun _ _ _ h => h) (Or.inr ⟨by rfl, rfl⟩) hS ?_
      simp only [Act.put, List.setIfInBounds_toArray, List.set_cons_zero, List.set_cons_succ]
      refine wpAnyH_takeD 11 (some 26) undef rfl rfl (by kernel_rfl) (by kernel_rfl) (by kernel_rfl) (fun _ _ _ h => h) (Or.inr ⟨by rfl, rfl⟩) hS ?_
      simp only [Act.put, List.setIfInBounds_toArray, List.set_cons_zero, List.set_cons_succ]
      refine wpAnyH_takeD 12 (some 27) undef rfl rfl (by kernel_rfl) (by kernel_rfl) (by kernel_rfl) (fun _ _ _ h => h) (Or.inr ⟨by rfl, rfl⟩) hS ?_
      simp only [Act.put, List.setIfInBounds_toArray, List.set_cons_zero, List.set_cons_succ]
      refine wpAnyH_takeD 13 (some 28) undef rfl rfl (by kernel_rfl) (by kernel_rfl) (by kernel_rfl) (fun _ _ _ h => h) (Or.inr ⟨by rfl, rfl⟩) hS ?_
      simp only [Act.put, List.setIfInBounds_toArray, List.set_cons_zero, List.set_cons_succ]
      refine wpAnyH_takeD 14 (some 29) undef rfl rfl (by kernel_rfl) (by kernel_rfl) (by kernel_rfl) (fun _ _ _ h => h) (Or.inr ⟨by rfl, rfl⟩) hS ?_
      simp only [Act.put, List.setIfInBounds_toArray, List.set_cons_zero, List.set_cons_succ]
      refine wpAnyH_takeD 15 (some 30) undef rfl rfl (by kernel_rfl) (by kernel_rfl) (by kernel_rfl) (fun _ _ _ h => h) (Or.inr ⟨by rfl, rfl⟩) hS ?_
      simp only [Act.put, List.setIfInBounds_toArray, List.set_cons_zero, List.set_cons_succ]
      refine wpAnyH_takeD 16 (some 31) undef rfl rfl (by kernel_rfl) (by kernel_rfl) (by kernel_rfl) (fun _ _ _ h => h) (Or.inr ⟨by rfl, rfl⟩) hS ?_
      simp only [Act.put, List.setIfInBounds_toArray, List.set_cons_zero, List.set_cons_succ]
      refine wpAnyH_takeD 17 (some 32) (.bool false) rfl rfl (by kernel_rfl) (by kernel_rfl) (by kernel_rfl) (fun _ _ _ h => h) (Or.inl ⟨by rfl, fun w hSw => by have q0 := (unhide HC _ hSw).1; have q1 := (unhide HC _ hSw).2; clear hSw; go_simp; try (intro hbad; omega)⟩) hS ?_
      simp only [Act.put, List.setIfInBounds_toArray, List.set_cons_zero, List.set_cons_succ]
      refine wpAnyH_done (by kernel_rfl) ?_ _
      clear hee
      have HBN := hide (unhide HBW _ hS)
      go_wp2
      go_roundw
      case rel => exact ⟨k + 1, by omega, by go_num, HJ2, HBN⟩
      case measure => simp [intOf] <;> omega
    · have hnd : ¬ dg t = dg t' := fun e => hcl ⟨htt, e⟩
      rw [decide_eq_false hnd] at HEQ0
      have HEQ := hide (fun W => unhide HEQ0 W)
      have hne : (t.toList == t'.toList) = false := str_ne htt
      clear HFK HCLd HEQ0 hcl HJ hnd htt
      go_wp2_with (first | refine wpList_load_mid rfl 110 (.tmp 13) rfl g1 (k * 33) rfl _ _ (unhide HRR) Tryd.underlying110 rfl (by rw [szR, unhide HLR]) ?_ | refine wpList_store_mid rfl 110 (.tmp 7) (.tmp 14) rfl gd 0 cr.toArray rfl rfl (by simpa [unhide HLR] using unhide HT1) (by rw [szR]; simp [unhide HLR]) (unhide HO1) ?_)
      refine wp_region_held_drew (S := fun W => Below b2 x2 W) (by kernel_rfl) (Below.refl _ _).drew ?_
      intro hS
      refine wpAnyH_takeD 0 (some 15) (.pointer (some ⟨gd, 0, none⟩)) rfl rfl (by kernel_rfl) (by kernel_rfl) (by kernel_rfl) (fun _ _ _ h => h) (Or.inl ⟨by rfl, fun w hSw => by have q0 := (unhide HC _ hSw).1; have q1 := (unhide HC _ hSw).2; clear hSw; go_simp; try (intro hbad; omega)⟩) hS ?_
      simp only [Act.put, List.setIfInBounds_toArray, List.set_cons_zero, List.set_cons_succ]
      refine wpAnyH_takeD 1 (some 16) (.string t) rfl rfl (by kernel_rfl) (by kernel_rfl) (by kernel_rfl) (fun _ _ _ h => h) (Or.inl ⟨by rfl, fun w hSw => by have q0 := (unhide HC _ hSw).1; have q1 := (unhide HC _ hSw).2; clear hSw; go_simp; try (intro hbad; omega)⟩) hS ?_
      simp only [Act.put, List.setIfInBounds_toArray, List.set_cons_zero, List.set_cons_succ]
      refine wpAnyH_takeD 2 (some 17) (.slice (some ⟨g2, 0, none⟩) q c2) rfl rfl (by kernel_rfl) (by kernel_rfl) (by kernel_rfl) (fun _ _ _ h => h) (Or.inl ⟨by rfl, fun w hSw => by have q0 := (unhide HC _ hSw).1; have q1 := (unhide HC _ hSw).2; clear hSw; go_simp; try (intro hbad; omega)⟩) hS ?_
      simp only [Act.put, List.setIfInBounds_toArray, List.set_cons_zero, List.set_cons_succ]
      refine wpAnyH_takeD 3 (some 18) (.int .i64 (k : Int)) rfl rfl (by kernel_rfl) (by kernel_rfl) (by kernel_rfl) (fun _ _ _ h => h) (Or.inl ⟨by rfl, fun w hSw => by have q0 := (unhide HC _ hSw).1; have q1 := (unhide HC _ hSw).2; clear hSw; go_simp; try (intro hbad; omega)⟩) hS ?_
      simp only [Act.put, List.setIfInBounds_toArray, List.set_cons_zero, List.set_cons_succ]
      refine wpAnyH_takeD 4 (some 19) (.pointer (some ⟨g2, k * 33, none⟩)) rfl rfl (by kernel_rfl) (by kernel_rfl) (by kernel_rfl) (fun _ _ _ h => h) (Or.inl ⟨by rfl, fun w hSw => by have q0 := (unhide HC _ hSw).1; have q1 := (unhide HC _ hSw).2; clear hSw; go_simp; try (intro hbad; omega)⟩) hS ?_
      simp only [Act.put, List.setIfInBounds_toArray, List.set_cons_zero, List.set_cons_succ]
      refine wpAnyH_takeD 5 (some 20) (.pointer (some ⟨g2, k * 33, none⟩)) rfl rfl (by kernel_rfl) (by kernel_rfl) (by kernel_rfl) (fun _ _ _ h => h) (Or.inl ⟨by rfl, fun w hSw => by have q0 := (unhide HC _ hSw).1; have q1 := (unhide HC _ hSw).2; clear hSw; go_simp; try (intro hbad; omega)⟩) hS ?_
      simp only [Act.put, List.setIfInBounds_toArray, List.set_cons_zero, List.set_cons_succ]
      refine wpAnyH_takeD 6 (some 21) (.string t') rfl rfl (by kernel_rfl) (by kernel_rfl) (by kernel_rfl) (fun _ _ _ h => h) (Or.inl ⟨by rfl, fun w hSw => by have q0 := (unhide HC _ hSw).1; have q1 := (unhide HC _ hSw).2; clear hSw; go_simp; try (intro hbad; omega)⟩) hS ?_
      simp only [Act.put, List.setIfInBounds_toArray, List.set_cons_zero, List.set_cons_succ]
      refine wpAnyH_takeD 7 (some 22) (.bool true) rfl rfl (by kernel_rfl) (by kernel_rfl) (by kernel_rfl) (fun _ _ _ h => h) (Or.inl ⟨by rfl, fun w hSw => by have q0 := (unhide HC _ hSw).1; have q1 := (unhide HC _ hSw).2; clear hSw; go_simp; try (intro hbad; omega)⟩) hS ?_
      simp only [Act.put, List.setIfInBounds_toArray, List.set_cons_zero, List.set_cons_succ]
      refine wpAnyH_takeD 8 (some 23) (.bool true) rfl rfl (by kernel_rfl) (by kernel_rfl) (by kernel_rfl) (fun _ _ _ h => h) (Or.inl ⟨by rfl, fun w hSw => by have q0 := (unhide HC _ hSw).1; have q1 := (unhide HC _ hSw).2; clear hSw; go_simp; try (intro hbad; omega)⟩) hS ?_
      simp only [Act.put, List.setIfInBounds_toArray, List.set_cons_zero, List.set_cons_succ]
      refine wpAnyH_takeD 9 (some 24) (.pointer (some ⟨gd, 1, none⟩)) rfl rfl (by kernel_rfl) (by kernel_rfl) (by kernel_rfl) (fun _ _ _ h => h) (Or.inl ⟨by rfl, fun w hSw => by have q0 := (unhide HC _ hSw).1; have q1 := (unhide HC _ hSw).2; clear hSw; go_simp; try (intro hbad; omega)⟩) hS ?_
      simp only [Act.put, List.setIfInBounds_toArray, List.set_cons_zero, List.set_cons_succ]
      refine wpAnyH_takeD 10 (some 25) (.agg cd.toArray) rfl rfl (by kernel_rfl) (by kernel_rfl) (by kernel_rfl) (fun _ _ _ h => h) (yieldsIf_load_mid (by rfl) 52 (.tmp 24) rfl gd 1 rfl _ _ (fun w hSw => (unhide HD _ hSw).1) Tryd.underlying52 rfl (by rw [szD, unhide HLd])) hS ?_
      simp only [Act.put, List.setIfInBounds_toArray, List.set_cons_zero, List.set_cons_succ]
      refine wpAnyH_takeD 11 (some 26) (.slice (some ⟨g2, 0, none⟩) q c2) rfl rfl (by kernel_rfl) (by kernel_rfl) (by kernel_rfl) (fun _ _ _ h => h) (Or.inl ⟨by rfl, fun w hSw => by have q0 := (unhide HC _ hSw).1; have q1 := (unhide HC _ hSw).2; clear hSw; go_simp; try (intro hbad; omega)⟩) hS ?_
      simp only [Act.put, List.setIfInBounds_toArray, List.set_cons_zero, List.set_cons_succ]
      refine wpAnyH_takeD 12 (some 27) (.int .i64 (k : Int)) rfl rfl (by kernel_rfl) (by kernel_rfl) (by kernel_rfl) (fun _ _ _ h => h) (Or.inl ⟨by rfl, fun w hSw => by have q0 := (unhide HC _ hSw).1; have q1 := (unhide HC _ hSw).2; clear hSw; go_simp; try (intro hbad; omega)⟩) hS ?_
      simp only [Act.put, List.setIfInBounds_toArray, List.set_cons_zero, List.set_cons_succ]
      refine wpAnyH_takeD 13 (some 28) (.pointer (some ⟨g2, k * 33, none⟩)) rfl rfl (by kernel_rfl) (by kernel_rfl) (by kernel_rfl) (fun _ _ _ h => h) (Or.inl ⟨by rfl, fun w hSw => by have q0 := (unhide HC _ hSw).1; have q1 := (unhide HC _ hSw).2; clear hSw; go_simp; try (intro hbad; omega)⟩) hS ?_
      simp only [Act.put, List.setIfInBounds_toArray, List.set_cons_zero, List.set_cons_succ]
      refine wpAnyH_takeD 14 (some 29) (.pointer (some ⟨g2, k * 33 + 1, none⟩)) rfl rfl (by kernel_rfl) (by kernel_rfl) (by kernel_rfl) (fun _ _ _ h => h) (Or.inl ⟨by rfl, fun w hSw => by have q0 := (unhide HC _ hSw).1; have q1 := (unhide HC _ hSw).2; clear hSw; go_simp; try (intro hbad; omega)⟩) hS ?_
      simp only [Act.put, List.setIfInBounds_toArray, List.set_cons_zero, List.set_cons_succ]
      refine wpAnyH_takeD 15 (some 30) (.agg ce.toArray) rfl rfl (by kernel_rfl) (by kernel_rfl) (by kernel_rfl) (fun _ _ _ h => h) (yieldsIf_load_mid (by rfl) 52 (.tmp 29) rfl g2 (k * 33 + 1) rfl _ _ (fun w hSw => (unhide HD _ hSw).2) Tryd.underlying52 rfl (by rw [szD, unhide HLe])) hS ?_
      simp only [Act.put, List.setIfInBounds_toArray, List.set_cons_zero, List.set_cons_succ]
      refine wpAnyH_takeD 16 (some 31) (.bool false) rfl rfl (by kernel_rfl) (by kernel_rfl) (by kernel_rfl) (fun _ _ _ h => h) (yieldsIf_eqD rfl (.tmp 25) (.tmp 30) rfl _ _ rfl rfl (unhide HEQ)) hS ?_
      simp only [Act.put, List.setIfInBounds_toArray, List.set_cons_zero, List.set_cons_succ]
      refine wpAnyH_takeD 17 (some 32) (.bool false) rfl rfl (by kernel_rfl) (by kernel_rfl) (by kernel_rfl) (fun _ _ _ h => h) (Or.inl ⟨by rfl, fun w hSw => by have q0 := (unhide HC _ hSw).1; have q1 := (unhide HC _ hSw).2; clear hSw; go_simp; try (intro hbad; omega)⟩) hS ?_
      simp only [Act.put, List.setIfInBounds_toArray, List.set_cons_zero, List.set_cons_succ]
      refine wpAnyH_done (by kernel_rfl) ?_ _
      clear hne
      have HBN := hide (unhide HBW _ hS)
      go_wp2
      go_roundw
      case rel => exact ⟨k + 1, by omega, by go_num, HJ2, HBN⟩
      case measure => simp [intOf] <;> omega
/-- what Clash answers -/
noncomputable def chE (root : ByteArray) (n i : Int) (s : ByteArray) (P : List ByteArray) (s' : ByteArray) (P' : List ByteArray) : Int := if ckE root n i s P ≠ 0 then ckE root n i s P else if ckE root n i s' P' ≠ 0 then ckE root n i s' P' else if s = s' then 1 else 0
def ChQ (w : World) (root : ByteArray) (n i : Int) (s : ByteArray) (P : List ByteArray) (s' : ByteArray) (P' : List ByteArray) (e : Ending) (w' : World) : Prop := Below w.heap.size w w' ∧ ∃ a b, e = .returned (.tuple #[.string a, .string b, .int .i64 (chE root n i s P s' P')]) ∧ (chE root n i s P s' P' ≠ 0 → a = ⟨#[]⟩ ∧ b = ⟨#[]⟩) ∧ (chE root n i s P s' P' = 0 → ∃ T T', up n.toNat i.toNat s P = some T ∧ up n.toNat i.toNat s' P' = some T' ∧ FcQ T T' a b)
set_option maxHeartbeats 4000000 in
theorem clash_any (root : ByteArray) (N I0 : Int) (s s' : ByteArray) (hs : s.size ≤ 140737488355000) (hs' : s'.size ≤ 140737488355000) (P P' : List ByteArray) (q q' : Nat) (hq : P.length = q) (hq' : P'.length = q') (w : World) (B c c' : Nat) (p p' : Option Addr) (hS : SB w B p P) (hS' : SB w B p' P') (hB : B ≤ w.heap.size) (hK : KTab w) (hqc : q ≤ c) (hc9 : c ≤ 9223372036854775807) (hqc' : q' ≤ c') (hc9' : c' ≤ 9223372036854775807) : Calls Tryd.prog 44 #[PV root N I0, .string s, .slice p q c, .string s', .slice p' q' c'] w (ChQ w root N I0 s P s' P') := by
  obtain ⟨h, hh⟩ : ∃ h, w.heap.size = h := ⟨_, rfl⟩
  obtain ⟨pv, hpv⟩ : ∃ l : List Value, [.string root, .int .i64 N, .int .i64 I0, .func (.func 40) #[] #[]] = l := ⟨_, rfl⟩
  have hPV : PV root N I0 = .agg pv.toArray := by rw [← hpv]; rfl
  obtain ⟨x1, hx1⟩ : ∃ q, w.alloc (.cells pv.toArray 61) = q := ⟨_, rfl⟩
  have HE1 := hide (show x1.heap.size = h + 1 from by rw [← hx1]; simp [hh])
  have HB0 := hide (show Below h w x1 from by rw [← hx1, ← hh]; exact (Below.refl _ w).alloc (Nat.le_refl _) _)
  have HKB := hide (show ∀ W, Below (h + 1) x1 W → KTab W from fun W hW => (hK.below (unhide HB0) (by rw [← hh]; exact hK.1)).below hW (by have := hK.1; omega))
  have HSB := hide (show ∀ W, Below (h + 1) x1 W → SB W B p P ∧ SB W B p' P' from fun W hW => ⟨(hS.below ((unhide HB0).mono (by omega))).below (hW.mono (by omega)), (hS'.below ((unhide HB0).mono (by omega))).below (hW.mono (by omega))⟩)
  have HPL := hide (show pv.length = 4 from by rw [← hpv]; rfl)
  have HPR := hide (show ∀ W, Below (h + 1) x1 W → W.rangeAt h 0 pv from fun W hW => rangeAt_below (by
    rw [← hx1, ← hh]
    intro j v hv
    rw [Nat.zero_add, (Blk.new w 61 pv.toArray).cell j, ← hv]
    simp) hW (by omega))
  have HC1 := hide (show ∀ W, Below (h + 1) x1 W → Calls Tryd.prog 43 #[PV root N I0, .string s, .slice p q c] W (ClQ W root N I0 s P) from fun W hW => climb_any root N I0 s hs P q hq W B c p (unhide HSB W hW).1 (by have := hW.size; have := unhide HE1; omega) (unhide HKB W hW) hqc hc9)
  have HC2 := hide (show ∀ W, Below (h + 1) x1 W → Calls Tryd.prog 43 #[PV root N I0, .string s', .slice p' q' c'] W (ClQ W root N I0 s' P') from fun W hW => climb_any root N I0 s' hs' P' q' hq' W B c' p' (unhide HSB W hW).2 (by have := hW.size; have := unhide HE1; omega) (unhide HKB W hW) hqc' hc9')
  rw [hPV] at HC1 HC2 ⊢
  have hch : chE root N I0 s P s' P' = if ckE root N I0 s P ≠ 0 then ckE root N I0 s P else if ckE root N I0 s' P' ≠ 0 then ckE root N I0 s' P' else if s = s' then 1 else 0 := rfl
  have HER := hide (show ∀ er z, chE root N I0 s P s' P' = er → er ≠ 0 → Below h w z → ChQ w root N I0 s P s' P' (.returned (.tuple #[.string ⟨#[]⟩, .string ⟨#[]⟩, .int .i64 er])) z from fun er z h1 h2 h3 => ⟨by rw [hh]; exact h3, _, _, by rw [h1], fun _ => ⟨rfl, rfl⟩, fun h4 => absurd (h1.symm.trans h4) h2⟩)
  have HBx := hide (show Below (h + 1) x1 x1 from Below.refl _ _)
  clear hS hS' hK hq hq' hpv hPV hs hs'
  obtain ⟨e1, he1⟩ : ∃ z, ckE root N I0 s P = z := ⟨_, rfl⟩
  obtain ⟨e2, he2⟩ : ∃ z, ckE root N I0 s' P' = z := ⟨_, rfl⟩
  rw [he1, he2] at hch
  by_cases h1 : e1 = 0
  case neg =>
    rw [if_pos h1] at hch
    have HE := hide (fun z => unhide HER e1 z hch h1)
    have hn : (e1 != 0) = true := by simpa using h1
    clear hch HER
    go_enter Tryd.func44, Tryd.ntmps44
    go_wp2_with (first | refine wpList_load_mid rfl 61 (.tmp 5) rfl h 0 rfl _ _ (unhide HPR _ (unhide HBx)) Tryd.underlying61 rfl (by rw [szP, unhide HPL]) ?_ | fail)
    refine (unhide HC1 _ (unhide HBx)).mono ?_
    rintro e y1 ⟨hb1, v1, rfl, ho1⟩
    rw [he1] at ho1 ⊢
    have HO1 := hide ho1
    have HB1 := hide (show Below (h + 1) x1 y1 from hb1.mono (by rw [unhide HE1]; exact Nat.le_refl _))
    have HW1 := hide (show Below h w y1 from (unhide HB0).trans ((unhide HB1).mono (by omega)))
    clear ho1 hb1
    go_wp2
    go_ret3
    exact unhide HE _ (unhide HW1)
  rw [if_neg (by simpa using h1)] at hch
  by_cases h2 : e2 = 0
  case neg =>
    rw [if_pos h2] at hch
    have HE := hide (fun z => unhide HER e2 z hch h2)
    have hn : (e2 != 0) = true := by simpa using h2
    subst h1
    clear hch HER
    go_enter Tryd.func44, Tryd.ntmps44
    go_wp2_with (first | refine wpList_load_mid rfl 61 (.tmp 5) rfl h 0 rfl _ _ (unhide HPR _ (unhide HBx)) Tryd.underlying61 rfl (by rw [szP, unhide HPL]) ?_ | fail)
    refine (unhide HC1 _ (unhide HBx)).mono ?_
    rintro e y1 ⟨hb1, v1, rfl, ho1⟩
    rw [he1] at ho1 ⊢
    have HO1 := hide ho1
    have HB1 := hide (show Below (h + 1) x1 y1 from hb1.mono (by rw [unhide HE1]; exact Nat.le_refl _))
    have HW1 := hide (show Below h w y1 from (unhide HB0).trans ((unhide HB1).mono (by omega)))
    clear ho1 hb1
    go_wp2_with (first | refine wpList_load_mid rfl 61 (.tmp 5) rfl h 0 rfl _ _ (unhide HPR _ (unhide HB1)) Tryd.underlying61 rfl (by rw [szP, unhide HPL]) ?_ | fail)
    refine (unhide HC2 _ (unhide HB1)).mono ?_
    rintro e y2 ⟨hb2, v2, rfl, ho2⟩
    rw [he2] at ho2 ⊢
    have HO2 := hide ho2
    have HBB2 := hide hb2
    have HW2 := hide (show Below h w y2 from (unhide HW1).trans (hb2.mono (by have := (unhide HW1).size; omega)))
    clear ho2 hb2
    go_wp2
    go_ret3
    exact unhide HE _ (unhide HW2)
  rw [if_neg (by simpa using h2)] at hch
  subst h1 h2
  by_cases h3 : s = s'
  · rw [if_pos h3] at hch
    have HE := hide (fun z => unhide HER 1 z hch (by decide))
    subst h3
    clear hch HER
    go_enter Tryd.func44, Tryd.ntmps44
    go_wp2_with (first | refine wpList_load_mid rfl 61 (.tmp 5) rfl h 0 rfl _ _ (unhide HPR _ (unhide HBx)) Tryd.underlying61 rfl (by rw [szP, unhide HPL]) ?_ | fail)
    refine (unhide HC1 _ (unhide HBx)).mono ?_
    rintro e y1 ⟨hb1, v1, rfl, ho1⟩
    rw [he1] at ho1 ⊢
    have HO1 := hide ho1
    have HB1 := hide (show Below (h + 1) x1 y1 from hb1.mono (by rw [unhide HE1]; exact Nat.le_refl _))
    have HW1 := hide (show Below h w y1 from (unhide HB0).trans ((unhide HB1).mono (by omega)))
    clear ho1 hb1
    go_wp2_with (first | refine wpList_load_mid rfl 61 (.tmp 5) rfl h 0 rfl _ _ (unhide HPR _ (unhide HB1)) Tryd.underlying61 rfl (by rw [szP, unhide HPL]) ?_ | fail)
    refine (unhide HC2 _ (unhide HB1)).mono ?_
    rintro e y2 ⟨hb2, v2, rfl, ho2⟩
    rw [he2] at ho2 ⊢
    have HO2 := hide ho2
    have HBB2 := hide hb2
    have HW2 := hide (show Below h w y2 from (unhide HW1).trans (hb2.mono (by have := (unhide HW1).size; omega)))
    clear ho2 hb2
    go_wp2
    go_ret3
    exact unhide HE _ (unhide HW2)
  · rw [if_neg h3] at hch
    obtain ⟨T, T', hT, hT', hl, hex⟩ := fooled he1 he2 h3
    obtain ⟨_, ⟨b1, b2, _, _⟩, _⟩ := ckE_ok he1
    have hne : (s.toList == s'.toList) = false := str_ne h3
    obtain ⟨m, hm⟩ : ∃ m, T.length = m + 1 := ⟨T.length - 1, by have := List.length_pos_iff.2 (up_ne hT); omega⟩
    have hm2 : m + 1 ≤ 4096 := by have := up_len _ _ _ _ _ hT (by omega); omega
    have HFC := hide (fun W g1 g2 c1 c2 base1 base2 ho1 ho2 => firstClash_any T T' (m + 1) c1 c2 hm (by omega) (by omega) W g1 g2 base1 base2 ho1 ho2 (by rw [← hm]; exact hex))
    have HE := hide (show ∀ a b z, FcQ T T' a b → Below h w z → ChQ w root N I0 s P s' P' (.returned (.tuple #[.string a, .string b, .int .i64 0])) z from fun a b z h4 h5 => ⟨by rw [hh]; exact h5, a, b, by rw [hch], fun h6 => absurd hch h6, fun _ => ⟨T, T', hT, hT', h4⟩⟩)
    have HTT := hide (And.intro hT (And.intro hT' (And.intro hm (show T'.length = m + 1 by omega))))
    clear hch HER hl hex hm hT hT' b1 b2 h3
    go_enter Tryd.func44, Tryd.ntmps44
    go_wp2_with (first | refine wpList_load_mid rfl 61 (.tmp 5) rfl h 0 rfl _ _ (unhide HPR _ (unhide HBx)) Tryd.underlying61 rfl (by rw [szP, unhide HPL]) ?_ | fail)
    refine (unhide HC1 _ (unhide HBx)).mono ?_
    rintro e y1 ⟨hb1, v1, rfl, ho1⟩
    rw [he1] at ho1 ⊢
    have HO1 := hide ho1
    have HB1 := hide (show Below (h + 1) x1 y1 from hb1.mono (by rw [unhide HE1]; exact Nat.le_refl _))
    have HW1 := hide (show Below h w y1 from (unhide HB0).trans ((unhide HB1).mono (by omega)))
    clear ho1 hb1
    go_wp2_with (first | refine wpList_load_mid rfl 61 (.tmp 5) rfl h 0 rfl _ _ (unhide HPR _ (unhide HB1)) Tryd.underlying61 rfl (by rw [szP, unhide HPL]) ?_ | fail)
    refine (unhide HC2 _ (unhide HB1)).mono ?_
    rintro e y2 ⟨hb2, v2, rfl, ho2⟩
    rw [he2] at ho2 ⊢
    have HO2 := hide ho2
    have HBB2 := hide hb2
    have HW2 := hide (show Below h w y2 from (unhide HW1).trans (hb2.mono (by have := (unhide HW1).size; omega)))
    clear ho2 hb2
    have ho1 := own_bel (unhide HO1 (by first | rfl | trivial) T (unhide HTT).1) (unhide HBB2)
    rw [(unhide HTT).2.2.1] at ho1
    have ho2 := unhide HO2 (by first | rfl | trivial) T' (unhide HTT).2.1
    rw [(unhide HTT).2.2.2] at ho2
    obtain ⟨gv1, cv1, rfl, _, _⟩ := ho1.form (by omega)
    obtain ⟨gv2, cv2, rfl, _, _⟩ := ho2.form (by omega)
    have HF2 := hide (unhide HFC _ gv1 gv2 cv1 cv2 _ _ ho1 ho2)
    clear ho1 ho2 HO1 HO2 HTT HFC
    go_wp2_with fail
    refine (unhide HF2).mono ?_
    rintro e y9 ⟨⟨a, b, rfl, hfc⟩, hb⟩
    have HG := hide (unhide HE a b y9 hfc ((unhide HW2).trans (hb.mono (by have := (unhide HW2).size; omega))))
    clear hfc hb
    go_wp2
    go_ret3
    exact unhide HG
set_option maxHeartbeats 1000000 in
theorem Clash_any (root : ByteArray) (N I0 : Int) (s s' : ByteArray) (hs : s.size ≤ 140737488355000) (hs' : s'.size ≤ 140737488355000) (P P' : List ByteArray) (q q' : Nat) (hq : P.length = q) (hq' : P'.length = q') (w : World) (B c c' : Nat) (p p' : Option Addr) (hS : SB w B p P) (hS' : SB w B p' P') (hB : B ≤ w.heap.size) (hK : KTab w) (hqc : q ≤ c) (hc9 : c ≤ 9223372036854775807) (hqc' : q' ≤ c') (hc9' : c' ≤ 9223372036854775807) : Calls Tryd.prog 15 #[.string root, .int .i64 N, .int .i64 I0, .string s, .slice p q c, .string s', .slice p' q' c'] w (ChQ w root N I0 s P s' P') := by
  have HC := hide (clash_any root N I0 s s' hs hs' P P' q q' hq hq' w B c c' p p' hS hS' hB hK hqc hc9 hqc' hc9')
  unfold PV at HC
  clear hS hS' hB hK hq hq' hs hs'
  go_enter Tryd.func15, Tryd.ntmps15
  go_wp2_with fail
  refine (unhide HC).mono ?_
  rintro e z ⟨hb, a, b, rfl, h1, h2⟩
  have HE := hide (show ChQ w root N I0 s P s' P' (.returned (.tuple #[.string a, .string b, .int .i64 (chE root N I0 s P s' P')])) z from ⟨hb, a, b, rfl, h1, h2⟩)
  clear hb h1 h2 HC
  obtain ⟨er, her⟩ : ∃ x, chE root N I0 s P s' P' = x := ⟨_, rfl⟩
  rw [her] at HE ⊢
  clear her
  go_wp2
  go_ret3
  exact unhide HE
end Go.Proofs.YtkileaocgecckaaDoor
