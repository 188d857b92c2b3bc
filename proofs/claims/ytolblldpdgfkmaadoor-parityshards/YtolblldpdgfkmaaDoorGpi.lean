import Derived.Test.YtolblldpdgfkmaaDoorGph
import Derived.Test.YtolblldpdgfkmaaDoorGrg
namespace Go.Proofs.YtolblldpdgfkmaaDoor
open Go.RowKit
set_option maxRecDepth 100000
/-- a list of so many bytes, new -/
def BrQ (w : World) (len : Nat) (F : Nat → G) (e : Ending) (w' : World) : Prop := ∃ g c, e = .returned (.slice (some ⟨g, 0, none⟩) len c) ∧ w'.ownsRow w.heap.size 5 1 (.slice (some ⟨g, 0, none⟩) len c) len (gW len F) ∧ Below w.heap.size w w'
set_option maxHeartbeats 8000000 in
theorem pweighted_any (w : World) (B n len cs cx bx : Nat) (pn ps px : Option Addr) (f : Nat → Nat) (D : Nat → Nat → G) (X : Nat → G) (hn1 : 1 ≤ n) (hn2 : n ≤ 16) (hlen : len ≤ 70000) (hM : FoM w B n len pn ps f D) (hB : B ≤ w.heap.size) (hX : w.ownsRow bx 5 1 (.slice px n cx) n (gW n X)) : Calls Tryd.prog 40 #[.slice ps n cs, .slice px n cx] w (BrQ w len (fun q => sm (fun r => D r q * X r) (List.range n))) := by
  obtain ⟨g0', o0, q0, c0, rfl, hg0, hc0, hq0, _⟩ := hM.shs 0 (by omega)
  simp only [Nat.add_zero] at hc0
  have h0n : (0 : Int) < (n : Int) := by omega
  have hmk := run_make_u8 len len (Nat.le_refl _) (by omega) w
  obtain ⟨w0, hw0⟩ : ∃ q, w.alloc (.cells ((List.replicate len (0 : Int)).map (Value.int .u8)).toArray 5) = q := ⟨_, rfl⟩
  have HO0 := hide (show w0.ownsRow w.heap.size 5 1 (.slice (some ⟨w.heap.size, 0, none⟩) len len) len (gW len (fun q => sm (fun r => D r q * X r) (List.range 0))) ∧ Below w.heap.size w w0 from by
    subst hw0
    exact ⟨own_made w w.heap.size len len (Nat.le_refl _) (by unfold maxLen; omega) (Nat.le_refl _), (Below.refl _ _).alloc (Nat.le_refl _) _⟩)
  rw [hw0] at hmk
  have HM := hide (And.intro hM (And.intro hB hX))
  clear hw0 hM hB hX
  go_enter Tryd.func40, Tryd.ntmps40
  go_wp2
  clear hmk hc0
  go_loopw [15] (fun i wr => ∃ k : Nat, k ≤ n ∧ i = .int .i64 (k : Int) ∧ Hid (wr.ownsRow w.heap.size 5 1 (.slice (some ⟨w.heap.size, 0, none⟩) len len) len (gW len (fun q => sm (fun r => D r q * X r) (List.range k))) ∧ Below w.heap.size w wr)) (fun i _ => n - (intOf i).toNat)
  case atStart => exact ⟨0, by omega, rfl, HO0⟩
  case round =>
  obtain ⟨k, hk, rfl, HK⟩ := hrel
  obtain ⟨wk, rfl⟩ : ∃ q, q = wr := ⟨_, rfl⟩
  clear HO0
  by_cases hkn : k < n
  case neg =>
    obtain rfl : k = n := by omega
    have hkn' : ¬ (k : Int) < (k : Int) := by omega
    have HE := hide (show BrQ w len (fun q => sm (fun r => D r q * X r) (List.range k)) (.returned (.slice (some ⟨w.heap.size, 0, none⟩) len len)) wk from ⟨_, _, rfl, (unhide HK).1, (unhide HK).2⟩)
    go_wp2
    go_ret
    exact unhide HE
  have hkn' : (k : Int) < (n : Int) := by omega
  obtain ⟨gx, rfl, hcx0, _, _, hgx⟩ := gr_cell (unhide HM).2.2 k hkn
  rw [gW_at _ hkn] at hcx0
  have hcx : wk.cell? ⟨gx, k, none⟩ = some (.int .u8 ((X k).v : Int)) := ((unhide HK).2.cell (p := ⟨gx, k, none⟩) hgx).trans hcx0
  have hMk := (unhide HM).1.below ((unhide HK).2.mono (unhide HM).2.1)
  obtain ⟨gl, ol, qk, ck, el, hgl, hcl, hqk, hDk⟩ := hMk.shs k hkn
  obtain ⟨rfl, rfl⟩ : gl = g0' ∧ ol = o0 := by injection el with e; injection e with e1 e2; exact ⟨e1.symm, e2.symm⟩
  have hBw := (unhide HM).2.1
  have hks := (unhide HK).2.size
  have HAM := hide (amul_any wk w.heap.size len w.heap.size len ck (some ⟨qk, 0, none⟩) (fun q => sm (fun r => D r q * X r) (List.range k)) (D k) (X k) (unhide HK).1 (fun j hj => ⟨qk, 0, rfl, by omega, by omega, by rw [Nat.zero_add]; exact hDk j hj⟩) (by omega))
  have HNX := hide (show ∀ W, W.ownsRow w.heap.size 5 1 (.slice (some ⟨w.heap.size, 0, none⟩) len len) len (gW len (fun q => sm (fun r => D r q * X r) (List.range k) + D k q * X k)) → wk.grownBy W (some w.heap.size) → W.ownsRow w.heap.size 5 1 (.slice (some ⟨w.heap.size, 0, none⟩) len len) len (gW len (fun q => sm (fun r => D r q * X r) (List.range (k + 1)))) ∧ Below w.heap.size w W from fun W h1 h2 => ⟨by
    have e : gW len (fun q => sm (fun r => D r q * X r) (List.range (k + 1))) = gW len (fun q => sm (fun r => D r q * X r) (List.range k) + D k q * X k) := gW_congr (fun q _ => by rw [List.range_succ, sm_snoc])
    rw [e]
    exact h1, (unhide HK).2.grown h2 hks (fun q hq => by injection hq with hq; omega)⟩)
  obtain ⟨xk, hxk⟩ : ∃ q, (X k).v = q := ⟨_, rfl⟩
  rw [hxk] at hcx HAM
  clear hxk hMk hDk hcx0 hgx el HK
  go_wp2_with fail
  refine (unhide HAM).mono ?_
  rintro e w' ⟨rfl, h1, h2⟩
  have HN := hide (unhide HNX _ h1 h2)
  clear h1 h2 HNX HAM
  go_wp2
  go_roundw
  case rel => exact ⟨k + 1, by omega, by go_num, HN⟩
  case measure => simp [intOf] <;> omega
set_option maxHeartbeats 8000000 in
theorem psay_any (w : World) (B n len k cn cs : Nat) (pn ps : Option Addr) (f : Nat → Nat) (D : Nat → Nat → G) (y : Nat → Nat → G) (hf : Fst n f) (hk : k < n + 8) (hlen : len ≤ 70000) (hM : FoM w B n len pn ps f D) (hB : B ≤ w.heap.size) (hy : ∀ q, q < len → ∀ r, r < n → rK n (y q) (wt n (f r)) = D r q) : Calls Tryd.prog 25 #[.agg #[.slice pn n cn, .slice ps n cs], .int .i64 (k : Int)] w (BrQ w len (fun q => rK n (y q) (wt n k))) := by
  obtain ⟨wb, hwb⟩ : ∃ q, w.alloc (.cells #[.slice pn n cn, .slice ps n cs] 43) = q := ⟨_, rfl⟩
  have HW := hide (show Below w.heap.size w wb ∧ w.heap.size < wb.heap.size ∧ wb.cell? ⟨w.heap.size, 0, none⟩ = some (.slice pn n cn) ∧ wb.cell? ⟨w.heap.size, 1, none⟩ = some (.slice ps n cs) from by
    subst hwb
    exact ⟨(Below.refl _ _).alloc (Nat.le_refl _) _, by simp, (Blk.new w _ _).cell 0, (Blk.new w _ _).cell 1⟩)
  have hbs := (unhide HW).2.1
  have hc0 := (unhide HW).2.2.1
  have hc1 := (unhide HW).2.2.2
  have hMb : FoM wb B n len pn ps f D := hM.below ((unhide HW).1.mono hB)
  have HWG := hide (fun (W : World) (h : Below wb.heap.size wb W) => pweights_any W B n len k cn cs pn ps f D hf hk (hMb.below (h.mono (by omega))) (by have := h.size; omega))
  have HWD := hide (fun (W : World) (px : Option Addr) (cx bx : Nat) (X : Nat → G) (h : Below wb.heap.size wb W) (hX : W.ownsRow bx 5 1 (.slice px n cx) n (gW n X)) => pweighted_any W B n len cs cx bx pn ps px f D X hf.n1 hf.n2 hlen (hMb.below (h.mono (by omega))) (by have := h.size; omega) hX)
  have HY := hide (And.intro hf hy)
  have HC := hide (fun (W : World) (h : Below wb.heap.size wb W) => show W.cell? ⟨w.heap.size, 0, none⟩ = some (.slice pn n cn) ∧ W.cell? ⟨w.heap.size, 1, none⟩ = some (.slice ps n cs) from ⟨(h.cell (p := ⟨w.heap.size, 0, none⟩) hbs).trans hc0, (h.cell (p := ⟨w.heap.size, 1, none⟩) hbs).trans hc1⟩)
  clear hM hB hf hy hMb
  go_enter Tryd.func25, Tryd.ntmps25
  go_wp2
  clear hwb
  refine wp_region_held_drew (S := fun W => Below wb.heap.size wb W) (by kernel_rfl) (Below.refl _ _).drew ?_
  intro hS
  refine wpAnyH_takeD 0 (some 5) (.pointer (some ⟨w.heap.size, 1, none⟩)) rfl rfl (by kernel_rfl) (by kernel_rfl) (by kernel_rfl) (fun _ _ _ h => h) (Or.inl ⟨by rfl, fun w hSw => by have q0 := (unhide HC _ hSw).1; have q1 := (unhide HC _ hSw).2; clear hSw; go_simp⟩) hS ?_
  simp only [Act.put, List.setIfInBounds_toArray, List.set_cons_zero, List.set_cons_succ]
  refine wpAnyH_takeD 1 (some 6) (.slice ps n cs) rfl rfl (by kernel_rfl) (by kernel_rfl) (by kernel_rfl) (fun _ _ _ h => h) (Or.inl ⟨by rfl, fun w hSw => by have q0 := (unhide HC _ hSw).1; have q1 := (unhide HC _ hSw).2; clear hSw; go_simp⟩) hS ?_
  simp only [Act.put, List.setIfInBounds_toArray, List.set_cons_zero, List.set_cons_succ]
  refine wpAnyH_takeD 2 (some 7) (.agg #[.slice pn n cn, .slice ps n cs]) rfl rfl (by kernel_rfl) (by kernel_rfl) (by kernel_rfl) (fun _ _ _ h => h) (Or.inl ⟨by rfl, fun w hSw => by have q0 := (unhide HC _ hSw).1; have q1 := (unhide HC _ hSw).2; clear hSw; go_simp⟩) hS ?_
  simp only [Act.put, List.setIfInBounds_toArray, List.set_cons_zero, List.set_cons_succ]
  refine wpAnyH_takeD 3 (some 8) (.int .i64 (k : Int)) rfl rfl (by kernel_rfl) (by kernel_rfl) (by kernel_rfl) (fun _ _ _ h => h) (Or.inl ⟨by rfl, fun w hSw => by have q0 := (unhide HC _ hSw).1; have q1 := (unhide HC _ hSw).2; clear hSw; go_simp⟩) hS ?_
  simp only [Act.put, List.setIfInBounds_toArray, List.set_cons_zero, List.set_cons_succ]
  refine wpAnyH_ready (rs := [4]) (by kernel_rfl) (by simp) ?_
  refine AllReadyH.cons rfl (fun K hK => ?_) AllReadyH.nil
  simp only [List.getElem_toArray, List.getElem_cons_succ, List.getElem_cons_zero]
  go_simp
  refine (unhide HWG _ hS).mono ?_
  rintro e y1 ⟨hb9, C, x, hga, rfl, hx⟩
  obtain ⟨px, cx, rfl, _⟩ := gr_form hx
  have HG := hide hga
  have HX := hide (And.intro hx (show Below wb.heap.size wb y1 from hS.trans (hb9.mono hS.size)))
  clear hga hx hb9
  refine hK.out _ _ (unhide HX).2 (fun hS => ?_)
  clear hK K
  refine wpAnyH_ready (rs := [5]) (by kernel_rfl) (by simp) ?_
  refine AllReadyH.cons rfl (fun K hK => ?_) AllReadyH.nil
  simp only [List.getElem_toArray, List.getElem_cons_succ, List.getElem_cons_zero]
  go_simp
  refine (unhide HWD y1 px cx _ _ (unhide HX).2 (unhide HX).1).mono ?_
  rintro e y2 ⟨g2, c2, rfl, ho2, hb2⟩
  have HO := hide (And.intro ho2 (show Below wb.heap.size wb y2 from (unhide HX).2.trans (hb2.mono (unhide HX).2.size)))
  have hys := (unhide HX).2.size
  clear ho2 hb2
  refine hK.out _ _ (unhide HO).2 (fun hS => ?_)
  clear hK K
  refine wpAnyH_takeD 6 (some 4) (.slice (some ⟨g2, 0, none⟩) len c2) rfl rfl (by kernel_rfl) (by kernel_rfl) (by kernel_rfl) (fun _ _ _ h => h) (Or.inl ⟨by rfl, fun w hSw => by have q0 := (unhide HC _ hSw).1; have q1 := (unhide HC _ hSw).2; clear hSw; go_simp⟩) hS ?_
  simp only [Act.put, List.setIfInBounds_toArray, List.set_cons_zero, List.set_cons_succ]
  refine wpAnyH_done (by kernel_rfl) ?_ _
  have HE := hide (show BrQ w len (fun q => rK n (y q) (wt n k)) (.returned (.slice (some ⟨g2, 0, none⟩) len c2)) y2 from ⟨_, _, rfl, by
    have e : gW len (fun q => sm (fun r => D r q * (fun r => C r n) r) (List.range n)) = gW len (fun q => rK n (y q) (wt n k)) := gW_congr (fun q hq => by
      have h := Fst.say k (unhide HG) (y q) (fun r => D r q) (fun r hr => (unhide HY).2 q hq r hr)
      rw [← h]
      exact sm_congr (fun r _ => gmul_comm _ _))
    rw [← e]
    exact gr_mono (unhide HO).1 (by omega), (unhide HW).1.trans ((unhide HO).2.mono (by omega))⟩)
  go_wp2
  go_ret
  exact unhide HE
end Go.Proofs.YtolblldpdgfkmaaDoor
