import Derived.Test.YtolblldpdgfkmaaDoorGpc
import Derived.Test.YtolblldpdgfkmaaDoorGre
import Derived.Deep.RegionHeld
namespace Go.Proofs.YtolblldpdgfkmaaDoor
open Go.RowKit
set_option maxRecDepth 100000
/-- row c, of which the first k have been multiplied -/
def nrm (c k : Nat) (f : G) (A : Nat → Nat → G) : Nat → Nat → G := fun i => if i = c then (fun q => if q < k then A c q * f else A c q) else A i
theorem nrm_c (c k : Nat) (f : G) (A : Nat → Nat → G) (q : Nat) (hq : ¬ q < k) : nrm c k f A c q = A c q := by
  unfold nrm
  rw [if_pos rfl, if_neg hq]
def iso (n c : Nat) (A : Nat → Nat → G) : Nat → Nat → G := elm c (fun i => if i = c then (fun k => A c k * (A c c).inv) else A i) n
theorem nrm_all (n c : Nat) (f : G) (A : Nat → Nat → G) (i : Nat) : gW (n + 1) (nrm c (n + 1) f A i) = gW (n + 1) ((fun i => if i = c then (fun k => A c k * f) else A i) i) := by
  refine gW_congr (fun q hq => ?_)
  unfold nrm
  by_cases e : i = c
  · show _ = (if i = c then (fun k => A c k * f) else A i) q
    rw [if_pos e, if_pos hq, if_pos e]
  · show _ = (if i = c then (fun k => A c k * f) else A i) q
    rw [if_neg e, if_neg e]
theorem nrm_set (n c k : Nat) (f : G) (A : Nat → Nat → G) : (gW (n + 1) (nrm c k f A c)).set k (.int .u8 ((A c k * f).v : Int)) = gW (n + 1) (nrm c (k + 1) f A c) := by
  rw [gW_set]
  refine gW_congr (fun q _ => ?_)
  unfold nrm
  rw [if_pos rfl, if_pos rfl]
  by_cases e1 : q = k
  · rw [if_pos e1, if_pos (by omega), e1]
  · rw [if_neg e1]
    by_cases e2 : q < k
    · rw [if_pos e2, if_pos (by omega)]
    · rw [if_neg e2, if_neg (by omega)]
theorem nrm_o (c k : Nat) (f : G) (A : Nat → Nat → G) {i : Nat} (h : i ≠ c) : nrm c k f A i = A i := by
  unfold nrm
  rw [if_neg h]
def IsQ (b n cu : Nat) (pu : Option Addr) (v : Nat → Value) (C : Nat → Nat → G) (w : World) (e : Ending) (w' : World) : Prop := e = .returned (.tuple #[]) ∧ RR b 51 5 w' (.slice pu n cu) n v (fun i => gW (n + 1) (C i)) ∧ Below b w w'
set_option maxHeartbeats 8000000 in
theorem isol_any (w : World) (b n c cu : Nat) (pu : Option Addr) (v : Nat → Value) (A : Nat → Nat → G) (hn : n ≤ 24) (hc : c < n) (hR : RR b 51 5 w (.slice pu n cu) n v (fun i => gW (n + 1) (A i))) (hB : b ≤ w.heap.size) : Calls Tryd.prog 69 #[.slice pu n cu, .int .i64 (c : Int)] w (IsQ b n cu pu v (iso n c A) w) := by
  obtain ⟨gu, rfl, hcu, _, hgu1, hgu2⟩ := hR.at c hc
  have hrc := hR.own c hc
  rw [gW_len] at hrc
  obtain ⟨pc, cc, hvc, _⟩ := gr_form hrc
  rw [hvc] at hrc hcu
  obtain ⟨gc, rfl, hcc, _, hgc1, hgc2⟩ := gr_cell hrc c (by omega)
  rw [gW_at _ (by omega : c < n + 1)] at hcc
  have hne : gc ≠ gu := fun e => own_types hrc hR.row (by decide) gc rfl (by rw [e]; rfl)
  have HI := hide (fun W => pinverse_any (A c c).v (A c c).h W)
  have hf : giv (A c c).v = ((A c c).inv).v := rfl
  obtain ⟨f, hff⟩ : ∃ f, (A c c).inv = f := ⟨_, rfl⟩
  rw [hf, hff] at HI
  have HFF := hide hff
  have hfl := f.h
  obtain ⟨ac, hac⟩ : ∃ q, (A c c).v = q := ⟨_, rfl⟩
  rw [hac] at HI hcc
  have HVC := hide hvc
  have hcn' : (c : Int) < (n : Int) := by omega
  have hcn2 : (c : Int) < (n : Int) + 1 := by omega
  have hcn3 : (c : Int) < ((n + 1 : Nat) : Int) := by omega
  have HR0 := hide (show RR b 51 5 w (.slice (some ⟨gu, 0, none⟩) n cu) n v (fun i => gW (n + 1) (nrm c 0 f A i)) ∧ Below b w w from ⟨hR.congr (fun i _ => gW_congr (fun q _ => by
    by_cases e : i = c
    · rw [e, nrm_c c 0 f A q (by omega)]
    · rw [nrm_o c 0 f A e])), Below.refl _ _⟩)
  clear hR hrc hvc hf hff hac
  go_enter Tryd.func69, Tryd.ntmps69
  go_wp2_with fail
  refine (unhide HI _).mono ?_
  rintro e w' ⟨rfl, hw'⟩
  subst w'
  go_wp2
  go_loopw [22] (fun i wr => ∃ k : Nat, k ≤ n + 1 ∧ i = .int .i64 (k : Int) ∧ Hid (RR b 51 5 wr (.slice (some ⟨gu, 0, none⟩) n cu) n v (fun i => gW (n + 1) (nrm c k f A i)) ∧ Below b w wr)) (fun i _ => n + 1 - (intOf i).toNat)
  case atStart => exact ⟨0, by omega, rfl, HR0⟩
  case round =>
  obtain ⟨k, hk, rfl, HK⟩ := hrel
  obtain ⟨wk, rfl⟩ : ∃ q, q = wr := ⟨_, rfl⟩
  clear HR0 hcu hcc HI
  by_cases hkn : k < n + 1
  case pos =>
    have hkn' : (k : Int) < ((n + 1 : Nat) : Int) := by omega
    have hkn2 : (k : Int) < (n : Int) + 1 := by omega
    obtain ⟨gu2, eu, hcu, _, _, _⟩ := (unhide HK).1.at c hc
    obtain rfl : gu2 = gu := by injection eu with e; injection e with e; exact e.symm
    have hrc := (unhide HK).1.own c hc
    rw [gW_len, unhide HVC] at hrc
    rw [unhide HVC] at hcu
    obtain ⟨gc2, ec, hck, hfk, _, _⟩ := gr_cell hrc k hkn
    obtain rfl : gc2 = gc := by injection ec with e; injection e with e; exact e.symm
    rw [gW_at _ hkn, nrm_c c k f A k (by omega)] at hck
    have HM := hide (fun W => prod_any f.v (A c k).v hfl (A c k).h W)
    have hz : gm f.v (A c k).v = (A c k * f).v := by rw [gmul_comm]; rfl
    have HP := hide (show RR b 51 5 (wk.drew.setCell ⟨gc2, k, none⟩ (.int .u8 (gm f.v (A c k).v : Int))) (.slice (some ⟨gu2, 0, none⟩) n cu) n v (fun i => gW (n + 1) (nrm c (k + 1) f A i)) ∧ Below b w (wk.drew.setCell ⟨gc2, k, none⟩ (.int .u8 (gm f.v (A c k).v : Int))) from by
      have hd : RR b 51 5 wk.drew (.slice (some ⟨gu2, 0, none⟩) n cu) n v (fun i => gW (n + 1) (nrm c k f A i)) := (unhide HK).1.below ((Below.refl _ wk).drew)
      have r := hd.set (by decide) c hc gc2 cc (by rw [gW_len]; exact unhide HVC) k (.int .u8 (gm f.v (A c k).v : Int))
      refine ⟨r.1.congr (fun i _ => ?_), (unhide HK).2.drew.grown r.2 (by have := (unhide HK).2.size; exact Nat.le_trans hB this) (fun q hq => by injection hq with hq; omega)⟩
      by_cases e : i = c
      · rw [if_pos e, hz, e]
        exact nrm_set n c k f A
      · rw [if_neg e, nrm_o c k f A e, nrm_o c (k + 1) f A e])
    obtain ⟨pv, hpv⟩ : ∃ q, gm f.v (A c k).v = q := ⟨_, rfl⟩
    rw [hpv] at HM HP
    obtain ⟨av, hav⟩ : ∃ q, (A c k).v = q := ⟨_, rfl⟩
    rw [hav] at HM hck
    obtain ⟨fv, hfv⟩ : ∃ q, f.v = q := ⟨_, rfl⟩
    rw [hfv] at HM ⊢
    clear hpv hav hfv hz hrc eu ec HK
    have i0 : 0 ≤ (k : Int) := by omega
    have i1 : 0 ≤ (c : Int) := by omega
    go_wp2
    refine wp_region_held_drew (S := fun W => W.cell? ⟨gu2, c, none⟩ = some (.slice (some ⟨gc2, 0, none⟩) (n + 1) cc)) (by kernel_rfl) hcu ?_
    intro hS
    refine wpAnyH_takeD 0 (some 27) (.slice (some ⟨gu2, 0, none⟩) n cu) rfl rfl (by kernel_rfl) (by kernel_rfl) (by kernel_rfl) (fun _ _ _ h => h) (Or.inl ⟨by rfl, fun w hSw => by go_simp; try (intro hbad; omega)⟩) hS ?_
    simp only [Act.put, List.setIfInBounds_toArray, List.set_cons_zero, List.set_cons_succ]
    refine wpAnyH_takeD 1 (some 28) (.int .i64 (c : Int)) rfl rfl (by kernel_rfl) (by kernel_rfl) (by kernel_rfl) (fun _ _ _ h => h) (Or.inl ⟨by rfl, fun w hSw => by go_simp; try (intro hbad; omega)⟩) hS ?_
    simp only [Act.put, List.setIfInBounds_toArray, List.set_cons_zero, List.set_cons_succ]
    refine wpAnyH_takeD 2 (some 29) (.pointer (some ⟨gu2, c, none⟩)) rfl rfl (by kernel_rfl) (by kernel_rfl) (by kernel_rfl) (fun _ _ _ h => h) (Or.inl ⟨by rfl, fun w hSw => by go_simp; try (intro hbad; omega)⟩) hS ?_
    simp only [Act.put, List.setIfInBounds_toArray, List.set_cons_zero, List.set_cons_succ]
    refine wpAnyH_takeD 3 (some 30) (.slice (some ⟨gc2, 0, none⟩) (n + 1) cc) rfl rfl (by kernel_rfl) (by kernel_rfl) (by kernel_rfl) (fun _ _ _ h => h) (Or.inl ⟨by rfl, fun w hSw => by go_simp; try (intro hbad; omega)⟩) hS ?_
    simp only [Act.put, List.setIfInBounds_toArray, List.set_cons_zero, List.set_cons_succ]
    refine wpAnyH_takeD 4 (some 31) (.int .i64 (k : Int)) rfl rfl (by kernel_rfl) (by kernel_rfl) (by kernel_rfl) (fun _ _ _ h => h) (Or.inl ⟨by rfl, fun w hSw => by go_simp; try (intro hbad; omega)⟩) hS ?_
    simp only [Act.put, List.setIfInBounds_toArray, List.set_cons_zero, List.set_cons_succ]
    refine wpAnyH_takeD 5 (some 32) (.int .u8 (fv : Int)) rfl rfl (by kernel_rfl) (by kernel_rfl) (by kernel_rfl) (fun _ _ _ h => h) (Or.inl ⟨by rfl, fun w hSw => by go_simp; try (intro hbad; omega)⟩) hS ?_
    simp only [Act.put, List.setIfInBounds_toArray, List.set_cons_zero, List.set_cons_succ]
    refine wpAnyH_takeD 6 (some 33) (.int .u8 (av : Int)) rfl rfl (by kernel_rfl) (by kernel_rfl) (by kernel_rfl) (fun _ _ _ h => h) (Or.inl ⟨by rfl, fun w hSw => by go_simp; try (intro hbad; omega)⟩) hS ?_
    simp only [Act.put, List.setIfInBounds_toArray, List.set_cons_zero, List.set_cons_succ]
    refine wpAnyH_ready (rs := [7]) (by kernel_rfl) (by simp) ?_
    refine AllReadyH.cons rfl (fun K hK => ?_) AllReadyH.nil
    simp only [List.getElem_toArray, List.getElem_cons_succ, List.getElem_cons_zero]
    go_simp
    refine (unhide HM _).mono ?_
    rintro e w9 ⟨rfl, hw9⟩
    subst w9
    refine hK.out _ _ hS (fun hS => ?_)
    clear hK K
    refine wpAnyH_takeD 8 (some 35) (.pointer (some ⟨gc2, k, none⟩)) rfl rfl (by kernel_rfl) (by kernel_rfl) (by kernel_rfl) (fun _ _ _ h => h) (Or.inl ⟨by rfl, fun w hSw => by go_simp; try (intro hbad; omega)⟩) hS ?_
    simp only [Act.put, List.setIfInBounds_toArray, List.set_cons_zero, List.set_cons_succ]
    refine wpAnyH_ready (rs := [9]) (by kernel_rfl) (by simp) ?_
    refine AllReadyH.cons rfl (fun K hK => ?_) AllReadyH.nil
    simp only [List.getElem_toArray, List.getElem_cons_succ, List.getElem_cons_zero]
    go_simp
    refine hK.out _ _ ((World.cell?_setCell_far _ _ _ _ hne).trans hcu) (fun hS => ?_)
    clear hK K
    refine wpAnyH_done (by kernel_rfl) ?_ _
    go_wp2
    go_roundw
    case rel => exact ⟨k + 1, by omega, by go_num, HP⟩
    case measure => simp [intOf] <;> omega
  obtain rfl : k = n + 1 := by omega
  have hkn' : ¬ ((n + 1 : Nat) : Int) < ((n + 1 : Nat) : Int) := by omega
  obtain ⟨A1, hA1⟩ : ∃ q : Nat → Nat → G, (fun i => if i = c then (fun k => A c k * f) else A i) = q := ⟨_, rfl⟩
  have HR1 := hide (show RR b 51 5 wk (.slice (some ⟨gu, 0, none⟩) n cu) n v (fun i => gW (n + 1) (elm c A1 0 i)) ∧ Below b w wk from ⟨(unhide HK).1.congr (fun i _ => by rw [elm_zero, ← hA1]; exact nrm_all n c f A i), (unhide HK).2⟩)
  have HA1 := hide (show iso n c A = elm c A1 n from by unfold iso; rw [unhide HFF, hA1])
  clear HK hA1 HFF
  go_wp2
  go_loopw [39] (fun i wr => ∃ j : Nat, j ≤ n ∧ i = .int .i64 (j : Int) ∧ Hid (RR b 51 5 wr (.slice (some ⟨gu, 0, none⟩) n cu) n v (fun i => gW (n + 1) (elm c A1 j i)) ∧ Below b w wr)) (fun i _ => n - (intOf i).toNat)
  case atStart => exact ⟨0, by omega, rfl, HR1⟩
  case round =>
  obtain ⟨j, hj, rfl, HJ⟩ := hrel
  obtain ⟨wj, rfl⟩ : ∃ q, q = wr := ⟨_, rfl⟩
  clear HR1
  by_cases hjn : j < n
  case neg =>
    obtain rfl : j = n := by omega
    have hjn' : ¬ (j : Int) < (j : Int) := by omega
    have HE := hide (show IsQ b j cu (some ⟨gu, 0, none⟩) v (iso j c A) w (.returned (.tuple #[])) wj from ⟨rfl, by rw [unhide HA1]; exact (unhide HJ).1, (unhide HJ).2⟩)
    go_wp2
    exact ⟨rfl, .tuple #[], by simp [results, Tryd.f69], unhide HE⟩
  have hjn' : (j : Int) < (n : Int) := by omega
  obtain ⟨gb, eb, hcj0, _, _, hgb4⟩ := (unhide HJ).1.at j hjn
  obtain rfl : gb = gu := by injection eb with e; injection e with e; exact e.symm
  have hrj := (unhide HJ).1.own j hjn
  rw [gW_len, elm_row] at hrj
  obtain ⟨pj, cj, hvj, _⟩ := gr_form hrj
  rw [hvj] at hrj hcj0
  by_cases hjc : j = c
  case pos =>
    have hjc' : ((j : Int) != (c : Int)) = false := by simp; omega
    have HE := hide (show RR b 51 5 wj (.slice (some ⟨gb, 0, none⟩) n cu) n v (fun i => gW (n + 1) (elm c A1 (j + 1) i)) ∧ Below b w wj from ⟨by
      have h := (unhide HJ).1
      rw [hjc] at h ⊢
      rw [elm_same]
      exact h, (unhide HJ).2⟩)
    clear HJ hjc hrj hvj
    go_wp2
    go_roundw
    case rel => exact ⟨j + 1, by omega, by go_num, HE⟩
    case measure => simp [intOf] <;> omega
  have hjc' : ((j : Int) != (c : Int)) = true := by simp; omega
  obtain ⟨gj, rfl, hcjc, _, hgj3, hgj4⟩ := gr_cell hrj c (by omega)
  rw [gW_at _ (by omega : c < n + 1)] at hcjc
  obtain ⟨gu2, eu, hcu, _, _, _⟩ := (unhide HJ).1.at c hc
  obtain rfl : gu2 = gb := by injection eu with e; injection e with e; exact e.symm
  rw [unhide HVC] at hcu
  have hrc := (unhide HJ).1.own c hc
  rw [gW_len, elm_c, unhide HVC] at hrc
  have hgcj : gc ≠ gj := fun e => (unhide HJ).1.dis c j hc hjn (fun q => hjc q.symm) gc (by rw [unhide HVC]; rfl) (by rw [hvj, e]; rfl)
  have hbj := (unhide HJ).2.size
  have HAM := hide (amul_any wj.drew b (n + 1) gj cj cc (some ⟨gc, 0, none⟩) (A1 j) (A1 c) (A1 j c) hrj.drew (fun k hk => by
    obtain ⟨g, e, h1, _, _, h4⟩ := gr_cell hrc k hk
    injection e with e
    injection e with e
    subst e
    refine ⟨gc, 0, rfl, h4, hgcj, ?_⟩
    rw [Nat.zero_add]
    exact h1.trans (gW_at _ hk)) (by omega))
  have HST := hide (show ∀ W, W.ownsRow b 5 1 (.slice (some ⟨gj, 0, none⟩) (n + 1) cj) (n + 1) (gW (n + 1) (fun k => A1 j k + A1 c k * A1 j c)) → wj.drew.grownBy W (some gj) → RR b 51 5 W (.slice (some ⟨gu2, 0, none⟩) n cu) n v (fun i => gW (n + 1) (elm c A1 (j + 1) i)) ∧ Below b w W from fun W h1 h2 => by
    have hd : RR b 51 5 wj.drew (.slice (some ⟨gu2, 0, none⟩) n cu) n v (fun i => gW (n + 1) (elm c A1 j i)) := (unhide HJ).1.below ((Below.refl _ wj).drew)
    have hjb : (v j).ownBlock = some gj := by rw [hvj]; rfl
    refine ⟨⟨hd.row.kept h2 (.inr (fun e => own_types hrj (unhide HJ).1.row (by decide) gj rfl e)), fun i hi => ?_, hd.dis⟩, (unhide HJ).2.drew.grown h2 (Nat.le_trans hB hbj) (fun q hq => by injection hq with hq; omega)⟩
    by_cases e : i = j
    · rw [e, hvj, gW_len]
      have ee : elm c A1 (j + 1) j = fun k => A1 j k + A1 c k * A1 j c := by
        funext k
        unfold elm
        rw [if_pos ⟨by omega, hjc⟩]
      rw [ee]
      exact h1
    · have ee : elm c A1 (j + 1) i = elm c A1 j i := by
        funext k
        unfold elm
        by_cases e2 : i < j ∧ i ≠ c
        · rw [if_pos e2, if_pos ⟨by omega, e2.2⟩]
        · rw [if_neg e2, if_neg (by omega)]
      rw [ee]
      refine (hd.own i hi).kept h2 ?_
      cases hy : (v i).ownBlock with
      | none => exact .inl rfl
      | some x => exact .inr (fun q => by
          injection q with q
          subst q
          exact hd.dis i j hi hjn e x hy hjb))
  obtain ⟨xc, hxc⟩ : ∃ q, (A1 j c).v = q := ⟨_, rfl⟩
  rw [hxc] at hcjc HAM
  clear hxc hrc hrj hvj hgcj eu eb HJ
  have i0 : 0 ≤ (c : Int) := by omega
  go_wp2_with fail
  go_still_tail 9, (by kernel_rfl)
  change wpList _ _ _ _ _ wj.drew
  go_wp2_with fail
  refine (unhide HAM).mono ?_
  rintro e w' ⟨rfl, h1, h2⟩
  have HN := hide (unhide HST _ h1 h2)
  clear h1 h2 HST HAM
  go_wp2
  go_roundw
  case rel => exact ⟨j + 1, by omega, by go_num, HN⟩
  case measure => simp [intOf] <;> omega
end Go.Proofs.YtolblldpdgfkmaaDoor
