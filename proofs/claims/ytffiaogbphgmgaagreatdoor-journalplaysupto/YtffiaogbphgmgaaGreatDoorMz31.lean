import Derived.Test.YtffiaogbphgmgaaGreatDoorMz30
import Derived.Test.YtffiaogbphgmgaaGreatDoorMz27
import Derived.Test.YtffiaogbphgmgaaGreatDoorMz28
import Derived.Test.YtffiaogbphgmgaaGreatDoorMz24
namespace Go.Proofs.YtffiaogbphgmgaaGreatDoor
open Go.RowKit
set_option maxRecDepth 100000
/-- Behind a call of the document's journal at jb over its disk at b. -/
def RJP (base b jb : Nat) (v : RV) (r : CR) (n : Nat) (w w' : World) : Prop :=
  ∃ v', Rk w' base b v' r.s ∧ Rj w' jb b n r.lost ∧ ¬ Fr4 b v' jb ∧ Only (fun k => Fr4 b v k ∨ k = jb) w w' ∧ ∀ k, Fr4 b v' k → Fr4 b v k ∨ w.heap.size ≤ k
/-- the document's number behind a commit -/
def numR (s : DSt) (n : Nat) (lost : Bool) (l : List Wr1) : Nat := if refE l (s.last.length : Int) ≠ 0 then n else if lost = true then n else if (runsR s (runsOf ((n + 1) % 4294967296) l)).1 = 0 then (n + 1) % 4294967296 else n
set_option maxHeartbeats 4000000 in
/-- The document's Commit answers what the program's does. -/
theorem rcommit_any (w : World) (base b jb n : Nat) (lost : Bool) (v : RV) (s : DSt) (h : Rk w base b v s) (hb : base ≤ w.heap.size) (hS : Sane s) (hC : Coh s) (hp : s.pend.length ≤ 40000000) (ha : s.acts.length ≤ 40000000) (hJ : Rj w jb b n lost) (hn : n < 4294967296) (hfj : ¬ Fr4 b v jb) (p : Option Addr) (c m : Nat) (l : List Wr1) (hm : m = l.length) (hl : Wls w p l) (hfp : ∀ g o, p = some ⟨g, o, none⟩ → 0 < l.length → ¬ Fr4 b v g) :
    Calls Tryz.prog 33 #[.pointer (some ⟨jb, 0, none⟩), .slice p m c] w fun e w' => e = .returned (.int .i64 (commitR s ((n + 1) % 4294967296) lost l).e) ∧ RJP base b jb v (commitR s ((n + 1) % 4294967296) lost l) (numR s n lost l) w w' := by
  obtain ⟨nx, hnx⟩ : ∃ z, (n + 1) % 4294967296 = z := ⟨_, rfl⟩
  have HRF := hide (rrefused_any w base b jb n lost v s h hJ p c l m hm hl)
  have HAC := hide (fun (W : World) (hW : Below w.heap.size w W) (hr : refE l (s.last.length : Int) = 0) => racts_any W base b jb n lost v s (h.below hW) (Nat.le_trans hb hW.size) hS hC hp ha (Blk.below hJ hW (Blk.lt hJ)) hn hfj p c m l hm (hl.only (Only.of_below (P := fun _ => False) hW) (fun _ _ _ q => q)) hfp hr nx hnx)
  have HX := hide (And.intro h (And.intro hJ (And.intro hn hfj)))
  have HNXW := hide hnx
  obtain ⟨re, hre⟩ : ∃ z, refE l (s.last.length : Int) = z := ⟨_, rfl⟩
  rw [hre] at HRF
  obtain ⟨R, hR⟩ : ∃ z, commitR s nx lost l = z := ⟨_, rfl⟩
  obtain ⟨M, hM⟩ : ∃ z, numR s n lost l = z := ⟨_, rfl⟩
  rw [hnx, hR, hM]
  rw [commitR, hre] at hR
  rw [numR, hnx, hre] at hM
  rw [hre] at HAC
  clear h hb hS hC hp ha hJ hn hfj hm hl hfp hnx hre
  by_cases h0 : re = 0
  case neg =>
    rw [if_pos h0] at hR hM
    subst hR hM
    have h0' : (re == 0) = false := by simpa using h0
    go_enter Tryz.func33, Tryz.ntmps33
    go_wp2_with fail
    refine (unhide HRF).mono ?_
    rintro e x1 ⟨rfl, hb1⟩
    have HB1 := hide hb1
    clear hb1
    go_wp2
    go_ret
    refine ⟨rfl, v, (unhide HX).1.below (unhide HB1), Blk.below (unhide HX).2.1 (unhide HB1) (Blk.lt (unhide HX).2.1), (unhide HX).2.2.2, Only.of_below (unhide HB1), fun _ q => .inl q⟩
  subst h0
  rw [if_neg (fun q => q rfl)] at hR hM
  cases lost with
  | true =>
    rw [if_pos rfl] at hR hM
    subst hR hM
    go_enter Tryz.func33, Tryz.ntmps33
    go_wp2_with fail
    refine (unhide HRF).mono ?_
    rintro e x1 ⟨rfl, hb1⟩
    have c2 : x1.cell? ⟨jb, 2, none⟩ = some (.bool true) := by rw [Blk.cell (Blk.below (unhide HX).2.1 hb1 (Blk.lt (unhide HX).2.1)) 2]; rfl
    have HB1 := hide hb1
    clear hb1
    go_wp2
    go_ret
    exact ⟨rfl, v, (unhide HX).1.below (unhide HB1), Blk.below (unhide HX).2.1 (unhide HB1) (Blk.lt (unhide HX).2.1), (unhide HX).2.2.2, Only.of_below (unhide HB1), fun _ q => .inl q⟩
  | false =>
    obtain ⟨e0, s0, hres⟩ : ∃ e0 s0, runsR s (runsOf nx l) = (e0, s0) := ⟨_, _, rfl⟩
    rw [hres] at HAC hR hM
    have hR' : R = if e0 = 0 then ⟨0, s0, (nx + 1) % 4294967296, false⟩ else ⟨e0, s0, nx, true⟩ := by rw [← hR]; rfl
    have hM' : M = if e0 = 0 then nx else n := by rw [← hM]; rfl
    have HRM := hide (And.intro hR' hM')
    clear hres hR hM hR' hM'
    go_enter Tryz.func33, Tryz.ntmps33
    go_wp2_with fail
    refine (unhide HRF).mono ?_
    rintro e x1 ⟨rfl, hb1⟩
    have c2 : x1.cell? ⟨jb, 2, none⟩ = some (.bool false) := by rw [Blk.cell (Blk.below (unhide HX).2.1 hb1 (Blk.lt (unhide HX).2.1)) 2]; rfl
    have HB1 := hide hb1
    have HA1 := hide (unhide HAC x1 hb1 (by first | rfl | trivial))
    clear hb1 HAC HRF
    go_wp2_with fail
    refine (unhide HA1).mono ?_
    rintro e x2 ⟨rfl, hP⟩
    obtain ⟨v2, k1, k2, k3⟩ := RPst.belowL (unhide HB1) hP
    have hJ2 : Rj x2 jb b n false := Blk.only (unhide HX).2.1 k2 (unhide HX).2.2.2
    have hn2 : ¬ Fr4 b v2 jb := fun q => by
      rcases k3 jb q with r | r
      · exact (unhide HX).2.2.2 r
      · have := Blk.lt (unhide HX).2.1; omega
    have H2 := hide (And.intro k1 (And.intro k2 (And.intro k3 (And.intro hJ2 hn2))))
    clear hP k1 k2 k3 hJ2 hn2 HA1 c2
    by_cases he : e0 = 0
    · subst he
      have HNX := hide (rnext_any x2 jb b n false (unhide H2).2.2.2.1 (unhide HX).2.2.1)
      rw [unhide HNXW] at HNX
      have c1 : x2.cell? ⟨jb, 1, none⟩ = some (.int .i64 (n : Int)) := by rw [Blk.cell (unhide H2).2.2.2.1 1]; rfl
      have f1 : x2.frozen? ⟨jb, 1, none⟩ = false := Blk.frozen (unhide H2).2.2.2.1 1
      obtain ⟨x3, hx3⟩ : ∃ z, x2.setCell ⟨jb, 1, none⟩ (.int .i64 (nx : Int)) = z := ⟨_, rfl⟩
      have HF := hide (show 0 = R.e ∧ RJP base b jb v R M w x3 from by
        have q1 := (unhide HRM).1
        have q2 := (unhide HRM).2
        rw [if_pos rfl] at q1 q2
        rw [q1, q2]
        refine ⟨rfl, ?_⟩
        obtain ⟨k1, k2, k3, k4, k5⟩ := unhide H2
        have o3 : Only (fun k => k = jb) x2 x3 := by rw [← hx3]; exact (Only.refl (fun k => k = jb) x2).setCell ⟨jb, 1, none⟩ _ (fun _ => rfl)
        refine ⟨v2, k1.only o3 (fun k hk e => k5 (by rw [← e]; exact hk)), ?_, k5, (k2.mono (fun k _ q => .inl q)).trans o3 (fun k _ q => .inr q), k3⟩
        have := Blk.set k4 1 (.int .i64 (nx : Int))
        rw [hx3] at this
        exact this)
      clear H2 HRM
      go_wp2_with fail
      refine (unhide HNX).mono ?_
      rintro e y ⟨rfl, hy⟩
      subst y
      clear HNX
      go_wp2
      go_ret
      exact ⟨congrArg (fun z => Ending.returned (Value.int .i64 z)) (unhide HF).1, (unhide HF).2⟩
    · have he' : (e0 == 0) = false := by simpa using he
      have c1 : x2.cell? ⟨jb, 2, none⟩ = some (.bool false) := by rw [Blk.cell (unhide H2).2.2.2.1 2]; rfl
      have f1 : x2.frozen? ⟨jb, 2, none⟩ = false := Blk.frozen (unhide H2).2.2.2.1 2
      obtain ⟨x3, hx3⟩ : ∃ z, x2.setCell ⟨jb, 2, none⟩ (.bool true) = z := ⟨_, rfl⟩
      have HF := hide (show e0 = R.e ∧ RJP base b jb v R M w x3 from by
        have q1 := (unhide HRM).1
        have q2 := (unhide HRM).2
        rw [if_neg he] at q1 q2
        rw [q1, q2]
        refine ⟨rfl, ?_⟩
        obtain ⟨k1, k2, k3, k4, k5⟩ := unhide H2
        have o3 : Only (fun k => k = jb) x2 x3 := by rw [← hx3]; exact (Only.refl (fun k => k = jb) x2).setCell ⟨jb, 2, none⟩ _ (fun _ => rfl)
        refine ⟨v2, k1.only o3 (fun k hk e => k5 (by rw [← e]; exact hk)), ?_, k5, (k2.mono (fun k _ q => .inl q)).trans o3 (fun k _ q => .inr q), k3⟩
        have := Blk.set k4 2 (.bool true)
        rw [hx3] at this
        exact this)
      clear H2 he HRM
      go_wp2
      go_ret
      exact ⟨congrArg (fun z => Ending.returned (Value.int .i64 z)) (unhide HF).1, (unhide HF).2⟩
end Go.Proofs.YtffiaogbphgmgaaGreatDoor

namespace Go.Proofs.YtffiaogbphgmgaaGreatDoor
open Go.RowKit
set_option maxRecDepth 100000
set_option maxHeartbeats 4000000 in
theorem stepWr {w0 w : World} {xb b br : Nat} {s : DSt} {j1 j2 j3 j4 : Value} {X : Nat → Prop} (h : Sd w0 w xb b br s s #[.pointer (some ⟨b, 0, none⟩), .pointer (some ⟨br, 0, none⟩), j1, j2, j3, j4] X) (hS : Sane s) (hC : Coh s) (hp : s.pend.length ≤ 30000000) (ha : s.acts.length ≤ 30000000) (on i : Int) (x : ByteArray) (hx : x.size ≤ 140737488355328) (l1 l2 l3 : Value) :
    Calls Tryz.prog 8 #[.pointer (some ⟨xb, 0, none⟩), .agg #[.int .i64 1, .int .i64 on, .int .i64 i, .string x, l1, l2, l3]] w fun e w' => e = .returned (.bool true) ∧ Sd w0 w' xb b br (writeS s i (shapB x)) (writeS s i (shapB x)) #[.pointer (some ⟨b, 0, none⟩), .pointer (some ⟨br, 0, none⟩), j1, j2, j3, j4] X ∧ Only (fun k => ¬ X k) w w' := by
  obtain ⟨go, hgo⟩ : ∃ z, w.heap.size = z := ⟨_, rfl⟩
  obtain ⟨x0, hx0⟩ : ∃ z, w.alloc (.cells #[.int .i64 1, .int .i64 on, .int .i64 i, .string x, l1, l2, l3] 41) = z := ⟨_, rfl⟩
  have B0 : Blk x0 go #[.int .i64 1, .int .i64 on, .int .i64 i, .string x, l1, l2, l3] 41 := by rw [← hx0, ← hgo]; exact Blk.new w _ _
  have hb0 : Below w.heap.size w x0 := by rw [← hx0]; exact (Below.refl _ _).alloc (Nat.le_refl _) _
  have h0 : Sd w0 x0 xb b br s s #[.pointer (some ⟨b, 0, none⟩), .pointer (some ⟨br, 0, none⟩), j1, j2, j3, j4] (fun k => X k ∨ k = go) := h.more hb0 (fun k q => q.imp_right (fun e => by rw [e]; exact ⟨by omega, B0.lt⟩))
  have k0 : x0.cell? ⟨go, 0, none⟩ = some (.int .i64 1) := B0.cell 0
  have k3 : x0.cell? ⟨go, 3, none⟩ = some (.string x) := B0.cell 3
  have HSH := hide (shaped5_any x hx x0)
  obtain ⟨xx, hxx⟩ : ∃ z, shapB x = z := ⟨_, rfl⟩
  obtain ⟨s1, hs1⟩ : ∃ z, writeS s i xx = z := ⟨_, rfl⟩
  obtain ⟨e1, he1⟩ : ∃ z, writeE s i xx = z := ⟨_, rfl⟩
  rw [hxx] at HSH ⊢
  rw [hs1]
  have HE := hide (And.intro hs1 he1)
  have H0 := hide (And.intro h0 B0)
  have HBO := hide hb0
  have HP := hide (And.intro hS (And.intro hC (And.intro (show s.pend.length ≤ 40000000 by omega) (show s.acts.length ≤ 40000000 by omega))))
  clear h hS hC hp ha hx B0 hb0 h0 hxx hs1 he1
  go_enter Tryz.func8, Tryz.ntmps8
  go_wp2_with fail
  clear hx0 k0
  refine (unhide HSH).mono ?_
  rintro e x1 ⟨rfl, hb1⟩
  have hbd : Below x0.heap.size x0 x1.drew := hb1.drew
  have HBD := hide hbd
  have h1 := (unhide H0).1.below hbd
  have B1 := (unhide H0).2.below hbd (unhide H0).2.lt
  have HB := hide B1
  have c0 : x1.drew.cell? ⟨xb, 0, none⟩ = some (.pointer (some ⟨b, 0, none⟩)) := h1.blk.cell 0
  have o2 : x1.drew.cell? ⟨go, 2, none⟩ = some (.int .i64 i) := B1.cell 2
  have HW := hide (h1.wr (unhide HP).1 (unhide HP).2.2.1 (unhide HP).2.2.2 i xx)
  rw [(unhide HE).1, (unhide HE).2] at HW
  clear hb1 hbd h1 B1 HSH H0 k3
  go_wp2_with fail
  refine wp_region_held_drew (S := fun W => W.cell? ⟨xb, 0, none⟩ = some (.pointer (some ⟨b, 0, none⟩)) ∧ W.cell? ⟨go, 2, none⟩ = some (.int .i64 i)) (by kernel_rfl) ⟨c0, o2⟩ ?_
  intro hS
  refine wpAnyH_takeD 0 (some 32) (.pointer (some ⟨xb, 0, none⟩)) rfl rfl (by kernel_rfl) (by kernel_rfl) (by kernel_rfl) (fun _ _ _ h => h) (Or.inl ⟨by rfl, fun w hSw => by obtain ⟨q0, q1⟩ := hSw; go_simp⟩) hS ?_
  simp only [Act.put, List.setIfInBounds_toArray, List.set_cons_zero, List.set_cons_succ]
  refine wpAnyH_takeD 1 (some 33) (.pointer (some ⟨xb, 0, none⟩)) rfl rfl (by kernel_rfl) (by kernel_rfl) (by kernel_rfl) (fun _ _ _ h => h) (Or.inl ⟨by rfl, fun w hSw => by obtain ⟨q0, q1⟩ := hSw; go_simp⟩) hS ?_
  simp only [Act.put, List.setIfInBounds_toArray, List.set_cons_zero, List.set_cons_succ]
  refine wpAnyH_takeD 2 (some 34) (.pointer (some ⟨xb, 0, none⟩)) rfl rfl (by kernel_rfl) (by kernel_rfl) (by kernel_rfl) (fun _ _ _ h => h) (Or.inl ⟨by rfl, fun w hSw => by obtain ⟨q0, q1⟩ := hSw; go_simp⟩) hS ?_
  simp only [Act.put, List.setIfInBounds_toArray, List.set_cons_zero, List.set_cons_succ]
  refine wpAnyH_takeD 3 (some 35) (.pointer (some ⟨b, 0, none⟩)) rfl rfl (by kernel_rfl) (by kernel_rfl) (by kernel_rfl) (fun _ _ _ h => h) (Or.inl ⟨by rfl, fun w hSw => by obtain ⟨q0, q1⟩ := hSw; go_simp⟩) hS ?_
  simp only [Act.put, List.setIfInBounds_toArray, List.set_cons_zero, List.set_cons_succ]
  refine wpAnyH_takeD 4 (some 36) (.pointer (some ⟨go, 2, none⟩)) rfl rfl (by kernel_rfl) (by kernel_rfl) (by kernel_rfl) (fun _ _ _ h => h) (Or.inl ⟨by rfl, fun w hSw => by obtain ⟨q0, q1⟩ := hSw; go_simp⟩) hS ?_
  simp only [Act.put, List.setIfInBounds_toArray, List.set_cons_zero, List.set_cons_succ]
  refine wpAnyH_takeD 5 (some 37) (.int .i64 i) rfl rfl (by kernel_rfl) (by kernel_rfl) (by kernel_rfl) (fun _ _ _ h => h) (Or.inl ⟨by rfl, fun w hSw => by obtain ⟨q0, q1⟩ := hSw; go_simp⟩) hS ?_
  simp only [Act.put, List.setIfInBounds_toArray, List.set_cons_zero, List.set_cons_succ]
  refine wpAnyH_takeD 6 (some 38) (.string xx) rfl rfl (by kernel_rfl) (by kernel_rfl) (by kernel_rfl) (fun _ _ _ h => h) (Or.inl ⟨by rfl, fun w hSw => by obtain ⟨q0, q1⟩ := hSw; go_simp⟩) hS ?_
  simp only [Act.put, List.setIfInBounds_toArray, List.set_cons_zero, List.set_cons_succ]
  refine wpAnyH_ready (rs := [7]) (by kernel_rfl) (by simp) ?_
  refine AllReadyH.cons rfl (fun K hK => ?_) AllReadyH.nil
  simp only [List.getElem_toArray, List.getElem_cons_succ, List.getElem_cons_zero]
  go_simp
  refine (unhide HW).mono ?_
  rintro e y1 ⟨rfl, h2, hO2⟩
  have d0 : y1.cell? ⟨xb, 0, none⟩ = some (.pointer (some ⟨b, 0, none⟩)) := h2.blk.cell 0
  have B2 := (unhide HB).only hO2 (fun q => q.1 (.inr rfl))
  have d2 : y1.cell? ⟨go, 2, none⟩ = some (.int .i64 i) := B2.cell 2
  have HY := hide (And.intro h2 (And.intro B2 hO2))
  clear h2 hO2 B2
  refine hK.out _ _ ⟨d0, d2⟩ (fun hS => ?_)
  clear hK K
  refine wpAnyH_takeD 8 (some 6) (.int .i64 e1) rfl rfl (by kernel_rfl) (by kernel_rfl) (by kernel_rfl) (fun _ _ _ h => h) (Or.inl ⟨by rfl, fun w hSw => by obtain ⟨q0, q1⟩ := hSw; go_simp⟩) hS ?_
  simp only [Act.put, List.setIfInBounds_toArray, List.set_cons_zero, List.set_cons_succ]
  refine wpAnyH_done (by kernel_rfl) ?_ _
  clear hS d0 d2 c0 o2 HW
  obtain ⟨x2, rfl⟩ : ∃ W, W = y1 := ⟨_, rfl⟩
  have hbd : Below x2.heap.size x2 x2.drew := (Below.refl _ _).drew
  have h2 := (unhide HY).1.below hbd
  have B2 := (unhide HY).2.1.below hbd (unhide HY).2.1.lt
  have HO1 := hide (unhide HY).2.2
  clear HB HY
  have HB := hide B2
  have c0 : x2.drew.cell? ⟨xb, 1, none⟩ = some (.pointer (some ⟨br, 0, none⟩)) := h2.blk.cell 1
  have o2 : x2.drew.cell? ⟨go, 2, none⟩ = some (.int .i64 i) := B2.cell 2
  have HW := hide (h2.rwr (unhide HP).1 (unhide HP).2.1 (unhide HP).2.2.1 (unhide HP).2.2.2 i xx)
  rw [(unhide HE).1, (unhide HE).2] at HW
  have ee : (e1 == e1) = true := by simp
  clear hbd h2 B2
  go_wp2_with fail
  refine wp_region_held_drew (S := fun W => W.cell? ⟨xb, 1, none⟩ = some (.pointer (some ⟨br, 0, none⟩)) ∧ W.cell? ⟨go, 2, none⟩ = some (.int .i64 i)) (by kernel_rfl) ⟨c0, o2⟩ ?_
  intro hS
  refine wpAnyH_takeD 0 (some 40) (.int .i64 e1) rfl rfl (by kernel_rfl) (by kernel_rfl) (by kernel_rfl) (fun _ _ _ h => h) (Or.inl ⟨by rfl, fun w hSw => by obtain ⟨q0, q1⟩ := hSw; go_simp⟩) hS ?_
  simp only [Act.put, List.setIfInBounds_toArray, List.set_cons_zero, List.set_cons_succ]
  refine wpAnyH_takeD 1 (some 41) (.pointer (some ⟨xb, 0, none⟩)) rfl rfl (by kernel_rfl) (by kernel_rfl) (by kernel_rfl) (fun _ _ _ h => h) (Or.inl ⟨by rfl, fun w hSw => by obtain ⟨q0, q1⟩ := hSw; go_simp⟩) hS ?_
  simp only [Act.put, List.setIfInBounds_toArray, List.set_cons_zero, List.set_cons_succ]
  refine wpAnyH_takeD 2 (some 42) (.pointer (some ⟨xb, 0, none⟩)) rfl rfl (by kernel_rfl) (by kernel_rfl) (by kernel_rfl) (fun _ _ _ h => h) (Or.inl ⟨by rfl, fun w hSw => by obtain ⟨q0, q1⟩ := hSw; go_simp⟩) hS ?_
  simp only [Act.put, List.setIfInBounds_toArray, List.set_cons_zero, List.set_cons_succ]
  refine wpAnyH_takeD 3 (some 43) (.pointer (some ⟨xb, 1, none⟩)) rfl rfl (by kernel_rfl) (by kernel_rfl) (by kernel_rfl) (fun _ _ _ h => h) (Or.inl ⟨by rfl, fun w hSw => by obtain ⟨q0, q1⟩ := hSw; go_simp⟩) hS ?_
  simp only [Act.put, List.setIfInBounds_toArray, List.set_cons_zero, List.set_cons_succ]
  refine wpAnyH_takeD 4 (some 44) (.pointer (some ⟨br, 0, none⟩)) rfl rfl (by kernel_rfl) (by kernel_rfl) (by kernel_rfl) (fun _ _ _ h => h) (Or.inl ⟨by rfl, fun w hSw => by obtain ⟨q0, q1⟩ := hSw; go_simp⟩) hS ?_
  simp only [Act.put, List.setIfInBounds_toArray, List.set_cons_zero, List.set_cons_succ]
  refine wpAnyH_takeD 5 (some 45) (.pointer (some ⟨go, 2, none⟩)) rfl rfl (by kernel_rfl) (by kernel_rfl) (by kernel_rfl) (fun _ _ _ h => h) (Or.inl ⟨by rfl, fun w hSw => by obtain ⟨q0, q1⟩ := hSw; go_simp⟩) hS ?_
  simp only [Act.put, List.setIfInBounds_toArray, List.set_cons_zero, List.set_cons_succ]
  refine wpAnyH_takeD 6 (some 46) (.int .i64 i) rfl rfl (by kernel_rfl) (by kernel_rfl) (by kernel_rfl) (fun _ _ _ h => h) (Or.inl ⟨by rfl, fun w hSw => by obtain ⟨q0, q1⟩ := hSw; go_simp⟩) hS ?_
  simp only [Act.put, List.setIfInBounds_toArray, List.set_cons_zero, List.set_cons_succ]
  refine wpAnyH_takeD 7 (some 47) (.string xx) rfl rfl (by kernel_rfl) (by kernel_rfl) (by kernel_rfl) (fun _ _ _ h => h) (Or.inl ⟨by rfl, fun w hSw => by obtain ⟨q0, q1⟩ := hSw; go_simp⟩) hS ?_
  simp only [Act.put, List.setIfInBounds_toArray, List.set_cons_zero, List.set_cons_succ]
  refine wpAnyH_ready (rs := [8]) (by kernel_rfl) (by simp) ?_
  refine AllReadyH.cons rfl (fun K hK => ?_) AllReadyH.nil
  simp only [List.getElem_toArray, List.getElem_cons_succ, List.getElem_cons_zero]
  go_simp
  refine (unhide HW).mono ?_
  rintro e y1 ⟨rfl, h2, hO2⟩
  have d0 : y1.cell? ⟨xb, 1, none⟩ = some (.pointer (some ⟨br, 0, none⟩)) := h2.blk.cell 1
  have B2 := (unhide HB).only hO2 (fun q => q.1 (.inr rfl))
  have d2 : y1.cell? ⟨go, 2, none⟩ = some (.int .i64 i) := B2.cell 2
  have HY := hide (And.intro h2 (And.intro B2 hO2))
  clear h2 hO2 B2
  refine hK.out _ _ ⟨d0, d2⟩ (fun hS => ?_)
  clear hK K
  refine wpAnyH_takeD 9 (some 49) (.bool true) rfl rfl (by kernel_rfl) (by kernel_rfl) (by kernel_rfl) (fun _ _ _ h => h) (Or.inl ⟨by rfl, fun w hSw => by obtain ⟨q0, q1⟩ := hSw; go_simp⟩) hS ?_
  simp only [Act.put, List.setIfInBounds_toArray, List.set_cons_zero, List.set_cons_succ]
  refine wpAnyH_takeD 10 (some 4) (.bool true) rfl rfl (by kernel_rfl) (by kernel_rfl) (by kernel_rfl) (fun _ _ _ h => h) (Or.inl ⟨by rfl, fun w hSw => by obtain ⟨q0, q1⟩ := hSw; go_simp⟩) hS ?_
  simp only [Act.put, List.setIfInBounds_toArray, List.set_cons_zero, List.set_cons_succ]
  refine wpAnyH_done (by kernel_rfl) ?_ _
  have HF := hide (And.intro ((unhide HY).1.more (Y := X) (Below.refl _ _) (fun k q => .inl (.inl q))) (show Only (fun k => ¬ X k) w y1 from ((((Only.of_below (P := fun k => ¬ X k) (unhide HBO)).trans (Only.of_below (P := fun k => ¬ X k) (unhide HBD)) (fun _ _ q => q)).trans ((unhide HO1).mono (fun k _ q r => q.1 (.inl r))) (fun _ _ q => q)).drew).trans ((unhide HY).2.2.mono (fun k _ q r => q.1 (.inl r))) (fun _ _ q => q)))
  clear hS d0 d2 c0 o2 HW HY HB
  go_wp2_with fail
  go_ret
  exact ⟨rfl, unhide HF⟩
/-- The program's Commit over a side. -/
theorem Sd.commit {w0 w : World} {xb b br : Nat} {s t : DSt} {cs : Array Value} {X : Nat → Prop} (h : Sd w0 w xb b br s t cs X) {jb nx : Nat} {lost : Bool} (hX : X jb) (hJ : Jb w jb b nx lost) (hlo : w0.heap.size ≤ jb) (hS : Sane s) (hnx : nx < 4294967296) (p : Option Addr) (c : Nat) (l : List Wr1) (m : Nat) (hm : m = l.length) (hl : Wls w p l) (hp : s.pend.length ≤ 40000000) (ha : s.acts.length ≤ 40000000) :
    Calls Tryz.prog 12 #[.pointer (some ⟨jb, 0, none⟩), .slice p m c] w fun e w' => e = .returned (.int .i64 (commitR s nx lost l).e) ∧ Jb w' jb b (commitR s nx lost l).nx (commitR s nx lost l).lost ∧ Sd w0 w' xb b br (commitR s nx lost l).s t cs X ∧ Only (fun k => (¬ X k ∧ k ≠ xb) ∨ k = jb) w w' := by
  obtain ⟨v, vr, h1, h2, h3, h4, h5, h6, h7, h8⟩ := h
  refine (commit_any w _ b jb nx v s lost h1 hJ (h8 jb hX).1 h7.size hS hnx p c l m hm hl (by omega) (by omega)).mono ?_
  rintro e w' ⟨rfl, v', d1, dj, d2, d3⟩
  have hs := d2.size
  refine ⟨rfl, dj, ⟨v', vr, d1, h2.only d2 (fun k hk q => ?_), fun k hk => ?_, h4, h5.only d2 (fun q => ?_), h6, h7.trans (d2.below h7.size (fun k hk q => ?_)), fun k hk => ?_⟩, d2.mono (fun k _ q => ?_)⟩
  · rcases q with q | q
    · exact (h3 k q).1 hk
    · rw [q] at hk; exact (h8 jb hX).2.1 hk
  · rcases d3 k hk with q | q
    · exact h3 k q
    · exact ⟨fun r => by have := (h2.frB k r).2; omega, fun e => by have := h5.lt; omega⟩
  · rcases q with q | q
    · exact (h3 xb q).2 rfl
    · exact (h8 jb hX).2.2.1 q.symm
  · rcases q with q | q
    · have := (h1.fd k q).1; omega
    · omega
  · obtain ⟨a1, a2, a3, a4⟩ := h8 k hk
    exact ⟨fun r => by rcases d3 k r with q | q; exact a1 q; omega, a2, a3, by omega⟩
  · rcases q with q | q
    · exact .inl ⟨fun r => (h8 k r).1 q, (h3 k q).2⟩
    · exact .inr q
/-- The document's. -/
theorem Sd.rcommit {w0 w : World} {xb b br : Nat} {s t : DSt} {cs : Array Value} {X : Nat → Prop} (h : Sd w0 w xb b br s t cs X) {jb n : Nat} {lost : Bool} (hX : X jb) (hJ : Rj w jb br n lost) (hlo : w0.heap.size ≤ jb) (hS : Sane t) (hC : Coh t) (hn : n < 4294967296) (p : Option Addr) (c : Nat) (l : List Wr1) (m : Nat) (hm : m = l.length) (hl : Wls w p l) (hpX : ∀ g o, p = some ⟨g, o, none⟩ → 0 < l.length → g < w0.heap.size) (hp : t.pend.length ≤ 30000000) (ha : t.acts.length ≤ 40000000) :
    Calls Tryz.prog 33 #[.pointer (some ⟨jb, 0, none⟩), .slice p m c] w fun e w' => e = .returned (.int .i64 (commitR t ((n + 1) % 4294967296) lost l).e) ∧ Rj w' jb br (numR t n lost l) (commitR t ((n + 1) % 4294967296) lost l).lost ∧ Sd w0 w' xb b br s (commitR t ((n + 1) % 4294967296) lost l).s cs X ∧ Only (fun k => (¬ X k ∧ k ≠ xb) ∨ k = jb) w w' := by
  obtain ⟨v, vr, h1, h2, h3, h4, h5, h6, h7, h8⟩ := h
  refine (rcommit_any w _ br jb n lost vr t h2 h7.size hS hC (by omega) (by omega) hJ hn (h8 jb hX).2.1 p c m l hm hl (fun g o e z q => by have := (h2.frB g q).1; have := hpX g o e z; omega)).mono ?_
  rintro e w' ⟨rfl, v', d1, dj, dn, d2, d3⟩
  have hs := d2.size
  refine ⟨rfl, dj, ⟨v, v', h1.only d2 (fun k hk q => ?_), d1, fun k hk => ⟨fun r => ?_, (h3 k hk).2⟩, fun k hk => ?_, h5.only d2 (fun q => ?_), h6, h7.trans (d2.below h7.size (fun k hk q => ?_)), fun k hk => ?_⟩, d2.mono (fun k _ q => ?_)⟩
  · rcases q with q | q
    · exact (h3 k hk).1 q
    · rw [q] at hk; exact (h8 jb hX).1 hk
  · rcases d3 k r with q | q
    · exact (h3 k hk).1 q
    · have := (h1.fd k hk).2
      omega
  · rcases d3 k hk with q | q
    · exact h4 k q
    · have := h5.lt
      omega
  · rcases q with q | q
    · exact h4 xb q rfl
    · exact (h8 jb hX).2.2.1 q.symm
  · rcases q with q | q
    · have := (h2.frB k q).1; omega
    · omega
  · obtain ⟨a1, a2, a3, a4⟩ := h8 k hk
    exact ⟨a1, fun r => by rcases d3 k r with q | q; exact a2 q; omega, a3, by omega⟩
  · rcases q with q | q
    · exact .inl ⟨fun r => (h8 k r).2.1 q, h4 k q⟩
    · exact .inr q
/-- both numbers go on alike -/
theorem num_next (s : DSt) (n : Nat) (lost : Bool) (l : List Wr1) (hn : n < 4294967296) : (numR s n lost l + 1) % 4294967296 = (commitR s ((n + 1) % 4294967296) lost l).nx ∧ numR s n lost l < 4294967296 := by
  unfold numR commitR
  split
  · exact ⟨rfl, hn⟩
  · split
    · exact ⟨rfl, hn⟩
    · split
      · exact ⟨rfl, Nat.mod_lt _ (by decide)⟩
      · exact ⟨rfl, hn⟩
end Go.Proofs.YtffiaogbphgmgaaGreatDoor
