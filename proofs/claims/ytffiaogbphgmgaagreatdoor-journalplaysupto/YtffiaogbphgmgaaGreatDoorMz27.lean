import Derived.Test.YtffiaogbphgmgaaGreatDoorMz26
import Derived.Test.YtffiaogbphgmgaaGreatDoorMz25
import Derived.Test.YtffiaogbphgmgaaGreatDoorMz20
import Derived.BigQuiet
namespace Go.Proofs.YtffiaogbphgmgaaGreatDoor
open Go.RowKit
set_option maxRecDepth 100000
set_option maxHeartbeats 2000000 in
theorem raw5o {w0 w : World} {xb b br : Nat} {s : DSt} {j1 j2 j3 j4 : Value} {X : Nat → Prop} (h : Sd w0 w xb b br s s #[.pointer (some ⟨b, 0, none⟩), .pointer (some ⟨br, 0, none⟩), j1, j2, j3, j4] X) (hS : Sane s) (hC : Coh s) (hp : s.pend.length ≤ 30000000) (ha : s.acts.length ≤ 30000000) (x : ByteArray) :
    Calls Tryz.prog 37 #[.pointer (some ⟨xb, 0, none⟩), .string x] w fun e w' => e = .returned (.bool true) ∧ Sd w0 w' xb b br (flushS (writeS s 1 x)) (flushS (writeS s 1 x)) #[.pointer (some ⟨b, 0, none⟩), .pointer (some ⟨br, 0, none⟩), j1, j2, j3, j4] X ∧ Only (fun k => ¬ X k ∧ k ≠ xb) w w' := by
  have c0 : w.cell? ⟨xb, 0, none⟩ = some (.pointer (some ⟨b, 0, none⟩)) := h.blk.cell 0
  have HW := hide (h.wr hS (by omega) (by omega) 1 x)
  have HP := hide (And.intro hS (And.intro hC (And.intro hp ha)))
  have hS1 := hS.write 1 x
  have hC1 := hC.write 1 x
  have hp1 := pend_grow s 1 x
  have ha1 := acts_grow s 1 x
  obtain ⟨s1, hs1⟩ : ∃ z, writeS s 1 x = z := ⟨_, rfl⟩
  obtain ⟨e1, he1⟩ : ∃ z, writeE s 1 x = z := ⟨_, rfl⟩
  rw [hs1] at hS1 hC1 hp1 ha1 HW ⊢
  rw [he1] at HW
  have HP1 := hide (And.intro hS1 (And.intro hC1 (And.intro (show s1.pend.length ≤ 40000000 by omega) (show s1.acts.length ≤ 40000000 by omega))))
  have HE := hide (And.intro hs1 he1)
  obtain ⟨s2, hs2⟩ : ∃ z, flushS s1 = z := ⟨_, rfl⟩
  obtain ⟨e2, he2⟩ : ∃ z, flushE s1 = z := ⟨_, rfl⟩
  rw [hs2]
  have HE2 := hide (And.intro hs2 he2)
  clear hs2 he2
  clear h hS hC hp ha hS1 hC1 hp1 ha1 hs1 he1
  go_enter Tryz.func37, Tryz.ntmps37
  go_wp2_with fail
  refine (unhide HW).mono ?_
  rintro e x1 ⟨rfl, h1, hO1⟩
  have HO1 := hide hO1
  clear hO1
  have c1 : x1.cell? ⟨xb, 1, none⟩ = some (.pointer (some ⟨br, 0, none⟩)) := h1.blk.cell 1
  have HW2 := hide (h1.rwr (unhide HP).1 (unhide HP).2.1 (by have := (unhide HP).2.2.1; omega) (by have := (unhide HP).2.2.2; omega) 1 x)
  rw [(unhide HE).1, (unhide HE).2] at HW2
  clear h1 HW c0
  go_wp2_with fail
  refine (unhide HW2).mono ?_
  rintro e x2 ⟨rfl, h2, hO2⟩
  have HO2 := hide hO2
  clear hO2
  have c2 : x2.cell? ⟨xb, 0, none⟩ = some (.pointer (some ⟨b, 0, none⟩)) := h2.blk.cell 0
  have HF1 := hide (h2.fl (unhide HP1).1 (unhide HP1).2.2.1 (unhide HP1).2.2.2)
  rw [(unhide HE2).1, (unhide HE2).2] at HF1
  clear h2 HW2 c1
  go_wp2_with fail
  refine (unhide HF1).mono ?_
  rintro e x3 ⟨rfl, h3, hO3⟩
  have HO3 := hide hO3
  clear hO3
  have c3 : x3.cell? ⟨xb, 1, none⟩ = some (.pointer (some ⟨br, 0, none⟩)) := h3.blk.cell 1
  have HF2 := hide (h3.rfl_ (unhide HP1).1 (unhide HP1).2.1 (unhide HP1).2.2.1 (unhide HP1).2.2.2)
  rw [(unhide HE2).1, (unhide HE2).2] at HF2
  clear h3 HF1 c2
  go_wp2_with fail
  refine (unhide HF2).mono ?_
  rintro e x4 ⟨rfl, h4, hO4⟩
  have HO4 := hide hO4
  clear hO4
  have H4 := hide h4
  have q1 : (e1 == e1) = true := by simp
  have q2 : (e2 == e2) = true := by simp
  clear h4 HF2 c3
  go_wp2
  go_ret
  exact ⟨rfl, unhide H4, (((unhide HO1).trans (unhide HO2) (fun _ _ q => q)).trans (unhide HO3) (fun _ _ q => q)).trans (unhide HO4) (fun _ _ q => q)⟩
/-- what KClear and KHead leave -/
def HdQ (w0 : World) (xb b br : Nat) (s : DSt) (p1 p2 p3 p4 : Option Addr) (X : Nat → Prop) (w : World) (e : Ending) (w' : World) : Prop := e = .returned (.bool true) ∧ ∃ t, Sd w0 w' xb b br (flushS (writeS s 1 t)) (flushS (writeS s 1 t)) #[.pointer (some ⟨b, 0, none⟩), .pointer (some ⟨br, 0, none⟩), .pointer p1, .pointer p2, .pointer p3, .pointer p4] X ∧ Only (fun k => ¬ X k) w w'
set_option maxHeartbeats 4000000 in
theorem stepCl {w0 w : World} {xb b br : Nat} {s : DSt} {p1 p2 p3 p4 : Option Addr} {X : Nat → Prop} (h : Sd w0 w xb b br s s #[.pointer (some ⟨b, 0, none⟩), .pointer (some ⟨br, 0, none⟩), .pointer p1, .pointer p2, .pointer p3, .pointer p4] X) (hS : Sane s) (hC : Coh s) (hp : s.pend.length ≤ 30000000) (ha : s.acts.length ≤ 30000000) (on i : Int) (x : ByteArray) (l1 l2 l3 : Option Addr) (n1 n2 n3 m1 m2 m3 : Nat) (hi : I64 i) :
    Calls Tryz.prog 8 #[.pointer (some ⟨xb, 0, none⟩), .agg #[.int .i64 10, .int .i64 on, .int .i64 i, .string x, .slice l1 n1 m1, .slice l2 n2 m2, .slice l3 n3 m3]] w fun e w' => HdQ w0 xb b br s p1 p2 p3 p4 X w e w' := by
  obtain ⟨go, hgo⟩ : ∃ z, w.heap.size = z := ⟨_, rfl⟩
  obtain ⟨x0, hx0⟩ : ∃ z, w.alloc (.cells #[.int .i64 10, .int .i64 on, .int .i64 i, .string x, .slice l1 n1 m1, .slice l2 n2 m2, .slice l3 n3 m3] 41) = z := ⟨_, rfl⟩
  have B0 : Blk x0 go #[.int .i64 10, .int .i64 on, .int .i64 i, .string x, .slice l1 n1 m1, .slice l2 n2 m2, .slice l3 n3 m3] 41 := by rw [← hx0, ← hgo]; exact Blk.new w _ _
  have hb0 : Below w.heap.size w x0 := by rw [← hx0]; exact (Below.refl _ _).alloc (Nat.le_refl _) _
  have h0 : Sd w0 x0 xb b br s s #[.pointer (some ⟨b, 0, none⟩), .pointer (some ⟨br, 0, none⟩), .pointer p1, .pointer p2, .pointer p3, .pointer p4] (fun k => X k ∨ k = go) := h.more hb0 (fun k q => q.imp_right (fun e => by rw [e]; exact ⟨by omega, B0.lt⟩))
  have k0 : x0.cell? ⟨go, 0, none⟩ = some (.int .i64 10) := B0.cell 0
  have HBO := hide hb0
  have HP := hide (And.intro hS (And.intro hC (And.intro hp ha)))
  have k2 : x0.cell? ⟨go, 2, none⟩ = some (.int .i64 i) := B0.cell 2
  have HPK := hide (pick5_c i 4294967296 (by decide) hi 4294967296 rfl x0)
  have hpl := pickP_lt i 4294967296 (by decide)
  obtain ⟨q, hq⟩ : ∃ z, pickP i 4294967296 = z := ⟨_, rfl⟩
  rw [hq] at HPK hpl
  have HCL := hide (rclear_any q hpl (q : Int) rfl x0)
  obtain ⟨tx, htx⟩ : ∃ z, headB q [] = z := ⟨_, rfl⟩
  rw [htx] at HCL
  have H0 := hide (And.intro h0 B0)
  clear h hS hC hp ha hi B0 hb0 h0 hq hpl htx
  go_enter Tryz.func8, Tryz.ntmps8
  go_wp2_with fail
  clear hx0 k0
  refine (unhide HPK).mono ?_
  rintro e y ⟨rfl, hy⟩
  subst y
  clear HPK k2
  go_wp2_with fail
  refine (unhide HCL).mono ?_
  rintro e x1 ⟨rfl, hb1⟩
  have HRW := hide (raw5o ((unhide H0).1.below hb1) (unhide HP).1 (unhide HP).2.1 (unhide HP).2.2.1 (unhide HP).2.2.2 tx)
  have HB1 := hide hb1
  clear hb1 HCL
  go_wp2_with fail
  refine (unhide HRW).mono ?_
  rintro e x2 ⟨rfl, h2, hO2⟩
  have HF := hide (show HdQ w0 xb b br s p1 p2 p3 p4 X w (.returned (.bool true)) x2 from ⟨rfl, tx, h2.more (Below.refl _ _) (fun k q => .inl (.inl q)), ((Only.of_below (P := fun k => ¬ X k) (unhide HBO)).trans (Only.of_below (P := fun k => ¬ X k) (unhide HB1)) (fun _ _ q => q)).trans (hO2.mono (fun k _ q r => q.1 (.inl r))) (fun _ _ q => q)⟩)
  clear h2 hO2 HRW HB1
  go_wp2
  go_ret
  exact unhide HF
set_option maxHeartbeats 4000000 in
theorem stepHd {w0 w : World} {xb b br : Nat} {s : DSt} {p1 p2 p3 p4 : Option Addr} {X : Nat → Prop} (h : Sd w0 w xb b br s s #[.pointer (some ⟨b, 0, none⟩), .pointer (some ⟨br, 0, none⟩), .pointer p1, .pointer p2, .pointer p3, .pointer p4] X) (hS : Sane s) (hC : Coh s) (hp : s.pend.length ≤ 30000000) (ha : s.acts.length ≤ 30000000) (on i : Int) (x : ByteArray) (l1 l2 l3 : Option Addr) (n1 n2 n3 m1 m2 m3 : Nat) (hi : I64 i) (tl : List Int) (htl : n3 = tl.length) (htI : ∀ W, Below w0.heap.size w0 W → Ints W l3 tl) (htB : ∀ z ∈ tl, I64 z) :
    Calls Tryz.prog 8 #[.pointer (some ⟨xb, 0, none⟩), .agg #[.int .i64 9, .int .i64 on, .int .i64 i, .string x, .slice l1 n1 m1, .slice l2 n2 m2, .slice l3 n3 m3]] w fun e w' => HdQ w0 xb b br s p1 p2 p3 p4 X w e w' := by
  obtain ⟨go, hgo⟩ : ∃ z, w.heap.size = z := ⟨_, rfl⟩
  obtain ⟨x0, hx0⟩ : ∃ z, w.alloc (.cells #[.int .i64 9, .int .i64 on, .int .i64 i, .string x, .slice l1 n1 m1, .slice l2 n2 m2, .slice l3 n3 m3] 41) = z := ⟨_, rfl⟩
  have B0 : Blk x0 go #[.int .i64 9, .int .i64 on, .int .i64 i, .string x, .slice l1 n1 m1, .slice l2 n2 m2, .slice l3 n3 m3] 41 := by rw [← hx0, ← hgo]; exact Blk.new w _ _
  have hb0 : Below w.heap.size w x0 := by rw [← hx0]; exact (Below.refl _ _).alloc (Nat.le_refl _) _
  have h0 : Sd w0 x0 xb b br s s #[.pointer (some ⟨b, 0, none⟩), .pointer (some ⟨br, 0, none⟩), .pointer p1, .pointer p2, .pointer p3, .pointer p4] (fun k => X k ∨ k = go) := h.more hb0 (fun k q => q.imp_right (fun e => by rw [e]; exact ⟨by omega, B0.lt⟩))
  have k0 : x0.cell? ⟨go, 0, none⟩ = some (.int .i64 9) := B0.cell 0
  have HBO := hide hb0
  have HP := hide (And.intro hS (And.intro hC (And.intro hp ha)))
  subst htl
  have hbd0 : Below x0.heap.size x0 x0.drew := (Below.refl _ _).drew
  have h0d := h0.below hbd0
  have B0d := B0.below hbd0 B0.lt
  have k2 : x0.drew.cell? ⟨go, 2, none⟩ = some (.int .i64 i) := B0d.cell 2
  have k6 : x0.drew.cell? ⟨go, 6, none⟩ = some (.slice l3 tl.length m3) := B0d.cell 6
  have HPK := hide (pick5_c i 4294967296 (by decide) hi 4294967296 rfl x0.drew)
  obtain ⟨q, hq⟩ : ∃ z, pickP i 4294967296 = z := ⟨_, rfl⟩
  rw [hq] at HPK
  have HST := hide (rset_some (q : Int) l3 tl.length m3 tl rfl x0.drew (htI _ h0d.bel) htB)
  have H0 := hide (And.intro h0d B0d)
  clear h hS hC hp ha hi B0 hb0 h0 hq htI htB hbd0 h0d B0d
  go_enter Tryz.func8, Tryz.ntmps8
  go_wp2_with fail
  clear hx0 k0
  refine wp_region_held_drew (S := fun W => W.cell? ⟨go, 2, none⟩ = some (.int .i64 i) ∧ W.cell? ⟨go, 6, none⟩ = some (.slice l3 tl.length m3)) (by kernel_rfl) ⟨k2, k6⟩ ?_
  intro hS
  refine wpAnyH_takeD 0 (some 228) (.pointer (some ⟨xb, 0, none⟩)) rfl rfl (by kernel_rfl) (by kernel_rfl) (by kernel_rfl) (fun _ _ _ h => h) (Or.inl ⟨by rfl, fun w hSw => by obtain ⟨q0, q1⟩ := hSw; go_simp⟩) hS ?_
  simp only [Act.put, List.setIfInBounds_toArray, List.set_cons_zero, List.set_cons_succ]
  refine wpAnyH_takeD 1 (some 229) (.pointer (some ⟨go, 2, none⟩)) rfl rfl (by kernel_rfl) (by kernel_rfl) (by kernel_rfl) (fun _ _ _ h => h) (Or.inl ⟨by rfl, fun w hSw => by obtain ⟨q0, q1⟩ := hSw; go_simp⟩) hS ?_
  simp only [Act.put, List.setIfInBounds_toArray, List.set_cons_zero, List.set_cons_succ]
  refine wpAnyH_takeD 2 (some 230) (.int .i64 i) rfl rfl (by kernel_rfl) (by kernel_rfl) (by kernel_rfl) (fun _ _ _ h => h) (Or.inl ⟨by rfl, fun w hSw => by obtain ⟨q0, q1⟩ := hSw; go_simp⟩) hS ?_
  simp only [Act.put, List.setIfInBounds_toArray, List.set_cons_zero, List.set_cons_succ]
  refine wpAnyH_takeD 4 (some 232) (.pointer (some ⟨go, 6, none⟩)) rfl rfl (by kernel_rfl) (by kernel_rfl) (by kernel_rfl) (fun _ _ _ h => h) (Or.inl ⟨by rfl, fun w hSw => by obtain ⟨q0, q1⟩ := hSw; go_simp⟩) hS ?_
  simp only [Act.put, List.setIfInBounds_toArray, List.set_cons_zero, List.set_cons_succ]
  refine wpAnyH_takeD 5 (some 233) (.slice l3 tl.length m3) rfl rfl (by kernel_rfl) (by kernel_rfl) (by kernel_rfl) (fun _ _ _ h => h) (Or.inl ⟨by rfl, fun w hSw => by obtain ⟨q0, q1⟩ := hSw; go_simp⟩) hS ?_
  simp only [Act.put, List.setIfInBounds_toArray, List.set_cons_zero, List.set_cons_succ]
  refine wpAnyH_ready (rs := [3]) (by kernel_rfl) (by simp) ?_
  refine AllReadyH.cons rfl (fun K hK => ?_) AllReadyH.nil
  simp only [List.getElem_toArray, List.getElem_cons_succ, List.getElem_cons_zero]
  go_simp
  refine (unhide HPK).mono ?_
  rintro e y1 ⟨rfl, hy⟩
  subst y1
  refine hK.out _ _ ⟨k2, k6⟩ (fun hS => ?_)
  clear hK K
  refine wpAnyH_ready (rs := [6]) (by kernel_rfl) (by simp) ?_
  refine AllReadyH.cons rfl (fun K hK => ?_) AllReadyH.nil
  simp only [List.getElem_toArray, List.getElem_cons_succ, List.getElem_cons_zero]
  go_simp
  refine (unhide HST).mono ?_
  rintro e x1 ⟨⟨tx, rfl, htx⟩, hb1⟩
  have B1 := (unhide H0).2.below hb1 (unhide H0).2.lt
  have d2 : x1.cell? ⟨go, 2, none⟩ = some (.int .i64 i) := B1.cell 2
  have d6 : x1.cell? ⟨go, 6, none⟩ = some (.slice l3 tl.length m3) := B1.cell 6
  have HB1 := hide hb1
  have HRW := hide (raw5o ((unhide H0).1.below hb1) (unhide HP).1 (unhide HP).2.1 (unhide HP).2.2.1 (unhide HP).2.2.2 tx)
  have HG1 := hide B1
  clear hb1 htx B1
  refine hK.out _ _ ⟨d2, d6⟩ (fun hS => ?_)
  clear hK K
  refine wpAnyH_ready (rs := [7]) (by kernel_rfl) (by simp) ?_
  refine AllReadyH.cons rfl (fun K hK => ?_) AllReadyH.nil
  simp only [List.getElem_toArray, List.getElem_cons_succ, List.getElem_cons_zero]
  go_simp
  refine (unhide HRW).mono ?_
  rintro e x2 ⟨rfl, h2, hO2⟩
  have B2 := (unhide HG1).only hO2 (fun q => q.1 (.inr rfl))
  have f2 : x2.cell? ⟨go, 2, none⟩ = some (.int .i64 i) := B2.cell 2
  have f6 : x2.cell? ⟨go, 6, none⟩ = some (.slice l3 tl.length m3) := B2.cell 6
  have HF := hide (show HdQ w0 xb b br s p1 p2 p3 p4 X w (.returned (.bool true)) x2 from ⟨rfl, tx, h2.more (Below.refl _ _) (fun k q => .inl (.inl q)), ((Only.of_below (P := fun k => ¬ X k) ((unhide HBO).drew)).trans (Only.of_below (P := fun k => ¬ X k) (unhide HB1)) (fun _ _ q => q)).trans (hO2.mono (fun k _ q r => q.1 (.inl r))) (fun _ _ q => q)⟩)
  clear h2 hO2 B2
  refine hK.out _ _ ⟨f2, f6⟩ (fun hS => ?_)
  clear hK K
  refine wpAnyH_takeD 8 (some 4) (.bool true) rfl rfl (by kernel_rfl) (by kernel_rfl) (by kernel_rfl) (fun _ _ _ h => h) (Or.inl ⟨by rfl, fun w hSw => by obtain ⟨q0, q1⟩ := hSw; go_simp⟩) hS ?_
  simp only [Act.put, List.setIfInBounds_toArray, List.set_cons_zero, List.set_cons_succ]
  refine wpAnyH_done (by kernel_rfl) ?_ _
  clear hS k2 k6 d2 d6 f2 f6 HPK HST HRW HG1 H0 HB1
  go_wp2_with fail
  go_ret
  exact unhide HF
end Go.Proofs.YtffiaogbphgmgaaGreatDoor

namespace Go.Proofs.YtffiaogbphgmgaaGreatDoor
open Go.RowKit
set_option maxRecDepth 100000
end Go.Proofs.YtffiaogbphgmgaaGreatDoor

namespace Go.Proofs.YtffiaogbphgmgaaGreatDoor
open Go.RowKit
set_option maxRecDepth 100000
/-- a pair of journals, the program's and the document's; or none -/
def JPr (w : World) (b br : Nat) (p q : Option Addr) : Prop := (p = none ∧ q = none) ∨ ∃ jb sb n lost, p = some ⟨jb, 0, none⟩ ∧ q = some ⟨sb, 0, none⟩ ∧ Jb w jb b ((n + 1) % 4294967296) lost ∧ Rj w sb br n lost ∧ n < 4294967296
def Jbl (p : Option Addr) (k : Nat) : Prop := p = some ⟨k, 0, none⟩
def Js (p1 p2 p3 p4 : Option Addr) (k : Nat) : Prop := Jbl p1 k ∨ Jbl p2 k ∨ Jbl p3 k ∨ Jbl p4 k
theorem JPr.only {w w' : World} {b br : Nat} {p q : Option Addr} {P : Nat → Prop} (h : JPr w b br p q) (ho : Only P w w') (h1 : ∀ k, Jbl p k → ¬ P k) (h2 : ∀ k, Jbl q k → ¬ P k) : JPr w' b br p q := by
  rcases h with h | ⟨jb, sb, n, lost, e1, e2, hJ, hR, hn⟩
  · exact .inl h
  · exact .inr ⟨jb, sb, n, lost, e1, e2, Blk.only hJ ho (h1 jb e1), Blk.only hR ho (h2 sb e2), hn⟩
/-- A side with its two pairs of journals, and a fence Z of blocks that belong to nothing of it. -/
structure Sj (w0 w : World) (xb b br : Nat) (s : DSt) (p1 p2 p3 p4 : Option Addr) (Z : Nat → Prop) : Prop where
  sd : Sd w0 w xb b br s s #[.pointer (some ⟨b, 0, none⟩), .pointer (some ⟨br, 0, none⟩), .pointer p1, .pointer p2, .pointer p3, .pointer p4] (fun k => Z k ∨ Js p1 p2 p3 p4 k)
  j1 : JPr w b br p1 p2
  j2 : JPr w b br p3 p4
  n1 : ∀ k, Jbl p1 k → ¬ Jbl p3 k
  n2 : ∀ k, Jbl p2 k → ¬ Jbl p4 k
  zn : ∀ k, Z k → ¬ Js p1 p2 p3 p4 k
  lo : ∀ k, Js p1 p2 p3 p4 k → w0.heap.size ≤ k
theorem Sj.below {w0 w : World} {xb b br : Nat} {s : DSt} {p1 p2 p3 p4 : Option Addr} {Z : Nat → Prop} (h : Sj w0 w xb b br s p1 p2 p3 p4 Z) {w' : World} (hb : Below w.heap.size w w') : Sj w0 w' xb b br s p1 p2 p3 p4 Z :=
  ⟨h.sd.below hb, h.j1.only (Only.of_below (P := fun _ => False) hb) (fun _ _ q => q) (fun _ _ q => q), h.j2.only (Only.of_below (P := fun _ => False) hb) (fun _ _ q => q) (fun _ _ q => q), h.n1, h.n2, h.zn, h.lo⟩
/-- behind a call of the disks alone -/
theorem Sj.disks {w0 w : World} {xb b br : Nat} {s : DSt} {p1 p2 p3 p4 : Option Addr} {Z : Nat → Prop} (h : Sj w0 w xb b br s p1 p2 p3 p4 Z) {w' : World} {s' : DSt} (hs : Sd w0 w' xb b br s' s' #[.pointer (some ⟨b, 0, none⟩), .pointer (some ⟨br, 0, none⟩), .pointer p1, .pointer p2, .pointer p3, .pointer p4] (fun k => Z k ∨ Js p1 p2 p3 p4 k)) (ho : Only (fun k => ¬ (Z k ∨ Js p1 p2 p3 p4 k)) w w') : Sj w0 w' xb b br s' p1 p2 p3 p4 Z :=
  ⟨hs, h.j1.only ho (fun _ q r => r (.inr (.inl q))) (fun _ q r => r (.inr (.inr (.inl q)))), h.j2.only ho (fun _ q r => r (.inr (.inr (.inr (.inl q))))) (fun _ q r => r (.inr (.inr (.inr (.inr q))))), h.n1, h.n2, h.zn, h.lo⟩
set_option maxHeartbeats 4000000 in
/-- which pair is asked -/
theorem which_any {w : World} {xb b br : Nat} {p1 p2 p3 p4 : Option Addr} (h : Blk w xb #[.pointer (some ⟨b, 0, none⟩), .pointer (some ⟨br, 0, none⟩), .pointer p1, .pointer p2, .pointer p3, .pointer p4] 36) (kd : Int) (on i : Int) (x : ByteArray) (l1 l2 l3 : Option Addr) (n1 n2 n3 m1 m2 m3 : Nat) (hi : I64 i) :
    Calls Tryz.prog 31 #[.pointer (some ⟨xb, 0, none⟩), .agg #[.int .i64 kd, .int .i64 on, .int .i64 i, .string x, .slice l1 n1 m1, .slice l2 n2 m2, .slice l3 n3 m3]] w fun e w' => (∃ q1 q2, e = .returned (.tuple #[.pointer q1, .pointer q2]) ∧ ((q1 = p1 ∧ q2 = p2) ∨ (q1 = p3 ∧ q2 = p4))) ∧ Below w.heap.size w w' := by
  obtain ⟨go, hgo⟩ : ∃ z, w.heap.size = z := ⟨_, rfl⟩
  obtain ⟨x0, hx0⟩ : ∃ z, w.alloc (.cells #[.int .i64 kd, .int .i64 on, .int .i64 i, .string x, .slice l1 n1 m1, .slice l2 n2 m2, .slice l3 n3 m3] 41) = z := ⟨_, rfl⟩
  have B0 : Blk x0 go #[.int .i64 kd, .int .i64 on, .int .i64 i, .string x, .slice l1 n1 m1, .slice l2 n2 m2, .slice l3 n3 m3] 41 := by rw [← hx0, ← hgo]; exact Blk.new w _ _
  have hb0 : Below w.heap.size w x0 := by rw [← hx0]; exact (Below.refl _ _).alloc (Nat.le_refl _) _
  have h0 : Blk x0 xb #[.pointer (some ⟨b, 0, none⟩), .pointer (some ⟨br, 0, none⟩), .pointer p1, .pointer p2, .pointer p3, .pointer p4] 36 := h.below hb0 h.lt
  have k2 : x0.cell? ⟨go, 2, none⟩ = some (.int .i64 i) := B0.cell 2
  have c2 : x0.cell? ⟨xb, 2, none⟩ = some (.pointer p1) := h0.cell 2
  have c3 : x0.cell? ⟨xb, 3, none⟩ = some (.pointer p2) := h0.cell 3
  have c4 : x0.cell? ⟨xb, 4, none⟩ = some (.pointer p3) := h0.cell 4
  have c5 : x0.cell? ⟨xb, 5, none⟩ = some (.pointer p4) := h0.cell 5
  have HPK := hide (pick5_c i 2 (by decide) hi 2 rfl x0)
  have hpl := pickP_lt i 2 (by decide)
  obtain ⟨q, hq⟩ : ∃ z, pickP i 2 = z := ⟨_, rfl⟩
  rw [hq] at HPK hpl
  rw [hgo] at hb0
  have HB := hide hb0
  rw [hgo]
  clear h B0 hb0 h0 hq hi
  have hq01 : q = 0 ∨ q = 1 := by omega
  clear hpl
  rcases hq01 with rfl | rfl
  · as_aux_lemma =>
      go_enter Tryz.func31, Tryz.ntmps31
      go_wp2_with fail
      clear hx0 hgo
      refine (unhide HPK).mono ?_
      rintro e y ⟨rfl, hy⟩
      subst y
      clear HPK k2
      go_wp2_with fail
      go_quiet (fail)
      go_wp2
      go_ret2
      exact ⟨⟨_, _, rfl, .inl ⟨rfl, rfl⟩⟩, below_drewN (unhide HB) _⟩
  · cases p4 with
    | none =>
      as_aux_lemma =>
        go_enter Tryz.func31, Tryz.ntmps31
        go_wp2_with fail
        clear hx0 hgo
        refine (unhide HPK).mono ?_
        rintro e y ⟨rfl, hy⟩
        subst y
        clear HPK k2
        go_wp2_with fail
        go_quiet (fail)
        go_wp2
        go_ret2
        exact ⟨⟨_, _, rfl, .inl ⟨rfl, rfl⟩⟩, below_drewN (unhide HB) _⟩
    | some a4 =>
      as_aux_lemma =>
        go_enter Tryz.func31, Tryz.ntmps31
        go_wp2_with fail
        clear hx0 hgo
        refine (unhide HPK).mono ?_
        rintro e y ⟨rfl, hy⟩
        subst y
        clear HPK k2
        go_wp2_with fail
        go_quiet (fail)
        go_wp2
        go_ret2
        exact ⟨⟨_, _, rfl, .inr ⟨rfl, rfl⟩⟩, below_drewN (unhide HB) _⟩
set_option maxHeartbeats 4000000 in
theorem stepNx {w0 w : World} {xb b br : Nat} {s : DSt} {p1 p2 p3 p4 : Option Addr} {Z : Nat → Prop} (h : Sj w0 w xb b br s p1 p2 p3 p4 Z) (on i : Int) (x : ByteArray) (l1 l2 l3 : Option Addr) (n1 n2 n3 m1 m2 m3 : Nat) (hi : I64 i) :
    Calls Tryz.prog 8 #[.pointer (some ⟨xb, 0, none⟩), .agg #[.int .i64 8, .int .i64 on, .int .i64 i, .string x, .slice l1 n1 m1, .slice l2 n2 m2, .slice l3 n3 m3]] w fun e w' => e = .returned (.bool true) ∧ Below w.heap.size w w' := by
  obtain ⟨go, hgo⟩ : ∃ z, w.heap.size = z := ⟨_, rfl⟩
  obtain ⟨x0, hx0⟩ : ∃ z, w.alloc (.cells #[.int .i64 8, .int .i64 on, .int .i64 i, .string x, .slice l1 n1 m1, .slice l2 n2 m2, .slice l3 n3 m3] 41) = z := ⟨_, rfl⟩
  have B0 : Blk x0 go #[.int .i64 8, .int .i64 on, .int .i64 i, .string x, .slice l1 n1 m1, .slice l2 n2 m2, .slice l3 n3 m3] 41 := by rw [← hx0, ← hgo]; exact Blk.new w _ _
  have hb0 : Below w.heap.size w x0 := by rw [← hx0]; exact (Below.refl _ _).alloc (Nat.le_refl _) _
  have h0 := h.below hb0
  have k0 : x0.cell? ⟨go, 0, none⟩ = some (.int .i64 8) := B0.cell 0
  have k1 : x0.cell? ⟨go, 1, none⟩ = some (.int .i64 on) := B0.cell 1
  have k2 : x0.cell? ⟨go, 2, none⟩ = some (.int .i64 i) := B0.cell 2
  have k3 : x0.cell? ⟨go, 3, none⟩ = some (.string x) := B0.cell 3
  have k4 : x0.cell? ⟨go, 4, none⟩ = some (.slice l1 n1 m1) := B0.cell 4
  have k5 : x0.cell? ⟨go, 5, none⟩ = some (.slice l2 n2 m2) := B0.cell 5
  have k6 : x0.cell? ⟨go, 6, none⟩ = some (.slice l3 n3 m3) := B0.cell 6
  have HW := hide (which_any h0.sd.blk 8 on i x l1 l2 l3 n1 n2 n3 m1 m2 m3 hi)
  have HB0 := hide hb0
  have HJ := hide (And.intro h0.j1 h0.j2)
  rw [hgo] at hb0
  rw [hgo]
  have HBo := hide hb0
  clear h B0 hb0 h0 hi
  go_enter Tryz.func8, Tryz.ntmps8
  go_wp2_with fail
  clear hx0 k0 k1 k2 k3 k4 k5 k6
  refine (unhide HW).mono ?_
  rintro e x1 ⟨⟨q1, q2, rfl, hq⟩, hb1⟩
  have HB1 := hide (show Below go w x1 from (unhide HBo).trans (hb1.mono (by have := (unhide HB0).size; omega)))
  have hJ : JPr x1 b br q1 q2 := by
    have ho : Only (fun _ => False) x0 x1 := Only.of_below hb1
    rcases hq with ⟨rfl, rfl⟩ | ⟨rfl, rfl⟩
    · exact (unhide HJ).1.only ho (fun _ _ q => q) (fun _ _ q => q)
    · exact (unhide HJ).2.only ho (fun _ _ q => q) (fun _ _ q => q)
  clear HW HB0 HBo HJ hb1 hgo hq
  rcases hJ with ⟨rfl, rfl⟩ | ⟨jb, sb, n, lost, rfl, rfl, hJb, hRj, hn⟩
  · as_aux_lemma =>
      go_wp2
      go_ret
      exact ⟨rfl, unhide HB1⟩
  · as_aux_lemma =>
      have HN1 := hide (next_any x1 jb b _ lost hJb (Nat.mod_lt _ (by decide)))
      have HN2 := hide (rnext_any x1 sb br n lost hRj hn)
      generalize (n + 1) % 4294967296 = m at *
      have ee : ((m : Int) == (m : Int)) = true := by simp
      clear hJb hRj hn
      go_wp2_with fail
      refine (unhide HN1).mono ?_
      rintro e y ⟨rfl, hy⟩
      subst y
      go_wp2_with fail
      refine (unhide HN2).mono ?_
      rintro e y ⟨rfl, hy⟩
      subst y
      clear HN1 HN2
      go_wp2
      go_ret
      exact ⟨rfl, unhide HB1⟩
end Go.Proofs.YtffiaogbphgmgaaGreatDoor

namespace Go.Proofs.YtffiaogbphgmgaaGreatDoor
open Go.RowKit
set_option maxRecDepth 100000
theorem Sj.opened0 {w0 w : World} {xb b br : Nat} {s : DSt} {p1 p2 p3 p4 : Option Addr} {Z : Nat → Prop} (h : Sj w0 w xb b br s p1 p2 p3 p4 Z) {w' : World} {s' : DSt} {jb sb n : Nat} (h4 : Sd w0 w' xb b br s' s' #[.pointer (some ⟨b, 0, none⟩), .pointer (some ⟨br, 0, none⟩), .pointer (some ⟨jb, 0, none⟩), .pointer (some ⟨sb, 0, none⟩), .pointer p3, .pointer p4] (fun k => ((Z k ∨ Js p1 p2 p3 p4 k) ∨ k = jb) ∨ k = sb)) (hO : Only (fun k => ¬ (Z k ∨ Js p1 p2 p3 p4 k)) w w') (hJ : Jb w' jb b ((n + 1) % 4294967296) false) (hR : Rj w' sb br n false) (hn : n < 4294967296) (hjl : w.heap.size ≤ jb) (hsl : w.heap.size ≤ sb) : Sj w0 w' xb b br s' (some ⟨jb, 0, none⟩) (some ⟨sb, 0, none⟩) p3 p4 Z := by
  have hlt : ∀ k, (Z k ∨ Js p1 p2 p3 p4 k) → k < w.heap.size := fun k hk => by
    obtain ⟨v, vr, h1, h2, h3, h4, h5, h6, h7, h8⟩ := h.sd
    exact (h8 k hk).2.2.2
  have hbs := h.sd.bel.size
  refine ⟨h4.more (Below.refl _ _) (fun k q => .inl ?_), .inr ⟨jb, sb, n, false, rfl, rfl, hJ, hR, hn⟩, h.j2.only hO (fun _ q r => r (.inr (.inr (.inr (.inl q))))) (fun _ q r => r (.inr (.inr (.inr (.inr q))))), fun k q r => ?_, fun k q r => ?_, fun k hz q => ?_, fun k q => ?_⟩
  · rcases q with q | q | q | q | q
    · exact .inl (.inl (.inl q))
    · exact .inl (.inr (by injection q with q; injection q with q _; exact q.symm))
    · exact .inr (by injection q with q; injection q with q _; exact q.symm)
    · exact .inl (.inl (.inr (.inr (.inr (.inl q)))))
    · exact .inl (.inl (.inr (.inr (.inr (.inr q)))))
  · have := hlt k (.inr (.inr (.inr (.inl r))))
    injection q with q
    injection q with q _
    omega
  · have := hlt k (.inr (.inr (.inr (.inr r))))
    injection q with q
    injection q with q _
    omega
  · rcases q with q | q | q | q
    · have := hlt k (.inl hz); injection q with q; injection q with q _; omega
    · have := hlt k (.inl hz); injection q with q; injection q with q _; omega
    · exact h.zn k hz (.inr (.inr (.inl q)))
    · exact h.zn k hz (.inr (.inr (.inr q)))
  · rcases q with q | q | q | q
    · injection q with q; injection q with q _; omega
    · injection q with q; injection q with q _; omega
    · exact h.lo k (.inr (.inr (.inl q)))
    · exact h.lo k (.inr (.inr (.inr q)))
theorem Sj.opened1 {w0 w : World} {xb b br : Nat} {s : DSt} {p1 p2 p3 p4 : Option Addr} {Z : Nat → Prop} (h : Sj w0 w xb b br s p1 p2 p3 p4 Z) {w' : World} {s' : DSt} {jb sb n : Nat} (h4 : Sd w0 w' xb b br s' s' #[.pointer (some ⟨b, 0, none⟩), .pointer (some ⟨br, 0, none⟩), .pointer p1, .pointer p2, .pointer (some ⟨jb, 0, none⟩), .pointer (some ⟨sb, 0, none⟩)] (fun k => ((Z k ∨ Js p1 p2 p3 p4 k) ∨ k = jb) ∨ k = sb)) (hO : Only (fun k => ¬ (Z k ∨ Js p1 p2 p3 p4 k)) w w') (hJ : Jb w' jb b ((n + 1) % 4294967296) false) (hR : Rj w' sb br n false) (hn : n < 4294967296) (hjl : w.heap.size ≤ jb) (hsl : w.heap.size ≤ sb) : Sj w0 w' xb b br s' p1 p2 (some ⟨jb, 0, none⟩) (some ⟨sb, 0, none⟩) Z := by
  have hlt : ∀ k, (Z k ∨ Js p1 p2 p3 p4 k) → k < w.heap.size := fun k hk => by
    obtain ⟨v, vr, h1, h2, h3, h4, h5, h6, h7, h8⟩ := h.sd
    exact (h8 k hk).2.2.2
  have hbs := h.sd.bel.size
  refine ⟨h4.more (Below.refl _ _) (fun k q => .inl ?_), h.j1.only hO (fun _ q r => r (.inr (.inl q))) (fun _ q r => r (.inr (.inr (.inl q)))), .inr ⟨jb, sb, n, false, rfl, rfl, hJ, hR, hn⟩, fun k q r => ?_, fun k q r => ?_, fun k hz q => ?_, fun k q => ?_⟩
  · rcases q with q | q | q | q | q
    · exact .inl (.inl (.inl q))
    · exact .inl (.inl (.inr (.inl q)))
    · exact .inl (.inl (.inr (.inr (.inl q))))
    · exact .inl (.inr (by injection q with q; injection q with q _; exact q.symm))
    · exact .inr (by injection q with q; injection q with q _; exact q.symm)
  · have := hlt k (.inr (.inl q))
    injection r with r
    injection r with r _
    omega
  · have := hlt k (.inr (.inr (.inl q)))
    injection r with r
    injection r with r _
    omega
  · rcases q with q | q | q | q
    · exact h.zn k hz (.inl q)
    · exact h.zn k hz (.inr (.inl q))
    · have := hlt k (.inl hz); injection q with q; injection q with q _; omega
    · have := hlt k (.inl hz); injection q with q; injection q with q _; omega
  · rcases q with q | q | q | q
    · exact h.lo k (.inl q)
    · exact h.lo k (.inr (.inl q))
    · injection q with q; injection q with q _; omega
    · injection q with q; injection q with q _; omega
/-- what step leaves of a side with its journals -/
def StQ (w0 : World) (xb b br : Nat) (s' : DSt) (Z : Nat → Prop) (w : World) (e : Ending) (w' : World) : Prop :=
  e = .returned (.bool true) ∧ (∃ q1 q2 q3 q4, Sj w0 w' xb b br s' q1 q2 q3 q4 Z) ∧ Only (fun k => ¬ Z k) w w'
set_option maxHeartbeats 8000000 in
theorem stepOp {w0 w : World} {xb b br : Nat} {s : DSt} {p1 p2 p3 p4 : Option Addr} {Z : Nat → Prop} (h : Sj w0 w xb b br s p1 p2 p3 p4 Z) (hg : ETy w) (hS : Sane s) (hC : Coh s) (ht : (readT s 1).size ≤ 9223372036854775807) (hp : s.pend.length ≤ 40000000) (ha : s.acts.length ≤ 40000000) (hL : 18 ≤ s.last.length) {n : Nat} {H : List Int} {ok : Bool} {s' : DSt} {er : Int} {ag has : Bool} (hR : RHP (readT s 1) (s.last.length : Int) (n : Int) H ok) (hnn : n < 4294967296) (hO : OR s n H ok s' er ag has) (on i : Int) (x : ByteArray) (l1 l2 l3 : Option Addr) (n1 n2 n3 m1 m2 m3 : Nat) (hi : I64 i) :
    Calls Tryz.prog 8 #[.pointer (some ⟨xb, 0, none⟩), .agg #[.int .i64 6, .int .i64 on, .int .i64 i, .string x, .slice l1 n1 m1, .slice l2 n2 m2, .slice l3 n3 m3]] w (StQ w0 xb b br s' Z w) := by
  obtain ⟨go, hgo⟩ : ∃ z, w.heap.size = z := ⟨_, rfl⟩
  obtain ⟨x0, hx0⟩ : ∃ z, w.alloc (.cells #[.int .i64 6, .int .i64 on, .int .i64 i, .string x, .slice l1 n1 m1, .slice l2 n2 m2, .slice l3 n3 m3] 41) = z := ⟨_, rfl⟩
  have B0 : Blk x0 go #[.int .i64 6, .int .i64 on, .int .i64 i, .string x, .slice l1 n1 m1, .slice l2 n2 m2, .slice l3 n3 m3] 41 := by rw [← hx0, ← hgo]; exact Blk.new w _ _
  have hb0 : Below w.heap.size w x0 := by rw [← hx0]; exact (Below.refl _ _).alloc (Nat.le_refl _) _
  have hS0 := h.below hb0
  have h0 : Sd w0 x0 xb b br s s #[.pointer (some ⟨b, 0, none⟩), .pointer (some ⟨br, 0, none⟩), .pointer p1, .pointer p2, .pointer p3, .pointer p4] (fun k => (Z k ∨ Js p1 p2 p3 p4 k) ∨ k = go) := h.sd.more hb0 (fun k q => q.imp_right (fun e => by rw [e]; exact ⟨by omega, B0.lt⟩))
  have hg0 : ETy x0 := hg.below hb0 hg.lt
  have k0 : x0.cell? ⟨go, 0, none⟩ = some (.int .i64 6) := B0.cell 0
  have c0 : x0.cell? ⟨xb, 0, none⟩ = some (.pointer (some ⟨b, 0, none⟩)) := h0.blk.cell 0
  have HO1 := hide (h0.openP hg0 hS ht (by omega) (by omega) hR hO)
  have HR := hide hR
  have HOR := hide hO
  have HBO := hide hb0
  have HNN := hide hnn
  have HXB := hide (show ¬ (Z xb ∨ Js p1 p2 p3 p4 xb) from fun q => h.sd.ne q rfl)
  have H0 := hide (And.intro h0 (And.intro B0 hS0))
  have HPI := hide hi
  have HP := hide (And.intro hS (And.intro hC (And.intro hp (And.intro (show s.acts.length ≤ 100000000 by omega) hL))))
  clear h hg hS hC ht hp ha hL hR hnn hO B0 hb0 hS0 h0 hg0 hi
  cases has
  · as_aux_lemma =>
      go_enter Tryz.func8, Tryz.ntmps8
      go_wp2_with fail
      clear hx0 k0
      refine (unhide HO1).mono ?_
      rintro e x1 ⟨⟨jp, rfl, hJ⟩, h1, hO1⟩
      obtain rfl : jp = none := by
        rcases hJ with ⟨_, q⟩ | ⟨q, _⟩
        · exact q
        · cases q
      have c1 : x1.cell? ⟨xb, 1, none⟩ = some (.pointer (some ⟨br, 0, none⟩)) := h1.blk.cell 1
      have HO2 := hide (h1.openR (unhide HP).1 (unhide HP).2.1 (unhide HP).2.2.1 (unhide HP).2.2.2.1 (unhide HP).2.2.2.2 (unhide HR) (unhide HOR))
      have HOA := hide hO1
      clear h1 hO1 hJ HO1 c0
      go_wp2_with fail
      refine (unhide HO2).mono ?_
      rintro e x2 ⟨⟨sp, rfl, hJ⟩, h2, hO2⟩
      have ee : (er == er) = true := by simp
      have gg : (ag == ag) = true := by simp
      obtain rfl : sp = none := by
        rcases hJ with ⟨_, q⟩ | ⟨q, _⟩
        · exact q
        · cases q
      have hOx : Only (fun k => ¬ (Z k ∨ Js p1 p2 p3 p4 k)) x0 x2 := ((unhide HOA).mono (fun k _ q r => q.1 (.inl r))).trans (hO2.mono (fun k _ q r => q.1 (.inl r))) (fun _ _ q => q)
      have HF := hide (show StQ w0 xb b br s' Z w (.returned (.bool true)) x2 from ⟨rfl, ⟨_, _, _, _, (unhide H0).2.2.disks (h2.more (Below.refl _ _) (fun k q => .inl (.inl q))) hOx⟩, (Only.of_below (P := fun k => ¬ Z k) (unhide HBO)).trans (hOx.mono (fun k _ q r => q (.inl r))) (fun _ _ q => q)⟩)
      clear h2 hO2 hJ HO2 c1 hOx HOA
      go_wp2
      go_ret
      exact unhide HF
  · as_aux_lemma =>
      go_enter Tryz.func8, Tryz.ntmps8
      go_wp2_with fail
      clear hx0 k0
      refine (unhide HO1).mono ?_
      rintro e x1 ⟨⟨jp, rfl, hJ⟩, h1, hO1⟩
      obtain ⟨jb, rfl, hjl, hJb⟩ : ∃ jb, jp = some ⟨jb, 0, none⟩ ∧ x0.heap.size ≤ jb ∧ Jb x1 jb b ((n + 1) % 4294967296) false := by
        rcases hJ with ⟨q, _⟩ | ⟨_, jb, q1, q2, q3⟩
        · cases q
        · exact ⟨jb, q1, q2, q3⟩
      have h1f := h1.fen hJb (by unfold FT; decide) (by decide)
      have B1 := (unhide H0).2.1.only hO1 (fun q => q.1 (.inr rfl))
      have c1 : x1.cell? ⟨xb, 1, none⟩ = some (.pointer (some ⟨br, 0, none⟩)) := h1.blk.cell 1
      have HO2 := hide (h1f.openR (unhide HP).1 (unhide HP).2.1 (unhide HP).2.2.1 (unhide HP).2.2.2.1 (unhide HP).2.2.2.2 (unhide HR) (unhide HOR))
      have HB := hide B1
      have HJ := hide hJb
      have HO1A := hide (And.intro hO1 hjl)
      clear h1 h1f B1 hO1 hJ HO1 c0 hJb hjl
      go_wp2_with fail
      refine (unhide HO2).mono ?_
      rintro e x2 ⟨⟨sp, rfl, hJ⟩, h2, hO2⟩
      have ee : (er == er) = true := by simp
      have gg : (ag == ag) = true := by simp
      obtain ⟨sb, rfl, hsl, hRj⟩ : ∃ jb, sp = some ⟨jb, 0, none⟩ ∧ x1.heap.size ≤ jb ∧ Rj x2 jb br n false := by
        rcases hJ with ⟨q, _⟩ | ⟨_, jb, q1, q2, q3⟩
        · cases q
        · exact ⟨jb, q1, q2, q3⟩
      have h2f := h2.fen hRj (by unfold FT; decide) (by decide)
      have hJ2 : Jb x2 jb b ((n + 1) % 4294967296) false := Blk.only (unhide HJ) hO2 (fun q => q.1 (.inr rfl))
      have B2 := (unhide HB).only hO2 (fun q => q.1 (.inl (.inr rfl)))
      have o2 : x2.cell? ⟨go, 2, none⟩ = some (.int .i64 i) := B2.cell 2
      have HPK := hide (pick5_c i 2 (by decide) (unhide HPI) 2 rfl x2)
      have hpl := pickP_lt i 2 (by decide)
      obtain ⟨q, hq⟩ : ∃ z, pickP i 2 = z := ⟨_, rfl⟩
      rw [hq] at HPK hpl
      have nj : jb ≠ xb := h2f.ne (.inl (.inr rfl))
      have ns : sb ≠ xb := h2f.ne (.inr rfl)
      have hO1 := (unhide HO1A).1
      have hjl := (unhide HO1A).2
      clear hJ HO2 c1 HB HJ HO1A B2 hq
      have hq01 : q = 0 ∨ q = 1 := by omega
      clear hpl
      rcases hq01 with rfl | rfl
      · as_aux_lemma =>
          have d2 : x2.cell? ⟨xb, 2, none⟩ = some (.pointer p1) := h2.blk.cell 2
          have f2 : x2.frozen? ⟨xb, 2, none⟩ = false := h2.blk.frozen 2
          obtain ⟨x3, hx3⟩ : ∃ z, x2.setCell ⟨xb, 2, none⟩ (.pointer (some ⟨jb, 0, none⟩)) = z := ⟨_, rfl⟩
          have h3 := h2f.set 2 (.pointer (some ⟨jb, 0, none⟩))
          rw [hx3] at h3
          have d3x : x3.cell? ⟨xb, 3, none⟩ = some (.pointer p2) := h3.blk.cell 3
          have f3x : x3.frozen? ⟨xb, 3, none⟩ = false := h3.blk.frozen 3
          obtain ⟨x4, hx4⟩ : ∃ z, x3.setCell ⟨xb, 3, none⟩ (.pointer (some ⟨sb, 0, none⟩)) = z := ⟨_, rfl⟩
          have h4 := h3.set 3 (.pointer (some ⟨sb, 0, none⟩))
          rw [hx4] at h4
          have hO3 : Only (fun k => k = xb) x2 x4 := by
            rw [← hx4, ← hx3]
            exact ((Only.refl (fun k => k = xb) x2).setCell ⟨xb, 2, none⟩ _ (fun _ => rfl)).setCell ⟨xb, 3, none⟩ _ (fun _ => rfl)
          have hOx : Only (fun k => ¬ (Z k ∨ Js p1 p2 p3 p4 k)) x0 x4 := ((hO1.mono (fun k _ q r => q.1 (.inl r))).trans (hO2.mono (fun k _ q r => q.1 (.inl (.inl r)))) (fun _ _ q => q)).trans hO3 (fun k _ e r => by rw [e] at r; exact (unhide HXB) r)
          have hSj := (unhide H0).2.2.opened0 (h4.more (Below.refl _ _) (fun k q => .inl (by
            rcases q with (q | q) | q
            · exact .inl (.inl (.inl q))
            · exact .inl (.inr q)
            · exact .inr q))) hOx (Blk.only hJ2 hO3 (fun q => nj q)) (Blk.only hRj hO3 (fun q => ns q)) (unhide HNN) hjl (Nat.le_trans hO1.size hsl)
          have HF := hide (show StQ w0 xb b br s' Z w (.returned (.bool true)) x4 from ⟨rfl, ⟨_, _, _, _, hSj⟩, (Only.of_below (P := fun k => ¬ Z k) (unhide HBO)).trans (hOx.mono (fun k _ q r => q (.inl r))) (fun _ _ q => q)⟩)
          clear h2 h2f hO1 hO2 hRj hJ2 nj ns h3 h4 hO3 hOx hSj hjl hsl
          go_wp2_with fail
          refine (unhide HPK).mono ?_
          rintro e y ⟨rfl, hy⟩
          subst y
          clear HPK
          go_wp2
          go_ret
          exact unhide HF
      · as_aux_lemma =>
          have d2 : x2.cell? ⟨xb, 4, none⟩ = some (.pointer p3) := h2.blk.cell 4
          have f2 : x2.frozen? ⟨xb, 4, none⟩ = false := h2.blk.frozen 4
          obtain ⟨x3, hx3⟩ : ∃ z, x2.setCell ⟨xb, 4, none⟩ (.pointer (some ⟨jb, 0, none⟩)) = z := ⟨_, rfl⟩
          have h3 := h2f.set 4 (.pointer (some ⟨jb, 0, none⟩))
          rw [hx3] at h3
          have d3x : x3.cell? ⟨xb, 5, none⟩ = some (.pointer p4) := h3.blk.cell 5
          have f3x : x3.frozen? ⟨xb, 5, none⟩ = false := h3.blk.frozen 5
          obtain ⟨x4, hx4⟩ : ∃ z, x3.setCell ⟨xb, 5, none⟩ (.pointer (some ⟨sb, 0, none⟩)) = z := ⟨_, rfl⟩
          have h4 := h3.set 5 (.pointer (some ⟨sb, 0, none⟩))
          rw [hx4] at h4
          have hO3 : Only (fun k => k = xb) x2 x4 := by
            rw [← hx4, ← hx3]
            exact ((Only.refl (fun k => k = xb) x2).setCell ⟨xb, 4, none⟩ _ (fun _ => rfl)).setCell ⟨xb, 5, none⟩ _ (fun _ => rfl)
          have hOx : Only (fun k => ¬ (Z k ∨ Js p1 p2 p3 p4 k)) x0 x4 := ((hO1.mono (fun k _ q r => q.1 (.inl r))).trans (hO2.mono (fun k _ q r => q.1 (.inl (.inl r)))) (fun _ _ q => q)).trans hO3 (fun k _ e r => by rw [e] at r; exact (unhide HXB) r)
          have hSj := (unhide H0).2.2.opened1 (h4.more (Below.refl _ _) (fun k q => .inl (by
            rcases q with (q | q) | q
            · exact .inl (.inl (.inl q))
            · exact .inl (.inr q)
            · exact .inr q))) hOx (Blk.only hJ2 hO3 (fun q => nj q)) (Blk.only hRj hO3 (fun q => ns q)) (unhide HNN) hjl (Nat.le_trans hO1.size hsl)
          have HF := hide (show StQ w0 xb b br s' Z w (.returned (.bool true)) x4 from ⟨rfl, ⟨_, _, _, _, hSj⟩, (Only.of_below (P := fun k => ¬ Z k) (unhide HBO)).trans (hOx.mono (fun k _ q r => q (.inl r))) (fun _ _ q => q)⟩)
          clear h2 h2f hO1 hO2 hRj hJ2 nj ns h3 h4 hO3 hOx hSj hjl hsl
          go_wp2_with fail
          refine (unhide HPK).mono ?_
          rintro e y ⟨rfl, hy⟩
          subst y
          clear HPK
          go_wp2
          go_ret
          exact unhide HF
end Go.Proofs.YtffiaogbphgmgaaGreatDoor
