import Derived.Test.YtnfdedolgfcmfaaGreatDoorMrc16
namespace Go.Proofs.YtnfdedolgfcmfaaGreatDoor
open Go.RowKit
set_option maxRecDepth 100000
/-- the sectors that a frame makes of those that a replica has -/
def tkM (l : List ByteArray) (s : ByteArray) : List ByteArray := lyL (if frK s = 2 then l else List.replicate (frZ s) (zR 256)) (frW (fq7 s) (frN s)) (frN s)
/-- its word -/
noncomputable def rwd (N : Nat) (l : List ByteArray) : ByteArray := wdB (if N = 0 then 0 else 1) N (if N = 0 then zR 32 else rt l)
set_option maxHeartbeats 8000000 in
/-- Take of what is no frame. -/
theorem ytake_no (w : World) (b N : Nat) (l : List ByteArray) (hR : Rp w b N l) (s : ByteArray) (hs : s.size ≤ 140737488355000) (hg : ETy w) (hno : ¬ frOk s) : Calls Tryz.prog 16 #[.pointer (some ⟨b, 0, none⟩), .string s] w fun e w' => e = .returned (.tuple #[.string ⟨#[]⟩, .int .i64 221]) ∧ Rp w' b N l ∧ Below w.heap.size w w' := by
  have HRF := hide (yreadFrame_any s hs w hg)
  have HR := hide hR
  have HNO := hide hno
  clear hR hno hg hs
  go_enter Tryz.func16, Tryz.ntmps16
  go_wp2_with fail
  refine (unhide HRF).mono ?_
  rintro e y ⟨hb, h1, _⟩
  obtain rfl := h1 (unhide HNO)
  have HB := hide (show Below w.heap.size w (y.alloc (Obj.cells #[.int .i64 0, .int .i64 0, .int .i64 0, .int .i64 0, .string ⟨#[]⟩, .slice none 0 0] 97)) from hb.alloc hb.size _)
  have HRY := hide ((unhide HR).below (unhide HB))
  clear hb h1 HRF
  go_wp2
  go_ret2
  exact ⟨rfl, unhide HRY, unhide HB⟩
set_option maxHeartbeats 8000000 in
/-- Take of a frame. -/
theorem ytake_old (w : World) (b N : Nat) (l : List ByteArray) (hR : Rp w b N l) (hN : N < 65536) (s : ByteArray) (hs : s.size ≤ 140737488355000) (hg : ETy w) (hK : KTab w) (hT : Sht l) (hm : l.length ≤ 65536) (hok : frOk s) (hold : frT s ≤ N) : Calls Tryz.prog 16 #[.pointer (some ⟨b, 0, none⟩), .string s] w fun e w' => e = .returned (.tuple #[.string (rwd N l), .int .i64 223]) ∧ Rp w' b N l ∧ Only (fun q => q = b) w w' := by
  have HRF := hide (yreadFrame_any s hs w hg)
  have HR := hide hR
  have HOK := hide hok
  have HKT := hide (And.intro hK (And.intro hT hm))
  obtain ⟨k, hk⟩ : ∃ q, frK s = q := ⟨_, rfl⟩
  obtain ⟨z, hz⟩ : ∃ q, frZ s = q := ⟨_, rfl⟩
  obtain ⟨f, hf⟩ : ∃ q, frF s = q := ⟨_, rfl⟩
  obtain ⟨t, ht⟩ : ∃ q, frT s = q := ⟨_, rfl⟩
  obtain ⟨r, hr⟩ : ∃ q, frR s = q := ⟨_, rfl⟩
  obtain ⟨n, hn⟩ : ∃ q, frN s = q := ⟨_, rfl⟩
  rw [hk, hz, hf, ht, hr, hn] at HRF
  rw [ht] at hold
  obtain ⟨V, hV⟩ : ∃ q, rwd N l = q := ⟨_, rfl⟩
  rw [hV]
  have HV := hide hV
  clear hR hok hg hs hK hT hm hk hz hf ht hr hn hV
  go_enter Tryz.func16, Tryz.ntmps16
  go_wp2_with fail
  refine (unhide HRF).mono ?_
  rintro e y ⟨hb, _, h2⟩
  obtain ⟨p, c, rfl, hsw⟩ := h2 (unhide HOK)
  have hB6 := Blk.new y 97 #[.int .i64 (k : Int), .int .i64 (z : Int), .int .i64 (f : Int), .int .i64 (t : Int), .string r, .slice p n c]
  have hbx : Below w.heap.size w (y.alloc (Obj.cells #[.int .i64 (k : Int), .int .i64 (z : Int), .int .i64 (f : Int), .int .i64 (t : Int), .string r, .slice p n c] 97)) := hb.alloc hb.size _
  obtain ⟨x, hx⟩ : ∃ q, y.alloc (Obj.cells #[.int .i64 (k : Int), .int .i64 (z : Int), .int .i64 (f : Int), .int .i64 (t : Int), .string r, .slice p n c] 97) = q := ⟨_, rfl⟩
  obtain ⟨h, hh⟩ : ∃ q, y.heap.size = q := ⟨_, rfl⟩
  rw [hx, hh] at hB6
  rw [hx] at hbx
  have HX := hide (And.intro hx hh)
  have hRx := (unhide HR).below hbx
  have HRX := hide hRx
  have hKx : KTab x := (unhide HKT).1.below hbx (unhide HKT).1.1
  have HKX := hide hKx
  obtain ⟨qq, kn, u1, _, _⟩ := hRx
  have b0 : x.cell? ⟨b, 0, none⟩ = some (.int .i64 (N : Int)) := by rw [u1.cell 0]; rfl
  have d3 : x.cell? ⟨h, 3, none⟩ = some (.int .i64 (t : Int)) := by rw [hB6.cell 3]; rfl
  have HO := hide (show Only (fun q => q = b) w x from Only.of_below hbx)
  have HWD := hide (yword_any x.drew b N l (unhide HRX).drew hKx (unhide HKT).2.1 (unhide HKT).2.2)
  obtain ⟨kw, hkw⟩ : ∃ q : Nat, (if N = 0 then 0 else 1) = q := ⟨_, rfl⟩
  obtain ⟨rw9, hrw⟩ : ∃ q, (if N = 0 then zR 32 else rt l) = q := ⟨_, rfl⟩
  have HKW := hide (show kw < 256 ∧ rw9.size ≤ 1000 ∧ wdB kw N rw9 = V from ⟨by rw [← hkw]; by_cases e : N = 0 <;> simp [e], by rw [← hrw]; by_cases e : N = 0 <;> simp [e, zR_size, rt_size], by rw [← hkw, ← hrw]; exact unhide HV⟩)
  rw [hkw, hrw] at HWD
  unfold wdV at HWD
  have hge : (t : Int) ≤ (N : Int) := by omega
  clear hkw hrw
  clear hb h2 hsw hB6 hbx hx hh hKx u1 HRF
  go_wp2_with (rw [(unhide HX).1, (unhide HX).2])
  refine wp_region_held_drew (S := fun W => W.cell? ⟨b, 0, none⟩ = some (.int .i64 (N : Int)) ∧ W.cell? ⟨h, 3, none⟩ = some (.int .i64 (t : Int))) (by kernel_rfl) ⟨b0, d3⟩ ?_
  intro hS
  refine wpAnyH_takeD 0 (some 16) (.pointer (some ⟨b, 0, none⟩)) rfl rfl (by kernel_rfl) (by kernel_rfl) (by kernel_rfl) (fun _ _ _ h => h) (Or.inl ⟨by rfl, fun w hSw => by obtain ⟨q1, q2⟩ := hSw; go_simp; try (intro hbad; omega)⟩) hS ?_
  simp only [Act.put, List.setIfInBounds_toArray, List.set_cons_zero, List.set_cons_succ]
  refine wpAnyH_takeD 1 (some 17) (.pointer (some ⟨b, 0, none⟩)) rfl rfl (by kernel_rfl) (by kernel_rfl) (by kernel_rfl) (fun _ _ _ h => h) (Or.inl ⟨by rfl, fun w hSw => by obtain ⟨q1, q2⟩ := hSw; go_simp; try (intro hbad; omega)⟩) hS ?_
  simp only [Act.put, List.setIfInBounds_toArray, List.set_cons_zero, List.set_cons_succ]
  refine wpAnyH_takeD 2 (some 18) (.pointer (some ⟨b, 0, none⟩)) rfl rfl (by kernel_rfl) (by kernel_rfl) (by kernel_rfl) (fun _ _ _ h => h) (Or.inl ⟨by rfl, fun w hSw => by obtain ⟨q1, q2⟩ := hSw; go_simp; try (intro hbad; omega)⟩) hS ?_
  simp only [Act.put, List.setIfInBounds_toArray, List.set_cons_zero, List.set_cons_succ]
  refine wpAnyH_takeD 3 (some 19) (.int .i64 (N : Int)) rfl rfl (by kernel_rfl) (by kernel_rfl) (by kernel_rfl) (fun _ _ _ h => h) (Or.inl ⟨by rfl, fun w hSw => by obtain ⟨q1, q2⟩ := hSw; go_simp; try (intro hbad; omega)⟩) hS ?_
  simp only [Act.put, List.setIfInBounds_toArray, List.set_cons_zero, List.set_cons_succ]
  refine wpAnyH_takeD 4 (some 20) (.pointer (some ⟨h, 3, none⟩)) rfl rfl (by kernel_rfl) (by kernel_rfl) (by kernel_rfl) (fun _ _ _ h => h) (Or.inl ⟨by rfl, fun w hSw => by obtain ⟨q1, q2⟩ := hSw; go_simp; try (intro hbad; omega)⟩) hS ?_
  simp only [Act.put, List.setIfInBounds_toArray, List.set_cons_zero, List.set_cons_succ]
  refine wpAnyH_takeD 5 (some 21) (.int .i64 (t : Int)) rfl rfl (by kernel_rfl) (by kernel_rfl) (by kernel_rfl) (fun _ _ _ h => h) (Or.inl ⟨by rfl, fun w hSw => by obtain ⟨q1, q2⟩ := hSw; go_simp; try (intro hbad; omega)⟩) hS ?_
  simp only [Act.put, List.setIfInBounds_toArray, List.set_cons_zero, List.set_cons_succ]
  refine wpAnyH_takeD 6 (some 22) (.bool true) rfl rfl (by kernel_rfl) (by kernel_rfl) (by kernel_rfl) (fun _ _ _ h => h) (Or.inl ⟨by rfl, fun w hSw => by obtain ⟨q1, q2⟩ := hSw; go_simp; try (intro hbad; omega)⟩) hS ?_
  simp only [Act.put, List.setIfInBounds_toArray, List.set_cons_zero, List.set_cons_succ]
  refine wpAnyH_done (by kernel_rfl) ?_ _
  clear b0 d3 hS
  go_wp2_with fail
  refine (unhide HWD).mono ?_
  rintro e y2 ⟨rfl, hr2, ho2⟩
  have hon : Only (fun q => q = b) x y2 := ⟨⟨ho2.1.os, ho2.1.tape, ho2.1.output, ho2.1.size, ho2.1.block⟩, ho2.2⟩
  have HR2 := hide (And.intro hr2 ((unhide HO).trans hon (fun _ _ q => q)))
  have HWT := hide (ywordText_any kw N rw9 (unhide HKW).1 (by omega) (unhide HKW).2.1 y2)
  rw [(unhide HKW).2.2] at HWT
  clear hr2 ho2 hon HWD
  go_wp2_with fail
  refine (unhide HWT).mono ?_
  rintro e y3 ⟨rfl, hb3⟩
  have HF := hide (show Rp y3 b N l ∧ Only (fun q => q = b) w y3 from ⟨(unhide HR2).1.below hb3, (unhide HR2).2.trans (Only.of_below (P := fun q => q = b) hb3) (fun _ _ q => q)⟩)
  clear hb3 HWT
  go_wp2
  go_ret2
  exact ⟨rfl, (unhide HF).1, (unhide HF).2⟩
end Go.Proofs.YtnfdedolgfcmfaaGreatDoor

namespace Go.Proofs.YtnfdedolgfcmfaaGreatDoor
open Go.RowKit
set_option maxRecDepth 100000
theorem Rp.only {w w' : World} {b N : Nat} {l : List ByteArray} {P : Nat → Prop} (h : Rp w b N l) (ho : Only P w w') (hb : ¬ P b) (hP : ∀ k c, P k → ¬ Blk w k c 9) : Rp w' b N l := by
  obtain ⟨q, kn, h1, h2, h3⟩ := h
  refine ⟨q, kn, h1.only ho hb, h2, fun hn => ?_⟩
  obtain ⟨g, e, h4, h5⟩ := h3 hn
  exact ⟨g, e, h4.only ho (fun q => hP g _ q h4), h5⟩
theorem KTab.only6 {w w' : World} {P : Nat → Prop} (h : KTab w) (ho : Only P w w') (hp : ¬ P 2) : KTab w' := ⟨Nat.lt_of_lt_of_le h.1 ho.size, fun j hj => (World.cell?_of_block (a := ⟨2, j, none⟩) (ho.2 2 h.1 hp)).trans (h.2 j hj)⟩
theorem KTab.ne {w : World} {b : Nat} {cur : Array Value} {S : TypeId} (h : KTab w) (hB : Blk w b cur S) (hc : cur[0]? ≠ some (.int .u32 (kWords.getD 0 0))) : 2 ≠ b := fun e => by
  have q := hB.cell 0
  have q2 := h.2 0 (by decide)
  rw [e] at q2
  exact hc (q.symm.trans q2)
noncomputable def tkF : Code := dropSeq 6 ((Tryz.f16.body).getD .skip)
set_option maxHeartbeats 8000000 in
theorem tkF_walk (w0 : World) (b N h h8 k z f t n c : Nat) (r : ByteArray) (p : Option Addr) (l M : List ByteArray) (hR : Rp w0 b N l) (hB6 : Blk w0 h #[.int .i64 (k : Int), .int .i64 (z : Int), .int .i64 (f : Int), .int .i64 (t : Int), .string r, .slice p n c] 97) (hSd : Sd w0 h8 M) (hK : KTab w0) (hT : Sht M) (hm : M.length ≤ 65536) (ht : t ≠ 0) (ht9 : t < 65536) (Q : Ending → World → Prop)
    (hQ1 : rt M ≠ r → ∀ w', Rp w' b N l → Only (fun q => q = h8) w0 w' → Q (.returned (.tuple #[.string ⟨#[]⟩, .int .i64 225])) w')
    (hQ2 : rt M = r → ∀ w', Rp w' b t M → Only (fun q => q = b ∨ q = h8) w0 w' → Q (.returned (.tuple #[.string (wdB 1 t (rt M)), .int .i64 0])) w') (t1 t2 t3 t4 t5 t7 t9 t10 t11 t12 t13 t14 t15 t16 t17 t18 t19 t20 t21 t22 t23 t24 t25 t26 t27 t28 t29 t30 t31 t32 t33 t34 t35 t36 t37 t38 t39 t40 t41 t42 t43 t44 t45 t46 t47 t48 t49 t50 t51 t52 t53 t54 t55 t56 t57 t58 t59 t60 t61 : Value) :
    Code.wp Tryz.prog tkF (bodyPost Tryz.prog Tryz.f16 Q) ⟨#[.pointer (some ⟨b, 0, none⟩), t1, t2, t3, t4, t5, .pointer (some ⟨h, 0, none⟩), t7, .pointer (some ⟨h8, 0, none⟩), t9, t10, t11, t12, t13, t14, t15, t16, t17, t18, t19, t20, t21, t22, t23, t24, t25, t26, t27, t28, t29, t30, t31, t32, t33, t34, t35, t36, t37, t38, t39, t40, t41, t42, t43, t44, t45, t46, t47, t48, t49, t50, t51, t52, t53, t54, t55, t56, t57, t58, t59, t60, t61], []⟩ w0 := by
  conv => arg 2; whnf
  have c4 : w0.drew.cell? ⟨h, 4, none⟩ = some (.string r) := by
    have := hB6.cell 4
    exact this.trans rfl
  have hSdD : Sd w0.drew h8 M := hSd.below ((Below.refl _ w0).drew)
  have HRT := hide (yroot_any w0.drew h8 M hSdD (hK.below (Below.refl _ w0).drew hK.1) hT hm)
  have hb8 : b ≠ h8 := by
    obtain ⟨_, _, k1, _, _⟩ := hR
    obtain ⟨_, _, k2, _, _⟩ := hSd
    exact k1.tyne k2 (by decide)
  have hh8 : h ≠ h8 := by
    obtain ⟨_, _, k2, _, _⟩ := hSd
    exact hB6.tyne k2 (by decide)
  have hhb : h ≠ b := by
    obtain ⟨_, _, k1, _, _⟩ := hR
    exact hB6.tyne k1 (by decide)
  have hvb : 2 ≠ b := by
    obtain ⟨_, _, k1, _, _⟩ := hR
    exact hK.ne k1 (by simp)
  have hv8 : 2 ≠ h8 := by
    obtain ⟨_, _, k2, _, _⟩ := hSd
    exact hK.ne k2 (by simp)
  have hnine : ∀ kk cc, kk = h8 → ¬ Blk w0 kk cc 9 := by
    obtain ⟨_, _, k2, _, _⟩ := hSd
    intro kk cc e hbk
    subst e
    exact absurd rfl (k2.tyne hbk (by decide))
  obtain ⟨R, hRR⟩ : ∃ q, rt M = q := ⟨_, rfl⟩
  have hR32 : R.size = 32 := by rw [← hRR]; exact rt_size M
  rw [hRR] at HRT hQ1 hQ2
  have HX := hide (show ∀ y, Sd y h8 M → Only (fun k => k = h8) w0.drew y → ∃ (kn0 : ByteArray) (q0 : Option Addr) (g8 l0 : Nat) (kn : ByteArray), (y.cell? ⟨h, 4, none⟩ = some (.string r) ∧ y.cell? ⟨h, 3, none⟩ = some (.int .i64 (t : Int)) ∧ y.cell? ⟨h8, 0, none⟩ = some (.slice (some ⟨g8, 0, none⟩) M.length M.length) ∧ y.cell? ⟨h8, 1, none⟩ = some (.string kn) ∧ y.frozen? ⟨b, 0, none⟩ = false ∧ y.frozen? ⟨b, 1, none⟩ = false ∧ y.frozen? ⟨b, 2, none⟩ = false ∧ y.cell? ⟨b, 0, none⟩ = some (.int .i64 (N : Int)) ∧ y.cell? ⟨b, 1, none⟩ = some (.slice q0 l.length l.length) ∧ y.cell? ⟨b, 2, none⟩ = some (.string kn0)) ∧ Rp y b N l ∧ Only (fun q => q = h8) w0 y ∧ Hid (Rp (((y.setCell ⟨b, 0, none⟩ (.int .i64 (t : Int))).setCell ⟨b, 1, none⟩ (.slice (some ⟨g8, 0, none⟩) M.length M.length)).setCell ⟨b, 2, none⟩ (.string kn)) b t M ∧ Only (fun q => q = b ∨ q = h8) w0 (((y.setCell ⟨b, 0, none⟩ (.int .i64 (t : Int))).setCell ⟨b, 1, none⟩ (.slice (some ⟨g8, 0, none⟩) M.length M.length)).setCell ⟨b, 2, none⟩ (.string kn)) ∧ KTab (((y.setCell ⟨b, 0, none⟩ (.int .i64 (t : Int))).setCell ⟨b, 1, none⟩ (.slice (some ⟨g8, 0, none⟩) M.length M.length)).setCell ⟨b, 2, none⟩ (.string kn))) from fun y hsd ho => by
    have hon : Only (fun k => k = h8) w0 y := ⟨⟨ho.1.os, ho.1.tape, ho.1.output, ho.1.size, ho.1.block⟩, ho.2⟩
    have hRy := hR.only hon hb8 hnine
    have h6y := hB6.only hon hh8
    obtain ⟨g8, kn, k1, k2, k3⟩ := hsd
    obtain ⟨q0, kn0, m1, m2, m3⟩ := hRy
    have hg8b : g8 ≠ b := k2.tyne m1 (by decide)
    refine ⟨kn0, q0, g8, 0, kn, ⟨by rw [h6y.cell 4]; rfl, by rw [h6y.cell 3]; rfl, by rw [k1.cell 0]; rfl, by rw [k1.cell 1]; rfl, m1.frozen 0, m1.frozen 1, m1.frozen 2, by rw [m1.cell 0]; rfl, by rw [m1.cell 1]; rfl, by rw [m1.cell 2]; rfl⟩, ⟨q0, kn0, m1, m2, m3⟩, hon, hide ⟨⟨some ⟨g8, 0, none⟩, kn, ((m1.set 0 _).set 1 _).set 2 _, fun e => absurd e ht, fun _ => ⟨g8, rfl, ((k2.other ⟨b, 0, none⟩ _ (fun e => hg8b e.symm)).other ⟨b, 1, none⟩ _ (fun e => hg8b e.symm)).other ⟨b, 2, none⟩ _ (fun e => hg8b e.symm), k3⟩⟩, ?_, ?_⟩⟩
    · exact (((hon.mono (Q := fun q => q = b ∨ q = h8) (fun _ _ e => .inr e)).setCell ⟨b, 0, none⟩ _ (fun _ => .inl rfl)).setCell ⟨b, 1, none⟩ _ (fun _ => .inl rfl)).setCell ⟨b, 2, none⟩ _ (fun _ => .inl rfl)
    · exact hK.only6 (((hon.mono (Q := fun q => q = b ∨ q = h8) (fun _ _ e => .inr e)).setCell ⟨b, 0, none⟩ _ (fun _ => .inl rfl)).setCell ⟨b, 1, none⟩ _ (fun _ => .inl rfl) |>.setCell ⟨b, 2, none⟩ _ (fun _ => .inl rfl)) (by rintro (e | e); exact hvb e; exact hv8 e))
  have HQ1 := hide hQ1
  have HQ2 := hide hQ2
  have HTN := hide ht
  have ht10 : t < 4294967296 := by omega
  have hR33 : R.size ≤ 1000 := by omega
  have HTM := hide (And.intro hT (And.intro hm (And.intro ht9 (And.intro hRR hR32))))
  clear hQ1 hQ2 hR hB6 hSd hSdD hK hT hm hnine hRR hR32 ht ht9
  by_cases hne : R = r
  · subst hne
    go_wp2_with fail
    refine wp_region_held_drew (S := fun W => W.cell? ⟨h, 4, none⟩ = some (.string R)) (by kernel_rfl) (by exact c4) ?_
    intro hS
    refine wpAnyH_takeD 1 (some 47) (.pointer (some ⟨h, 4, none⟩)) rfl rfl (by kernel_rfl) (by kernel_rfl) (by kernel_rfl) (fun _ _ _ h => h) (Or.inl ⟨by rfl, fun w hSw => by have q1 := hSw; go_simp⟩) hS ?_
    simp only [Act.put, List.setIfInBounds_toArray, List.set_cons_zero, List.set_cons_succ]
    refine wpAnyH_takeD 2 (some 48) (.string R) rfl rfl (by kernel_rfl) (by kernel_rfl) (by kernel_rfl) (fun _ _ _ h => h) (Or.inl ⟨by rfl, fun w hSw => by have q1 := hSw; go_simp⟩) hS ?_
    simp only [Act.put, List.setIfInBounds_toArray, List.set_cons_zero, List.set_cons_succ]
    refine wpAnyH_ready (rs := [0]) (by kernel_rfl) (by simp) ?_
    refine AllReadyH.cons rfl (fun K hK => ?_) AllReadyH.nil
    simp only [List.getElem_toArray, List.getElem_cons_zero]
    go_simp
    refine (unhide HRT).mono ?_
    rintro e y ⟨rfl, hsd, ho⟩
    have HY := unhide HX y hsd ho
    clear hsd ho
    obtain ⟨kn0, q0, g8, l0, kn, ⟨y4, y3, u0, u1, f0, f1, f2, z0, z1, z2⟩, HYR⟩ := HY
    refine hK.out _ _ y4 (fun hS => ?_)
    clear hK K
    refine wpAnyH_takeD 3 (some 49) (.bool false) rfl rfl (by kernel_rfl) (by kernel_rfl) (by kernel_rfl) (fun _ _ _ h => h) (Or.inl ⟨by rfl, fun w hSw => by have q1 := hSw; go_simp⟩) hS ?_
    simp only [Act.put, List.setIfInBounds_toArray, List.set_cons_zero, List.set_cons_succ]
    refine wpAnyH_done (by kernel_rfl) ?_ _
    clear hS HRT HX c4 HQ1 y4
    obtain ⟨hRn, hOn, hKn⟩ := unhide HYR.2.2
    obtain ⟨wn, hwn⟩ : ∃ q, (((y.setCell ⟨b, 0, none⟩ (.int .i64 (t : Int))).setCell ⟨b, 1, none⟩ (.slice (some ⟨g8, 0, none⟩) M.length M.length)).setCell ⟨b, 2, none⟩ (.string kn)) = q := ⟨_, rfl⟩
    rw [hwn] at hRn hOn hKn
    have HWD := hide (yword_any wn b t M hRn hKn (unhide HTM).1 (unhide HTM).2.1)
    rw [if_neg (unhide HTN), if_neg (unhide HTN), (unhide HTM).2.2.2.1] at HWD
    unfold wdV at HWD
    have HON := hide hOn
    have HWN := hide hwn
    clear hRn hOn hKn hwn HYR
    go_wp2_with fail
    rw [unhide HWN]
    refine (unhide HWD).mono ?_
    rintro e y5 ⟨rfl, hr5, ho5⟩
    have HF := hide (And.intro hr5 ((unhide HON).trans ho5 (fun _ _ q => .inl q)))
    have HWT := hide (ywordText_any 1 t R (by decide) ht10 hR33 y5)
    clear hr5 ho5 HON HWD HWN y3 u0 u1 f0 f1 f2 z0 z1 z2
    go_wp2_with fail
    refine (unhide HWT).mono ?_
    rintro e y6 ⟨rfl, hb6⟩
    have HG := hide (unhide HQ2 trivial y6 ((unhide HF).1.below hb6) ((unhide HF).2.trans (Only.of_below (P := fun q => q = b) hb6) (fun _ _ q => .inl q)))
    clear hb6 HWT HF HQ2
    go_wp2
    exact unhide HG
  · have hns := str_ne hne
    go_wp2_with fail
    refine wp_region_held_drew (S := fun W => W.cell? ⟨h, 4, none⟩ = some (.string r)) (by kernel_rfl) (by exact c4) ?_
    intro hS
    refine wpAnyH_takeD 1 (some 47) (.pointer (some ⟨h, 4, none⟩)) rfl rfl (by kernel_rfl) (by kernel_rfl) (by kernel_rfl) (fun _ _ _ h => h) (Or.inl ⟨by rfl, fun w hSw => by have q1 := hSw; go_simp⟩) hS ?_
    simp only [Act.put, List.setIfInBounds_toArray, List.set_cons_zero, List.set_cons_succ]
    refine wpAnyH_takeD 2 (some 48) (.string r) rfl rfl (by kernel_rfl) (by kernel_rfl) (by kernel_rfl) (fun _ _ _ h => h) (Or.inl ⟨by rfl, fun w hSw => by have q1 := hSw; go_simp⟩) hS ?_
    simp only [Act.put, List.setIfInBounds_toArray, List.set_cons_zero, List.set_cons_succ]
    refine wpAnyH_ready (rs := [0]) (by kernel_rfl) (by simp) ?_
    refine AllReadyH.cons rfl (fun K hK => ?_) AllReadyH.nil
    simp only [List.getElem_toArray, List.getElem_cons_zero]
    go_simp
    refine (unhide HRT).mono ?_
    rintro e y ⟨rfl, hsd, ho⟩
    have HY := unhide HX y hsd ho
    clear hsd ho
    obtain ⟨kn0, q0, g8, l0, kn, ⟨y4, y3, u0, u1, f0, f1, f2, z0, z1, z2⟩, HYR⟩ := HY
    refine hK.out _ _ y4 (fun hS => ?_)
    clear hK K
    refine wpAnyH_takeD 3 (some 49) (.bool true) rfl rfl (by kernel_rfl) (by kernel_rfl) (by kernel_rfl) (fun _ _ _ h => h) (Or.inl ⟨by rfl, fun w hSw => by have q1 := hSw; go_simp⟩) hS ?_
    simp only [Act.put, List.setIfInBounds_toArray, List.set_cons_zero, List.set_cons_succ]
    refine wpAnyH_done (by kernel_rfl) ?_ _
    clear hS HRT HX c4 HQ2 y4 y3 u0 u1 f0 f1 f2 z0 z1 z2
    have HF := hide (unhide HQ1 hne _ HYR.1 HYR.2.1)
    go_wp2
    exact unhide HF
end Go.Proofs.YtnfdedolgfcmfaaGreatDoor
