import Derived.Test.YtnfdedolgfcmfaaGreatDoorMrc18
import Derived.Test.YtnfdedolgfcmfaaGreatDoorMrc06
namespace Go.Proofs.YtnfdedolgfcmfaaGreatDoor
open Go.RowKit
set_option maxRecDepth 100000
theorem tlB_le {k z : Int} {L : List (Nat × ByteArray)} : ∀ n, tlB k z L n = true → ∀ j, j < n → ((L.getD j (0, ⟨#[]⟩)).1 : Int) < z
  | 0, _, j, hj => absurd hj (by omega)
  | n + 1, h, j, hj => by
    have h' : (tlB k z L n && decide (tlN L n ≤ (L.getD n (0, ⟨#[]⟩)).1 ∧ ((L.getD n (0, ⟨#[]⟩)).1 : Int) < z ∧ ¬ (k = 1 ∧ (L.getD n (0, ⟨#[]⟩)).2 = zR 256))) = true := h
    rw [Bool.and_eq_true, decide_eq_true_eq] at h'
    rcases Nat.lt_or_ge j n with q | q
    · exact tlB_le n h'.1 j q
    · obtain rfl : j = n := by omega
      exact h'.2.2.1
/-- what a frame has -/
theorem frOk.has {s : ByteArray} (h : frOk s) : (frK s = 1 ∨ frK s = 2) ∧ 128 ≤ frZ s ∧ frZ s ≤ 1024 ∧ frT s ≤ 65535 ∧ frN s ≤ 1024 ∧ (∀ j, j < (frW (fq7 s) (frN s)).length → ((frW (fq7 s) (frN s)).getD j (0, ⟨#[]⟩)).1 < frZ s) ∧ ∀ j, j < (frW (fq7 s) (frN s)).length → ((frW (fq7 s) (frN s)).getD j (0, ⟨#[]⟩)).2.size ≤ 256 := by
  obtain ⟨h1, h2, _, _, h5, h6⟩ := h
  unfold mbB leadB at h6
  simp only [Bool.and_eq_true, decide_eq_true_eq] at h6
  obtain ⟨⟨z1, z2⟩, ⟨k1, k2, k3⟩, tl⟩ := h6
  refine ⟨by omega, z1, z2, by omega, by omega, fun j hj => ?_, fun j hj => ?_⟩
  · have := tlB_le _ tl j hj
    omega
  · rw [frW_len] at hj
    rw [frW_at _ _ j hj]
    show (((frS (fq7 s) j).extract 2 (frS (fq7 s) j).size).extract 0 256).size ≤ 256
    rw [ByteArray.size_extract]
    omega
theorem lyL_sht {M : List ByteArray} {L : List (Nat × ByteArray)} (hM : Sht M) (hL : ∀ j, j < L.length → (L.getD j (0, ⟨#[]⟩)).2.size ≤ 256) : ∀ j, j ≤ L.length → Sht (lyL M L j)
  | 0, _ => hM
  | j + 1, hj => fun i hi => by
    have ih := lyL_sht hM hL j (by omega)
    rw [lyL, List.length_set] at hi
    rw [lyL, List.getD_eq_getElem?_getD, List.getElem?_set]
    split
    · rw [if_pos (by omega)]
      have := hL j (by omega)
      show ((L.getD j (0, ⟨#[]⟩)).2).size ≤ _
      omega
    · have := ih i hi
      rwa [List.getD_eq_getElem?_getD] at this
theorem sht_zero (z : Nat) : Sht (List.replicate z (zR 256)) := fun j hj => by
  rw [List.length_replicate] at hj
  rw [List.getD_eq_getElem?_getD, List.getElem?_replicate, if_pos hj]
  show (zR 256).size ≤ _
  rw [zR_size]
  omega
theorem tkM_sht {l : List ByteArray} {s : ByteArray} (h : frOk s) (hl : Sht l) : Sht (tkM l s) := by
  obtain ⟨_, _, _, _, _, _, h7⟩ := h.has
  refine lyL_sht ?_ h7 _ (by rw [frW_len]; omega)
  split
  · exact hl
  · exact sht_zero _
/-- what a replica answers a text, and what it has behind it -/
noncomputable def tkA (N : Nat) (l : List ByteArray) (s : ByteArray) : ByteArray × Int × Nat × List ByteArray := by
  classical exact if ¬ frOk s then (⟨#[]⟩, 221, N, l) else if frT s ≤ N then (rwd N l, 223, N, l) else if frK s = 2 ∧ ¬ (N = frF s ∧ l.length = frZ s) then (rwd N l, 222, N, l) else if rt (tkM l s) ≠ frR s then (⟨#[]⟩, 225, N, l) else (wdB 1 (frT s) (rt (tkM l s)), 0, frT s, tkM l s)
set_option maxHeartbeats 8000000 in
/-- Take of a frame that is new. -/
theorem ytake_new (w : World) (b N : Nat) (l : List ByteArray) (hR : Rp w b N l) (hN : N < 65536) (s : ByteArray) (hs : s.size ≤ 140737488355000) (hg : ETy w) (hK : KTab w) (hT : Sht l) (hm : l.length ≤ 65536) (hok : frOk s) (hnew : N < frT s) (Q : Ending → World → Prop)
    (hQ0 : frK s = 2 ∧ ¬ (N = frF s ∧ l.length = frZ s) → ∀ w', Rp w' b N l → Only (fun q => q = b) w w' → Q (.returned (.tuple #[.string (rwd N l), .int .i64 222])) w')
    (hQ1 : ¬ (frK s = 2 ∧ ¬ (N = frF s ∧ l.length = frZ s)) → rt (tkM l s) ≠ frR s → ∀ w', Rp w' b N l → Only (fun q => q = b) w w' → Q (.returned (.tuple #[.string ⟨#[]⟩, .int .i64 225])) w')
    (hQ2 : ¬ (frK s = 2 ∧ ¬ (N = frF s ∧ l.length = frZ s)) → rt (tkM l s) = frR s → ∀ w', Rp w' b (frT s) (tkM l s) → Only (fun q => q = b) w w' → Q (.returned (.tuple #[.string (wdB 1 (frT s) (rt (tkM l s))), .int .i64 0])) w') : Calls Tryz.prog 16 #[.pointer (some ⟨b, 0, none⟩), .string s] w Q := by
  have HRF := hide (yreadFrame_any s hs w hg)
  have HR := hide hR
  have HOK := hide hok
  have HKT := hide (And.intro hK (And.intro hT hm))
  have hfacts := hok.has
  have hMT := tkM_sht hok hT
  unfold tkM at hMT hQ1 hQ2
  obtain ⟨k, hk⟩ : ∃ q, frK s = q := ⟨_, rfl⟩
  obtain ⟨z, hz⟩ : ∃ q, frZ s = q := ⟨_, rfl⟩
  obtain ⟨f, hf⟩ : ∃ q, frF s = q := ⟨_, rfl⟩
  obtain ⟨t, ht⟩ : ∃ q, frT s = q := ⟨_, rfl⟩
  obtain ⟨r, hr⟩ : ∃ q, frR s = q := ⟨_, rfl⟩
  obtain ⟨n, hn⟩ : ∃ q, frN s = q := ⟨_, rfl⟩
  rw [hk, hz, hf, ht, hr, hn] at HRF
  rw [hk, hz, ht, hn] at hfacts
  have hLl := frW_len (fq7 s) n
  rw [hk, hz, hf] at hQ0
  rw [hk, hz, hf, hn, hr] at hQ1
  rw [hk, hz, hf, hn, hr, ht] at hQ2
  rw [hk, hz, hn] at hMT
  obtain ⟨L, hL⟩ : ∃ q, frW (fq7 s) n = q := ⟨_, rfl⟩
  rw [hL] at HRF hfacts hLl hQ1 hQ2 hMT
  rw [ht] at hnew
  obtain ⟨V, hV⟩ : ∃ q, rwd N l = q := ⟨_, rfl⟩
  rw [hV] at hQ0
  have HV := hide hV
  have HFA := hide (And.intro hfacts (And.intro hLl hMT))
  have HQ0 := hide hQ0
  have HQ1 := hide hQ1
  have HQ2 := hide hQ2
  clear hR hok hg hs hK hT hm hk hz hf ht hr hn hV hfacts hLl hMT hL hQ0 hQ1 hQ2
  go_enter Tryz.func16, Tryz.ntmps16
  go_wp2_with fail
  refine (unhide HRF).mono ?_
  rintro e y ⟨hb, _, h2⟩
  obtain ⟨p, c, rfl, hsw⟩ := h2 (unhide HOK)
  have hB6 := Blk.new y 97 #[.int .i64 (k : Int), .int .i64 (z : Int), .int .i64 (f : Int), .int .i64 (t : Int), .string r, .slice p n c]
  have hbx : Below w.heap.size w (y.alloc (Obj.cells #[.int .i64 (k : Int), .int .i64 (z : Int), .int .i64 (f : Int), .int .i64 (t : Int), .string r, .slice p n c] 97)) := hb.alloc hb.size _
  have hsx : SWr (y.alloc (Obj.cells #[.int .i64 (k : Int), .int .i64 (z : Int), .int .i64 (f : Int), .int .i64 (t : Int), .string r, .slice p n c] 97)) (y.alloc (Obj.cells #[.int .i64 (k : Int), .int .i64 (z : Int), .int .i64 (f : Int), .int .i64 (t : Int), .string r, .slice p n c] 97)).heap.size p L := fun j hj => by
    obtain ⟨g, o, e, hg, q⟩ := hsw.ups ((Below.refl _ y).alloc (Nat.le_refl _) (Obj.cells #[.int .i64 (k : Int), .int .i64 (z : Int), .int .i64 (f : Int), .int .i64 (t : Int), .string r, .slice p n c] 97)) (Nat.le_refl _) j hj
    exact ⟨g, o, e, Nat.lt_of_lt_of_le hg (by simp), q⟩
  obtain ⟨x, hx⟩ : ∃ q, y.alloc (Obj.cells #[.int .i64 (k : Int), .int .i64 (z : Int), .int .i64 (f : Int), .int .i64 (t : Int), .string r, .slice p n c] 97) = q := ⟨_, rfl⟩
  obtain ⟨h, hh⟩ : ∃ q, y.heap.size = q := ⟨_, rfl⟩
  rw [hx, hh] at hB6
  rw [hx] at hbx hsx
  have HX := hide (And.intro hx hh)
  have hRx := (unhide HR).below hbx
  have hKx : KTab x := (unhide HKT).1.below hbx (unhide HKT).1.1
  have HG := hide (show ∀ y2, Below x.heap.size x y2 → Rp y2 b N l ∧ Blk y2 h #[.int .i64 (k : Int), .int .i64 (z : Int), .int .i64 (f : Int), .int .i64 (t : Int), .string r, .slice p n c] 97 ∧ SWr y2 y2.heap.size p L ∧ KTab y2 ∧ Only (fun q => q = b) w y2 from fun y2 h2 => ⟨hRx.below h2, hB6.below h2 hB6.lt, fun j hj => by
    obtain ⟨g, o, e, hg, q⟩ := hsx.ups h2 (Nat.le_refl _) j hj
    exact ⟨g, o, e, Nat.lt_of_lt_of_le hg h2.size, q⟩, hKx.below h2 hKx.1, (Only.of_below hbx).trans (Only.of_below (P := fun q => q = b) h2) (fun _ _ q => q)⟩)
  obtain ⟨qq, kn, u1, _, _⟩ := hRx
  have b0 : x.cell? ⟨b, 0, none⟩ = some (.int .i64 (N : Int)) := by rw [u1.cell 0]; rfl
  have d0 : x.cell? ⟨h, 0, none⟩ = some (.int .i64 (k : Int)) := by rw [(hB6).cell 0]; rfl
  have d1 : x.cell? ⟨h, 1, none⟩ = some (.int .i64 (z : Int)) := by rw [(hB6).cell 1]; rfl
  have d2 : x.cell? ⟨h, 2, none⟩ = some (.int .i64 (f : Int)) := by rw [(hB6).cell 2]; rfl
  have d3 : x.cell? ⟨h, 3, none⟩ = some (.int .i64 (t : Int)) := by rw [(hB6).cell 3]; rfl
  have d4 : x.cell? ⟨h, 4, none⟩ = some (.string r) := by rw [(hB6).cell 4]; rfl
  have d5 : x.cell? ⟨h, 5, none⟩ = some (.slice p n c) := by rw [(hB6).cell 5]; rfl
  have hdx : Below x.heap.size x x.drew := (Below.refl _ x).drew
  have hge : ¬ (t : Int) ≤ (N : Int) := by omega
  clear hb h2 hsw hB6 hbx hx hh hKx u1 HRF hsx
  go_wp2_with (rw [(unhide HX).1, (unhide HX).2])
  refine wp_region_held_drew (S := fun W => W.cell? ⟨b, 0, none⟩ = some (.int .i64 (N : Int)) ∧ W.cell? ⟨h, 3, none⟩ = some (.int .i64 (t : Int))) (by kernel_rfl) ⟨b0, d3⟩ ?_
  intro hS
  refine wpAnyH_takeD 0 (some 16) (.pointer (some ⟨b, 0, none⟩)) rfl rfl (by kernel_rfl) (by kernel_rfl) (by kernel_rfl) (fun _ _ _ h => h) (Or.inl ⟨by rfl, fun w hSw => by obtain ⟨q1, q2⟩ := hSw; go_simp; try (intro hbad; omega)⟩) hS ?_
  simp only [Act.put, List.setIfInBounds_toArray, List.set_cons_zero, List.set_cons_succ]
  refine wpAnyH_takeD 1 (some 17) (.pointer (some ⟨b, 0, none⟩)) rfl rfl (by kernel_rfl) (by kernel_rfl) (by kernel_rfl) (fun _ _ _ h => h) (Or.inl ⟨by rfl, fun w hSw => by obtain ⟨q1, q2⟩ := hSw; go_simp; try (intro hbad; omega)⟩) hS ?_
  simp only [Act.put, List.setIfInBounds_toArray, List.set_cons_zero, List.set_cons_succ]
  refine wpAnyH_takeD 2 (some 18) (.pointer (some ⟨b, 0, none⟩)) rfl rfl (by kernel_rfl) (by kernel_rfl) (by kernel_rfl) (fun _ _ _ h => h) (Or.inl ⟨by rfl, fun w hSw => by obtain ⟨q1, q2⟩ := hSw; go_simp; try (intro hbad; omega)⟩) hS ?_
  simp only [Act.put, List.setIfInBounds_toArray, List.set_cons_zero, List.set_cons_succ]
  refine wpAnyH_takeD 3 (some 19) (.int .i64 (N : Int)) rfl rfl (by kernel_rfl) (by kernel_rfl) (by kernel_rfl) (fun _ _ _ h => h) (Or.inl ⟨by rfl, fun w hSw => by obtain ⟨q1, q2⟩ := hSw; go_simp; try (intro hbad; omega)⟩) hS ?_
  simp only [Act.put, List.setIfInBounds_toArray, List.set_cons_zero, List.set_cons_succ]
  refine wpAnyH_takeD 4 (some 20) (.pointer (some ⟨h, 3, none⟩)) rfl rfl (by kernel_rfl) (by kernel_rfl) (by kernel_rfl) (fun _ _ _ h => h) (Or.inl ⟨by rfl, fun w hSw => by obtain ⟨q1, q2⟩ := hSw; go_simp; try (intro hbad; omega)⟩) hS ?_
  simp only [Act.put, List.setIfInBounds_toArray, List.set_cons_zero, List.set_cons_succ]
  refine wpAnyH_takeD 5 (some 21) (.int .i64 (t : Int)) rfl rfl (by kernel_rfl) (by kernel_rfl) (by kernel_rfl) (fun _ _ _ h => h) (Or.inl ⟨by rfl, fun w hSw => by obtain ⟨q1, q2⟩ := hSw; go_simp; try (intro hbad; omega)⟩) hS ?_
  simp only [Act.put, List.setIfInBounds_toArray, List.set_cons_zero, List.set_cons_succ]
  refine wpAnyH_takeD 6 (some 22) (.bool false) rfl rfl (by kernel_rfl) (by kernel_rfl) (by kernel_rfl) (fun _ _ _ h => h) (Or.inl ⟨by rfl, fun w hSw => by obtain ⟨q1, q2⟩ := hSw; go_simp; try (intro hbad; omega)⟩) hS ?_
  simp only [Act.put, List.setIfInBounds_toArray, List.set_cons_zero, List.set_cons_succ]
  refine wpAnyH_done (by kernel_rfl) ?_ _
  clear hS b0
  have HWD := hide (show ∀ y2, Below x.heap.size x y2 → Calls Tryz.prog 40 #[.pointer (some ⟨b, 0, none⟩)] y2 fun e w' => e = .returned (wdV (if N = 0 then 0 else 1) N (if N = 0 then zR 32 else rt l)) ∧ Rp w' b N l ∧ Only (fun k => k = b) y2 w' from fun y2 h2 => yword_any y2 b N l (unhide HG y2 h2).1 (unhide HG y2 h2).2.2.2.1 (unhide HKT).2.1 (unhide HKT).2.2)
  obtain ⟨kw, hkw⟩ : ∃ q : Nat, (if N = 0 then 0 else 1) = q := ⟨_, rfl⟩
  obtain ⟨rw9, hrw⟩ : ∃ q, (if N = 0 then zR 32 else rt l) = q := ⟨_, rfl⟩
  have HKW := hide (show kw < 256 ∧ rw9.size ≤ 1000 ∧ wdB kw N rw9 = V from ⟨by rw [← hkw]; by_cases e : N = 0 <;> simp [e], by rw [← hrw]; by_cases e : N = 0 <;> simp [e, zR_size, rt_size], by rw [← hkw, ← hrw]; exact unhide HV⟩)
  rw [hkw, hrw] at HWD
  unfold wdV at HWD
  clear hkw hrw HKT HV HX HOK HR hge
  have HR8 := hide (show ∀ (K : Act → World → Prop) y2, Below x.heap.size x y2 → ¬ (k = 2 ∧ ¬ (N = f ∧ l.length = z)) → (∀ (wx : World) (h8 : Nat) (t1 t2 t3 t4 t5 t7 t9 t10 t11 t12 t13 t14 t15 t16 t17 t18 t19 t20 t21 t22 t23 t24 t25 t26 t27 t28 t29 t30 t31 t32 t33 t34 t35 t36 t37 t38 t39 t40 t41 t42 t43 t44 t45 t46 t47 t48 t49 t50 t51 t52 t53 t54 t55 t56 t57 t58 t59 t60 t61 : Value), Code.wp Tryz.prog tkF (bodyPost Tryz.prog Tryz.f16 Q) ⟨#[.pointer (some ⟨b, 0, none⟩), t1, t2, t3, t4, t5, .pointer (some ⟨h, 0, none⟩), t7, .pointer (some ⟨h8, 0, none⟩), t9, t10, t11, t12, t13, t14, t15, t16, t17, t18, t19, t20, t21, t22, t23, t24, t25, t26, t27, t28, t29, t30, t31, t32, t33, t34, t35, t36, t37, t38, t39, t40, t41, t42, t43, t44, t45, t46, t47, t48, t49, t50, t51, t52, t53, t54, t55, t56, t57, t58, t59, t60, t61], []⟩ wx → K ⟨#[.pointer (some ⟨b, 0, none⟩), t1, t2, t3, t4, t5, .pointer (some ⟨h, 0, none⟩), t7, .pointer (some ⟨h8, 0, none⟩), t9, t10, t11, t12, t13, t14, t15, t16, t17, t18, t19, t20, t21, t22, t23, t24, t25, t26, t27, t28, t29, t30, t31, t32, t33, t34, t35, t36, t37, t38, t39, t40, t41, t42, t43, t44, t45, t46, t47, t48, t49, t50, t51, t52, t53, t54, t55, t56, t57, t58, t59, t60, t61], []⟩ wx) → ∀ (t1 t2 t3 t4 t5 t7 t8 t9 t10 t11 t12 t13 t14 t15 t16 t17 t18 t19 t20 t21 t22 t23 t24 t25 t26 t27 t28 t29 t30 t31 t32 t33 t34 t35 t36 t37 t38 t39 t40 t41 t42 t43 t44 t45 t46 t47 t48 t49 t50 t51 t52 t53 t54 t55 t56 t57 t58 t59 t60 t61 : Value), Code.wp Tryz.prog tkR (Exit.then K (bodyPost Tryz.prog Tryz.f16 Q)) ⟨#[.pointer (some ⟨b, 0, none⟩), t1, t2, t3, t4, t5, .pointer (some ⟨h, 0, none⟩), t7, t8, t9, t10, t11, t12, t13, t14, t15, t16, t17, t18, t19, t20, t21, t22, t23, t24, t25, t26, t27, t28, t29, t30, t31, t32, t33, t34, t35, t36, t37, t38, t39, t40, t41, t42, t43, t44, t45, t46, t47, t48, t49, t50, t51, t52, t53, t54, t55, t56, t57, t58, t59, t60, t61], []⟩ y2 from fun K y2 h2 hnk hKK t1 t2 t3 t4 t5 t7 t8 t9 t10 t11 t12 t13 t14 t15 t16 t17 t18 t19 t20 t21 t22 t23 t24 t25 t26 t27 t28 t29 t30 t31 t32 t33 t34 t35 t36 t37 t38 t39 t40 t41 t42 t43 t44 t45 t46 t47 t48 t49 t50 t51 t52 t53 t54 t55 t56 t57 t58 t59 t60 t61 => by
    obtain ⟨g1, g2, g3, g4, g5⟩ := unhide HG y2 h2
    obtain ⟨⟨f1, f2, f3, f4, f5, f6, f7⟩, f8, f9⟩ := unhide HFA
    have hkz : k = 2 → l.length = z := fun e => by
      by_cases q : N = f ∧ l.length = z
      · exact q.2
      · exact absurd ⟨e, q⟩ hnk
    have hMl : (lyL (if k = 2 then l else List.replicate z (zR 256)) L n).length = z := by
      rw [lyL_len]
      by_cases e : k = 2
      · rw [if_pos e]; exact hkz e
      · rw [if_neg e, List.length_replicate]
    refine tkR_walk y2 b N h k z f t n c r p l L g1 g2 f8 (by omega) (by omega) f3 f6 (fun j hj => Nat.le_trans (f7 j hj) (by omega)) hkz g3 g4 K Q (fun wx h8 q t1 t2 t3 t4 t5 t7 t9 t10 t11 t12 t13 t14 t15 t16 t17 t18 t19 t20 t21 t22 t23 t24 t25 t26 t27 t28 t29 t30 t31 t32 t33 t34 t35 t36 t37 t38 t39 t40 t41 t42 t43 t44 t45 t46 t47 t48 t49 t50 t51 t52 t53 t54 t55 t56 t57 t58 t59 t60 t61 => hKK wx h8 _ _ _ _ _ _ _ _ _ _ _ _ _ _ _ _ _ _ _ _ _ _ _ _ _ _ _ _ _ _ _ _ _ _ _ _ _ _ _ _ _ _ _ _ _ _ _ _ _ _ _ _ _ _ _ _ _ _ _ ?_) _ _ _ _ _ _ _ _ _ _ _ _ _ _ _ _ _ _ _ _ _ _ _ _ _ _ _ _ _ _ _ _ _ _ _ _ _ _ _ _ _ _ _ _ _ _ _ _ _ _ _ _ _ _ _ _ _ _ _ _
    obtain ⟨_, q1, q2, q3, q4, q5, q6⟩ := unhide q
    have hne : b ≠ h8 := fun e => by
      have := g1.lt
      omega
    have hsz := g5.size
    refine tkF_walk wx b N h h8 k z f t n c r p l _ q1 q2 q3 q4 f9 (by omega) (by omega) (by omega) _ (fun hm w' hr ho => unhide HQ1 hnk hm w' hr ?_) (fun hm w' hr ho => unhide HQ2 hnk hm w' hr ?_) _ _ _ _ _ _ _ _ _ _ _ _ _ _ _ _ _ _ _ _ _ _ _ _ _ _ _ _ _ _ _ _ _ _ _ _ _ _ _ _ _ _ _ _ _ _ _ _ _ _ _ _ _ _ _ _ _ _ _
    · exact g5.trans ((Only.of_below (P := fun q => q = b) q6).trans ho (fun kk hkk e => by omega)) (fun kk hkk e => e)
    · exact g5.trans ((Only.of_below (P := fun q => q = b) q6).trans ho (fun kk hkk e => by omega)) (fun kk hkk e => e))
  clear HQ1 HQ2
  by_cases hk2 : k = 2
  · subst hk2
    have HIA := hide (yisAhead_any x.drew b N l (unhide HG _ hdx).1 ((2 : Nat) : Int) z f t r n c p)
    by_cases hah : N = f ∧ l.length = z
    · have e9 : decide ((N : Int) = (f : Int) ∧ (l.length : Int) = (z : Int)) = true := decide_eq_true ⟨by omega, by omega⟩
      rw [e9] at HIA
      go_wp2_with fail
      refine (unhide HIA).mono ?_
      rintro e y2 ⟨rfl, hb2⟩
      have hb3 : Below x.heap.size x y2 := hdx.trans hb2
      clear d0 d1 d2 d3 d4 d5 HIA HWD HQ0
      go_upto_region 8 with fail
      rename_i K9 aK9
      exact unhide HR8 K9 y2 hb3 (fun q => q.2 hah) (fun wx h8 t1 t2 t3 t4 t5 t7 t9 t10 t11 t12 t13 t14 t15 t16 t17 t18 t19 t20 t21 t22 t23 t24 t25 t26 t27 t28 t29 t30 t31 t32 t33 t34 t35 t36 t37 t38 t39 t40 t41 t42 t43 t44 t45 t46 t47 t48 t49 t50 t51 t52 t53 t54 t55 t56 t57 t58 t59 t60 t61 q => aK9 _ _ q) _ _ _ _ _ _ _ _ _ _ _ _ _ _ _ _ _ _ _ _ _ _ _ _ _ _ _ _ _ _ _ _ _ _ _ _ _ _ _ _ _ _ _ _ _ _ _ _ _ _ _ _ _ _ _ _ _ _ _ _
    · have e9 : decide ((N : Int) = (f : Int) ∧ (l.length : Int) = (z : Int)) = false := decide_eq_false (fun q => hah ⟨by omega, by omega⟩)
      rw [e9] at HIA
      clear HR8
      go_wp2_with fail
      refine (unhide HIA).mono ?_
      rintro e y2 ⟨rfl, hb2⟩
      have hb3 : Below x.heap.size x y2 := hdx.trans hb2
      have HO := hide (unhide HG y2 hb3).2.2.2.2
      have HW2 := hide (unhide HWD y2 hb3)
      clear d0 d1 d2 d3 d4 d5 HIA HWD hb2 hb3 HG
      go_wp2_with fail
      refine (unhide HW2).mono ?_
      rintro e y3 ⟨rfl, hr3, ho3⟩
      have HO3 := hide (And.intro hr3 ((unhide HO).trans ho3 (fun _ _ q => q)))
      have HWT := hide (ywordText_any kw N rw9 (unhide HKW).1 (by omega) (unhide HKW).2.1 y3)
      rw [(unhide HKW).2.2] at HWT
      clear hr3 ho3 HO HW2
      go_wp2_with fail
      refine (unhide HWT).mono ?_
      rintro e y4 ⟨rfl, hb4⟩
      have HF := hide (unhide HQ0 ⟨trivial, hah⟩ y4 ((unhide HO3).1.below hb4) ((unhide HO3).2.trans (Only.of_below (P := fun q => q = b) hb4) (fun _ _ q => q)))
      clear hb4 HWT HO3 HQ0
      go_wp2
      exact unhide HF
  · have hk2e : ((k : Int) == 2) = false := by simp; omega
    clear HQ0 HWD
    go_upto_region 8 with fail
    rename_i K9 aK9
    exact unhide HR8 K9 x.drew hdx (fun q => hk2 q.1) (fun wx h8 t1 t2 t3 t4 t5 t7 t9 t10 t11 t12 t13 t14 t15 t16 t17 t18 t19 t20 t21 t22 t23 t24 t25 t26 t27 t28 t29 t30 t31 t32 t33 t34 t35 t36 t37 t38 t39 t40 t41 t42 t43 t44 t45 t46 t47 t48 t49 t50 t51 t52 t53 t54 t55 t56 t57 t58 t59 t60 t61 q => aK9 _ _ q) _ _ _ _ _ _ _ _ _ _ _ _ _ _ _ _ _ _ _ _ _ _ _ _ _ _ _ _ _ _ _ _ _ _ _ _ _ _ _ _ _ _ _ _ _ _ _ _ _ _ _ _ _ _ _ _ _ _ _ _
theorem tkA_no {N : Nat} {l : List ByteArray} {s : ByteArray} (h : ¬ frOk s) : tkA N l s = (⟨#[]⟩, 221, N, l) := by
  unfold tkA
  rw [if_pos h]
theorem tkA_old {N : Nat} {l : List ByteArray} {s : ByteArray} (h : frOk s) (h2 : frT s ≤ N) : tkA N l s = (rwd N l, 223, N, l) := by
  unfold tkA
  rw [if_neg (fun q => q h), if_pos h2]
theorem tkA_gap {N : Nat} {l : List ByteArray} {s : ByteArray} (h : frOk s) (h2 : ¬ frT s ≤ N) (h3 : frK s = 2 ∧ ¬ (N = frF s ∧ l.length = frZ s)) : tkA N l s = (rwd N l, 222, N, l) := by
  unfold tkA
  rw [if_neg (fun q => q h), if_neg h2, if_pos h3]
theorem tkA_root {N : Nat} {l : List ByteArray} {s : ByteArray} (h : frOk s) (h2 : ¬ frT s ≤ N) (h3 : ¬ (frK s = 2 ∧ ¬ (N = frF s ∧ l.length = frZ s))) (h4 : rt (tkM l s) ≠ frR s) : tkA N l s = (⟨#[]⟩, 225, N, l) := by
  unfold tkA
  rw [if_neg (fun q => q h), if_neg h2, if_neg h3, if_pos h4]
theorem tkA_yes {N : Nat} {l : List ByteArray} {s : ByteArray} (h : frOk s) (h2 : ¬ frT s ≤ N) (h3 : ¬ (frK s = 2 ∧ ¬ (N = frF s ∧ l.length = frZ s))) (h4 : rt (tkM l s) = frR s) : tkA N l s = (wdB 1 (frT s) (rt (tkM l s)), 0, frT s, tkM l s) := by
  unfold tkA
  rw [if_neg (fun q => q h), if_neg h2, if_neg h3, if_neg (fun q => q h4)]
/-- what Take answers and leaves -/
def TkQ (w : World) (b : Nat) (A : ByteArray × Int × Nat × List ByteArray) (e : Ending) (w' : World) : Prop := e = .returned (.tuple #[.string A.1, .int .i64 A.2.1]) ∧ Rp w' b A.2.2.1 A.2.2.2 ∧ Only (fun q => q = b) w w'
/-- Take of ANY text. -/
theorem ytake_any (w : World) (b N : Nat) (l : List ByteArray) (hR : Rp w b N l) (hN : N < 65536) (s : ByteArray) (hs : s.size ≤ 140737488355000) (hg : ETy w) (hK : KTab w) (hT : Sht l) (hm : l.length ≤ 65536) : Calls Tryz.prog 16 #[.pointer (some ⟨b, 0, none⟩), .string s] w (TkQ w b (tkA N l s)) := by
  obtain ⟨A, hA⟩ : ∃ q, tkA N l s = q := ⟨_, rfl⟩
  rw [hA]
  by_cases h1 : frOk s
  · by_cases h2 : frT s ≤ N
    · rw [tkA_old h1 h2] at hA
      subst hA
      exact (ytake_old w b N l hR hN s hs hg hK hT hm h1 h2).mono (fun e w' q => q)
    · refine ytake_new w b N l hR hN s hs hg hK hT hm h1 (by omega) _ (fun h3 w' hr ho => ?_) (fun h3 h4 w' hr ho => ?_) (fun h3 h4 w' hr ho => ?_)
      · rw [tkA_gap h1 h2 h3] at hA
        subst hA
        show _ ∧ _ ∧ _
        dsimp only
        exact ⟨rfl, hr, ho⟩
      · rw [tkA_root h1 h2 h3 h4] at hA
        subst hA
        show _ ∧ _ ∧ _
        dsimp only
        exact ⟨rfl, hr, ho⟩
      · rw [tkA_yes h1 h2 h3 h4] at hA
        subst hA
        show _ ∧ _ ∧ _
        dsimp only
        exact ⟨rfl, hr, ho⟩
  · rw [tkA_no h1] at hA
    subst hA
    refine (ytake_no w b N l hR s hs hg h1).mono ?_
    rintro e w' ⟨rfl, hr, hb⟩
    exact ⟨rfl, hr, Only.of_below hb⟩
end Go.Proofs.YtnfdedolgfcmfaaGreatDoor

namespace Go.Proofs.YtnfdedolgfcmfaaGreatDoor
open Go.RowKit
theorem numB_snoc (n x : Int) (k : Nat) (h0 : 0 ≤ x) (h1 : x < 256) : numB (256 * n + x) (k + 1) = numB n k ++ [x] := by
  unfold numB
  rw [List.range_succ, List.map_append]
  congr 1
  · refine List.map_congr_left fun i hi => ?_
    have hik : i < k := List.mem_range.1 hi
    rw [show 8 * (k + 1 - 1 - i) = 8 + 8 * (k - 1 - i) by omega, Int.pow_add, ← Int.ediv_ediv_of_nonneg (by decide)]
    have : (256 * n + x) / 2 ^ 8 = n := by
      have e : (2 : Int) ^ 8 = 256 := by decide
      rw [e]
      omega
    rw [this]
  · simp
    omega
end Go.Proofs.YtnfdedolgfcmfaaGreatDoor
