import Derived.Test.YtolblldpdgfkmaaDoorGrd
import Derived.Test.YtolblldpdgfkmaaDoorTkd
import Derived.Deep.RegionHeld
namespace Go.Proofs.YtolblldpdgfkmaaDoor
open Go.RowKit
set_option maxRecDepth 100000
theorem RR.congr {base : Nat} {eo ei : TypeId} {w : World} {u : Value} {m : Nat} {v : Nat → Value} {C D : Nat → List Value} (h : RR base eo ei w u m v C) (hC : ∀ i, i < m → C i = D i) : RR base eo ei w u m v D :=
  ⟨h.row, fun i hi => by rw [← hC i hi]; exact h.own i hi, h.dis⟩
/-- rows, the place of one taken by another, that one new -/
def swp (c t : Nat) (A : Nat → Nat → G) (F : Nat → G) : Nat → Nat → G := fun i => if i = c then F else if i = t then A c else A i
/-- the first j rows have been taken from -/
def elm (c : Nat) (A : Nat → Nat → G) (j : Nat) : Nat → Nat → G := fun i k => if i < j ∧ i ≠ c then A i k + A c k * A i c else A i k
theorem elm_zero (c : Nat) (A : Nat → Nat → G) : elm c A 0 = A := by
  funext i k
  unfold elm
  rw [if_neg (by omega)]
theorem elm_same (c : Nat) (A : Nat → Nat → G) : elm c A (c + 1) = elm c A c := by
  funext i k
  unfold elm
  by_cases h : i < c
  · rw [if_pos (by omega), if_pos (by omega)]
  · rw [if_neg (by omega), if_neg (by omega)]
theorem elm_row {c : Nat} (A : Nat → Nat → G) {j : Nat} : elm c A j j = A j := by
  funext k
  unfold elm
  rw [if_neg (by omega)]
theorem elm_c {c : Nat} (A : Nat → Nat → G) (j : Nat) : elm c A j c = A c := by
  funext k
  unfold elm
  rw [if_neg (by omega)]
theorem elm_gst {n c t : Nat} (A : Nat → Nat → G) {i : Nat} (hi : i < n) : elm c (swp c t A (fun k => A t k * (A t c).inv)) n i = gst c t A i := by
  funext k
  unfold elm
  by_cases h : i = c
  · rw [if_neg (by omega), h, gst_c]
    simp only [swp, if_pos]
  · rw [if_pos ⟨hi, h⟩]
    unfold gst swp
    rw [if_neg h, if_neg h, if_pos rfl]
    by_cases q : i = t
    · simp only [if_pos q]
    · simp only [if_neg q]
/-- What Solve answers. -/
def SolQ (w : World) (n : Nat) (A : Nat → Nat → G) (e : Ending) (w' : World) : Prop := ∃ ok B, Ga n 0 A ok B ∧ ((ok = true ∧ ∃ x, e = .returned (.tuple #[x, .int .i64 0]) ∧ w'.ownsRow w.heap.size 3 1 x n (gV n (fun i => B i n))) ∨ (ok = false ∧ e = .returned (.tuple #[.slice none 0 0, .int .i64 184]))) ∧ Below w.heap.size w w'
noncomputable def slvD : Code := dropSeq 5 ((Tryd.f54.body).getD .skip)
set_option maxHeartbeats 16000000 in
theorem slvD_walk (w wr : World) (n cu : Nat) (pu : Option Addr) (A : Nat → Nat → G) (v : Nat → Value) (hn : n ≤ 24) (hR : RR w.heap.size 40 3 wr (.slice pu n cu) n v (fun i => gV (n + 1) (A i))) (hb : Below w.heap.size w wr) (Q : Ending → World → Prop) (hQ : ∀ e w', SolQ w n A e w' → Q e w') (t0 t1 t2 t3 t4 t5 t8 t9 t10 t11 t12 t13 t14 t15 t16 t17 t18 t19 t20 t21 t22 t23 t24 t25 t26 t27 t28 t29 t30 t31 t32 t33 t34 t35 t36 t37 t38 t39 t40 t41 t42 t43 t44 t45 t46 t47 t48 t49 t50 t51 t52 t53 t54 t55 t56 t57 t58 t59 t60 t61 t62 t63 t64 t65 t66 t67 t68 t69 t70 t71 t72 t73 t74 t75 t76 t77 t78 t79 t80 t81 t82 t83 t84 t85 t86 t87 t88 t89 t90 t91 t92 t93 t94 t95 t96 t97 t98 t99 t100 t101 t102 t103 t104 t105 t106 t107 t108 t109 t110 t111 t112 t113 t114 t115 t116 t117 t118 t119 t120 t121 t122 t123 t124 t125 t126 t127 t128 t129 t130 t131 t132 t133 t134 t135 t136 t137 t138 t139 t140 t141 t142 t143 t144 t145 t146 t147 t148 t149 t150 t151 t152 t153 t154 t155 t156 t157 t158 t159 t160 t161 t162 t163 t164 t165 t166 t167 t168 t169 t170 t171 t172 : Value) :
    Code.wp Tryd.prog slvD (bodyPost Tryd.prog Tryd.f54 Q) ⟨#[t0, t1, t2, t3, t4, t5, .int .i64 (n : Int), .slice pu n cu, t8, t9, t10, t11, t12, t13, t14, t15, t16, t17, t18, t19, t20, t21, t22, t23, t24, t25, t26, t27, t28, t29, t30, t31, t32, t33, t34, t35, t36, t37, t38, t39, t40, t41, t42, t43, t44, t45, t46, t47, t48, t49, t50, t51, t52, t53, t54, t55, t56, t57, t58, t59, t60, t61, t62, t63, t64, t65, t66, t67, t68, t69, t70, t71, t72, t73, t74, t75, t76, t77, t78, t79, t80, t81, t82, t83, t84, t85, t86, t87, t88, t89, t90, t91, t92, t93, t94, t95, t96, t97, t98, t99, t100, t101, t102, t103, t104, t105, t106, t107, t108, t109, t110, t111, t112, t113, t114, t115, t116, t117, t118, t119, t120, t121, t122, t123, t124, t125, t126, t127, t128, t129, t130, t131, t132, t133, t134, t135, t136, t137, t138, t139, t140, t141, t142, t143, t144, t145, t146, t147, t148, t149, t150, t151, t152, t153, t154, t155, t156, t157, t158, t159, t160, t161, t162, t163, t164, t165, t166, t167, t168, t169, t170, t171, t172], []⟩ wr := by
  conv => arg 2; whnf
  have HR := hide (And.intro hR hb)
  have HQ := hide hQ
  clear hR hb hQ
  obtain ⟨w1, hw1⟩ : ∃ w1, wr = w1 := ⟨_, rfl⟩
  rw [hw1] at HR ⊢
  clear hw1 wr
  go_wp2_with fail
  rename_i K aK
  have hK : ∀ (wx : World) (vx : Nat → Value) (B : Nat → Nat → G) (_ : Ga n 0 A true B) (_ : RR w.heap.size 40 3 wx (.slice pu n cu) n vx (fun i => gV (n + 1) (B i))) (_ : Below w.heap.size w wx) (t0 t1 t2 t3 t4 t5 t8 t9 t10 t11 t12 t13 t14 t15 t16 t17 t18 t19 t20 t21 t22 t23 t24 t25 t26 t27 t28 t29 t30 t31 t32 t33 t34 t35 t36 t37 t38 t39 t40 t41 t42 t43 t44 t45 t46 t47 t48 t49 t50 t51 t52 t53 t54 t55 t56 t57 t58 t59 t60 t61 t62 t63 t64 t65 t66 t67 t68 t69 t70 t71 t72 t73 t74 t75 t76 t77 t78 t79 t80 t81 t82 t83 t84 t85 t86 t87 t88 t89 t90 t91 t92 t93 t94 t95 t96 t97 t98 t99 t100 t101 t102 t103 t104 t105 t106 t107 t108 t109 t110 t111 t112 t113 t114 t115 t116 t117 t118 t119 t120 t121 t122 t123 t124 t125 t126 t127 t128 t129 t130 t131 t132 t133 t134 t135 t136 t137 t138 t139 t140 t141 t142 t143 t144 t145 t146 t147 t148 t149 t150 t151 t152 t153 t154 t155 t156 t157 t158 t159 t160 t161 t162 t163 t164 t165 t166 t167 t168 t169 t170 t171 t172 : Value), K ⟨#[t0, t1, t2, t3, t4, t5, .int .i64 (n : Int), .slice pu n cu, t8, t9, t10, t11, t12, t13, t14, t15, t16, t17, t18, t19, t20, t21, t22, t23, t24, t25, t26, t27, t28, t29, t30, t31, t32, t33, t34, t35, t36, t37, t38, t39, t40, t41, t42, t43, t44, t45, t46, t47, t48, t49, t50, t51, t52, t53, t54, t55, t56, t57, t58, t59, t60, t61, t62, t63, t64, t65, t66, t67, t68, t69, t70, t71, t72, t73, t74, t75, t76, t77, t78, t79, t80, t81, t82, t83, t84, t85, t86, t87, t88, t89, t90, t91, t92, t93, t94, t95, t96, t97, t98, t99, t100, t101, t102, t103, t104, t105, t106, t107, t108, t109, t110, t111, t112, t113, t114, t115, t116, t117, t118, t119, t120, t121, t122, t123, t124, t125, t126, t127, t128, t129, t130, t131, t132, t133, t134, t135, t136, t137, t138, t139, t140, t141, t142, t143, t144, t145, t146, t147, t148, t149, t150, t151, t152, t153, t154, t155, t156, t157, t158, t159, t160, t161, t162, t163, t164, t165, t166, t167, t168, t169, t170, t171, t172], []⟩ wx := fun wx vx B q1 q2 q3 t0 t1 t2 t3 t4 t5 t8 t9 t10 t11 t12 t13 t14 t15 t16 t17 t18 t19 t20 t21 t22 t23 t24 t25 t26 t27 t28 t29 t30 t31 t32 t33 t34 t35 t36 t37 t38 t39 t40 t41 t42 t43 t44 t45 t46 t47 t48 t49 t50 t51 t52 t53 t54 t55 t56 t57 t58 t59 t60 t61 t62 t63 t64 t65 t66 t67 t68 t69 t70 t71 t72 t73 t74 t75 t76 t77 t78 t79 t80 t81 t82 t83 t84 t85 t86 t87 t88 t89 t90 t91 t92 t93 t94 t95 t96 t97 t98 t99 t100 t101 t102 t103 t104 t105 t106 t107 t108 t109 t110 t111 t112 t113 t114 t115 t116 t117 t118 t119 t120 t121 t122 t123 t124 t125 t126 t127 t128 t129 t130 t131 t132 t133 t134 t135 t136 t137 t138 t139 t140 t141 t142 t143 t144 t145 t146 t147 t148 t149 t150 t151 t152 t153 t154 t155 t156 t157 t158 t159 t160 t161 t162 t163 t164 t165 t166 t167 t168 t169 t170 t171 t172 => aK _ _ (slvE_walk w wx n cu pu B vx hn q2 q3 Q (fun x w' k1 k2 => unhide HQ _ _ ⟨true, B, q1, .inl ⟨rfl, x, rfl, k1⟩, k2⟩) t0 t1 t2 t3 t4 t5 t8 t9 t10 t11 t12 t13 t14 t15 t16 t17 t18 t19 t20 t21 t22 t23 t24 t25 t26 t27 t28 t29 t30 t31 t32 t33 t34 t35 t36 t37 t38 t39 t40 t41 t42 t43 t44 t45 t46 t47 t48 t49 t50 t51 t52 t53 t54 t55 t56 t57 t58 t59 t60 t61 t62 t63 t64 t65 t66 t67 t68 t69 t70 t71 t72 t73 t74 t75 t76 t77 t78 t79 t80 t81 t82 t83 t84 t85 t86 t87 t88 t89 t90 t91 t92 t93 t94 t95 t96 t97 t98 t99 t100 t101 t102 t103 t104 t105 t106 t107 t108 t109 t110 t111 t112 t113 t114 t115 t116 t117 t118 t119 t120 t121 t122 t123 t124 t125 t126 t127 t128 t129 t130 t131 t132 t133 t134 t135 t136 t137 t138 t139 t140 t141 t142 t143 t144 t145 t146 t147 t148 t149 t150 t151 t152 t153 t154 t155 t156 t157 t158 t159 t160 t161 t162 t163 t164 t165 t166 t167 t168 t169 t170 t171 t172)
  have HK := hide hK
  clear hK aK
  go_loopw [12] (fun i wx => ∃ (c : Nat) (vx : Nat → Value) (B : Nat → Nat → G), c ≤ n ∧ i = .int .i64 (c : Int) ∧ Hid (RR w.heap.size 40 3 wx (.slice pu n cu) n vx (fun i => gV (n + 1) (B i)) ∧ Below w.heap.size w wx ∧ ∀ ok C, Ga n c B ok C → Ga n 0 A ok C)) (fun i _ => n - (intOf i).toNat)
  case atStart => exact ⟨0, v, A, by omega, rfl, hide ⟨(unhide HR).1, (unhide HR).2, fun _ _ h => h⟩⟩
  case round =>
    obtain ⟨c, vx, B, hc, rfl, HB⟩ := hrel
    obtain ⟨wo, rfl⟩ : ∃ wo, wo = wr := ⟨_, rfl⟩
    clear HR
    by_cases hcn : c < n
    · have hcn' : (c : Int) < (n : Int) := by omega
      obtain ⟨gu, rfl, _, _, hgb, hgu⟩ := (unhide HB).1.at c hcn
      have hcell : Hid (∀ t, t < n → ∃ gt ct, vx t = .slice (some ⟨gt, 0, none⟩) (n + 1) ct ∧ wo.cell? ⟨gu, t, none⟩ = some (.slice (some ⟨gt, 0, none⟩) (n + 1) ct) ∧ w.heap.size ≤ gt ∧ gt < wo.heap.size ∧ wo.ownsRow w.heap.size 3 1 (.slice (some ⟨gt, 0, none⟩) (n + 1) ct) (n + 1) (gV (n + 1) (B t)) ∧ ∀ k, k ≤ n → wo.cell? ⟨gt, k, none⟩ = some (.int .i64 ((B t k).v : Int))) := hide (fun t ht => by
        obtain ⟨gu', e, h1, _, _, _⟩ := (unhide HB).1.at t ht
        obtain rfl : gu' = gu := by injection e with e; injection e with e; exact e.symm
        have hr1 := (unhide HB).1.own t ht
        rw [gV_len] at hr1
        obtain ⟨pv, cv, hv, _⟩ := gr_form hr1
        rw [hv] at hr1 h1
        obtain ⟨gv, rfl, _, _, hd3, hd4⟩ := gr_cell hr1 n (by omega)
        refine ⟨gv, cv, hv, h1, hd3, hd4, hr1, fun k hk => ?_⟩
        obtain ⟨gw, e, h5, _, _, _⟩ := gr_cell hr1 k (by omega)
        obtain rfl : gw = gv := by injection e with e; injection e with e; exact e.symm
        exact h5.trans (gV_at _ (by omega)))
      go_wp2
      go_loopw [13] (fun a wx => ∃ t : Nat, c ≤ t ∧ t ≤ n ∧ a = .int .i64 (t : Int) ∧ Hid (∀ i, c ≤ i → i < t → B i c = g0) ∧ wx = wo) (fun a _ => n - (intOf a).toNat)
      case atStart => exact ⟨c, by omega, by omega, rfl, hide (fun i h1 h2 => by omega), rfl⟩
      case round =>
      obtain ⟨t, hct0, htn, rfl, HZ, hwo⟩ := hrel
      subst wr
      by_cases htn2 : t < n
      case neg =>
        obtain rfl : t = n := by omega
        have htn' : ¬ (t : Int) < (t : Int) := by omega
        have HF := hide (show SolQ w t A (.returned (.tuple #[.slice none 0 0, .int .i64 184])) wo from ⟨false, B, (unhide HB).2.2 _ _ (Ga.fail c B hcn (unhide HZ)), .inr ⟨rfl, rfl⟩, (unhide HB).2.1⟩)
        clear HB hcell HZ
        go_wp2
        exact unhide HQ _ _ (unhide HF)
      have htn' : (t : Int) < (n : Int) := by omega
      have htne : ((t : Int) == (n : Int)) = false := by simp; omega
      obtain ⟨gt, ct, hvt, hct, hgtb, hgt, hrt, hcs⟩ := unhide hcell t htn2
      have hdt := hcs c (by omega)
      have HRT := hide hrt
      have hc1 : (c : Int) < ((n + 1 : Nat) : Int) := by omega
      by_cases hz : (B t c).v = 0
      case pos =>
        have HZ2 := hide (show ∀ i, c ≤ i → i < t + 1 → B i c = g0 from fun i h1 h2 => by
          by_cases e : i = t
          · rw [e]; exact v_zero.1 hz
          · exact unhide HZ i h1 (by omega))
        rw [hz] at hdt
        simp only [Int.cast_ofNat_Int] at hdt
        clear HZ hz hcs hrt hvt
        go_wp2
        go_roundw
        case rel => exact ⟨t + 1, by omega, by omega, by go_num, HZ2, by first | rfl | trivial⟩
        case measure => simp [intOf]; omega
      have hzb : (((B t c).v : Int) == 0) = false := by simp; omega
      have HPV := hide (show B t c ≠ g0 from fun e => hz (v_zero.2 e))
      have HV := hide (fun W => rinv_any (B t c).v (B t c).h W)
      have HT := hide (show ∀ W, Below wo.heap.size wo W → Calls Tryd.prog 67 #[.slice (some ⟨gt, 0, none⟩) (n + 1) ct, .int .i64 (giv (B t c).v : Int)] W fun e w' => ∃ x, e = .returned x ∧ w'.ownsRow W.heap.size 3 1 x (n + 1) (gV (n + 1) (fun k => B t k * (B t c).inv)) ∧ Below W.heap.size W w' from fun W hW => rtimes_any W w.heap.size (n + 1) ct _ (B t) (B t c).inv (owns_only (unhide HRT) (Only.of_below (P := fun _ => False) hW) (fun _ _ q => q)) (by omega))
      obtain ⟨pv, hpv⟩ : ∃ q, (B t c).v = q := ⟨_, rfl⟩
      rw [hpv] at hdt hzb HV HT
      have HPQ := hide hpv
      clear hpv hz hcs hrt HZ
      go_wp2
      refine wp_region_held_drew (S := fun W => Below wo.heap.size wo W) (by kernel_rfl) (Below.refl _ _).drew ?_
      intro hS
      refine wpAnyH_takeD 0 (some 93) (.slice (some ⟨gu, 0, none⟩) n cu) rfl rfl (by kernel_rfl) (by kernel_rfl) (by kernel_rfl) (fun _ _ _ h => h) (Or.inl ⟨by rfl, fun w hSw => by have q1 := (hSw.cell (p := ⟨gu, t, none⟩) hgu).trans hct; have q2 := (hSw.cell (p := ⟨gt, c, none⟩) hgt).trans hdt; clear hSw; go_simp; try (intro hbad; omega)⟩) hS ?_
      simp only [Act.put, List.setIfInBounds_toArray, List.set_cons_zero, List.set_cons_succ]
      refine wpAnyH_takeD 1 (some 94) (.int .i64 (t : Int)) rfl rfl (by kernel_rfl) (by kernel_rfl) (by kernel_rfl) (fun _ _ _ h => h) (Or.inl ⟨by rfl, fun w hSw => by have q1 := (hSw.cell (p := ⟨gu, t, none⟩) hgu).trans hct; have q2 := (hSw.cell (p := ⟨gt, c, none⟩) hgt).trans hdt; clear hSw; go_simp; try (intro hbad; omega)⟩) hS ?_
      simp only [Act.put, List.setIfInBounds_toArray, List.set_cons_zero, List.set_cons_succ]
      refine wpAnyH_takeD 2 (some 95) (.pointer (some ⟨gu, t, none⟩)) rfl rfl (by kernel_rfl) (by kernel_rfl) (by kernel_rfl) (fun _ _ _ h => h) (Or.inl ⟨by rfl, fun w hSw => by have q1 := (hSw.cell (p := ⟨gu, t, none⟩) hgu).trans hct; have q2 := (hSw.cell (p := ⟨gt, c, none⟩) hgt).trans hdt; clear hSw; go_simp; try (intro hbad; omega)⟩) hS ?_
      simp only [Act.put, List.setIfInBounds_toArray, List.set_cons_zero, List.set_cons_succ]
      refine wpAnyH_takeD 3 (some 96) (.slice (some ⟨gt, 0, none⟩) (n + 1) ct) rfl rfl (by kernel_rfl) (by kernel_rfl) (by kernel_rfl) (fun _ _ _ h => h) (Or.inl ⟨by rfl, fun w hSw => by have q1 := (hSw.cell (p := ⟨gu, t, none⟩) hgu).trans hct; have q2 := (hSw.cell (p := ⟨gt, c, none⟩) hgt).trans hdt; clear hSw; go_simp; try (intro hbad; omega)⟩) hS ?_
      simp only [Act.put, List.setIfInBounds_toArray, List.set_cons_zero, List.set_cons_succ]
      refine wpAnyH_takeD 4 (some 97) (.slice (some ⟨gu, 0, none⟩) n cu) rfl rfl (by kernel_rfl) (by kernel_rfl) (by kernel_rfl) (fun _ _ _ h => h) (Or.inl ⟨by rfl, fun w hSw => by have q1 := (hSw.cell (p := ⟨gu, t, none⟩) hgu).trans hct; have q2 := (hSw.cell (p := ⟨gt, c, none⟩) hgt).trans hdt; clear hSw; go_simp; try (intro hbad; omega)⟩) hS ?_
      simp only [Act.put, List.setIfInBounds_toArray, List.set_cons_zero, List.set_cons_succ]
      refine wpAnyH_takeD 5 (some 98) (.int .i64 (t : Int)) rfl rfl (by kernel_rfl) (by kernel_rfl) (by kernel_rfl) (fun _ _ _ h => h) (Or.inl ⟨by rfl, fun w hSw => by have q1 := (hSw.cell (p := ⟨gu, t, none⟩) hgu).trans hct; have q2 := (hSw.cell (p := ⟨gt, c, none⟩) hgt).trans hdt; clear hSw; go_simp; try (intro hbad; omega)⟩) hS ?_
      simp only [Act.put, List.setIfInBounds_toArray, List.set_cons_zero, List.set_cons_succ]
      refine wpAnyH_takeD 6 (some 99) (.pointer (some ⟨gu, t, none⟩)) rfl rfl (by kernel_rfl) (by kernel_rfl) (by kernel_rfl) (fun _ _ _ h => h) (Or.inl ⟨by rfl, fun w hSw => by have q1 := (hSw.cell (p := ⟨gu, t, none⟩) hgu).trans hct; have q2 := (hSw.cell (p := ⟨gt, c, none⟩) hgt).trans hdt; clear hSw; go_simp; try (intro hbad; omega)⟩) hS ?_
      simp only [Act.put, List.setIfInBounds_toArray, List.set_cons_zero, List.set_cons_succ]
      refine wpAnyH_takeD 7 (some 100) (.slice (some ⟨gt, 0, none⟩) (n + 1) ct) rfl rfl (by kernel_rfl) (by kernel_rfl) (by kernel_rfl) (fun _ _ _ h => h) (Or.inl ⟨by rfl, fun w hSw => by have q1 := (hSw.cell (p := ⟨gu, t, none⟩) hgu).trans hct; have q2 := (hSw.cell (p := ⟨gt, c, none⟩) hgt).trans hdt; clear hSw; go_simp; try (intro hbad; omega)⟩) hS ?_
      simp only [Act.put, List.setIfInBounds_toArray, List.set_cons_zero, List.set_cons_succ]
      refine wpAnyH_takeD 8 (some 101) (.int .i64 (c : Int)) rfl rfl (by kernel_rfl) (by kernel_rfl) (by kernel_rfl) (fun _ _ _ h => h) (Or.inl ⟨by rfl, fun w hSw => by have q1 := (hSw.cell (p := ⟨gu, t, none⟩) hgu).trans hct; have q2 := (hSw.cell (p := ⟨gt, c, none⟩) hgt).trans hdt; clear hSw; go_simp; try (intro hbad; omega)⟩) hS ?_
      simp only [Act.put, List.setIfInBounds_toArray, List.set_cons_zero, List.set_cons_succ]
      refine wpAnyH_takeD 9 (some 102) (.pointer (some ⟨gt, c, none⟩)) rfl rfl (by kernel_rfl) (by kernel_rfl) (by kernel_rfl) (fun _ _ _ h => h) (Or.inl ⟨by rfl, fun w hSw => by have q1 := (hSw.cell (p := ⟨gu, t, none⟩) hgu).trans hct; have q2 := (hSw.cell (p := ⟨gt, c, none⟩) hgt).trans hdt; clear hSw; go_simp; try (intro hbad; omega)⟩) hS ?_
      simp only [Act.put, List.setIfInBounds_toArray, List.set_cons_zero, List.set_cons_succ]
      refine wpAnyH_takeD 10 (some 103) (.int .i64 (pv : Int)) rfl rfl (by kernel_rfl) (by kernel_rfl) (by kernel_rfl) (fun _ _ _ h => h) (Or.inl ⟨by rfl, fun w hSw => by have q1 := (hSw.cell (p := ⟨gu, t, none⟩) hgu).trans hct; have q2 := (hSw.cell (p := ⟨gt, c, none⟩) hgt).trans hdt; clear hSw; go_simp; try (intro hbad; omega)⟩) hS ?_
      simp only [Act.put, List.setIfInBounds_toArray, List.set_cons_zero, List.set_cons_succ]
      refine wpAnyH_ready (rs := [11]) (by kernel_rfl) (by simp) ?_
      refine AllReadyH.cons rfl (fun K hK => ?_) AllReadyH.nil
      simp only [List.getElem_toArray, List.getElem_cons_succ, List.getElem_cons_zero]
      go_simp
      refine (unhide HV _).mono ?_
      rintro e y1 ⟨rfl, hy⟩
      subst y1
      refine hK.out _ _ hS (fun hS => ?_)
      clear hK K
      refine wpAnyH_ready (rs := [12]) (by kernel_rfl) (by simp) ?_
      refine AllReadyH.cons rfl (fun K hK => ?_) AllReadyH.nil
      simp only [List.getElem_toArray, List.getElem_cons_succ, List.getElem_cons_zero]
      go_simp
      refine (unhide HT _ hS).mono ?_
      rintro e y2 ⟨fv, rfl, hfo, hfb⟩
      have HF := hide (And.intro hfo (And.intro hS hfb))
      refine hK.out _ _ (hS.trans (hfb.mono hS.size)) (fun hS => ?_)
      clear hK K
      refine wpAnyH_takeD 13 (some 14) (fv) rfl rfl (by kernel_rfl) (by kernel_rfl) (by kernel_rfl) (fun _ _ _ h => h) (Or.inl ⟨by rfl, fun w hSw => by have q1 := (hSw.cell (p := ⟨gu, t, none⟩) hgu).trans hct; have q2 := (hSw.cell (p := ⟨gt, c, none⟩) hgt).trans hdt; clear hSw; go_simp; try (intro hbad; omega)⟩) hS ?_
      simp only [Act.put, List.setIfInBounds_toArray, List.set_cons_zero, List.set_cons_succ]
      refine wpAnyH_done (by kernel_rfl) ?_ _
      obtain ⟨y2', hy2'⟩ : ∃ q, y2 = q := ⟨_, rfl⟩
      subst hy2'
      have hby : Below wo.heap.size wo y2 := hS
      have hfo1 : y2.ownsRow wo.heap.size 3 1 fv (n + 1) (gV (n + 1) (fun k => B t k * (B t c).inv)) := (unhide HF).1
      obtain ⟨pf, cf, rfl, _⟩ := gr_form hfo1
      obtain ⟨gf, rfl, _, _, hgf1, hgf2⟩ := gr_cell hfo1 n (by omega)
      have HRy := hide ((unhide HB).1.below hby)
      obtain ⟨gc, cc, hvc, _, _, _, _, _⟩ := unhide hcell c hcn
      obtain ⟨ga, ea, hya, hyf, _, _⟩ := (unhide HRy).at c hcn
      obtain rfl : ga = gu := by injection ea with e; injection e with e; exact e.symm
      obtain ⟨ga2, ea2, _, hyt, _, _⟩ := (unhide HRy).at t htn2
      obtain rfl : ga2 = ga := by injection ea2 with e; injection e with e; exact e.symm
      rw [hvc] at hya
      have HTWO := hide (show RR w.heap.size 40 3 ((y2.setCell ⟨ga2, t, none⟩ (.slice (some ⟨gc, 0, none⟩) (n + 1) cc)).setCell ⟨ga2, c, none⟩ (.slice (some ⟨gf, 0, none⟩) (n + 1) cf)) (.slice (some ⟨ga2, 0, none⟩) n cu) n (fun k => if k = c then .slice (some ⟨gf, 0, none⟩) (n + 1) cf else if k = t then vx c else vx k) (fun i => gV (n + 1) (swp c t B (fun k => B t k * (B t c).inv) i)) ∧ Below w.heap.size w ((y2.setCell ⟨ga2, t, none⟩ (.slice (some ⟨gc, 0, none⟩) (n + 1) cc)).setCell ⟨ga2, c, none⟩ (.slice (some ⟨gf, 0, none⟩) (n + 1) cf)) from by
        have hwb := (unhide HB).2.1.size
        have r := (unhide HRy).two (by decide) t c hcn ga2 cu rfl (.slice (some ⟨gf, 0, none⟩) (n + 1) cf) (gV (n + 1) (fun k => B t k * (B t c).inv)) (by rw [gV_len]; exact gr_mono hfo1 hwb) (fun i hi y hy q => by
          have h1 := (((unhide HB).1.own i hi).lt y hy).2
          have h2 : gf = y := by simpa [Value.ownBlock] using q
          omega)
        rw [hvc] at r
        refine ⟨?_, ((unhide HB).2.1.trans (hby.mono hwb)).grown r.2 (by have := hby.size; omega) (fun q hq => by injection hq with hq; omega)⟩
        have r1 := r.1.congr (D := fun i => gV (n + 1) (swp c t B (fun k => B t k * (B t c).inv) i)) (fun i hi => by
          unfold swp
          by_cases e1 : i = c
          · simp only [if_pos e1]
          · simp only [if_neg e1]
            by_cases e2 : i = t
            · simp only [if_pos e2]
            · simp only [if_neg e2])
        rw [hvc]
        exact r1)
      obtain ⟨ga3, ea3, hst0, hsf, _, _⟩ := gr_cell ((unhide HRy).row.stored t (.slice (some ⟨gc, 0, none⟩) (n + 1) cc)).1 c hcn
      obtain rfl : ga3 = ga2 := by injection ea3 with e; injection e with e; exact e.symm
      have hst : (y2.setCell ⟨ga3, t, none⟩ (.slice (some ⟨gc, 0, none⟩) (n + 1) cc)).cell? ⟨ga3, c, none⟩ = some (.slice (some ⟨gc, 0, none⟩) (n + 1) cc) := by
        rw [hst0, List.getElem?_set]
        by_cases e : t = c
        · rw [if_pos e, if_pos (by simp; omega)]
        · rw [if_neg e, List.getElem?_map, List.getElem?_range hcn]
          exact congrArg some hvc
      clear hst0
      obtain ⟨v1, hv1⟩ : ∃ q : Nat → Value, (fun k => if k = c then .slice (some ⟨gf, 0, none⟩) (n + 1) cf else if k = t then vx c else vx k) = q := ⟨_, rfl⟩
      have HV1 := hide (show v1 c = .slice (some ⟨gf, 0, none⟩) (n + 1) cf from by rw [← hv1]; simp only [if_pos])
      rw [hv1] at HTWO
      obtain ⟨A1, hA1⟩ : ∃ q, swp c t B (fun k => B t k * (B t c).inv) = q := ⟨_, rfl⟩
      have HA1 := hide hA1
      rw [hA1] at HTWO
      have HGA := hide (show ∀ ok C, Ga n (c + 1) (gst c t B) ok C → Ga n 0 A ok C from fun ok C h => (unhide HB).2.2 ok C (Ga.step c t B ok C hcn hct0 htn2 (unhide HPV) h))
      clear hv1 hA1 HRy HF hfo1 hfo hfb hS hby HB HT HV HPV HRT hcell hvt hdt hct hzb HPQ hvc
      go_wp2
      obtain ⟨z, hz⟩ : ∃ q, (y2.setCell ⟨ga3, t, none⟩ (.slice (some ⟨gc, 0, none⟩) (n + 1) cc)).setCell ⟨ga3, c, none⟩ (.slice (some ⟨gf, 0, none⟩) (n + 1) cf) = q := ⟨_, rfl⟩
      rw [hz] at HTWO ⊢
      clear hz hya hyf hyt hst hsf
      go_loopw [15] (fun x wx => ∃ j : Nat, j ≤ n ∧ x = .int .i64 (j : Int) ∧ Hid (RR w.heap.size 40 3 wx (.slice (some ⟨ga3, 0, none⟩) n cu) n v1 (fun i => gV (n + 1) (elm c A1 j i)) ∧ Below w.heap.size w wx)) (fun x _ => n - (intOf x).toNat)
      case atStart => exact ⟨0, by omega, rfl, hide ⟨by rw [elm_zero]; exact (unhide HTWO).1, (unhide HTWO).2⟩⟩
      case round =>
      obtain ⟨j, hj, rfl, HJ⟩ := hrel
      obtain ⟨wj, rfl⟩ : ∃ q, q = wr := ⟨_, rfl⟩
      clear HTWO
      by_cases hjn : j < n
      case neg =>
        obtain rfl : j = n := by omega
        have hjn' : ¬ (j : Int) < (j : Int) := by omega
        have HE := hide (show RR w.heap.size 40 3 wj (.slice (some ⟨ga3, 0, none⟩) j cu) j v1 (fun i => gV (j + 1) (gst c t B i)) from (unhide HJ).1.congr (fun i hi => by rw [← unhide HA1, elm_gst B hi]))
        have HW := hide (unhide HJ).2
        clear HJ
        go_wp2
        go_roundw
        case rel => exact ⟨c + 1, v1, gst c t B, by omega, by go_num, hide ⟨unhide HE, unhide HW, unhide HGA⟩⟩
        case measure => simp [intOf]; omega
      have hjn' : (j : Int) < (n : Int) := by omega
      by_cases hjc : j = c
      case pos =>
        have hjc' : ((j : Int) == (c : Int)) = true := by simp; omega
        have HE := hide (show RR w.heap.size 40 3 wj (.slice (some ⟨ga3, 0, none⟩) n cu) n v1 (fun i => gV (n + 1) (elm c A1 (j + 1) i)) ∧ Below w.heap.size w wj from ⟨by
          have h := (unhide HJ).1
          rw [hjc] at h ⊢
          rw [elm_same]
          exact h, (unhide HJ).2⟩)
        clear HJ hjc
        go_wp2
        go_roundw
        case rel => exact ⟨j + 1, by omega, by go_num, HE⟩
        case measure => simp [intOf]; omega
      have hjc' : ((j : Int) == (c : Int)) = false := by simp; omega
      obtain ⟨gb, eb, hcj0, _, _, hgb4⟩ := (unhide HJ).1.at j hjn
      obtain rfl : gb = ga3 := by injection eb with e; injection e with e; exact e.symm
      have hrj := (unhide HJ).1.own j hjn
      rw [gV_len, elm_row] at hrj
      obtain ⟨pj, cj, hvj, _⟩ := gr_form hrj
      rw [hvj] at hrj hcj0
      obtain ⟨gj, rfl, hcjc, _, hgj3, hgj4⟩ := gr_cell hrj c (by omega)
      rw [gV_at _ (by omega : c < n + 1)] at hcjc
      have hrc := (unhide HJ).1.own c hcn
      rw [gV_len, elm_c, unhide HV1] at hrc
      have HT := hide (rtimes_any wj w.heap.size (n + 1) cf _ (A1 c) (A1 j c) hrc (by omega))
      have HNE := hide (show gj ≠ gb from fun e => own_types hrj (unhide HJ).1.row (by decide) gj rfl (by rw [e]; rfl))
      have hc1' : (c : Int) < ((n + 1 : Nat) : Int) := by omega
      obtain ⟨xc, hxc⟩ : ∃ q, (A1 j c).v = q := ⟨_, rfl⟩
      rw [hxc] at hcjc HT
      have HVJ := hide hvj
      clear hxc hrc hrj hvj
      go_wp2_with fail
      refine (unhide HT).mono ?_
      rintro e y3 ⟨tv, rfl, hto, htb⟩
      obtain ⟨ps, cs, rfl, _⟩ := gr_form hto
      obtain ⟨gs, rfl, _, _, hgs3, hgs4⟩ := gr_cell hto n (by omega)
      obtain ⟨T, hT⟩ : ∃ q : Nat → G, (fun k => A1 c k * A1 j c) = q := ⟨_, rfl⟩
      rw [hT] at hto
      have HTT := hide (fun k => show A1 c k * A1 j c = T k from by rw [← hT])
      have HK0 := hide (show RR w.heap.size 40 3 y3 (.slice (some ⟨gb, 0, none⟩) n cu) n v1 (fun i => gV (n + 1) (if i = j then (fun q => if q < 0 then A1 j q + T q else A1 j q) else elm c A1 j i)) ∧ y3.ownsRow wj.heap.size 3 1 (.slice (some ⟨gs, 0, none⟩) (n + 1) cs) (n + 1) (gV (n + 1) T) ∧ Below w.heap.size w y3 from ⟨((unhide HJ).1.below htb).congr (fun i hi => by
          by_cases e : i = j
          · rw [if_pos e, e, elm_row]
            exact gV_congr (fun q _ => by rw [if_neg (by omega)])
          · rw [if_neg e]), hto, (unhide HJ).2.trans (htb.mono (unhide HJ).2.size)⟩)
      have hgsj : gj ≠ gs := by omega
      clear hT hto htb HT HJ hcj0 hcjc
      go_wp2
      go_loopw [17] (fun x wx => ∃ k : Nat, k ≤ n + 1 ∧ x = .int .i64 (k : Int) ∧ Hid (RR w.heap.size 40 3 wx (.slice (some ⟨gb, 0, none⟩) n cu) n v1 (fun i => gV (n + 1) (if i = j then (fun q => if q < k then A1 j q + T q else A1 j q) else elm c A1 j i)) ∧ wx.ownsRow wj.heap.size 3 1 (.slice (some ⟨gs, 0, none⟩) (n + 1) cs) (n + 1) (gV (n + 1) T) ∧ Below w.heap.size w wx)) (fun x _ => n + 1 - (intOf x).toNat)
      case atStart => exact ⟨0, by omega, rfl, HK0⟩
      case round =>
      obtain ⟨k, hk, rfl, HKK⟩ := hrel
      obtain ⟨wk, rfl⟩ : ∃ q, q = wr := ⟨_, rfl⟩
      clear HK0
      by_cases hkn : k ≤ n
      case neg =>
        obtain rfl : k = n + 1 := by omega
        have hkn' : ¬ ((n + 1 : Nat) : Int) ≤ (n : Int) := by omega
        have HE := hide (show RR w.heap.size 40 3 wk (.slice (some ⟨gb, 0, none⟩) n cu) n v1 (fun i => gV (n + 1) (elm c A1 (j + 1) i)) ∧ Below w.heap.size w wk from ⟨(unhide HKK).1.congr (fun i hi => by
          by_cases e : i = j
          · rw [if_pos e, e]
            refine gV_congr (fun q hq => ?_)
            rw [if_pos hq]
            unfold elm
            rw [if_pos ⟨by omega, hjc⟩, unhide HTT]
          · rw [if_neg e]
            refine gV_congr (fun q hq => ?_)
            unfold elm
            by_cases e2 : i < j ∧ i ≠ c
            · rw [if_pos e2, if_pos ⟨by omega, e2.2⟩]
            · rw [if_neg e2, if_neg (by omega)]), (unhide HKK).2.2⟩)
        clear HKK hjc
        go_wp2
        go_roundw
        case rel => exact ⟨j + 1, by omega, by go_num, HE⟩
        case measure => simp [intOf]; omega
      have hkn' : (k : Int) ≤ (n : Int) := by omega
      have hk1' : (k : Int) < ((n + 1 : Nat) : Int) := by omega
      have hk2' : (k : Int) < (n : Int) + 1 := by omega
      have HRd := hide ((unhide HKK).1.below ((Below.refl _ wk).drew))
      obtain ⟨gd, ed, hcj, _, _, _⟩ := (unhide HRd).at j hjn
      obtain rfl : gd = gb := by injection ed with e; injection e with e; exact e.symm
      rw [unhide HVJ] at hcj
      have hrj := (unhide HRd).own j hjn
      rw [gV_len, if_pos rfl, unhide HVJ] at hrj
      obtain ⟨ge, ee, hcx, hfx, _, _⟩ := gr_cell hrj k (by omega)
      obtain rfl : ge = gj := by injection ee with e; injection e with e; exact e.symm
      rw [gV_at _ (by omega : k < n + 1), if_neg (by omega)] at hcx
      obtain ⟨gh, eh, hck, _, _, _⟩ := gr_cell (unhide HKK).2.1 k (by omega)
      obtain rfl : gh = gs := by injection eh with e; injection e with e; exact e.symm
      rw [gV_at _ (by omega : k < n + 1)] at hck
      have hck : wk.drew.cell? ⟨gh, k, none⟩ = some (.int .i64 ((T k).v : Int)) := hck
      have hxor := xor64n (A1 j k).v (T k).v (by have := (A1 j k).h; omega) (by have := (T k).h; omega)
      have hne1 : ge ≠ gd := unhide HNE
      have hne2 : ge ≠ gh := hgsj
      have HSET := hide (show RR w.heap.size 40 3 (wk.drew.setCell ⟨ge, k, none⟩ (.int .i64 (((A1 j k).v ^^^ (T k).v : Nat) : Int))) (.slice (some ⟨gd, 0, none⟩) n cu) n v1 (fun i => gV (n + 1) (if i = j then (fun q => if q < k + 1 then A1 j q + T q else A1 j q) else elm c A1 j i)) ∧ (wk.drew.setCell ⟨ge, k, none⟩ (.int .i64 (((A1 j k).v ^^^ (T k).v : Nat) : Int))).ownsRow wj.heap.size 3 1 (.slice (some ⟨gh, 0, none⟩) (n + 1) cs) (n + 1) (gV (n + 1) T) ∧ Below w.heap.size w (wk.drew.setCell ⟨ge, k, none⟩ (.int .i64 (((A1 j k).v ^^^ (T k).v : Nat) : Int))) from by
        have r := (unhide HRd).set (by decide) j hjn ge cj (by rw [gV_len]; exact unhide HVJ) k (.int .i64 (((A1 j k).v ^^^ (T k).v : Nat) : Int))
        refine ⟨r.1.congr (fun i hi => ?_), (unhide HKK).2.1.drew.kept r.2 (.inr (fun q => hne2 (by injection q with q; exact q.symm))), (unhide HKK).2.2.drew.grown r.2 (by have := (unhide HKK).2.2.size; exact this) (fun q hq => by injection hq with hq; omega)⟩
        by_cases e : i = j
        · rw [if_pos e, if_pos rfl, if_pos e]
          show (gV (n + 1) _).set k (.int .i64 (((A1 j k + T k).v : Nat) : Int)) = _
          rw [gV_set]
          refine gV_congr (fun q hq => ?_)
          by_cases e2 : q = k
          · rw [if_pos e2, if_pos (by omega), e2]
          · rw [if_neg e2]
            by_cases e3 : q < k
            · rw [if_pos e3, if_pos (by omega)]
            · rw [if_neg e3, if_neg (by omega)]
        · simp only [if_neg e])
      obtain ⟨xa, hxa⟩ : ∃ q, (A1 j k).v = q := ⟨_, rfl⟩
      obtain ⟨xb, hxb⟩ : ∃ q, (T k).v = q := ⟨_, rfl⟩
      rw [hxa] at hcx hxor HSET
      rw [hxb] at hck hxor HSET
      clear hxa hxb hrj HRd HKK
      go_wp2
      refine wp_region_held_drew (S := fun W => W.cell? ⟨gd, j, none⟩ = some (.slice (some ⟨ge, 0, none⟩) (n + 1) cj) ∧ W.cell? ⟨gh, k, none⟩ = some (.int .i64 (xb : Int))) (by kernel_rfl) ⟨hcj, hck⟩ ?_
      intro hS
      refine wpAnyH_takeD 0 (some 139) (.slice (some ⟨gd, 0, none⟩) n cu) rfl rfl (by kernel_rfl) (by kernel_rfl) (by kernel_rfl) (fun _ _ _ h => h) (Or.inl ⟨by rfl, fun w hSw => by have q1 := hSw.1; have q2 := hSw.2; clear hSw; go_simp; try (intro hbad; omega)⟩) hS ?_
      simp only [Act.put, List.setIfInBounds_toArray, List.set_cons_zero, List.set_cons_succ]
      refine wpAnyH_takeD 1 (some 140) (.int .i64 (j : Int)) rfl rfl (by kernel_rfl) (by kernel_rfl) (by kernel_rfl) (fun _ _ _ h => h) (Or.inl ⟨by rfl, fun w hSw => by have q1 := hSw.1; have q2 := hSw.2; clear hSw; go_simp; try (intro hbad; omega)⟩) hS ?_
      simp only [Act.put, List.setIfInBounds_toArray, List.set_cons_zero, List.set_cons_succ]
      refine wpAnyH_takeD 2 (some 141) (.pointer (some ⟨gd, j, none⟩)) rfl rfl (by kernel_rfl) (by kernel_rfl) (by kernel_rfl) (fun _ _ _ h => h) (Or.inl ⟨by rfl, fun w hSw => by have q1 := hSw.1; have q2 := hSw.2; clear hSw; go_simp; try (intro hbad; omega)⟩) hS ?_
      simp only [Act.put, List.setIfInBounds_toArray, List.set_cons_zero, List.set_cons_succ]
      refine wpAnyH_takeD 3 (some 142) (.slice (some ⟨ge, 0, none⟩) (n + 1) cj) rfl rfl (by kernel_rfl) (by kernel_rfl) (by kernel_rfl) (fun _ _ _ h => h) (Or.inl ⟨by rfl, fun w hSw => by have q1 := hSw.1; have q2 := hSw.2; clear hSw; go_simp; try (intro hbad; omega)⟩) hS ?_
      simp only [Act.put, List.setIfInBounds_toArray, List.set_cons_zero, List.set_cons_succ]
      refine wpAnyH_takeD 4 (some 143) (.int .i64 (k : Int)) rfl rfl (by kernel_rfl) (by kernel_rfl) (by kernel_rfl) (fun _ _ _ h => h) (Or.inl ⟨by rfl, fun w hSw => by have q1 := hSw.1; have q2 := hSw.2; clear hSw; go_simp; try (intro hbad; omega)⟩) hS ?_
      simp only [Act.put, List.setIfInBounds_toArray, List.set_cons_zero, List.set_cons_succ]
      refine wpAnyH_takeD 5 (some 144) (.slice (some ⟨gd, 0, none⟩) n cu) rfl rfl (by kernel_rfl) (by kernel_rfl) (by kernel_rfl) (fun _ _ _ h => h) (Or.inl ⟨by rfl, fun w hSw => by have q1 := hSw.1; have q2 := hSw.2; clear hSw; go_simp; try (intro hbad; omega)⟩) hS ?_
      simp only [Act.put, List.setIfInBounds_toArray, List.set_cons_zero, List.set_cons_succ]
      refine wpAnyH_takeD 6 (some 145) (.int .i64 (j : Int)) rfl rfl (by kernel_rfl) (by kernel_rfl) (by kernel_rfl) (fun _ _ _ h => h) (Or.inl ⟨by rfl, fun w hSw => by have q1 := hSw.1; have q2 := hSw.2; clear hSw; go_simp; try (intro hbad; omega)⟩) hS ?_
      simp only [Act.put, List.setIfInBounds_toArray, List.set_cons_zero, List.set_cons_succ]
      refine wpAnyH_takeD 7 (some 146) (.pointer (some ⟨gd, j, none⟩)) rfl rfl (by kernel_rfl) (by kernel_rfl) (by kernel_rfl) (fun _ _ _ h => h) (Or.inl ⟨by rfl, fun w hSw => by have q1 := hSw.1; have q2 := hSw.2; clear hSw; go_simp; try (intro hbad; omega)⟩) hS ?_
      simp only [Act.put, List.setIfInBounds_toArray, List.set_cons_zero, List.set_cons_succ]
      refine wpAnyH_takeD 8 (some 147) (.slice (some ⟨ge, 0, none⟩) (n + 1) cj) rfl rfl (by kernel_rfl) (by kernel_rfl) (by kernel_rfl) (fun _ _ _ h => h) (Or.inl ⟨by rfl, fun w hSw => by have q1 := hSw.1; have q2 := hSw.2; clear hSw; go_simp; try (intro hbad; omega)⟩) hS ?_
      simp only [Act.put, List.setIfInBounds_toArray, List.set_cons_zero, List.set_cons_succ]
      refine wpAnyH_takeD 9 (some 148) (.int .i64 (k : Int)) rfl rfl (by kernel_rfl) (by kernel_rfl) (by kernel_rfl) (fun _ _ _ h => h) (Or.inl ⟨by rfl, fun w hSw => by have q1 := hSw.1; have q2 := hSw.2; clear hSw; go_simp; try (intro hbad; omega)⟩) hS ?_
      simp only [Act.put, List.setIfInBounds_toArray, List.set_cons_zero, List.set_cons_succ]
      refine wpAnyH_takeD 10 (some 149) (.pointer (some ⟨ge, k, none⟩)) rfl rfl (by kernel_rfl) (by kernel_rfl) (by kernel_rfl) (fun _ _ _ h => h) (Or.inl ⟨by rfl, fun w hSw => by have q1 := hSw.1; have q2 := hSw.2; clear hSw; go_simp; try (intro hbad; omega)⟩) hS ?_
      simp only [Act.put, List.setIfInBounds_toArray, List.set_cons_zero, List.set_cons_succ]
      refine wpAnyH_takeD 12 (some 151) (.slice (some ⟨gh, 0, none⟩) (n + 1) cs) rfl rfl (by kernel_rfl) (by kernel_rfl) (by kernel_rfl) (fun _ _ _ h => h) (Or.inl ⟨by rfl, fun w hSw => by have q1 := hSw.1; have q2 := hSw.2; clear hSw; go_simp; try (intro hbad; omega)⟩) hS ?_
      simp only [Act.put, List.setIfInBounds_toArray, List.set_cons_zero, List.set_cons_succ]
      refine wpAnyH_takeD 13 (some 152) (.int .i64 (k : Int)) rfl rfl (by kernel_rfl) (by kernel_rfl) (by kernel_rfl) (fun _ _ _ h => h) (Or.inl ⟨by rfl, fun w hSw => by have q1 := hSw.1; have q2 := hSw.2; clear hSw; go_simp; try (intro hbad; omega)⟩) hS ?_
      simp only [Act.put, List.setIfInBounds_toArray, List.set_cons_zero, List.set_cons_succ]
      refine wpAnyH_takeD 14 (some 153) (.pointer (some ⟨gh, k, none⟩)) rfl rfl (by kernel_rfl) (by kernel_rfl) (by kernel_rfl) (fun _ _ _ h => h) (Or.inl ⟨by rfl, fun w hSw => by have q1 := hSw.1; have q2 := hSw.2; clear hSw; go_simp; try (intro hbad; omega)⟩) hS ?_
      simp only [Act.put, List.setIfInBounds_toArray, List.set_cons_zero, List.set_cons_succ]
      refine wpAnyH_takeD 15 (some 154) (.int .i64 (xb : Int)) rfl rfl (by kernel_rfl) (by kernel_rfl) (by kernel_rfl) (fun _ _ _ h => h) (Or.inl ⟨by rfl, fun w hSw => by have q1 := hSw.1; have q2 := hSw.2; clear hSw; go_simp; try (intro hbad; omega)⟩) hS ?_
      simp only [Act.put, List.setIfInBounds_toArray, List.set_cons_zero, List.set_cons_succ]
      refine wpAnyH_ready (rs := [11]) (by kernel_rfl) (by simp) ?_
      refine AllReadyH.cons rfl (fun K hK => ?_) AllReadyH.nil
      simp only [List.getElem_toArray, List.getElem_cons_succ, List.getElem_cons_zero]
      go_simp
      refine hK.out _ _ hS (fun hS => ?_)
      clear hK K
      refine wpAnyH_takeD 16 (some 155) (.int .i64 ((xa ^^^ xb : Nat) : Int)) rfl rfl (by kernel_rfl) (by kernel_rfl) (by kernel_rfl) (fun _ _ _ h => h) (Or.inl ⟨by rfl, fun w hSw => by have q1 := hSw.1; have q2 := hSw.2; clear hSw; go_simp; try (intro hbad; omega)⟩) hS ?_
      simp only [Act.put, List.setIfInBounds_toArray, List.set_cons_zero, List.set_cons_succ]
      refine wpAnyH_takeD 17 (some 156) (.pointer (some ⟨ge, k, none⟩)) rfl rfl (by kernel_rfl) (by kernel_rfl) (by kernel_rfl) (fun _ _ _ h => h) (Or.inl ⟨by rfl, fun w hSw => by have q1 := hSw.1; have q2 := hSw.2; clear hSw; go_simp; try (intro hbad; omega)⟩) hS ?_
      simp only [Act.put, List.setIfInBounds_toArray, List.set_cons_zero, List.set_cons_succ]
      refine wpAnyH_ready (rs := [18]) (by kernel_rfl) (by simp) ?_
      refine AllReadyH.cons rfl (fun K hK => ?_) AllReadyH.nil
      simp only [List.getElem_toArray, List.getElem_cons_succ, List.getElem_cons_zero]
      go_simp
      refine hK.out _ _ ⟨(World.cell?_setCell_far _ _ _ _ hne1).trans hcj, (World.cell?_setCell_far _ _ _ _ hne2).trans hck⟩ (fun hS => ?_)
      clear hK K
      refine wpAnyH_done (by kernel_rfl) ?_ _
      go_wp2
      go_roundw
      case rel => exact ⟨k + 1, by omega, by go_num, HSET⟩
      case measure => simp [intOf]; omega
    · obtain rfl : c = n := by omega
      have hcn' : ¬ (c : Int) < (c : Int) := by omega
      have HN := hide (show Ga c 0 A true B from (unhide HB).2.2 _ _ (Ga.done B))
      go_wp2
      exact unhide HK _ _ B (unhide HN) (unhide HB).1 (unhide HB).2.1 _ _ _ _ _ _ _ _ _ _ _ _ _ _ _ _ _ _ _ _ _ _ _ _ _ _ _ _ _ _ _ _ _ _ _ _ _ _ _ _ _ _ _ _ _ _ _ _ _ _ _ _ _ _ _ _ _ _ _ _ _ _ _ _ _ _ _ _ _ _ _ _ _ _ _ _ _ _ _ _ _ _ _ _ _ _ _ _ _ _ _ _ _ _ _ _ _ _ _ _ _ _ _ _ _ _ _ _ _ _ _ _ _ _ _ _ _ _ _ _ _ _ _ _ _ _ _ _ _ _ _ _ _ _ _ _ _ _ _ _ _ _ _ _ _ _ _ _ _ _ _ _ _ _ _ _ _ _ _ _ _ _ _ _ _ _ _ _ _ _ _
end Go.Proofs.YtolblldpdgfkmaaDoor
