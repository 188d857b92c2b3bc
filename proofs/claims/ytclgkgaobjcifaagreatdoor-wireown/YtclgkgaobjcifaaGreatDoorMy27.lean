import Derived.Test.YtclgkgaobjcifaaGreatDoorMy26
import Derived.BigQuiet
namespace Go.Proofs.YtclgkgaobjcifaaGreatDoor
open Go.RowKit
set_option maxRecDepth 100000
theorem range_below {w w' : World} {b o : Nat} {cs : List Value} (h : w.rangeAt b o cs) (hb : Below w.heap.size w w') (hl : b < w.heap.size) : w'.rangeAt b o cs := fun j u hu => (hb.cell (p := ⟨b, o + j, none⟩) hl).trans (h j u hu)
noncomputable def ownD : Code := dropSeq 14 ((Tryz.f6.body).getD .skip)
set_option maxHeartbeats 16000000 in
theorem ownD_walk (w : World) (g k b1 b2 gt gw T0 : Nat) (A B : Rp) (tx : ByteArray) (X : World) (HCX : ∀ W, Only (fun b => T0 ≤ b) X W → Below g w W ∧ g ≤ W.heap.size ∧ T0 ≤ W.heap.size ∧ ETy W ∧ W5 W T0 (k : Int) b1 b2 gt gw A.r B.r A.V A.Pl B.V B.Pl (A.tx k) (B.tx k)) (hGA : GdP k A ∧ GdP k B) (htx : A.tx k = tx) (wr : World) (hX : Only (fun b => T0 ≤ b) X wr) (p5 : Option Addr) (c5 : Nat) (R : List Rep) (N : Nat → Nat) (hR : R.length = 5) (hGt : Gt wr T0 0 A B R N (.slice p5 5 c5)) (t0 t1 t2 t3 t4 t5 t6 t7 t8 t9 t10 t11 t12 t15 t17 t20 t22 t25 t26 t27 t28 t29 t30 t31 t32 t33 t34 t35 t36 t37 t38 t39 t40 t41 t42 t43 t44 t45 t46 t47 t48 t49 t50 t51 t52 t53 t54 t55 t56 t57 t58 t59 t60 t61 t62 t63 t64 t65 t66 t67 t68 t69 t70 t71 t72 t73 t74 t75 t76 t77 t78 t79 t80 t81 t82 t83 t84 t85 t86 t87 t88 t89 t90 t91 t92 t93 t94 t95 t96 t97 t98 t99 t100 t101 t102 t103 t104 t105 t106 t107 t108 t109 t110 t111 t112 t113 t114 t115 t116 t117 t118 t119 t120 t121 t122 t123 t124 t125 t126 t127 t128 t129 t130 t131 t132 t133 t134 t135 t136 t137 t138 t139 t140 t141 t142 t143 t144 t145 t146 t147 t148 t149 t150 t151 t152 t153 t154 t155 t156 t157 t158 t159 t160 t161 t162 t163 t164 t165 t166 t167 t168 t169 t170 t171 t172 t173 t174 t175 t176 t177 t178 t179 t180 t181 t182 t183 t184 t185 t186 t187 t188 t189 t190 t191 t192 t193 t194 t195 t196 t197 : Value) :
    Code.wp Tryz.prog ownD (bodyPost Tryz.prog Tryz.f6 fun e w' => e = .returned (.bool true) ∧ Below g w w') ⟨#[t0, t1, t2, t3, t4, t5, t6, t7, t8, t9, t10, t11, t12, .bool true, .int .i64 (k : Int), t15, .pointer (some ⟨b1, 0, none⟩), t17, .string tx, .int .i64 0, t20, .int .i64 0, t22, .slice (some ⟨gw, 0, none⟩) 5 5, .slice p5 5 c5, t25, t26, t27, t28, t29, t30, t31, t32, t33, t34, t35, t36, t37, t38, t39, t40, t41, t42, t43, t44, t45, t46, t47, t48, t49, t50, t51, t52, t53, t54, t55, t56, t57, t58, t59, t60, t61, t62, t63, t64, t65, t66, t67, t68, t69, t70, t71, t72, t73, t74, t75, t76, t77, t78, t79, t80, t81, t82, t83, t84, t85, t86, t87, t88, t89, t90, t91, t92, t93, t94, t95, t96, t97, t98, t99, t100, t101, t102, t103, t104, t105, t106, t107, t108, t109, t110, t111, t112, t113, t114, t115, t116, t117, t118, t119, t120, t121, t122, t123, t124, t125, t126, t127, t128, t129, t130, t131, t132, t133, t134, t135, t136, t137, t138, t139, t140, t141, t142, t143, t144, t145, t146, t147, t148, t149, t150, t151, t152, t153, t154, t155, t156, t157, t158, t159, t160, t161, t162, t163, t164, t165, t166, t167, t168, t169, t170, t171, t172, t173, t174, t175, t176, t177, t178, t179, t180, t181, t182, t183, t184, t185, t186, t187, t188, t189, t190, t191, t192, t193, t194, t195, t196, t197], []⟩ wr := by
  conv => arg 2; whnf
  obtain ⟨N0, hN0⟩ : ∃ z, wr.heap.size = z := ⟨_, rfl⟩
  obtain ⟨g5, rfl⟩ : ∃ g5, p5 = some ⟨g5, 0, none⟩ := by
    obtain ⟨g5, h, _⟩ := hGt.at_ hR 0 _ (List.getElem?_eq_getElem (by omega))
    exact ⟨g5, h⟩
  obtain ⟨y, hy⟩ : ∃ Z, wr.alloc (.cells #[.slice none 0 0, .slice none 0 0] 57) = Z := ⟨_, rfl⟩
  have hBel : Below wr.heap.size wr y := by rw [← hy]; exact (Below.refl _ _).alloc (Nat.le_refl _) _
  have HB0 := hide (show Bk y N0 N0 (.slice none 0 0) (.slice none 0 0) [] (([] : List Vw).map Vw.m) (fun b => b < N 0) from by rw [← hy, ← hN0]; exact Bk.nil wr _)
  have HG0 := hide (show Gt y T0 0 A B R N (.slice (some ⟨g5, 0, none⟩) 5 c5) from hGt.below hBel (Nat.le_refl _))
  have HX0 := hide (show Only (fun b => T0 ≤ b) X y from hX.trans (Only.of_below (P := fun b => T0 ≤ b) hBel) (fun _ _ q => q))
  have HN := hide (show N R.length ≤ N0 ∧ ∀ b, (Value.slice (some ⟨g5, 0, none⟩) 5 c5).ownBlock = some b → b < N0 from ⟨by rw [← hN0]; exact hGt.top, fun b hb => by rw [← hN0]; exact (hGt.row.lt b hb).2⟩)
  have HR := hide hR
  have HC := hide HCX
  have HGA := hide (And.intro hGA htx)
  clear hBel hR hGt hX HCX hGA htx
  go_wp2_with fail
  (try rw [hN0, hy])
  clear hN0 hy
  rename_i K aK
  have hK : ∀ (wx : World) (vl vm : Value) (E : List Vw) (Dn : Nat → Prop) (_ : Bk wx N0 N0 vl vm E (E.map Vw.m) Dn) (_ : E.length ≤ 1000) (_ : ∀ e ∈ E, e.n ≤ 100) (_ : Only (fun b => T0 ≤ b) X wx) (t0 t1 t2 t3 t4 t5 t6 t7 t8 t9 t10 t11 t12 t15 t17 t20 t22 t23 t24 t25 t26 t27 t28 t29 t31 t32 t33 t34 t35 t36 t37 t38 t39 t40 t41 t42 t43 t44 t45 t46 t47 t48 t49 t50 t51 t52 t53 t54 t55 t56 t57 t58 t59 t60 t61 t62 t63 t64 t65 t66 t67 t68 t69 t70 t71 t72 t73 t74 t75 t76 t77 t78 t79 t80 t81 t82 t83 t84 t85 t86 t87 t88 t89 t90 t91 t92 t93 t94 t95 t96 t97 t98 t99 t100 t101 t102 t103 t104 t105 t106 t107 t108 t109 t110 t111 t112 t113 t114 t115 t116 t117 t118 t119 t120 t121 t122 t123 t124 t125 t126 t127 t128 t129 t130 t131 t132 t133 t134 t135 t136 t137 t138 t139 t140 t141 t142 t143 t144 t145 t146 t147 t148 t149 t150 t151 t152 t153 t154 t155 t156 t157 t158 t159 t160 t161 t162 t163 t164 t165 t166 t167 t168 t169 t170 t171 t172 t173 t174 t175 t176 t177 t178 t179 t180 t181 t182 t183 t184 t185 t186 t187 t188 t189 t190 t191 t192 t193 t194 t195 t196 t197 : Value), K ⟨#[t0, t1, t2, t3, t4, t5, t6, t7, t8, t9, t10, t11, t12, .bool true, .int .i64 (k : Int), t15, .pointer (some ⟨b1, 0, none⟩), t17, .string tx, .int .i64 0, t20, .int .i64 0, t22, t23, t24, t25, t26, t27, t28, t29, .pointer (some ⟨N0, 0, none⟩), t31, t32, t33, t34, t35, t36, t37, t38, t39, t40, t41, t42, t43, t44, t45, t46, t47, t48, t49, t50, t51, t52, t53, t54, t55, t56, t57, t58, t59, t60, t61, t62, t63, t64, t65, t66, t67, t68, t69, t70, t71, t72, t73, t74, t75, t76, t77, t78, t79, t80, t81, t82, t83, t84, t85, t86, t87, t88, t89, t90, t91, t92, t93, t94, t95, t96, t97, t98, t99, t100, t101, t102, t103, t104, t105, t106, t107, t108, t109, t110, t111, t112, t113, t114, t115, t116, t117, t118, t119, t120, t121, t122, t123, t124, t125, t126, t127, t128, t129, t130, t131, t132, t133, t134, t135, t136, t137, t138, t139, t140, t141, t142, t143, t144, t145, t146, t147, t148, t149, t150, t151, t152, t153, t154, t155, t156, t157, t158, t159, t160, t161, t162, t163, t164, t165, t166, t167, t168, t169, t170, t171, t172, t173, t174, t175, t176, t177, t178, t179, t180, t181, t182, t183, t184, t185, t186, t187, t188, t189, t190, t191, t192, t193, t194, t195, t196, t197], []⟩ wx := fun wx vl vm E Dn q1 q2 q3 q4 t0 t1 t2 t3 t4 t5 t6 t7 t8 t9 t10 t11 t12 t15 t17 t20 t22 t23 t24 t25 t26 t27 t28 t29 t31 t32 t33 t34 t35 t36 t37 t38 t39 t40 t41 t42 t43 t44 t45 t46 t47 t48 t49 t50 t51 t52 t53 t54 t55 t56 t57 t58 t59 t60 t61 t62 t63 t64 t65 t66 t67 t68 t69 t70 t71 t72 t73 t74 t75 t76 t77 t78 t79 t80 t81 t82 t83 t84 t85 t86 t87 t88 t89 t90 t91 t92 t93 t94 t95 t96 t97 t98 t99 t100 t101 t102 t103 t104 t105 t106 t107 t108 t109 t110 t111 t112 t113 t114 t115 t116 t117 t118 t119 t120 t121 t122 t123 t124 t125 t126 t127 t128 t129 t130 t131 t132 t133 t134 t135 t136 t137 t138 t139 t140 t141 t142 t143 t144 t145 t146 t147 t148 t149 t150 t151 t152 t153 t154 t155 t156 t157 t158 t159 t160 t161 t162 t163 t164 t165 t166 t167 t168 t169 t170 t171 t172 t173 t174 t175 t176 t177 t178 t179 t180 t181 t182 t183 t184 t185 t186 t187 t188 t189 t190 t191 t192 t193 t194 t195 t196 t197 => aK _ _ (by
    obtain ⟨a1, a2, a3, a4, a5⟩ := unhide HC wx q4
    exact ownE_walk w g k b1 T0 N0 A tx wx vl vm E Dn q1 q2 q3 a1 a2 a4 (unhide HGA).1.1 (unhide HGA).2 a5.b1 a3 a5.v1 a5.p1 t0 t1 t2 t3 t4 t5 t6 t7 t8 t9 t10 t11 t12 t15 t17 t20 t22 t23 t24 t25 t26 t27 t28 t29 t31 t32 t33 t34 t35 t36 t37 t38 t39 t40 t41 t42 t43 t44 t45 t46 t47 t48 t49 t50 t51 t52 t53 t54 t55 t56 t57 t58 t59 t60 t61 t62 t63 t64 t65 t66 t67 t68 t69 t70 t71 t72 t73 t74 t75 t76 t77 t78 t79 t80 t81 t82 t83 t84 t85 t86 t87 t88 t89 t90 t91 t92 t93 t94 t95 t96 t97 t98 t99 t100 t101 t102 t103 t104 t105 t106 t107 t108 t109 t110 t111 t112 t113 t114 t115 t116 t117 t118 t119 t120 t121 t122 t123 t124 t125 t126 t127 t128 t129 t130 t131 t132 t133 t134 t135 t136 t137 t138 t139 t140 t141 t142 t143 t144 t145 t146 t147 t148 t149 t150 t151 t152 t153 t154 t155 t156 t157 t158 t159 t160 t161 t162 t163 t164 t165 t166 t167 t168 t169 t170 t171 t172 t173 t174 t175 t176 t177 t178 t179 t180 t181 t182 t183 t184 t185 t186 t187 t188 t189 t190 t191 t192 t193 t194 t195 t196 t197)
  have HK := hide hK
  clear hK aK
  go_loopw [31, 32, 33] (fun i _ _ wx => ∃ (m : Nat) (vl vm : Value) (E : List Vw), m ≤ 5 ∧ i = .int .i64 (m : Int) ∧ Bk wx N0 N0 vl vm E (E.map Vw.m) (fun b => b < N m) ∧ E.length = 24 * m ∧ (∀ e ∈ E, e.n ≤ 100) ∧ Gt wx T0 m A B R N (.slice (some ⟨g5, 0, none⟩) 5 c5) ∧ Only (fun b => T0 ≤ b) X wx) (fun i _ _ _ => 5 - (intOf i).toNat)
  case atStart => exact ⟨0, _, _, [], by omega, rfl, unhide HB0, rfl, fun e he => absurd he (by simp), unhide HG0, unhide HX0⟩
  case round =>
    obtain ⟨m, vl, vm, E, hm, rfl, hB, hE, hEn, hG, hX⟩ := hrel
    obtain ⟨wo, rfl⟩ : ∃ W, W = wr := ⟨_, rfl⟩
    by_cases hm5 : m < 5
    · have m0 : 0 ≤ (m : Int) := by omega
      have m1 : (m : Int) < 5 := by omega
      obtain ⟨q, hq⟩ : ∃ q, R[m]? = some q := ⟨_, List.getElem?_eq_getElem (by rw [unhide HR]; exact hm5)⟩
      obtain ⟨ga, hga, hr5, _, _⟩ := hG.at_ (unhide HR) m q hq
      obtain rfl := some_off hga
      have c3 : wo.cell? ⟨g5, m * 8 + 3, none⟩ = some (.slice q.vp q.vm q.vc) := hr5 3 _ rfl
      have hpk := (unhide HGA).1.1.pk (unhide HGA).1.2 m
      have HV := hide (ownsV hB hE hm5 hG (unhide HN).1 hq hpk)
      have HP := hide (fun w1 hQ => ownsP (w1 := w1) hE hEn hm5 hG (unhide HN).1 (unhide HN).2 hq hpk hQ)
      have HQ := hide hq
      have HXX := hide hX
      clear hB hE hEn hG hX hpk hq hr5 hga HB0 HG0 HX0
      go_wp2_with fail
      refine (unhide HV).mono ?_
      rintro e w1 ⟨rfl, hQ⟩
      obtain ⟨hG1, hO1, hC1⟩ := unhide HP w1 hQ
      obtain ⟨ga, hga, hr5, _, _⟩ := hG1.at_ (unhide HR) m q (unhide HQ)
      obtain rfl := some_off hga
      have c5 : w1.cell? ⟨g5, m * 8 + 5, none⟩ = some (.slice q.pp q.pm q.pc) := hr5 5 _ rfl
      have HC1 := hide hC1
      clear hG1 hO1 hC1 hQ hr5 hga HV HP c3
      go_wp2_with fail
      refine (unhide HC1).mono ?_
      rintro e w2 ⟨rfl, vl2, vm2, E2, hB2, hE2, hEn2, hG2, hO2⟩
      have HX2 := hide (show Only (fun b => T0 ≤ b) X w2 from (unhide HXX).trans hO2 (fun _ _ q => q))
      have HG2 := hide hG2
      have HB2 := hide (And.intro hB2 (And.intro hE2 hEn2))
      clear hB2 hE2 hEn2 hG2 hO2 HC1 HXX HQ c5
      go_wp2_with fail
      go_loopw [32, 33] (fun i _ wx => ∃ j : Nat, m + 1 ≤ j ∧ j ≤ 5 ∧ i = .int .i64 (j : Int) ∧ Below w2.heap.size w2 wx) (fun i _ _ => 5 - (intOf i).toNat)
      case atStart => exact ⟨m + 1, by omega, by omega, by go_num, Below.refl _ _⟩
      case round =>
        obtain ⟨j, hmj, hj, rfl, hbi⟩ := hrel
        obtain ⟨wi, rfl⟩ : ∃ W, W = wr := ⟨_, rfl⟩
        have HXI := hide (show Only (fun b => T0 ≤ b) X wi from (unhide HX2).trans (Only.of_below (P := fun b => T0 ≤ b) hbi) (fun _ _ q => q))
        have HGI := hide ((unhide HG2).below hbi (Nat.le_refl _))
        have HBI := hide hbi
        clear hbi
        by_cases hj5 : j < 5
        · skip
          obtain ⟨rj, hrj⟩ : ∃ q, R[j]? = some q := ⟨_, List.getElem?_eq_getElem (by rw [unhide HR]; exact hj5)⟩
          have j0 : 0 ≤ (j : Int) := by omega
          have j1 : (j : Int) < 5 := by omega
          have HWI := hide (unhide HC wi (unhide HXI))
          obtain ⟨g5', hp5', hr5', hg5a, hg5b⟩ := (unhide HGI).at_ (unhide HR) j rj hrj
          obtain rfl := some_off hp5'
          have HRJ := hide hr5'
          have HRW := hide (five_range (unhide HWI).2.2.2.2.bw j hj5)
          have HLT := hide (show ∀ W, Below wi.heap.size wi W → g5 < W.heap.size ∧ gw < W.heap.size from fun W hW => by
            have e1 := (unhide HWI).2.2.2.2.lt.2.2.2
            have e2 := (unhide HWI).2.2.1
            have e3 := hW.size
            exact ⟨by omega, by omega⟩)
          have HAL := hide (show ∀ W, Below wi.heap.size wi W → Calls Tryz.prog 18 #[.agg rj.cs, .agg (pk A B j).r.cs] W fun e w' => e = .returned (.bool true) ∧ Below W.heap.size W w' from fun W hW => by
            have e1 := ((unhide HGI).rm j rj (by omega) hrj).1
            have e2 := (unhide HWI).2.2.2.2.below hW (Nat.le_refl _)
            have e3 := W5.lst e2 j
            have e4 := hW.size
            have e5 := (unhide HWI).2.2.1
            exact alike12_eq rj (pk A B j).r W _ _ (ali_gd ((unhide HGA).1.1.pk (unhide HGA).1.2 j) (e1.below hW (Nat.le_refl _)) (show T0 ≤ W.heap.size by omega) e3.1 e3.2))
          clear hr5' hg5a hg5b hrj
          go_wp2_with fail
          refine wp_region_held_drew (S := fun W => Below wi.heap.size wi W ∧ W.rangeAt g5 (j * 8) rj.cl ∧ W.rangeAt gw (j * 8) (pk A B j).r.cl) (by kernel_rfl) ⟨(Below.refl _ _).drew, unhide HRJ, unhide HRW⟩ ?_
          intro hS
          refine wpAnyH_takeD 0 (some 157) (.slice (some ⟨g5, 0, none⟩) 5 c5) rfl rfl (by kernel_rfl) (by kernel_rfl) (by kernel_rfl) (fun _ _ _ h => h) (Or.inl ⟨by rfl, fun w hSw => by clear hSw; go_simp⟩) hS ?_
          simp only [Act.put, List.setIfInBounds_toArray, List.set_cons_zero, List.set_cons_succ]
          refine wpAnyH_takeD 1 (some 158) (.int .i64 (j : Int)) rfl rfl (by kernel_rfl) (by kernel_rfl) (by kernel_rfl) (fun _ _ _ h => h) (Or.inl ⟨by rfl, fun w hSw => by clear hSw; go_simp⟩) hS ?_
          simp only [Act.put, List.setIfInBounds_toArray, List.set_cons_zero, List.set_cons_succ]
          refine wpAnyH_takeD 2 (some 159) (.pointer (some ⟨g5, j * 8, none⟩)) rfl rfl (by kernel_rfl) (by kernel_rfl) (by kernel_rfl) (fun _ _ _ h => h) (Or.inl ⟨by rfl, fun w hSw => by clear hSw; go_simp⟩) hS ?_
          simp only [Act.put, List.setIfInBounds_toArray, List.set_cons_zero, List.set_cons_succ]
          refine wpAnyH_takeD 3 (some 160) (.agg rj.cs) rfl rfl (by kernel_rfl) (by kernel_rfl) (by kernel_rfl) (fun _ _ _ h => h) (yieldsIf_load_mid (by rfl) 34 (.tmp 159) rfl g5 (j * 8) rfl _ _ (fun _ h => h.2.1) Tryz.underlying34 rfl size_rep) hS ?_
          simp only [Act.put, List.setIfInBounds_toArray, List.set_cons_zero, List.set_cons_succ]
          refine wpAnyH_takeD 4 (some 161) (.slice (some ⟨gw, 0, none⟩) 5 5) rfl rfl (by kernel_rfl) (by kernel_rfl) (by kernel_rfl) (fun _ _ _ h => h) (Or.inl ⟨by rfl, fun w hSw => by clear hSw; go_simp⟩) hS ?_
          simp only [Act.put, List.setIfInBounds_toArray, List.set_cons_zero, List.set_cons_succ]
          refine wpAnyH_takeD 5 (some 162) (.int .i64 (j : Int)) rfl rfl (by kernel_rfl) (by kernel_rfl) (by kernel_rfl) (fun _ _ _ h => h) (Or.inl ⟨by rfl, fun w hSw => by clear hSw; go_simp⟩) hS ?_
          simp only [Act.put, List.setIfInBounds_toArray, List.set_cons_zero, List.set_cons_succ]
          refine wpAnyH_takeD 6 (some 163) (.pointer (some ⟨gw, j * 8, none⟩)) rfl rfl (by kernel_rfl) (by kernel_rfl) (by kernel_rfl) (fun _ _ _ h => h) (Or.inl ⟨by rfl, fun w hSw => by clear hSw; go_simp⟩) hS ?_
          simp only [Act.put, List.setIfInBounds_toArray, List.set_cons_zero, List.set_cons_succ]
          refine wpAnyH_takeD 7 (some 164) (.agg (pk A B j).r.cs) rfl rfl (by kernel_rfl) (by kernel_rfl) (by kernel_rfl) (fun _ _ _ h => h) (yieldsIf_load_mid (by rfl) 34 (.tmp 163) rfl gw (j * 8) rfl _ _ (fun _ h => h.2.2) Tryz.underlying34 rfl size_rep) hS ?_
          simp only [Act.put, List.setIfInBounds_toArray, List.set_cons_zero, List.set_cons_succ]
          refine wpAnyH_ready (rs := [8]) (by kernel_rfl) (by simp) ?_
          refine AllReadyH.cons rfl (fun K hK => ?_) AllReadyH.nil
          simp only [List.getElem_toArray, List.getElem_cons_succ, List.getElem_cons_zero]
          go_simp
          refine (unhide HAL _ hS.1).mono ?_
          rintro e y1 ⟨rfl, hy1⟩
          refine hK.out _ _ ⟨hS.1.trans (hy1.mono hS.1.size), range_below hS.2.1 hy1 (unhide HLT _ hS.1).1, range_below hS.2.2 hy1 (unhide HLT _ hS.1).2⟩ (fun hS => ?_)
          clear hK K
          refine wpAnyH_takeD 9 (some 33) (.bool true) rfl rfl (by kernel_rfl) (by kernel_rfl) (by kernel_rfl) (fun _ _ _ h => h) (Or.inl ⟨by rfl, fun w hSw => by clear hSw; go_simp⟩) hS ?_
          simp only [Act.put, List.setIfInBounds_toArray, List.set_cons_zero, List.set_cons_succ]
          refine wpAnyH_done (by kernel_rfl) ?_ _
          have HBJ := hide (show Below w2.heap.size w2 _ from (unhide HBI).trans (hS.1.mono (unhide HBI).size))
          clear hS
          go_wp2_with fail
          go_roundw
          case rel => exact ⟨j + 1, by omega, by omega, by go_num, unhide HBJ⟩
          case measure => simp [intOf]; omega
        · go_wp2_with fail
          go_roundw
          case rel =>
            obtain ⟨a1, a2, a3⟩ := unhide HB2
            exact ⟨m + 1, _, _, _, by omega, by go_num, a1.below (unhide HBI) (Nat.le_refl _), a2, a3, unhide HGI, unhide HXI⟩
          case measure => simp [intOf]; omega
    · have HBX := hide (And.intro hB (And.intro hE (And.intro hEn hX)))
      clear hB hE hEn hG hX HB0 HG0 HX0
      go_wp2_with fail
      obtain ⟨a1, a2, a3, a4⟩ := unhide HBX
      exact unhide HK wo vl vm E _ a1 (by omega) a3 a4 _ _ _ _ _ _ _ _ _ _ _ _ _ _ _ _ _ _ _ _ _ _ _ _ _ _ _ _ _ _ _ _ _ _ _ _ _ _ _ _ _ _ _ _ _ _ _ _ _ _ _ _ _ _ _ _ _ _ _ _ _ _ _ _ _ _ _ _ _ _ _ _ _ _ _ _ _ _ _ _ _ _ _ _ _ _ _ _ _ _ _ _ _ _ _ _ _ _ _ _ _ _ _ _ _ _ _ _ _ _ _ _ _ _ _ _ _ _ _ _ _ _ _ _ _ _ _ _ _ _ _ _ _ _ _ _ _ _ _ _ _ _ _ _ _ _ _ _ _ _ _ _ _ _ _ _ _ _ _ _ _ _ _ _ _ _ _ _ _ _ _ _ _ _ _ _ _ _ _ _ _ _ _ _ _ _ _ _ _ _ _
end Go.Proofs.YtclgkgaobjcifaaGreatDoor

namespace Go.Proofs.YtclgkgaobjcifaaGreatDoor
open Go.RowKit
set_option maxRecDepth 100000
noncomputable def ownC : Code := dropSeq 13 ((Tryz.f6.body).getD .skip)
set_option maxHeartbeats 16000000 in
theorem ownC_walk (w : World) (g k b1 b2 gt gw T0 : Nat) (A B : Rp) (tx : ByteArray) (X : World) (HCX : ∀ W, Only (fun b => T0 ≤ b) X W → Below g w W ∧ g ≤ W.heap.size ∧ T0 ≤ W.heap.size ∧ ETy W ∧ W5 W T0 (k : Int) b1 b2 gt gw A.r B.r A.V A.Pl B.V B.Pl (A.tx k) (B.tx k)) (hGA : GdP k A ∧ GdP k B) (htx : A.tx k = tx) (wr : World) (hX : Only (fun b => T0 ≤ b) X wr) (p5 : Option Addr) (c5 : Nat) (R : List Rep) (N : Nat → Nat) (hR : R.length = 5) (hGt : Gt wr T0 0 A B R N (.slice p5 5 c5)) (t0 t1 t2 t3 t4 t5 t6 t7 t8 t9 t10 t11 t12 t15 t17 t20 t22 t25 t26 t27 t28 t29 t30 t31 t32 t33 t34 t35 t36 t37 t38 t39 t40 t41 t42 t43 t44 t45 t46 t47 t48 t49 t50 t51 t52 t53 t54 t55 t56 t57 t58 t59 t60 t61 t62 t63 t64 t65 t66 t67 t68 t69 t70 t71 t72 t73 t74 t75 t76 t77 t78 t79 t80 t81 t82 t83 t84 t85 t86 t87 t88 t89 t90 t91 t92 t93 t94 t95 t96 t97 t98 t99 t100 t101 t102 t103 t104 t105 t106 t107 t108 t109 t110 t111 t112 t113 t114 t115 t116 t117 t118 t119 t120 t121 t122 t123 t124 t125 t126 t127 t128 t129 t130 t131 t132 t133 t134 t135 t136 t137 t138 t139 t140 t141 t142 t143 t144 t145 t146 t147 t148 t149 t150 t151 t152 t153 t154 t155 t156 t157 t158 t159 t160 t161 t162 t163 t164 t165 t166 t167 t168 t169 t170 t171 t172 t173 t174 t175 t176 t177 t178 t179 t180 t181 t182 t183 t184 t185 t186 t187 t188 t189 t190 t191 t192 t193 t194 t195 t196 t197 : Value) :
    Code.wp Tryz.prog ownC (bodyPost Tryz.prog Tryz.f6 fun e w' => e = .returned (.bool true) ∧ Below g w w') ⟨#[t0, t1, t2, t3, t4, t5, t6, t7, t8, t9, t10, t11, t12, .bool true, .int .i64 (k : Int), t15, .pointer (some ⟨b1, 0, none⟩), t17, .string tx, .int .i64 0, t20, .int .i64 0, t22, .slice (some ⟨gw, 0, none⟩) 5 5, .slice p5 5 c5, t25, t26, t27, t28, t29, t30, t31, t32, t33, t34, t35, t36, t37, t38, t39, t40, t41, t42, t43, t44, t45, t46, t47, t48, t49, t50, t51, t52, t53, t54, t55, t56, t57, t58, t59, t60, t61, t62, t63, t64, t65, t66, t67, t68, t69, t70, t71, t72, t73, t74, t75, t76, t77, t78, t79, t80, t81, t82, t83, t84, t85, t86, t87, t88, t89, t90, t91, t92, t93, t94, t95, t96, t97, t98, t99, t100, t101, t102, t103, t104, t105, t106, t107, t108, t109, t110, t111, t112, t113, t114, t115, t116, t117, t118, t119, t120, t121, t122, t123, t124, t125, t126, t127, t128, t129, t130, t131, t132, t133, t134, t135, t136, t137, t138, t139, t140, t141, t142, t143, t144, t145, t146, t147, t148, t149, t150, t151, t152, t153, t154, t155, t156, t157, t158, t159, t160, t161, t162, t163, t164, t165, t166, t167, t168, t169, t170, t171, t172, t173, t174, t175, t176, t177, t178, t179, t180, t181, t182, t183, t184, t185, t186, t187, t188, t189, t190, t191, t192, t193, t194, t195, t196, t197], []⟩ wr := by
  conv => arg 2; whnf
  obtain ⟨g5, rfl⟩ : ∃ g5, p5 = some ⟨g5, 0, none⟩ := by
    obtain ⟨g5, h, _⟩ := hGt.at_ hR 0 _ (List.getElem?_eq_getElem (by omega))
    exact ⟨g5, h⟩
  obtain ⟨wq, rfl⟩ : ∃ W, W = wr := ⟨_, rfl⟩
  have HR := hide hR
  have HC := hide HCX
  have HGA := hide (And.intro hGA htx)
  have HG2 := hide hGt
  have HX2 := hide hX
  clear hR hGt hX HCX hGA htx
  go_wp2_with fail
  rename_i K aK
  have hK : ∀ (wx : World) (_ : Below wq.heap.size wq wx) (t0 t1 t2 t3 t4 t5 t6 t7 t8 t9 t10 t11 t12 t15 t17 t20 t22 t25 t26 t27 t28 t29 t30 t31 t32 t33 t34 t35 t36 t37 t38 t39 t40 t41 t42 t43 t44 t45 t46 t47 t48 t49 t50 t51 t52 t53 t54 t55 t56 t57 t58 t59 t60 t61 t62 t63 t64 t65 t66 t67 t68 t69 t70 t71 t72 t73 t74 t75 t76 t77 t78 t79 t80 t81 t82 t83 t84 t85 t86 t87 t88 t89 t90 t91 t92 t93 t94 t95 t96 t97 t98 t99 t100 t101 t102 t103 t104 t105 t106 t107 t108 t109 t110 t111 t112 t113 t114 t115 t116 t117 t118 t119 t120 t121 t122 t123 t124 t125 t126 t127 t128 t129 t130 t131 t132 t133 t134 t135 t136 t137 t138 t139 t140 t141 t142 t143 t144 t145 t146 t147 t148 t149 t150 t151 t152 t153 t154 t155 t156 t157 t158 t159 t160 t161 t162 t163 t164 t165 t166 t167 t168 t169 t170 t171 t172 t173 t174 t175 t176 t177 t178 t179 t180 t181 t182 t183 t184 t185 t186 t187 t188 t189 t190 t191 t192 t193 t194 t195 t196 t197 : Value), K ⟨#[t0, t1, t2, t3, t4, t5, t6, t7, t8, t9, t10, t11, t12, .bool true, .int .i64 (k : Int), t15, .pointer (some ⟨b1, 0, none⟩), t17, .string tx, .int .i64 0, t20, .int .i64 0, t22, .slice (some ⟨gw, 0, none⟩) 5 5, .slice (some ⟨g5, 0, none⟩) 5 c5, t25, t26, t27, t28, t29, t30, t31, t32, t33, t34, t35, t36, t37, t38, t39, t40, t41, t42, t43, t44, t45, t46, t47, t48, t49, t50, t51, t52, t53, t54, t55, t56, t57, t58, t59, t60, t61, t62, t63, t64, t65, t66, t67, t68, t69, t70, t71, t72, t73, t74, t75, t76, t77, t78, t79, t80, t81, t82, t83, t84, t85, t86, t87, t88, t89, t90, t91, t92, t93, t94, t95, t96, t97, t98, t99, t100, t101, t102, t103, t104, t105, t106, t107, t108, t109, t110, t111, t112, t113, t114, t115, t116, t117, t118, t119, t120, t121, t122, t123, t124, t125, t126, t127, t128, t129, t130, t131, t132, t133, t134, t135, t136, t137, t138, t139, t140, t141, t142, t143, t144, t145, t146, t147, t148, t149, t150, t151, t152, t153, t154, t155, t156, t157, t158, t159, t160, t161, t162, t163, t164, t165, t166, t167, t168, t169, t170, t171, t172, t173, t174, t175, t176, t177, t178, t179, t180, t181, t182, t183, t184, t185, t186, t187, t188, t189, t190, t191, t192, t193, t194, t195, t196, t197], []⟩ wx := fun wx q1 t0 t1 t2 t3 t4 t5 t6 t7 t8 t9 t10 t11 t12 t15 t17 t20 t22 t25 t26 t27 t28 t29 t30 t31 t32 t33 t34 t35 t36 t37 t38 t39 t40 t41 t42 t43 t44 t45 t46 t47 t48 t49 t50 t51 t52 t53 t54 t55 t56 t57 t58 t59 t60 t61 t62 t63 t64 t65 t66 t67 t68 t69 t70 t71 t72 t73 t74 t75 t76 t77 t78 t79 t80 t81 t82 t83 t84 t85 t86 t87 t88 t89 t90 t91 t92 t93 t94 t95 t96 t97 t98 t99 t100 t101 t102 t103 t104 t105 t106 t107 t108 t109 t110 t111 t112 t113 t114 t115 t116 t117 t118 t119 t120 t121 t122 t123 t124 t125 t126 t127 t128 t129 t130 t131 t132 t133 t134 t135 t136 t137 t138 t139 t140 t141 t142 t143 t144 t145 t146 t147 t148 t149 t150 t151 t152 t153 t154 t155 t156 t157 t158 t159 t160 t161 t162 t163 t164 t165 t166 t167 t168 t169 t170 t171 t172 t173 t174 t175 t176 t177 t178 t179 t180 t181 t182 t183 t184 t185 t186 t187 t188 t189 t190 t191 t192 t193 t194 t195 t196 t197 => aK _ _ (by
    exact ownD_walk w g k b1 b2 gt gw T0 A B tx X (unhide HC) (unhide HGA).1 (unhide HGA).2 wx ((unhide HX2).trans (Only.of_below (P := fun b => T0 ≤ b) q1) (fun _ _ q => q)) _ _ R N (unhide HR) ((unhide HG2).below q1 (Nat.le_refl _)) t0 t1 t2 t3 t4 t5 t6 t7 t8 t9 t10 t11 t12 t15 t17 t20 t22 t25 t26 t27 t28 t29 t30 t31 t32 t33 t34 t35 t36 t37 t38 t39 t40 t41 t42 t43 t44 t45 t46 t47 t48 t49 t50 t51 t52 t53 t54 t55 t56 t57 t58 t59 t60 t61 t62 t63 t64 t65 t66 t67 t68 t69 t70 t71 t72 t73 t74 t75 t76 t77 t78 t79 t80 t81 t82 t83 t84 t85 t86 t87 t88 t89 t90 t91 t92 t93 t94 t95 t96 t97 t98 t99 t100 t101 t102 t103 t104 t105 t106 t107 t108 t109 t110 t111 t112 t113 t114 t115 t116 t117 t118 t119 t120 t121 t122 t123 t124 t125 t126 t127 t128 t129 t130 t131 t132 t133 t134 t135 t136 t137 t138 t139 t140 t141 t142 t143 t144 t145 t146 t147 t148 t149 t150 t151 t152 t153 t154 t155 t156 t157 t158 t159 t160 t161 t162 t163 t164 t165 t166 t167 t168 t169 t170 t171 t172 t173 t174 t175 t176 t177 t178 t179 t180 t181 t182 t183 t184 t185 t186 t187 t188 t189 t190 t191 t192 t193 t194 t195 t196 t197)
  have HK := hide hK
  clear hK aK
  go_loopw [28, 29] (fun i _ wx => ∃ j : Nat, j ≤ 5 ∧ i = .int .i64 (j : Int) ∧ Below wq.heap.size wq wx) (fun i _ _ => 5 - (intOf i).toNat)
  case atStart => exact ⟨0, by omega, rfl, Below.refl _ _⟩
  case round =>
    obtain ⟨j, hj, rfl, hbi⟩ := hrel
    obtain ⟨wi, rfl⟩ : ∃ W, W = wr := ⟨_, rfl⟩
    have HXI := hide (show Only (fun b => T0 ≤ b) X wi from (unhide HX2).trans (Only.of_below (P := fun b => T0 ≤ b) hbi) (fun _ _ q => q))
    have HGI := hide ((unhide HG2).below hbi (Nat.le_refl _))
    have HBI := hide hbi
    clear hbi
    by_cases hj5 : j < 5
    · skip
      obtain ⟨rj, hrj⟩ : ∃ q, R[j]? = some q := ⟨_, List.getElem?_eq_getElem (by rw [unhide HR]; exact hj5)⟩
      have j0 : 0 ≤ (j : Int) := by omega
      have j1 : (j : Int) < 5 := by omega
      have HWI := hide (unhide HC wi (unhide HXI))
      obtain ⟨g5', hp5', hr5', hg5a, hg5b⟩ := (unhide HGI).at_ (unhide HR) j rj hrj
      obtain rfl := some_off hp5'
      have HRJ := hide hr5'
      have HRW := hide (five_range (unhide HWI).2.2.2.2.bw j hj5)
      have HLT := hide (show ∀ W, Below wi.heap.size wi W → g5 < W.heap.size ∧ gw < W.heap.size from fun W hW => by
        have e1 := (unhide HWI).2.2.2.2.lt.2.2.2
        have e2 := (unhide HWI).2.2.1
        have e3 := hW.size
        exact ⟨by omega, by omega⟩)
      have HAL := hide (show ∀ W, Below wi.heap.size wi W → Calls Tryz.prog 18 #[.agg rj.cs, .agg (pk A B j).r.cs] W fun e w' => e = .returned (.bool true) ∧ Below W.heap.size W w' from fun W hW => by
        have e1 := ((unhide HGI).rm j rj (by omega) hrj).1
        have e2 := (unhide HWI).2.2.2.2.below hW (Nat.le_refl _)
        have e3 := W5.lst e2 j
        have e4 := hW.size
        have e5 := (unhide HWI).2.2.1
        exact alike12_eq rj (pk A B j).r W _ _ (ali_gd ((unhide HGA).1.1.pk (unhide HGA).1.2 j) (e1.below hW (Nat.le_refl _)) (show T0 ≤ W.heap.size by omega) e3.1 e3.2))
      clear hr5' hg5a hg5b hrj
      go_wp2_with fail
      refine wp_region_held_drew (S := fun W => Below wi.heap.size wi W ∧ W.rangeAt g5 (j * 8) rj.cl ∧ W.rangeAt gw (j * 8) (pk A B j).r.cl) (by kernel_rfl) ⟨(Below.refl _ _).drew, unhide HRJ, unhide HRW⟩ ?_
      intro hS
      refine wpAnyH_takeD 0 (some 116) (.slice (some ⟨g5, 0, none⟩) 5 c5) rfl rfl (by kernel_rfl) (by kernel_rfl) (by kernel_rfl) (fun _ _ _ h => h) (Or.inl ⟨by rfl, fun w hSw => by clear hSw; go_simp⟩) hS ?_
      simp only [Act.put, List.setIfInBounds_toArray, List.set_cons_zero, List.set_cons_succ]
      refine wpAnyH_takeD 1 (some 117) (.int .i64 (j : Int)) rfl rfl (by kernel_rfl) (by kernel_rfl) (by kernel_rfl) (fun _ _ _ h => h) (Or.inl ⟨by rfl, fun w hSw => by clear hSw; go_simp⟩) hS ?_
      simp only [Act.put, List.setIfInBounds_toArray, List.set_cons_zero, List.set_cons_succ]
      refine wpAnyH_takeD 2 (some 118) (.pointer (some ⟨g5, j * 8, none⟩)) rfl rfl (by kernel_rfl) (by kernel_rfl) (by kernel_rfl) (fun _ _ _ h => h) (Or.inl ⟨by rfl, fun w hSw => by clear hSw; go_simp⟩) hS ?_
      simp only [Act.put, List.setIfInBounds_toArray, List.set_cons_zero, List.set_cons_succ]
      refine wpAnyH_takeD 3 (some 119) (.agg rj.cs) rfl rfl (by kernel_rfl) (by kernel_rfl) (by kernel_rfl) (fun _ _ _ h => h) (yieldsIf_load_mid (by rfl) 34 (.tmp 118) rfl g5 (j * 8) rfl _ _ (fun _ h => h.2.1) Tryz.underlying34 rfl size_rep) hS ?_
      simp only [Act.put, List.setIfInBounds_toArray, List.set_cons_zero, List.set_cons_succ]
      refine wpAnyH_takeD 4 (some 120) (.slice (some ⟨gw, 0, none⟩) 5 5) rfl rfl (by kernel_rfl) (by kernel_rfl) (by kernel_rfl) (fun _ _ _ h => h) (Or.inl ⟨by rfl, fun w hSw => by clear hSw; go_simp⟩) hS ?_
      simp only [Act.put, List.setIfInBounds_toArray, List.set_cons_zero, List.set_cons_succ]
      refine wpAnyH_takeD 5 (some 121) (.int .i64 (j : Int)) rfl rfl (by kernel_rfl) (by kernel_rfl) (by kernel_rfl) (fun _ _ _ h => h) (Or.inl ⟨by rfl, fun w hSw => by clear hSw; go_simp⟩) hS ?_
      simp only [Act.put, List.setIfInBounds_toArray, List.set_cons_zero, List.set_cons_succ]
      refine wpAnyH_takeD 6 (some 122) (.pointer (some ⟨gw, j * 8, none⟩)) rfl rfl (by kernel_rfl) (by kernel_rfl) (by kernel_rfl) (fun _ _ _ h => h) (Or.inl ⟨by rfl, fun w hSw => by clear hSw; go_simp⟩) hS ?_
      simp only [Act.put, List.setIfInBounds_toArray, List.set_cons_zero, List.set_cons_succ]
      refine wpAnyH_takeD 7 (some 123) (.agg (pk A B j).r.cs) rfl rfl (by kernel_rfl) (by kernel_rfl) (by kernel_rfl) (fun _ _ _ h => h) (yieldsIf_load_mid (by rfl) 34 (.tmp 122) rfl gw (j * 8) rfl _ _ (fun _ h => h.2.2) Tryz.underlying34 rfl size_rep) hS ?_
      simp only [Act.put, List.setIfInBounds_toArray, List.set_cons_zero, List.set_cons_succ]
      refine wpAnyH_ready (rs := [8]) (by kernel_rfl) (by simp) ?_
      refine AllReadyH.cons rfl (fun K hK => ?_) AllReadyH.nil
      simp only [List.getElem_toArray, List.getElem_cons_succ, List.getElem_cons_zero]
      go_simp
      refine (unhide HAL _ hS.1).mono ?_
      rintro e y1 ⟨rfl, hy1⟩
      refine hK.out _ _ ⟨hS.1.trans (hy1.mono hS.1.size), range_below hS.2.1 hy1 (unhide HLT _ hS.1).1, range_below hS.2.2 hy1 (unhide HLT _ hS.1).2⟩ (fun hS => ?_)
      clear hK K
      refine wpAnyH_takeD 9 (some 29) (.bool true) rfl rfl (by kernel_rfl) (by kernel_rfl) (by kernel_rfl) (fun _ _ _ h => h) (Or.inl ⟨by rfl, fun w hSw => by clear hSw; go_simp⟩) hS ?_
      simp only [Act.put, List.setIfInBounds_toArray, List.set_cons_zero, List.set_cons_succ]
      refine wpAnyH_done (by kernel_rfl) ?_ _
      have HBJ := hide (show Below wq.heap.size wq _ from (unhide HBI).trans (hS.1.mono (unhide HBI).size))
      clear hS
      go_wp2_with fail
      go_roundw
      case rel => exact ⟨j + 1, by omega, by go_num, unhide HBJ⟩
      case measure => simp [intOf]; omega
    · go_wp2_with fail
      exact unhide HK wi (unhide HBI) _ _ _ _ _ _ _ _ _ _ _ _ _ _ _ _ _ _ _ _ _ _ _ _ _ _ _ _ _ _ _ _ _ _ _ _ _ _ _ _ _ _ _ _ _ _ _ _ _ _ _ _ _ _ _ _ _ _ _ _ _ _ _ _ _ _ _ _ _ _ _ _ _ _ _ _ _ _ _ _ _ _ _ _ _ _ _ _ _ _ _ _ _ _ _ _ _ _ _ _ _ _ _ _ _ _ _ _ _ _ _ _ _ _ _ _ _ _ _ _ _ _ _ _ _ _ _ _ _ _ _ _ _ _ _ _ _ _ _ _ _ _ _ _ _ _ _ _ _ _ _ _ _ _ _ _ _ _ _ _ _ _ _ _ _ _ _ _ _ _ _ _ _ _ _ _ _ _ _ _ _ _ _ _ _ _ _ _ _ _
end Go.Proofs.YtclgkgaobjcifaaGreatDoor
