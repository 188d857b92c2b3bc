import Derived.Test.YtkkndlkelpdehaaGreatDoorMr38
import Derived.Deep.CutBlock
namespace Go.Proofs.YtkkndlkelpdehaaGreatDoor
open Go.RowKit Go.Maps Go.Sort Go.Shelf
set_option maxRecDepth 100000 in
set_option maxHeartbeats 40000000 in
theorem keeps_walk (x0 x1 : Int) (hx0 : I64 x0) (hx1 : I64 x1) (p : Option Addr) (c : Nat) (os : List Op6) (n : Nat) (hn : n = os.length) (w : World) (hg : ETy w) (ho : Ops6 w p os) (hwo : Wop os) (hz : n ≤ 209715) (hss : ∀ i, i < n → (os.getD i op60).s.size ≤ 1048576) :
    Calls Tryz.prog 3 #[.int .i64 x0, .int .i64 x1, .slice p n c] w fun e w' => e = .returned (.bool true) ∧ Below w.heap.size w w' := by
  have HP0 := hide (fun W => pick6_any x0 65 (by decide) hx0 65 rfl W)
  have HP1 := hide (fun W => pick6_any x1 65 (by decide) hx1 65 rfl W)
  have hl0 := pickP_lt x0 65 (by decide)
  have hl1 := pickP_lt x1 65 (by decide)
  generalize pickP x0 65 = k1 at *
  generalize pickP x1 65 = k2 at *
  have HFR := hide (pfresh_any k1 (by omega) w hg)
  have HA := hide (And.intro hn (And.intro ho (And.intro hwo hss)))
  have HG := hide hg
  clear hg hn ho hwo hss hx0 hx1
  go_enter Tryz.func3, Tryz.ntmps3
  go_wp2_with (go_at_call 5; refine (unhide HP0 _).mono ?_; rintro e w' ⟨rfl, hw'⟩; subst w')
  refine (unhide HFR).mono ?_
  rintro e y1 ⟨b1, j1, p1, rfl, K1⟩
  have HF2 := hide (pfresh_any k2 (by omega) y1 ((unhide HG).below K1.bel (unhide HG).lt))
  have HK1 := hide K1
  clear K1 HFR
  go_wp2_with (go_at_call 5; refine (unhide HP1 _).mono ?_; rintro e w' ⟨rfl, hw'⟩; subst w')
  refine (unhide HF2).mono ?_
  rintro e y2 ⟨b2, j2, p2, rfl, K2⟩
  have X0 := hide (show KpR w b1 j1 p1 (freshP k1) b2 j2 p2 (freshP k2) k1 k2 L0 A0 0 (zF 128) (zF 128) 0 y2 from ⟨P2.make (unhide HK1) K2, ⟨seen0 k1, seen0 k2, rfl, rfl, rfl, by show (0 : Int) ≤ 0 ∧ (0 : Int) ≤ 0 ∧ (0 : Int) ≤ 0 ∧ (0 : Int) ≤ 0 ∧ (0 : Int) + 0 ≤ ((0 : Nat) : Int); decide⟩, by decide, ⟨fun q => by omega, fun q => by omega, by decide⟩, rfl, rfl⟩)
  clear K2 HK1 HF2
  go_wp2
  rename_i K aK
  have hK : ∀ (wx : World) (S T : PS) (L : List ByteArray) (A : List (Nat × Nat)) (hn : Nat) (Mw Mn : List ByteArray) (k : Nat) (_ : 4 ≤ k) (_ : k ≤ 209719) (_ : KpR w b1 j1 p1 S b2 j2 p2 T k1 k2 L A hn Mw Mn k wx) (t2 t3 t4 t5 t6 t11 t12 t13 t14 t15 t16 t17 t18 t19 t20 t21 t22 t23 t24 t25 t26 t27 t28 t29 t30 t31 t32 t33 t34 t35 t36 t37 t38 t39 t40 t41 t42 t43 t44 t45 t46 t47 t48 t49 t50 t51 t52 t53 t54 t55 t56 t57 t58 t59 t60 t61 t62 t63 t64 t65 t66 t67 t68 t69 t70 t71 t72 t73 t74 t75 t76 t77 t78 t79 t80 t81 t82 t83 t84 t85 t86 t87 t88 t89 t90 t91 t92 t93 t94 t95 t96 t97 t98 t99 t100 t101 t102 t103 t104 t105 t106 t107 t108 t109 t110 t111 t112 t113 t114 t115 t116 t117 t118 t119 t120 t121 t122 t123 t124 t125 t126 t127 t128 t129 t130 t131 t132 t133 t134 t135 t136 t137 t138 t139 t140 t141 t142 t143 t144 t145 t146 t147 t148 t149 t150 t151 t152 t153 t154 t155 t156 t157 t158 t159 t160 t161 t162 t163 t164 t165 t166 t167 t168 t169 t170 t171 t172 t173 t174 t175 t176 t177 t178 t179 t180 t181 t182 t183 t184 t185 t186 t187 t188 t189 t190 t191 t192 t193 t194 t195 t196 t197 t198 t199 t200 t201 t202 t203 t204 t205 t206 t207 t208 : Value), K ⟨#[.int .i64 x0, .int .i64 x1, t2, t3, t4, t5, t6, .pointer (some ⟨b1, 0, none⟩), .pointer (some ⟨p1, 0, none⟩), .pointer (some ⟨b2, 0, none⟩), .pointer (some ⟨p2, 0, none⟩), t11, t12, t13, t14, t15, t16, t17, t18, t19, t20, t21, t22, t23, t24, t25, t26, t27, t28, t29, t30, t31, t32, t33, t34, t35, t36, t37, t38, t39, t40, t41, t42, t43, t44, t45, t46, t47, t48, t49, t50, t51, t52, t53, t54, t55, t56, t57, t58, t59, t60, t61, t62, t63, t64, t65, t66, t67, t68, t69, t70, t71, t72, t73, t74, t75, t76, t77, t78, t79, t80, t81, t82, t83, t84, t85, t86, t87, t88, t89, t90, t91, t92, t93, t94, t95, t96, t97, t98, t99, t100, t101, t102, t103, t104, t105, t106, t107, t108, t109, t110, t111, t112, t113, t114, t115, t116, t117, t118, t119, t120, t121, t122, t123, t124, t125, t126, t127, t128, t129, t130, t131, t132, t133, t134, t135, t136, t137, t138, t139, t140, t141, t142, t143, t144, t145, t146, t147, t148, t149, t150, t151, t152, t153, t154, t155, t156, t157, t158, t159, t160, t161, t162, t163, t164, t165, t166, t167, t168, t169, t170, t171, t172, t173, t174, t175, t176, t177, t178, t179, t180, t181, t182, t183, t184, t185, t186, t187, t188, t189, t190, t191, t192, t193, t194, t195, t196, t197, t198, t199, t200, t201, t202, t203, t204, t205, t206, t207, t208], []⟩ wx := fun wx S T L A hn Mw Mn k q1 q2 q3 t2 t3 t4 t5 t6 t11 t12 t13 t14 t15 t16 t17 t18 t19 t20 t21 t22 t23 t24 t25 t26 t27 t28 t29 t30 t31 t32 t33 t34 t35 t36 t37 t38 t39 t40 t41 t42 t43 t44 t45 t46 t47 t48 t49 t50 t51 t52 t53 t54 t55 t56 t57 t58 t59 t60 t61 t62 t63 t64 t65 t66 t67 t68 t69 t70 t71 t72 t73 t74 t75 t76 t77 t78 t79 t80 t81 t82 t83 t84 t85 t86 t87 t88 t89 t90 t91 t92 t93 t94 t95 t96 t97 t98 t99 t100 t101 t102 t103 t104 t105 t106 t107 t108 t109 t110 t111 t112 t113 t114 t115 t116 t117 t118 t119 t120 t121 t122 t123 t124 t125 t126 t127 t128 t129 t130 t131 t132 t133 t134 t135 t136 t137 t138 t139 t140 t141 t142 t143 t144 t145 t146 t147 t148 t149 t150 t151 t152 t153 t154 t155 t156 t157 t158 t159 t160 t161 t162 t163 t164 t165 t166 t167 t168 t169 t170 t171 t172 t173 t174 t175 t176 t177 t178 t179 t180 t181 t182 t183 t184 t185 t186 t187 t188 t189 t190 t191 t192 t193 t194 t195 t196 t197 t198 t199 t200 t201 t202 t203 t204 t205 t206 t207 t208 => aK _ _ (keepE_walk x0 x1 k1 k2 (unhide HP0) (unhide HP1) w b1 j1 p1 b2 j2 p2 S T L A hn Mw Mn k q1 q2 wx q3 t2 t3 t4 t5 t6 t11 t12 t13 t14 t15 t16 t17 t18 t19 t20 t21 t22 t23 t24 t25 t26 t27 t28 t29 t30 t31 t32 t33 t34 t35 t36 t37 t38 t39 t40 t41 t42 t43 t44 t45 t46 t47 t48 t49 t50 t51 t52 t53 t54 t55 t56 t57 t58 t59 t60 t61 t62 t63 t64 t65 t66 t67 t68 t69 t70 t71 t72 t73 t74 t75 t76 t77 t78 t79 t80 t81 t82 t83 t84 t85 t86 t87 t88 t89 t90 t91 t92 t93 t94 t95 t96 t97 t98 t99 t100 t101 t102 t103 t104 t105 t106 t107 t108 t109 t110 t111 t112 t113 t114 t115 t116 t117 t118 t119 t120 t121 t122 t123 t124 t125 t126 t127 t128 t129 t130 t131 t132 t133 t134 t135 t136 t137 t138 t139 t140 t141 t142 t143 t144 t145 t146 t147 t148 t149 t150 t151 t152 t153 t154 t155 t156 t157 t158 t159 t160 t161 t162 t163 t164 t165 t166 t167 t168 t169 t170 t171 t172 t173 t174 t175 t176 t177 t178 t179 t180 t181 t182 t183 t184 t185 t186 t187 t188 t189 t190 t191 t192 t193 t194 t195 t196 t197 t198 t199 t200 t201 t202 t203 t204 t205 t206 t207 t208)
  have HK := hide hK
  clear hK aK
  go_loopw [11] (fun i wr => ∃ k : Nat, k ≤ n + 4 ∧ i = .int .i64 ((k : Int) - 4) ∧ ∃ S T L A hn Mw Mn, KpR w b1 j1 p1 S b2 j2 p2 T k1 k2 L A hn Mw Mn k wr) (fun i _ => ((n : Int) - intOf i).toNat)
  case atStart => exact ⟨0, by omega, rfl, _, _, _, _, _, _, _, unhide X0⟩
  case round =>
    obtain ⟨k, hk, rfl, S, T, L, A, hn, Mw, Mn, R⟩ := hrel
    obtain ⟨wo', rfl⟩ : ∃ wo', wo' = wr := ⟨_, rfl⟩
    clear X0
    obtain ⟨j, hj⟩ : ∃ j : Int, (k : Int) - 4 = j := ⟨_, rfl⟩
    rw [hj]
    have HJ := hide hj
    have j0 : -4 ≤ j := by omega
    have j1' : j ≤ 1048576 := by omega
    by_cases hjn : j < (n : Int)
    · obtain ⟨r, hr⟩ : ∃ r : Nat, (j + 4).tmod 4 = (r : Int) ∧ r < 4 ∧ r = k % 4 := ⟨k % 4, by rw [Int.tmod_eq_emod_of_nonneg (by omega)]; omega, Nat.mod_lt _ (by decide), rfl⟩
      have hr1 := hr.1
      have hr2 : (r : Int) < 4 := by have := hr.2.1; omega
      have hr3 : (0 : Int) ≤ (r : Int) := by omega
      obtain ⟨kd0, hkd0⟩ : ∃ z : Int, (#[Value.int .i64 1, .int .i64 3, .int .i64 5, .int .i64 2] : Array Value)[r]? = some (.int .i64 z) ∧ I64 z ∧ (r = 0 → z = 1) ∧ (r = 1 → z = 3) ∧ (r = 2 → z = 5) := by
        have h3 := hr.2.1
        match r, h3 with
        | 0, _ => exact ⟨1, rfl, ⟨by decide, by decide⟩, by decide⟩
        | 1, _ => exact ⟨3, rfl, ⟨by decide, by decide⟩, by decide⟩
        | 2, _ => exact ⟨5, rfl, ⟨by decide, by decide⟩, by decide⟩
        | 3, _ => exact ⟨2, rfl, ⟨by decide, by decide⟩, by decide⟩
      have ck : (wo'.alloc (.cells #[.int .i64 1, .int .i64 3, .int .i64 5, .int .i64 2] 3)).cell? ⟨wo'.heap.size, r, none⟩ = some (.int .i64 kd0) := ((Blk.new wo' 3 #[.int .i64 1, .int .i64 3, .int .i64 5, .int .i64 2]).cell r).trans hkd0.1
      have HKD0 := hide (show (k = 0 → kd0 = 1) ∧ (k = 1 → kd0 = 3) ∧ (k = 2 → kd0 = 5) from ⟨fun q => hkd0.2.2.1 (by omega), fun q => hkd0.2.2.2.1 (by omega), fun q => hkd0.2.2.2.2 (by omega)⟩)
      have HR := hide R
      have HKN := hide hk
      clear hr hkd0 R hj hk
      go_upto_if 57 with fail
      go_cut [12] (fun s12 wx => ∃ (g13 : Nat) (kd nn : Int) (ss : ByteArray) (sp : Option Addr) (sl sc : Nat), s12 = .pointer (some ⟨g13, 0, none⟩) ∧ Blk wx g13 #[.int .i64 kd, .int .i64 nn, .string ss, .slice sp sl sc] 30 ∧ KpR w b1 j1 p1 S b2 j2 p2 T k1 k2 L A hn Mw Mn k wx ∧ ((k = 0 → kd = 1) ∧ (k = 1 → kd = 3) ∧ (k = 2 → kd = 5)) ∧ I64 nn ∧ ss.size ≤ 1048576)
      case first =>
        by_cases hj0 : 0 ≤ j
        · obtain ⟨jn, hjn'⟩ : ∃ m : Nat, j = (m : Int) := ⟨j.toNat, by omega⟩
          subst hjn'
          have hji : jn < n := by omega
          have R0 := unhide HR
          obtain ⟨go, oo, lv, hpo, hgo, d0, d1, d2, d3, sp, sl, sc, hlv⟩ := (unhide HA).2.1.below R0.pp.bel (Nat.le_refl _) jn (by have := (unhide HA).1; omega)
          subst hpo hlv
          have HW := hide (And.intro ((unhide HA).2.2.1 jn).2 ((unhide HA).2.2.2 jn hji))
          obtain ⟨kd, hkd⟩ : ∃ z, (os.getD jn op60).kind = z := ⟨_, rfl⟩
          obtain ⟨nn, hnn⟩ : ∃ z, (os.getD jn op60).n = z := ⟨_, rfl⟩
          obtain ⟨ss, hss⟩ : ∃ z, (os.getD jn op60).s = z := ⟨_, rfl⟩
          rw [hkd] at d0
          rw [hnn] at d1 HW
          rw [hss] at d2 HW
          have up : ∀ q v, wo'.cell? ⟨go, q, none⟩ = some v → ((wo'.alloc (.cells #[.int .i64 1, .int .i64 3, .int .i64 5, .int .i64 2] 3)).alloc (.cells #[.int .i64 kd0, .int .i64 3, .string ⟨#[113]⟩, .slice none 0 0] 30)).cell? ⟨go, q, none⟩ = some v := fun q v h => by
            rw [World.cell?_alloc_old _ _ _ (by show go ≠ _; simp; omega), World.cell?_alloc_old _ _ _ (by show go ≠ _; omega)]
            exact h
          have e0 := up _ _ d0
          have e1 := up _ _ d1
          have e2 := up _ _ d2
          have e3 := up _ _ d3
          have hb1 : decide ((0 : Int) ≤ (jn : Int)) = true := decide_eq_true (by omega)
          clear up d0 d1 d2 d3 hkd hnn hss R0 hgo
          have BX0 : Blk ((wo'.alloc (.cells #[.int .i64 1, .int .i64 3, .int .i64 5, .int .i64 2] 3)).alloc (.cells #[.int .i64 kd, .int .i64 nn, .string ss, .slice sp sl sc] 30)) (wo'.heap.size + 1) #[.int .i64 kd, .int .i64 nn, .string ss, .slice sp sl sc] 30 := by
            have := Blk.new (wo'.alloc (.cells #[.int .i64 1, .int .i64 3, .int .i64 5, .int .i64 2] 3)) 30 #[.int .i64 kd, .int .i64 nn, .string ss, .slice sp sl sc]
            rwa [show (wo'.alloc (.cells #[.int .i64 1, .int .i64 3, .int .i64 5, .int .i64 2] 3)).heap.size = wo'.heap.size + 1 by simp] at this
          have hbX : Below wo'.heap.size wo' ((wo'.alloc (.cells #[.int .i64 1, .int .i64 3, .int .i64 5, .int .i64 2] 3)).alloc (.cells #[.int .i64 kd, .int .i64 nn, .string ss, .slice sp sl sc] 30)) := ((Below.refl _ wo').alloc (Nat.le_refl _) _).alloc (by simp) _
          have BX := hide BX0
          have HX := hide ((unhide HR).below hbX)
          have HKD := hide (show (k = 0 → kd = 1) ∧ (k = 1 → kd = 3) ∧ (k = 2 → kd = 5) from by have := unhide HJ; exact ⟨fun q => by omega, fun q => by omega, fun q => by omega⟩)
          clear BX0 hbX HKD0
          go_wp2_with fail
          go_meet
          exact ⟨_, _, _, _, _, _, _, rfl, unhide BX, unhide HX, unhide HKD, unhide HW⟩
        · have hb1 : decide ((0 : Int) ≤ j) = false := decide_eq_false (by omega)
          have hlt : j < 0 := by omega
          have BX0 : Blk ((wo'.alloc (.cells #[.int .i64 1, .int .i64 3, .int .i64 5, .int .i64 2] 3)).alloc (.cells #[.int .i64 kd0, .int .i64 3, .string ⟨#[113]⟩, .slice none 0 0] 30)) (wo'.heap.size + 1) #[.int .i64 kd0, .int .i64 3, .string ⟨#[113]⟩, .slice none 0 0] 30 := by
            have := Blk.new (wo'.alloc (.cells #[.int .i64 1, .int .i64 3, .int .i64 5, .int .i64 2] 3)) 30 #[.int .i64 kd0, .int .i64 3, .string ⟨#[113]⟩, .slice none 0 0]
            rwa [show (wo'.alloc (.cells #[.int .i64 1, .int .i64 3, .int .i64 5, .int .i64 2] 3)).heap.size = wo'.heap.size + 1 by simp] at this
          have hbX : Below wo'.heap.size wo' ((wo'.alloc (.cells #[.int .i64 1, .int .i64 3, .int .i64 5, .int .i64 2] 3)).alloc (.cells #[.int .i64 kd0, .int .i64 3, .string ⟨#[113]⟩, .slice none 0 0] 30)) := ((Below.refl _ wo').alloc (Nat.le_refl _) _).alloc (by simp) _
          have BX := hide BX0
          have HX := hide ((unhide HR).below hbX)
          clear BX0 hbX
          go_wp2_with fail
          go_meet
          exact ⟨_, _, _, _, _, _, _, rfl, unhide BX, unhide HX, unhide HKD0, ⟨by decide, by decide⟩, by decide⟩
      case rest =>
        obtain ⟨g13, kd, nn, ss, sp, sl, sc, rfl, hBX, hR, hKD, hW⟩ := hcut
        obtain ⟨X, rfl⟩ : ∃ Z, Z = wc := ⟨_, rfl⟩
        have BX := hide hBX
        have HX := hide hR
        have HKD := hide hKD
        have HW := hide hW
        have c1 : X.cell? ⟨g13, 1, none⟩ = some (.int .i64 nn) := hBX.cell 1
        clear hBX hR hKD hW HR ck HKD0
        go_wp2_with fail
        refine (home_any nn (unhide HW).1 X).mono ?_
        rintro e X' ⟨rfl, hX'⟩
        subst X'
        obtain ⟨hm, hhm⟩ : ∃ m : Nat, homeP nn = (m : Int) ∧ 19 ≤ m ∧ m < 128 := ⟨19 + pickP nn 20, by unfold homeP; omega, by omega, by have := pickP_lt nn 20 (by decide); omega⟩
        rw [hhm.1]
        have hm1 := hhm.2.1
        have hm2 := hhm.2.2
        clear hhm
        have c0 : X.cell? ⟨g13, 0, none⟩ = some (.int .i64 kd) := (unhide BX).cell 0
        clear c1
        go_upto_block 2 with fail
        clear c0
        go_cut [14, 15, 16, 17, 18, 19] (fun s14 _ _ _ _ _ wx => s14 = .bool true ∧ ∃ S T L A hn Mw Mn, KpR w b1 j1 p1 S b2 j2 p2 T k1 k2 L A hn Mw Mn (k + 1) wx)
        case first =>
          by_cases q1 : kd = 1
          · subst q1
            as_aux_lemma =>
              have HEQ := hide (unhide HX).tw.begin.1
              have HB := hide ((unhide HX).pp.call (R := fun e => e = .returned (.int .i64 (beginE S))) (S1' := beginS S) (fun Y K => pbegin_any K))
              go_wp2_with fail
              refine (unhide HB).mono ?_
              rintro e y ⟨rfl, hP1⟩
              have HB2 := hide (hP1.swap.call (R := fun e => e = .returned (.int .i64 (beginE T))) (S1' := beginS T) (fun Y K => pbegin_any K))
              rw [unhide HEQ] at HB2
              clear hP1 HB
              generalize beginE S = er at *
              have hee : (er == er) = true := by simp
              go_wp2_with fail
              refine (unhide HB2).mono ?_
              rintro e z ⟨rfl, hP2⟩
              have HRR := hide (show ∃ S T L A hn Mw Mn, KpR w b1 j1 p1 S b2 j2 p2 T k1 k2 L A hn Mw Mn (k + 1) z from by
                have h := unhide HX
                have hkd := unhide HKD
                exact ⟨_, _, L, A, hn, Mw, Mn, hP2.swap, h.tw.begin.2.1, by have := h.acts; omega, ⟨fun _ => h.tw.begin.2.2, fun q => h.st.2.1 (by omega), h.st.2.2⟩, by rw [beginS_keep]; exact h.kp.1, by rw [beginS_keep]; exact h.kp.2⟩)
              clear hP2 HB2
              go_wp2_with fail
              go_meet
              exact ⟨rfl, unhide HRR⟩
          · have q1' : (kd == 1) = false := by simpa using q1
            by_cases q3 : kd = 3
            · subst q3
              as_aux_lemma =>
                have c2 : X.cell? ⟨g13, 2, none⟩ = some (.string ss) := (unhide BX).cell 2
                have hsz := (unhide HW).2
                have HBY := hide (bytes6_any ((ss ++ ⟨#[122]⟩).extract 0 1) X)
                have hts : (bytesB ((ss ++ ⟨#[122]⟩).extract 0 1)).size = 256 := bytes1_size _ (cut_size ss)
                generalize bytesB ((ss ++ ⟨#[122]⟩).extract 0 1) = t at *
                go_wp2_with fail
                refine (unhide HBY).mono ?_
                rintro e y0 ⟨rfl, hby⟩
                have HX2 := hide ((unhide HX).below hby)
                have HTW := hide ((unhide HX2).tw.write (unhide HX2).pp.one.srt hm hm1 hm2 t hts)
                have HEQ := hide (unhide HTW).1
                clear hby HBY c2
                have HB := hide ((unhide HX2).pp.call (R := fun e => e = .returned (.int .i64 (refP S (hm : Int) t))) (S1' := writeP S (hm : Int) t) (fun Y K => pwrite_any K (hm : Int) t (by rw [hts]; decide)))
                go_wp2_with fail
                refine (unhide HB).mono ?_
                rintro e y ⟨rfl, hP1⟩
                have HB2 := hide (hP1.swap.call (R := fun e => e = .returned (.int .i64 (refP T (hm : Int) t))) (S1' := writeP T (hm : Int) t) (fun Y K => pwrite_any K (hm : Int) t (by rw [hts]; decide)))
                rw [unhide HEQ] at HB2
                clear hP1 HB
                generalize refP S (hm : Int) t = er at *
                have hee : (er == er) = true := by simp
                go_wp2_with fail
                refine (unhide HB2).mono ?_
                rintro e z ⟨rfl, hP2⟩
                have HRR := hide (show ∃ S T L A hn Mw Mn, KpR w b1 j1 p1 S b2 j2 p2 T k1 k2 L A hn Mw Mn (k + 1) z from by
                  have h := unhide HX2
                  have hkd := unhide HKD
                  obtain ⟨_, o2, Mn', t2⟩ := unhide HTW
                  exact ⟨_, _, L, A, hn, Mw, Mn', hP2.swap, t2, by have := h.acts; omega, ⟨fun q => by rw [o2]; exact h.st.1 (by omega), fun q => h.st.2.1 (by omega), h.st.2.2⟩, by rw [writeP_keep]; exact h.kp.1, by rw [writeP_keep]; exact h.kp.2⟩)
                clear hP2 HB2
                go_wp2_with fail
                go_meet
                exact ⟨rfl, unhide HRR⟩
            · have q3' : (kd == 3) = false := by simpa using q3
              by_cases q4 : kd = 4
              · subst q4
                as_aux_lemma =>
                  have HTX := hide (unhide HX).tw.tx
                  have HD := hide (unhide HX).pp.one.dirty
                  have HLN := hide ((unhide HX).pp.one.tokE (by rw [(unhide HX).tw.s.rst.s]; exact (unhide HX).tw.s.len)).1
                  go_wp2_with fail
                  refine (unhide HD).mono ?_
                  rintro e y ⟨v1, rfl, hr1', hb1⟩
                  obtain ⟨q1, d1, rfl, hI1⟩ := row_ints hr1'
                  obtain ⟨nl, hnl⟩ : ∃ z, (S.tx.map (·.1)).length = z := ⟨_, rfl⟩
                  have HNL := hide hnl
                  rw [hnl]
                  clear hnl
                  have HY := hide ((unhide HX).below hb1)
                  have HD2 := hide (unhide HY).pp.swap.one.dirty
                  rw [unhide HTX] at HD2
                  have HI1 := hide hI1
                  clear hr1' hb1 hI1 HD
                  go_wp2_with fail
                  refine (unhide HD2).mono ?_
                  rintro e z ⟨v2, rfl, hr2', hb2⟩
                  obtain ⟨q2, d2, rfl, hI2⟩ := row_ints hr2'
                  rw [unhide HNL]
                  have HZ := hide ((unhide HY).below hb2)
                  have HSM := hide (same6_any z q1 q2 d1 d2 (S.tx.map (·.1)) nl (unhide HNL).symm (intsBelow (unhide HI1) hb2) hI2 (by have := unhide HLN; have h2 := unhide HNL; simp at h2; omega))
                  clear hr2' hb2 hI2 HD2 HI1
                  go_wp2_with fail
                  refine (unhide HSM).mono ?_
                  rintro e z2 ⟨rfl, hb3⟩
                  have HRR := hide (show ∃ S T L A hn Mw Mn, KpR w b1 j1 p1 S b2 j2 p2 T k1 k2 L A hn Mw Mn (k + 1) z2 from by
                    have h := (unhide HZ).below hb3
                    have hkd := unhide HKD
                    exact ⟨_, _, L, A, hn, Mw, Mn, h.pp, h.tw.more, by have := h.acts; omega, ⟨fun q => h.st.1 (by omega), fun q => h.st.2.1 (by omega), h.st.2.2⟩, h.kp⟩)
                  clear hb3 HSM HZ HY
                  go_wp2_with fail
                  go_meet
                  exact ⟨rfl, unhide HRR⟩
              · have q4' : (kd == 4) = false := by simpa using q4
                by_cases q5 : kd = 5
                · subst q5
                  as_aux_lemma =>
                    have hak : A.length ≤ 9000000 := by have := (unhide HX).acts; have := unhide HJ; omega
                    have HTK := hide ((unhide HX).pp.one.tokE (by rw [(unhide HX).tw.s.rst.s]; exact (unhide HX).tw.s.len))
                    have HTW := hide ((unhide HX).tw.commit (unhide HX).pp.one.srt (unhide HTK).1 (unhide HTK).2.1)
                    have HEQ := hide (unhide HTW).1
                    have HB := hide ((unhide HX).pp.call (R := fun e => e = .returned (.int .i64 (commitPE S))) (S1' := commitPS S) (fun Y K => pcommit_any K (by rw [(unhide HX).tw.s.rst.nx]; omega) (by rw [(unhide HX).tw.s.rst.s]; exact Nat.zero_le _) (by rw [(unhide HX).tw.s.rst.s]; show A.length ≤ _; omega)))
                    go_wp2_with fail
                    refine (unhide HB).mono ?_
                    rintro e y ⟨rfl, hP1⟩
                    have HB2 := hide (hP1.swap.call (R := fun e => e = .returned (.int .i64 (commitPE T))) (S1' := commitPS T) (fun Y K => pcommit_any K (by rw [(unhide HX).tw.t.rst.nx]; omega) (by rw [(unhide HX).tw.t.rst.s]; exact Nat.zero_le _) (by rw [(unhide HX).tw.t.rst.s]; show A.length ≤ _; omega)))
                    rw [unhide HEQ] at HB2
                    clear hP1 HB
                    generalize commitPE S = er at *
                    have hee : (er == er) = true := by simp
                    go_wp2_with fail
                    refine (unhide HB2).mono ?_
                    rintro e z ⟨rfl, hP2⟩
                    have HRR := hide (show ∃ S T L A hn Mw Mn, KpR w b1 j1 p1 S b2 j2 p2 T k1 k2 L A hn Mw Mn (k + 1) z from by
                      have h := unhide HX
                      have hkd := unhide HKD
                      obtain ⟨_, L', A', hn', Mw', Mn', t2, g1, g2, g3⟩ := unhide HTW
                      exact ⟨_, _, L', A', hn', Mw', Mn', hP2.swap, t2, by have := h.acts; omega, ⟨fun q => by omega, fun q => by
                        by_cases h2 : k = 2
                        · have := g3 (h.st.1 (.inr h2)); have := h.st.2.2; omega
                        · have := h.st.2.1 (by omega); omega, by have := h.st.2.2; omega⟩, by rw [commitPS_keep]; exact h.kp.1, by rw [commitPS_keep]; exact h.kp.2⟩)
                    clear hP2 HB2
                    go_wp2_with fail
                    go_meet
                    exact ⟨rfl, unhide HRR⟩
                · have q5' : (kd == 5) = false := by simpa using q5
                  by_cases q6 : kd = 6
                  · subst q6
                    as_aux_lemma =>
                      have HTW := hide (unhide HX).tw.abort
                      have HEQ := hide (unhide HTW).1
                      have HB := hide ((unhide HX).pp.call (R := fun e => e = .returned (.int .i64 (abortE S))) (S1' := abortS S) (fun Y K => pabort_any K))
                      go_wp2_with fail
                      refine (unhide HB).mono ?_
                      rintro e y ⟨rfl, hP1⟩
                      have HB2 := hide (hP1.swap.call (R := fun e => e = .returned (.int .i64 (abortE T))) (S1' := abortS T) (fun Y K => pabort_any K))
                      rw [unhide HEQ] at HB2
                      clear hP1 HB
                      generalize abortE S = er at *
                      have hee : (er == er) = true := by simp
                      go_wp2_with fail
                      refine (unhide HB2).mono ?_
                      rintro e z ⟨rfl, hP2⟩
                      have HRR := hide (show ∃ S T L A hn Mw Mn, KpR w b1 j1 p1 S b2 j2 p2 T k1 k2 L A hn Mw Mn (k + 1) z from by
                        have h := unhide HX
                        have hkd := unhide HKD
                        obtain ⟨_, Mn', t2⟩ := unhide HTW
                        exact ⟨_, _, L, A, hn, Mw, Mn', hP2.swap, t2, by have := h.acts; omega, ⟨fun q => by omega, fun q => h.st.2.1 (by omega), h.st.2.2⟩, by rw [abortS_keep]; exact h.kp.1, by rw [abortS_keep]; exact h.kp.2⟩)
                      clear hP2 HB2
                      go_wp2_with fail
                      go_meet
                      exact ⟨rfl, unhide HRR⟩
                  · have q6' : (kd == 6) = false := by simpa using q6
                    as_aux_lemma =>
                      have HTW := hide ((unhide HX).tw.read (by have := unhide HJ; omega) hm hm1 hm2)
                      have HB := hide ((unhide HX).pp.call (R := fun e => e = .returned (.tuple #[.string (readP S hm).1, .int .i64 (readP S hm).2.1])) (S1' := (readP S hm).2.2) (fun Y K => pread_any K (hm : Int) (readT_rest (unhide HX).tw.s.rst hm (by rw [(unhide HX).tw.s.len]; exact hm2) (unhide HX).tw.s.siz)))
                      obtain ⟨t, ht⟩ : ∃ z, Mn.getD hm ByteArray.empty = z := ⟨_, rfl⟩
                      have HHT := hide ht
                      rw [(unhide HTW).1, (unhide HTW).2.1, ht] at HB
                      clear ht
                      go_wp2_with fail
                      refine (unhide HB).mono ?_
                      rintro e y ⟨rfl, hP1⟩
                      have HB2 := hide (hP1.swap.call (R := fun e => e = .returned (.tuple #[.string (readP T hm).1, .int .i64 (readP T hm).2.1])) (S1' := (readP T hm).2.2) (fun Y K => pread_any K (hm : Int) (readT_rest (unhide HX).tw.t.rst hm (by rw [(unhide HX).tw.t.len]; exact hm2) (unhide HX).tw.t.siz)))
                      rw [(unhide HTW).2.2.1, (unhide HTW).2.2.2.1, unhide HHT] at HB2
                      clear hP1 HB
                      go_wp2_with fail
                      refine (unhide HB2).mono ?_
                      rintro e z ⟨rfl, hP2⟩
                      have HRR := hide (show ∃ S T L A hn Mw Mn, KpR w b1 j1 p1 S b2 j2 p2 T k1 k2 L A hn Mw Mn (k + 1) z from by
                        have h := unhide HX
                        have hkd := unhide HKD
                        obtain ⟨_, _, _, _, t2, o2⟩ := unhide HTW
                        exact ⟨_, _, L, A, hn, Mw, Mn, hP2.swap, t2, by have := h.acts; omega, ⟨fun q => by rw [o2]; exact h.st.1 (by omega), fun q => h.st.2.1 (by omega), h.st.2.2⟩, by rw [readP_keep]; exact h.kp.1, by rw [readP_keep]; exact h.kp.2⟩)
                      clear hP2 HB2 HTW
                      have hee : (t.toList == t.toList) = true := by simp
                      by_cases hlt : j < 0
                      · have hlb : decide (j < 0) = true := decide_eq_true hlt
                        go_wp2_with fail
                        go_meet
                        exact ⟨rfl, unhide HRR⟩
                      · have hlb : decide (j < 0) = false := decide_eq_false hlt
                        go_wp2_with fail
                        go_meet
                        exact ⟨rfl, unhide HRR⟩
        case rest =>
          obtain ⟨rfl, hRR⟩ := hcut
          obtain ⟨X2, rfl⟩ : ∃ Z, Z = wc := ⟨_, rfl⟩
          have HRR := hide hRR
          clear hRR HX BX HKD HW
          go_wp2_with fail
          go_roundw
          case rel => exact ⟨k + 1, by have := unhide HJ; omega, by have := unhide HJ; simp; omega, unhide HRR⟩
          case measure => simp [intOf]; omega
    · have HR := hide R
      go_wp2_with fail
      exact unhide HK wo' S T L A hn Mw Mn k (by omega) (by omega) (unhide HR) _ _ _ _ _ _ _ _ _ _ _ _ _ _ _ _ _ _ _ _ _ _ _ _ _ _ _ _ _ _ _ _ _ _ _ _ _ _ _ _ _ _ _ _ _ _ _ _ _ _ _ _ _ _ _ _ _ _ _ _ _ _ _ _ _ _ _ _ _ _ _ _ _ _ _ _ _ _ _ _ _ _ _ _ _ _ _ _ _ _ _ _ _ _ _ _ _ _ _ _ _ _ _ _ _ _ _ _ _ _ _ _ _ _ _ _ _ _ _ _ _ _ _ _ _ _ _ _ _ _ _ _ _ _ _ _ _ _ _ _ _ _ _ _ _ _ _ _ _ _ _ _ _ _ _ _ _ _ _ _ _ _ _ _ _ _ _ _ _ _ _ _ _ _ _ _ _ _ _ _ _ _ _ _ _ _ _ _ _ _ _ _ _ _ _ _ _ _ _ _ _ _ _
end Go.Proofs.YtkkndlkelpdehaaGreatDoor
