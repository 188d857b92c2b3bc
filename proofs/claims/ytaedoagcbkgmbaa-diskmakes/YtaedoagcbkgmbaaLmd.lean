import Derived.Test.YtaedoagcbkgmbaaLmr
namespace Go.Proofs.Ytaedoagcbkgmbaa
open Go.RowKit
set_option maxRecDepth 100000 in
set_option maxHeartbeats 8000000 in
theorem makes_walk (n many : Int) (first : ByteArray) (pl : Option Addr) (cl : Nat) (ll : List ByteArray) (pa : Option Addr) (ca : Nat) (la : List Int) (hm : I64 many) (w : World) (hL : Strs w pl ll) (hA : Ints w pa la) (bA : ∀ z ∈ la, I64 z) (nl : ll.length ≤ 9223372036854775807) (na : la.length ≤ 9223372036854775807) :
    Calls Try.prog 6 #[.int .i64 n, .int .i64 many, .string first, .slice pl ll.length cl, .slice pa la.length ca] w fun e w' => e = .returned (.bool true) ∧ Below w.heap.size w w' := by
  have HM := hide (fun W => made_any n W)
  have lM := pickP_lt many 1100 (by decide)
  have HP := hide (fun W => pick_c many 1100 (by decide) hm 1100 rfl W)
  generalize pickP many 1100 = M at *
  have HL := hide hL
  have HA := hide hA
  have BA := hide bA
  clear hL hA bA hm
  go_enter Try.func6, Try.ntmps6
  go_wp2_with fail
  refine (known_any w).mono ?_
  rintro ev x1 ⟨rfl, hb1⟩
  have XB1 := hide hb1
  have hs1 := hb1.size
  clear hb1
  go_wp2_with fail
  refine (unhide HM _).mono ?_
  intro ev x2 h2
  have hbx : ∃ px : Option (Nat × Nat), ev = .returned (.tuple #[.agg #[.pointer (px.map fun q => ⟨q.1, 0, none⟩), .pointer (px.map fun q => ⟨q.2, 0, none⟩)], .bool true]) ∧ Below x1.heap.size x1 x2 ∧ (∀ q, px = some q → 128 ≤ n ∧ n ≤ 1024 ∧ Pr0 x2 x1.heap.size q.1 q.2 (List.replicate n.toNat zero256)) := by
    unfold MadePost at h2
    by_cases h : 128 ≤ n ∧ n ≤ 1024
    · rw [if_pos h] at h2
      obtain ⟨b, c, rfl, hp, hb⟩ := h2
      exact ⟨some (b, c), rfl, hb, fun q hq => by cases hq; exact ⟨h.1, h.2, hp⟩⟩
    · rw [if_neg h] at h2
      exact ⟨none, h2.1, h2.2, fun q hq => by cases hq⟩
  obtain ⟨px, rfl, hb2, hpx⟩ := hbx
  have XB2 := hide ((unhide XB1).trans (hb2.mono hs1))
  have XPX := hide hpx
  have hs2 := hb2.size
  clear h2 hpx HM hb2 XB1
  cases px
  case' none =>
    have XY := hide ((unhide XB2).alloc (by omega) (Obj.cells #[.pointer none, .pointer none] 57))
    go_wp2_with fail
    generalize x2.alloc (Obj.cells #[.pointer none, .pointer none] 57) = y0 at *
    clear XPX XB2 hs2
  case' some q =>
    obtain ⟨b, c⟩ := q
    obtain ⟨hn1, hn2, hPr⟩ := unhide XPX (b, c) rfl
    have HFR := hide (fresh_any _ _ b c _ (hPr.below ((Below.refl _ x2).alloc (Nat.le_refl _) (Obj.cells #[.pointer (some ⟨b, 0, none⟩), .pointer (some ⟨c, 0, none⟩)] 57))) (by rw [List.length_replicate]; omega) (by rw [List.length_replicate]; omega) n (by rw [List.length_replicate]; omega))
    have XY0 := hide ((unhide XB2).alloc (by omega) (Obj.cells #[.pointer (some ⟨b, 0, none⟩), .pointer (some ⟨c, 0, none⟩)] 57))
    clear hPr XPX
    go_wp2_with fail
    refine (unhide HFR).mono ?_
    rintro ev y0 ⟨rfl, hb0⟩
    have XY := hide ((unhide XY0).trans (hb0.mono (unhide XY0).size))
    clear hb0 HFR XY0 XB2 hn1 hn2 hs2
    go_wp2_with fail
  all_goals
    refine (unhide HP _).mono ?_
    rintro ev y1 ⟨rfl, rfl⟩
    have hsy := (unhide XY).size
    have hmk := run_make_s (M + 4) (by omega) y1
    have X0 := hide (show Al w y1.heap.size (List.replicate (M + 4) ⟨#[]⟩) (y1.alloc (.cells (strs (List.replicate (M + 4) ⟨#[]⟩)).toArray 9)) from ⟨Blk.new _ _ _, hsy, (unhide XY).alloc hsy _⟩)
    have HX0 := hide (show Below y1.heap.size y1 (y1.alloc (.cells (strs (List.replicate (M + 4) ⟨#[]⟩)).toArray 9)) from (Below.refl _ _).alloc (Nat.le_refl _) _)
    generalize y1.alloc (.cells (strs (List.replicate (M + 4) ⟨#[]⟩)).toArray 9) = y2 at *
    generalize y1.heap.size = ga at *
    have hk1 : IntKind.i64.wrap ((M : Int) + 4) = (M : Int) + 4 := wrapI_eq _ (by omega) (by omega)
    have hmk' : (Instr.makeSlice 39 (.int .i64 ((M : Int) + 4)) (.int .i64 ((M : Int) + 4))).run Try.prog y1 = .ok (.slice (some ⟨ga, 0, none⟩) (M + 4) (M + 4)) y2 := by
      have e : (((M + 4 : Nat)) : Int) = (M : Int) + 4 := by omega
      rw [e] at hmk
      exact hmk
    clear hmk
    go_wp2
    clear hmk'
    go_loopw [16] (fun i wr => ∃ (k : Nat) (l : List ByteArray), M ≤ k ∧ k ≤ M + 4 ∧ i = .int .i64 (k : Int) ∧ l.length = M + 4 ∧ (∀ j, M ≤ j → j < k → l.getD j ByteArray.empty = ⟨#[98, 101, 104, 105, 110, 100]⟩) ∧ Al w ga l wr) (fun i _ => M + 4 - (intOf i).toNat)
    case atStart => exact ⟨M, _, by omega, by omega, by go_num, by rw [List.length_replicate], fun j h1 h2 => absurd h2 (by omega), unhide X0⟩
    case round =>
      obtain ⟨k, l, hk1, hk2, rfl, hll, htl, hI⟩ := hrel
      obtain ⟨wa, rfl⟩ : ∃ wo, wo = wr := ⟨_, rfl⟩
      have XI := hide hI
      have XT := hide htl
      clear hI htl X0
      by_cases hkl : k < M + 4
      · have ck := (unhide XI).at k (by omega)
        have fk := (unhide XI).blk.frozen k
        generalize l.getD k ByteArray.empty = old at *
        have HR := hide ((unhide XI).set k ⟨#[98, 101, 104, 105, 110, 100]⟩)
        go_wp2
        go_roundw
        case rel =>
          refine ⟨k + 1, l.set k ⟨#[98, 101, 104, 105, 110, 100]⟩, by omega, by omega, by go_num, by rw [List.length_set]; exact hll, fun j h1 h2 => ?_, unhide HR⟩
          by_cases hjk : j = k
          · subst hjk; exact getD_set_same l j _ (by omega)
          · exact (getD_set_other l k j _ (by omega)).trans (unhide XT j h1 (by omega))
        case measure => simp [intOf]; omega
      · have XT2 := hide (show TailB M l from ⟨hll, fun j h1 h2 => unhide XT j h1 (by omega)⟩)
        have hkk : k = M + 4 := by omega
        clear XT hk1 hk2 hkk
        have hw1 : IntKind.i64.wrap ((M : Int) + 4 - 4) = (M : Int) := by rw [wrapI_eq _ (by omega) (by omega)]; omega
        have XYB := hide (show ∀ k, k < w.heap.size → wa.heap[k]? = w.heap[k]? from fun k hk => (unhide XI).bel.block k hk)
        go_wp2
        clear hw1 XYB
        go_loopw [18] (fun i wr => ∃ (k : Nat) (l : List ByteArray), k ≤ M ∧ i = .int .i64 (k : Int) ∧ TailB M l ∧ Al w ga l wr) (fun i _ => M - (intOf i).toNat)
        case atStart => exact ⟨0, l, by omega, rfl, unhide XT2, unhide XI⟩
        case round =>
          obtain ⟨k2, l2, hk2, rfl, hT2, hI2⟩ := hrel
          obtain ⟨wb, rfl⟩ : ∃ wo, wo = wr := ⟨_, rfl⟩
          have YT := hide hT2
          have YI := hide hI2
          clear hT2 hI2 XT2 XI
          by_cases hkl2 : k2 < M
          · have ck := (unhide YI).at k2 (by have := (unhide YT).1; omega)
            have fk := (unhide YI).blk.frozen k2
            generalize l2.getD k2 ByteArray.empty = old at ck
            have YT2 := hide ((unhide YT).set k2 hkl2 first)
            have YI2 := hide ((unhide YI).set k2 first)
            clear YT YI
            go_wp2
            go_roundw
            case rel => exact ⟨k2 + 1, _, by omega, by go_num, unhide YT2, unhide YI2⟩
            case measure => simp [intOf]; omega
          · go_wp2
            rename_i K aK
            have hK : ∀ (l : List ByteArray) (wr : World) (_ : TailB M l) (_ : Al w ga l wr) (t0 t1 t2 t3 t4 t5 t6 t7 t8 t9 t10 t11 t12 t13 t14 t16 t18 t19 t20 t21 t22 t23 t24 t25 t26 t27 t28 t29 t30 t31 t32 t33 t34 t35 t36 t37 t38 t39 t40 t41 t42 t43 t44 t45 t46 t47 t48 t49 t50 t51 t52 t53 t54 t55 t56 t57 t58 t59 t60 t61 t62 t63 t64 t65 t66 t67 t68 t69 t70 t71 t72 t73 t74 t75 t76 t77 t78 t79 t80 t81 t82 t83 t84 t85 t86 t87 t88 t89 t90 t91 t92 t93 t94 t95 t96 t97 t98 t99 t100 t101 t102 t103 t104 t105 t106 t107 t108 t109 t110 t111 t112 t113 t114 t115 t116 t117 t118 t119 t120 t121 t122 t123 t124 t125 t126 t127 t128 t129 t130 t131 t132 t133 t134 t135 t136 t137 t138 t139 t140 t141 t142 t143 t144 t145 t146 t147 t148 t149 t150 t151 t152 t153 t154 t155 t156 t157 t158 t159 t160 t161 t162 t163 t164 t165 t166 t167 t168 t169 t170 t171 t172 t173 t174 t175 t176 t177 t178 t179 t180 t181 t182 t183 t184 t185 t186 t187 t188 t189 t190 t191 t192 t193 t194 t195 t196 t197 t198 t199 t200 t201 t202 t203 t204 t205 t206 t207 t208 t209 t210 t211 t212 t213 t214 t215 t216 t217 t218 t219 t220 t221 t222 t223 t224 t225 t226 t227 t228 t229 t230 t231 : Value), K ⟨#[t0, t1, t2, t3, t4, t5, t6, t7, t8, t9, t10, t11, t12, t13, t14, .slice (some ⟨ga, 0, none⟩) (M + 4) (M + 4), t16, .slice (some ⟨ga, 0, none⟩) M (M + 4), t18, t19, t20, t21, t22, t23, t24, t25, t26, t27, t28, t29, t30, t31, t32, t33, t34, t35, t36, t37, t38, t39, t40, t41, t42, t43, t44, t45, t46, t47, t48, t49, t50, t51, t52, t53, t54, t55, t56, t57, t58, t59, t60, t61, t62, t63, t64, t65, t66, t67, t68, t69, t70, t71, t72, t73, t74, t75, t76, t77, t78, t79, t80, t81, t82, t83, t84, t85, t86, t87, t88, t89, t90, t91, t92, t93, t94, t95, t96, t97, t98, t99, t100, t101, t102, t103, t104, t105, t106, t107, t108, t109, t110, t111, t112, t113, t114, t115, t116, t117, t118, t119, t120, t121, t122, t123, t124, t125, t126, t127, t128, t129, t130, t131, t132, t133, t134, t135, t136, t137, t138, t139, t140, t141, t142, t143, t144, t145, t146, t147, t148, t149, t150, t151, t152, t153, t154, t155, t156, t157, t158, t159, t160, t161, t162, t163, t164, t165, t166, t167, t168, t169, t170, t171, t172, t173, t174, t175, t176, t177, t178, t179, t180, t181, t182, t183, t184, t185, t186, t187, t188, t189, t190, t191, t192, t193, t194, t195, t196, t197, t198, t199, t200, t201, t202, t203, t204, t205, t206, t207, t208, t209, t210, t211, t212, t213, t214, t215, t216, t217, t218, t219, t220, t221, t222, t223, t224, t225, t226, t227, t228, t229, t230, t231], []⟩ wr := fun l wr hT hI t0 t1 t2 t3 t4 t5 t6 t7 t8 t9 t10 t11 t12 t13 t14 t16 t18 t19 t20 t21 t22 t23 t24 t25 t26 t27 t28 t29 t30 t31 t32 t33 t34 t35 t36 t37 t38 t39 t40 t41 t42 t43 t44 t45 t46 t47 t48 t49 t50 t51 t52 t53 t54 t55 t56 t57 t58 t59 t60 t61 t62 t63 t64 t65 t66 t67 t68 t69 t70 t71 t72 t73 t74 t75 t76 t77 t78 t79 t80 t81 t82 t83 t84 t85 t86 t87 t88 t89 t90 t91 t92 t93 t94 t95 t96 t97 t98 t99 t100 t101 t102 t103 t104 t105 t106 t107 t108 t109 t110 t111 t112 t113 t114 t115 t116 t117 t118 t119 t120 t121 t122 t123 t124 t125 t126 t127 t128 t129 t130 t131 t132 t133 t134 t135 t136 t137 t138 t139 t140 t141 t142 t143 t144 t145 t146 t147 t148 t149 t150 t151 t152 t153 t154 t155 t156 t157 t158 t159 t160 t161 t162 t163 t164 t165 t166 t167 t168 t169 t170 t171 t172 t173 t174 t175 t176 t177 t178 t179 t180 t181 t182 t183 t184 t185 t186 t187 t188 t189 t190 t191 t192 t193 t194 t195 t196 t197 t198 t199 t200 t201 t202 t203 t204 t205 t206 t207 t208 t209 t210 t211 t212 t213 t214 t215 t216 t217 t218 t219 t220 t221 t222 t223 t224 t225 t226 t227 t228 t229 t230 t231 => aK _ _ (restB_walk w ga M lM l wr hT hI t0 t1 t2 t3 t4 t5 t6 t7 t8 t9 t10 t11 t12 t13 t14 t16 t18 t19 t20 t21 t22 t23 t24 t25 t26 t27 t28 t29 t30 t31 t32 t33 t34 t35 t36 t37 t38 t39 t40 t41 t42 t43 t44 t45 t46 t47 t48 t49 t50 t51 t52 t53 t54 t55 t56 t57 t58 t59 t60 t61 t62 t63 t64 t65 t66 t67 t68 t69 t70 t71 t72 t73 t74 t75 t76 t77 t78 t79 t80 t81 t82 t83 t84 t85 t86 t87 t88 t89 t90 t91 t92 t93 t94 t95 t96 t97 t98 t99 t100 t101 t102 t103 t104 t105 t106 t107 t108 t109 t110 t111 t112 t113 t114 t115 t116 t117 t118 t119 t120 t121 t122 t123 t124 t125 t126 t127 t128 t129 t130 t131 t132 t133 t134 t135 t136 t137 t138 t139 t140 t141 t142 t143 t144 t145 t146 t147 t148 t149 t150 t151 t152 t153 t154 t155 t156 t157 t158 t159 t160 t161 t162 t163 t164 t165 t166 t167 t168 t169 t170 t171 t172 t173 t174 t175 t176 t177 t178 t179 t180 t181 t182 t183 t184 t185 t186 t187 t188 t189 t190 t191 t192 t193 t194 t195 t196 t197 t198 t199 t200 t201 t202 t203 t204 t205 t206 t207 t208 t209 t210 t211 t212 t213 t214 t215 t216 t217 t218 t219 t220 t221 t222 t223 t224 t225 t226 t227 t228 t229 t230 t231)
            have HK := hide hK
            clear hK aK
            go_loopw [19] (fun i wr => ∃ (k : Nat) (l : List ByteArray), k ≤ ll.length ∧ k ≤ la.length ∧ i = .int .i64 (k : Int) ∧ TailB M l ∧ Al w ga l wr) (fun i _ => ll.length - (intOf i).toNat)
            case atStart => exact ⟨0, l2, by omega, by omega, rfl, unhide YT, unhide YI⟩
            case round =>
              obtain ⟨k3, l3, hk31, hk32, rfl, hT3, hI3⟩ := hrel
              obtain ⟨wc, rfl⟩ : ∃ wo, wo = wr := ⟨_, rfl⟩
              have ZT := hide hT3
              have ZI := hide hI3
              clear hT3 hI3 YT YI
              by_cases hc : k3 < ll.length ∧ k3 < la.length ∧ 0 < M
              · obtain ⟨hc1, hc2, hc3⟩ := hc
                obtain ⟨gA, oA, rfl, hgA, hcA⟩ := unhide HA k3 hc2
                obtain ⟨gL, oL, rfl, hgL, hcL⟩ := unhide HL k3 hc1
                have hga := (unhide ZI).lo
                have cA : wc.cell? ⟨gA, oA + k3, none⟩ = some (.int .i64 (la.getD k3 0)) := by rw [(unhide ZI).bel.cell (p := ⟨gA, oA + k3, none⟩) hgA]; exact hcA
                have cL : wc.cell? ⟨gL, oL + k3, none⟩ = some (.string (ll.getD k3 ByteArray.empty)) := by rw [(unhide ZI).bel.cell (p := ⟨gL, oL + k3, none⟩) hgL]; exact hcL
                have hz : I64 (la.getD k3 0) := unhide BA _ (by simp [List.getD_eq_getElem?_getD, hc2])
                have HPK := hide (fun W => pick_any (la.getD k3 0) M hc3 hz W)
                have lj := pickP_lt (la.getD k3 0) M hc3
                generalize pickP (la.getD k3 0) M = jj at *
                generalize la.getD k3 0 = z at *
                generalize ll.getD k3 ByteArray.empty = tt at *
                have cJ := (unhide ZI).at jj (by have := (unhide ZT).1; omega)
                have fJ := (unhide ZI).blk.frozen jj
                generalize l3.getD jj ByteArray.empty = old at cJ
                have ZT2 := hide ((unhide ZT).set jj lj tt)
                have ZI2 := hide ((unhide ZI).drew.set jj tt)
                have i0 : 0 ≤ (k3 : Int) := by omega
                have i1 : (k3 : Int) < (la.length : Int) := by omega
                have i2 : (k3 : Int) < (ll.length : Int) := by omega
                have j0 : 0 ≤ (jj : Int) := by omega
                have j1 : (jj : Int) < (M : Int) := by omega
                clear hcA hcL hz ZT ZI
                go_wp2_with fail
                refine wp_region_held_drew (S := fun w' => w'.cell? ⟨gA, oA + k3, none⟩ = some (.int .i64 z) ∧ w'.cell? ⟨gL, oL + k3, none⟩ = some (.string tt)) (by kernel_rfl) ⟨cA, cL⟩ ?_
                intro hS
                refine wpAnyH_takeD 0 (some 105) (.slice (some ⟨ga, 0, none⟩) M (M + 4)) rfl rfl (by kernel_rfl) (by kernel_rfl) (by kernel_rfl) (fun _ _ _ h => h) (Or.inl ⟨by rfl, fun w hSw => by obtain ⟨q0, q1⟩ := hSw; go_simp⟩) hS ?_
                simp only [Act.put, List.setIfInBounds_toArray, List.set_cons_zero, List.set_cons_succ]
                refine wpAnyH_takeD 1 (some 106) (.slice (some ⟨gA, oA, none⟩) la.length ca) rfl rfl (by kernel_rfl) (by kernel_rfl) (by kernel_rfl) (fun _ _ _ h => h) (Or.inl ⟨by rfl, fun w hSw => by obtain ⟨q0, q1⟩ := hSw; go_simp⟩) hS ?_
                simp only [Act.put, List.setIfInBounds_toArray, List.set_cons_zero, List.set_cons_succ]
                refine wpAnyH_takeD 2 (some 107) (.int .i64 (k3 : Int)) rfl rfl (by kernel_rfl) (by kernel_rfl) (by kernel_rfl) (fun _ _ _ h => h) (Or.inl ⟨by rfl, fun w hSw => by obtain ⟨q0, q1⟩ := hSw; go_simp⟩) hS ?_
                simp only [Act.put, List.setIfInBounds_toArray, List.set_cons_zero, List.set_cons_succ]
                refine wpAnyH_takeD 3 (some 108) (.pointer (some ⟨gA, oA + k3, none⟩)) rfl rfl (by kernel_rfl) (by kernel_rfl) (by kernel_rfl) (fun _ _ _ h => h) (Or.inl ⟨by rfl, fun w hSw => by obtain ⟨q0, q1⟩ := hSw; go_simp⟩) hS ?_
                simp only [Act.put, List.setIfInBounds_toArray, List.set_cons_zero, List.set_cons_succ]
                refine wpAnyH_takeD 4 (some 109) (.int .i64 z) rfl rfl (by kernel_rfl) (by kernel_rfl) (by kernel_rfl) (fun _ _ _ h => h) (Or.inl ⟨by rfl, fun w hSw => by obtain ⟨q0, q1⟩ := hSw; go_simp⟩) hS ?_
                simp only [Act.put, List.setIfInBounds_toArray, List.set_cons_zero, List.set_cons_succ]
                refine wpAnyH_takeD 5 (some 110) (.slice (some ⟨ga, 0, none⟩) M (M + 4)) rfl rfl (by kernel_rfl) (by kernel_rfl) (by kernel_rfl) (fun _ _ _ h => h) (Or.inl ⟨by rfl, fun w hSw => by obtain ⟨q0, q1⟩ := hSw; go_simp⟩) hS ?_
                simp only [Act.put, List.setIfInBounds_toArray, List.set_cons_zero, List.set_cons_succ]
                refine wpAnyH_takeD 6 (some 111) (.int .i64 (M : Int)) rfl rfl (by kernel_rfl) (by kernel_rfl) (by kernel_rfl) (fun _ _ _ h => h) (Or.inl ⟨by rfl, fun w hSw => by obtain ⟨q0, q1⟩ := hSw; go_simp⟩) hS ?_
                simp only [Act.put, List.setIfInBounds_toArray, List.set_cons_zero, List.set_cons_succ]
                refine wpAnyH_takeD 8 (some 113) (.slice (some ⟨gL, oL, none⟩) ll.length cl) rfl rfl (by kernel_rfl) (by kernel_rfl) (by kernel_rfl) (fun _ _ _ h => h) (Or.inl ⟨by rfl, fun w hSw => by obtain ⟨q0, q1⟩ := hSw; go_simp⟩) hS ?_
                simp only [Act.put, List.setIfInBounds_toArray, List.set_cons_zero, List.set_cons_succ]
                refine wpAnyH_takeD 9 (some 114) (.int .i64 (k3 : Int)) rfl rfl (by kernel_rfl) (by kernel_rfl) (by kernel_rfl) (fun _ _ _ h => h) (Or.inl ⟨by rfl, fun w hSw => by obtain ⟨q0, q1⟩ := hSw; go_simp⟩) hS ?_
                simp only [Act.put, List.setIfInBounds_toArray, List.set_cons_zero, List.set_cons_succ]
                refine wpAnyH_takeD 10 (some 115) (.pointer (some ⟨gL, oL + k3, none⟩)) rfl rfl (by kernel_rfl) (by kernel_rfl) (by kernel_rfl) (fun _ _ _ h => h) (Or.inl ⟨by rfl, fun w hSw => by obtain ⟨q0, q1⟩ := hSw; go_simp⟩) hS ?_
                simp only [Act.put, List.setIfInBounds_toArray, List.set_cons_zero, List.set_cons_succ]
                refine wpAnyH_takeD 11 (some 116) (.string tt) rfl rfl (by kernel_rfl) (by kernel_rfl) (by kernel_rfl) (fun _ _ _ h => h) (Or.inl ⟨by rfl, fun w hSw => by obtain ⟨q0, q1⟩ := hSw; go_simp⟩) hS ?_
                simp only [Act.put, List.setIfInBounds_toArray, List.set_cons_zero, List.set_cons_succ]
                refine wpAnyH_ready (rs := [7]) (by kernel_rfl) (by simp) ?_
                refine AllReadyH.cons rfl (fun K hK => ?_) AllReadyH.nil
                simp only [List.getElem_toArray, List.getElem_cons_succ, List.getElem_cons_zero]
                go_simp
                refine (unhide HPK _).mono ?_
                rintro ev y1 ⟨rfl, rfl⟩
                refine hK.out _ _ hS (fun hS => ?_)
                clear hK K
                refine wpAnyH_takeD 12 (some 117) (.pointer (some ⟨ga, jj, none⟩)) rfl rfl (by kernel_rfl) (by kernel_rfl) (by kernel_rfl) (fun _ _ _ h => h) (Or.inl ⟨by rfl, fun w hSw => by obtain ⟨q0, q1⟩ := hSw; go_simp⟩) hS ?_
                simp only [Act.put, List.setIfInBounds_toArray, List.set_cons_zero, List.set_cons_succ]
                refine wpAnyH_ready (rs := [13]) (by kernel_rfl) (by simp) ?_
                refine AllReadyH.cons rfl (fun K hK => ?_) AllReadyH.nil
                simp only [List.getElem_toArray, List.getElem_cons_succ, List.getElem_cons_zero]
                go_simp
                refine hK.out _ _ ⟨(World.cell?_setCell_other _ _ _ _ (by simp)).trans hS.1, (World.cell?_setCell_other _ _ _ _ (by simp)).trans hS.2⟩ (fun hS => ?_)
                clear hK K
                refine wpAnyH_done (by kernel_rfl) ?_ _
                clear hS
                go_wp2
                go_roundw
                case rel => exact ⟨k3 + 1, _, by omega, by omega, by go_num, unhide ZT2, unhide ZI2⟩
                case measure => simp [intOf]; omega
              · have hor : ¬ k3 < ll.length ∨ (k3 < ll.length ∧ ¬ k3 < la.length) ∨ (k3 < ll.length ∧ k3 < la.length ∧ ¬ 0 < M) := by omega
                clear hc
                rcases hor with h1 | ⟨h1, h2⟩ | ⟨h1, h2, h3⟩
                all_goals
                  go_wp2
                  exact unhide HK l3 wc (unhide ZT) (unhide ZI) _ _ _ _ _ _ _ _ _ _ _ _ _ _ _ _ _ _ _ _ _ _ _ _ _ _ _ _ _ _ _ _ _ _ _ _ _ _ _ _ _ _ _ _ _ _ _ _ _ _ _ _ _ _ _ _ _ _ _ _ _ _ _ _ _ _ _ _ _ _ _ _ _ _ _ _ _ _ _ _ _ _ _ _ _ _ _ _ _ _ _ _ _ _ _ _ _ _ _ _ _ _ _ _ _ _ _ _ _ _ _ _ _ _ _ _ _ _ _ _ _ _ _ _ _ _ _ _ _ _ _ _ _ _ _ _ _ _ _ _ _ _ _ _ _ _ _ _ _ _ _ _ _ _ _ _ _ _ _ _ _ _ _ _ _ _ _ _ _ _ _ _ _ _ _ _ _ _ _ _ _ _ _ _ _ _ _ _ _ _ _ _ _ _ _ _ _ _ _ _ _ _ _ _ _ _ _ _ _ _ _ _ _ _ _ _ _ _ _ _ _ _ _ _ _ _ _ _ _ _
end Go.Proofs.Ytaedoagcbkgmbaa
