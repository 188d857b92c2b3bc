import Derived.Test.YtkkndlkelpdehaaGreatDoorMr36
import Derived.Test.YtkkndlkelpdehaaGreatDoorMr26
import Derived.Test.YtkkndlkelpdehaaGreatDoorMr37
import Derived.Test.YtkkndlkelpdehaaGreatDoorMr27
import Derived.WalkMore
import Derived.BigQuiet
import Derived.Deep.DeepCutAuto
namespace Go.Proofs.YtkkndlkelpdehaaGreatDoor
open Go.RowKit Go.Maps Go.Sort Go.Shelf
theorem beginS_keep (S : PS) : (beginS S).keep = S.keep := by unfold beginS; split <;> (try split) <;> rfl
theorem writeP_keep (S : PS) (i : Int) (t : ByteArray) : (writeP S i t).keep = S.keep := by unfold writeP; split <;> rfl
theorem commitPS_keep (S : PS) : (commitPS S).keep = S.keep := by unfold commitPS; split <;> (try split) <;> (try split) <;> rfl
theorem abortS_keep (S : PS) : (abortS S).keep = S.keep := by unfold abortS; split <;> rfl
theorem readP_keep (S : PS) (i : Int) : (readP S i).2.2.keep = S.keep := by unfold readP; split <;> (try split) <;> (try split) <;> (try split) <;> (try split) <;> rfl
structure KpR (w : World) (b1 j1 p1 : Nat) (S : PS) (b2 j2 p2 : Nat) (T : PS) (k1 k2 : Nat) (L : List ByteArray) (A : List (Nat × Nat)) (hn : Nat) (Mw Mn : List ByteArray) (k : Nat) (wr : World) : Prop where
  pp : P2 w wr b1 j1 p1 S b2 j2 p2 T
  tw : Tw S T L A hn Mw Mn k
  acts : A.length ≤ 2 + 38 * k
  st : (k = 1 ∨ k = 2 → S.op = true) ∧ (3 ≤ k → 40 ≤ A.length) ∧ 2 ≤ A.length
  kp : S.keep = k1 ∧ T.keep = k2
theorem KpR.below {w : World} {b1 j1 p1 : Nat} {S : PS} {b2 j2 p2 : Nat} {T : PS} {k1 k2 : Nat} {L : List ByteArray} {A : List (Nat × Nat)} {hn : Nat} {Mw Mn : List ByteArray} {k : Nat} {wr w' : World} (h : KpR w b1 j1 p1 S b2 j2 p2 T k1 k2 L A hn Mw Mn k wr) (hb : Below wr.heap.size wr w') : KpR w b1 j1 p1 S b2 j2 p2 T k1 k2 L A hn Mw Mn k w' := ⟨h.pp.below hb, h.tw, h.acts, h.st, h.kp⟩
theorem PK.tokE {w0 w : World} {b jb pb : Nat} {S : PS} {X : Nat → Prop} (K : PK w0 w b jb pb S X) (hl : S.s.last.length = 128) : S.tx.length ≤ 16 ∧ (∀ p ∈ S.tx, 19 ≤ p.1 ∧ p.1 < 128 ∧ p.2.size = 256) ∧ S.h.length ≤ S.keep := by
  obtain ⟨bw, bv, ov, K⟩ := K
  have := K.tok
  rw [hl] at this
  exact ⟨K.t16, this, K.hk⟩
theorem row_ints {w : World} {base : Nat} {v : Value} {l : List Int} (h : w.ownsRow base 3 1 v l.length (l.map encZ)) : ∃ p c, v = .slice p l.length c ∧ Ints w p l := by
  obtain ⟨p, c, rfl, _⟩ := row_form h
  exact ⟨p, c, rfl, ints_own (m := l.length) h⟩
theorem intsBelow {w w' : World} {p : Option Addr} {l : List Int} (h : Ints w p l) (hb : Below w.heap.size w w') : Ints w' p l := fun j hj => by
  obtain ⟨g, o, e, hg, hc⟩ := h j hj
  exact ⟨g, o, e, Nat.lt_of_lt_of_le hg hb.size, (hb.cell (p := ⟨g, o + j, none⟩) hg).trans hc⟩
def dropSeq : Nat → Code → Code
  | 0, c => c
  | n + 1, .seq _ b => dropSeq n b
  | _, c => c
end Go.Proofs.YtkkndlkelpdehaaGreatDoor

namespace Go.Proofs.YtkkndlkelpdehaaGreatDoor
open Go.RowKit Go.Maps Go.Sort Go.Shelf
noncomputable def keepE : Code := dropSeq 5 ((Tryz.f3.body).getD .skip)
set_option maxRecDepth 100000 in
set_option maxHeartbeats 16000000 in
theorem keepE_walk (x0 x1 : Int) (k1 k2 : Nat) (HP0 : ∀ W, Calls Tryz.prog 5 #[.int .i64 x0, .int .i64 65] W fun e w' => e = .returned (.int .i64 (k1 : Int)) ∧ w' = W) (HP1 : ∀ W, Calls Tryz.prog 5 #[.int .i64 x1, .int .i64 65] W fun e w' => e = .returned (.int .i64 (k2 : Int)) ∧ w' = W) (w : World) (b1 j1 p1 b2 j2 p2 : Nat) (S T : PS) (L : List ByteArray) (A : List (Nat × Nat)) (hn : Nat) (Mw Mn : List ByteArray) (k : Nat) (hk4 : 4 ≤ k) (hk9 : k ≤ 209719) (wr : World) (R : KpR w b1 j1 p1 S b2 j2 p2 T k1 k2 L A hn Mw Mn k wr) (t2 t3 t4 t5 t6 t11 t12 t13 t14 t15 t16 t17 t18 t19 t20 t21 t22 t23 t24 t25 t26 t27 t28 t29 t30 t31 t32 t33 t34 t35 t36 t37 t38 t39 t40 t41 t42 t43 t44 t45 t46 t47 t48 t49 t50 t51 t52 t53 t54 t55 t56 t57 t58 t59 t60 t61 t62 t63 t64 t65 t66 t67 t68 t69 t70 t71 t72 t73 t74 t75 t76 t77 t78 t79 t80 t81 t82 t83 t84 t85 t86 t87 t88 t89 t90 t91 t92 t93 t94 t95 t96 t97 t98 t99 t100 t101 t102 t103 t104 t105 t106 t107 t108 t109 t110 t111 t112 t113 t114 t115 t116 t117 t118 t119 t120 t121 t122 t123 t124 t125 t126 t127 t128 t129 t130 t131 t132 t133 t134 t135 t136 t137 t138 t139 t140 t141 t142 t143 t144 t145 t146 t147 t148 t149 t150 t151 t152 t153 t154 t155 t156 t157 t158 t159 t160 t161 t162 t163 t164 t165 t166 t167 t168 t169 t170 t171 t172 t173 t174 t175 t176 t177 t178 t179 t180 t181 t182 t183 t184 t185 t186 t187 t188 t189 t190 t191 t192 t193 t194 t195 t196 t197 t198 t199 t200 t201 t202 t203 t204 t205 t206 t207 t208 : Value) :
    Code.wp Tryz.prog keepE (bodyPost Tryz.prog Tryz.f3 fun e w' => e = .returned (.bool true) ∧ Below w.heap.size w w') ⟨#[.int .i64 x0, .int .i64 x1, t2, t3, t4, t5, t6, .pointer (some ⟨b1, 0, none⟩), .pointer (some ⟨p1, 0, none⟩), .pointer (some ⟨b2, 0, none⟩), .pointer (some ⟨p2, 0, none⟩), t11, t12, t13, t14, t15, t16, t17, t18, t19, t20, t21, t22, t23, t24, t25, t26, t27, t28, t29, t30, t31, t32, t33, t34, t35, t36, t37, t38, t39, t40, t41, t42, t43, t44, t45, t46, t47, t48, t49, t50, t51, t52, t53, t54, t55, t56, t57, t58, t59, t60, t61, t62, t63, t64, t65, t66, t67, t68, t69, t70, t71, t72, t73, t74, t75, t76, t77, t78, t79, t80, t81, t82, t83, t84, t85, t86, t87, t88, t89, t90, t91, t92, t93, t94, t95, t96, t97, t98, t99, t100, t101, t102, t103, t104, t105, t106, t107, t108, t109, t110, t111, t112, t113, t114, t115, t116, t117, t118, t119, t120, t121, t122, t123, t124, t125, t126, t127, t128, t129, t130, t131, t132, t133, t134, t135, t136, t137, t138, t139, t140, t141, t142, t143, t144, t145, t146, t147, t148, t149, t150, t151, t152, t153, t154, t155, t156, t157, t158, t159, t160, t161, t162, t163, t164, t165, t166, t167, t168, t169, t170, t171, t172, t173, t174, t175, t176, t177, t178, t179, t180, t181, t182, t183, t184, t185, t186, t187, t188, t189, t190, t191, t192, t193, t194, t195, t196, t197, t198, t199, t200, t201, t202, t203, t204, t205, t206, t207, t208], []⟩ wr := by
  conv => arg 2; whnf
  have hak : A.length ≤ 9000000 := by have := R.acts; omega
  have h40 : 40 ≤ A.length := R.st.2.1 (by omega)
  have eS : S.s.acts = A := by rw [R.tw.s.rst.s]; rfl
  have eT : T.s.acts = A := by rw [R.tw.t.rst.s]; rfl
  have hpos := R.tw.pos
  have hcnt := R.tw.cnt
  have t1 := R.pp.one.tokE (by rw [R.tw.s.rst.s]; exact R.tw.s.len)
  have t2 := R.pp.swap.one.tokE (by rw [R.tw.t.rst.s]; exact R.tw.t.len)
  have hkp := R.kp
  have HTR := hide (traceD R.pp.one.ji.di (by rw [eS]; omega))
  rw [eS] at HTR
  obtain ⟨s9, hs9⟩ : ∃ s9 : Int, S.hits + S.mis = s9 := ⟨_, rfl⟩
  have e1 : IntKind.i64.wrap (S.hits + S.mis) = s9 := by rw [wrapI_eq _ (by omega) (by omega), hs9]
  have e2 : IntKind.i64.wrap (T.hits + T.mis) = s9 := by rw [wrapI_eq _ (by omega) (by omega), ← hcnt, hs9]
  have u1 : decide ((S.h.length : Int) ≤ (k1 : Int)) = true := decide_eq_true (by omega)
  have u2 : decide ((T.h.length : Int) ≤ (k2 : Int)) = true := decide_eq_true (by omega)
  have u3 : decide ((0 : Int) ≤ (S.h.length : Int)) = true := decide_eq_true (by omega)
  have u4 : decide ((0 : Int) ≤ (T.h.length : Int)) = true := decide_eq_true (by omega)
  have HEE := hide (And.intro e1 (And.intro e2 (And.intro u1 (And.intro u2 (And.intro u3 u4)))))
  have HET := hide eT
  have HR := hide R
  have HQ0 := hide HP0
  have HQ1 := hide HP1
  clear hpos hcnt t1 t2 hkp eS eT hs9 e1 e2 u1 u2 u3 u4 hk4 hk9 HP0 HP1 R
  go_wp2_with fail
  refine (unhide HTR).mono ?_
  rintro e x1' ⟨rfl, hB1, -, hb1⟩
  have HR1 := hide ((unhide HR).below hb1)
  have HTR2 := hide (traceD (unhide HR1).pp.swap.one.ji.di (by rw [unhide HET]; omega))
  rw [unhide HET] at HTR2
  have HB1 := hide hB1
  obtain ⟨g1, hg1⟩ : ∃ g, wr.heap.size = g := ⟨_, rfl⟩
  rw [hg1] at HB1 ⊢
  clear hB1 hb1 HTR HR hg1
  go_wp2_with fail
  refine (unhide HTR2).mono ?_
  rintro e x2 ⟨rfl, hB2, -, hb2⟩
  have HR2 := hide ((unhide HR1).below hb2)
  have HB1' := hide ((unhide HB1).below hb2 (unhide HB1).lt)
  have HB2 := hide hB2
  obtain ⟨g2, hg2⟩ : ∃ g, x1'.heap.size = g := ⟨_, rfl⟩
  rw [hg2] at HB2 ⊢
  obtain ⟨al, hal⟩ : ∃ al, A.length = al := ⟨_, rfl⟩
  have HAL := hide hal
  rw [hal] at hak h40 ⊢
  have n1 : ((al : Int) != (al : Int)) = false := by simp
  have n2 : decide ((al : Int) < 40) = false := decide_eq_false (by omega)
  clear hB2 hb2 HTR2 HR1 HB1 hg2 hal
  go_wp2_with fail
  clear n1 n2
  go_loopw [22] (fun i wr => ∃ k d : Nat, k ≤ al ∧ i = .int .i64 (k : Int) ∧ wr = x2.drewN d) (fun i _ => al - (intOf i).toNat)
  case atStart => exact ⟨0, 0, by omega, rfl, rfl⟩
  case round =>
    obtain ⟨q, dd, hq, rfl, rfl⟩ := hrel
    obtain ⟨xd, hxd⟩ : ∃ q, x2.drewN dd = q := ⟨_, rfl⟩
    by_cases hqa : q < al
    · as_aux_lemma =>
        obtain ⟨pa, hpa⟩ : ∃ pa, A[q]? = some pa := ⟨_, List.getElem?_eq_getElem (by rw [unhide HAL]; exact hqa)⟩
        obtain ⟨x, y, hxy⟩ : ∃ x y : Int, tel1 pa = [.int .i64 x, .int .i64 y] := by unfold tel1; split <;> exact ⟨_, _, rfl⟩
        obtain ⟨v1, v2⟩ := tels_at A q pa _ _ hpa hxy
        have d1 : (x2.drewN dd).cell? ⟨g1, q * 2, none⟩ = some (.int .i64 x) := ((unhide HB1').cell (q * 2)).trans (by simpa using v1)
        have d2 : (x2.drewN dd).cell? ⟨g1, q * 2 + 1, none⟩ = some (.int .i64 y) := ((unhide HB1').cell (q * 2 + 1)).trans (by simpa using v2)
        have d3 : (x2.drewN dd).cell? ⟨g2, q * 2, none⟩ = some (.int .i64 x) := ((unhide HB2).cell (q * 2)).trans (by simpa using v1)
        have d4 : (x2.drewN dd).cell? ⟨g2, q * 2 + 1, none⟩ = some (.int .i64 y) := ((unhide HB2).cell (q * 2 + 1)).trans (by simpa using v2)
        rw [hxd] at d1 d2 d3 d4 ⊢
        have HXD := hide hxd
        have i0 : 0 ≤ (q : Int) := by omega
        have i1 : (q : Int) < (al : Int) := by omega
        clear hxd v1 v2 hpa hxy
        go_wp2_with fail
        go_quiet (fail)
        go_wp2
        go_roundw
        case rel => exact ⟨q + 1, dd + _, by omega, by go_num, by rw [← unhide HXD]; exact drewN_drewN _ _ _⟩
        case measure => simp [intOf]; omega
    · have i1 : ¬ ((q : Int) < (al : Int)) := by omega
      have HRD := hide ((unhide HR2).below (below_drewN (Below.refl _ _) dd))
      rw [hxd] at HRD ⊢
      have HST := hide (unhide HRD).pp.one.stats
      clear hxd HR2 HB1' HB2 hqa HAL
      go_wp2_with fail
      refine (unhide HST).mono ?_
      rintro e x3 ⟨rfl, hb3⟩
      have HR3 := hide ((unhide HRD).below hb3)
      obtain ⟨x4, hx4⟩ : ∃ Z, x3.alloc (.cells #[.int .i64 S.hits, .int .i64 S.mis, .int .i64 (S.h.length : Int)] 45) = Z := ⟨_, rfl⟩
      have hb4 : Below x3.heap.size x3 x4 := by rw [← hx4]; exact (Below.refl _ _).alloc (Nat.le_refl _) _
      have HB4 := hide (show Blk x4 x3.heap.size #[.int .i64 S.hits, .int .i64 S.mis, .int .i64 (S.h.length : Int)] 45 from by rw [← hx4]; exact Blk.new _ _ _)
      have HR4 := hide ((unhide HR3).below hb4)
      have HST2 := hide (unhide HR4).pp.swap.one.stats
      obtain ⟨g3, hg3⟩ : ∃ z, x3.heap.size = z := ⟨_, rfl⟩
      rw [hg3] at HB4
      clear hb3 hb4 HST HRD HR3
      go_wp2_with fail
      (try rw [hx4, hg3])
      clear hx4 hg3
      refine (unhide HST2).mono ?_
      rintro e x5 ⟨rfl, hb5⟩
      have HR5 := hide ((unhide HR4).below hb5)
      have HB5 := hide ((unhide HB4).below hb5 (unhide HB4).lt)
      obtain ⟨x6, hx6⟩ : ∃ Z, x5.alloc (.cells #[.int .i64 T.hits, .int .i64 T.mis, .int .i64 (T.h.length : Int)] 45) = Z := ⟨_, rfl⟩
      have hb6 : Below x5.heap.size x5 x6 := by rw [← hx6]; exact (Below.refl _ _).alloc (Nat.le_refl _) _
      have hB6 : Blk x6 x5.heap.size #[.int .i64 T.hits, .int .i64 T.mis, .int .i64 (T.h.length : Int)] 45 := by rw [← hx6]; exact Blk.new _ _ _
      have hB7 := (unhide HB5).below hb6 (unhide HB5).lt
      obtain ⟨g4, hg4⟩ : ∃ z, x5.heap.size = z := ⟨_, rfl⟩
      rw [hg4] at hB6
      have c0 : x6.cell? ⟨g3, 0, none⟩ = some (.int .i64 S.hits) := hB7.cell 0
      have c1 : x6.cell? ⟨g3, 1, none⟩ = some (.int .i64 S.mis) := hB7.cell 1
      have c2 : x6.cell? ⟨g3, 2, none⟩ = some (.int .i64 (S.h.length : Int)) := hB7.cell 2
      have c3 : x6.cell? ⟨g4, 0, none⟩ = some (.int .i64 T.hits) := hB6.cell 0
      have c4 : x6.cell? ⟨g4, 1, none⟩ = some (.int .i64 T.mis) := hB6.cell 1
      have c5 : x6.cell? ⟨g4, 2, none⟩ = some (.int .i64 (T.h.length : Int)) := hB6.cell 2
      have HF := hide ((unhide HR5).below hb6).pp.bel
      obtain ⟨e1, e2, u1, u2, u3, u4⟩ := unhide HEE
      generalize S.hits = sh at *
      generalize S.mis = sm at *
      generalize T.hits = th at *
      generalize T.mis = tm at *
      generalize (S.h.length : Int) = sl at *
      generalize (T.h.length : Int) = tl at *
      have ee : (s9 == s9) = true := by simp
      have hx6' := hx6
      clear hb5 hb6 hB6 hB7 HST2 HR4 HB4 HR5 HB5 HEE HET
      have HX6 := hide hx6
      clear hx6 hx6'
      go_upto_region 41 with fail
      (try rw [unhide HX6])
      (try rw [hg4])
      clear HX6 hg4
      refine wp_region_held_drew (S := fun W => Below w.heap.size w W ∧ W.cell? ⟨g3, 0, none⟩ = some (.int .i64 sh) ∧ W.cell? ⟨g3, 1, none⟩ = some (.int .i64 sm) ∧ W.cell? ⟨g3, 2, none⟩ = some (.int .i64 sl) ∧ W.cell? ⟨g4, 0, none⟩ = some (.int .i64 th) ∧ W.cell? ⟨g4, 1, none⟩ = some (.int .i64 tm) ∧ W.cell? ⟨g4, 2, none⟩ = some (.int .i64 tl)) (by kernel_rfl) ⟨(unhide HF).drew, c0, c1, c2, c3, c4, c5⟩ ?_
      intro hS
      refine wpAnyH_takeD 0 (some 174) (.pointer (some ⟨g3, 0, none⟩)) rfl rfl (by kernel_rfl) (by kernel_rfl) (by kernel_rfl) (fun _ _ _ h => h) (Or.inl ⟨by rfl, fun w hSw => by obtain ⟨-, q0, q1, q2, q3, q4, q5⟩ := hSw; go_simp⟩) hS ?_
      simp only [Act.put, List.setIfInBounds_toArray, List.set_cons_zero, List.set_cons_succ]
      refine wpAnyH_takeD 1 (some 175) (.int .i64 sh) rfl rfl (by kernel_rfl) (by kernel_rfl) (by kernel_rfl) (fun _ _ _ h => h) (Or.inl ⟨by rfl, fun w hSw => by obtain ⟨-, q0, q1, q2, q3, q4, q5⟩ := hSw; go_simp⟩) hS ?_
      simp only [Act.put, List.setIfInBounds_toArray, List.set_cons_zero, List.set_cons_succ]
      refine wpAnyH_takeD 2 (some 176) (.pointer (some ⟨g3, 1, none⟩)) rfl rfl (by kernel_rfl) (by kernel_rfl) (by kernel_rfl) (fun _ _ _ h => h) (Or.inl ⟨by rfl, fun w hSw => by obtain ⟨-, q0, q1, q2, q3, q4, q5⟩ := hSw; go_simp⟩) hS ?_
      simp only [Act.put, List.setIfInBounds_toArray, List.set_cons_zero, List.set_cons_succ]
      refine wpAnyH_takeD 3 (some 177) (.int .i64 sm) rfl rfl (by kernel_rfl) (by kernel_rfl) (by kernel_rfl) (fun _ _ _ h => h) (Or.inl ⟨by rfl, fun w hSw => by obtain ⟨-, q0, q1, q2, q3, q4, q5⟩ := hSw; go_simp⟩) hS ?_
      simp only [Act.put, List.setIfInBounds_toArray, List.set_cons_zero, List.set_cons_succ]
      refine wpAnyH_takeD 4 (some 178) (.int .i64 s9) rfl rfl (by kernel_rfl) (by kernel_rfl) (by kernel_rfl) (fun _ _ _ h => h) (Or.inl ⟨by rfl, fun w hSw => by obtain ⟨-, q0, q1, q2, q3, q4, q5⟩ := hSw; go_simp⟩) hS ?_
      simp only [Act.put, List.setIfInBounds_toArray, List.set_cons_zero, List.set_cons_succ]
      refine wpAnyH_takeD 5 (some 179) (.pointer (some ⟨g4, 0, none⟩)) rfl rfl (by kernel_rfl) (by kernel_rfl) (by kernel_rfl) (fun _ _ _ h => h) (Or.inl ⟨by rfl, fun w hSw => by obtain ⟨-, q0, q1, q2, q3, q4, q5⟩ := hSw; go_simp⟩) hS ?_
      simp only [Act.put, List.setIfInBounds_toArray, List.set_cons_zero, List.set_cons_succ]
      refine wpAnyH_takeD 6 (some 180) (.int .i64 th) rfl rfl (by kernel_rfl) (by kernel_rfl) (by kernel_rfl) (fun _ _ _ h => h) (Or.inl ⟨by rfl, fun w hSw => by obtain ⟨-, q0, q1, q2, q3, q4, q5⟩ := hSw; go_simp⟩) hS ?_
      simp only [Act.put, List.setIfInBounds_toArray, List.set_cons_zero, List.set_cons_succ]
      refine wpAnyH_takeD 7 (some 181) (.pointer (some ⟨g4, 1, none⟩)) rfl rfl (by kernel_rfl) (by kernel_rfl) (by kernel_rfl) (fun _ _ _ h => h) (Or.inl ⟨by rfl, fun w hSw => by obtain ⟨-, q0, q1, q2, q3, q4, q5⟩ := hSw; go_simp⟩) hS ?_
      simp only [Act.put, List.setIfInBounds_toArray, List.set_cons_zero, List.set_cons_succ]
      refine wpAnyH_takeD 8 (some 182) (.int .i64 tm) rfl rfl (by kernel_rfl) (by kernel_rfl) (by kernel_rfl) (fun _ _ _ h => h) (Or.inl ⟨by rfl, fun w hSw => by obtain ⟨-, q0, q1, q2, q3, q4, q5⟩ := hSw; go_simp⟩) hS ?_
      simp only [Act.put, List.setIfInBounds_toArray, List.set_cons_zero, List.set_cons_succ]
      refine wpAnyH_takeD 9 (some 183) (.int .i64 s9) rfl rfl (by kernel_rfl) (by kernel_rfl) (by kernel_rfl) (fun _ _ _ h => h) (Or.inl ⟨by rfl, fun w hSw => by obtain ⟨-, q0, q1, q2, q3, q4, q5⟩ := hSw; go_simp⟩) hS ?_
      simp only [Act.put, List.setIfInBounds_toArray, List.set_cons_zero, List.set_cons_succ]
      refine wpAnyH_takeD 10 (some 184) (.bool true) rfl rfl (by kernel_rfl) (by kernel_rfl) (by kernel_rfl) (fun _ _ _ h => h) (Or.inl ⟨by rfl, fun w hSw => by obtain ⟨-, q0, q1, q2, q3, q4, q5⟩ := hSw; go_simp⟩) hS ?_
      simp only [Act.put, List.setIfInBounds_toArray, List.set_cons_zero, List.set_cons_succ]
      refine wpAnyH_takeD 11 (some 185) (.bool true) rfl rfl (by kernel_rfl) (by kernel_rfl) (by kernel_rfl) (fun _ _ _ h => h) (Or.inl ⟨by rfl, fun w hSw => by obtain ⟨-, q0, q1, q2, q3, q4, q5⟩ := hSw; go_simp⟩) hS ?_
      simp only [Act.put, List.setIfInBounds_toArray, List.set_cons_zero, List.set_cons_succ]
      refine wpAnyH_takeD 12 (some 186) (.pointer (some ⟨g3, 2, none⟩)) rfl rfl (by kernel_rfl) (by kernel_rfl) (by kernel_rfl) (fun _ _ _ h => h) (Or.inl ⟨by rfl, fun w hSw => by obtain ⟨-, q0, q1, q2, q3, q4, q5⟩ := hSw; go_simp⟩) hS ?_
      simp only [Act.put, List.setIfInBounds_toArray, List.set_cons_zero, List.set_cons_succ]
      refine wpAnyH_takeD 13 (some 187) (.int .i64 sl) rfl rfl (by kernel_rfl) (by kernel_rfl) (by kernel_rfl) (fun _ _ _ h => h) (Or.inl ⟨by rfl, fun w hSw => by obtain ⟨-, q0, q1, q2, q3, q4, q5⟩ := hSw; go_simp⟩) hS ?_
      simp only [Act.put, List.setIfInBounds_toArray, List.set_cons_zero, List.set_cons_succ]
      refine wpAnyH_takeD 14 (some 188) (.int .i64 x0) rfl rfl (by kernel_rfl) (by kernel_rfl) (by kernel_rfl) (fun _ _ _ h => h) (Or.inl ⟨by rfl, fun w hSw => by obtain ⟨-, q0, q1, q2, q3, q4, q5⟩ := hSw; go_simp⟩) hS ?_
      simp only [Act.put, List.setIfInBounds_toArray, List.set_cons_zero, List.set_cons_succ]
      refine wpAnyH_ready (rs := [15]) (by kernel_rfl) (by simp) ?_
      refine AllReadyH.cons rfl (fun K hK => ?_) AllReadyH.nil
      simp only [List.getElem_toArray, List.getElem_cons_succ, List.getElem_cons_zero]
      go_simp
      refine (unhide HQ0 _).mono ?_
      rintro e y1 ⟨rfl, hy1⟩
      subst y1
      refine hK.out _ _ hS (fun hS => ?_)
      clear hK K
      refine wpAnyH_takeD 16 (some 190) (.bool true) rfl rfl (by kernel_rfl) (by kernel_rfl) (by kernel_rfl) (fun _ _ _ h => h) (Or.inl ⟨by rfl, fun w hSw => by obtain ⟨-, q0, q1, q2, q3, q4, q5⟩ := hSw; go_simp⟩) hS ?_
      simp only [Act.put, List.setIfInBounds_toArray, List.set_cons_zero, List.set_cons_succ]
      refine wpAnyH_takeD 17 (some 191) (.bool true) rfl rfl (by kernel_rfl) (by kernel_rfl) (by kernel_rfl) (fun _ _ _ h => h) (Or.inl ⟨by rfl, fun w hSw => by obtain ⟨-, q0, q1, q2, q3, q4, q5⟩ := hSw; go_simp⟩) hS ?_
      simp only [Act.put, List.setIfInBounds_toArray, List.set_cons_zero, List.set_cons_succ]
      refine wpAnyH_takeD 18 (some 192) (.bool true) rfl rfl (by kernel_rfl) (by kernel_rfl) (by kernel_rfl) (fun _ _ _ h => h) (Or.inl ⟨by rfl, fun w hSw => by obtain ⟨-, q0, q1, q2, q3, q4, q5⟩ := hSw; go_simp⟩) hS ?_
      simp only [Act.put, List.setIfInBounds_toArray, List.set_cons_zero, List.set_cons_succ]
      refine wpAnyH_takeD 19 (some 193) (.pointer (some ⟨g4, 2, none⟩)) rfl rfl (by kernel_rfl) (by kernel_rfl) (by kernel_rfl) (fun _ _ _ h => h) (Or.inl ⟨by rfl, fun w hSw => by obtain ⟨-, q0, q1, q2, q3, q4, q5⟩ := hSw; go_simp⟩) hS ?_
      simp only [Act.put, List.setIfInBounds_toArray, List.set_cons_zero, List.set_cons_succ]
      refine wpAnyH_takeD 20 (some 194) (.int .i64 tl) rfl rfl (by kernel_rfl) (by kernel_rfl) (by kernel_rfl) (fun _ _ _ h => h) (Or.inl ⟨by rfl, fun w hSw => by obtain ⟨-, q0, q1, q2, q3, q4, q5⟩ := hSw; go_simp⟩) hS ?_
      simp only [Act.put, List.setIfInBounds_toArray, List.set_cons_zero, List.set_cons_succ]
      refine wpAnyH_takeD 21 (some 195) (.int .i64 x1) rfl rfl (by kernel_rfl) (by kernel_rfl) (by kernel_rfl) (fun _ _ _ h => h) (Or.inl ⟨by rfl, fun w hSw => by obtain ⟨-, q0, q1, q2, q3, q4, q5⟩ := hSw; go_simp⟩) hS ?_
      simp only [Act.put, List.setIfInBounds_toArray, List.set_cons_zero, List.set_cons_succ]
      refine wpAnyH_ready (rs := [22]) (by kernel_rfl) (by simp) ?_
      refine AllReadyH.cons rfl (fun K hK => ?_) AllReadyH.nil
      simp only [List.getElem_toArray, List.getElem_cons_succ, List.getElem_cons_zero]
      go_simp
      refine (unhide HQ1 _).mono ?_
      rintro e y1 ⟨rfl, hy1⟩
      subst y1
      refine hK.out _ _ hS (fun hS => ?_)
      clear hK K
      refine wpAnyH_takeD 23 (some 197) (.bool true) rfl rfl (by kernel_rfl) (by kernel_rfl) (by kernel_rfl) (fun _ _ _ h => h) (Or.inl ⟨by rfl, fun w hSw => by obtain ⟨-, q0, q1, q2, q3, q4, q5⟩ := hSw; go_simp⟩) hS ?_
      simp only [Act.put, List.setIfInBounds_toArray, List.set_cons_zero, List.set_cons_succ]
      refine wpAnyH_takeD 24 (some 198) (.bool true) rfl rfl (by kernel_rfl) (by kernel_rfl) (by kernel_rfl) (fun _ _ _ h => h) (Or.inl ⟨by rfl, fun w hSw => by obtain ⟨-, q0, q1, q2, q3, q4, q5⟩ := hSw; go_simp⟩) hS ?_
      simp only [Act.put, List.setIfInBounds_toArray, List.set_cons_zero, List.set_cons_succ]
      refine wpAnyH_takeD 25 (some 199) (.bool true) rfl rfl (by kernel_rfl) (by kernel_rfl) (by kernel_rfl) (fun _ _ _ h => h) (Or.inl ⟨by rfl, fun w hSw => by obtain ⟨-, q0, q1, q2, q3, q4, q5⟩ := hSw; go_simp⟩) hS ?_
      simp only [Act.put, List.setIfInBounds_toArray, List.set_cons_zero, List.set_cons_succ]
      refine wpAnyH_takeD 26 (some 200) (.pointer (some ⟨g3, 2, none⟩)) rfl rfl (by kernel_rfl) (by kernel_rfl) (by kernel_rfl) (fun _ _ _ h => h) (Or.inl ⟨by rfl, fun w hSw => by obtain ⟨-, q0, q1, q2, q3, q4, q5⟩ := hSw; go_simp⟩) hS ?_
      simp only [Act.put, List.setIfInBounds_toArray, List.set_cons_zero, List.set_cons_succ]
      refine wpAnyH_takeD 27 (some 201) (.int .i64 sl) rfl rfl (by kernel_rfl) (by kernel_rfl) (by kernel_rfl) (fun _ _ _ h => h) (Or.inl ⟨by rfl, fun w hSw => by obtain ⟨-, q0, q1, q2, q3, q4, q5⟩ := hSw; go_simp⟩) hS ?_
      simp only [Act.put, List.setIfInBounds_toArray, List.set_cons_zero, List.set_cons_succ]
      refine wpAnyH_takeD 28 (some 202) (.bool true) rfl rfl (by kernel_rfl) (by kernel_rfl) (by kernel_rfl) (fun _ _ _ h => h) (Or.inl ⟨by rfl, fun w hSw => by obtain ⟨-, q0, q1, q2, q3, q4, q5⟩ := hSw; go_simp⟩) hS ?_
      simp only [Act.put, List.setIfInBounds_toArray, List.set_cons_zero, List.set_cons_succ]
      refine wpAnyH_takeD 29 (some 203) (.bool true) rfl rfl (by kernel_rfl) (by kernel_rfl) (by kernel_rfl) (fun _ _ _ h => h) (Or.inl ⟨by rfl, fun w hSw => by obtain ⟨-, q0, q1, q2, q3, q4, q5⟩ := hSw; go_simp⟩) hS ?_
      simp only [Act.put, List.setIfInBounds_toArray, List.set_cons_zero, List.set_cons_succ]
      refine wpAnyH_takeD 30 (some 204) (.bool true) rfl rfl (by kernel_rfl) (by kernel_rfl) (by kernel_rfl) (fun _ _ _ h => h) (Or.inl ⟨by rfl, fun w hSw => by obtain ⟨-, q0, q1, q2, q3, q4, q5⟩ := hSw; go_simp⟩) hS ?_
      simp only [Act.put, List.setIfInBounds_toArray, List.set_cons_zero, List.set_cons_succ]
      refine wpAnyH_takeD 31 (some 205) (.pointer (some ⟨g4, 2, none⟩)) rfl rfl (by kernel_rfl) (by kernel_rfl) (by kernel_rfl) (fun _ _ _ h => h) (Or.inl ⟨by rfl, fun w hSw => by obtain ⟨-, q0, q1, q2, q3, q4, q5⟩ := hSw; go_simp⟩) hS ?_
      simp only [Act.put, List.setIfInBounds_toArray, List.set_cons_zero, List.set_cons_succ]
      refine wpAnyH_takeD 32 (some 206) (.int .i64 tl) rfl rfl (by kernel_rfl) (by kernel_rfl) (by kernel_rfl) (fun _ _ _ h => h) (Or.inl ⟨by rfl, fun w hSw => by obtain ⟨-, q0, q1, q2, q3, q4, q5⟩ := hSw; go_simp⟩) hS ?_
      simp only [Act.put, List.setIfInBounds_toArray, List.set_cons_zero, List.set_cons_succ]
      refine wpAnyH_takeD 33 (some 207) (.bool true) rfl rfl (by kernel_rfl) (by kernel_rfl) (by kernel_rfl) (fun _ _ _ h => h) (Or.inl ⟨by rfl, fun w hSw => by obtain ⟨-, q0, q1, q2, q3, q4, q5⟩ := hSw; go_simp⟩) hS ?_
      simp only [Act.put, List.setIfInBounds_toArray, List.set_cons_zero, List.set_cons_succ]
      refine wpAnyH_takeD 34 (some 208) (.bool true) rfl rfl (by kernel_rfl) (by kernel_rfl) (by kernel_rfl) (fun _ _ _ h => h) (Or.inl ⟨by rfl, fun w hSw => by obtain ⟨-, q0, q1, q2, q3, q4, q5⟩ := hSw; go_simp⟩) hS ?_
      simp only [Act.put, List.setIfInBounds_toArray, List.set_cons_zero, List.set_cons_succ]
      refine wpAnyH_takeD 35 (some 6) (.bool true) rfl rfl (by kernel_rfl) (by kernel_rfl) (by kernel_rfl) (fun _ _ _ h => h) (Or.inl ⟨by rfl, fun w hSw => by obtain ⟨-, q0, q1, q2, q3, q4, q5⟩ := hSw; go_simp⟩) hS ?_
      simp only [Act.put, List.setIfInBounds_toArray, List.set_cons_zero, List.set_cons_succ]
      refine wpAnyH_done (by kernel_rfl) ?_ _
      go_wp2_with fail
      go_ret
      exact ⟨rfl, hS.1⟩
end Go.Proofs.YtkkndlkelpdehaaGreatDoor
