import Derived.Test.YtifjmldmilmfjaaGreatDoorMp25
import Derived.Test.YtifjmldmilmfjaaGreatDoorMp24
namespace Go.Proofs.YtifjmldmilmfjaaGreatDoor
open Go.RowKit
set_option maxRecDepth 100000
theorem bodyPost_m {P : Program} {fn : Func} {R R' : Ending → World → Prop} (hR : ∀ e w, R e w → R' e w) : ∀ (e : Exit) (a : Act) (w : World), bodyPost P fn R e a w → bodyPost P fn R' e a w := by
  intro e a w hh
  cases e
  case normal => exact ⟨hh.1, hh.2.imp fun v q => ⟨q.1, hR _ _ q.2⟩⟩
  case ret => exact ⟨hh.1, hh.2.imp fun v q => ⟨q.1, hR _ _ q.2⟩⟩
  case panic ch => exact ⟨hh.1, hR _ _ hh.2⟩
  case outgrown => exact hR _ _ hh
  case exit i => exact hh.elim
  case goto i => exact hh.elim
/-- the frames that were sent -/
structure FrI (W : World) (vf : Value) (n : Nat) (fl : List ByteArray) : Prop where
  o : W.ownsRow 0 9 1 vf n (fl.map Value.string)
  hn : fl.length = n
  sz : ∀ j, j < n → (fl.getD j ⟨#[]⟩).size ≤ 4122
theorem FrI.kp {W W' : World} {vf : Value} {n : Nat} {fl : List ByteArray} (x : FrI W vf n fl) (k : KpR W W') : FrI W' vf n fl := ⟨k.row _ _ _ _ _ _ (by decide) (by decide) (by decide) x.o, x.hn, x.sz⟩
noncomputable def playB : Code := dropSeqL 1 ((Tryz.f26.body).getD .skip)
noncomputable def playC : Code := dropSeqL 2 ((Tryz.f26.body).getD .skip)
set_option maxHeartbeats 4000000 in
theorem playC_walk (w0 : World) (h F : Nat) (gb db : Nat → Nat) (m : Nat) (hm : m ≤ 4398046511103) (hEnv : Env w0 h) (hvh : 1 < h) (a t c : Nat) (ha : a < 4) (ht : t < 4) (hc : c < 4) (kd ed N M : Int) (hN : I64 N) (hM : I64 M) (S : ByteArray) (hS9 : S.size ≤ 140737488351232) (b : Nat) (hb : F ≤ b) (W : World) (E : Nat → LE) (V : Nat → Value) (L : Nat → List Nat) (x : PlI w0 h F gb db m W E V L) (hBX : BX (gb a) (db a) (gb t) (db t) (gb c) (db c) kd ed N M S b W) (pf : Option Addr) (nf cf : Nat) (fl : List ByteArray) (hfr : FrI W (.slice pf nf cf) nf fl) (t0 t1 t2 t3 t9 t10 t12 t13 t14 t15 t16 t17 t18 t19 t20 t21 t22 t23 t24 t25 t26 t27 t28 t29 t30 t31 t32 t33 t34 t35 t36 t37 t38 t39 t40 t41 t42 t43 t44 t45 t46 t47 t48 t49 t50 t51 t52 t53 t54 t55 t56 t57 t58 t59 t60 t61 t62 t63 t64 t65 t66 t67 t68 t69 t70 t71 t72 t73 t74 t75 t76 t77 t78 t79 t80 t81 t82 t83 t84 t85 t86 t87 t88 t89 t90 t91 t92 t93 t94 t95 t96 t97 t98 t99 t100 t101 t102 t103 t104 t105 t106 t107 t108 t109 t110 t111 t112 t113 t114 t115 t116 t117 t118 t119 t120 t121 t122 t123 t124 t125 t126 t127 t128 t129 t130 t131 t132 t133 t134 t135 t136 t137 t138 t139 t140 t141 t142 t143 t144 t145 t146 t147 t148 t149 t150 t151 t152 t153 t154 t155 t156 t157 t158 t159 t160 t161 t162 t163 t164 t165 t166 t167 t168 t169 t170 t171 t172 t173 t174 t175 t176 t177 t178 t179 t180 t181 t182 t183 t184 t185 t186 t187 t188 t189 : Value) :
    Code.wp Tryz.prog playC (bodyPost Tryz.prog Tryz.f26 fun e w' => e = .returned (.bool true) ∧ PlS w0 h F gb db (m + 1) w' ∧ KpR W w') ⟨#[t0, t1, t2, t3, .slice pf nf cf, .pointer (some ⟨b, 0, none⟩), .pointer (some ⟨b + 1, 0, none⟩), .pointer (some ⟨b + 2, 0, none⟩), .pointer (some ⟨b + 3, 0, none⟩), t9, t10, .string ⟨#[]⟩, t12, t13, t14, t15, t16, t17, t18, t19, t20, t21, t22, t23, t24, t25, t26, t27, t28, t29, t30, t31, t32, t33, t34, t35, t36, t37, t38, t39, t40, t41, t42, t43, t44, t45, t46, t47, t48, t49, t50, t51, t52, t53, t54, t55, t56, t57, t58, t59, t60, t61, t62, t63, t64, t65, t66, t67, t68, t69, t70, t71, t72, t73, t74, t75, t76, t77, t78, t79, t80, t81, t82, t83, t84, t85, t86, t87, t88, t89, t90, t91, t92, t93, t94, t95, t96, t97, t98, t99, t100, t101, t102, t103, t104, t105, t106, t107, t108, t109, t110, t111, t112, t113, t114, t115, t116, t117, t118, t119, t120, t121, t122, t123, t124, t125, t126, t127, t128, t129, t130, t131, t132, t133, t134, t135, t136, t137, t138, t139, t140, t141, t142, t143, t144, t145, t146, t147, t148, t149, t150, t151, t152, t153, t154, t155, t156, t157, t158, t159, t160, t161, t162, t163, t164, t165, t166, t167, t168, t169, t170, t171, t172, t173, t174, t175, t176, t177, t178, t179, t180, t181, t182, t183, t184, t185, t186, t187, t188, t189], []⟩ W := by
  conv => arg 2; whnf
  refine wp_seq_k fun K hK => ?_
  have HK := hide (fun (f : ByteArray) (hf : f.size ≤ 4122) (t0 t1 t2 t3 t4 t9 t10 t12 t13 t14 t15 t16 t17 t18 t19 t20 t21 t22 t23 t24 t25 t26 t27 t28 t29 t30 t31 t32 t33 t34 t35 t36 t37 t38 t39 t40 t41 t42 t43 t44 t45 t46 t47 t48 t49 t50 t51 t52 t53 t54 t55 t56 t57 t58 t59 t60 t61 t62 t63 t64 t65 t66 t67 t68 t69 t70 t71 t72 t73 t74 t75 t76 t77 t78 t79 t80 t81 t82 t83 t84 t85 t86 t87 t88 t89 t90 t91 t92 t93 t94 t95 t96 t97 t98 t99 t100 t101 t102 t103 t104 t105 t106 t107 t108 t109 t110 t111 t112 t113 t114 t115 t116 t117 t118 t119 t120 t121 t122 t123 t124 t125 t126 t127 t128 t129 t130 t131 t132 t133 t134 t135 t136 t137 t138 t139 t140 t141 t142 t143 t144 t145 t146 t147 t148 t149 t150 t151 t152 t153 t154 t155 t156 t157 t158 t159 t160 t161 t162 t163 t164 t165 t166 t167 t168 t169 t170 t171 t172 t173 t174 t175 t176 t177 t178 t179 t180 t181 t182 t183 t184 t185 t186 t187 t188 t189 : Value) => hK _ _ (playE_walk w0 h F gb db m hm hEnv hvh a t c ha ht hc kd ed N M hN hM S hS9 f hf b hb W E V L x hBX t0 t1 t2 t3 t4 t9 t10 t12 t13 t14 t15 t16 t17 t18 t19 t20 t21 t22 t23 t24 t25 t26 t27 t28 t29 t30 t31 t32 t33 t34 t35 t36 t37 t38 t39 t40 t41 t42 t43 t44 t45 t46 t47 t48 t49 t50 t51 t52 t53 t54 t55 t56 t57 t58 t59 t60 t61 t62 t63 t64 t65 t66 t67 t68 t69 t70 t71 t72 t73 t74 t75 t76 t77 t78 t79 t80 t81 t82 t83 t84 t85 t86 t87 t88 t89 t90 t91 t92 t93 t94 t95 t96 t97 t98 t99 t100 t101 t102 t103 t104 t105 t106 t107 t108 t109 t110 t111 t112 t113 t114 t115 t116 t117 t118 t119 t120 t121 t122 t123 t124 t125 t126 t127 t128 t129 t130 t131 t132 t133 t134 t135 t136 t137 t138 t139 t140 t141 t142 t143 t144 t145 t146 t147 t148 t149 t150 t151 t152 t153 t154 t155 t156 t157 t158 t159 t160 t161 t162 t163 t164 t165 t166 t167 t168 t169 t170 t171 t172 t173 t174 t175 t176 t177 t178 t179 t180 t181 t182 t183 t184 t185 t186 t187 t188 t189))
  have o2 : W.cell? ⟨b + 1, 2, none⟩ = some (.int .i64 N) := hBX.o.cell 2
  have HFR := hide hfr
  have HPK := hide (fun (hz : 0 < nf) W => pick21 N nf hz hN W)
  clear hBX x hK hfr hEnv
  by_cases hz : 0 < nf
  · have e1 : (nf : Int) > 0 := by omega
    go_wp2_with fail
    refine (unhide HPK hz _).mono ?_
    rintro ev y ⟨r, hr, rfl, hy⟩
    subst y
    clear HPK
    obtain ⟨gf, rfl, hcf, _⟩ := gr_cell (unhide HFR).o r hr
    have hcf2 : W.cell? ⟨gf, r, none⟩ = some (.string (fl.getD r ⟨#[]⟩)) := by
      rw [hcf, List.getElem?_map, List.getD_eq_getElem?_getD]
      have := (unhide HFR).hn
      rw [List.getElem?_eq_getElem (by omega)]
      rfl
    have hsz := (unhide HFR).sz r hr
    generalize fl.getD r ⟨#[]⟩ = f at *
    have hr2 : (r : Int) < (nf : Int) := by omega
    clear hcf HFR
    go_wp2
    exact unhide HK f hsz _ _ _ _ _ _ _ _ _ _ _ _ _ _ _ _ _ _ _ _ _ _ _ _ _ _ _ _ _ _ _ _ _ _ _ _ _ _ _ _ _ _ _ _ _ _ _ _ _ _ _ _ _ _ _ _ _ _ _ _ _ _ _ _ _ _ _ _ _ _ _ _ _ _ _ _ _ _ _ _ _ _ _ _ _ _ _ _ _ _ _ _ _ _ _ _ _ _ _ _ _ _ _ _ _ _ _ _ _ _ _ _ _ _ _ _ _ _ _ _ _ _ _ _ _ _ _ _ _ _ _ _ _ _ _ _ _ _ _ _ _ _ _ _ _ _ _ _ _ _ _ _ _ _ _ _ _ _ _ _ _ _ _ _ _ _ _ _ _ _ _ _ _ _ _ _ _ _ _ _ _ _ _ _ _
  · have e1 : ¬ (nf : Int) > 0 := by omega
    clear HPK HFR
    go_wp2
    exact unhide HK ⟨#[]⟩ (by decide) _ _ _ _ _ _ _ _ _ _ _ _ _ _ _ _ _ _ _ _ _ _ _ _ _ _ _ _ _ _ _ _ _ _ _ _ _ _ _ _ _ _ _ _ _ _ _ _ _ _ _ _ _ _ _ _ _ _ _ _ _ _ _ _ _ _ _ _ _ _ _ _ _ _ _ _ _ _ _ _ _ _ _ _ _ _ _ _ _ _ _ _ _ _ _ _ _ _ _ _ _ _ _ _ _ _ _ _ _ _ _ _ _ _ _ _ _ _ _ _ _ _ _ _ _ _ _ _ _ _ _ _ _ _ _ _ _ _ _ _ _ _ _ _ _ _ _ _ _ _ _ _ _ _ _ _ _ _ _ _ _ _ _ _ _ _ _ _ _ _ _ _ _ _ _ _ _ _ _ _ _ _ _ _ _
set_option maxHeartbeats 4000000 in
theorem playB_walk (w0 : World) (h F : Nat) (gb db : Nat → Nat) (m : Nat) (hm : m ≤ 4398046511103) (hEnv : Env w0 h) (hvh : 1 < h) (a t c : Nat) (ha : a < 4) (ht : t < 4) (hc : c < 4) (kd ed N M : Int) (hN : I64 N) (hM : I64 M) (S : ByteArray) (hS9 : S.size ≤ 140737488351232) (b : Nat) (hb : F ≤ b) (W : World) (E : Nat → LE) (V : Nat → Value) (L : Nat → List Nat) (x : PlI w0 h F gb db m W E V L) (hBX : BX (gb a) (db a) (gb t) (db t) (gb c) (db c) kd ed N M S b W) (pf : Option Addr) (nf cf : Nat) (fl : List ByteArray) (hfr : FrI W (.slice pf nf cf) nf fl) (t0 t1 t2 t3 t9 t10 t11 t12 t13 t14 t15 t16 t17 t18 t19 t20 t21 t22 t23 t24 t25 t26 t27 t28 t29 t30 t31 t32 t33 t34 t35 t36 t37 t38 t39 t40 t41 t42 t43 t44 t45 t46 t47 t48 t49 t50 t51 t52 t53 t54 t55 t56 t57 t58 t59 t60 t61 t62 t63 t64 t65 t66 t67 t68 t69 t70 t71 t72 t73 t74 t75 t76 t77 t78 t79 t80 t81 t82 t83 t84 t85 t86 t87 t88 t89 t90 t91 t92 t93 t94 t95 t96 t97 t98 t99 t100 t101 t102 t103 t104 t105 t106 t107 t108 t109 t110 t111 t112 t113 t114 t115 t116 t117 t118 t119 t120 t121 t122 t123 t124 t125 t126 t127 t128 t129 t130 t131 t132 t133 t134 t135 t136 t137 t138 t139 t140 t141 t142 t143 t144 t145 t146 t147 t148 t149 t150 t151 t152 t153 t154 t155 t156 t157 t158 t159 t160 t161 t162 t163 t164 t165 t166 t167 t168 t169 t170 t171 t172 t173 t174 t175 t176 t177 t178 t179 t180 t181 t182 t183 t184 t185 t186 t187 t188 t189 : Value) :
    Code.wp Tryz.prog playB (bodyPost Tryz.prog Tryz.f26 fun e w' => e = .returned (.bool true) ∧ PlS w0 h F gb db (m + 1) w' ∧ KpR W w') ⟨#[t0, t1, t2, t3, .slice pf nf cf, .pointer (some ⟨b, 0, none⟩), .pointer (some ⟨b + 1, 0, none⟩), .pointer (some ⟨b + 2, 0, none⟩), .pointer (some ⟨b + 3, 0, none⟩), t9, t10, t11, t12, t13, t14, t15, t16, t17, t18, t19, t20, t21, t22, t23, t24, t25, t26, t27, t28, t29, t30, t31, t32, t33, t34, t35, t36, t37, t38, t39, t40, t41, t42, t43, t44, t45, t46, t47, t48, t49, t50, t51, t52, t53, t54, t55, t56, t57, t58, t59, t60, t61, t62, t63, t64, t65, t66, t67, t68, t69, t70, t71, t72, t73, t74, t75, t76, t77, t78, t79, t80, t81, t82, t83, t84, t85, t86, t87, t88, t89, t90, t91, t92, t93, t94, t95, t96, t97, t98, t99, t100, t101, t102, t103, t104, t105, t106, t107, t108, t109, t110, t111, t112, t113, t114, t115, t116, t117, t118, t119, t120, t121, t122, t123, t124, t125, t126, t127, t128, t129, t130, t131, t132, t133, t134, t135, t136, t137, t138, t139, t140, t141, t142, t143, t144, t145, t146, t147, t148, t149, t150, t151, t152, t153, t154, t155, t156, t157, t158, t159, t160, t161, t162, t163, t164, t165, t166, t167, t168, t169, t170, t171, t172, t173, t174, t175, t176, t177, t178, t179, t180, t181, t182, t183, t184, t185, t186, t187, t188, t189], []⟩ W := by
  conv => arg 2; whnf
  refine wp_seq_k fun K hK => ?_
  have HK := hide (fun (t0 t1 t2 t3 t9 t10 t12 t13 t14 t15 t16 t17 t18 t19 t20 t21 t22 t23 t24 t25 t26 t27 t28 t29 t30 t31 t32 t33 t34 t35 t36 t37 t38 t39 t40 t41 t42 t43 t44 t45 t46 t47 t48 t49 t50 t51 t52 t53 t54 t55 t56 t57 t58 t59 t60 t61 t62 t63 t64 t65 t66 t67 t68 t69 t70 t71 t72 t73 t74 t75 t76 t77 t78 t79 t80 t81 t82 t83 t84 t85 t86 t87 t88 t89 t90 t91 t92 t93 t94 t95 t96 t97 t98 t99 t100 t101 t102 t103 t104 t105 t106 t107 t108 t109 t110 t111 t112 t113 t114 t115 t116 t117 t118 t119 t120 t121 t122 t123 t124 t125 t126 t127 t128 t129 t130 t131 t132 t133 t134 t135 t136 t137 t138 t139 t140 t141 t142 t143 t144 t145 t146 t147 t148 t149 t150 t151 t152 t153 t154 t155 t156 t157 t158 t159 t160 t161 t162 t163 t164 t165 t166 t167 t168 t169 t170 t171 t172 t173 t174 t175 t176 t177 t178 t179 t180 t181 t182 t183 t184 t185 t186 t187 t188 t189 : Value) => hK _ _ (playC_walk w0 h F gb db m hm hEnv hvh a t c ha ht hc kd ed N M hN hM S hS9 b hb W E V L x hBX pf nf cf fl hfr t0 t1 t2 t3 t9 t10 t12 t13 t14 t15 t16 t17 t18 t19 t20 t21 t22 t23 t24 t25 t26 t27 t28 t29 t30 t31 t32 t33 t34 t35 t36 t37 t38 t39 t40 t41 t42 t43 t44 t45 t46 t47 t48 t49 t50 t51 t52 t53 t54 t55 t56 t57 t58 t59 t60 t61 t62 t63 t64 t65 t66 t67 t68 t69 t70 t71 t72 t73 t74 t75 t76 t77 t78 t79 t80 t81 t82 t83 t84 t85 t86 t87 t88 t89 t90 t91 t92 t93 t94 t95 t96 t97 t98 t99 t100 t101 t102 t103 t104 t105 t106 t107 t108 t109 t110 t111 t112 t113 t114 t115 t116 t117 t118 t119 t120 t121 t122 t123 t124 t125 t126 t127 t128 t129 t130 t131 t132 t133 t134 t135 t136 t137 t138 t139 t140 t141 t142 t143 t144 t145 t146 t147 t148 t149 t150 t151 t152 t153 t154 t155 t156 t157 t158 t159 t160 t161 t162 t163 t164 t165 t166 t167 t168 t169 t170 t171 t172 t173 t174 t175 t176 t177 t178 t179 t180 t181 t182 t183 t184 t185 t186 t187 t188 t189))
  clear hBX x hK hfr hEnv
  go_wp2
  exact unhide HK _ _ _ _ _ _ _ _ _ _ _ _ _ _ _ _ _ _ _ _ _ _ _ _ _ _ _ _ _ _ _ _ _ _ _ _ _ _ _ _ _ _ _ _ _ _ _ _ _ _ _ _ _ _ _ _ _ _ _ _ _ _ _ _ _ _ _ _ _ _ _ _ _ _ _ _ _ _ _ _ _ _ _ _ _ _ _ _ _ _ _ _ _ _ _ _ _ _ _ _ _ _ _ _ _ _ _ _ _ _ _ _ _ _ _ _ _ _ _ _ _ _ _ _ _ _ _ _ _ _ _ _ _ _ _ _ _ _ _ _ _ _ _ _ _ _ _ _ _ _ _ _ _ _ _ _ _ _ _ _ _ _ _ _ _ _ _ _ _ _ _ _ _ _ _ _ _ _ _ _ _ _ _ _
set_option maxHeartbeats 4000000 in
theorem play_any (w0 : World) (h F : Nat) (gb db : Nat → Nat) (m : Nat) (hm : m ≤ 4398046511103) (hEnv : Env w0 h) (hvh : 1 < h) (a t c : Nat) (ha : a < 4) (ht : t < 4) (hc : c < 4) (kd ed N M : Int) (hN : I64 N) (hM : I64 M) (S : ByteArray) (hS9 : S.size ≤ 140737488351232) (W : World) (E : Nat → LE) (V : Nat → Value) (L : Nat → List Nat) (x : PlI w0 h F gb db m W E V L) (pf : Option Addr) (nf cf : Nat) (fl : List ByteArray) (hfr : FrI W (.slice pf nf cf) nf fl) :
    Calls Tryz.prog 26 #[.agg #[.pointer (some ⟨gb a, 0, none⟩), .pointer (some ⟨db a, 0, none⟩)], .agg #[.int .i64 kd, .int .i64 ed, .int .i64 N, .int .i64 M, .string S], .agg #[.pointer (some ⟨gb t, 0, none⟩), .pointer (some ⟨db t, 0, none⟩)], .agg #[.pointer (some ⟨gb c, 0, none⟩), .pointer (some ⟨db c, 0, none⟩)], .slice pf nf cf] W fun ev w' => ev = .returned (.bool true) ∧ PlS w0 h F gb db (m + 1) w' ∧ KpR W w' := by
  obtain ⟨b, hb⟩ : ∃ z, W.heap.size = z := ⟨_, rfl⟩
  obtain ⟨W1, hW1⟩ : ∃ z, W.alloc (.cells #[.pointer (some ⟨gb a, 0, none⟩), .pointer (some ⟨db a, 0, none⟩)] 71) = z := ⟨_, rfl⟩
  have s1 : W1.heap.size = b + 1 := by rw [← hW1]; simp [hb]
  obtain ⟨W2, hW2⟩ : ∃ z, W1.alloc (.cells #[.int .i64 kd, .int .i64 ed, .int .i64 N, .int .i64 M, .string S] 73) = z := ⟨_, rfl⟩
  have s2 : W2.heap.size = b + 2 := by rw [← hW2]; simp [s1]
  obtain ⟨W3, hW3⟩ : ∃ z, W2.alloc (.cells #[.pointer (some ⟨gb t, 0, none⟩), .pointer (some ⟨db t, 0, none⟩)] 71) = z := ⟨_, rfl⟩
  have s3 : W3.heap.size = b + 3 := by rw [← hW3]; simp [s2]
  obtain ⟨W4, hW4⟩ : ∃ z, W3.alloc (.cells #[.pointer (some ⟨gb c, 0, none⟩), .pointer (some ⟨db c, 0, none⟩)] 71) = z := ⟨_, rfl⟩
  have hbW : Below W.heap.size W W4 := by
    rw [← hW4, ← hW3, ← hW2, ← hW1]
    exact ((((Below.refl _ _).alloc (Nat.le_refl _) _).alloc (by rw [hW1]; omega) _).alloc (by rw [hW1, hW2]; omega) _).alloc (by rw [hW1, hW2, hW3]; omega) _
  have hBX : BX (gb a) (db a) (gb t) (db t) (gb c) (db c) kd ed N M S b W4 := by
    have p1 : Blk W1 b #[.pointer (some ⟨gb a, 0, none⟩), .pointer (some ⟨db a, 0, none⟩)] 71 := by rw [← hW1, ← hb]; exact Blk.new _ _ _
    have p2 : Blk W2 (b + 1) #[.int .i64 kd, .int .i64 ed, .int .i64 N, .int .i64 M, .string S] 73 := by rw [← hW2, ← s1]; exact Blk.new _ _ _
    have p3 : Blk W3 (b + 2) #[.pointer (some ⟨gb t, 0, none⟩), .pointer (some ⟨db t, 0, none⟩)] 71 := by rw [← hW3, ← s2]; exact Blk.new _ _ _
    have p4 : Blk W4 (b + 3) #[.pointer (some ⟨gb c, 0, none⟩), .pointer (some ⟨db c, 0, none⟩)] 71 := by rw [← hW4, ← s3]; exact Blk.new _ _ _
    exact ⟨by rw [← hW4, ← hW3, ← hW2]; exact ((p1.alloc _).alloc _).alloc _, by rw [← hW4, ← hW3]; exact (p2.alloc _).alloc _, by rw [← hW4]; exact p3.alloc _, p4⟩
  have x4 := x.bel' hbW
  have hFb : F ≤ b := by rw [← hb]; exact x.sz
  have HPB := hide (fun (t0 t1 t2 t3 t9 t10 t11 t12 t13 t14 t15 t16 t17 t18 t19 t20 t21 t22 t23 t24 t25 t26 t27 t28 t29 t30 t31 t32 t33 t34 t35 t36 t37 t38 t39 t40 t41 t42 t43 t44 t45 t46 t47 t48 t49 t50 t51 t52 t53 t54 t55 t56 t57 t58 t59 t60 t61 t62 t63 t64 t65 t66 t67 t68 t69 t70 t71 t72 t73 t74 t75 t76 t77 t78 t79 t80 t81 t82 t83 t84 t85 t86 t87 t88 t89 t90 t91 t92 t93 t94 t95 t96 t97 t98 t99 t100 t101 t102 t103 t104 t105 t106 t107 t108 t109 t110 t111 t112 t113 t114 t115 t116 t117 t118 t119 t120 t121 t122 t123 t124 t125 t126 t127 t128 t129 t130 t131 t132 t133 t134 t135 t136 t137 t138 t139 t140 t141 t142 t143 t144 t145 t146 t147 t148 t149 t150 t151 t152 t153 t154 t155 t156 t157 t158 t159 t160 t161 t162 t163 t164 t165 t166 t167 t168 t169 t170 t171 t172 t173 t174 t175 t176 t177 t178 t179 t180 t181 t182 t183 t184 t185 t186 t187 t188 t189 : Value) => wp_mono (playB_walk w0 h F gb db m hm hEnv hvh a t c ha ht hc kd ed N M hN hM S hS9 b hFb W4 E V L x4 hBX pf nf cf fl (hfr.kp (KpR.below hbW)) t0 t1 t2 t3 t9 t10 t11 t12 t13 t14 t15 t16 t17 t18 t19 t20 t21 t22 t23 t24 t25 t26 t27 t28 t29 t30 t31 t32 t33 t34 t35 t36 t37 t38 t39 t40 t41 t42 t43 t44 t45 t46 t47 t48 t49 t50 t51 t52 t53 t54 t55 t56 t57 t58 t59 t60 t61 t62 t63 t64 t65 t66 t67 t68 t69 t70 t71 t72 t73 t74 t75 t76 t77 t78 t79 t80 t81 t82 t83 t84 t85 t86 t87 t88 t89 t90 t91 t92 t93 t94 t95 t96 t97 t98 t99 t100 t101 t102 t103 t104 t105 t106 t107 t108 t109 t110 t111 t112 t113 t114 t115 t116 t117 t118 t119 t120 t121 t122 t123 t124 t125 t126 t127 t128 t129 t130 t131 t132 t133 t134 t135 t136 t137 t138 t139 t140 t141 t142 t143 t144 t145 t146 t147 t148 t149 t150 t151 t152 t153 t154 t155 t156 t157 t158 t159 t160 t161 t162 t163 t164 t165 t166 t167 t168 t169 t170 t171 t172 t173 t174 t175 t176 t177 t178 t179 t180 t181 t182 t183 t184 t185 t186 t187 t188 t189) (bodyPost_m (R' := fun ev w' => ev = .returned (.bool true) ∧ PlS w0 h F gb db (m + 1) w' ∧ KpR W w') (fun _ _ q => ⟨q.1, q.2.1, (KpR.below hbW).trans q.2.2⟩)))
  clear x4 hBX hbW x hfr hEnv hFb
  go_enter Tryz.func26, Tryz.ntmps26
  conv => arg 2; whnf
  refine wp_seq_k fun K hK => ?_
  have HK := hide (fun (t0 t1 t2 t3 t9 t10 t11 t12 t13 t14 t15 t16 t17 t18 t19 t20 t21 t22 t23 t24 t25 t26 t27 t28 t29 t30 t31 t32 t33 t34 t35 t36 t37 t38 t39 t40 t41 t42 t43 t44 t45 t46 t47 t48 t49 t50 t51 t52 t53 t54 t55 t56 t57 t58 t59 t60 t61 t62 t63 t64 t65 t66 t67 t68 t69 t70 t71 t72 t73 t74 t75 t76 t77 t78 t79 t80 t81 t82 t83 t84 t85 t86 t87 t88 t89 t90 t91 t92 t93 t94 t95 t96 t97 t98 t99 t100 t101 t102 t103 t104 t105 t106 t107 t108 t109 t110 t111 t112 t113 t114 t115 t116 t117 t118 t119 t120 t121 t122 t123 t124 t125 t126 t127 t128 t129 t130 t131 t132 t133 t134 t135 t136 t137 t138 t139 t140 t141 t142 t143 t144 t145 t146 t147 t148 t149 t150 t151 t152 t153 t154 t155 t156 t157 t158 t159 t160 t161 t162 t163 t164 t165 t166 t167 t168 t169 t170 t171 t172 t173 t174 t175 t176 t177 t178 t179 t180 t181 t182 t183 t184 t185 t186 t187 t188 t189 : Value) => hK _ _ (unhide HPB t0 t1 t2 t3 t9 t10 t11 t12 t13 t14 t15 t16 t17 t18 t19 t20 t21 t22 t23 t24 t25 t26 t27 t28 t29 t30 t31 t32 t33 t34 t35 t36 t37 t38 t39 t40 t41 t42 t43 t44 t45 t46 t47 t48 t49 t50 t51 t52 t53 t54 t55 t56 t57 t58 t59 t60 t61 t62 t63 t64 t65 t66 t67 t68 t69 t70 t71 t72 t73 t74 t75 t76 t77 t78 t79 t80 t81 t82 t83 t84 t85 t86 t87 t88 t89 t90 t91 t92 t93 t94 t95 t96 t97 t98 t99 t100 t101 t102 t103 t104 t105 t106 t107 t108 t109 t110 t111 t112 t113 t114 t115 t116 t117 t118 t119 t120 t121 t122 t123 t124 t125 t126 t127 t128 t129 t130 t131 t132 t133 t134 t135 t136 t137 t138 t139 t140 t141 t142 t143 t144 t145 t146 t147 t148 t149 t150 t151 t152 t153 t154 t155 t156 t157 t158 t159 t160 t161 t162 t163 t164 t165 t166 t167 t168 t169 t170 t171 t172 t173 t174 t175 t176 t177 t178 t179 t180 t181 t182 t183 t184 t185 t186 t187 t188 t189))
  clear hK HPB
  go_wp2
  exact unhide HK _ _ _ _ _ _ _ _ _ _ _ _ _ _ _ _ _ _ _ _ _ _ _ _ _ _ _ _ _ _ _ _ _ _ _ _ _ _ _ _ _ _ _ _ _ _ _ _ _ _ _ _ _ _ _ _ _ _ _ _ _ _ _ _ _ _ _ _ _ _ _ _ _ _ _ _ _ _ _ _ _ _ _ _ _ _ _ _ _ _ _ _ _ _ _ _ _ _ _ _ _ _ _ _ _ _ _ _ _ _ _ _ _ _ _ _ _ _ _ _ _ _ _ _ _ _ _ _ _ _ _ _ _ _ _ _ _ _ _ _ _ _ _ _ _ _ _ _ _ _ _ _ _ _ _ _ _ _ _ _ _ _ _ _ _ _ _ _ _ _ _ _ _ _ _ _ _ _ _ _ _ _ _ _ _
end Go.Proofs.YtifjmldmilmfjaaGreatDoor

namespace Go.Proofs.YtifjmldmilmfjaaGreatDoor
open Go.RowKit
set_option maxRecDepth 100000
/-- a text, cut or filled up -/
def szL (s : ByteArray) (n : Nat) : List Int := (nums s).take n ++ List.replicate (n - min s.size n) 0
def szB (s : ByteArray) (n : Nat) : ByteArray := strOfNums (szL s n)
theorem szL_len (s : ByteArray) (n : Nat) : (szL s n).length = n := by
  rw [szL, List.length_append, List.length_take, nums_len, List.length_replicate]
  omega
theorem szB_size (s : ByteArray) (n : Nat) : (szB s n).size = n := by rw [szB, strOfNums_size, szL_len]
set_option maxHeartbeats 1000000 in
theorem sized_any (s : ByteArray) (n : Nat) (hn : n ≤ 100) (w : World) : Calls Tryz.prog 24 #[.string s, .int .i64 (n : Int)] w fun e w' => e = .returned (.string (szB s n)) ∧ Below w.heap.size w w' := by
  have hmk := run_make_u8 n n (by omega) (by omega) w
  obtain ⟨m, hm⟩ : ∃ m, min s.size n = m := ⟨_, rfl⟩
  have ha := arr_new w .u8 (List.replicate n 0) 5 _ rfl
  obtain ⟨W1, hW1⟩ : ∃ z, w.alloc (.cells ((List.replicate n (0 : Int)).map (Value.int .u8)).toArray 5) = z := ⟨_, rfl⟩
  rw [hW1] at hmk ha
  have hb1 : Below w.heap.size w W1 := by rw [← hW1]; exact (Below.refl _ _).alloc (Nat.le_refl _) _
  have HT := hide (show W1.there w.heap.size 0 m from fun j hj => ha.there j (by rw [List.length_replicate]; omega))
  have HF := hide (show ∀ W2, W2 = W1.setCells w.heap.size 0 (((nums s).take m).map (Value.int .u8)) → Arr W2 w.heap.size 0 .u8 (szL s n) ∧ Below w.heap.size w W2 from fun W2 h => by
    subst h
    have hk : ((nums s).take m).length = m := by rw [List.length_take, nums_len]; omega
    have h1 := ha.mid 0 ((nums s).take m) (by rw [hk, List.length_replicate]; omega)
    have e : (List.replicate n (0 : Int)).take 0 ++ (nums s).take m ++ (List.replicate n (0 : Int)).drop (0 + ((nums s).take m).length) = szL s n := by
      rw [hk, List.take_zero, List.nil_append, Nat.zero_add, List.drop_replicate, szL, hm]
      congr 1
      by_cases q : s.size ≤ n
      · rw [List.take_of_length_le (by rw [nums_len]; omega), List.take_of_length_le (by rw [nums_len]; omega)]
      · rw [show m = n by omega]
    rw [e] at h1
    exact ⟨by simpa using h1, below_setCells (Nat.le_refl _) _ _ hb1⟩)
  have HC := hide (fun (y : World) (hA : Arr y w.heap.size 0 .u8 (szL s n)) => run_convert_bytes_arg (P := Tryz.prog) y 86 5 Tryz.underlying86 Tryz.underlying5 w.heap.size 0 n n (szL s n) (szL_len s n) (fun i hi => hA.get i (by rw [szL_len]; exact hi)) 9 Tryz.underlying9)
  rw [show strOfNums (szL s n) = szB s n from rfl] at HC
  clear ha hb1 hW1
  go_enter Tryz.func24, Tryz.ntmps24
  go_wp2_with (refine wpList_copy_str rfl (.tmp 8) (.tmp 9) rfl w.heap.size 0 n n s rfl rfl m hm.symm (unhide HT) ?_; intro W2 hW2; have HW2 := hide hW2; clear hW2)
  obtain ⟨a2, b2⟩ := unhide HF W2 (unhide HW2)
  have hcv := unhide HC W2 a2
  have HB2 := hide b2
  clear a2 b2 HW2 HF HT HC hmk
  go_wp2
  simp only [hcv, Result.andThen]
  go_wp2
  go_ret
  exact ⟨rfl, unhide HB2⟩
/-- the ends, one after another: pairs in a row -/
def prV (gb db : Nat → Nat) (n : Nat) : List Value := (List.range n).flatMap fun a => [.pointer (some ⟨gb a, 0, none⟩), .pointer (some ⟨db a, 0, none⟩)]
theorem prV_succ (gb db : Nat → Nat) (n : Nat) : prV gb db (n + 1) = prV gb db n ++ [.pointer (some ⟨gb n, 0, none⟩), .pointer (some ⟨db n, 0, none⟩)] := by
  unfold prV
  rw [List.range_succ (n := n), List.flatMap_append]
  rfl
theorem prV_up' (gb db : Nat → Nat) (n g d : Nat) : ∀ m, m ≤ n → prV (upT gb n g) (upT db n d) m = prV gb db m
  | 0, _ => rfl
  | m + 1, hm => by
    rw [prV_succ, prV_succ, prV_up' gb db n g d m (by omega), upT_ne _ _ _ _ (by omega), upT_ne _ _ _ _ (by omega)]
theorem prV_up (gb db : Nat → Nat) (n g d : Nat) : prV (upT gb n g) (upT db n d) n = prV gb db n := prV_up' gb db n g d n (Nat.le_refl _)
structure MkP (w0 : World) (h B i : Nat) (W : World) (gb db : Nat → Nat) (E : Nat → LE) (vE : Value) : Prop where
  bel : Below h w0 W
  en : ∀ a, a < i → EndM W (gb a) (E a)
  dn : ∀ a, a < i → DEnd W (db a) (E a) (.slice none 0 0)
  z : ∀ a, a < i → ∃ k n, E a = le0 k (a % 2) n
  lo : ∀ a, a < i → B ≤ gb a ∧ gb a < db a
  inc : ∀ a c, a < c → c < i → db a < gb c
  er : W.ownsRow B 71 2 vE i (prV gb db i)
  sz : B ≤ W.heap.size
  hB : h ≤ B
theorem MkP.bel' {w0 : World} {h B i : Nat} {W W' : World} {gb db : Nat → Nat} {E : Nat → LE} {vE : Value} (x : MkP w0 h B i W gb db E vE) (hb : Below W.heap.size W W') : MkP w0 h B i W' gb db E vE :=
  have hz := x.sz
  have hB := x.hB
  have hs := hb.size
  ⟨x.bel.trans (hb.mono (by omega)), fun a ha => (x.en a ha).below hb (x.en a ha).lt, fun a ha => (x.dn a ha).below hb (x.dn a ha).lt, x.z, x.lo, x.inc, own_bel x.er hb, by omega, hB⟩
/-- one more pair -/
theorem MkP.next {w0 : World} {h B i : Nat} {W W1 W2 W3 x5 : World} {gb db : Nat → Nat} {E : Nat → LE} {vE : Value} (x : MkP w0 h B i W gb db E vE) (g d : Nat) (k n : ByteArray) (h1 : EndM W1 g (le0 k (i % 2) n)) (hg : W.heap.size ≤ g) (hb1 : Below W.heap.size W W1) (hb2 : Below W1.heap.size W1 W2) (h3 : DEnd W3 d (le0 k (i % 2) n) (.slice none 0 0)) (hd : W2.heap.size ≤ d) (hb3 : Below W2.heap.size W2 W3) {g5 c5 : Nat}
    (ho : x5.ownsRow B 71 2 (.slice (some ⟨g5, 0, none⟩) (i + 1) c5) (i + 1) (prV gb db i ++ [.pointer (some ⟨g, 0, none⟩), .pointer (some ⟨d, 0, none⟩)])) (hgr : (W3.alloc (.cells #[.pointer (some ⟨g, 0, none⟩), .pointer (some ⟨d, 0, none⟩)] 71)).grownBy x5 vE.ownBlock) :
    MkP w0 h B (i + 1) x5 (upT gb i g) (upT db i d) (upT E i (le0 k (i % 2) n)) (.slice (some ⟨g5, 0, none⟩) (i + 1) c5) := by
  have hz := x.sz
  have s1 := hb1.size
  have s2 := hb2.size
  have s3 := hb3.size
  have b13 : Below W1.heap.size W1 W3 := hb2.trans (hb3.mono s2)
  have b03 : Below W.heap.size W W3 := hb1.trans (b13.mono s1)
  have x3 := x.bel' b03
  have hO : Only (fun q => vE.ownBlock = some q) W3 x5 := ((Only.refl _ W3).alloc _).grown hgr (fun _ _ e => e)
  have e1 : EndM W3 g (le0 k (i % 2) n) := h1.below b13 h1.lt
  have nE : ∀ {b : Nat} {cur : Array Value} {T : TypeId}, Blk W3 b cur T → T ≠ 71 → ¬ vE.ownBlock = some b := fun hb ht => hb.not_row ht x3.er
  have hs5 := hO.size
  refine ⟨x3.bel.trans (hO.below (by have := x3.sz; have := x.hB; omega) (fun q hq e => by have := (x3.er.lt q e).1; have := x.hB; omega)), fun a ha => ?_, fun a ha => ?_, fun a ha => ?_, fun a ha => ?_, fun a c hac hc => ?_, ?_, by have := x3.sz; omega, x.hB⟩
  · by_cases q : a = i
    · subst q; rw [upT_self, upT_self]
      exact e1.only hO (nE e1.1 (by decide))
    · rw [upT_ne _ _ _ _ q, upT_ne _ _ _ _ q]
      exact (x3.en a (by omega)).only hO (nE (x3.en a (by omega)).1 (by decide))
  · by_cases q : a = i
    · subst q; rw [upT_self, upT_self]
      exact h3.only hO (nE h3.1 (by decide))
    · rw [upT_ne _ _ _ _ q, upT_ne _ _ _ _ q]
      exact (x3.dn a (by omega)).only hO (nE (x3.dn a (by omega)).1 (by decide))
  · by_cases q : a = i
    · subst q; rw [upT_self]; exact ⟨k, n, rfl⟩
    · rw [upT_ne _ _ _ _ q]; exact x.z a (by omega)
  · by_cases q : a = i
    · subst q; rw [upT_self, upT_self]
      have := h1.lt
      exact ⟨by omega, by omega⟩
    · rw [upT_ne _ _ _ _ q, upT_ne _ _ _ _ q]; exact x.lo a (by omega)
  · rw [upT_ne _ _ _ a (by omega)]
    by_cases q : c = i
    · subst q; rw [upT_self]
      have := (x.dn a hac).lt
      omega
    · rw [upT_ne _ _ _ _ q]; exact x.inc a c hac (by omega)
  · rw [prV_succ, prV_up, upT_self, upT_self]
    exact ho
/-- four pairs: play may begin -/
theorem MkP.start {w0 : World} {h B : Nat} {W : World} {gb db : Nat → Nat} {E : Nat → LE} {vE : Value} (x : MkP w0 h B 4 W gb db E vE) : PlI w0 h W.heap.size gb db 0 W E (fun _ => .slice none 0 0) (fun _ => []) := by
  have hz := x.sz
  have hB := x.hB
  have hd : ∀ a c, a < c → c < 4 → gb a < db a ∧ db a < gb c ∧ gb c < db c := fun a c h1 h2 => ⟨(x.lo a (by omega)).2, x.inc a c h1 h2, (x.lo c h2).2⟩
  refine ⟨x.bel, x.en, x.dn, fun a ha => ⟨World.ownsRow_nil _ _ _ _, ?_, ?_, fun n hn => by simp at hn⟩, fun a b _ _ _ q hq => by simp [Value.ownBlock] at hq, fun a b ha hb hab => ?_, fun a b ha hb hab => ?_, fun a b ha hb => ?_, fun a ha => ?_, Nat.le_refl _, fun a ha => ?_, fun a ha => Nat.le_refl _, by omega⟩
  · obtain ⟨k, n, e⟩ := x.z a ha
    rw [e, show (fun n : Nat => decide (n ∈ ([] : List Nat))) = fun _ => false from by funext n; simp]
    exact Win.zero
  · obtain ⟨k, n, e⟩ := x.z a ha
    rw [e]; rfl
  · rcases Nat.lt_or_ge a b with r | r
    · have := hd a b r hb; omega
    · have := hd b a (by omega) ha; omega
  · rcases Nat.lt_or_ge a b with r | r
    · have := hd a b r hb; omega
    · have := hd b a (by omega) ha; omega
  · rcases Nat.lt_trichotomy a b with r | r | r
    · have := hd a b r hb; omega
    · subst r; have := (x.lo a ha).2; omega
    · have := hd b a r ha; omega
  · have h1 := x.lo a ha
    have h2 := (x.en a ha).lt
    have h3 := (x.dn a ha).lt
    omega
  · obtain ⟨k, n, e⟩ := x.z a ha
    rw [e]; exact Nat.zero_le _
/-- a row that is neither a number's nor an end's grows -/
theorem PlI.app {w0 : World} {h F : Nat} {gb db : Nat → Nat} {m : Nat} {W x5 : World} {E : Nat → LE} {V : Nat → Value} {L : Nat → List Nat} (x : PlI w0 h F gb db m W E V L) {v : Value} {n : Nat} {xs : List Value} (hr : W.ownsRow F 9 1 v n xs) (hO : Only (fun q => v.ownBlock = some q) W x5) : PlI w0 h F gb db m x5 E V L := by
  have hz := x.sz
  have hf := x.hf
  have hs := hO.size
  have nE : ∀ {b : Nat} {cur : Array Value} {T : TypeId}, Blk W b cur T → T ≠ 9 → ¬ v.ownBlock = some b := fun hb ht => hb.not_row ht hr
  exact ⟨x.bel.trans (hO.below (by omega) (fun q hq e => by have := (hr.lt q e).1; omega)), fun a ha => (x.en a ha).only hO (nE (x.en a ha).1 (by decide)), fun a ha => (x.dn a ha).only hO (nE (x.dn a ha).1 (by decide)), fun a ha => ⟨owns_only (x.tk a ha).o hO (fun q hq e => oTyp hr (x.tk a ha).o (by decide) q e hq), (x.tk a ha).win, (x.tk a ha).q, (x.tk a ha).lt⟩, x.dis, x.ng, x.nd, x.ngd, x.lo, by omega, x.os, x.ql, hf⟩
end Go.Proofs.YtifjmldmilmfjaaGreatDoor
