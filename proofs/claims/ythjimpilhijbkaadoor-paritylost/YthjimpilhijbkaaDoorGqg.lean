import Derived.Test.YthjimpilhijbkaaDoorGqf
namespace Go.Proofs.YthjimpilhijbkaaDoor
open Go.RowKit
set_option maxRecDepth 100000
noncomputable def loF : Code := dropSeq 29 ((Tryd.f3.body).getD .skip)
set_option maxHeartbeats 8000000 in
theorem loF_walk (s : ByteArray) (n m N : Nat) (hN : N = n + m) (W w2 wr : World) (gt ct : Nat) (LL : List ByteArray) (hI : LoI s n m N w2 gt ct LL wr) (hct : N ≤ ct) (hT : (thr LL N).length < n) (hW : Below W.heap.size W w2) (t0 t1 t2 t3 t4 t5 t6 t7 t8 t9 t10 t11 t12 t13 t14 t15 t18 t19 t20 t22 t23 t24 t25 t26 t27 t28 t29 t30 t31 t32 t33 t34 t35 t36 t37 t38 t39 t40 t41 t42 t43 t44 t45 t46 t47 t48 t49 t50 t51 t52 t53 t54 t55 t56 t57 t58 t59 t60 t61 t62 t63 t64 t65 t66 t67 t68 t69 t70 t71 t72 t73 t74 t75 t76 t77 t78 t79 t80 t81 t82 t83 t84 t85 t86 t87 t88 t89 t90 t91 t92 t93 t94 t95 t96 t97 t98 t99 t100 t101 t102 t103 t104 t105 t106 t107 t108 t109 t110 t111 t112 t113 t114 t115 t116 t117 t118 t119 t120 t121 t122 t123 t124 t125 t126 t127 t128 t129 t130 t131 t132 t133 t134 t135 t136 t137 t138 t139 t140 t141 t142 t143 t144 t145 t146 t147 t148 t149 t150 t151 t152 t153 t154 t155 t156 t157 t158 t159 t160 t161 t162 t163 t164 t165 t166 t167 t168 t169 t170 t171 t172 t173 t174 t175 t176 t177 t178 t179 t180 t181 t182 t183 t184 t185 t186 t187 t188 t189 t190 t191 t192 t193 t194 t195 t196 t197 t198 t199 t200 t201 t202 t203 t204 t205 t206 t207 t208 t209 t210 t211 t212 t213 t214 t215 t216 t217 t218 t219 t220 t221 t222 t223 t224 t225 t226 t227 t228 t229 t230 t231 t232 t233 t234 t235 t236 t237 t238 t239 t240 t241 t242 t243 t244 t245 t246 t247 t248 t249 t250 t251 t252 t253 t254 t255 t256 t257 t258 t259 t260 t261 t262 t263 t264 t265 t266 t267 t268 t269 t270 t271 t272 t273 t274 t275 t276 t277 t278 t279 t280 t281 t282 t283 t284 : Value) : Code.wp Tryd.prog loF (bodyPost Tryd.prog Tryd.f3 (fun e w' => e = .returned (.bool true) ∧ Below W.heap.size W w')) ⟨#[t0, t1, t2, t3, t4, t5, t6, t7, t8, t9, t10, t11, t12, t13, t14, t15, .int .i64 (n : Int), .int .i64 (m : Int), t18, t19, t20, .slice (some ⟨gt, 0, none⟩) N ct, t22, t23, t24, t25, t26, t27, t28, t29, t30, t31, t32, t33, t34, t35, t36, t37, t38, t39, t40, t41, t42, t43, t44, t45, t46, t47, t48, t49, t50, t51, t52, t53, t54, t55, t56, t57, t58, t59, t60, t61, t62, t63, t64, t65, t66, t67, t68, t69, t70, t71, t72, t73, t74, t75, t76, t77, t78, t79, t80, t81, t82, t83, t84, t85, t86, t87, t88, t89, t90, t91, t92, t93, t94, t95, t96, t97, t98, t99, t100, t101, t102, t103, t104, t105, t106, t107, t108, t109, t110, t111, t112, t113, t114, t115, t116, t117, t118, t119, t120, t121, t122, t123, t124, t125, t126, t127, t128, t129, t130, t131, t132, t133, t134, t135, t136, t137, t138, t139, t140, t141, t142, t143, t144, t145, t146, t147, t148, t149, t150, t151, t152, t153, t154, t155, t156, t157, t158, t159, t160, t161, t162, t163, t164, t165, t166, t167, t168, t169, t170, t171, t172, t173, t174, t175, t176, t177, t178, t179, t180, t181, t182, t183, t184, t185, t186, t187, t188, t189, t190, t191, t192, t193, t194, t195, t196, t197, t198, t199, t200, t201, t202, t203, t204, t205, t206, t207, t208, t209, t210, t211, t212, t213, t214, t215, t216, t217, t218, t219, t220, t221, t222, t223, t224, t225, t226, t227, t228, t229, t230, t231, t232, t233, t234, t235, t236, t237, t238, t239, t240, t241, t242, t243, t244, t245, t246, t247, t248, t249, t250, t251, t252, t253, t254, t255, t256, t257, t258, t259, t260, t261, t262, t263, t264, t265, t266, t267, t268, t269, t270, t271, t272, t273, t274, t275, t276, t277, t278, t279, t280, t281, t282, t283, t284], []⟩ wr := by
  have hP := hI.part
  have hG : GTx wr wr.heap.size (some ⟨gt, 0, none⟩) LL := own_gtx (by rw [hP.len, hN]) hI.own
  have hWr : Below W.heap.size W wr := hW.trans (hI.bel.mono hW.size)
  have hWs := hWr.size
  rw [hN] at hT hct
  have HJ := hide (join_part hP wr _ _ ct hG (Nat.le_refl _) hct)
  have HR := hide (fun (w4 : World) (h : Below wr.heap.size wr w4) => reb_part hP w4 _ _ ct (hG.below h) h.size)
  have HWr := hide (fun (w4 : World) (h : Below wr.heap.size wr w4) => wrong_part hP w4 _ _ ct (hG.below h) h.size)
  rw [← hN] at HJ HR HWr hT
  have HW := hide hWr
  have HT := hide hT
  clear hP hG hWr hI hT hN hW hct
  conv => arg 2; whnf
  go_wp2_with fail
  refine (unhide HJ).mono ?_
  rintro e w4 ⟨hb4, h4, _⟩
  obtain rfl := h4 (unhide HT)
  have H4 := hide hb4
  have hs4 := hb4.size
  clear hb4 h4
  go_wp2_with fail
  refine (unhide HR _ (unhide H4)).mono ?_
  rintro e w5 ⟨hb5, h5, _⟩
  obtain rfl := h5 (unhide HT)
  have H5 := hide ((unhide H4).trans (hb5.mono hs4))
  have hs5 := (unhide H5).size
  clear hb5 h5
  go_wp2_with fail
  refine (unhide HWr _ (unhide H5)).mono ?_
  rintro e w6 ⟨hb6, h6, _⟩
  obtain rfl := h6 (unhide HT)
  have H6 := hide ((unhide H5).trans (hb6.mono hs5))
  clear hb6 h6
  have HF := hide (show Below W.heap.size W w6 from (unhide HW).trans ((unhide H6).mono hWs))
  go_wp2
  go_ret
  exact ⟨rfl, unhide HF⟩
end Go.Proofs.YthjimpilhijbkaaDoor
