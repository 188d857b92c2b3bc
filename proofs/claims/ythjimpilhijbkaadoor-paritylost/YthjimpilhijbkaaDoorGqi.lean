import Derived.Test.YthjimpilhijbkaaDoorGqh
namespace Go.Proofs.YthjimpilhijbkaaDoor
open Go.RowKit
set_option maxRecDepth 100000
set_option maxHeartbeats 32000000 in
theorem lost18 (s : ByteArray) (n0 m0 x0 y0 z0 : Int) (p : Option Addr) (c : Nat) (ls : List Int) (hn0 : I64 n0) (hm0 : I64 m0) (hx0 : I64 x0) (hy0 : I64 y0) (hz0 : I64 z0) (W : World) (hL : GLs W W.heap.size p ls) (hLb : ∀ z ∈ ls, I64 z) (hLl : ls.length ≤ 9223372036854775807) (hs : s.size ≤ 9223372036854775807) : Calls Tryd.prog 3 #[.string s, .int .i64 n0, .int .i64 m0, .slice p ls.length c, .int .i64 x0, .int .i64 y0, .int .i64 z0] W fun e w' => e = .returned (.bool true) ∧ Below W.heap.size W w' := by
  have HK := hide (known18 W)
  have HP1 := hide (fun W => pick18_c n0 16 (by decide) hn0 16 rfl W)
  have HP2 := hide (fun W => pick18_c m0 9 (by decide) hm0 9 rfl W)
  have l1 := pickP_lt n0 16 (by decide)
  have l2 := pickP_lt m0 9 (by decide)
  obtain ⟨dn, hdn⟩ : ∃ q, pickP n0 16 = q := ⟨_, rfl⟩
  obtain ⟨m, hm⟩ : ∃ q, pickP m0 9 = q := ⟨_, rfl⟩
  rw [hdn] at HP1 l1
  rw [hm] at HP2 l2
  obtain ⟨n, hn⟩ : ∃ n, n = 1 + dn := ⟨_, rfl⟩
  obtain ⟨lN, hlN⟩ : ∃ q, ls.length = q := ⟨_, rfl⟩
  rw [hlN] at hLl ⊢
  have HL := hide (And.intro hlN (And.intro hL hLb))
  have HX := hide (And.intro hx0 (And.intro hy0 hz0))
  clear hdn hm hn0 hm0 hx0 hy0 hz0 hlN hL hLb
  by_cases hs6 : s.size ≤ 60000
  case neg =>
    have hs7 : (60000 : Int) < (s.size : Int) := by omega
    clear hn
    go_enter Tryd.func3, Tryd.ntmps3
    go_wp2_with fail
    refine (unhide HK).mono ?_
    rintro e w1 ⟨rfl, hb1⟩
    have HB := hide hb1
    clear hb1
    go_wp2_with fail
    refine (unhide HP1 _).mono ?_
    rintro e wx ⟨rfl, rfl⟩
    go_wp2_with fail
    refine (unhide HP2 _).mono ?_
    rintro e wx ⟨rfl, rfl⟩
    go_wp2
    go_ret
    exact ⟨rfl, unhide HB⟩
  have hs7 : ¬ (60000 : Int) < (s.size : Int) := by omega
  have hn1 : 1 ≤ n := by omega
  have hn2 : n ≤ 16 := by omega
  obtain ⟨N, hN⟩ : ∃ N, N = n + m := ⟨_, rfl⟩
  have hnI : 1 + (dn : Int) = (n : Int) := by omega
  have HSP := hide (fun W => split_ok s n m N hN hn1 hn2 (by omega) hs6 W)
  have HA := hide (And.intro (Part.all (s := s) hn1 hn2 (show m ≤ 8 by omega) hs6) (Part.all_thr s n m hn1))
  have HN := hide hN
  have hN1 : 1 ≤ N := by omega
  have hN2 : N ≤ 24 := by omega
  have hnN : n ≤ N := by omega
  have hNI : (n : Int) + (m : Int) = (N : Int) := by omega
  have hne : ((N : Int) != (N : Int)) = false := by simp
  clear hn hN
  go_enter Tryd.func3, Tryd.ntmps3
  go_wp2_with fail
  refine (unhide HK).mono ?_
  rintro e w1 ⟨rfl, hb1⟩
  have HB := hide hb1
  have hs1 := hb1.size
  clear hb1 HK
  go_wp2_with fail
  refine (unhide HP1 _).mono ?_
  rintro e wx ⟨rfl, rfl⟩
  go_wp2_with fail
  refine (unhide HP2 _).mono ?_
  rintro e wx ⟨rfl, rfl⟩
  clear HP1 HP2
  go_wp2_with fail
  refine (unhide HSP _).mono ?_
  rintro e w2 ⟨gl, cl, rfl, ho2, hb2⟩
  have H2 := hide (And.intro ho2 hb2)
  have hs2 := hb2.size
  clear ho2 hb2 HSP hnI l1
  have HC2 := hide (fun (k : Nat) (hk : k < N) => show w2.cell? ⟨gl, k, none⟩ = some (.string ((spL s n m).getD k ByteArray.empty)) ∧ ((spL s n m).getD k ByteArray.empty).size ≠ 0 from by
    have hl : (spL s n m).length = N := by rw [(unhide HA).1.len, unhide HN]
    refine ⟨(own_str hl (unhide H2).1 k hk).1, ?_⟩
    rw [spL_size s n m k hn1 (by rw [← unhide HN]; exact hk)]
    have := stN_pos s.size n hn1
    omega)
  go_wp2
  go_loopw [20] (fun i wr => ∃ k : Nat, k ≤ N ∧ i = .int .i64 (k : Int) ∧ wr = w2) (fun i _ => N - (intOf i).toNat)
  case atStart => exact ⟨0, by omega, rfl, rfl⟩
  case round =>
  obtain ⟨k, hk, rfl, rfl⟩ := hrel
  by_cases hkN : k < N
  case pos =>
    have hkN' : (k : Int) < (N : Int) := by omega
    obtain ⟨hck, hz⟩ := unhide HC2 k hkN
    obtain ⟨S, hS⟩ : ∃ q, (spL s n m).getD k ByteArray.empty = q := ⟨_, rfl⟩
    rw [hS] at hck hz
    obtain ⟨hem, hem2⟩ := emp_no hz
    clear hS hz
    go_wp2
    go_roundw
    case rel => exact ⟨k + 1, by omega, by go_num, trivial⟩
    case measure => simp [intOf] <;> omega
  have hkN' : ¬ (k : Int) < (N : Int) := by omega
  clear HC2 hkN hk hne
  obtain ⟨LA, hLA⟩ : ∃ q, spL s n m = q := ⟨_, rfl⟩
  have HLA := hide hLA
  rw [hLA] at H2
  have hlA : LA.length = N := by rw [← hLA, (unhide HA).1.len, unhide HN]
  clear hLA
  go_wp2_with (refine wpList_app_txt _ rfl (.tmp 85) (.tmp 86) rfl wr.heap.size (.slice none 0 0) 0 [] rfl (World.ownsRow_nil _ _ _ _) wr.heap.size ⟨gl, 0, none⟩ N cl LA rfl hlA (own_gtx hlA (unhide H2).1) (by omega) (Nat.le_refl _) ?_)
  intro v3 w3 ho3 hg3
  obtain ⟨pt, ct, rfl, hct⟩ := gr_form ho3
  obtain ⟨gt, rfl, _⟩ := gr_cell ho3 0 (by omega)
  have H3 := hide (show LoI s n m N wr gt ct LA w3 from ⟨by have := (unhide HA).1; rw [unhide HLA] at this; exact this, ho3, (Below.refl _ _).grown hg3 (Nat.le_refl _) (fun q hq => by cases hq)⟩)
  have HT3 := hide (show (thr LA N).length = N from by have := (unhide HA).2; rw [unhide HLA, ← unhide HN] at this; exact this)
  clear ho3 hg3 HA
  have hs3 := (unhide H3).bel.size
  obtain ⟨w2, rfl⟩ : ∃ q, q = wr := ⟨_, rfl⟩
  have hAA : GTx w2 w2.heap.size (some ⟨gl, 0, none⟩) (spL s n m) := by rw [unhide HLA]; exact own_gtx hlA (unhide H2).1
  have hWW : Below W.heap.size W w2 := (unhide HB).trans ((unhide H2).2.mono hs1)
  have HAA := hide (And.intro hAA hWW)
  clear hAA hWW
  go_wp2_with fail
  rename_i K9 aK9
  have hK9 : ∀ (wx : World) (T : Nat) (LX : List ByteArray) (_ : LoI s n m N w2 gt ct LX wx) (_ : (thr LX N).length = T) (_ : n ≤ T) {t1 t2 t3 t7 t8 t9 t10 t11 t12 t13 t14 t15 t19 t20 t23 t24 t25 t26 t27 t28 t29 t30 t31 t32 t33 t34 t35 t36 t37 t38 t39 t40 t41 t42 t43 t44 t45 t46 t47 t48 t49 t50 t51 t52 t53 t54 t55 t56 t57 t58 t59 t60 t61 t62 t63 t64 t65 t66 t67 t68 t69 t70 t71 t72 t73 t74 t75 t76 t77 t78 t79 t80 t81 t82 t83 t84 t85 t86 t87 t88 t89 t90 t91 t92 t93 t94 t95 t96 t97 t98 t99 t100 t101 t102 t103 t104 t105 t106 t107 t108 t109 t110 t111 t112 t113 t114 t115 t116 t117 t118 t119 t120 t121 t122 t123 t124 t125 t126 t127 t128 t129 t130 t131 t132 t133 t134 t135 t136 t137 t138 t139 t140 t141 t142 t143 t144 t145 t146 t147 t148 t149 t150 t151 t152 t153 t154 t155 t156 t157 t158 t159 t160 t161 t162 t163 t164 t165 t166 t167 t168 t169 t170 t171 t172 t173 t174 t175 t176 t177 t178 t179 t180 t181 t182 t183 t184 t185 t186 t187 t188 t189 t190 t191 t192 t193 t194 t195 t196 t197 t198 t199 t200 t201 t202 t203 t204 t205 t206 t207 t208 t209 t210 t211 t212 t213 t214 t215 t216 t217 t218 t219 t220 t221 t222 t223 t224 t225 t226 t227 t228 t229 t230 t231 t232 t233 t234 t235 t236 t237 t238 t239 t240 t241 t242 t243 t244 t245 t246 t247 t248 t249 t250 t251 t252 t253 t254 t255 t256 t257 t258 t259 t260 t261 t262 t263 t264 t265 t266 t267 t268 t269 t270 t271 t272 t273 t274 t275 t276 t277 t278 t279 t280 t281 t282 t283 t284 : Value}, K9 ⟨#[.string s, t1, t2, t3, .int .i64 x0, .int .i64 y0, .int .i64 z0, t7, t8, t9, t10, t11, t12, t13, t14, t15, .int .i64 (n : Int), .int .i64 (m : Int), .slice (some ⟨gl, 0, none⟩) N cl, t19, t20, .slice (some ⟨gt, 0, none⟩) N ct, .int .i64 (T : Int), t23, t24, t25, t26, t27, t28, t29, t30, t31, t32, t33, t34, t35, t36, t37, t38, t39, t40, t41, t42, t43, t44, t45, t46, t47, t48, t49, t50, t51, t52, t53, t54, t55, t56, t57, t58, t59, t60, t61, t62, t63, t64, t65, t66, t67, t68, t69, t70, t71, t72, t73, t74, t75, t76, t77, t78, t79, t80, t81, t82, t83, t84, t85, t86, t87, t88, t89, t90, t91, t92, t93, t94, t95, t96, t97, t98, t99, t100, t101, t102, t103, t104, t105, t106, t107, t108, t109, t110, t111, t112, t113, t114, t115, t116, t117, t118, t119, t120, t121, t122, t123, t124, t125, t126, t127, t128, t129, t130, t131, t132, t133, t134, t135, t136, t137, t138, t139, t140, t141, t142, t143, t144, t145, t146, t147, t148, t149, t150, t151, t152, t153, t154, t155, t156, t157, t158, t159, t160, t161, t162, t163, t164, t165, t166, t167, t168, t169, t170, t171, t172, t173, t174, t175, t176, t177, t178, t179, t180, t181, t182, t183, t184, t185, t186, t187, t188, t189, t190, t191, t192, t193, t194, t195, t196, t197, t198, t199, t200, t201, t202, t203, t204, t205, t206, t207, t208, t209, t210, t211, t212, t213, t214, t215, t216, t217, t218, t219, t220, t221, t222, t223, t224, t225, t226, t227, t228, t229, t230, t231, t232, t233, t234, t235, t236, t237, t238, t239, t240, t241, t242, t243, t244, t245, t246, t247, t248, t249, t250, t251, t252, t253, t254, t255, t256, t257, t258, t259, t260, t261, t262, t263, t264, t265, t266, t267, t268, t269, t270, t271, t272, t273, t274, t275, t276, t277, t278, t279, t280, t281, t282, t283, t284], []⟩ wx := fun wx T LX h1 h2 h3 => aK9 _ _ (loE_walk s n m N T (unhide HN) x0 y0 z0 (unhide HX).1 (unhide HX).2.1 (unhide HX).2.2 W w2 wx gt ct gl cl LX h1 hct h2 h3 (unhide HAA).1 (unhide HAA).2 _ _ _ _ _ _ _ _ _ _ _ _ _ _ _ _ _ _ _ _ _ _ _ _ _ _ _ _ _ _ _ _ _ _ _ _ _ _ _ _ _ _ _ _ _ _ _ _ _ _ _ _ _ _ _ _ _ _ _ _ _ _ _ _ _ _ _ _ _ _ _ _ _ _ _ _ _ _ _ _ _ _ _ _ _ _ _ _ _ _ _ _ _ _ _ _ _ _ _ _ _ _ _ _ _ _ _ _ _ _ _ _ _ _ _ _ _ _ _ _ _ _ _ _ _ _ _ _ _ _ _ _ _ _ _ _ _ _ _ _ _ _ _ _ _ _ _ _ _ _ _ _ _ _ _ _ _ _ _ _ _ _ _ _ _ _ _ _ _ _ _ _ _ _ _ _ _ _ _ _ _ _ _ _ _ _ _ _ _ _ _ _ _ _ _ _ _ _ _ _ _ _ _ _ _ _ _ _ _ _ _ _ _ _ _ _ _ _ _ _ _ _ _ _ _ _ _ _ _ _ _ _ _ _ _ _ _ _ _ _ _ _ _ _ _ _ _ _ _ _ _ _ _ _ _ _ _ _ _ _ _ _ _ _ _ _ _ _ _ _ _ _ _ _ _ _)
  have HKE := hide @hK9
  clear hK9 aK9
  go_loopw [22, 23] (fun t i wr => ∃ (k T : Nat) (LL : List ByteArray), k ≤ lN ∧ i = .int .i64 (k : Int) ∧ t = .int .i64 (T : Int) ∧ n ≤ T ∧ T ≤ N ∧ Hid (LoI s n m N w2 gt ct LL wr ∧ (thr LL N).length = T)) (fun _ i _ => lN - (intOf i).toNat)
  case atStart => exact ⟨0, N, LA, by omega, rfl, rfl, hnN, Nat.le_refl _, hide ⟨unhide H3, unhide HT3⟩⟩
  case round =>
  obtain ⟨k, T, LL, hk, rfl, rfl, hT1, hT2, HI⟩ := hrel
  obtain ⟨wk, rfl⟩ : ∃ q, q = wr := ⟨_, rfl⟩
  have hks := (unhide HI).1.bel.size
  by_cases hkl : k < lN
  case pos =>
    have hkl' : (k : Int) < (lN : Int) := by omega
    by_cases hTn : n < T
    case pos =>
      have hTn' : (n : Int) < (T : Int) := by omega
      obtain ⟨gp, op, rfl, hgp, hcp⟩ := (unhide HL).2.1 k (by rw [(unhide HL).1]; exact hkl)
      have hcp2 : wk.cell? ⟨gp, op + k, none⟩ = some (.int .i64 (ls.getD k 0)) := ((unhide HI).1.bel.cell (p := ⟨gp, op + k, none⟩) (by show gp < w2.heap.size; omega)).trans (((unhide H2).2.cell (p := ⟨gp, op + k, none⟩) (by show gp < wx.heap.size; omega)).trans (((unhide HB).cell (p := ⟨gp, op + k, none⟩) hgp).trans hcp))
      have hzi : I64 (ls.getD k 0) := (unhide HL).2.2 _ (by rw [List.getD_eq_getElem?_getD, List.getElem?_eq_getElem (by rw [(unhide HL).1]; exact hkl)]; exact List.getElem_mem _)
      obtain ⟨zz, hzz⟩ : ∃ q, ls.getD k 0 = q := ⟨_, rfl⟩
      rw [hzz] at hcp2 hzi
      have HPK := hide (fun W => pick18_c zz N (by omega) hzi (N : Int) rfl W)
      have hjl := pickP_lt zz N (by omega)
      obtain ⟨j, hj⟩ : ∃ q, pickP zz N = q := ⟨_, rfl⟩
      rw [hj] at HPK hjl
      have HCJ := hide (own_str (by rw [(unhide HI).1.part.len, unhide HN]) (unhide HI).1.own j hjl)
      clear hj hzi hzz hcp hgp
      have hjI : (j : Int) < (N : Int) := by omega
      go_wp2_with fail
      refine (unhide HPK _).mono ?_
      rintro e wy ⟨rfl, rfl⟩
      clear HPK hcp2
      dsimp only
      have hcj := (unhide HCJ).1
      have hfj := (unhide HCJ).2.1
      by_cases hz : sz LL j = 0
      · obtain ⟨hem, hem2⟩ := emp_yes hz
        obtain ⟨S, hS⟩ : ∃ q, LL.getD j ByteArray.empty = q := ⟨_, rfl⟩
        rw [hS] at hcj hem hem2
        clear hz hS HCJ
        go_wp2
        go_roundw
        case rel => exact ⟨k + 1, T, LL, by omega, by go_num, rfl, hT1, hT2, HI⟩
        case measure => simp [intOf] <;> omega
      · obtain ⟨hem, hem2⟩ := emp_no hz
        have HI2 := hide (show LoI s n m N w2 gt ct (LL.set j ⟨#[]⟩) (wy.setCell ⟨gt, j, none⟩ (.string ⟨#[]⟩)) ∧ (thr (LL.set j ⟨#[]⟩) N).length = T - 1 from ⟨(unhide HI).1.less (unhide HN) j hjl, by
          have h9 := thr_less' LL N j (by rw [(unhide HI).1.part.len, unhide HN]) hjl hz
          have h8 := (unhide HI).2
          omega⟩)
        obtain ⟨S, hS⟩ : ∃ q, LL.getD j ByteArray.empty = q := ⟨_, rfl⟩
        rw [hS] at hcj hem hem2
        clear hz hS HCJ
        go_wp2
        go_roundw
        case rel => exact ⟨k + 1, T - 1, LL.set j ⟨#[]⟩, by omega, by go_num, by go_num, by omega, by omega, HI2⟩
        case measure => simp [intOf] <;> omega
    have hTn' : ¬ (n : Int) < (T : Int) := by omega
    go_wp2_with fail
    exact (unhide HKE) wk T LL (unhide HI).1 (unhide HI).2 hT1
  have hkl' : ¬ (k : Int) < (lN : Int) := by omega
  go_wp2_with fail
  exact (unhide HKE) wk T LL (unhide HI).1 (unhide HI).2 hT1
end Go.Proofs.YthjimpilhijbkaaDoor
