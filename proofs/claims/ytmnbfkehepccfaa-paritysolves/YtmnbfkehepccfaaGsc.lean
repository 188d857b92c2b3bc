import Derived.Test.YtmnbfkehepccfaaGsa
import Derived.Test.YtmnbfkehepccfaaGsb
import Derived.BigQuiet
namespace Go.Proofs.Ytmnbfkehepccfaa
open Go.RowKit
set_option maxRecDepth 100000
theorem LR.only {base : Nat} {w w' : World} {u : Value} {m : Nat} {Q : List (List Int)} {pq : Nat → Option Addr} {v : Nat → Value} {P : Nat → Prop} (h : LR base w u m Q pq v) (ho : Only P w w') (hu : ∀ z, u.ownBlock = some z → ¬ P z) (hv : ∀ i, i < m → ∀ z, (v i).ownBlock = some z → ¬ P z) : LR base w' u m Q pq v :=
  ⟨owns_only h.row ho hu, fun i hi => (h.own i hi).only ho (hv i hi), h.dis⟩
theorem LR.far {base : Nat} {w : World} {u : Value} {m : Nat} {Q : List (List Int)} {pq : Nat → Option Addr} {v : Nat → Value} (h : LR base w u m Q pq v) (i : Nat) (hi : i < m) (z : Nat) (hz : u.ownBlock = some z) : (v i).ownBlock ≠ some z := fun q => (h.own i hi).far h.row (by decide) z q hz
theorem own_gls {w : World} {base n c : Nat} {p : Option Addr} {L : List Int} (hn : L.length = n) (h : w.ownsRow base 3 1 (.slice p n c) n (ints L)) : GLs w w.heap.size p L := fun j hj => by
  obtain ⟨g, e, hc, _, _, hlt⟩ := gr_cell h j (by omega)
  refine ⟨g, 0, e, hlt, ?_⟩
  rw [Nat.zero_add, hc]
  exact gl_get L j hj
theorem ints_len (l : List Int) : (ints l).length = l.length := by simp [ints]
set_option maxHeartbeats 64000000 in
theorem solves18 (Q : List (List Int)) (L : List Int) (ps pl : Option Addr) (cs cl m n : Nat) (pq : Nat → Option Addr) (cq : Nat → Nat) (W : World) (hm : Q.length = m) (hn : L.length = n) (hmb : m ≤ 5864062014804) (hnb : n ≤ 17592186043999) (hS : SqI W W.heap.size ps Q pq cq) (hL : GLs W W.heap.size pl L) (hl0 : pl = none → n = 0 ∧ cl = 0) : Calls Try.prog 7 #[.slice ps m cs, .slice pl n cl] W fun e w' => e = .returned (.bool true) ∧ Below W.heap.size W w' := by
  have HK0 := hide (known18 W)
  have hA24 := solL_len Q L
  obtain ⟨A, hA⟩ : ∃ q, solL Q L = q := ⟨_, rfl⟩
  obtain ⟨er, her⟩ : ∃ q, solE Q L = q := ⟨_, rfl⟩
  obtain ⟨al, hal⟩ : ∃ q, A.length = q := ⟨_, rfl⟩
  rw [hA, hal] at hA24
  have HRS := hide (fun (w : World) (hb : Below W.heap.size W w) => rsol_of Q L A er al m n hA her hal hm hn w W.heap.size cs cl ps pl (hS.below hb).gsq (hL.below hb) hb.size (fun i hi => by
    obtain ⟨_, _, _, _, _, _, _, hz⟩ := hS i (by rw [hm]; exact hi)
    omega))
  have HPS := hide (psol_of Q L A er al m n hA her hal hm hn)
  have HAL := hide hal
  have HS := hide (fun (w : World) (hb : Below W.heap.size W w) (i : Nat) (hi : i < m) => (hS.below hb) i (by rw [hm]; exact hi))
  have HL := hide (And.intro hL hl0)
  have HM := hide (And.intro hm hn)
  obtain ⟨i9, hi, hz0, hz1, hz2⟩ := info_parts gr_rows
  have HJ := hide (And.intro hi (And.intro hz0 (And.intro hz1 hz2)))
  clear hi hz0 hz1 hz2 hA her hal hS hL hl0 hm hn
  go_enter Try.func7, Try.ntmps7
  go_wp2_with fail
  refine (unhide HK0).mono ?_
  rintro e w1 ⟨rfl, hb1⟩
  have hs1 := hb1.size
  have HR := hide (unhide HRS w1 hb1)
  have HB1 := hide hb1
  clear hb1 HK0 HRS
  go_wp2_with fail
  refine (unhide HR).mono ?_
  rintro e w2 ⟨p0, c0, rfl, ho0, hb2⟩
  have H0 := hide (And.intro ho0 ((unhide HB1).trans (hb2.mono hs1)))
  have hs2 := (unhide H0).2.size
  clear ho0 hb2 HR HB1
  go_wp2_with fail
  rename_i K aK
  have hK : ∀ (wx : World) (v : Nat → Value) (gu cv : Nat) (_ : RR w2.heap.size 32 3 wx (.slice (some ⟨gu, 0, none⟩) 3 cv) 3 v (fun _ => ints A)) (_ : Below w2.heap.size w2 wx) (t0 t1 t2 t3 t4 t6 t7 t9 t10 t11 t12 t13 t14 t15 t16 t17 t18 t19 t20 t21 t22 t23 t24 t25 t26 t27 t28 t29 t30 t31 t32 t33 t34 t35 t36 t37 t38 t39 t40 t41 t42 t43 t44 t45 t46 t47 t48 t49 t50 t51 t52 t53 t54 t55 t56 t57 t58 t59 t60 t61 t62 t63 t64 t65 t66 t67 t68 t69 t70 t71 t72 t73 t74 t75 t76 t77 t78 t79 t80 t81 t82 t83 t84 t85 t86 t87 t88 t89 t90 t91 t92 t93 t94 t95 t96 t97 t98 t99 t100 t101 t102 t103 t104 t105 t106 t107 t108 t109 t110 t111 t112 t113 t114 t115 t116 t117 t118 t119 t120 t121 t122 t123 t124 t125 t126 t127 t128 t129 t130 t131 t132 t133 t134 t135 t136 t137 t138 t139 t140 t141 t142 t143 t144 t145 t146 t147 t148 t149 t150 t151 t152 t153 t154 t155 t156 t157 t158 t159 t160 t161 t162 t163 t164 t165 t166 t167 t168 t169 t170 t171 t172 t173 t174 t175 t176 t177 : Value), K ⟨#[t0, t1, t2, t3, t4, .bool true, t6, t7, .slice (some ⟨gu, 0, none⟩) 3 cv, t9, t10, t11, t12, t13, t14, t15, t16, t17, t18, t19, t20, t21, t22, t23, t24, t25, t26, t27, t28, t29, t30, t31, t32, t33, t34, t35, t36, t37, t38, t39, t40, t41, t42, t43, t44, t45, t46, t47, t48, t49, t50, t51, t52, t53, t54, t55, t56, t57, t58, t59, t60, t61, t62, t63, t64, t65, t66, t67, t68, t69, t70, t71, t72, t73, t74, t75, t76, t77, t78, t79, t80, t81, t82, t83, t84, t85, t86, t87, t88, t89, t90, t91, t92, t93, t94, t95, t96, t97, t98, t99, t100, t101, t102, t103, t104, t105, t106, t107, t108, t109, t110, t111, t112, t113, t114, t115, t116, t117, t118, t119, t120, t121, t122, t123, t124, t125, t126, t127, t128, t129, t130, t131, t132, t133, t134, t135, t136, t137, t138, t139, t140, t141, t142, t143, t144, t145, t146, t147, t148, t149, t150, t151, t152, t153, t154, t155, t156, t157, t158, t159, t160, t161, t162, t163, t164, t165, t166, t167, t168, t169, t170, t171, t172, t173, t174, t175, t176, t177], []⟩ wx := fun wx v gu cv q1 q2 t0 t1 t2 t3 t4 t6 t7 t9 t10 t11 t12 t13 t14 t15 t16 t17 t18 t19 t20 t21 t22 t23 t24 t25 t26 t27 t28 t29 t30 t31 t32 t33 t34 t35 t36 t37 t38 t39 t40 t41 t42 t43 t44 t45 t46 t47 t48 t49 t50 t51 t52 t53 t54 t55 t56 t57 t58 t59 t60 t61 t62 t63 t64 t65 t66 t67 t68 t69 t70 t71 t72 t73 t74 t75 t76 t77 t78 t79 t80 t81 t82 t83 t84 t85 t86 t87 t88 t89 t90 t91 t92 t93 t94 t95 t96 t97 t98 t99 t100 t101 t102 t103 t104 t105 t106 t107 t108 t109 t110 t111 t112 t113 t114 t115 t116 t117 t118 t119 t120 t121 t122 t123 t124 t125 t126 t127 t128 t129 t130 t131 t132 t133 t134 t135 t136 t137 t138 t139 t140 t141 t142 t143 t144 t145 t146 t147 t148 t149 t150 t151 t152 t153 t154 t155 t156 t157 t158 t159 t160 t161 t162 t163 t164 t165 t166 t167 t168 t169 t170 t171 t172 t173 t174 t175 t176 t177 => aK _ _ (by
    exact solD_walk wx w2.heap.size 3 gu cv v (fun _ => ints A) (fun _ => al) (by omega) q2.size q1 (fun k _ => by rw [ints_len]; exact unhide HAL) (fun _ => hA24) _ (fun w' h => ⟨rfl, (unhide H0).2.trans ((q2.trans h).mono hs2)⟩) t0 t1 t2 t3 t4 t6 t7 t9 t10 t11 t12 t13 t14 t15 t16 t17 t18 t19 t20 t21 t22 t23 t24 t25 t26 t27 t28 t29 t30 t31 t32 t33 t34 t35 t36 t37 t38 t39 t40 t41 t42 t43 t44 t45 t46 t47 t48 t49 t50 t51 t52 t53 t54 t55 t56 t57 t58 t59 t60 t61 t62 t63 t64 t65 t66 t67 t68 t69 t70 t71 t72 t73 t74 t75 t76 t77 t78 t79 t80 t81 t82 t83 t84 t85 t86 t87 t88 t89 t90 t91 t92 t93 t94 t95 t96 t97 t98 t99 t100 t101 t102 t103 t104 t105 t106 t107 t108 t109 t110 t111 t112 t113 t114 t115 t116 t117 t118 t119 t120 t121 t122 t123 t124 t125 t126 t127 t128 t129 t130 t131 t132 t133 t134 t135 t136 t137 t138 t139 t140 t141 t142 t143 t144 t145 t146 t147 t148 t149 t150 t151 t152 t153 t154 t155 t156 t157 t158 t159 t160 t161 t162 t163 t164 t165 t166 t167 t168 t169 t170 t171 t172 t173 t174 t175 t176 t177)
  have HK := hide hK
  clear hK aK
  go_loopw [8, 9, 10, 11, 15, 16, 18] (fun u i _ _ _ _ _ wr => ∃ (k : Nat) (v : Nat → Value), k ≤ 3 ∧ i = .int .i64 (k : Int) ∧ Hid (RR w2.heap.size 32 3 wr u k v (fun _ => ints A) ∧ Below w2.heap.size w2 wr)) (fun _ i _ _ _ _ _ _ => 3 - (intOf i).toNat)
  case atStart => exact ⟨0, fun _ => .slice none 0 0, by omega, rfl, hide ⟨RR.new _ _ _ _ _ _, Below.refl _ _⟩⟩
  case round =>
  obtain ⟨k, v, hk, rfl, HR⟩ := hrel
  obtain ⟨wk, rfl⟩ : ∃ q, q = wr := ⟨_, rfl⟩
  obtain ⟨pu, cu, rfl, _⟩ := gr_form (unhide HR).1.row
  have hks := (unhide HR).2.size
  have HBW := hide (show Below W.heap.size W wk from (unhide H0).2.trans ((unhide HR).2.mono hs2))
  by_cases hk3 : k < 3
  case neg =>
    have hke : 3 = k := by omega
    subst hke
    obtain ⟨gu, rfl, _, _, _, _⟩ := (unhide HR).1.at 0 (by omega)
    go_wp2_with fail
    exact unhide HK wk v gu cu (unhide HR).1 (unhide HR).2 _ _ _ _ _ _ _ _ _ _ _ _ _ _ _ _ _ _ _ _ _ _ _ _ _ _ _ _ _ _ _ _ _ _ _ _ _ _ _ _ _ _ _ _ _ _ _ _ _ _ _ _ _ _ _ _ _ _ _ _ _ _ _ _ _ _ _ _ _ _ _ _ _ _ _ _ _ _ _ _ _ _ _ _ _ _ _ _ _ _ _ _ _ _ _ _ _ _ _ _ _ _ _ _ _ _ _ _ _ _ _ _ _ _ _ _ _ _ _ _ _ _ _ _ _ _ _ _ _ _ _ _ _ _ _ _ _ _ _ _ _ _ _ _ _ _ _ _ _ _ _ _ _ _ _ _ _ _ _ _ _ _ _ _ _ _ _ _ _ _ _ _ _ _ _ _
  have hk3' : (k : Int) < 3 := by omega
  clear HK
  go_wp2
  go_loopw [10, 11] (fun u i wr => ∃ (j : Nat) (x : Nat → Value), j ≤ m ∧ i = .int .i64 (j : Int) ∧ Hid (LR wk.heap.size wr u j Q pq x ∧ Below wk.heap.size wk wr)) (fun _ i _ => m - (intOf i).toNat)
  case atStart => exact ⟨0, fun _ => .slice none 0 0, by omega, rfl, hide ⟨LR.new _ _ _ _ _, Below.refl _ _⟩⟩
  case round =>
  obtain ⟨j, x, hj, rfl, HLR⟩ := hrel
  obtain ⟨wj, rfl⟩ : ∃ q, q = wr := ⟨_, rfl⟩
  obtain ⟨pr, cr, rfl, _⟩ := gr_form (unhide HLR).1.row
  have hjs := (unhide HLR).2.size
  have hWk := (unhide HBW).size
  have HBJ := hide (show Below W.heap.size W wj from (unhide HBW).trans ((unhide HLR).2.mono hWk))
  by_cases hjm : j < m
  case pos =>
    have hjm' : (j : Int) < (m : Int) := by omega
    have hj0 : (0 : Int) ≤ (j : Int) := by omega
    obtain ⟨gs, os, rfl, hgs, hcs, h0s, hls, hzs⟩ := unhide HS wj (unhide HBJ) j hjm
    obtain ⟨ql, hql⟩ : ∃ q, Q.getD j [] = q := ⟨_, rfl⟩
    obtain ⟨qn, hqn⟩ : ∃ q, ql.length = q := ⟨_, rfl⟩
    obtain ⟨pj, hpj⟩ : ∃ q, pq j = q := ⟨_, rfl⟩
    obtain ⟨cj, hcj⟩ : ∃ q, cq j = q := ⟨_, rfl⟩
    rw [hql, hqn, hpj, hcj] at hcs
    rw [hql, hqn, hpj, hcj] at h0s
    rw [hql, hpj] at hls
    rw [hql, hqn] at hzs
    have HLE := hide (lent_any wj ql pj qn cj hqn (hls.mono (unhide HBJ).size) h0s hzs)
    have HQL := hide (And.intro hql (And.intro hqn hpj))
    clear h0s hls hql hqn hpj hcj
    go_wp2_with fail
    refine (unhide HLE).mono ?_
    rintro e x1 ⟨y, rfl, hy, hb1⟩
    obtain ⟨yb, yd, rfl, _, _⟩ := hy.form
    rw [(unhide HQL).2.1] at hy ⊢
    have hx1s := hb1.size
    have HR2 := hide (((unhide HLR).1.below hb1).below ((Below.refl _ x1).alloc (Nat.le_refl _) (.cells #[.slice yb qn yd] 32)))
    have HRO := hide (unhide HR2).row
    have HY := hide (And.intro hy hb1)
    clear hy hb1 HLE hcs
    go_wp2_with (refine wpList_append_lies _ rfl (.tmp 43) (.tmp 49) 33 rfl wk.heap.size 32 i9 (.slice none 0 0) 1 24 Try.underlying33 (unhide HJ).1 (unhide HJ).2.1 (unhide HJ).2.2.1 (unhide HJ).2.2.2 rfl (by decide) _ j _ rfl (unhide HRO) ⟨x1.heap.size, 0, none⟩ 1 1 [.slice yb qn yd] rfl rfl (fun q u hu => gr_new x1 32 _ q u hu) (by simp [Value.oneCell']) (by decide) (by unfold maxLen; omega) (by omega) (by simp; omega) (x1.heap.size + 1) (by simp) ?_)
    intro g3 c3 w3 ho3 hg3 _ _
    have HN := hide (show LR wk.heap.size w3 (.slice (some ⟨g3, 0, none⟩) (j + 1) c3) (j + 1) Q pq (fun i => if i = j then .slice yb qn yd else x i) ∧ Below wk.heap.size wk w3 from by
      have hwb : Below wk.heap.size wk x1 := (unhide HLR).2.trans ((unhide HY).2.mono hjs)
      refine ⟨(unhide HR2).push (.slice yb qn yd) ?_ ?_ ho3 hg3, (hwb.alloc hwb.size _).grown hg3 (by have := hwb.size; simp; omega) (fun q hq => ((unhide HRO).lt q hq).1)⟩
      · have h9 := ((unhide HY).1.below ((Below.refl _ x1).alloc (Nat.le_refl _) (.cells #[.slice yb qn yd] 32))).mono hjs
        rw [(unhide HQL).1, (unhide HQL).2.2]
        exact h9
      · intro i hi z hz q
        have h1 := (((unhide HLR).1.own i hi).lt z hz).2
        have h2 := ((unhide HY).1.lt z q).1
        omega)
    clear ho3 hg3 HR2 HRO HY
    go_wp2
    go_roundw
    case rel => exact ⟨j + 1, _, by omega, by go_num, HN⟩
    case measure => simp [intOf] <;> omega
  have hje : m = j := by omega
  subst hje
  have hjm' : ¬ (m : Int) < (m : Int) := by omega
  have HLE := hide (lent_any wj L pl n cl (unhide HM).2 (((unhide HL).1.below (unhide HBJ)).mono (unhide HBJ).size) (unhide HL).2 hnb)
  clear hj hjm
  go_wp2_with fail
  refine (unhide HLE).mono ?_
  rintro e x1 ⟨y, rfl, hy, hb1⟩
  obtain ⟨yb, yd, rfl, _, hyl⟩ := hy.form
  rw [(unhide HM).2] at hy ⊢
  have hx1s := hb1.size
  have HL1 := hide ((unhide HLR).1.below hb1)
  have HP := hide (unhide HPS x1 x1.heap.size cr yd pr yb ((unhide HL1).gsq (unhide HM).1) hyl (Nat.le_refl _))
  have HY := hide (And.intro hy hb1)
  clear hy hb1 HLE hyl hjm'
  go_wp2_with fail
  refine (unhide HP).mono ?_
  rintro e x2 ⟨p1, c1, rfl, ho1, hb2⟩
  have hx2s := hb2.size
  have HBX2 := hide (show Below W.heap.size W x2 from (unhide HBJ).trans (((unhide HY).2.mono (unhide HBJ).size).trans (hb2.mono (by have := (unhide HBJ).size; omega))))
  have HY2 := hide ((unhide HY).1.below hb2)
  have HAL2 := hide (asLent_any x2 wj.heap.size L pl yb n cl yd (unhide HM).2 (((unhide HL).1.below (unhide HBX2)).mono (unhide HBJ).size) (by omega) (unhide HL).2 hnb (unhide HY2))
  have HO1 := hide (And.intro ho1 hb2)
  clear ho1 hb2 HP
  go_wp2_with fail
  refine (unhide HAL2).mono ?_
  rintro e x3 ⟨rfl, hon⟩
  have hx3s := hon.size
  -- the rows, behind the call and the list's own look
  have HL3 := hide (show LR wk.heap.size x3 (.slice pr m cr) m Q pq x ∧ Below wk.heap.size wk x3 ∧ x3.ownsRow x1.heap.size 3 1 (.slice p1 al c1) al (ints A) from by
    have hyt : ∀ z, (Value.slice yb n yd).ownBlock = some z → wj.heap.size ≤ z ∧ z < x1.heap.size := fun z hz => (unhide HY).1.lt z hz
    have h12 : Below wk.heap.size wk x2 := (unhide HLR).2.trans (((unhide HY).2.mono hjs).trans ((unhide HO1).2.mono (by omega)))
    refine ⟨((unhide HL1).below (unhide HO1).2).only hon (fun z hz q => ?_) (fun i hi z hz q => ?_), h12.trans (hon.below (by have := h12.size; omega) (fun z hz q => ?_)), owns_only (unhide HO1).1 hon (fun z hz q => ?_)⟩
    · have h1 := ((unhide HLR).1.row.lt z hz).2
      have h2 := hyt z q
      omega
    · have h1 := (((unhide HLR).1.own i hi).lt z hz).2
      have h2 := hyt z q
      omega
    · have h2 := hyt z q
      omega
    · have h1 := ((unhide HO1).1.lt z hz).1
      have h2 := hyt z q
      omega)
  have HX3 := hide (show ∀ z a, a < m → (x a).ownBlock = some z → wk.heap.size ≤ z ∧ z < x1.heap.size from fun z a ha hz => by
    have h1 := ((unhide HLR).1.own a ha).lt z hz
    omega)
  clear hon HAL2 HO1 HY2 HBX2 HY HL1 HLR HBJ
  go_wp2
  go_loopw [15, 16] (fun b i wr => ∃ q : Nat, q ≤ m ∧ b = .bool true ∧ i = .int .i64 (q : Int) ∧ Hid (Only (fun z => ∃ a, a < q ∧ (x a).ownBlock = some z) x3 wr)) (fun _ i _ => m - (intOf i).toNat)
  case atStart => exact ⟨0, by omega, rfl, rfl, hide (Only.refl _ _)⟩
  case round =>
  obtain ⟨q, hq, rfl, rfl, HO⟩ := hrel
  obtain ⟨wq, rfl⟩ : ∃ q, q = wr := ⟨_, rfl⟩
  have hqs := (unhide HO).size
  have HBQ := hide (show Below wk.heap.size wk wq from (unhide HL3).2.1.trans ((unhide HO).below (unhide HL3).2.1.size (fun z hz ⟨a, ha, hx⟩ => by have := unhide HX3 z a (by omega) hx; omega)))
  by_cases hqm : q < m
  case pos =>
    have hqm' : (q : Int) < (m : Int) := by omega
    have hq0 : (0 : Int) ≤ (q : Int) := by omega
    obtain ⟨gs, os, rfl, hgs, hcs, h0s, hls, hzs⟩ := unhide HS wq ((unhide HBW).trans ((unhide HBQ).mono hWk)) q hqm
    have hLq := (unhide HL3).1.own q hqm
    have hLw : Lnt wk.heap.size wq (Q.getD q []) (pq q) (x q) := hLq.only (unhide HO) (fun z hz ⟨a, ha, hx⟩ => (unhide HL3).1.dis a q (by omega) hqm (by omega) z hx hz)
    obtain ⟨gr, rfl, hcr3, _, hgr⟩ := (unhide HL3).1.at q hqm
    have hcr : wq.cell? ⟨gr, q, none⟩ = some (x q) := (World.cell?_of_block (a := ⟨gr, q, none⟩) ((unhide HO).2 gr hgr (fun ⟨a, ha, hx⟩ => (unhide HL3).1.far a (by omega) gr rfl hx))).trans hcr3
    obtain ⟨ql, hql⟩ : ∃ q', Q.getD q [] = q' := ⟨_, rfl⟩
    obtain ⟨qn, hqn⟩ : ∃ q, ql.length = q := ⟨_, rfl⟩
    obtain ⟨pj, hpj⟩ : ∃ q', pq q = q' := ⟨_, rfl⟩
    obtain ⟨cj, hcj⟩ : ∃ q', cq q = q' := ⟨_, rfl⟩
    rw [hql, hqn, hpj, hcj] at hcs
    rw [hql, hqn, hpj, hcj] at h0s
    rw [hql, hpj] at hls hLw
    rw [hql, hqn] at hzs
    obtain ⟨yb, yd, hxq, _, _⟩ := hLw.form
    rw [hqn] at hxq
    rw [hxq] at hcr hLw
    have HAS := hide (asLent_any wq.drew wk.heap.size ql pj yb qn cj yd hqn (hls.mono hWk) (unhide HBQ).size h0s hzs hLw)
    have HNX := hide (show ∀ x9, Only (fun z => (Value.slice yb qn yd).ownBlock = some z) wq x9 → Only (fun z => ∃ a, a < q + 1 ∧ (x a).ownBlock = some z) x3 x9 ∧ x9.cell? ⟨gr, q, none⟩ = some (.slice yb qn yd) ∧ x9.cell? ⟨gs, os + q, none⟩ = some (.slice pj qn cj) from fun x9 hon => by
      refine ⟨((unhide HO).mono (fun z _ ⟨a, ha, hx⟩ => ⟨a, by omega, hx⟩)).trans hon (fun z _ hz => ⟨q, by omega, by rw [hxq]; exact hz⟩), (World.cell?_of_block (a := ⟨gr, q, none⟩) (hon.2 gr (by omega) (fun hz => (unhide HL3).1.far q hqm gr rfl (by rw [hxq]; exact hz)))).trans hcr, (World.cell?_of_block (a := ⟨gs, os + q, none⟩) (hon.2 gs (by have := (unhide HBQ).size; show gs < wq.heap.size; omega) (fun hz => by
        have := hLw.lt gs hz
        omega))).trans hcs⟩)
    clear h0s hls hzs hLq hLw hcr3 hql hqn hpj hcj hxq
    · skip
      go_wp2_with fail
      refine wp_region_held_drew (S := fun w' => w'.cell? ⟨gr, q, none⟩ = some (.slice yb qn yd) ∧ w'.cell? ⟨gs, os + q, none⟩ = some (.slice pj qn cj)) (by kernel_rfl) ⟨hcr, hcs⟩ ?_
      intro hS
      refine wpAnyH_takeD 0 (some 68) (.slice (some ⟨gr, 0, none⟩) m cr) rfl rfl (by kernel_rfl) (by kernel_rfl) (by kernel_rfl) (fun _ _ _ h => h) (Or.inl ⟨by rfl, fun w hSw => by obtain ⟨q1, q2⟩ := hSw; go_simp⟩) hS ?_
      simp only [Act.put, List.setIfInBounds_toArray, List.set_cons_zero, List.set_cons_succ]
      refine wpAnyH_takeD 1 (some 69) (.int .i64 (q : Int)) rfl rfl (by kernel_rfl) (by kernel_rfl) (by kernel_rfl) (fun _ _ _ h => h) (Or.inl ⟨by rfl, fun w hSw => by obtain ⟨q1, q2⟩ := hSw; go_simp⟩) hS ?_
      simp only [Act.put, List.setIfInBounds_toArray, List.set_cons_zero, List.set_cons_succ]
      refine wpAnyH_takeD 2 (some 70) (.pointer (some ⟨gr, q, none⟩)) rfl rfl (by kernel_rfl) (by kernel_rfl) (by kernel_rfl) (fun _ _ _ h => h) (Or.inl ⟨by rfl, fun w hSw => by obtain ⟨q1, q2⟩ := hSw; go_simp⟩) hS ?_
      simp only [Act.put, List.setIfInBounds_toArray, List.set_cons_zero, List.set_cons_succ]
      refine wpAnyH_takeD 3 (some 71) (.slice yb qn yd) rfl rfl (by kernel_rfl) (by kernel_rfl) (by kernel_rfl) (fun _ _ _ h => h) (Or.inl ⟨by rfl, fun w hSw => by obtain ⟨q1, q2⟩ := hSw; go_simp⟩) hS ?_
      simp only [Act.put, List.setIfInBounds_toArray, List.set_cons_zero, List.set_cons_succ]
      refine wpAnyH_takeD 4 (some 72) (.slice (some ⟨gs, os, none⟩) m cs) rfl rfl (by kernel_rfl) (by kernel_rfl) (by kernel_rfl) (fun _ _ _ h => h) (Or.inl ⟨by rfl, fun w hSw => by obtain ⟨q1, q2⟩ := hSw; go_simp⟩) hS ?_
      simp only [Act.put, List.setIfInBounds_toArray, List.set_cons_zero, List.set_cons_succ]
      refine wpAnyH_takeD 5 (some 73) (.int .i64 (q : Int)) rfl rfl (by kernel_rfl) (by kernel_rfl) (by kernel_rfl) (fun _ _ _ h => h) (Or.inl ⟨by rfl, fun w hSw => by obtain ⟨q1, q2⟩ := hSw; go_simp⟩) hS ?_
      simp only [Act.put, List.setIfInBounds_toArray, List.set_cons_zero, List.set_cons_succ]
      refine wpAnyH_takeD 6 (some 74) (.pointer (some ⟨gs, os + q, none⟩)) rfl rfl (by kernel_rfl) (by kernel_rfl) (by kernel_rfl) (fun _ _ _ h => h) (Or.inl ⟨by rfl, fun w hSw => by obtain ⟨q1, q2⟩ := hSw; go_simp⟩) hS ?_
      simp only [Act.put, List.setIfInBounds_toArray, List.set_cons_zero, List.set_cons_succ]
      refine wpAnyH_takeD 7 (some 75) (.slice pj qn cj) rfl rfl (by kernel_rfl) (by kernel_rfl) (by kernel_rfl) (fun _ _ _ h => h) (Or.inl ⟨by rfl, fun w hSw => by obtain ⟨q1, q2⟩ := hSw; go_simp⟩) hS ?_
      simp only [Act.put, List.setIfInBounds_toArray, List.set_cons_zero, List.set_cons_succ]
      refine wpAnyH_ready (rs := [8]) (by kernel_rfl) (by simp) ?_
      refine AllReadyH.cons rfl (fun K5 hK5 => ?_) AllReadyH.nil
      simp only [List.getElem_toArray, List.getElem_cons_succ, List.getElem_cons_zero]
      go_simp
      refine (unhide HAS).mono ?_
      rintro e x9 ⟨rfl, hon0⟩
      have hon := (show Only (fun k => (Value.slice yb qn yd).ownBlock = some k) wq x9 from ⟨⟨hon0.1.os, hon0.1.tape, hon0.1.output, hon0.1.size, hon0.1.block⟩, hon0.2⟩)
      clear hon0
      have HN9 := hide (unhide HNX _ hon)
      refine hK5.out _ _ ((unhide HNX _ hon).2) (fun hS => ?_)
      clear hK5 K5 hon
      refine wpAnyH_takeD 9 (some 17) (.bool true) rfl rfl (by kernel_rfl) (by kernel_rfl) (by kernel_rfl) (fun _ _ _ h => h) (Or.inl ⟨by rfl, fun w hSw => by obtain ⟨q1, q2⟩ := hSw; go_simp⟩) hS ?_
      simp only [Act.put, List.setIfInBounds_toArray, List.set_cons_zero, List.set_cons_succ]
      refine wpAnyH_done (by kernel_rfl) ?_ _
      clear hS hcr hcs
      go_wp2
      go_roundw
      case rel => exact ⟨q + 1, by omega, rfl, by go_num, hide (unhide HN9).1⟩
      case measure => simp [intOf] <;> omega
  have hqe : m = q := by omega
  subst hqe
  have hqm' : ¬ (m : Int) < (m : Int) := by omega
  have HX := hide (show wq.ownsRow x1.heap.size 3 1 (.slice p1 al c1) al (ints A) from owns_only (unhide HL3).2.2 (unhide HO) (fun z hz ⟨a, ha, hx⟩ => by
    have h1 := ((unhide HL3).2.2.lt z hz).1
    have h2 := unhide HX3 z a ha hx
    omega))
  have HR2 := hide ((((unhide HR).1.below (unhide HBQ)).congrV (x := fun i => if i = k then .slice p1 al c1 else v i) (fun i hi => by rw [if_neg (by omega)])).below ((Below.refl _ wq).alloc (Nat.le_refl _) (.cells #[.slice p1 al c1] 32)))
  have HRO := hide (unhide HR2).row
  clear HL3 HX3 HO hq hqm
  go_wp2_with (refine wpList_append_lies _ rfl (.tmp 81) (.tmp 83) 33 rfl w2.heap.size 32 i9 (.slice none 0 0) 1 24 Try.underlying33 (unhide HJ).1 (unhide HJ).2.1 (unhide HJ).2.2.1 (unhide HJ).2.2.2 rfl (by decide) _ k _ rfl (unhide HRO) ⟨wq.heap.size, 0, none⟩ 1 1 [.slice p1 al c1] rfl rfl (fun q u hu => gr_new wq 32 _ q u hu) (by simp [Value.oneCell']) (by decide) (by unfold maxLen; omega) (by omega) (by have := (unhide HBQ).size; simp; omega) (wq.heap.size + 1) (by simp) ?_)
  intro g3 c3 w3 ho3 hg3 _ _
  have HN := hide (show RR w2.heap.size 32 3 w3 (.slice (some ⟨g3, 0, none⟩) (k + 1) c3) (k + 1) (fun i => if i = k then .slice p1 al c1 else v i) (fun _ => ints A) ∧ Below w2.heap.size w2 w3 from by
    have hwb : Below w2.heap.size w2 wq := (unhide HR).2.trans ((unhide HBQ).mono hks)
    refine ⟨(unhide HR2).push (by decide) (.slice p1 al c1) (ints A) ?_ ?_ (by simp) rfl ho3 hg3, (hwb.alloc hwb.size _).grown hg3 (by have := hwb.size; simp; omega) (fun q hq => ((unhide HRO).lt q hq).1)⟩
    · rw [ints_len, unhide HAL]
      exact gr_mono ((unhide HX).alloc _) (by omega)
    · intro i hi y hy q
      rw [if_neg (by omega)] at hy
      have h1 := (((unhide HR).1.own i hi).lt y hy).2
      have h2 := ((unhide HX).lt y q).1
      omega)
  have hw3 := (unhide HN).2.size
  clear ho3 hg3 HR2 HRO HX HBQ hqm'
  go_wp2
  go_loopw [15, 18] (fun b i wr => ∃ q : Nat, q ≤ k + 1 ∧ b = .bool true ∧ i = .int .i64 (q : Int) ∧ Hid (Below w3.heap.size w3 wr)) (fun _ i _ => k + 1 - (intOf i).toNat)
  case atStart => exact ⟨0, by omega, rfl, rfl, hide (Below.refl _ _)⟩
  case round =>
  obtain ⟨q, hq, rfl, rfl, HO⟩ := hrel
  obtain ⟨wz, rfl⟩ : ∃ q, q = wr := ⟨_, rfl⟩
  have hzs := (unhide HO).size
  by_cases hqm : q < k + 1
  case pos =>
    have hqm' : (q : Int) < ((k + 1 : Nat) : Int) := by omega
    have hq0 : (0 : Int) ≤ (q : Int) := by omega
    have hRz := (unhide HN).1.below (unhide HO)
    obtain ⟨g4, e4, hcq, _, _, _⟩ := hRz.at q hqm
    obtain rfl : g3 = g4 := by injection e4 with e4; injection e4
    have hoq := hRz.own q hqm
    rw [ints_len, unhide HAL] at hoq
    obtain ⟨pa, ca, hva, _⟩ := gr_form hoq
    rw [hva] at hcq hoq
    have hwant : wz.ownsRow w1.heap.size 3 1 (.slice p0 al c0) al (ints A) := owns_only (unhide H0).1 (Only.of_below (P := fun _ => False) ((unhide HN).2.trans ((unhide HO).mono hw3))) (fun _ _ q => q)
    have HST := hide (same18_any wz pa p0 ca c0 A A al al (unhide HAL).symm (unhide HAL).symm (by omega) (own_gls (unhide HAL) hoq) (own_gls (unhide HAL) hwant))
    rw [decide_eq_true (rfl : A = A)] at HST
    clear hRz hoq hva hwant e4
    go_wp2_with fail
    refine (unhide HST).mono ?_
    rintro e x9 ⟨rfl, hb9⟩
    have HN9 := hide (show Below w3.heap.size w3 x9 from (unhide HO).trans (hb9.mono hzs))
    clear hb9 HST hcq
    go_wp2
    go_roundw
    case rel => exact ⟨q + 1, by omega, rfl, by go_num, HN9⟩
    case measure => simp [intOf] <;> omega
  have hqm' : ¬ (q : Int) < ((k + 1 : Nat) : Int) := by omega
  have hee : (er != er) = false := by simp
  have HE := hide (show RR w2.heap.size 32 3 wz (.slice (some ⟨g3, 0, none⟩) (k + 1) c3) (k + 1) (fun i => if i = k then .slice p1 al c1 else v i) (fun _ => ints A) ∧ Below w2.heap.size w2 wz from ⟨(unhide HN).1.below (unhide HO), (unhide HN).2.trans ((unhide HO).mono hw3)⟩)
  clear HN HO hq hqm
  go_wp2
  go_roundw
  case rel => exact ⟨k + 1, _, by omega, by go_num, HE⟩
  case measure => simp [intOf] <;> omega
end Go.Proofs.Ytmnbfkehepccfaa
