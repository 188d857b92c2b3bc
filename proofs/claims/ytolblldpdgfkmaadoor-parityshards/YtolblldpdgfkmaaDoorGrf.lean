import Derived.Test.YtolblldpdgfkmaaDoorGre
import Derived.Laws.AppendOwnNone
import Derived.Laws.AppendOwn
namespace Go.Proofs.YtolblldpdgfkmaaDoor
open Go.RowKit
set_option maxRecDepth 100000
/-- numbers at a place, in blocks below B -/
def GLs (w : World) (B : Nat) (p : Option Addr) (L : List Int) : Prop := ∀ j, j < L.length → ∃ g o, p = some ⟨g, o, none⟩ ∧ g < B ∧ w.cell? ⟨g, o + j, none⟩ = some (.int .i64 (L.getD j 0))
theorem GLs.below {w w' : World} {B : Nat} {p : Option Addr} {L : List Int} (h : GLs w B p L) (hb : Below B w w') : GLs w' B p L := fun j hj => by
  obtain ⟨g, o, e, hg, hc⟩ := h j hj
  exact ⟨g, o, e, hg, (hb.cell (p := ⟨g, o + j, none⟩) hg).trans hc⟩
/-- lists of numbers at a place, they and it in blocks below B -/
def GSq (w : World) (B : Nat) (p : Option Addr) (Q : List (List Int)) : Prop := ∀ i, i < Q.length → ∃ g o q c, p = some ⟨g, o, none⟩ ∧ g < B ∧ w.cell? ⟨g, o + i, none⟩ = some (.slice q (Q.getD i []).length c) ∧ (q = none → (Q.getD i []).length = 0 ∧ c = 0) ∧ GLs w B q (Q.getD i [])
theorem GSq.below {w w' : World} {B : Nat} {p : Option Addr} {Q : List (List Int)} (h : GSq w B p Q) (hb : Below B w w') : GSq w' B p Q := fun j hj => by
  obtain ⟨g, o, q, c, e, hg, hc, h0, h1⟩ := h j hj
  exact ⟨g, o, q, c, e, hg, (hb.cell (p := ⟨g, o + j, none⟩) hg).trans hc, h0, h1.below hb⟩
theorem gl_at (L : List Int) (j : Nat) (u : Value) (h : (L.map (Value.int .i64))[j]? = some u) : j < L.length ∧ u = .int .i64 (L.getD j 0) := by
  rw [List.getElem?_map] at h
  by_cases hj : j < L.length
  · rw [List.getElem?_eq_getElem hj] at h
    refine ⟨hj, ?_⟩
    rw [List.getD_eq_getElem?_getD, List.getElem?_eq_getElem hj]
    simpa using h.symm
  · rw [List.getElem?_eq_none (by omega)] at h
    cases h
theorem gl_get (L : List Int) (j : Nat) (h : j < L.length) : (L.map (Value.int .i64))[j]? = some (.int .i64 (L.getD j 0)) := by
  rw [List.getElem?_map, List.getElem?_eq_getElem h, List.getD_eq_getElem?_getD, List.getElem?_eq_getElem h]
  rfl
theorem wpList_app_src (w : World) {ops : Array Oper} {rest : List Oper} {o : Oper} {a : Act} {Q : Exit → Act → World → Prop} (hg : o.guard = none) (s x : Operand) (hop : o.op = .call { callee := .builtin .append, args := #[s, x], argTypes := #[40, 40] }) (base : Nat) (v : Value) (n : Nat) (xs : List Value) (hs : a.eval s = v) (hown : w.ownsRow base 3 1 v n xs) (B : Nat) (p : Option Addr) (m c : Nat) (L : List Int) (hx : a.eval x = .slice p m c) (hL : L.length = m) (hp : p = none → m = 0 ∧ c = 0) (hG : GLs w B p L) (hsz : (n + m) * 8 ≤ 140737488355328) (hbase : base ≤ w.heap.size) (h : ∀ v' w', w'.ownsRow base 3 1 v' (n + m) (xs ++ L.map (Value.int .i64)) → w.grownBy w' v.ownBlock → wpList Tryd.prog ops Q rest (a.put o.dst v') w') : wpList Tryd.prog ops Q (o :: rest) a w := by
  obtain ⟨i0, hi, hz0, hz1, hz2⟩ := info_parts gr_int
  cases p with
  | none =>
    obtain ⟨rfl, rfl⟩ := hp rfl
    refine wpList_append_own_none hg s x 40 hop base 3 i0 1 Tryd.underlying40 hi v n xs hs hown hx (h v w ?_ ⟨rfl, rfl, rfl, Nat.le_refl _, fun _ _ _ => rfl⟩)
    rw [List.eq_nil_of_length_eq_zero hL]
    simpa using hown
  | some ad =>
    refine wpList_append_own w hg s x 40 hop base 3 i0 (.int .i64 0) 1 8 Tryd.underlying40 hi hz0 hz1 hz2 rfl (by decide) v n xs hs hown ad m c (L.map (Value.int .i64)) hx (by simp [hL]) (fun j u hu => ?_) (by simp [Value.oneCell']) (by unfold maxLen; omega) hsz hbase (fun v' w' h1 h2 _ => h v' w' h1 h2)
    obtain ⟨hj, rfl⟩ := gl_at L j u hu
    obtain ⟨g, o, e, _, hc⟩ := hG j hj
    cases e
    rw [Addr.add_mid]
    exact hc
theorem gr_rows : (Tryd.prog.info? 40).map (fun i => (i.zero, i.size, i.bytes)) = some (some (.slice none 0 0), 1, 24) := by kernel_rfl
theorem RR.congrV {base : Nat} {eo ei : TypeId} {w : World} {u : Value} {m : Nat} {v x : Nat → Value} {C : Nat → List Value} (h : RR base eo ei w u m v C) (hv : ∀ i, i < m → v i = x i) : RR base eo ei w u m x C :=
  ⟨by
    have e : (List.range m).map x = (List.range m).map v := List.map_congr_left (fun i hi => (hv i (List.mem_range.1 hi)).symm)
    rw [e]
    exact h.row, fun i hi => by rw [← hv i hi]; exact h.own i hi, fun i j hi hj hij y hy => by
    rw [← hv i hi] at hy
    rw [← hv j hj]
    exact h.dis i j hi hj hij y hy⟩
/-- what is asked of a square and a list -/
def slvOk (Q : List (List Int)) (L : List Int) : Prop := L.length ≤ 24 ∧ Q.length = L.length ∧ ∀ i, i < L.length → (Q.getD i []).length = L.length ∧ ∀ k, k ≤ L.length → 0 ≤ (Q.getD i [] ++ [L.getD i 0]).getD k 0 ∧ (Q.getD i [] ++ [L.getD i 0]).getD k 0 < 256
def slvA (Q : List (List Int)) (L : List Int) : Nat → Nat → G := fun i k => gN ((Q.getD i [] ++ [L.getD i 0]).getD k 0).toNat
theorem row_gV (R : List Int) (n : Nat) (hl : R.length = n + 1) (h : ∀ k, k < n + 1 → 0 ≤ R.getD k 0 ∧ R.getD k 0 < 256) : R.map (Value.int .i64) = gV (n + 1) (fun k => gN (R.getD k 0).toNat) := by
  apply List.ext_getElem?
  intro k
  by_cases hk : k < n + 1
  · rw [gV_at _ hk, gl_get R k (by omega)]
    obtain ⟨h1, h2⟩ := h k hk
    have e : (((gN (R.getD k 0).toNat).v : Nat) : Int) = R.getD k 0 := by
      show ((((R.getD k 0).toNat % 256 : Nat)) : Int) = _
      omega
    rw [e]
  · rw [List.getElem?_eq_none (by simp; omega), List.getElem?_eq_none (by rw [gV_len]; omega)]
def SolR (w : World) (Q : List (List Int)) (L : List Int) (e : Ending) (w' : World) : Prop := (slvOk Q L → SolQ w L.length (slvA Q L) e w') ∧ (¬ slvOk Q L → e = .returned (.tuple #[.slice none 0 0, .int .i64 1]) ∧ Below w.heap.size w w')
set_option maxHeartbeats 16000000 in
theorem rsolve_any (w : World) (Q : List (List Int)) (L : List Int) (B cq cl m n : Nat) (pq pl : Option Addr) (hm : Q.length = m) (hn : L.length = n) (hQ : GSq w B pq Q) (hL : GLs w B pl L) (hB : B ≤ w.heap.size) (hbd : ∀ i, i < m → (Q.getD i []).length ≤ 17592186044000) : Calls Tryd.prog 54 #[.slice pq m cq, .slice pl n cl] w (SolR w Q L) := by
  by_cases h1 : 24 < n
  · have h1' : (24 : Int) < (n : Int) := by omega
    have HE := hide (show SolR w Q L (.returned (.tuple #[.slice none 0 0, .int .i64 1])) w from ⟨fun q => absurd q.1 (by omega), fun _ => ⟨rfl, Below.refl _ _⟩⟩)
    clear hQ hL hbd
    go_enter Tryd.func54, Tryd.ntmps54
    go_wp2
    go_ret2
    exact unhide HE
  have h1' : ¬ (24 : Int) < (n : Int) := by omega
  by_cases h2 : m = n
  case neg =>
    have h2' : ((m : Int) != (n : Int)) = true := by simp; omega
    have HE := hide (show SolR w Q L (.returned (.tuple #[.slice none 0 0, .int .i64 1])) w from ⟨fun q => absurd q.2.1 (by omega), fun _ => ⟨rfl, Below.refl _ _⟩⟩)
    clear hQ hL hbd
    go_enter Tryd.func54, Tryd.ntmps54
    go_wp2
    go_ret2
    exact unhide HE
  subst h2
  have h2' : ((m : Int) != (m : Int)) = false := by simp
  obtain ⟨i0, hi, hz0, hz1, hz2⟩ := info_parts gr_int
  have HI := hide (And.intro hi (And.intro hz0 (And.intro hz1 hz2)))
  clear hi hz0 hz1 hz2
  obtain ⟨i9, hi, hz0, hz1, hz2⟩ := info_parts gr_rows
  have HJ := hide (And.intro hi (And.intro hz0 (And.intro hz1 hz2)))
  clear hi hz0 hz1 hz2
  have HS := hide (And.intro hQ (And.intro hL (And.intro hB hbd)))
  have HL := hide (And.intro hm hn)
  clear hQ hL hB hbd hm hn
  go_enter Tryd.func54, Tryd.ntmps54
  obtain ⟨n, hn⟩ : ∃ q, q = m := ⟨_, rfl⟩
  rw [← hn] at h1 h1' h2' HS HL ⊢
  clear hn m
  go_wp2_with fail
  rename_i K aK
  have hK : ∀ (wx : World) (vx : Nat → Value) (pu : Option Addr) (cu : Nat) (_ : slvOk Q L) (_ : RR w.heap.size 40 3 wx (.slice pu n cu) n vx (fun i => gV (n + 1) (slvA Q L i))) (_ : Below w.heap.size w wx) (t0 t1 t2 t3 t4 t5 t8 t9 t10 t11 t12 t13 t14 t15 t16 t17 t18 t19 t20 t21 t22 t23 t24 t25 t26 t27 t28 t29 t30 t31 t32 t33 t34 t35 t36 t37 t38 t39 t40 t41 t42 t43 t44 t45 t46 t47 t48 t49 t50 t51 t52 t53 t54 t55 t56 t57 t58 t59 t60 t61 t62 t63 t64 t65 t66 t67 t68 t69 t70 t71 t72 t73 t74 t75 t76 t77 t78 t79 t80 t81 t82 t83 t84 t85 t86 t87 t88 t89 t90 t91 t92 t93 t94 t95 t96 t97 t98 t99 t100 t101 t102 t103 t104 t105 t106 t107 t108 t109 t110 t111 t112 t113 t114 t115 t116 t117 t118 t119 t120 t121 t122 t123 t124 t125 t126 t127 t128 t129 t130 t131 t132 t133 t134 t135 t136 t137 t138 t139 t140 t141 t142 t143 t144 t145 t146 t147 t148 t149 t150 t151 t152 t153 t154 t155 t156 t157 t158 t159 t160 t161 t162 t163 t164 t165 t166 t167 t168 t169 t170 t171 t172 : Value), K ⟨#[t0, t1, t2, t3, t4, t5, .int .i64 (n : Int), .slice pu n cu, t8, t9, t10, t11, t12, t13, t14, t15, t16, t17, t18, t19, t20, t21, t22, t23, t24, t25, t26, t27, t28, t29, t30, t31, t32, t33, t34, t35, t36, t37, t38, t39, t40, t41, t42, t43, t44, t45, t46, t47, t48, t49, t50, t51, t52, t53, t54, t55, t56, t57, t58, t59, t60, t61, t62, t63, t64, t65, t66, t67, t68, t69, t70, t71, t72, t73, t74, t75, t76, t77, t78, t79, t80, t81, t82, t83, t84, t85, t86, t87, t88, t89, t90, t91, t92, t93, t94, t95, t96, t97, t98, t99, t100, t101, t102, t103, t104, t105, t106, t107, t108, t109, t110, t111, t112, t113, t114, t115, t116, t117, t118, t119, t120, t121, t122, t123, t124, t125, t126, t127, t128, t129, t130, t131, t132, t133, t134, t135, t136, t137, t138, t139, t140, t141, t142, t143, t144, t145, t146, t147, t148, t149, t150, t151, t152, t153, t154, t155, t156, t157, t158, t159, t160, t161, t162, t163, t164, t165, t166, t167, t168, t169, t170, t171, t172], []⟩ wx := fun wx vx pu cu q1 q2 q3 t0 t1 t2 t3 t4 t5 t8 t9 t10 t11 t12 t13 t14 t15 t16 t17 t18 t19 t20 t21 t22 t23 t24 t25 t26 t27 t28 t29 t30 t31 t32 t33 t34 t35 t36 t37 t38 t39 t40 t41 t42 t43 t44 t45 t46 t47 t48 t49 t50 t51 t52 t53 t54 t55 t56 t57 t58 t59 t60 t61 t62 t63 t64 t65 t66 t67 t68 t69 t70 t71 t72 t73 t74 t75 t76 t77 t78 t79 t80 t81 t82 t83 t84 t85 t86 t87 t88 t89 t90 t91 t92 t93 t94 t95 t96 t97 t98 t99 t100 t101 t102 t103 t104 t105 t106 t107 t108 t109 t110 t111 t112 t113 t114 t115 t116 t117 t118 t119 t120 t121 t122 t123 t124 t125 t126 t127 t128 t129 t130 t131 t132 t133 t134 t135 t136 t137 t138 t139 t140 t141 t142 t143 t144 t145 t146 t147 t148 t149 t150 t151 t152 t153 t154 t155 t156 t157 t158 t159 t160 t161 t162 t163 t164 t165 t166 t167 t168 t169 t170 t171 t172 => aK _ _ (slvD_walk w wx n cu pu (slvA Q L) vx (by omega) q2 q3 (SolR w Q L) (fun e w' k => ⟨fun _ => by rw [(unhide HL).2]; exact k, fun q => absurd q1 q⟩) t0 t1 t2 t3 t4 t5 t8 t9 t10 t11 t12 t13 t14 t15 t16 t17 t18 t19 t20 t21 t22 t23 t24 t25 t26 t27 t28 t29 t30 t31 t32 t33 t34 t35 t36 t37 t38 t39 t40 t41 t42 t43 t44 t45 t46 t47 t48 t49 t50 t51 t52 t53 t54 t55 t56 t57 t58 t59 t60 t61 t62 t63 t64 t65 t66 t67 t68 t69 t70 t71 t72 t73 t74 t75 t76 t77 t78 t79 t80 t81 t82 t83 t84 t85 t86 t87 t88 t89 t90 t91 t92 t93 t94 t95 t96 t97 t98 t99 t100 t101 t102 t103 t104 t105 t106 t107 t108 t109 t110 t111 t112 t113 t114 t115 t116 t117 t118 t119 t120 t121 t122 t123 t124 t125 t126 t127 t128 t129 t130 t131 t132 t133 t134 t135 t136 t137 t138 t139 t140 t141 t142 t143 t144 t145 t146 t147 t148 t149 t150 t151 t152 t153 t154 t155 t156 t157 t158 t159 t160 t161 t162 t163 t164 t165 t166 t167 t168 t169 t170 t171 t172)
  have HK := hide hK
  clear hK aK
  go_loopw [7, 8] (fun u i wx => ∃ (k : Nat) (vx : Nat → Value), k ≤ n ∧ i = .int .i64 (k : Int) ∧ Hid (RR w.heap.size 40 3 wx u k vx (fun i => gV (n + 1) (slvA Q L i)) ∧ Below w.heap.size w wx ∧ ∀ i, i < k → (Q.getD i []).length = n ∧ ∀ q, q ≤ n → 0 ≤ (Q.getD i [] ++ [L.getD i 0]).getD q 0 ∧ (Q.getD i [] ++ [L.getD i 0]).getD q 0 < 256)) (fun _ i _ => n - (intOf i).toNat)
  case atStart => exact ⟨0, fun _ => .slice none 0 0, by omega, rfl, hide ⟨RR.new _ _ _ _ _ _, Below.refl _ _, fun i hi => absurd hi (by omega)⟩⟩
  case round =>
    obtain ⟨k, vx, hk, rfl, HR⟩ := hrel
    obtain ⟨wk, rfl⟩ : ∃ q, q = wr := ⟨_, rfl⟩
    obtain ⟨pu, cu, rfl, _⟩ := gr_form (unhide HR).1.row
    by_cases hkn : k < n
    case neg =>
      obtain rfl : k = n := by omega
      have hkn' : ¬ (k : Int) < (k : Int) := by omega
      have HO := hide (show slvOk Q L from ⟨by rw [(unhide HL).2]; omega, by rw [(unhide HL).1, (unhide HL).2], fun i hi => by
        rw [(unhide HL).2] at hi ⊢
        exact (unhide HR).2.2 i hi⟩)
      go_wp2
      exact unhide HK _ vx _ _ (unhide HO) (unhide HR).1 (unhide HR).2.1 _ _ _ _ _ _ _ _ _ _ _ _ _ _ _ _ _ _ _ _ _ _ _ _ _ _ _ _ _ _ _ _ _ _ _ _ _ _ _ _ _ _ _ _ _ _ _ _ _ _ _ _ _ _ _ _ _ _ _ _ _ _ _ _ _ _ _ _ _ _ _ _ _ _ _ _ _ _ _ _ _ _ _ _ _ _ _ _ _ _ _ _ _ _ _ _ _ _ _ _ _ _ _ _ _ _ _ _ _ _ _ _ _ _ _ _ _ _ _ _ _ _ _ _ _ _ _ _ _ _ _ _ _ _ _ _ _ _ _ _ _ _ _ _ _ _ _ _ _ _ _ _ _ _ _ _ _ _ _ _ _ _ _ _ _ _ _ _ _ _ _
    have hkn' : (k : Int) < (n : Int) := by omega
    have hbw := (unhide HR).2.1
    have hbs := hbw.size
    have HSk := hide (show GSq wk B pq Q ∧ GLs wk B pl L ∧ B ≤ wk.heap.size from ⟨(unhide HS).1.below (hbw.mono (unhide HS).2.2.1), (unhide HS).2.1.below (hbw.mono (unhide HS).2.2.1), Nat.le_trans (unhide HS).2.2.1 hbs⟩)
    obtain ⟨gq, oq, qk, ck, rfl, hgq, hcq, hqn, hgl⟩ := (unhide HSk).1 k (by rw [(unhide HL).1]; exact hkn)
    obtain ⟨gl, ol, rfl, hgl2, hcl⟩ := (unhide HSk).2.1 k (by rw [(unhide HL).2]; exact hkn)
    have hmb := (unhide HS).2.2.2 k hkn
    have HRd := hide (fun k' => (unhide HR).2.2 k')
    obtain ⟨R, hR⟩ : ∃ R, Q.getD k [] = R := ⟨_, rfl⟩
    obtain ⟨x, hx⟩ : ∃ x, L.getD k 0 = x := ⟨_, rfl⟩
    rw [hR] at hcq hqn hgl hmb
    rw [hx] at hcl
    have HRX := hide (And.intro hR hx)
    obtain ⟨m, hm⟩ : ∃ q, R.length = q := ⟨_, rfl⟩
    rw [hm] at hcq hqn hmb
    have HSRC := hide (And.intro hm (And.intro hqn hgl))
    have hBk := (unhide HSk).2.2
    have hglk : gl < wk.heap.size := by omega
    clear hR hx hm hqn hgl
    go_wp2_with (refine wpList_app_src _ rfl (.tmp 35) (.tmp 39) rfl wk.heap.size (.slice none 0 0) 0 [] rfl (World.ownsRow_nil _ _ _ _) B qk m ck R rfl (unhide HSRC).1 (unhide HSRC).2.1 (unhide HSRC).2.2 (by omega) (Nat.le_refl _) ?_)
    intro v1 w1 ho1 hg1
    have hb1 : Below wk.heap.size wk w1 := (Below.refl _ wk).grown hg1 (Nat.le_refl _) (fun q hq => by cases hq)
    (try rw [Nat.zero_add, List.nil_append] at ho1)
    have hcl1 : w1.cell? ⟨gl, ol + k, none⟩ = some (.int .i64 x) := (hb1.cell (p := ⟨gl, ol + k, none⟩) hglk).trans hcl
    obtain ⟨p1, c1, rfl, _⟩ := gr_form ho1
    have HO1 := hide (show (w1.alloc (.cells #[.int .i64 x] 3)).ownsRow wk.heap.size 3 1 (.slice p1 m c1) m (R.map (Value.int .i64)) from ho1.alloc _)
    have HB1 := hide hb1
    have hb1s := hb1.size
    clear ho1 hg1 hb1 hcl hcq
    go_wp2_with (refine wpList_append_lies _ rfl (.tmp 41) (.tmp 46) 40 rfl wk.heap.size 3 i0 (.int .i64 0) 1 8 Tryd.underlying40 (unhide HI).1 (unhide HI).2.1 (unhide HI).2.2.1 (unhide HI).2.2.2 rfl (by decide) _ m (R.map (Value.int .i64)) rfl (unhide HO1) ⟨w1.heap.size, 0, none⟩ 1 1 [.int .i64 x] rfl rfl (fun q u hu => gr_new w1 3 _ q u hu) (by simp [Value.oneCell']) (by decide) (by unfold maxLen; omega) (by omega) (by simp; omega) (w1.heap.size + 1) (by simp) ?_)
    intro g2 c2 w2 ho2 hg2 _ _
    have HO2 := hide (show w2.ownsRow wk.heap.size 3 1 (.slice (some ⟨g2, 0, none⟩) (m + 1) c2) (m + 1) ((R ++ [x]).map (Value.int .i64)) from by rw [List.map_append]; exact ho2)
    have HB2 := hide (show Below wk.heap.size wk w2 from ((unhide HB1).alloc (unhide HB1).size _).grown hg2 (by simp; omega) (fun q hq => ((unhide HO1).lt q hq).1))
    clear ho2 hg2 HO1 HB1 hcl1
    by_cases hmn : m = n
    case neg =>
      have hmn' : ((m : Int) + 1 != (n : Int) + 1) = true := by simp; omega
      have hmn2 : (((m + 1 : Nat) : Int) != (n : Int) + 1) = true := by simp; omega
      have HE := hide (show SolR w Q L (.returned (.tuple #[.slice none 0 0, .int .i64 1])) w2 from ⟨fun q => absurd (q.2.2 k (by rw [(unhide HL).2]; exact hkn)).1 (by rw [(unhide HRX).1, (unhide HSRC).1, (unhide HL).2]; exact hmn), fun _ => ⟨rfl, (unhide HR).2.1.trans ((unhide HB2).mono hbs)⟩⟩)
      go_wp2
      go_ret2
      exact unhide HE
    subst hmn
    have hmn' : ((m : Int) + 1 != (m : Int) + 1) = false := by simp
    have hmn2 : (((m + 1 : Nat) : Int) != (m : Int) + 1) = false := by simp
    obtain ⟨S, hS⟩ : ∃ S, R ++ [x] = S := ⟨_, rfl⟩
    rw [hS] at HO2
    have HSS := hide (show S.length = m + 1 ∧ Q.getD k [] ++ [L.getD k 0] = S from ⟨by rw [← hS]; simp [(unhide HSRC).1], by rw [(unhide HRX).1, (unhide HRX).2, hS]⟩)
    clear hS
    go_wp2
    go_loopw [10] (fun i wx => ∃ q : Nat, q ≤ m + 1 ∧ i = .int .i64 (q : Int) ∧ Hid (∀ j, j < q → 0 ≤ S.getD j 0 ∧ S.getD j 0 < 256) ∧ wx = w2) (fun i _ => m + 1 - (intOf i).toNat)
    case atStart => exact ⟨0, by omega, rfl, hide (fun j hj => absurd hj (by omega)), rfl⟩
    case round =>
    obtain ⟨q, hq, rfl, HA, hw⟩ := hrel
    subst wr
    by_cases hqm : q ≤ m
    case pos =>
      have hqm' : (q : Int) ≤ (m : Int) := by omega
      have hqm2 : (q : Int) < ((m + 1 : Nat) : Int) := by omega
      obtain ⟨ge, ee, hce, _, _, _⟩ := gr_cell (unhide HO2) q (by omega)
      obtain rfl : ge = g2 := by injection ee with e; injection e with e; exact e.symm
      rw [gl_get S q (by rw [(unhide HSS).1]; omega)] at hce
      have HEL := hide (elem_any (S.getD q 0) w2)
      by_cases hin : 0 ≤ S.getD q 0 ∧ S.getD q 0 < 256
      case pos =>
        rw [decide_eq_true hin] at HEL
        have HA2 := hide (show ∀ j, j < q + 1 → 0 ≤ S.getD j 0 ∧ S.getD j 0 < 256 from fun j hj => by
          by_cases e : j = q
          · rw [e]; exact hin
          · exact unhide HA j (by omega))
        obtain ⟨sq, hsq⟩ : ∃ z, S.getD q 0 = z := ⟨_, rfl⟩
        rw [hsq] at hce HEL
        clear hin hsq HA
        go_wp2_with fail
        refine (unhide HEL).mono ?_
        rintro e w' ⟨rfl, hw'⟩
        subst w'
        go_wp2
        go_roundw
        case rel => exact ⟨q + 1, by omega, by go_num, HA2, by first | rfl | trivial⟩
        case measure => simp [intOf]; omega
      rw [decide_eq_false hin] at HEL
      have HE := hide (show SolR w Q L (.returned (.tuple #[.slice none 0 0, .int .i64 1])) w2 from ⟨fun z => absurd ((z.2.2 k (by rw [(unhide HL).2]; exact hkn)).2 q (by rw [(unhide HL).2]; exact hqm)) (by rw [(unhide HSS).2]; exact hin), fun _ => ⟨rfl, (unhide HR).2.1.trans ((unhide HB2).mono hbs)⟩⟩)
      obtain ⟨sq, hsq⟩ : ∃ z, S.getD q 0 = z := ⟨_, rfl⟩
      rw [hsq] at hce HEL
      clear hin hsq HA
      go_wp2_with fail
      refine (unhide HEL).mono ?_
      rintro e w' ⟨rfl, hw'⟩
      subst w'
      go_wp2
      go_ret2
      exact unhide HE
    obtain rfl : q = m + 1 := by omega
    have hqm' : ¬ ((m + 1 : Nat) : Int) ≤ (m : Int) := by omega
    have hAk := slvA Q L k
    have HD := hide (show w2.ownsRow wk.heap.size 3 1 (.slice (some ⟨g2, 0, none⟩) (m + 1) c2) (m + 1) (gV (m + 1) (slvA Q L k)) from by
      have e : gV (m + 1) (slvA Q L k) = S.map (Value.int .i64) := by
        rw [row_gV S m (unhide HSS).1 (fun j hj => unhide HA j hj), ← (unhide HSS).2]
        rfl
      rw [e]
      exact unhide HO2)
    have HR2 := hide ((((unhide HR).1.below (unhide HB2)).congrV (x := fun i => if i = k then .slice (some ⟨g2, 0, none⟩) (m + 1) c2 else vx i) (fun i hi => by rw [if_neg (by omega)])).below ((Below.refl _ w2).alloc (Nat.le_refl _) (.cells #[.slice (some ⟨g2, 0, none⟩) (m + 1) c2] 40)))
    have HRO := hide (unhide HR2).row
    have hb2s := (unhide HB2).size
    clear hAk
    go_wp2_with (refine wpList_append_lies _ rfl (.tmp 65) (.tmp 67) 86 rfl w.heap.size 40 i9 (.slice none 0 0) 1 24 Tryd.underlying86 (unhide HJ).1 (unhide HJ).2.1 (unhide HJ).2.2.1 (unhide HJ).2.2.2 rfl (by decide) _ k _ rfl (unhide HRO) ⟨w2.heap.size, 0, none⟩ 1 1 [.slice (some ⟨g2, 0, none⟩) (m + 1) c2] rfl rfl (fun q u hu => gr_new w2 40 _ q u hu) (by simp [Value.oneCell']) (by decide) (by unfold maxLen; omega) (by omega) (by simp; omega) (w2.heap.size + 1) (by simp) ?_)
    intro g3 c3 w3 ho3 hg3 _ _
    have HN := hide (show RR w.heap.size 40 3 w3 (.slice (some ⟨g3, 0, none⟩) (k + 1) c3) (k + 1) (fun i => if i = k then .slice (some ⟨g2, 0, none⟩) (m + 1) c2 else vx i) (fun i => gV (m + 1) (slvA Q L i)) ∧ Below w.heap.size w w3 ∧ ∀ i, i < k + 1 → (Q.getD i []).length = m ∧ ∀ q, q ≤ m → 0 ≤ (Q.getD i [] ++ [L.getD i 0]).getD q 0 ∧ (Q.getD i [] ++ [L.getD i 0]).getD q 0 < 256 from by
      have hwb : Below w.heap.size w w2 := (unhide HR).2.1.trans ((unhide HB2).mono hbs)
      refine ⟨(unhide HR2).push (by decide) (.slice (some ⟨g2, 0, none⟩) (m + 1) c2) (gV (m + 1) (slvA Q L k)) ?_ ?_ (by simp) rfl ho3 hg3, (hwb.alloc hwb.size _).grown hg3 (by have := hwb.size; simp; omega) (fun q hq => ((unhide HRO).lt q hq).1), fun i hi => ?_⟩
      · rw [gV_len]
        exact gr_mono ((unhide HD).alloc _) hbs
      · intro i hi y hy q
        rw [if_neg (by omega)] at hy
        have h1 := (((unhide HR).1.own i hi).lt y hy).2
        have h2 := ((unhide HD).lt y q).1
        omega
      · by_cases e : i = k
        · rw [e, (unhide HSS).2]
          refine ⟨by rw [(unhide HRX).1]; exact (unhide HSRC).1, fun q hq => unhide HA q (by omega)⟩
        · exact (unhide HRd) i (by omega))
    clear ho3 hg3 HR2 HRO HD HO2 HB2
    go_wp2
    go_roundw
    case rel => exact ⟨k + 1, _, by omega, by go_num, HN⟩
    case measure => simp [intOf]; omega
end Go.Proofs.YtolblldpdgfkmaaDoor
