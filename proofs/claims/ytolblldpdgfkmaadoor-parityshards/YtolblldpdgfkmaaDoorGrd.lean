import Derived.Test.YtolblldpdgfkmaaDoorGrw
import Derived.Deep.DeepCutAuto
namespace Go.Proofs.YtolblldpdgfkmaaDoor
open Go.RowKit
set_option maxRecDepth 100000
def dropSeq : Nat → Code → Code
  | 0, c => c
  | n + 1, .seq _ b => dropSeq n b
  | _, c => c
theorem gr_mono {w : World} {base base' : Nat} {e : TypeId} {size : Nat} {v : Value} {n : Nat} {xs : List Value} (h : w.ownsRow base e size v n xs) (hb : base' ≤ base) : w.ownsRow base' e size v n xs := by
  refine ⟨h.1, ?_⟩
  rcases h.2 with q | ⟨g, cap, cur, h1, h2, rest⟩
  · exact .inl q
  · exact .inr ⟨g, cap, cur, h1, by omega, rest⟩
noncomputable def slvE : Code := dropSeq 6 ((Tryd.f54.body).getD .skip)
set_option maxHeartbeats 4000000 in
theorem slvE_walk (w wr : World) (n cu : Nat) (pu : Option Addr) (B : Nat → Nat → G) (v : Nat → Value) (hn : n ≤ 24) (hR : RR w.heap.size 40 3 wr (.slice pu n cu) n v (fun i => gV (n + 1) (B i))) (hb : Below w.heap.size w wr) (Q : Ending → World → Prop) (hQ : ∀ x w', w'.ownsRow w.heap.size 3 1 x n (gV n (fun i => B i n)) → Below w.heap.size w w' → Q (.returned (.tuple #[x, .int .i64 0])) w') (t0 t1 t2 t3 t4 t5 t8 t9 t10 t11 t12 t13 t14 t15 t16 t17 t18 t19 t20 t21 t22 t23 t24 t25 t26 t27 t28 t29 t30 t31 t32 t33 t34 t35 t36 t37 t38 t39 t40 t41 t42 t43 t44 t45 t46 t47 t48 t49 t50 t51 t52 t53 t54 t55 t56 t57 t58 t59 t60 t61 t62 t63 t64 t65 t66 t67 t68 t69 t70 t71 t72 t73 t74 t75 t76 t77 t78 t79 t80 t81 t82 t83 t84 t85 t86 t87 t88 t89 t90 t91 t92 t93 t94 t95 t96 t97 t98 t99 t100 t101 t102 t103 t104 t105 t106 t107 t108 t109 t110 t111 t112 t113 t114 t115 t116 t117 t118 t119 t120 t121 t122 t123 t124 t125 t126 t127 t128 t129 t130 t131 t132 t133 t134 t135 t136 t137 t138 t139 t140 t141 t142 t143 t144 t145 t146 t147 t148 t149 t150 t151 t152 t153 t154 t155 t156 t157 t158 t159 t160 t161 t162 t163 t164 t165 t166 t167 t168 t169 t170 t171 t172 : Value) :
    Code.wp Tryd.prog slvE (bodyPost Tryd.prog Tryd.f54 Q) ⟨#[t0, t1, t2, t3, t4, t5, .int .i64 (n : Int), .slice pu n cu, t8, t9, t10, t11, t12, t13, t14, t15, t16, t17, t18, t19, t20, t21, t22, t23, t24, t25, t26, t27, t28, t29, t30, t31, t32, t33, t34, t35, t36, t37, t38, t39, t40, t41, t42, t43, t44, t45, t46, t47, t48, t49, t50, t51, t52, t53, t54, t55, t56, t57, t58, t59, t60, t61, t62, t63, t64, t65, t66, t67, t68, t69, t70, t71, t72, t73, t74, t75, t76, t77, t78, t79, t80, t81, t82, t83, t84, t85, t86, t87, t88, t89, t90, t91, t92, t93, t94, t95, t96, t97, t98, t99, t100, t101, t102, t103, t104, t105, t106, t107, t108, t109, t110, t111, t112, t113, t114, t115, t116, t117, t118, t119, t120, t121, t122, t123, t124, t125, t126, t127, t128, t129, t130, t131, t132, t133, t134, t135, t136, t137, t138, t139, t140, t141, t142, t143, t144, t145, t146, t147, t148, t149, t150, t151, t152, t153, t154, t155, t156, t157, t158, t159, t160, t161, t162, t163, t164, t165, t166, t167, t168, t169, t170, t171, t172], []⟩ wr := by
  conv => arg 2; whnf
  obtain ⟨i0, hi, hz0, hz1, hz2⟩ := info_parts gr_int
  have HI := hide (And.intro hi (And.intro hz0 (And.intro hz1 hz2)))
  clear hi hz0 hz1 hz2
  have HR := hide hR
  have HB := hide hb
  have hws := hb.size
  clear hR hb
  obtain ⟨w1, hw1⟩ : ∃ w1, wr = w1 := ⟨_, rfl⟩
  rw [hw1] at HR HB hws ⊢
  clear hw1 wr
  obtain ⟨S, hS⟩ : ∃ S : Nat → G, (fun i => B i n) = S := ⟨_, rfl⟩
  have HS := hide (fun i => show B i n = S i from by rw [← hS])
  rw [hS] at hQ
  have HQ := hide hQ
  clear hS hQ
  go_wp2
  go_loopw [18, 19] (fun u i wr => ∃ k : Nat, k ≤ n ∧ i = .int .i64 (k : Int) ∧ wr.ownsRow w1.heap.size 3 1 u k (gV k S) ∧ Below w1.heap.size w1 wr) (fun _ i _ => n - (intOf i).toNat)
  case atStart => exact ⟨0, by omega, rfl, World.ownsRow_nil _ _ _ _, Below.refl _ _⟩
  case round =>
    obtain ⟨k, hk, rfl, ho, hb⟩ := hrel
    obtain ⟨wi, rfl⟩ : ∃ wi, wi = wr := ⟨_, rfl⟩
    obtain ⟨pw, cw, rfl, hcw⟩ := gr_form ho
    by_cases hkn : k < n
    · have hkn' : (k : Int) < (n : Int) := by omega
      obtain ⟨gu, rfl, hc1, _, _, hg4⟩ := (unhide HR).at k hkn
      have hr1 := (unhide HR).own k hkn
      rw [gV_len] at hr1
      obtain ⟨pv, cv, hv, _⟩ := gr_form hr1
      rw [hv] at hr1 hc1
      obtain ⟨gv, rfl, hd1, _, _, hd4⟩ := gr_cell hr1 n (by omega)
      rw [gV_at _ (by omega : n < n + 1), unhide HS] at hd1
      have hcl : wi.cell? ⟨gu, k, none⟩ = some (.slice (some ⟨gv, 0, none⟩) (n + 1) cv) := (hb.cell (p := ⟨gu, k, none⟩) hg4).trans hc1
      have hdl : wi.cell? ⟨gv, n, none⟩ = some (.int .i64 ((S k).v : Int)) := (hb.cell (p := ⟨gv, n, none⟩) hd4).trans hd1
      have HO := hide (show (wi.alloc (.cells #[.int .i64 ((S k).v : Int)] 3)).ownsRow w1.heap.size 3 1 (.slice pw k cw) k (gV k S) from ho.alloc _)
      have HB1 := hide hb
      have hsz := hb.size
      obtain ⟨z, hzz⟩ : ∃ z : Nat, (S k).v = z := ⟨_, rfl⟩
      rw [hzz] at HO hdl
      have HZ := hide hzz
      have hnn : (n : Int) < ((n + 1 : Nat) : Int) := by omega
      clear ho hb hc1 hd1 hg4 hd4 hr1 hv hcw hzz
      go_wp2_with (refine wpList_append_lies _ rfl (.tmp 162) (.tmp 170) 40 rfl w1.heap.size 3 i0 (.int .i64 0) 1 8 Tryd.underlying40 (unhide HI).1 (unhide HI).2.1 (unhide HI).2.2.1 (unhide HI).2.2.2 rfl (by decide) _ k (gV k S) rfl (unhide HO) ⟨wi.heap.size, 0, none⟩ 1 1 [.int .i64 (z : Int)] rfl rfl (fun q u hu => gr_new wi 3 _ q u hu) (by simp [Value.oneCell']) (by decide) (by unfold maxLen; omega) (by omega) (by simp; omega) (wi.heap.size + 1) (by simp) ?_)
      intro g5 cap5 x5 ho5 hg5 hgg hgl
      have HN := hide (show x5.ownsRow w1.heap.size 3 1 (.slice (some ⟨g5, 0, none⟩) (k + 1) cap5) (k + 1) (gV (k + 1) S) ∧ Below w1.heap.size w1 x5 from ⟨by rw [gV_succ, unhide HZ]; exact ho5, ((unhide HB1).alloc (unhide HB1).size _).grown hg5 (by simp; omega) (fun q hq => ((unhide HO).lt q hq).1)⟩)
      clear ho5 hg5 hgg hgl HO HB1
      go_wp2
      go_roundw
      case rel => exact ⟨k + 1, by omega, by go_num, (unhide HN).1, (unhide HN).2⟩
      case measure => simp [intOf]; omega
    · obtain rfl : k = n := by omega
      have hkn' : ¬ (k : Int) < (k : Int) := by omega
      have HN := hide (show wi.ownsRow w.heap.size 3 1 (.slice pw k cw) k (gV k S) ∧ Below w.heap.size w wi from ⟨gr_mono ho hws, (unhide HB).trans (hb.mono hws)⟩)
      clear ho hb hcw
      go_wp2
      exact unhide HQ _ _ (unhide HN).1 (unhide HN).2
end Go.Proofs.YtolblldpdgfkmaaDoor
