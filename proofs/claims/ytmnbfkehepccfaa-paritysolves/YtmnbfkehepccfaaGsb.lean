import Derived.Test.YtmnbfkehepccfaaGly
import Derived.Test.YtmnbfkehepccfaaGrd
import Derived.Deep.AppendLies
namespace Go.Proofs.Ytmnbfkehepccfaa
open Go.RowKit
set_option maxRecDepth 100000
theorem form3 {w : World} {base : Nat} {e : TypeId} {v : Value} {n : Nat} {xs : List Value} (h : w.ownsRow base e 1 v n xs) (hn : 0 < n) : ∃ g cap, v = .slice (some ⟨g, 0, none⟩) n cap ∧ n ≤ cap := by
  rcases h.2 with ⟨_, h0⟩ | ⟨g, cap, cur, h1, hb, hg, hnc, hc, hs, hx⟩
  · omega
  · exact ⟨g, cap, h1, hnc⟩
/-- The first rows are marked. -/
def MI (mm : Nat) (N : Nat → Nat) (C : Nat → List Value) (i j : Nat) : Prop := ∀ k, k < mm → (C k).length = N k ∧ ∀ a, a < N k → (k < i ∨ (k = i ∧ a < j)) → (C k)[a]? = some (.int .i64 (-9 - (k : Int)))
theorem MI.step {mm : Nat} {N : Nat → Nat} {C : Nat → List Value} {i j : Nat} (h : MI mm N C i j) (hi : i < mm) (hj : j < N i) : MI mm N (fun k => if k = i then (C i).set j (.int .i64 (-9 - (i : Int))) else C k) i (j + 1) := fun k hk => by
  obtain ⟨h1, h2⟩ := h k hk
  by_cases e : k = i
  · subst e
    simp only [if_true, List.length_set]
    refine ⟨h1, fun a ha hor => ?_⟩
    rw [List.getElem?_set]
    by_cases q : j = a
    · rw [if_pos q, if_pos (by omega)]
    · rw [if_neg q]
      exact h2 a ha (.inr ⟨rfl, by omega⟩)
  · simp only [if_neg e]
    exact ⟨h1, fun a ha hor => h2 a ha (by omega)⟩
theorem MI.next {mm : Nat} {N : Nat → Nat} {C : Nat → List Value} {i : Nat} (h : MI mm N C i (N i)) : MI mm N C (i + 1) 0 := fun k hk => by
  obtain ⟨h1, h2⟩ := h k hk
  refine ⟨h1, fun a ha hor => ?_⟩
  by_cases e : k = i
  · subst e
    exact h2 a ha (.inr ⟨rfl, ha⟩)
  · exact h2 a ha (by omega)
/-- The first rows are grown. -/
def GI (mm : Nat) (N : Nat → Nat) (C : Nat → List Value) (i j : Nat) : Prop := ∀ k, k < mm → (C k).length = N k + (if k < i then 64 else if k = i then j else 0) ∧ ∀ a, a < (C k).length → (C k)[a]? = some (.int .i64 (-9 - (k : Int)))
theorem GI.start {mm : Nat} {N : Nat → Nat} {C : Nat → List Value} (h : MI mm N C mm 0) : GI mm N C 0 0 := fun k hk => by
  obtain ⟨h1, h2⟩ := h k hk
  refine ⟨by rw [h1, if_neg (by omega)]; split <;> rfl, fun a ha => h2 a (by omega) (.inl (by omega))⟩
theorem GI.step {mm : Nat} {N : Nat → Nat} {C : Nat → List Value} {i j : Nat} (h : GI mm N C i j) (hi : i < mm) : GI mm N (fun k => if k = i then C i ++ [.int .i64 (-9 - (i : Int))] else C k) i (j + 1) := fun k hk => by
  obtain ⟨h1, h2⟩ := h k hk
  by_cases e : k = i
  · subst e
    rw [if_neg (by omega), if_pos rfl] at h1
    simp only [if_true, List.length_append, List.length_singleton]
    refine ⟨by rw [if_neg (by omega)]; omega, fun a ha => ?_⟩
    by_cases q : a < (C k).length
    · rw [List.getElem?_append_left q]; exact h2 a q
    · rw [List.getElem?_append_right (by omega), show a - (C k).length = 0 by omega]
      rfl
  · simp only [if_neg e]
    exact ⟨by simpa [e] using h1, h2⟩
theorem GI.next {mm : Nat} {N : Nat → Nat} {C : Nat → List Value} {i : Nat} (h : GI mm N C i 64) : GI mm N C (i + 1) 0 := fun k hk => by
  obtain ⟨h1, h2⟩ := h k hk
  refine ⟨?_, h2⟩
  rw [h1]
  by_cases e : k = i
  · subst e
    rw [if_neg (by omega), if_pos rfl, if_pos (by omega)]
  · by_cases q : k < i
    · rw [if_pos q, if_pos (by omega)]
    · rw [if_neg q, if_neg e, if_neg (by omega)]
      split <;> rfl

noncomputable def solD : Code := dropSeq 5 ((Try.f7.body).getD .skip)
set_option maxHeartbeats 16000000 in
theorem solD_walk (w0 : World) (b0 mm gu cv : Nat) (v : Nat → Value) (C0 : Nat → List Value) (NF : Nat → Nat) (hmm : mm ≤ 200) (hb0 : b0 ≤ w0.heap.size) (hR0 : RR b0 32 3 w0 (.slice (some ⟨gu, 0, none⟩) mm cv) mm v C0) (hC0 : ∀ k, k < mm → (C0 k).length = NF k) (hNF : ∀ k, NF k ≤ 24) (Q : Ending → World → Prop) (hQ : ∀ w', Below b0 w0 w' → Q (.returned (.bool true)) w') (t0 t1 t2 t3 t4 t6 t7 t9 t10 t11 t12 t13 t14 t15 t16 t17 t18 t19 t20 t21 t22 t23 t24 t25 t26 t27 t28 t29 t30 t31 t32 t33 t34 t35 t36 t37 t38 t39 t40 t41 t42 t43 t44 t45 t46 t47 t48 t49 t50 t51 t52 t53 t54 t55 t56 t57 t58 t59 t60 t61 t62 t63 t64 t65 t66 t67 t68 t69 t70 t71 t72 t73 t74 t75 t76 t77 t78 t79 t80 t81 t82 t83 t84 t85 t86 t87 t88 t89 t90 t91 t92 t93 t94 t95 t96 t97 t98 t99 t100 t101 t102 t103 t104 t105 t106 t107 t108 t109 t110 t111 t112 t113 t114 t115 t116 t117 t118 t119 t120 t121 t122 t123 t124 t125 t126 t127 t128 t129 t130 t131 t132 t133 t134 t135 t136 t137 t138 t139 t140 t141 t142 t143 t144 t145 t146 t147 t148 t149 t150 t151 t152 t153 t154 t155 t156 t157 t158 t159 t160 t161 t162 t163 t164 t165 t166 t167 t168 t169 t170 t171 t172 t173 t174 t175 t176 t177 : Value) :
    Code.wp Try.prog solD (bodyPost Try.prog Try.f7 Q) ⟨#[t0, t1, t2, t3, t4, .bool true, t6, t7, .slice (some ⟨gu, 0, none⟩) mm cv, t9, t10, t11, t12, t13, t14, t15, t16, t17, t18, t19, t20, t21, t22, t23, t24, t25, t26, t27, t28, t29, t30, t31, t32, t33, t34, t35, t36, t37, t38, t39, t40, t41, t42, t43, t44, t45, t46, t47, t48, t49, t50, t51, t52, t53, t54, t55, t56, t57, t58, t59, t60, t61, t62, t63, t64, t65, t66, t67, t68, t69, t70, t71, t72, t73, t74, t75, t76, t77, t78, t79, t80, t81, t82, t83, t84, t85, t86, t87, t88, t89, t90, t91, t92, t93, t94, t95, t96, t97, t98, t99, t100, t101, t102, t103, t104, t105, t106, t107, t108, t109, t110, t111, t112, t113, t114, t115, t116, t117, t118, t119, t120, t121, t122, t123, t124, t125, t126, t127, t128, t129, t130, t131, t132, t133, t134, t135, t136, t137, t138, t139, t140, t141, t142, t143, t144, t145, t146, t147, t148, t149, t150, t151, t152, t153, t154, t155, t156, t157, t158, t159, t160, t161, t162, t163, t164, t165, t166, t167, t168, t169, t170, t171, t172, t173, t174, t175, t176, t177], []⟩ w0 := by
  conv => arg 2; whnf
  have HNF := hide hNF
  have HQ := hide hQ
  clear hNF hQ
  have X2 := hide (show ∃ C, RR b0 32 3 w0 (.slice (some ⟨gu, 0, none⟩) mm cv) mm v C ∧ MI mm NF C 0 0 ∧ Below b0 w0 w0 from ⟨C0, hR0, fun k hk => ⟨hC0 k hk, fun a ha hor => absurd hor (by omega)⟩, Below.refl _ _⟩)
  clear hR0 hC0
  go_wp2
  go_loopw [20, 21] (fun i _ wr => ∃ k : Nat, k ≤ mm ∧ i = .int .i64 (k : Int) ∧ ∃ C, RR b0 32 3 wr (.slice (some ⟨gu, 0, none⟩) mm cv) mm v C ∧ MI mm NF C k 0 ∧ Below b0 w0 wr) (fun i _ _ => mm - (intOf i).toNat)
  case atStart => exact ⟨0, by omega, rfl, unhide X2⟩
  case round =>
  obtain ⟨k, hk, rfl, hI⟩ := hrel
  obtain ⟨wo, rfl⟩ : ∃ wo, wo = wr := ⟨_, rfl⟩
  clear X2
  have X3 := hide hI
  clear hI
  by_cases hkn : k < mm
  · have hkn' : (k : Int) < (mm : Int) := by omega
    have hk0 : (0 : Int) ≤ (k : Int) := by omega
    obtain ⟨NN, hNN⟩ : ∃ r, (NF k) = r := ⟨_, rfl⟩
    have hN4 : NN ≤ 24 := by rw [← hNN]; exact unhide HNF k
    have HNN := hide hNN
    clear hNN
    go_wp2
    go_loopw [21] (fun jv wr => ∃ j : Nat, j ≤ NN ∧ jv = .int .i64 (j : Int) ∧ ∃ C, RR b0 32 3 wr (.slice (some ⟨gu, 0, none⟩) mm cv) mm v C ∧ MI mm NF C k j ∧ Below b0 w0 wr) (fun jv _ => NN - (intOf jv).toNat)
    case atStart => exact ⟨0, by omega, rfl, unhide X3⟩
    case round =>
    obtain ⟨j, hj, rfl, C, hRR, hMk, hB⟩ := hrel
    obtain ⟨wi, rfl⟩ : ∃ wi, wi = wr := ⟨_, rfl⟩
    clear X3
    have hCk : (C k).length = NN := (hMk k hkn).1.trans (unhide HNN)
    obtain ⟨pk, c', hvk, _⟩ := gr_form (hRR.own k hkn)
    rw [hCk] at hvk
    have clk : wi.cell? ⟨gu, k, none⟩ = some (v k) := by
      rw [(own_at hRR.row rfl k hkn).1]; simp [hkn]
    rw [hvk] at clk
    by_cases hjn : j < NN
    · have hjn' : (j : Int) < (NN : Int) := by omega
      have hj0 : (0 : Int) ≤ (j : Int) := by omega
      obtain ⟨g, cap2, hv2, _⟩ := form3 (hRR.own k hkn) (by omega)
      rw [hvk] at hv2
      injection hv2 with f4 f5 f6
      subst f4 f6
      have hat := own_at (hRR.own k hkn) (show (v k).ownBlock = some g from by rw [hvk]; rfl) j (by omega)
      have fj := hat.2
      obtain ⟨cj, hcj⟩ : ∃ r, (C k)[j]? = some r := ⟨_, List.getElem?_eq_getElem (by omega)⟩
      have cjc : wi.cell? ⟨g, j, none⟩ = some cj := hat.1.trans hcj
      have hwr : IntKind.wrap .i64 (-9 - (k : Int)) = -9 - (k : Int) := wrapI_eq _ (by omega) (by omega)
      have hset := hRR.set (by decide) k hkn g c' (by rw [hvk, hCk]) j (.int .i64 (-9 - (k : Int)))
      have HRR := hide (show ∃ C, RR b0 32 3 (wi.setCell ⟨g, j, none⟩ (.int .i64 (-9 - (k : Int)))) (.slice (some ⟨gu, 0, none⟩) mm cv) mm v C ∧ MI mm NF C k (j + 1) ∧ Below b0 w0 (wi.setCell ⟨g, j, none⟩ (.int .i64 (-9 - (k : Int)))) from ⟨_, hset.1, hMk.step hkn (by rw [unhide HNN]; exact hjn), hB.grown hset.2 (Nat.le_trans hb0 hB.size) (fun r hr => by
            injection hr with hr
            rw [← hr]
            exact ((hRR.own k hkn).lt g (by rw [hvk]; rfl)).1)⟩)
      clear hRR hMk hB hCk hvk hat hcj hset f5
      go_wp2
      go_roundw
      case rel => exact ⟨j + 1, by omega, by go_num, unhide HRR⟩
      case measure => simp [intOf] <;> omega
    have hjn' : ¬ (j : Int) < (NN : Int) := by omega
    have HRR := hide (show ∃ C, RR b0 32 3 wi (.slice (some ⟨gu, 0, none⟩) mm cv) mm v C ∧ MI mm NF C (k + 1) 0 ∧ Below b0 w0 wi from ⟨C, hRR, MI.next (by show MI mm NF C k (NF k); rw [unhide HNN, show NN = j by omega]; exact hMk), hB⟩)
    clear hRR hMk hB hCk hvk
    go_wp2
    go_roundw
    case rel => exact ⟨k + 1, by omega, by go_num, unhide HRR⟩
    case measure => simp [intOf] <;> omega
  have hkn' : ¬ (k : Int) < (mm : Int) := by omega
  have hke : k = mm := by omega
  have X4 := hide (show ∃ v C, RR b0 32 3 wo (.slice (some ⟨gu, 0, none⟩) mm cv) mm v C ∧ GI mm NF C 0 0 ∧ Below b0 w0 wo from by
    obtain ⟨C, c1, c2, c3⟩ := unhide X3
    rw [hke] at c2
    exact ⟨v, C, c1, GI.start c2, c3⟩)
  clear hke hkn X3
  go_wp2
  clear hkn'
  go_loopw [22, 23] (fun i _ wr => ∃ k : Nat, k ≤ mm ∧ i = .int .i64 (k : Int) ∧ ∃ v C, RR b0 32 3 wr (.slice (some ⟨gu, 0, none⟩) mm cv) mm v C ∧ GI mm NF C k 0 ∧ Below b0 w0 wr) (fun i _ _ => mm - (intOf i).toNat)
  case atStart => exact ⟨0, by omega, rfl, unhide X4⟩
  case round =>
  obtain ⟨k, hk, rfl, hI⟩ := hrel
  obtain ⟨wo, rfl⟩ : ∃ wo, wo = wr := ⟨_, rfl⟩
  clear X4
  have X5 := hide hI
  clear hI
  by_cases hkn : k < mm
  · have hkn' : (k : Int) < (mm : Int) := by omega
    have hk0 : (0 : Int) ≤ (k : Int) := by omega
    obtain ⟨NN, hNN⟩ : ∃ r, (NF k) = r := ⟨_, rfl⟩
    have hN4 : NN ≤ 24 := by rw [← hNN]; exact unhide HNF k
    have HNN := hide hNN
    clear hNN
    go_wp2
    go_loopw [23] (fun jv wr => ∃ j : Nat, j ≤ 64 ∧ jv = .int .i64 (j : Int) ∧ ∃ v C, RR b0 32 3 wr (.slice (some ⟨gu, 0, none⟩) mm cv) mm v C ∧ GI mm NF C k j ∧ Below b0 w0 wr) (fun jv _ => 64 - (intOf jv).toNat)
    case atStart => exact ⟨0, by omega, rfl, unhide X5⟩
    case round =>
    obtain ⟨j, hj, rfl, v', C, hRR, hGw, hB⟩ := hrel
    obtain ⟨wi, rfl⟩ : ∃ wi, wi = wr := ⟨_, rfl⟩
    clear X5
    by_cases hjn : j < 64
    · have hjn' : (j : Int) < 64 := by omega
      have hCk : (C k).length = NN + j := by
        have := (hGw k hkn).1
        rw [if_neg (by omega), if_pos rfl] at this
        rw [← unhide HNN]; exact this
      obtain ⟨pk, c', hvk, _⟩ := gr_form (hRR.own k hkn)
      have clk : wi.cell? ⟨gu, k, none⟩ = some (v' k) := by
        rw [(own_at hRR.row rfl k hkn).1]; simp [hkn]
      rw [hvk, hCk] at clk
      obtain ⟨ln, hln⟩ : ∃ r, NN + j = r := ⟨_, rfl⟩
      rw [hln] at clk hCk
      have hl100 : ln ≤ 100 := by omega
      have hwr : IntKind.wrap .i64 (-9 - (k : Int)) = -9 - (k : Int) := wrapI_eq _ (by omega) (by omega)
      obtain ⟨mk, hmk⟩ : ∃ r, -9 - (k : Int) = r := ⟨_, rfl⟩
      rw [hmk] at hwr
      have HMK := hide hmk
      have HBA := hide (show Below wi.heap.size wi (wi.alloc (.cells #[.int .i64 mk] 3)) from (Below.refl _ wi).alloc (Nat.le_refl _) _)
      have hRR2 := hRR.below (unhide HBA)
      have hB2 := hB.trans ((unhide HBA).mono (Nat.le_trans hb0 hB.size))
      have hown := hRR2.own k hkn
      rw [hvk, hCk] at hown
      have HOW := hide hown
      have HNW := hide (gr_new wi 3 (.int .i64 mk))
      have HGR := hide (show ∀ (g5 cap5 : Nat) (x5 : World), x5.ownsRow b0 3 1 (.slice (some ⟨g5, 0, none⟩) (ln + 1) cap5) (ln + 1) (C k ++ [.int .i64 mk]) → (wi.alloc (.cells #[.int .i64 mk] 3)).grownBy x5 (Value.slice pk ln c').ownBlock → ((Value.slice pk ln c').ownBlock = some g5 ∨ g5 = wi.heap.size + 1) → (∃ v C, RR b0 32 3 (x5.setCell ⟨gu, k, none⟩ (.slice (some ⟨g5, 0, none⟩) (ln + 1) cap5)) (.slice (some ⟨gu, 0, none⟩) mm cv) mm v C ∧ GI mm NF C k (j + 1) ∧ Below b0 w0 (x5.setCell ⟨gu, k, none⟩ (.slice (some ⟨g5, 0, none⟩) (ln + 1) cap5))) ∧ x5.cell? ⟨gu, k, none⟩ = some (.slice pk ln c') ∧ x5.frozen? ⟨gu, k, none⟩ = false from by
        intro g5 cap5 x5 ho5 hg5 hgg
        have hvk' : v' k = .slice pk ln c' := by rw [hvk, hCk]
        have hbl : (v' k).ownBlock = (Value.slice pk ln c').ownBlock := by rw [hvk']
        have hDl : (C k ++ [Value.int .i64 mk]).length = ln + 1 := by rw [List.length_append, hCk]; rfl
        have hgr := hRR2.grow (by decide) k hkn gu cv rfl (C k ++ [.int .i64 mk]) g5 cap5 (by rw [hDl]; exact ho5) (by rw [hbl]; exact hg5) (by
          rw [hbl]
          rcases hgg with r | r
          · exact .inl r
          · exact .inr (by rw [r]; simp))
        rw [hDl] at hgr
        have hrow : x5.ownsRow b0 32 1 (.slice (some ⟨gu, 0, none⟩) mm cv) mm ((List.range mm).map v') := hRR2.row.kept hg5 (.inr (fun e => own_types (hRR2.own k hkn) hRR2.row (by decide) gu (by rw [hbl, ← e]; rfl) rfl))
        have hat := own_at hrow rfl k hkn
        refine ⟨⟨_, _, hgr, ?_, ?_⟩, ?_, hat.2⟩
        · have := hGw.step hkn
          rw [unhide HMK] at this
          exact this
        · have hb5 := hB2.grown hg5 (Nat.le_trans hb0 hB2.size) (fun r hr => (hown.lt r hr).1)
          exact hb5.setCell (hRR2.row.lt gu rfl).1 _
        · rw [hat.1, ← hvk']; simp [hkn])
      have HBS := hide (Nat.le_trans hb0 hB2.size)
      clear hRR hGw hB hCk hvk hRR2 hB2 hown hln
      obtain ⟨j0, hji, hjz0, hjz1, hjz2⟩ := info_parts gr_int
      have HJN := hide (And.intro hji (And.intro hjz0 (And.intro hjz1 hjz2)))
      clear hji hjz0 hjz1 hjz2
      go_wp2_with (refine wpList_append_lies _ rfl (.tmp 146) (.tmp 149) 32 rfl b0 3 j0 (.int .i64 0) 1 8 Try.underlying32 (unhide HJN).1 (unhide HJN).2.1 (unhide HJN).2.2.1 (unhide HJN).2.2.2 rfl (by decide) _ ln (C k) rfl (unhide HOW) ⟨wi.heap.size, 0, none⟩ 1 1 [.int .i64 mk] rfl rfl (unhide HNW) (by simp [Value.oneCell']) (by decide) (by unfold maxLen; omega) (by omega) (unhide HBS) (wi.heap.size + 1) (by simp) ?_)
      intro g5 cap5 x5 ho5 hg5 hgg hgl5
      obtain ⟨hnew, cl5, fl5⟩ := unhide HGR g5 cap5 x5 ho5 hg5 hgg
      have HRR := hide hnew
      clear ho5 hg5 hgg hgl5 hnew clk
      go_wp2
      go_roundw
      case rel => exact ⟨j + 1, by omega, by go_num, unhide HRR⟩
      case measure => simp [intOf] <;> omega
    have hjn' : ¬ (j : Int) < 64 := by omega
    have HRR := hide (show ∃ v C, RR b0 32 3 wi (.slice (some ⟨gu, 0, none⟩) mm cv) mm v C ∧ GI mm NF C (k + 1) 0 ∧ Below b0 w0 wi from ⟨v', C, hRR, GI.next (by rw [show 64 = j by omega]; exact hGw), hB⟩)
    clear hRR hGw hB
    go_wp2
    go_roundw
    case rel => exact ⟨k + 1, by omega, by go_num, unhide HRR⟩
    case measure => simp [intOf] <;> omega
  have hkn' : ¬ (k : Int) < (mm : Int) := by omega
  have hke : k = mm := by omega
  have X6 := hide (show ∃ v C, RR b0 32 3 wo (.slice (some ⟨gu, 0, none⟩) mm cv) mm v C ∧ GI mm NF C mm 0 ∧ Below b0 w0 wo from by
    obtain ⟨v, C, c1, c2, c3⟩ := unhide X5
    rw [hke] at c2
    exact ⟨v, C, c1, c2, c3⟩)
  clear hke hkn X5
  go_wp2
  clear hkn'
  obtain ⟨vv, CC, hRR0, hGw0, hB0'⟩ := unhide X6
  have HGW := hide hGw0
  have X7 := hide (show RR b0 32 3 wo (.slice (some ⟨gu, 0, none⟩) mm cv) mm vv CC ∧ Below b0 w0 wo from ⟨hRR0, hB0'⟩)
  clear hRR0 hGw0 hB0' X6
  go_loopw [24, 25] (fun i _ wr => ∃ k : Nat, k ≤ mm ∧ i = .int .i64 (k : Int) ∧ RR b0 32 3 wr (.slice (some ⟨gu, 0, none⟩) mm cv) mm vv CC ∧ Below b0 w0 wr) (fun i _ _ => mm - (intOf i).toNat)
  case atStart => exact ⟨0, by omega, rfl, unhide X7⟩
  case round =>
  obtain ⟨k, hk, rfl, hRR, hB⟩ := hrel
  obtain ⟨wo, rfl⟩ : ∃ wo, wo = wr := ⟨_, rfl⟩
  clear X7
  have X8 := hide (And.intro hRR hB)
  by_cases hkn : k < mm
  · have hkn' : (k : Int) < (mm : Int) := by omega
    have hk0 : (0 : Int) ≤ (k : Int) := by omega
    obtain ⟨ln, hln⟩ : ∃ r, (CC k).length = r := ⟨_, rfl⟩
    have hl100 : ln ≤ 1000 := by
      have h1 := (unhide HGW k hkn).1
      have h2 := unhide HNF k
      rw [if_pos hkn] at h1
      omega
    have HLN := hide hln
    clear hRR hB hln
    go_wp2
    go_loopw [25] (fun jv wr => ∃ j : Nat, j ≤ ln ∧ jv = .int .i64 (j : Int) ∧ RR b0 32 3 wr (.slice (some ⟨gu, 0, none⟩) mm cv) mm vv CC ∧ Below b0 w0 wr) (fun jv _ => ln - (intOf jv).toNat)
    case atStart => exact ⟨0, by omega, rfl, unhide X8⟩
    case round =>
    obtain ⟨j, hj, rfl, hRR, hB⟩ := hrel
    obtain ⟨wi, rfl⟩ : ∃ wi, wi = wr := ⟨_, rfl⟩
    clear X8
    obtain ⟨pk, c', hvk, _⟩ := gr_form (hRR.own k hkn)
    have clk : wi.cell? ⟨gu, k, none⟩ = some (vv k) := by
      rw [(own_at hRR.row rfl k hkn).1]; simp [hkn]
    rw [hvk, unhide HLN] at clk
    by_cases hjn : j < ln
    · have hjn' : (j : Int) < (ln : Int) := by omega
      have hj0 : (0 : Int) ≤ (j : Int) := by omega
      obtain ⟨g, cap2, hv2, _⟩ := form3 (hRR.own k hkn) (by rw [unhide HLN]; omega)
      rw [hvk] at hv2
      injection hv2 with f4 f5 f6
      subst f4 f6
      have hwr : IntKind.wrap .i64 (-9 - (k : Int)) = -9 - (k : Int) := wrapI_eq _ (by omega) (by omega)
      have cjc : wi.cell? ⟨g, j, none⟩ = some (.int .i64 (-9 - (k : Int))) := by
        rw [(own_at (hRR.own k hkn) (show (vv k).ownBlock = some g from by rw [hvk]; rfl) j (by rw [unhide HLN]; exact hjn)).1, (unhide HGW k hkn).2 j (by rw [unhide HLN]; exact hjn)]
      obtain ⟨mk, hmk⟩ : ∃ r, -9 - (k : Int) = r := ⟨_, rfl⟩
      rw [hmk] at cjc hwr
      have hq : (mk != mk) = false := by simp
      have HRR := hide (And.intro hRR hB)
      clear hRR hB hvk f5
      go_wp2
      go_roundw
      case rel => exact ⟨j + 1, by omega, by go_num, (unhide HRR).1, (unhide HRR).2⟩
      case measure => simp [intOf] <;> omega
    have hjn' : ¬ (j : Int) < (ln : Int) := by omega
    have HRR := hide (And.intro hRR hB)
    clear hRR hB hvk
    go_wp2
    go_roundw
    case rel => exact ⟨k + 1, by omega, by go_num, (unhide HRR).1, (unhide HRR).2⟩
    case measure => simp [intOf] <;> omega
  have hkn' : ¬ (k : Int) < (mm : Int) := by omega
  have HF := hide (unhide HQ _ hB)
  clear hRR hB X8
  go_wp2
  exact unhide HF
end Go.Proofs.Ytmnbfkehepccfaa
