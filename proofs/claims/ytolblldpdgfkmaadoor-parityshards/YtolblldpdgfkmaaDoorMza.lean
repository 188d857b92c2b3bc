import Derived.Test.YtolblldpdgfkmaaDoorGrf
import Derived.Test.YtolblldpdgfkmaaDoorGff
import Derived.Test.YtolblldpdgfkmaaDoorGpo
import Derived.Test.YtolblldpdgfkmaaDoorGpj
import Derived.Test.YtolblldpdgfkmaaDoorGld
import Derived.Deep.AppendLies
import Derived.Laws.OwnMore
import Derived.StillTailTactics
namespace Go.Proofs.YtolblldpdgfkmaaDoor
/-- The columns: what each of the first ones gives to the shards of data. -/
theorem found_eq {n : Nat} {f : Nat → Nat} (hf : Fst n f) (c : Nat → Nat → G) (hc : ∀ r, r < n → ∀ i, i < n → rK n (c r) (wt n (f i)) = if i = r then g1 else g0) (D y : Nat → G) (hy : ∀ r, r < n → rK n y (wt n (f r)) = D r) : ∀ i, i < n → sm (fun r => c r i * D r) (List.range n) = y i := by
  refine rows_same hf.n2 f hf.lt hf.inj (fun i => sm (fun r => c r i * D r) (List.range n)) y (fun s hs => ?_)
  rw [hy s hs]
  have e1 : rK n (fun i => sm (fun r => c r i * D r) (List.range n)) (wt n (f s)) = sm (fun j => sm (fun r => wt n (f s) j * (c r j * D r)) (List.range n)) (List.range n) := by
    unfold rK
    exact sm_congr (fun j _ => (sm_mul_left _ _ _).symm)
  rw [e1, sm_swap]
  have e2 : sm (fun r => sm (fun j => wt n (f s) j * (c r j * D r)) (List.range n)) (List.range n) = sm (fun r => if r = s then D s else g0) (List.range n) := by
    refine sm_congr (fun r hr => ?_)
    have hr' := List.mem_range.1 hr
    have e3 : sm (fun j => wt n (f s) j * (c r j * D r)) (List.range n) = rK n (c r) (wt n (f s)) * D r := by
      unfold rK
      rw [← sm_mul]
      exact sm_congr (fun j _ => (gmul_assoc _ _ _).symm)
    rw [e3, hc r hr' s hs]
    by_cases e : r = s
    · rw [if_pos e, if_pos e.symm, gone_mul, e]
    · rw [if_neg e, if_neg (fun q => e q.symm), gzero_mul]
  rw [e2, sm_one n s hs]
/-- What is solved of a square of first ones and a unit list. -/
theorem unit_ga {n r : Nat} {f : Nat → Nat} (hf : Fst n f) {A B : Nat → Nat → G} {ok : Bool} (h : Ga n 0 A ok B) (hA : ∀ i, i < n → ∀ k, k < n → A i k = wt n (f i) k) (hu : ∀ i, i < n → A i n = if i = r then g1 else g0) : ok = true ∧ ∀ i, i < n → rK n (fun i => B i n) (wt n (f i)) = if i = r then g1 else g0 := by
  have hK : ∀ (x : Nat → G) i, i < n → rK n x (A i) = rK n x (wt n (f i)) := fun x i hi => by
    unfold rK
    exact sm_congr (fun j hj => by rw [hA i hi j (List.mem_range.1 hj)])
  have hok : ok = true := by
    cases hk : ok with
    | true => rfl
    | false =>
      obtain ⟨y, ⟨j, hj, hy⟩, hz⟩ := (h.sol (un_zero n A)).2 hk
      exact absurd (rows_inj hf.n2 f hf.lt hf.inj y (fun i hi => by rw [← hK y i hi]; exact hz i hi) j hj) hy
  subst hok
  refine ⟨rfl, fun i hi => ?_⟩
  have h1 := (h.one (fun i => B i n)).2 (fun _ _ => rfl) i hi
  have h2 : rK n (fun i => B i n) (A i) + A i n = g0 := h1
  rw [hK _ i hi, hu i hi] at h2
  exact gadd_eq_zero h2
end Go.Proofs.YtolblldpdgfkmaaDoor
namespace Go.Proofs.YtolblldpdgfkmaaDoor
open Go.RowKit
set_option maxRecDepth 100000
noncomputable def fndE : Code := dropSeq 6 ((Tryd.f38.body).getD .skip)
set_option maxHeartbeats 4000000 in
theorem fndE_walk (w0 : World) (b1 n go len : Nat) (v : Nat → Value) (Y : Nat → Nat → G) (hn2 : n ≤ 16) (hl1 : 1 ≤ len) (hR : RR b1 51 5 w0 (.slice (some ⟨go, 0, none⟩) n n) n v (fun i => gW len (Y i))) (Q : Ending → World → Prop) (hQ : ∀ x w', w'.ownsRow w0.heap.size 9 1 x n (((List.range n).map (fun i => strOfNums (gL len (Y i)))).map Value.string) → Below w0.heap.size w0 w' → Q (.returned x) w') (t0 t2 t3 t4 t5 t6 t7 t8 t9 t10 t11 t13 t14 t15 t16 t17 t18 t19 t20 t21 t22 t23 t24 t25 t26 t27 t28 t29 t30 t31 t32 t33 t34 t35 t36 t37 t38 t39 t40 t41 t42 t43 t44 t45 t46 t47 t48 t49 t50 t51 t52 t53 t54 t55 t56 t57 t58 t59 t60 t61 t62 t63 t64 t65 t66 t67 t68 t69 t70 t71 t72 t73 t74 t75 t76 t77 t78 t79 t80 t81 t82 t83 t84 t85 t86 t87 t88 t89 t90 t91 t92 t93 t94 t95 t96 t97 t98 t99 t100 t101 t102 t103 t104 t105 t106 t107 t108 t109 t110 t111 t112 t113 t114 t115 t116 t117 t118 t119 t120 t121 t122 t123 t124 t125 t126 t127 t128 t129 t130 t131 t132 t133 t134 t135 t136 t137 t138 t139 t140 t141 t142 t143 t144 t145 t146 t147 : Value) :
    Code.wp Tryd.prog fndE (bodyPost Tryd.prog Tryd.f38 Q) ⟨#[t0, .int .i64 (n : Int), t2, t3, t4, t5, t6, t7, t8, t9, t10, t11, .slice (some ⟨go, 0, none⟩) n n, t13, t14, t15, t16, t17, t18, t19, t20, t21, t22, t23, t24, t25, t26, t27, t28, t29, t30, t31, t32, t33, t34, t35, t36, t37, t38, t39, t40, t41, t42, t43, t44, t45, t46, t47, t48, t49, t50, t51, t52, t53, t54, t55, t56, t57, t58, t59, t60, t61, t62, t63, t64, t65, t66, t67, t68, t69, t70, t71, t72, t73, t74, t75, t76, t77, t78, t79, t80, t81, t82, t83, t84, t85, t86, t87, t88, t89, t90, t91, t92, t93, t94, t95, t96, t97, t98, t99, t100, t101, t102, t103, t104, t105, t106, t107, t108, t109, t110, t111, t112, t113, t114, t115, t116, t117, t118, t119, t120, t121, t122, t123, t124, t125, t126, t127, t128, t129, t130, t131, t132, t133, t134, t135, t136, t137, t138, t139, t140, t141, t142, t143, t144, t145, t146, t147], []⟩ w0 := by
  conv => arg 2; whnf
  obtain ⟨i0, hi, hz0, hz1, hz2⟩ := info_parts gr_str
  have HI := hide (And.intro hi (And.intro hz0 (And.intro hz1 hz2)))
  clear hi hz0 hz1 hz2
  have HR := hide hR
  have HQ := hide hQ
  clear hR hQ
  go_wp2
  go_loopw [21, 22] (fun u i wr => ∃ k : Nat, k ≤ n ∧ i = .int .i64 (k : Int) ∧ wr.ownsRow w0.heap.size 9 1 u k (((List.range k).map (fun i => strOfNums (gL len (Y i)))).map Value.string) ∧ Below w0.heap.size w0 wr) (fun _ i _ => n - (intOf i).toNat)
  case atStart => exact ⟨0, by omega, rfl, World.ownsRow_nil _ _ _ _, Below.refl _ _⟩
  case round =>
  obtain ⟨k, hk, rfl, ho, hb⟩ := hrel
  obtain ⟨wi, rfl⟩ : ∃ q, q = wr := ⟨_, rfl⟩
  obtain ⟨pw, cw, rfl, hcw⟩ := gr_form ho
  by_cases hkn : k < n
  case pos =>
    have hkn' : (k : Int) < (n : Int) := by omega
    have hk0 : (0 : Int) ≤ (k : Int) := by omega
    have hRk := (unhide HR).below hb
    obtain ⟨g0, e0, hcg, _, _, _⟩ := hRk.at k hkn
    obtain rfl : go = g0 := by injection e0 with e0; injection e0
    obtain ⟨gi, ci, hvi, _⟩ := form9 (hRk.own k hkn) (by rw [gW_len]; omega)
    rw [gW_len] at hvi
    have how := hRk.own k hkn
    rw [hvi, gW_len] at how
    rw [hvi] at hcg
    have hcv := gW_conv how
    obtain ⟨X, hX⟩ : ∃ q, strOfNums (gL len (Y k)) = q := ⟨_, rfl⟩
    rw [hX] at hcv
    have HO := hide (show (wi.alloc (.cells #[.string X] 9)).ownsRow w0.heap.size 9 1 (.slice pw k cw) k (((List.range k).map (fun i => strOfNums (gL len (Y i)))).map Value.string) from ho.alloc _)
    have HB := hide hb
    have hsz := hb.size
    have HX := hide hX
    clear ho hb hcw hRk how hvi hX
    go_wp2_with (refine wpList_append_lies _ rfl (.tmp 139) (.tmp 145) 22 rfl w0.heap.size 9 i0 (.string ⟨#[]⟩) 1 16 Tryd.underlying22 (unhide HI).1 (unhide HI).2.1 (unhide HI).2.2.1 (unhide HI).2.2.2 rfl (by decide) _ k _ rfl (unhide HO) ⟨wi.heap.size, 0, none⟩ 1 1 [.string X] rfl rfl (fun q u hu => gr_new wi 9 _ q u hu) (by simp [Value.oneCell']) (by decide) (by unfold maxLen; omega) (by omega) (by simp; omega) (wi.heap.size + 1) (by simp) ?_)
    intro g5 cap5 x5 ho5 hg5 _ _
    have HN := hide (show x5.ownsRow w0.heap.size 9 1 (.slice (some ⟨g5, 0, none⟩) (k + 1) cap5) (k + 1) (((List.range (k + 1)).map (fun i => strOfNums (gL len (Y i)))).map Value.string) ∧ Below w0.heap.size w0 x5 from ⟨by
      rw [List.range_succ, List.map_append, List.map_append, List.map_singleton, List.map_singleton, unhide HX, List.map_map]
      exact ho5, ((unhide HB).alloc (unhide HB).size _).grown hg5 (by simp; omega) (fun q hq => ((unhide HO).lt q hq).1)⟩)
    clear ho5 hg5 HO HB
    go_wp2
    go_roundw
    case rel => exact ⟨k + 1, by omega, by go_num, (unhide HN).1, (unhide HN).2⟩
    case measure => simp [intOf] <;> omega
  obtain rfl : k = n := by omega
  have hkn' : ¬ (k : Int) < (k : Int) := by omega
  have HF := hide (unhide HQ _ _ ho hb)
  clear ho hb hcw
  go_wp2
  exact unhide HF
end Go.Proofs.YtolblldpdgfkmaaDoor
namespace Go.Proofs.YtolblldpdgfkmaaDoor
open Go.RowKit
set_option maxRecDepth 100000
theorem gN_of (a : G) : gN a.v = a := G.ext' (Nat.mod_eq_of_lt a.h)
/-- the square of the first ones' weights -/
def sqL (n : Nat) (f : Nat → Nat) : List (List Int) := (List.range n).map (fun r => gL n (wt n (f r)))
def unF (k j : Nat) : G := if j = k then g1 else g0
theorem sqL_at {n : Nat} {f : Nat → Nat} {i : Nat} (hi : i < n) : (sqL n f).getD i [] = gL n (wt n (f i)) := by
  unfold sqL
  rw [List.getD_eq_getElem?_getD, List.getElem?_map, List.getElem?_range hi]
  rfl
theorem gL_app {n : Nat} (F : Nat → G) (x : G) (k : Nat) (hk : k ≤ n) : (gL n F ++ [(x.v : Int)]).getD k 0 = (((if k < n then F k else x).v : Nat) : Int) := by
  rw [List.getD_eq_getElem?_getD]
  by_cases h : k < n
  · rw [if_pos h, List.getElem?_append_left (by rw [gL_len]; exact h), ← List.getD_eq_getElem?_getD, gL_get F h]
  · obtain rfl : k = n := by omega
    rw [if_neg h, List.getElem?_append_right (by rw [gL_len]; omega), gL_len, Nat.sub_self]
    rfl
theorem unit_solve {n k : Nat} {f : Nat → Nat} (hf : Fst n f) (c : Nat → G) (hc : ∀ i, i < n → rK n c (wt n (f i)) = if i = k then g1 else g0) {w : World} {e : Ending} {w' : World} (h : SolR w (sqL n f) (gL n (unF k)) e w') : ∃ x, e = .returned (.tuple #[x, .int .i64 0]) ∧ w'.ownsRow w.heap.size 3 1 x n (gV n c) ∧ Below w.heap.size w w' := by
  have hl : (gL n (unF k)).length = n := gL_len _ _
  have hel : ∀ i, i < n → ∀ q, q ≤ n → ((sqL n f).getD i [] ++ [(gL n (unF k)).getD i 0]).getD q 0 = (((if q < n then wt n (f i) q else unF k i).v : Nat) : Int) := fun i hi q hq => by
    rw [sqL_at hi, gL_get _ hi]
    exact gL_app _ _ q hq
  have hok : slvOk (sqL n f) (gL n (unF k)) := by
    refine ⟨by rw [hl]; have := hf.n2; omega, by rw [hl]; simp [sqL], fun i hi => ?_⟩
    rw [hl] at hi ⊢
    refine ⟨by rw [sqL_at hi, gL_len], fun q hq => ?_⟩
    rw [hel i hi q hq]
    have := (if q < n then wt n (f i) q else unF k i).h
    omega
  obtain ⟨ok, B, hga, hor, hb⟩ := h.1 hok
  rw [hl] at hga hor
  have hA : ∀ i, i < n → ∀ q, q < n → slvA (sqL n f) (gL n (unF k)) i q = wt n (f i) q := fun i hi q hq => by
    unfold slvA
    rw [hel i hi q (by omega), if_pos hq, Int.toNat_natCast, gN_of]
  have hu : ∀ i, i < n → slvA (sqL n f) (gL n (unF k)) i n = if i = k then g1 else g0 := fun i hi => by
    unfold slvA
    rw [hel i hi n (Nat.le_refl _), if_neg (Nat.lt_irrefl _), Int.toNat_natCast, gN_of]
    rfl
  obtain ⟨hk1, hB⟩ := unit_ga hf hga hA hu
  have hBc := rows_same hf.n2 f hf.lt hf.inj (fun i => B i n) c (fun r hr => by rw [hB r hr, hc r hr])
  rcases hor with ⟨_, x, he, ho⟩ | ⟨q, _⟩
  · refine ⟨x, he, ?_, hb⟩
    rw [← gV_congr hBc]
    exact ho
  · rw [hk1] at q; cases q
/-- what the columns make of what the first ones say, as far as it is summed -/
def acc (c D : Nat → Nat → G) (r i q : Nat) : G := sm (fun s => c s i * D s q) (List.range r)
theorem acc_succ (c D : Nat → Nat → G) (r i q : Nat) : acc c D (r + 1) i q = acc c D r i q + c r i * D r q := by
  unfold acc
  rw [List.range_succ, sm_snoc]
def acm (c D : Nat → Nat → G) (r i a m q : Nat) : G := if m < i ∨ (m = i ∧ q < a) then acc c D (r + 1) m q else acc c D r m q
theorem acm_set (c D : Nat → Nat → G) (len r i a : Nat) : (gW len (acm c D r i a i)).set a (.int .u8 ((acc c D (r + 1) i a).v : Int)) = gW len (acm c D r i (a + 1) i) := by
  rw [gW_set]
  refine gW_congr (fun q _ => ?_)
  unfold acm
  by_cases h : q = a
  · rw [if_pos h, if_pos (.inr ⟨rfl, by omega⟩), h]
  · rw [if_neg h]
    by_cases h2 : q < a
    · rw [if_pos (.inr ⟨rfl, h2⟩), if_pos (.inr ⟨rfl, by omega⟩)]
    · rw [if_neg (fun x => by omega), if_neg (fun x => by omega)]
theorem acm_far (c D : Nat → Nat → G) (r i a b m q : Nat) (h : m ≠ i) : acm c D r i a m q = acm c D r i b m q := by
  unfold acm
  by_cases h2 : m < i
  · rw [if_pos (.inl h2), if_pos (.inl h2)]
  · rw [if_neg (fun x => by omega), if_neg (fun x => by omega)]
theorem acm_end (c D : Nat → Nat → G) (len r i a : Nat) (h : a = len ∨ c r i = g0) (m q : Nat) (hq : q < len) : acm c D r i a m q = acm c D r (i + 1) 0 m q := by
  unfold acm
  by_cases h1 : m < i
  · rw [if_pos (.inl h1), if_pos (.inl (by omega))]
  · by_cases h2 : m = i
    · rw [if_pos (show m < i + 1 ∨ (m = i + 1 ∧ q < 0) from .inl (by omega))]
      by_cases h3 : q < a
      · rw [if_pos (.inr ⟨h2, h3⟩)]
      · rw [if_neg (fun x => by omega)]
        rcases h with h | h
        · omega
        · rw [acc_succ, h2, h, gzero_mul, gadd_zero]
    · rw [if_neg (fun x => by omega), if_neg (fun x => by omega)]
theorem acm_start (c D : Nat → Nat → G) (r m q : Nat) : acm c D r 0 0 m q = acc c D r m q := if_neg (fun x => by omega)
theorem acm_last (c D : Nat → Nat → G) (r n m q : Nat) (hm : m < n) : acm c D r n 0 m q = acc c D (r + 1) m q := if_pos (.inl hm)
theorem mzI (n : Nat) : (madeCells (Value.int .i64 0).cells (n * 1)).toList = gV n (fun _ => g0) := by
  apply List.ext_getElem
  · simp [madeCells, gV]
  · intro i h1 h2
    simp [madeCells, Value.cells, gV, Nat.mod_one, g0]
theorem own_gl {w : World} {b n c : Nat} {p : Option Addr} {F : Nat → G} (h : w.ownsRow b 3 1 (.slice p n c) n (gV n F)) : GLs w w.heap.size p (gL n F) := fun j hj => by
  rw [gL_len] at hj
  obtain ⟨g, e, hc, _, _, hlt⟩ := gr_cell h j hj
  refine ⟨g, 0, e, hlt, ?_⟩
  rw [Nat.zero_add, hc, gV_at _ hj, gL_get _ hj]
theorem RR.sqL {b : Nat} {w : World} {p : Option Addr} {n c : Nat} {v : Nat → Value} {f : Nat → Nat} (hn : 1 ≤ n) (h : RR b 40 3 w (.slice p n c) n v (fun r => gV n (wt n (f r)))) : GSq w w.heap.size p (Go.Proofs.YtolblldpdgfkmaaDoor.sqL n f) := fun i hi => by
  have hi' : i < n := by simpa [Go.Proofs.YtolblldpdgfkmaaDoor.sqL] using hi
  obtain ⟨g, e, hc, _, _, hlt⟩ := h.at i hi'
  obtain ⟨q, cq, hv, _⟩ := gr_form (h.own i hi')
  rw [gV_len] at hv
  have ho := h.own i hi'
  rw [hv, gV_len] at ho
  refine ⟨g, 0, q, cq, e, hlt, ?_, fun hq => ?_, ?_⟩
  · rw [Nat.zero_add, hc, hv, sqL_at hi', gL_len]
  · obtain ⟨g2, e2, _⟩ := gr_cell ho 0 (by omega)
    rw [hq] at e2
    cases e2
  · rw [sqL_at hi']
    exact own_gl ho
theorem gls_up {w : World} {B B' : Nat} {p : Option Addr} {L : List Int} (h : GLs w B p L) (hb : B ≤ B') : GLs w B' p L := fun j hj => by
  obtain ⟨g, o, e, hg, hc⟩ := h j hj
  exact ⟨g, o, e, by omega, hc⟩
theorem gsq_up {w : World} {B B' : Nat} {p : Option Addr} {Q : List (List Int)} (h : GSq w B p Q) (hb : B ≤ B') : GSq w B' p Q := fun i hi => by
  obtain ⟨g, o, q, c, e, hg, hc, h0, hl⟩ := h i hi
  exact ⟨g, o, q, c, e, by omega, hc, h0, gls_up hl hb⟩
noncomputable def fndD : Code := dropSeq 5 ((Tryd.f38.body).getD .skip)
set_option maxHeartbeats 16000000 in
theorem fndD_walk (w0 : World) (b1 N n c cf cs gl ol gf of0 gs go len : Nat) (L : List ByteArray) (f : Nat → Nat) (cc D : Nat → Nat → G) (v0 : Nat → Value) (hf : Fst n f) (hD : ∀ s q, D s q = gB (L.getD (f s) ByteArray.empty) q) (hN : L.length = N) (hfN : ∀ r, r < n → f r < N) (hcc : ∀ r, r < n → ∀ i, i < n → rK n (cc r) (wt n (f i)) = if i = r then g1 else g0) (hl1 : 1 ≤ len) (hl2 : len ≤ 60004) (hsz : ∀ r, r < n → sz L (f r) = len) (hb1 : b1 ≤ w0.heap.size)
    (hL : GTx w0 b1 (some ⟨gl, ol, none⟩) L) (hF : GLs w0 b1 (some ⟨gf, of0, none⟩) ((List.range n).map (fun r => (f r : Int)))) (hS : GSq w0 b1 (some ⟨gs, 0, none⟩) (sqL n f)) (hR : RR b1 51 5 w0 (.slice (some ⟨go, 0, none⟩) n n) n v0 (fun _ => gW len (fun _ => g0))) (Q : Ending → World → Prop) (hQ : ∀ x w', w'.ownsRow b1 9 1 x n (((List.range n).map (fun i => strOfNums (gL len (acc cc D n i)))).map Value.string) → Below b1 w0 w' → Q (.returned x) w') (t3 t4 t5 t6 t8 t9 t10 t11 t13 t14 t15 t16 t17 t18 t19 t20 t21 t22 t23 t24 t25 t26 t27 t28 t29 t30 t31 t32 t33 t34 t35 t36 t37 t38 t39 t40 t41 t42 t43 t44 t45 t46 t47 t48 t49 t50 t51 t52 t53 t54 t55 t56 t57 t58 t59 t60 t61 t62 t63 t64 t65 t66 t67 t68 t69 t70 t71 t72 t73 t74 t75 t76 t77 t78 t79 t80 t81 t82 t83 t84 t85 t86 t87 t88 t89 t90 t91 t92 t93 t94 t95 t96 t97 t98 t99 t100 t101 t102 t103 t104 t105 t106 t107 t108 t109 t110 t111 t112 t113 t114 t115 t116 t117 t118 t119 t120 t121 t122 t123 t124 t125 t126 t127 t128 t129 t130 t131 t132 t133 t134 t135 t136 t137 t138 t139 t140 t141 t142 t143 t144 t145 t146 t147 : Value) :
    Code.wp Tryd.prog fndD (bodyPost Tryd.prog Tryd.f38 Q) ⟨#[.slice (some ⟨gl, ol, none⟩) N c, .int .i64 (n : Int), .slice (some ⟨gf, of0, none⟩) n cf, t3, t4, t5, t6, .slice (some ⟨gs, 0, none⟩) n cs, t8, t9, t10, t11, .slice (some ⟨go, 0, none⟩) n n, t13, t14, t15, t16, t17, t18, t19, t20, t21, t22, t23, t24, t25, t26, t27, t28, t29, t30, t31, t32, t33, t34, t35, t36, t37, t38, t39, t40, t41, t42, t43, t44, t45, t46, t47, t48, t49, t50, t51, t52, t53, t54, t55, t56, t57, t58, t59, t60, t61, t62, t63, t64, t65, t66, t67, t68, t69, t70, t71, t72, t73, t74, t75, t76, t77, t78, t79, t80, t81, t82, t83, t84, t85, t86, t87, t88, t89, t90, t91, t92, t93, t94, t95, t96, t97, t98, t99, t100, t101, t102, t103, t104, t105, t106, t107, t108, t109, t110, t111, t112, t113, t114, t115, t116, t117, t118, t119, t120, t121, t122, t123, t124, t125, t126, t127, t128, t129, t130, t131, t132, t133, t134, t135, t136, t137, t138, t139, t140, t141, t142, t143, t144, t145, t146, t147], []⟩ w0 := by
  conv => arg 2; whnf
  obtain ⟨i0, hi, hz0, hz1, hz2⟩ := info_parts gr_int
  have HI := hide (And.intro hi (And.intro hz0 (And.intro hz1 hz2)))
  clear hi hz0 hz1 hz2
  have hn2 := hf.n2
  have hn1 := hf.n1
  have HM := hide (And.intro hL (And.intro hF hS))
  have HP := hide (And.intro hf (And.intro hN (And.intro hfN (And.intro hcc (And.intro hsz hD)))))
  have HQ := hide hQ
  have X0 := hide (show RR b1 51 5 w0 (.slice (some ⟨go, 0, none⟩) n n) n v0 (fun m => gW len (acc cc D 0 m)) ∧ Below b1 w0 w0 from ⟨hR.congr (fun i _ => gW_congr (fun q _ => rfl)), Below.refl _ _⟩)
  clear hL hF hS hf hN hfN hcc hsz hD hQ hR
  go_wp2_with fail
  rename_i K9 aK9
  have hK : ∀ (wx : World) (_ : RR b1 51 5 wx (.slice (some ⟨go, 0, none⟩) n n) n v0 (fun m => gW len (acc cc D n m))) (_ : Below b1 w0 wx) (t0 t2 t3 t4 t5 t6 t7 t8 t9 t10 t11 t13 t14 t15 t16 t17 t18 t19 t20 t21 t22 t23 t24 t25 t26 t27 t28 t29 t30 t31 t32 t33 t34 t35 t36 t37 t38 t39 t40 t41 t42 t43 t44 t45 t46 t47 t48 t49 t50 t51 t52 t53 t54 t55 t56 t57 t58 t59 t60 t61 t62 t63 t64 t65 t66 t67 t68 t69 t70 t71 t72 t73 t74 t75 t76 t77 t78 t79 t80 t81 t82 t83 t84 t85 t86 t87 t88 t89 t90 t91 t92 t93 t94 t95 t96 t97 t98 t99 t100 t101 t102 t103 t104 t105 t106 t107 t108 t109 t110 t111 t112 t113 t114 t115 t116 t117 t118 t119 t120 t121 t122 t123 t124 t125 t126 t127 t128 t129 t130 t131 t132 t133 t134 t135 t136 t137 t138 t139 t140 t141 t142 t143 t144 t145 t146 t147 : Value), K9 ⟨#[t0, .int .i64 (n : Int), t2, t3, t4, t5, t6, t7, t8, t9, t10, t11, .slice (some ⟨go, 0, none⟩) n n, t13, t14, t15, t16, t17, t18, t19, t20, t21, t22, t23, t24, t25, t26, t27, t28, t29, t30, t31, t32, t33, t34, t35, t36, t37, t38, t39, t40, t41, t42, t43, t44, t45, t46, t47, t48, t49, t50, t51, t52, t53, t54, t55, t56, t57, t58, t59, t60, t61, t62, t63, t64, t65, t66, t67, t68, t69, t70, t71, t72, t73, t74, t75, t76, t77, t78, t79, t80, t81, t82, t83, t84, t85, t86, t87, t88, t89, t90, t91, t92, t93, t94, t95, t96, t97, t98, t99, t100, t101, t102, t103, t104, t105, t106, t107, t108, t109, t110, t111, t112, t113, t114, t115, t116, t117, t118, t119, t120, t121, t122, t123, t124, t125, t126, t127, t128, t129, t130, t131, t132, t133, t134, t135, t136, t137, t138, t139, t140, t141, t142, t143, t144, t145, t146, t147], []⟩ wx := fun wx q1 q2 t0 t2 t3 t4 t5 t6 t7 t8 t9 t10 t11 t13 t14 t15 t16 t17 t18 t19 t20 t21 t22 t23 t24 t25 t26 t27 t28 t29 t30 t31 t32 t33 t34 t35 t36 t37 t38 t39 t40 t41 t42 t43 t44 t45 t46 t47 t48 t49 t50 t51 t52 t53 t54 t55 t56 t57 t58 t59 t60 t61 t62 t63 t64 t65 t66 t67 t68 t69 t70 t71 t72 t73 t74 t75 t76 t77 t78 t79 t80 t81 t82 t83 t84 t85 t86 t87 t88 t89 t90 t91 t92 t93 t94 t95 t96 t97 t98 t99 t100 t101 t102 t103 t104 t105 t106 t107 t108 t109 t110 t111 t112 t113 t114 t115 t116 t117 t118 t119 t120 t121 t122 t123 t124 t125 t126 t127 t128 t129 t130 t131 t132 t133 t134 t135 t136 t137 t138 t139 t140 t141 t142 t143 t144 t145 t146 t147 => aK9 _ _ (by
    exact fndE_walk wx b1 n go len v0 (acc cc D n) hn2 hl1 q1 _ (fun x w' h1 h2 => unhide HQ x w' (gr_mono h1 (Nat.le_trans hb1 q2.size)) (q2.trans (h2.mono (Nat.le_trans hb1 q2.size)))) t0 t2 t3 t4 t5 t6 t7 t8 t9 t10 t11 t13 t14 t15 t16 t17 t18 t19 t20 t21 t22 t23 t24 t25 t26 t27 t28 t29 t30 t31 t32 t33 t34 t35 t36 t37 t38 t39 t40 t41 t42 t43 t44 t45 t46 t47 t48 t49 t50 t51 t52 t53 t54 t55 t56 t57 t58 t59 t60 t61 t62 t63 t64 t65 t66 t67 t68 t69 t70 t71 t72 t73 t74 t75 t76 t77 t78 t79 t80 t81 t82 t83 t84 t85 t86 t87 t88 t89 t90 t91 t92 t93 t94 t95 t96 t97 t98 t99 t100 t101 t102 t103 t104 t105 t106 t107 t108 t109 t110 t111 t112 t113 t114 t115 t116 t117 t118 t119 t120 t121 t122 t123 t124 t125 t126 t127 t128 t129 t130 t131 t132 t133 t134 t135 t136 t137 t138 t139 t140 t141 t142 t143 t144 t145 t146 t147)
  have HK := hide hK
  clear hK aK9 HQ
  go_loopw [14, 18, 19] (fun r _ _ wr => ∃ k : Nat, k ≤ n ∧ r = .int .i64 (k : Int) ∧ Hid (RR b1 51 5 wr (.slice (some ⟨go, 0, none⟩) n n) n v0 (fun m => gW len (acc cc D k m)) ∧ Below b1 w0 wr)) (fun r _ _ _ => n - (intOf r).toNat)
  case atStart => exact ⟨0, by omega, rfl, X0⟩
  case round =>
  obtain ⟨k, hk, rfl, HS⟩ := hrel
  obtain ⟨wi, rfl⟩ : ∃ q, q = wr := ⟨_, rfl⟩
  clear X0
  by_cases hkn : k < n
  case neg =>
    obtain rfl : k = n := by omega
    have hkn' : ¬ (k : Int) < (k : Int) := by omega
    go_wp2_with fail
    exact unhide HK wi (unhide HS).1 (unhide HS).2 _ _ _ _ _ _ _ _ _ _ _ _ _ _ _ _ _ _ _ _ _ _ _ _ _ _ _ _ _ _ _ _ _ _ _ _ _ _ _ _ _ _ _ _ _ _ _ _ _ _ _ _ _ _ _ _ _ _ _ _ _ _ _ _ _ _ _ _ _ _ _ _ _ _ _ _ _ _ _ _ _ _ _ _ _ _ _ _ _ _ _ _ _ _ _ _ _ _ _ _ _ _ _ _ _ _ _ _ _ _ _ _ _ _ _ _ _ _ _ _ _ _ _ _ _ _ _ _ _ _ _ _ _ _ _ _ _ _ _ _ _ _ _ _ _ _
  have hkn' : (k : Int) < (n : Int) := by omega
  have hk0 : (0 : Int) ≤ (k : Int) := by omega
  clear HK
  obtain ⟨wm, hmk, hm1, hm2⟩ := run_make_full (P := Tryd.prog) wi wi.heap.size 40 3 i0 (.int .i64 0) 1 Tryd.underlying40 (unhide HI).1 (unhide HI).2.1 (unhide HI).2.2.1 .i64 .i64 n (by rw [(unhide HI).2.2.2]; omega) (by unfold maxLen; omega) (Nat.le_refl _)
  rw [mzI] at hm1
  have hbs := (unhide HS).2.size
  have hbm : Below wi.heap.size wi wm := (Below.refl _ _).grown hm2 (Nat.le_refl _) (fun q hq => by cases hq)
  obtain ⟨gu, hgu⟩ : ∃ q, wi.heap.size = q := ⟨_, rfl⟩
  rw [hgu] at hmk hm1 hbm hbs
  obtain ⟨gu2, eu, hcu, hfu, _, _⟩ := gr_cell hm1 k hkn
  obtain rfl : gu = gu2 := by injection eu with eu; injection eu
  rw [gV_at _ hkn] at hcu
  obtain ⟨hu1, hu2⟩ := hm1.stored k (.int .i64 1)
  rw [show (gV n (fun _ => g0)).set k (.int .i64 1) = gV n (unF k) from gV_set (fun _ => g0) k g1] at hu1
  have hbu : Below gu wi (wm.setCell ⟨gu, k, none⟩ (.int .i64 1)) := hbm.setCell (p := ⟨gu, k, none⟩) (Nat.le_refl _) _
  obtain ⟨wu, hwu⟩ : ∃ q, wm.setCell ⟨gu, k, none⟩ (.int .i64 1) = q := ⟨_, rfl⟩
  have HW := hide hwu
  rw [hwu] at hu1 hbu
  have HU := hide (show RR b1 51 5 wu (.slice (some ⟨go, 0, none⟩) n n) n v0 (fun m => gW len (acc cc D k m)) ∧ Below b1 w0 wu from ⟨(unhide HS).1.below (by rw [hgu]; exact hbu), (unhide HS).2.trans (hbu.mono (Nat.le_trans hb1 hbs))⟩)
  have hus := (unhide HU).2.size
  have HSV := hide ((rsolve_any wu (sqL n f) (gL n (unF k)) wu.heap.size cs n n n (some ⟨gs, 0, none⟩) (some ⟨gu, 0, none⟩) (by simp [sqL]) (gL_len _ _) (gsq_up ((unhide HM).2.2.below (unhide HU).2) (Nat.le_trans hb1 hus)) (own_gl hu1) (Nat.le_refl _) (fun i hi => by rw [sqL_at hi, gL_len]; omega)).mono (fun e w' h => unit_solve (unhide HP).1 (cc k) ((unhide HP).2.2.2.1 k hkn) h))
  clear hm1 hm2 hbm hu1 hu2 hbu hwu
  go_wp2_with (rw [unhide HW])
  refine (unhide HSV).mono ?_
  rintro e w2 ⟨x, rfl, hox, hb2⟩
  obtain ⟨px, cx, rfl, _⟩ := gr_form hox
  have HX2 := hide (show RR b1 51 5 w2 (.slice (some ⟨go, 0, none⟩) n n) n v0 (fun m => gW len (acm cc D k 0 0 m)) ∧ Below b1 w0 w2 ∧ w2.ownsRow wu.heap.size 3 1 (.slice px n cx) n (gV n (cc k)) from ⟨((unhide HU).1.below hb2).congr (fun i _ => gW_congr (fun q _ => (acm_start _ _ _ _ _).symm)), (unhide HU).2.trans (hb2.mono (Nat.le_trans hb1 hus)), hox⟩)
  clear hox hb2 HSV hmk hcu hfu
  obtain ⟨gf2, of2, ef, hgf, hcf0⟩ := (unhide HM).2.1 k (by simp; exact hkn)
  obtain ⟨rfl, rfl⟩ : gf = gf2 ∧ of0 = of2 := by injection ef with ef; injection ef with e1 e2; exact ⟨e1, e2⟩
  rw [show ((List.range n).map (fun r => (f r : Int))).getD k 0 = (f k : Int) from by rw [List.getD_eq_getElem?_getD, List.getElem?_map, List.getElem?_range hkn]; rfl] at hcf0
  have hfk := (unhide HP).2.2.1 k hkn
  obtain ⟨gl2, ol2, el, hgl, hcl0⟩ := (unhide HM).1 (f k) (by rw [(unhide HP).2.1]; exact hfk)
  obtain ⟨rfl, rfl⟩ : gl = gl2 ∧ ol = ol2 := by injection el with el; injection el with e1 e2; exact ⟨e1, e2⟩
  have hsT := (unhide HP).2.2.2.2.1 k hkn
  have HDk := hide (show ∀ q, D k q = gB (L.getD (f k) ByteArray.empty) q from fun q => (unhide HP).2.2.2.2.2 k q)
  unfold sz at hsT
  obtain ⟨X, hX⟩ : ∃ q, L.getD (f k) ByteArray.empty = q := ⟨_, rfl⟩
  rw [hX] at hcl0 hsT HDk
  obtain ⟨fk, hfkq⟩ : ∃ q, f k = q := ⟨_, rfl⟩
  rw [hfkq] at hcf0 hcl0 hfk
  clear hX hfkq
  have hfk' : (fk : Int) < (N : Int) := by omega
  have hfk0 : (0 : Int) ≤ (fk : Int) := by omega
  have HFL := hide (show ∀ wz, Below b1 w0 wz → wz.cell? ⟨gf, of0 + k, none⟩ = some (.int .i64 (fk : Int)) ∧ wz.cell? ⟨gl, ol + fk, none⟩ = some (.string X) from fun wz h => ⟨(h.cell (p := ⟨gf, of0 + k, none⟩) hgf).trans hcf0, (h.cell (p := ⟨gl, ol + fk, none⟩) hgl).trans hcl0⟩)
  clear hcf0 hcl0 ef el
  go_wp2
  go_loopw [18, 19] (fun i _ wr => ∃ i' : Nat, i' ≤ n ∧ i = .int .i64 (i' : Int) ∧ Hid (RR b1 51 5 wr (.slice (some ⟨go, 0, none⟩) n n) n v0 (fun m => gW len (acm cc D k i' 0 m)) ∧ Below b1 w0 wr ∧ wr.ownsRow wu.heap.size 3 1 (.slice px n cx) n (gV n (cc k)))) (fun i _ _ => n - (intOf i).toNat)
  case atStart => exact ⟨0, by omega, rfl, HX2⟩
  case round =>
  obtain ⟨i, hi, rfl, HI2⟩ := hrel
  obtain ⟨wj, rfl⟩ : ∃ q, q = wr := ⟨_, rfl⟩
  clear HX2
  by_cases hin : i < n
  case neg =>
    obtain rfl : i = n := by omega
    have hin' : ¬ (i : Int) < (i : Int) := by omega
    have HN := hide (show RR b1 51 5 wj (.slice (some ⟨go, 0, none⟩) i i) i v0 (fun m => gW len (acc cc D (k + 1) m)) ∧ Below b1 w0 wj from ⟨(unhide HI2).1.congr (fun m hm => gW_congr (fun q _ => acm_last _ _ _ _ _ _ hm)), (unhide HI2).2.1⟩)
    clear HI2
    go_wp2
    go_roundw
    case rel => exact ⟨k + 1, by omega, by go_num, HN⟩
    case measure => simp [intOf] <;> omega
  have hin' : (i : Int) < (n : Int) := by omega
  have hi0 : (0 : Int) ≤ (i : Int) := by omega
  obtain ⟨gx, rfl, _, _, _, _⟩ := gr_cell (unhide HI2).2.2 i hin
  go_wp2
  go_loopw [19] (fun a wr => ∃ a' : Nat, a' ≤ len ∧ a = .int .i64 (a' : Int) ∧ Hid (RR b1 51 5 wr (.slice (some ⟨go, 0, none⟩) n n) n v0 (fun m => gW len (acm cc D k i a' m)) ∧ Below b1 w0 wr ∧ wr.ownsRow wu.heap.size 3 1 (.slice (some ⟨gx, 0, none⟩) n cx) n (gV n (cc k)))) (fun a _ => len - (intOf a).toNat)
  case atStart => exact ⟨0, by omega, rfl, HI2⟩
  case round =>
  obtain ⟨a, ha, rfl, HA⟩ := hrel
  obtain ⟨wz, rfl⟩ : ∃ q, q = wr := ⟨_, rfl⟩
  clear HI2
  obtain ⟨go2, e0, hco, _, _, _⟩ := (unhide HA).1.at i hin
  obtain rfl : go = go2 := by injection e0 with e0; injection e0
  obtain ⟨gi, ci, hvi, _⟩ := form9 ((unhide HA).1.own i hin) (by rw [gW_len]; omega)
  rw [gW_len] at hvi
  rw [hvi] at hco
  obtain ⟨gx2, ex, hcx, _, _, _⟩ := gr_cell (unhide HA).2.2 i hin
  obtain rfl : gx = gx2 := by injection ex with ex; injection ex
  rw [gV_at _ hin] at hcx
  have HEND := hide (show (a = len ∨ cc k i = g0) → RR b1 51 5 wz (.slice (some ⟨go, 0, none⟩) n n) n v0 (fun m => gW len (acm cc D k (i + 1) 0 m)) ∧ Below b1 w0 wz ∧ wz.ownsRow wu.heap.size 3 1 (.slice (some ⟨gx, 0, none⟩) n cx) n (gV n (cc k)) from fun h => ⟨(unhide HA).1.congr (fun m _ => gW_congr (fun q hq => acm_end _ _ len _ _ _ h m q hq)), (unhide HA).2.1, (unhide HA).2.2⟩)
  by_cases hal : a < len
  case neg =>
    obtain rfl : a = len := by omega
    have hal' : ¬ (a : Int) < (a : Int) := by omega
    have HN := hide (unhide HEND (.inl rfl))
    clear HEND HA hvi
    go_wp2
    go_roundw
    case rel => exact ⟨i + 1, by omega, by go_num, HN⟩
    case measure => simp [intOf] <;> omega
  have hal' : (a : Int) < (len : Int) := by omega
  have ha0 : (0 : Int) ≤ (a : Int) := by omega
  have HCO := hide (acc_succ cc D k i a)
  obtain ⟨cv, hcv⟩ : ∃ q, cc k i = q := ⟨_, rfl⟩
  rw [hcv] at hcx HEND HCO
  by_cases hc0 : cv.v = 0
  case pos =>
    have hcn : ((cv.v : Int) != 0) = false := by simp; omega
    have HN := hide (unhide HEND (.inr (v_zero.1 hc0)))
    clear HEND HA hvi hcv HCO
    go_wp2
    go_roundw
    case rel => exact ⟨i + 1, by omega, by go_num, HN⟩
    case measure => simp [intOf] <;> omega
  have hcn : ((cv.v : Int) != 0) = true := by simp; omega
  clear HEND
  obtain ⟨hcf, hcl⟩ := unhide HFL wz (unhide HA).2.1
  have hix := index_str X a (by omega)
  rw [← gB_v] at hix
  have hDa := unhide HDk a
  obtain ⟨gb, hgb⟩ : ∃ q, gB X a = q := ⟨_, rfl⟩
  rw [hgb] at hix hDa
  rw [hDa] at HCO
  have hbh := gb.h
  have hwh := cv.h
  have HML := hide (fun W => rmul_any cv.v gb.v hwh hbh W)
  have hpl : gm cv.v gb.v < 256 := gm_lt _ _ hwh hbh
  have how := (unhide HA).1.own i hin
  rw [hvi, gW_len] at how
  obtain ⟨gi2, ei, hci, hfi, _, hgi⟩ := gr_cell how a hal
  obtain rfl : gi = gi2 := by injection ei with ei; injection ei
  rw [gW_at _ hal, show acm cc D k i a i a = acc cc D k i a from if_neg (fun x => by omega)] at hci
  have hset := (unhide HA).1.set (by decide) i hin gi ci (by rw [hvi, gW_len]) a (.int .u8 ((acc cc D (k + 1) i a).v : Int))
  have HNEW := hide (show RR b1 51 5 (wz.drew.drew.setCell ⟨gi, a, none⟩ (.int .u8 ((acc cc D (k + 1) i a).v : Int))) (.slice (some ⟨go, 0, none⟩) n n) n v0 (fun m => gW len (acm cc D k i (a + 1) m)) ∧ Below b1 w0 (wz.drew.drew.setCell ⟨gi, a, none⟩ (.int .u8 ((acc cc D (k + 1) i a).v : Int))) ∧ (wz.drew.drew.setCell ⟨gi, a, none⟩ (.int .u8 ((acc cc D (k + 1) i a).v : Int))).ownsRow wu.heap.size 3 1 (.slice (some ⟨gx, 0, none⟩) n cx) n (gV n (cc k)) from by
    have hd := ((unhide HA).1.below ((Below.refl _ wz).drew.drew)).set (by decide) i hin gi ci (by rw [hvi, gW_len]) a (.int .u8 ((acc cc D (k + 1) i a).v : Int))
    refine ⟨hd.1.congr (fun m _ => ?_), ((unhide HA).2.1.drew.drew).setCell (p := ⟨gi, a, none⟩) (((unhide HA).1.own i hin).lt gi (by rw [hvi]; rfl)).1 _, ((unhide HA).2.2.drew.drew).kept hd.2 (.inr (fun q => own_types (unhide HA).2.2 ((unhide HA).1.own i hin) (by decide) gi q (by rw [hvi]; rfl)))⟩
    by_cases e : m = i
    · rw [if_pos e, e]
      exact acm_set _ _ _ _ _ _
    · rw [if_neg e]
      exact gW_congr (fun q _ => acm_far _ _ _ _ _ _ _ _ e))
  have hx1 := xor8n (acc cc D k i a).v (gm cv.v gb.v) (acc cc D k i a).h hpl
  have hnew : (acc cc D k i a).v ^^^ gm cv.v gb.v = (acc cc D (k + 1) i a).v := by rw [unhide HCO]; rfl
  rw [hnew] at hx1
  obtain ⟨ov, hov⟩ : ∃ q, (acc cc D k i a).v = q := ⟨_, rfl⟩
  obtain ⟨pm, hpm⟩ : ∃ q, gm cv.v gb.v = q := ⟨_, rfl⟩
  obtain ⟨nv, hnv⟩ : ∃ q, (acc cc D (k + 1) i a).v = q := ⟨_, rfl⟩
  rw [hov] at hci hx1
  rw [hpm] at hx1 HML hpl
  rw [hnv] at hx1 HNEW
  have hpw : (pm : Int) % 256 = (pm : Int) := by omega
  have hgw : IntKind.wrap .i64 (gb.v : Int) = (gb.v : Int) := wrapI_eq _ (by omega) (by omega)
  clear hset hov hpm hnv hnew how hvi hgb hDa HCO e0 ex ei HA
  have HKP := hide (And.intro hco (And.intro hci hfi))
  go_wp2_with fail
  refine wp_region_held_drew (S := fun W => W.cell? ⟨gx, i, none⟩ = some (.int .i64 (cv.v : Int)) ∧ W.cell? ⟨gf, of0 + k, none⟩ = some (.int .i64 (fk : Int)) ∧ W.cell? ⟨gl, ol + fk, none⟩ = some (.string X)) (by kernel_rfl) ⟨hcx, hcf, hcl⟩ ?_
  intro hS
  refine wpAnyH_takeD 0 (some 103) (.slice (some ⟨gx, 0, none⟩) n cx) rfl rfl (by kernel_rfl) (by kernel_rfl) (by kernel_rfl) (fun _ _ _ h => h) (Or.inl ⟨by rfl, fun w hSw => by obtain ⟨q1, q2, q3⟩ := hSw; go_simp⟩) hS ?_
  simp only [Act.put, List.setIfInBounds_toArray, List.set_cons_zero, List.set_cons_succ]
  refine wpAnyH_takeD 1 (some 104) (.int .i64 (i : Int)) rfl rfl (by kernel_rfl) (by kernel_rfl) (by kernel_rfl) (fun _ _ _ h => h) (Or.inl ⟨by rfl, fun w hSw => by obtain ⟨q1, q2, q3⟩ := hSw; go_simp⟩) hS ?_
  simp only [Act.put, List.setIfInBounds_toArray, List.set_cons_zero, List.set_cons_succ]
  refine wpAnyH_takeD 2 (some 105) (.pointer (some ⟨gx, i, none⟩)) rfl rfl (by kernel_rfl) (by kernel_rfl) (by kernel_rfl) (fun _ _ _ h => h) (Or.inl ⟨by rfl, fun w hSw => by obtain ⟨q1, q2, q3⟩ := hSw; go_simp⟩) hS ?_
  simp only [Act.put, List.setIfInBounds_toArray, List.set_cons_zero, List.set_cons_succ]
  refine wpAnyH_takeD 3 (some 106) (.int .i64 (cv.v : Int)) rfl rfl (by kernel_rfl) (by kernel_rfl) (by kernel_rfl) (fun _ _ _ h => h) (Or.inl ⟨by rfl, fun w hSw => by obtain ⟨q1, q2, q3⟩ := hSw; go_simp⟩) hS ?_
  simp only [Act.put, List.setIfInBounds_toArray, List.set_cons_zero, List.set_cons_succ]
  refine wpAnyH_takeD 4 (some 107) (.slice (some ⟨gl, ol, none⟩) N c) rfl rfl (by kernel_rfl) (by kernel_rfl) (by kernel_rfl) (fun _ _ _ h => h) (Or.inl ⟨by rfl, fun w hSw => by obtain ⟨q1, q2, q3⟩ := hSw; go_simp⟩) hS ?_
  simp only [Act.put, List.setIfInBounds_toArray, List.set_cons_zero, List.set_cons_succ]
  refine wpAnyH_takeD 5 (some 108) (.slice (some ⟨gf, of0, none⟩) n cf) rfl rfl (by kernel_rfl) (by kernel_rfl) (by kernel_rfl) (fun _ _ _ h => h) (Or.inl ⟨by rfl, fun w hSw => by obtain ⟨q1, q2, q3⟩ := hSw; go_simp⟩) hS ?_
  simp only [Act.put, List.setIfInBounds_toArray, List.set_cons_zero, List.set_cons_succ]
  refine wpAnyH_takeD 6 (some 109) (.int .i64 (k : Int)) rfl rfl (by kernel_rfl) (by kernel_rfl) (by kernel_rfl) (fun _ _ _ h => h) (Or.inl ⟨by rfl, fun w hSw => by obtain ⟨q1, q2, q3⟩ := hSw; go_simp⟩) hS ?_
  simp only [Act.put, List.setIfInBounds_toArray, List.set_cons_zero, List.set_cons_succ]
  refine wpAnyH_takeD 7 (some 110) (.pointer (some ⟨gf, of0 + k, none⟩)) rfl rfl (by kernel_rfl) (by kernel_rfl) (by kernel_rfl) (fun _ _ _ h => h) (Or.inl ⟨by rfl, fun w hSw => by obtain ⟨q1, q2, q3⟩ := hSw; go_simp⟩) hS ?_
  simp only [Act.put, List.setIfInBounds_toArray, List.set_cons_zero, List.set_cons_succ]
  refine wpAnyH_takeD 8 (some 111) (.int .i64 (fk : Int)) rfl rfl (by kernel_rfl) (by kernel_rfl) (by kernel_rfl) (fun _ _ _ h => h) (Or.inl ⟨by rfl, fun w hSw => by obtain ⟨q1, q2, q3⟩ := hSw; go_simp⟩) hS ?_
  simp only [Act.put, List.setIfInBounds_toArray, List.set_cons_zero, List.set_cons_succ]
  refine wpAnyH_takeD 9 (some 112) (.pointer (some ⟨gl, ol + fk, none⟩)) rfl rfl (by kernel_rfl) (by kernel_rfl) (by kernel_rfl) (fun _ _ _ h => h) (Or.inl ⟨by rfl, fun w hSw => by obtain ⟨q1, q2, q3⟩ := hSw; go_simp⟩) hS ?_
  simp only [Act.put, List.setIfInBounds_toArray, List.set_cons_zero, List.set_cons_succ]
  refine wpAnyH_takeD 10 (some 113) (.string X) rfl rfl (by kernel_rfl) (by kernel_rfl) (by kernel_rfl) (fun _ _ _ h => h) (Or.inl ⟨by rfl, fun w hSw => by obtain ⟨q1, q2, q3⟩ := hSw; go_simp⟩) hS ?_
  simp only [Act.put, List.setIfInBounds_toArray, List.set_cons_zero, List.set_cons_succ]
  refine wpAnyH_takeD 11 (some 114) (.int .i64 (a : Int)) rfl rfl (by kernel_rfl) (by kernel_rfl) (by kernel_rfl) (fun _ _ _ h => h) (Or.inl ⟨by rfl, fun w hSw => by obtain ⟨q1, q2, q3⟩ := hSw; go_simp⟩) hS ?_
  simp only [Act.put, List.setIfInBounds_toArray, List.set_cons_zero, List.set_cons_succ]
  refine wpAnyH_takeD 12 (some 115) (.int .u8 (gb.v : Int)) rfl rfl (by kernel_rfl) (by kernel_rfl) (by kernel_rfl) (fun _ _ _ h => h) (Or.inl ⟨by rfl, fun w hSw => by obtain ⟨q1, q2, q3⟩ := hSw; go_simp⟩) hS ?_
  simp only [Act.put, List.setIfInBounds_toArray, List.set_cons_zero, List.set_cons_succ]
  refine wpAnyH_takeD 13 (some 116) (.int .i64 (gb.v : Int)) rfl rfl (by kernel_rfl) (by kernel_rfl) (by kernel_rfl) (fun _ _ _ h => h) (Or.inl ⟨by rfl, fun w hSw => by obtain ⟨q1, q2, q3⟩ := hSw; go_simp⟩) hS ?_
  simp only [Act.put, List.setIfInBounds_toArray, List.set_cons_zero, List.set_cons_succ]
  refine wpAnyH_ready (rs := [14]) (by kernel_rfl) (by simp) ?_
  refine AllReadyH.cons rfl (fun K hK => ?_) AllReadyH.nil
  simp only [List.getElem_toArray, List.getElem_cons_succ, List.getElem_cons_zero]
  go_simp
  refine (unhide HML _).mono ?_
  rintro e w9 ⟨rfl, hw9⟩
  subst w9
  refine hK.out _ _ hS (fun hS => ?_)
  clear hK K
  refine wpAnyH_takeD 15 (some 20) (.int .i64 (pm : Int)) rfl rfl (by kernel_rfl) (by kernel_rfl) (by kernel_rfl) (fun _ _ _ h => h) (Or.inl ⟨by rfl, fun w hSw => by obtain ⟨q1, q2, q3⟩ := hSw; go_simp⟩) hS ?_
  simp only [Act.put, List.setIfInBounds_toArray, List.set_cons_zero, List.set_cons_succ]
  refine wpAnyH_done (by kernel_rfl) ?_ _
  clear hcx hcf hcl HML
  go_wp2_with fail
  have hco1 : wz.drew.cell? ⟨go, i, none⟩ = some (.slice (some ⟨gi, 0, none⟩) len ci) := hco
  have hci1 : wz.drew.cell? ⟨gi, a, none⟩ = some (.int .u8 (ov : Int)) := hci
  have hfi1 : wz.drew.frozen? ⟨gi, a, none⟩ = false := hfi
  clear hco hci hfi HKP
  obtain ⟨wy, hwy⟩ : ∃ q, wz.drew = q := ⟨_, rfl⟩
  rw [hwy] at hco1 hci1 hfi1 HNEW ⊢
  clear hwy
  go_still_tail 16, (by kernel_rfl)
  change wpList _ _ _ _ _ wy.drew
  have hci2 : wy.drew.cell? ⟨gi, a, none⟩ = some (.int .u8 (ov : Int)) := hci1
  have hfi2 : wy.drew.frozen? ⟨gi, a, none⟩ = false := hfi1
  go_wp2
  go_roundw
  case rel => exact ⟨a + 1, by omega, by go_num, HNEW⟩
  case measure => simp [intOf] <;> omega
end Go.Proofs.YtolblldpdgfkmaaDoor
namespace Go.Proofs.YtolblldpdgfkmaaDoor
open Go.RowKit
set_option maxRecDepth 100000
theorem gr_brw2 : (Tryd.prog.info? 51).map (fun i => (i.zero, i.size, i.bytes)) = some (some (.slice none 0 0), 1, 24) := by kernel_rfl
theorem gr_byt : (Tryd.prog.info? 5).map (fun i => (i.zero, i.size, i.bytes)) = some (some (.int .u8 0), 1, 1) := by kernel_rfl
theorem mzR (n : Nat) : (madeCells (Value.slice none 0 0).cells (n * 1)).toList = (List.range n).map (fun _ => Value.slice none 0 0) := by
  apply List.ext_getElem
  · simp [madeCells]
  · intro i h1 h2
    simp [madeCells, Value.cells, Nat.mod_one]
theorem mzB (n : Nat) : (madeCells (Value.int .u8 0).cells (n * 1)).toList = gW n (fun _ => g0) := by
  apply List.ext_getElem
  · simp [madeCells, gW]
  · intro i h1 h2
    simp [madeCells, Value.cells, gW, Nat.mod_one, g0]
theorem gtx_up {w : World} {B B' : Nat} {p : Option Addr} {L : List ByteArray} (h : GTx w B p L) (hb : B ≤ B') : GTx w B' p L := fun j hj => by
  obtain ⟨g, o, e, hg, hc⟩ := h j hj
  exact ⟨g, o, e, by omega, hc⟩
noncomputable def fndC : Code := dropSeq 3 ((Tryd.f38.body).getD .skip)
set_option maxHeartbeats 8000000 in
theorem fndC_walk (w0 : World) (N n c cf cs gl ol gf of0 gs len : Nat) (L : List ByteArray) (f : Nat → Nat) (cc D : Nat → Nat → G) (hf : Fst n f) (hD : ∀ s q, D s q = gB (L.getD (f s) ByteArray.empty) q) (hN : L.length = N) (hfN : ∀ r, r < n → f r < N) (hcc : ∀ r, r < n → ∀ i, i < n → rK n (cc r) (wt n (f i)) = if i = r then g1 else g0) (hl1 : 1 ≤ len) (hl2 : len ≤ 60004) (hsz : ∀ r, r < n → sz L (f r) = len)
    (hL : GTx w0 w0.heap.size (some ⟨gl, ol, none⟩) L) (hF : GLs w0 w0.heap.size (some ⟨gf, of0, none⟩) ((List.range n).map (fun r => (f r : Int)))) (hS : GSq w0 w0.heap.size (some ⟨gs, 0, none⟩) (sqL n f)) (Q : Ending → World → Prop) (hQ : ∀ x w', w'.ownsRow w0.heap.size 9 1 x n (((List.range n).map (fun i => strOfNums (gL len (acc cc D n i)))).map Value.string) → Below w0.heap.size w0 w' → Q (.returned x) w') (t3 t4 t5 t6 t8 t9 t10 t11 t12 t13 t14 t15 t16 t17 t18 t19 t20 t21 t22 t23 t24 t25 t26 t27 t28 t29 t30 t31 t32 t33 t34 t35 t36 t37 t38 t39 t40 t41 t42 t43 t44 t45 t46 t47 t48 t49 t50 t51 t52 t53 t54 t55 t56 t57 t58 t59 t60 t61 t62 t63 t64 t65 t66 t67 t68 t69 t70 t71 t72 t73 t74 t75 t76 t77 t78 t79 t80 t81 t82 t83 t84 t85 t86 t87 t88 t89 t90 t91 t92 t93 t94 t95 t96 t97 t98 t99 t100 t101 t102 t103 t104 t105 t106 t107 t108 t109 t110 t111 t112 t113 t114 t115 t116 t117 t118 t119 t120 t121 t122 t123 t124 t125 t126 t127 t128 t129 t130 t131 t132 t133 t134 t135 t136 t137 t138 t139 t140 t141 t142 t143 t144 t145 t146 t147 : Value) :
    Code.wp Tryd.prog fndC (bodyPost Tryd.prog Tryd.f38 Q) ⟨#[.slice (some ⟨gl, ol, none⟩) N c, .int .i64 (n : Int), .slice (some ⟨gf, of0, none⟩) n cf, t3, t4, t5, t6, .slice (some ⟨gs, 0, none⟩) n cs, t8, t9, t10, t11, t12, t13, t14, t15, t16, t17, t18, t19, t20, t21, t22, t23, t24, t25, t26, t27, t28, t29, t30, t31, t32, t33, t34, t35, t36, t37, t38, t39, t40, t41, t42, t43, t44, t45, t46, t47, t48, t49, t50, t51, t52, t53, t54, t55, t56, t57, t58, t59, t60, t61, t62, t63, t64, t65, t66, t67, t68, t69, t70, t71, t72, t73, t74, t75, t76, t77, t78, t79, t80, t81, t82, t83, t84, t85, t86, t87, t88, t89, t90, t91, t92, t93, t94, t95, t96, t97, t98, t99, t100, t101, t102, t103, t104, t105, t106, t107, t108, t109, t110, t111, t112, t113, t114, t115, t116, t117, t118, t119, t120, t121, t122, t123, t124, t125, t126, t127, t128, t129, t130, t131, t132, t133, t134, t135, t136, t137, t138, t139, t140, t141, t142, t143, t144, t145, t146, t147], []⟩ w0 := by
  conv => arg 2; whnf
  obtain ⟨i9, hi, hz0, hz1, hz2⟩ := info_parts gr_brw2
  have HI := hide (And.intro hi (And.intro hz0 (And.intro hz1 hz2)))
  clear hi hz0 hz1 hz2
  obtain ⟨iu, hi, hz0, hz1, hz2⟩ := info_parts gr_byt
  have HJ := hide (And.intro hi (And.intro hz0 (And.intro hz1 hz2)))
  clear hi hz0 hz1 hz2
  have hn2 := hf.n2
  have hn1 := hf.n1
  obtain ⟨wm, hmk, hm1, hm2⟩ := run_make_full (P := Tryd.prog) w0 w0.heap.size 41 51 i9 (.slice none 0 0) 1 Tryd.underlying41 (unhide HI).1 (unhide HI).2.1 (unhide HI).2.2.1 .i64 .i64 n (by rw [(unhide HI).2.2.2]; omega) (by unfold maxLen; omega) (Nat.le_refl _)
  rw [mzR] at hm1
  have hgo := (hm1.lt w0.heap.size rfl).2
  have hbm : Below w0.heap.size w0 wm := (Below.refl _ _).grown hm2 (Nat.le_refl _) (fun q hq => by cases hq)
  obtain ⟨go, hgo2⟩ : ∃ q, w0.heap.size = q := ⟨_, rfl⟩
  have HGO := hide hgo2
  have X0 := hide (show RR w0.heap.size 51 5 wm (.slice (some ⟨go, 0, none⟩) n n) n (fun _ => .slice none 0 0) (fun i => if i < 0 then gW len (fun _ => g0) else []) ∧ Below w0.heap.size w0 wm from ⟨⟨by rw [hgo2] at hm1; rw [hgo2]; exact hm1, fun i _ => World.ownsRow_nil _ _ _ _, fun i j _ _ _ x hx => by simp [Value.ownBlock] at hx⟩, hbm⟩)
  rw [show (some (⟨w0.heap.size, 0, none⟩ : Addr)) = some ⟨go, 0, none⟩ from by rw [hgo2]] at hmk
  obtain ⟨gf2, of2, ef, hgf, hcf0⟩ := hF 0 (by simp; omega)
  obtain ⟨rfl, rfl⟩ : gf = gf2 ∧ of0 = of2 := by injection ef with ef; injection ef with e1 e2; exact ⟨e1, e2⟩
  rw [show ((List.range n).map (fun r => (f r : Int))).getD 0 0 = (f 0 : Int) from by rw [List.getD_eq_getElem?_getD, List.getElem?_map, List.getElem?_range (by omega)]; rfl, Nat.add_zero] at hcf0
  have hf0 := hfN 0 (by omega)
  obtain ⟨gl2, ol2, el, hgl, hcl0⟩ := hL (f 0) (by rw [hN]; exact hf0)
  obtain ⟨rfl, rfl⟩ : gl = gl2 ∧ ol = ol2 := by injection el with el; injection el with e1 e2; exact ⟨e1, e2⟩
  have hsT := hsz 0 (by omega)
  unfold sz at hsT
  obtain ⟨X, hX⟩ : ∃ q, L.getD (f 0) ByteArray.empty = q := ⟨_, rfl⟩
  rw [hX] at hcl0 hsT
  obtain ⟨fk, hfk⟩ : ∃ q, f 0 = q := ⟨_, rfl⟩
  rw [hfk] at hcf0 hcl0 hf0
  have hf0' : (fk : Int) < (N : Int) := by omega
  have hf00 : (0 : Int) ≤ (fk : Int) := by omega
  have hn0' : (0 : Int) < (n : Int) := by omega
  have hsT' : (X.size : Int) = (len : Int) := by omega
  have HFL := hide (show ∀ wz, Below w0.heap.size w0 wz → wz.cell? ⟨gf, of0, none⟩ = some (.int .i64 (fk : Int)) ∧ wz.cell? ⟨gl, ol + fk, none⟩ = some (.string X) from fun wz h => ⟨(h.cell (p := ⟨gf, of0, none⟩) hgf).trans hcf0, (h.cell (p := ⟨gl, ol + fk, none⟩) hgl).trans hcl0⟩)
  have HM := hide (And.intro hL (And.intro hF (And.intro hS (And.intro hf (And.intro hN (And.intro hfN (And.intro hcc (And.intro hsz hD))))))))
  have HQ := hide hQ
  clear hL hF hS hf hN hfN hcc hsz hD hQ hm1 hm2 hcf0 hcl0 ef el hX hfk hgf hgl hsT
  go_wp2_with fail
  rename_i K9 aK9
  have hK : ∀ (wx : World) (vx : Nat → Value) (_ : RR w0.heap.size 51 5 wx (.slice (some ⟨go, 0, none⟩) n n) n vx (fun _ => gW len (fun _ => g0))) (_ : Below w0.heap.size w0 wx) (t3 t4 t5 t6 t8 t9 t10 t11 t13 t14 t15 t16 t17 t18 t19 t20 t21 t22 t23 t24 t25 t26 t27 t28 t29 t30 t31 t32 t33 t34 t35 t36 t37 t38 t39 t40 t41 t42 t43 t44 t45 t46 t47 t48 t49 t50 t51 t52 t53 t54 t55 t56 t57 t58 t59 t60 t61 t62 t63 t64 t65 t66 t67 t68 t69 t70 t71 t72 t73 t74 t75 t76 t77 t78 t79 t80 t81 t82 t83 t84 t85 t86 t87 t88 t89 t90 t91 t92 t93 t94 t95 t96 t97 t98 t99 t100 t101 t102 t103 t104 t105 t106 t107 t108 t109 t110 t111 t112 t113 t114 t115 t116 t117 t118 t119 t120 t121 t122 t123 t124 t125 t126 t127 t128 t129 t130 t131 t132 t133 t134 t135 t136 t137 t138 t139 t140 t141 t142 t143 t144 t145 t146 t147 : Value), K9 ⟨#[.slice (some ⟨gl, ol, none⟩) N c, .int .i64 (n : Int), .slice (some ⟨gf, of0, none⟩) n cf, t3, t4, t5, t6, .slice (some ⟨gs, 0, none⟩) n cs, t8, t9, t10, t11, .slice (some ⟨go, 0, none⟩) n n, t13, t14, t15, t16, t17, t18, t19, t20, t21, t22, t23, t24, t25, t26, t27, t28, t29, t30, t31, t32, t33, t34, t35, t36, t37, t38, t39, t40, t41, t42, t43, t44, t45, t46, t47, t48, t49, t50, t51, t52, t53, t54, t55, t56, t57, t58, t59, t60, t61, t62, t63, t64, t65, t66, t67, t68, t69, t70, t71, t72, t73, t74, t75, t76, t77, t78, t79, t80, t81, t82, t83, t84, t85, t86, t87, t88, t89, t90, t91, t92, t93, t94, t95, t96, t97, t98, t99, t100, t101, t102, t103, t104, t105, t106, t107, t108, t109, t110, t111, t112, t113, t114, t115, t116, t117, t118, t119, t120, t121, t122, t123, t124, t125, t126, t127, t128, t129, t130, t131, t132, t133, t134, t135, t136, t137, t138, t139, t140, t141, t142, t143, t144, t145, t146, t147], []⟩ wx := fun wx vx q1 q2 t3 t4 t5 t6 t8 t9 t10 t11 t13 t14 t15 t16 t17 t18 t19 t20 t21 t22 t23 t24 t25 t26 t27 t28 t29 t30 t31 t32 t33 t34 t35 t36 t37 t38 t39 t40 t41 t42 t43 t44 t45 t46 t47 t48 t49 t50 t51 t52 t53 t54 t55 t56 t57 t58 t59 t60 t61 t62 t63 t64 t65 t66 t67 t68 t69 t70 t71 t72 t73 t74 t75 t76 t77 t78 t79 t80 t81 t82 t83 t84 t85 t86 t87 t88 t89 t90 t91 t92 t93 t94 t95 t96 t97 t98 t99 t100 t101 t102 t103 t104 t105 t106 t107 t108 t109 t110 t111 t112 t113 t114 t115 t116 t117 t118 t119 t120 t121 t122 t123 t124 t125 t126 t127 t128 t129 t130 t131 t132 t133 t134 t135 t136 t137 t138 t139 t140 t141 t142 t143 t144 t145 t146 t147 => aK9 _ _ (by
    exact fndD_walk wx w0.heap.size N n c cf cs gl ol gf of0 gs go len L f cc D vx (unhide HM).2.2.2.1 (unhide HM).2.2.2.2.2.2.2.2 (unhide HM).2.2.2.2.1 (unhide HM).2.2.2.2.2.1 (unhide HM).2.2.2.2.2.2.1 hl1 hl2 (unhide HM).2.2.2.2.2.2.2.1 q2.size ((unhide HM).1.below q2) ((unhide HM).2.1.below q2) ((unhide HM).2.2.1.below q2) q1 _ (fun x w' h1 h2 => unhide HQ x w' h1 (q2.trans h2)) t3 t4 t5 t6 t8 t9 t10 t11 t13 t14 t15 t16 t17 t18 t19 t20 t21 t22 t23 t24 t25 t26 t27 t28 t29 t30 t31 t32 t33 t34 t35 t36 t37 t38 t39 t40 t41 t42 t43 t44 t45 t46 t47 t48 t49 t50 t51 t52 t53 t54 t55 t56 t57 t58 t59 t60 t61 t62 t63 t64 t65 t66 t67 t68 t69 t70 t71 t72 t73 t74 t75 t76 t77 t78 t79 t80 t81 t82 t83 t84 t85 t86 t87 t88 t89 t90 t91 t92 t93 t94 t95 t96 t97 t98 t99 t100 t101 t102 t103 t104 t105 t106 t107 t108 t109 t110 t111 t112 t113 t114 t115 t116 t117 t118 t119 t120 t121 t122 t123 t124 t125 t126 t127 t128 t129 t130 t131 t132 t133 t134 t135 t136 t137 t138 t139 t140 t141 t142 t143 t144 t145 t146 t147)
  have HK := hide hK
  clear hK aK9 HQ HM hmk
  go_loopw [13] (fun i wr => ∃ (k : Nat) (vx : Nat → Value), k ≤ n ∧ i = .int .i64 (k : Int) ∧ Hid (RR w0.heap.size 51 5 wr (.slice (some ⟨go, 0, none⟩) n n) n vx (fun i => if i < k then gW len (fun _ => g0) else []) ∧ Below w0.heap.size w0 wr)) (fun i _ => n - (intOf i).toNat)
  case atStart => exact ⟨0, _, by omega, rfl, X0⟩
  case round =>
  obtain ⟨k, vx, hk, rfl, HS⟩ := hrel
  obtain ⟨wi, rfl⟩ : ∃ q, q = wr := ⟨_, rfl⟩
  clear X0
  by_cases hkn : k < n
  case neg =>
    obtain rfl : k = n := by omega
    have hkn' : ¬ (k : Int) < (k : Int) := by omega
    have HX := hide ((unhide HS).1.congr (D := fun _ => gW len (fun _ => g0)) (fun i hi => if_pos hi))
    go_wp2_with fail
    exact unhide HK wi vx (unhide HX) (unhide HS).2 _ _ _ _ _ _ _ _ _ _ _ _ _ _ _ _ _ _ _ _ _ _ _ _ _ _ _ _ _ _ _ _ _ _ _ _ _ _ _ _ _ _ _ _ _ _ _ _ _ _ _ _ _ _ _ _ _ _ _ _ _ _ _ _ _ _ _ _ _ _ _ _ _ _ _ _ _ _ _ _ _ _ _ _ _ _ _ _ _ _ _ _ _ _ _ _ _ _ _ _ _ _ _ _ _ _ _ _ _ _ _ _ _ _ _ _ _ _ _ _ _ _ _ _ _ _ _ _ _ _ _ _ _ _ _ _ _ _ _ _ _ _ _
  have hkn' : (k : Int) < (n : Int) := by omega
  have hk0 : (0 : Int) ≤ (k : Int) := by omega
  clear HK
  obtain ⟨hcf, hcl⟩ := unhide HFL wi (unhide HS).2
  obtain ⟨wy, hmk, hy1, hy2⟩ := run_make_full (P := Tryd.prog) wi wi.heap.size 51 5 iu (.int .u8 0) 1 Tryd.underlying51 (unhide HJ).1 (unhide HJ).2.1 (unhide HJ).2.2.1 .i64 .i64 len (by rw [(unhide HJ).2.2.2]; omega) (by unfold maxLen; omega) (Nat.le_refl _)
  rw [mzB] at hy1
  have hby : Below wi.heap.size wi wy := (Below.refl _ _).grown hy2 (Nat.le_refl _) (fun q hq => by cases hq)
  have hbs := (unhide HS).2.size
  obtain ⟨go2, e0, hco, hfo, _, hgw⟩ := (unhide HS).1.at k hkn
  obtain rfl : go = go2 := by injection e0 with e0; injection e0
  have hcy : wy.cell? ⟨go, k, none⟩ = some (vx k) := (hby.cell (p := ⟨go, k, none⟩) hgw).trans hco
  have hfy : wy.frozen? ⟨go, k, none⟩ = false := (hby.frozen (p := ⟨go, k, none⟩) hgw).trans hfo
  have HNEW := hide (show ∃ vx, RR w0.heap.size 51 5 (wy.setCell ⟨go, k, none⟩ (.slice (some ⟨wi.heap.size, 0, none⟩) len len)) (.slice (some ⟨go, 0, none⟩) n n) n vx (fun i => if i < k + 1 then gW len (fun _ => g0) else []) ∧ Below w0.heap.size w0 (wy.setCell ⟨go, k, none⟩ (.slice (some ⟨wi.heap.size, 0, none⟩) len len)) from by
    have hg := (unhide HS).1.grow (w1 := wy) (by decide) k hkn go n rfl (gW len (fun _ => g0)) wi.heap.size len (by rw [gW_len]; exact gr_mono hy1 hbs) ⟨hy2.os, hy2.tape, hy2.output, hy2.size, fun q hq _ => hy2.block q hq (by simp)⟩ (.inr (Nat.le_refl _))
    rw [gW_len] at hg
    refine ⟨_, hg.congr (fun i _ => ?_), ((unhide HS).2.trans (hby.mono hbs)).setCell (p := ⟨go, k, none⟩) (by rw [unhide HGO]; exact Nat.le_refl _) _⟩
    by_cases e : i = k
    · rw [if_pos e, if_pos (by omega)]
    · rw [if_neg e]
      by_cases e2 : i < k
      · rw [if_pos e2, if_pos (by omega)]
      · rw [if_neg e2, if_neg (by omega)])
  obtain ⟨gi, hgi⟩ : ∃ q, wi.heap.size = q := ⟨_, rfl⟩
  rw [hgi] at HNEW hmk
  clear hy1 hy2 hby hco hfo e0 hgi HS
  go_wp2
  go_roundw
  case rel =>
    obtain ⟨v2, h2, h3⟩ := unhide HNEW
    exact ⟨k + 1, v2, by omega, by go_num, hide ⟨h2, h3⟩⟩
  case measure => simp [intOf] <;> omega
set_option maxHeartbeats 8000000 in
/-- What the first ones say of the shards of data. -/
theorem rfound_any (w : World) (L : List ByteArray) (B N n c cf len : Nat) (p pf : Option Addr) (f : Nat → Nat) (y : Nat → Nat → G) (hN : L.length = N) (hf : Fst n f) (hfN : ∀ r, r < n → f r < N) (hl1 : 1 ≤ len) (hl2 : len ≤ 60004) (hsz : ∀ r, r < n → sz L (f r) = len) (hL : GTx w B p L) (hF : GLs w B pf ((List.range n).map (fun r => (f r : Int)))) (hB : B ≤ w.heap.size) (hy : ∀ q, q < len → ∀ r, r < n → rK n (y q) (wt n (f r)) = gB (L.getD (f r) ByteArray.empty) q) :
    Calls Tryd.prog 38 #[.slice p N c, .int .i64 (n : Int), .slice pf n cf] w fun e w' => ∃ x, e = .returned x ∧ w'.ownsRow w.heap.size 9 1 x n (((List.range n).map (fun i => strOfNums (gL len (fun q => y q i)))).map Value.string) ∧ Below w.heap.size w w' := by
  have hn1 := hf.n1
  have hn2 := hf.n2
  obtain ⟨gf, of0, rfl, hgf, _⟩ := hF 0 (by simp; omega)
  obtain ⟨gl, ol, rfl, hgl, _⟩ := hL (f 0) (by rw [hN]; exact hfN 0 (by omega))
  have HFL := hide (show ∀ wz k, Below w.heap.size w wz → k < n → wz.cell? ⟨gf, of0 + k, none⟩ = some (.int .i64 (f k : Int)) from fun wz k h hk => by
    obtain ⟨g2, o2, e2, hg2, hc2⟩ := hF k (by simp; exact hk)
    obtain ⟨rfl, rfl⟩ : gf = g2 ∧ of0 = o2 := by injection e2 with e2; injection e2 with e3 e4; exact ⟨e3, e4⟩
    rw [show ((List.range n).map (fun r => (f r : Int))).getD k 0 = (f k : Int) from by rw [List.getD_eq_getElem?_getD, List.getElem?_map, List.getElem?_range hk]; rfl] at hc2
    exact (h.cell (p := ⟨gf, of0 + k, none⟩) (by show gf < w.heap.size; omega)).trans hc2)
  obtain ⟨cc, hcc⟩ : ∃ cc : Nat → Nat → G, ∀ r, ∀ i, i < n → rK n (cc r) (wt n (f i)) = if i = r then g1 else g0 := ⟨fun r => Classical.choose (hf.data (fun i => if i = r then g1 else g0)), fun r i hi => Classical.choose_spec (hf.data (fun i => if i = r then g1 else g0)) i hi⟩
  obtain ⟨D, hD⟩ : ∃ D : Nat → Nat → G, ∀ s q, D s q = gB (L.getD (f s) ByteArray.empty) q := ⟨fun s q => gB (L.getD (f s) ByteArray.empty) q, fun _ _ => rfl⟩
  have HEQ := hide (show ((List.range n).map (fun i => strOfNums (gL len (acc cc D n i)))) = ((List.range n).map (fun i => strOfNums (gL len (fun q => y q i)))) from List.map_congr_left (fun i hi => by
    have hi' := List.mem_range.1 hi
    congr 1
    exact gL_congr (fun q hq => found_eq hf cc (fun r _ => hcc r) (fun r => D r q) (y q) (fun r hr => (hy q hq r hr).trans (hD r q).symm) i hi')))
  obtain ⟨i0, hi, hz0, hz1, hz2⟩ := info_parts gr_int
  have HI := hide (And.intro hi (And.intro hz0 (And.intro hz1 hz2)))
  clear hi hz0 hz1 hz2
  obtain ⟨i9, hi, hz0, hz1, hz2⟩ := info_parts gr_rows
  have HJ := hide (And.intro hi (And.intro hz0 (And.intro hz1 hz2)))
  clear hi hz0 hz1 hz2
  have HM := hide (And.intro (gtx_up hL hB) (And.intro (gls_up hF hB) (And.intro hf (And.intro hN (And.intro hfN (And.intro hcc (And.intro hsz hD)))))))
  have HLT := hide hf.lt
  clear hL hF hf hN hfN hcc hsz hD hy hgf hgl hB
  go_enter Tryd.func38, Tryd.ntmps38
  go_wp2_with fail
  rename_i K9 aK9
  have hK : ∀ (wx : World) (vx : Nat → Value) (gs cs : Nat) (_ : RR w.heap.size 40 3 wx (.slice (some ⟨gs, 0, none⟩) n cs) n vx (fun r => gV n (wt n (f r)))) (_ : Below w.heap.size w wx) (t3 t4 t5 t6 t8 t9 t10 t11 t12 t13 t14 t15 t16 t17 t18 t19 t20 t21 t22 t23 t24 t25 t26 t27 t28 t29 t30 t31 t32 t33 t34 t35 t36 t37 t38 t39 t40 t41 t42 t43 t44 t45 t46 t47 t48 t49 t50 t51 t52 t53 t54 t55 t56 t57 t58 t59 t60 t61 t62 t63 t64 t65 t66 t67 t68 t69 t70 t71 t72 t73 t74 t75 t76 t77 t78 t79 t80 t81 t82 t83 t84 t85 t86 t87 t88 t89 t90 t91 t92 t93 t94 t95 t96 t97 t98 t99 t100 t101 t102 t103 t104 t105 t106 t107 t108 t109 t110 t111 t112 t113 t114 t115 t116 t117 t118 t119 t120 t121 t122 t123 t124 t125 t126 t127 t128 t129 t130 t131 t132 t133 t134 t135 t136 t137 t138 t139 t140 t141 t142 t143 t144 t145 t146 t147 : Value), K9 ⟨#[.slice (some ⟨gl, ol, none⟩) N c, .int .i64 (n : Int), .slice (some ⟨gf, of0, none⟩) n cf, t3, t4, t5, t6, .slice (some ⟨gs, 0, none⟩) n cs, t8, t9, t10, t11, t12, t13, t14, t15, t16, t17, t18, t19, t20, t21, t22, t23, t24, t25, t26, t27, t28, t29, t30, t31, t32, t33, t34, t35, t36, t37, t38, t39, t40, t41, t42, t43, t44, t45, t46, t47, t48, t49, t50, t51, t52, t53, t54, t55, t56, t57, t58, t59, t60, t61, t62, t63, t64, t65, t66, t67, t68, t69, t70, t71, t72, t73, t74, t75, t76, t77, t78, t79, t80, t81, t82, t83, t84, t85, t86, t87, t88, t89, t90, t91, t92, t93, t94, t95, t96, t97, t98, t99, t100, t101, t102, t103, t104, t105, t106, t107, t108, t109, t110, t111, t112, t113, t114, t115, t116, t117, t118, t119, t120, t121, t122, t123, t124, t125, t126, t127, t128, t129, t130, t131, t132, t133, t134, t135, t136, t137, t138, t139, t140, t141, t142, t143, t144, t145, t146, t147], []⟩ wx := fun wx vx gs cs q1 q2 t3 t4 t5 t6 t8 t9 t10 t11 t12 t13 t14 t15 t16 t17 t18 t19 t20 t21 t22 t23 t24 t25 t26 t27 t28 t29 t30 t31 t32 t33 t34 t35 t36 t37 t38 t39 t40 t41 t42 t43 t44 t45 t46 t47 t48 t49 t50 t51 t52 t53 t54 t55 t56 t57 t58 t59 t60 t61 t62 t63 t64 t65 t66 t67 t68 t69 t70 t71 t72 t73 t74 t75 t76 t77 t78 t79 t80 t81 t82 t83 t84 t85 t86 t87 t88 t89 t90 t91 t92 t93 t94 t95 t96 t97 t98 t99 t100 t101 t102 t103 t104 t105 t106 t107 t108 t109 t110 t111 t112 t113 t114 t115 t116 t117 t118 t119 t120 t121 t122 t123 t124 t125 t126 t127 t128 t129 t130 t131 t132 t133 t134 t135 t136 t137 t138 t139 t140 t141 t142 t143 t144 t145 t146 t147 => aK9 _ _ (by
    exact fndC_walk wx N n c cf cs gl ol gf of0 gs len L f cc D (unhide HM).2.2.1 (unhide HM).2.2.2.2.2.2.2 (unhide HM).2.2.2.1 (unhide HM).2.2.2.2.1 (fun r _ => (unhide HM).2.2.2.2.2.1 r) hl1 hl2 (unhide HM).2.2.2.2.2.2.1 (gtx_up ((unhide HM).1.below q2) q2.size) (gls_up ((unhide HM).2.1.below q2) q2.size) (RR.sqL hn1 q1) _ (fun x w' h1 h2 => by
      rw [unhide HEQ] at h1
      exact ⟨x, rfl, gr_mono h1 q2.size, q2.trans (h2.mono q2.size)⟩) t3 t4 t5 t6 t8 t9 t10 t11 t12 t13 t14 t15 t16 t17 t18 t19 t20 t21 t22 t23 t24 t25 t26 t27 t28 t29 t30 t31 t32 t33 t34 t35 t36 t37 t38 t39 t40 t41 t42 t43 t44 t45 t46 t47 t48 t49 t50 t51 t52 t53 t54 t55 t56 t57 t58 t59 t60 t61 t62 t63 t64 t65 t66 t67 t68 t69 t70 t71 t72 t73 t74 t75 t76 t77 t78 t79 t80 t81 t82 t83 t84 t85 t86 t87 t88 t89 t90 t91 t92 t93 t94 t95 t96 t97 t98 t99 t100 t101 t102 t103 t104 t105 t106 t107 t108 t109 t110 t111 t112 t113 t114 t115 t116 t117 t118 t119 t120 t121 t122 t123 t124 t125 t126 t127 t128 t129 t130 t131 t132 t133 t134 t135 t136 t137 t138 t139 t140 t141 t142 t143 t144 t145 t146 t147)
  have HK := hide hK
  clear hK aK9 HEQ HM
  go_loopw [7, 8, 9, 10] (fun u i _ _ wr => ∃ (k : Nat) (vx : Nat → Value), k ≤ n ∧ i = .int .i64 (k : Int) ∧ Hid (RR w.heap.size 40 3 wr u k vx (fun r => gV n (wt n (f r))) ∧ Below w.heap.size w wr)) (fun _ i _ _ _ => n - (intOf i).toNat)
  case atStart => exact ⟨0, fun _ => .slice none 0 0, by omega, rfl, hide ⟨RR.new _ _ _ _ _ _, Below.refl _ _⟩⟩
  case round =>
  obtain ⟨k, vx, hk, rfl, HR⟩ := hrel
  obtain ⟨wk, rfl⟩ : ∃ q, q = wr := ⟨_, rfl⟩
  obtain ⟨pu, cu, rfl, _⟩ := gr_form (unhide HR).1.row
  have hbs := (unhide HR).2.size
  by_cases hkn : k < n
  case neg =>
    obtain rfl : k = n := by omega
    have hkn' : ¬ (k : Int) < (k : Int) := by omega
    obtain ⟨gs, rfl, _, _, _, _⟩ := (unhide HR).1.at 0 (by omega)
    go_wp2_with fail
    exact unhide HK wk vx gs cu (unhide HR).1 (unhide HR).2 _ _ _ _ _ _ _ _ _ _ _ _ _ _ _ _ _ _ _ _ _ _ _ _ _ _ _ _ _ _ _ _ _ _ _ _ _ _ _ _ _ _ _ _ _ _ _ _ _ _ _ _ _ _ _ _ _ _ _ _ _ _ _ _ _ _ _ _ _ _ _ _ _ _ _ _ _ _ _ _ _ _ _ _ _ _ _ _ _ _ _ _ _ _ _ _ _ _ _ _ _ _ _ _ _ _ _ _ _ _ _ _ _ _ _ _ _ _ _ _ _ _ _ _ _ _ _ _ _ _ _ _ _ _ _ _ _ _ _ _ _ _ _ _
  have hkn' : (k : Int) < (n : Int) := by omega
  have hk0 : (0 : Int) ≤ (k : Int) := by omega
  clear HK
  have hfk8 := unhide HLT k hkn
  obtain ⟨fk, hfk⟩ : ∃ q, f k = q := ⟨_, rfl⟩
  have HFK := hide (show ∀ wz, Below w.heap.size w wz → wz.cell? ⟨gf, of0 + k, none⟩ = some (.int .i64 (fk : Int)) from fun wz h => by rw [← hfk]; exact unhide HFL wz k h hkn)
  rw [hfk] at hfk8
  have HFQ := hide hfk
  clear hfk
  go_wp2
  go_loopw [9, 10] (fun u i wr => ∃ j : Nat, j ≤ n ∧ i = .int .i64 (j : Int) ∧ Hid (wr.ownsRow wk.heap.size 3 1 u j (gV j (wt n fk)) ∧ Below wk.heap.size wk wr)) (fun _ i _ => n - (intOf i).toNat)
  case atStart => exact ⟨0, by omega, rfl, hide ⟨World.ownsRow_nil _ _ _ _, Below.refl _ _⟩⟩
  case round =>
  obtain ⟨j, hj, rfl, HJW⟩ := hrel
  obtain ⟨wj, rfl⟩ : ∃ q, q = wr := ⟨_, rfl⟩
  obtain ⟨pw, cw, rfl, _⟩ := gr_form (unhide HJW).1
  have hjs := (unhide HJW).2.size
  by_cases hjn : j < n
  case pos =>
    have hjn' : (j : Int) < (n : Int) := by omega
    have hj0 : (0 : Int) ≤ (j : Int) := by omega
    have hcf := unhide HFK wj ((unhide HR).2.trans ((unhide HJW).2.mono hbs))
    have HW := hide (fun W => rweight_any n fk j hn2 hfk8 hjn W)
    obtain ⟨wv, hwv⟩ : ∃ q, wt n fk j = q := ⟨_, rfl⟩
    rw [hwv] at HW
    have HO := hide (show (wj.alloc (.cells #[.int .i64 (wv.v : Int)] 3)).ownsRow wk.heap.size 3 1 (.slice pw j cw) j (gV j (wt n fk)) from (unhide HJW).1.alloc _)
    have HWV := hide hwv
    clear hwv
    go_wp2_with fail
    refine (unhide HW _).mono ?_
    rintro e w' ⟨rfl, hw'⟩
    subst w'
    clear HW
    go_wp2_with (refine wpList_append_lies _ rfl (.tmp 40) (.tmp 42) 40 rfl wk.heap.size 3 i0 (.int .i64 0) 1 8 Tryd.underlying40 (unhide HI).1 (unhide HI).2.1 (unhide HI).2.2.1 (unhide HI).2.2.2 rfl (by decide) _ j _ rfl (unhide HO) ⟨wj.heap.size, 0, none⟩ 1 1 [.int .i64 (wv.v : Int)] rfl rfl (fun q u hu => gr_new wj 3 _ q u hu) (by simp [Value.oneCell']) (by decide) (by unfold maxLen; omega) (by omega) (by simp; omega) (wj.heap.size + 1) (by simp) ?_)
    intro g5 cap5 x5 ho5 hg5 _ _
    have HN := hide (show x5.ownsRow wk.heap.size 3 1 (.slice (some ⟨g5, 0, none⟩) (j + 1) cap5) (j + 1) (gV (j + 1) (wt n fk)) ∧ Below wk.heap.size wk x5 from ⟨by
      rw [gV_succ, unhide HWV]
      exact ho5, ((unhide HJW).2.alloc (unhide HJW).2.size _).grown hg5 (by simp; omega) (fun q hq => ((unhide HO).lt q hq).1)⟩)
    clear ho5 hg5 HO HJW
    go_wp2
    go_roundw
    case rel => exact ⟨j + 1, by omega, by go_num, HN⟩
    case measure => simp [intOf] <;> omega
  obtain rfl : j = n := by omega
  have hjn' : ¬ (j : Int) < (j : Int) := by omega
  have HR2 := hide ((((unhide HR).1.below (unhide HJW).2).congrV (x := fun i => if i = k then .slice pw j cw else vx i) (fun i hi => by rw [if_neg (by omega)])).below ((Below.refl _ wj).alloc (Nat.le_refl _) (.cells #[.slice pw j cw] 40)))
  have HRO := hide (unhide HR2).row
  go_wp2_with (refine wpList_append_lies _ rfl (.tmp 44) (.tmp 46) 86 rfl w.heap.size 40 i9 (.slice none 0 0) 1 24 Tryd.underlying86 (unhide HJ).1 (unhide HJ).2.1 (unhide HJ).2.2.1 (unhide HJ).2.2.2 rfl (by decide) _ k _ rfl (unhide HRO) ⟨wj.heap.size, 0, none⟩ 1 1 [.slice pw j cw] rfl rfl (fun q u hu => gr_new wj 40 _ q u hu) (by simp [Value.oneCell']) (by decide) (by unfold maxLen; omega) (by omega) (by simp; omega) (wj.heap.size + 1) (by simp) ?_)
  intro g3 c3 w3 ho3 hg3 _ _
  have HN := hide (show RR w.heap.size 40 3 w3 (.slice (some ⟨g3, 0, none⟩) (k + 1) c3) (k + 1) (fun i => if i = k then .slice pw j cw else vx i) (fun r => gV j (wt j (f r))) ∧ Below w.heap.size w w3 from by
    have hwb : Below w.heap.size w wj := (unhide HR).2.trans ((unhide HJW).2.mono hbs)
    refine ⟨(unhide HR2).push (by decide) (.slice pw j cw) (gV j (wt j fk)) ?_ ?_ (by simp) (by show gV j (wt j (f k)) = _; rw [unhide HFQ]) ho3 hg3, (hwb.alloc hwb.size _).grown hg3 (by have := hwb.size; simp; omega) (fun q hq => ((unhide HRO).lt q hq).1)⟩
    · rw [gV_len]
      exact gr_mono ((unhide HJW).1.alloc _) hbs
    · intro i hi y hy q
      rw [if_neg (by omega)] at hy
      have h1 := (((unhide HR).1.own i hi).lt y hy).2
      have h2 := ((unhide HJW).1.lt y q).1
      omega)
  clear ho3 hg3 HR2 HRO HJW HR
  go_wp2
  go_roundw
  case rel => exact ⟨k + 1, _, by omega, by go_num, HN⟩
  case measure => simp [intOf] <;> omega
end Go.Proofs.YtolblldpdgfkmaaDoor
