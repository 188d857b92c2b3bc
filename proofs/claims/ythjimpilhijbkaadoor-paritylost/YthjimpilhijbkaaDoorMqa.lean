import Derived.Test.YthjimpilhijbkaaDoorGqd
import Derived.Test.YthjimpilhijbkaaDoorGla
import Derived.Test.YthjimpilhijbkaaDoorGly
import Derived.StillTailTactics
namespace Go.Proofs.YthjimpilhijbkaaDoor
open Go.RowKit
set_option maxRecDepth 100000
theorem join_part {s : ByteArray} {n m : Nat} {LL : List ByteArray} (h : Part s n m LL) (w : World) (p : Option Addr) (B c : Nat) (hL : GTx w B p LL) (hB : B ≤ w.heap.size) (hc : n + m ≤ c) : Calls Tryd.prog 7 #[.slice p (n + m) c, .int .i64 (n : Int), .int .i64 (m : Int)] w fun e w' => Below w.heap.size w w' ∧ ((thr LL (n + m)).length < n → e = .returned (.tuple #[.string ⟨#[]⟩, .int .i64 182])) ∧ (n ≤ (thr LL (n + m)).length → e = .returned (.tuple #[.string s, .int .i64 0])) := by
  refine (pjoin_any w LL (n + m) n m B c p h.len rfl h.n1 h.n2 h.m8 hL hB h.szb hc).mono ?_
  rintro e w' ⟨hb, _, h2, h3⟩
  refine ⟨hb, h2 h.frm, fun ht => ?_⟩
  obtain ⟨len, y, _, hf, h4, _⟩ := h3 h.frm ht
  have hok := st_ok s n h.n1 h.sz6
  rw [h.str ht hf] at h4
  rw [h4 hok.1, hok.2]
theorem reb_part {s : ByteArray} {n m : Nat} {LL : List ByteArray} (h : Part s n m LL) (w : World) (p : Option Addr) (B c : Nat) (hL : GTx w B p LL) (hB : B ≤ w.heap.size) : Calls Tryd.prog 8 #[.slice p (n + m) c, .int .i64 (n : Int), .int .i64 (m : Int)] w fun e w' => Below w.heap.size w w' ∧ ((thr LL (n + m)).length < n → e = .returned (.tuple #[.slice none 0 0, .int .i64 182])) ∧ (n ≤ (thr LL (n + m)).length → ∃ p' c', e = .returned (.tuple #[.slice p' (n + m) c', .int .i64 0]) ∧ GTx w' w'.heap.size p' (spL s n m)) := by
  refine (preb_any w LL (n + m) n m B c p h.len rfl h.n1 h.n2 h.m8 hL hB h.szb).mono ?_
  rintro e w' ⟨hb, _, h2, h3⟩
  refine ⟨hb, h2 h.frm, fun ht => ?_⟩
  obtain ⟨len, y, p', c', _, hf, e4, ho⟩ := h3 h.frm ht
  refine ⟨p', c', e4, own_gtx (base := w.heap.size) (c := c') (Part.all h.n1 h.n2 h.m8 h.sz6).len ?_⟩
  · have e5 : filL n len y LL (n + m) = (spL s n m).map Value.string := by
      have hl := (Part.all (s := s) h.n1 h.n2 h.m8 h.sz6).len
      unfold filL
      apply List.ext_getElem
      · simp [hl]
      · intro i h1 h2
        rw [List.length_map, hl] at h2
        rw [List.getElem_map, List.getElem_map, List.getElem_range, h.fil ht hf i h2, List.getD_eq_getElem?_getD, List.getElem?_eq_getElem (by rw [hl]; exact h2)]
        rfl
    rw [e5] at ho
    exact ho
theorem wrong_part {s : ByteArray} {n m : Nat} {LL : List ByteArray} (h : Part s n m LL) (w : World) (p : Option Addr) (B c : Nat) (hL : GTx w B p LL) (hB : B ≤ w.heap.size) : Calls Tryd.prog 9 #[.slice p (n + m) c, .int .i64 (n : Int), .int .i64 (m : Int)] w fun e w' => Below w.heap.size w w' ∧ ((thr LL (n + m)).length < n → e = .returned (.tuple #[.bool false, .int .i64 182])) ∧ (n ≤ (thr LL (n + m)).length → e = .returned (.tuple #[.bool false, .int .i64 0])) := by
  refine (pwrong_any w LL (n + m) n m B c p h.len rfl h.n1 h.n2 h.m8 hL hB h.szb).mono ?_
  rintro e w' ⟨hb, _, h2, h3⟩
  refine ⟨hb, h2 h.frm, fun ht => ?_⟩
  obtain ⟨len, y, b, _, hf, e4, h5⟩ := h3 h.frm ht
  have hbf : b = false := by
    cases b with
    | false => rfl
    | true =>
      obtain ⟨k, _, h7, h8, h9⟩ := h5.1 rfl
      exact absurd ((h.sz h7 h8).2.trans ((h.say ht hf).2 k h7).symm) h9
  rw [e4, hbf]
theorem wrong_spoilt {s : ByteArray} {n m : Nat} {LL : List ByteArray} (h : Part s n m LL) (ht : n ≤ (thr LL (n + m)).length) (x : Nat) (hx : x < n + m) (hxs : Go.Proofs.YthjimpilhijbkaaDoor.sz LL x ≠ 0) (y v : Nat) (hy : y < sz LL x) (hv : v < 256) (hv1 : 1 ≤ v) (w : World) (p : Option Addr) (B c : Nat) (hL : GTx w B p (LL.set x (spo (LL.getD x ByteArray.empty) y v))) (hB : B ≤ w.heap.size) : Calls Tryd.prog 9 #[.slice p (n + m) c, .int .i64 (n : Int), .int .i64 (m : Int)] w fun e w' => Below w.heap.size w w' ∧ e = .returned (.tuple #[.bool (decide (n < (thr LL (n + m)).length)), .int .i64 0]) := by
  obtain ⟨h1, h2⟩ := h.sz hx hxs
  have hxl : x < LL.length := by rw [h.len]; exact hx
  obtain ⟨X, hX⟩ : ∃ X, spo (LL.getD x ByteArray.empty) y v = X := ⟨_, rfl⟩
  have hXs : X.size = stN s.size n := by rw [← hX, spo_size]; exact h1
  have hXq : gB X y ≠ gB ((spL s n m).getD x ByteArray.empty) y := by
    rw [← hX, ← h2]
    exact spo_ne _ y v hy hv hv1
  rw [hX] at hL
  have hb9 := stN_big s.size n h.n1 h.sz6
  have hp9 := stN_pos s.size n h.n1
  have hs2 : ∀ j, Go.Proofs.YthjimpilhijbkaaDoor.sz (LL.set x X) j = 0 ↔ Go.Proofs.YthjimpilhijbkaaDoor.sz LL j = 0 := fun j => by
    rw [sz_set LL x j X hxl]
    by_cases q : j = x
    · rw [if_pos q, q]
      exact ⟨fun e => by omega, fun e => absurd e hxs⟩
    · rw [if_neg q]
  have hfr : frm (LL.set x X) (n + m) := ⟨stN s.size n, hb9, fun j hj hs => by
    rw [sz_set LL x j X hxl] at hs ⊢
    by_cases q : j = x
    · rw [if_pos q]; exact hXs
    · rw [if_neg q] at hs ⊢; exact (h.sz hj hs).1⟩
  have hT : thr (LL.set x X) (n + m) = thr LL (n + m) := thr_congr (fun j _ => hs2 j)
  refine (pwrong_any w (LL.set x X) (n + m) n m B c p (by rw [List.length_set]; exact h.len) rfl h.n1 h.n2 h.m8 hL hB (fun j => by
    rw [sz_set LL x j X hxl]
    by_cases q : j = x
    · rw [if_pos q]; omega
    · rw [if_neg q]; exact h.szb j)).mono ?_
  rintro e w' ⟨hb, _, _, h3⟩
  obtain ⟨len, yy, b, _, hf, e4, h5⟩ := h3 hfr (by rw [hT]; exact ht)
  have h6 := h.told ht x hx hxs X hXs y (by omega) hXq hf
  refine ⟨hb, ?_⟩
  have h7 : b = decide (n < (thr LL (n + m)).length) := by
    have h8 := h5.trans h6
    cases b with
    | true => exact (decide_eq_true (h8.1 rfl)).symm
    | false => exact (decide_eq_false (fun q => by have := h8.2 q; cases this)).symm
  rw [e4, h7]
/-- an append of texts that lie anywhere -/
theorem wpList_app_txt (w : World) {ops : Array Oper} {rest : List Oper} {o : Oper} {a : Act} {Q : Exit → Act → World → Prop} (hg : o.guard = none) (s x : Operand) (hop : o.op = .call { callee := .builtin .append, args := #[s, x], argTypes := #[25, 25] }) (base : Nat) (v : Value) (n : Nat) (xs : List Value) (hs : a.eval s = v) (hown : w.ownsRow base 9 1 v n xs) (B : Nat) (p : Addr) (m c : Nat) (L : List ByteArray) (hx : a.eval x = .slice (some p) m c) (hL : L.length = m) (hG : GTx w B (some p) L) (hsz : (n + m) * 16 ≤ 140737488355328) (hbase : base ≤ w.heap.size) (h : ∀ v' w', w'.ownsRow base 9 1 v' (n + m) (xs ++ L.map Value.string) → w.grownBy w' v.ownBlock → wpList Tryd.prog ops Q rest (a.put o.dst v') w') : wpList Tryd.prog ops Q (o :: rest) a w := by
  obtain ⟨i0, hi, hz0, hz1, hz2⟩ := info_parts gr_str
  refine wpList_append_own w hg s x 25 hop base 9 i0 (.string ⟨#[]⟩) 1 16 Tryd.underlying25 hi hz0 hz1 hz2 rfl (by decide) v n xs hs hown p m c (L.map Value.string) hx (by simp [hL]) (fun j u hu => ?_) (by simp [Value.oneCell']) (by unfold maxLen; omega) hsz hbase (fun v' w' h1 h2 _ => h v' w' h1 h2)
  rw [List.getElem?_map] at hu
  by_cases hj : j < L.length
  · obtain ⟨g, o, e, _, hc⟩ := hG j hj
    injection e with e
    subst e
    rw [List.getElem?_eq_getElem hj] at hu
    rw [Addr.add_mid, hc, List.getD_eq_getElem?_getD, List.getElem?_eq_getElem hj]
    simpa using hu
  · rw [List.getElem?_eq_none (by omega)] at hu
    cases hu
end Go.Proofs.YthjimpilhijbkaaDoor
namespace Go.Proofs.YthjimpilhijbkaaDoor
open Go.RowKit
set_option maxRecDepth 100000
theorem split_ok (s : ByteArray) (n m N : Nat) (hN : N = n + m) (hn1 : 1 ≤ n) (hn2 : n ≤ 16) (hm : m ≤ 8) (hs : s.size ≤ 60000) (w : World) : Calls Tryd.prog 6 #[.string s, .int .i64 (n : Int), .int .i64 (m : Int)] w fun e w' => ∃ g c, e = .returned (.tuple #[.slice (some ⟨g, 0, none⟩) N c, .int .i64 0]) ∧ w'.ownsRow w.heap.size 9 1 (.slice (some ⟨g, 0, none⟩) N c) N ((spL s n m).map Value.string) ∧ Below w.heap.size w w' := by
  refine (psplit_any w s (n : Int) (m : Int)).mono ?_
  rintro e w' ⟨hb, _, _, h3⟩
  obtain ⟨v, rfl, ho⟩ := h3 (decide_eq_true (by omega)) hs
  rw [Int.toNat_natCast, Int.toNat_natCast, ← hN] at ho
  obtain ⟨p, c, rfl, _⟩ := gr_form ho
  obtain ⟨g, rfl, _⟩ := gr_cell ho 0 (by omega)
  exact ⟨g, c, rfl, ho, hb⟩
structure LoI (s : ByteArray) (n m N : Nat) (w2 : World) (gt ct : Nat) (LL : List ByteArray) (wr : World) : Prop where
  part : Part s n m LL
  own : wr.ownsRow w2.heap.size 9 1 (.slice (some ⟨gt, 0, none⟩) N ct) N (LL.map Value.string)
  bel : Below w2.heap.size w2 wr
theorem set_str (LL : List ByteArray) (j : Nat) (X : ByteArray) : (LL.map Value.string).set j (.string X) = (LL.set j X).map Value.string := by rw [List.map_set]
theorem own_str {w : World} {b gt ct N : Nat} {LL : List ByteArray} (hl : LL.length = N) (h : w.ownsRow b 9 1 (.slice (some ⟨gt, 0, none⟩) N ct) N (LL.map Value.string)) (j : Nat) (hj : j < N) : w.cell? ⟨gt, j, none⟩ = some (.string (LL.getD j ByteArray.empty)) ∧ w.frozen? ⟨gt, j, none⟩ = false ∧ b ≤ gt ∧ gt < w.heap.size := by
  obtain ⟨g, e, h1, h2, h3, h4⟩ := gr_cell h j hj
  injection e with e
  injection e with e
  subst e
  refine ⟨?_, h2, h3, h4⟩
  rw [h1, List.getElem?_map, List.getElem?_eq_getElem (by omega), List.getD_eq_getElem?_getD, List.getElem?_eq_getElem (by omega)]
  rfl
theorem LoI.less {s : ByteArray} {n m N : Nat} {w2 : World} {gt ct : Nat} {LL : List ByteArray} {wr : World} (h : LoI s n m N w2 gt ct LL wr) (hN : N = n + m) (j : Nat) (hj : j < N) : LoI s n m N w2 gt ct (LL.set j ⟨#[]⟩) (wr.setCell ⟨gt, j, none⟩ (.string ⟨#[]⟩)) := by
  have h9 := own_str (by rw [h.part.len, hN]) h.own j hj
  exact ⟨h.part.less j (by omega), by rw [← set_str]; exact owns_set h.own rfl j _, h.bel.setCell h9.2.2.1 _⟩
theorem emp_nil : (⟨#[]⟩ : ByteArray).toList = [] := by first | simp | decide +kernel | (unfold ByteArray.toList; unfold ByteArray.toList.loop; rfl)
theorem emp_no {S : ByteArray} (h : S.size ≠ 0) : S.toList.isEmpty = false ∧ (S.toList == (⟨#[]⟩ : ByteArray).toList) = false := by
  have h1 : (S.toList == (⟨#[]⟩ : ByteArray).toList) = false := str_ne (fun e => h (by rw [e]; rfl))
  refine ⟨?_, h1⟩
  rw [emp_nil] at h1
  cases q : S.toList with
  | nil => rw [q] at h1; cases h1
  | cons _ _ => rfl
theorem emp_yes {S : ByteArray} (h : S.size = 0) : S.toList.isEmpty = true ∧ (S.toList == (⟨#[]⟩ : ByteArray).toList) = true := by
  have h1 : S = ⟨#[]⟩ := by
    apply nums_inj
    rw [List.eq_nil_of_length_eq_zero (show (nums S).length = 0 by rw [nums_len]; exact h)]
    rfl
  subst h1
  rw [emp_nil]
  decide
theorem GTx.mono {w : World} {B C : Nat} {p : Option Addr} {L : List ByteArray} (h : GTx w B p L) (hc : B ≤ C) : GTx w C p L := fun j hj => by
  obtain ⟨g, o, e, hg, hc2⟩ := h j hj
  exact ⟨g, o, e, by omega, hc2⟩
end Go.Proofs.YthjimpilhijbkaaDoor
namespace Go.Proofs.YthjimpilhijbkaaDoor
open Go.RowKit
set_option maxRecDepth 100000
noncomputable def loF : Code := dropSeq 29 ((Tryd.f3.body).getD .skip)
set_option maxHeartbeats 8000000 in
theorem loF_walk (s : ByteArray) (n m N : Nat) (hN : N = n + m) (W w2 wr : World) (gt ct : Nat) (LL : List ByteArray) (hI : LoI s n m N w2 gt ct LL wr) (hct : N ≤ ct) (hT : (thr LL N).length < n) (hW : Below W.heap.size W w2) (t0 t1 t2 t3 t4 t5 t6 t7 t8 t9 t10 t11 t12 t13 t14 t15 t18 t19 t20 t22 t23 t24 t25 t26 t27 t28 t29 t30 t31 t32 t33 t34 t35 t36 t37 t38 t39 t40 t41 t42 t43 t44 t45 t46 t47 t48 t49 t50 t51 t52 t53 t54 t55 t56 t57 t58 t59 t60 t61 t62 t63 t64 t65 t66 t67 t68 t69 t70 t71 t72 t73 t74 t75 t76 t77 t78 t79 t80 t81 t82 t83 t84 t85 t86 t87 t88 t89 t90 t91 t92 t93 t94 t95 t96 t97 t98 t99 t100 t101 t102 t103 t104 t105 t106 t107 t108 t109 t110 t111 t112 t113 t114 t115 t116 t117 t118 t119 t120 t121 t122 t123 t124 t125 t126 t127 t128 t129 t130 t131 t132 t133 t134 t135 t136 t137 t138 t139 t140 t141 t142 t143 t144 t145 t146 t147 t148 t149 t150 t151 t152 t153 t154 t155 t156 t157 t158 t159 t160 t161 t162 t163 t164 t165 t166 t167 t168 t169 t170 t171 t172 t173 t174 t175 t176 t177 t178 t179 t180 t181 t182 t183 t184 t185 t186 t187 t188 t189 t190 t191 t192 t193 t194 t195 t196 t197 t198 t199 t200 t201 t202 t203 t204 t205 t206 t207 t208 t209 t210 t211 t212 t213 t214 t215 t216 t217 t218 t219 t220 t221 t222 t223 t224 t225 t226 t227 t228 t229 t230 t231 t232 t233 t234 t235 t236 t237 t238 t239 t240 t241 t242 t243 t244 t245 t246 t247 t248 t249 t250 t251 t252 t253 t254 t255 t256 t257 t258 t259 t260 t261 t262 t263 t264 t265 t266 t267 t268 t269 t270 t271 t272 t273 t274 t275 t276 t277 t278 t279 t280 t281 t282 t283 t284 : Value) : Code.wp Tryd.prog loF (bodyPost Tryd.prog Tryd.f3 (fun e w' => e = .returned (.bool true) ∧ Below W.heap.size W w')) ⟨#[t0, t1, t2, t3, t4, t5, t6, t7, t8, t9, t10, t11, t12, t13, t14, t15, .int .i64 (n : Int), .int .i64 (m : Int), t18, t19, t20, .slice (some ⟨gt, 0, none⟩) N ct, t22, t23, t24, t25, t26, t27, t28, t29, t30, t31, t32, t33, t34, t35, t36, t37, t38, t39, t40, t41, t42, t43, t44, t45, t46, t47, t48, t49, t50, t51, t52, t53, t54, t55, t56, t57, t58, t59, t60, t61, t62, t63, t64, t65, t66, t67, t68, t69, t70, t71, t72, t73, t74, t75, t76, t77, t78, t79, t80, t81, t82, t83, t84, t85, t86, t87, t88, t89, t90, t91, t92, t93, t94, t95, t96, t97, t98, t99, t100, t101, t102, t103, t104, t105, t106, t107, t108, t109, t110, t111, t112, t113, t114, t115, t116, t117, t118, t119, t120, t121, t122, t123, t124, t125, t126, t127, t128, t129, t130, t131, t132, t133, t134, t135, t136, t137, t138, t139, t140, t141, t142, t143, t144, t145, t146, t147, t148, t149, t150, t151, t152, t153, t154, t155, t156, t157, t158, t159, t160, t161, t162, t163, t164, t165, t166, t167, t168, t169, t170, t171, t172, t173, t174, t175, t176, t177, t178, t179, t180, t181, t182, t183, t184, t185, t186, t187, t188, t189, t190, t191, t192, t193, t194, t195, t196, t197, t198, t199, t200, t201, t202, t203, t204, t205, t206, t207, t208, t209, t210, t211, t212, t213, t214, t215, t216, t217, t218, t219, t220, t221, t222, t223, t224, t225, t226, t227, t228, t229, t230, t231, t232, t233, t234, t235, t236, t237, t238, t239, t240, t241, t242, t243, t244, t245, t246, t247, t248, t249, t250, t251, t252, t253, t254, t255, t256, t257, t258, t259, t260, t261, t262, t263, t264, t265, t266, t267, t268, t269, t270, t271, t272, t273, t274, t275, t276, t277, t278, t279, t280, t281, t282, t283, t284], []⟩ wr := by
  have hP := hI.part
  have hG : GTx wr wr.heap.size (some ⟨gt, 0, none⟩) LL := own_gtx (by rw [hP.len, hN]) hI.own
  have hWr : Below W.heap.size W wr := hW.trans (hI.bel.mono hW.size)
  have hWs := hWr.size
  rw [hN] at hT hct
  have HJ := hide (join_part hP wr _ _ ct hG (Nat.le_refl _) hct)
  have HR := hide (fun (w4 : World) (h : Below wr.heap.size wr w4) => reb_part hP w4 _ _ ct (hG.below h) h.size)
  have HWr := hide (fun (w4 : World) (h : Below wr.heap.size wr w4) => wrong_part hP w4 _ _ ct (hG.below h) h.size)
  rw [← hN] at HJ HR HWr hT
  have HW := hide hWr
  have HT := hide hT
  clear hP hG hWr hI hT hN hW hct
  conv => arg 2; whnf
  go_wp2_with fail
  refine (unhide HJ).mono ?_
  rintro e w4 ⟨hb4, h4, _⟩
  obtain rfl := h4 (unhide HT)
  have H4 := hide hb4
  have hs4 := hb4.size
  clear hb4 h4
  go_wp2_with fail
  refine (unhide HR _ (unhide H4)).mono ?_
  rintro e w5 ⟨hb5, h5, _⟩
  obtain rfl := h5 (unhide HT)
  have H5 := hide ((unhide H4).trans (hb5.mono hs4))
  have hs5 := (unhide H5).size
  clear hb5 h5
  go_wp2_with fail
  refine (unhide HWr _ (unhide H5)).mono ?_
  rintro e w6 ⟨hb6, h6, _⟩
  obtain rfl := h6 (unhide HT)
  have H6 := hide ((unhide H5).trans (hb6.mono hs5))
  clear hb6 h6
  have HF := hide (show Below W.heap.size W w6 from (unhide HW).trans ((unhide H6).mono hWs))
  go_wp2
  go_ret
  exact ⟨rfl, unhide HF⟩
end Go.Proofs.YthjimpilhijbkaaDoor
namespace Go.Proofs.YthjimpilhijbkaaDoor
open Go.RowKit
set_option maxRecDepth 100000
/-- how far it is round to tg -/
def dsT (tg N k : Nat) : Nat := if k ≤ tg then tg - k else tg + N - k
noncomputable def loE : Code := dropSeq 12 ((Tryd.f3.body).getD .skip)
set_option maxHeartbeats 32000000 in
theorem loE_walk (s : ByteArray) (n m N T : Nat) (hN : N = n + m) (x0 y0 z0 : Int) (hx0 : I64 x0) (hy0 : I64 y0) (hz0 : I64 z0) (W w2 wr : World) (gt ct gl cl : Nat) (LL : List ByteArray) (hI : LoI s n m N w2 gt ct LL wr) (hct : N ≤ ct) (hT : (thr LL N).length = T) (hnT : n ≤ T) (hA : GTx w2 w2.heap.size (some ⟨gl, 0, none⟩) (spL s n m)) (hW : Below W.heap.size W w2) (t1 t2 t3 t7 t8 t9 t10 t11 t12 t13 t14 t15 t19 t20 t23 t24 t25 t26 t27 t28 t29 t30 t31 t32 t33 t34 t35 t36 t37 t38 t39 t40 t41 t42 t43 t44 t45 t46 t47 t48 t49 t50 t51 t52 t53 t54 t55 t56 t57 t58 t59 t60 t61 t62 t63 t64 t65 t66 t67 t68 t69 t70 t71 t72 t73 t74 t75 t76 t77 t78 t79 t80 t81 t82 t83 t84 t85 t86 t87 t88 t89 t90 t91 t92 t93 t94 t95 t96 t97 t98 t99 t100 t101 t102 t103 t104 t105 t106 t107 t108 t109 t110 t111 t112 t113 t114 t115 t116 t117 t118 t119 t120 t121 t122 t123 t124 t125 t126 t127 t128 t129 t130 t131 t132 t133 t134 t135 t136 t137 t138 t139 t140 t141 t142 t143 t144 t145 t146 t147 t148 t149 t150 t151 t152 t153 t154 t155 t156 t157 t158 t159 t160 t161 t162 t163 t164 t165 t166 t167 t168 t169 t170 t171 t172 t173 t174 t175 t176 t177 t178 t179 t180 t181 t182 t183 t184 t185 t186 t187 t188 t189 t190 t191 t192 t193 t194 t195 t196 t197 t198 t199 t200 t201 t202 t203 t204 t205 t206 t207 t208 t209 t210 t211 t212 t213 t214 t215 t216 t217 t218 t219 t220 t221 t222 t223 t224 t225 t226 t227 t228 t229 t230 t231 t232 t233 t234 t235 t236 t237 t238 t239 t240 t241 t242 t243 t244 t245 t246 t247 t248 t249 t250 t251 t252 t253 t254 t255 t256 t257 t258 t259 t260 t261 t262 t263 t264 t265 t266 t267 t268 t269 t270 t271 t272 t273 t274 t275 t276 t277 t278 t279 t280 t281 t282 t283 t284 : Value) : Code.wp Tryd.prog loE (bodyPost Tryd.prog Tryd.f3 (fun e w' => e = .returned (.bool true) ∧ Below W.heap.size W w')) ⟨#[.string s, t1, t2, t3, .int .i64 x0, .int .i64 y0, .int .i64 z0, t7, t8, t9, t10, t11, t12, t13, t14, t15, .int .i64 (n : Int), .int .i64 (m : Int), .slice (some ⟨gl, 0, none⟩) N cl, t19, t20, .slice (some ⟨gt, 0, none⟩) N ct, .int .i64 (T : Int), t23, t24, t25, t26, t27, t28, t29, t30, t31, t32, t33, t34, t35, t36, t37, t38, t39, t40, t41, t42, t43, t44, t45, t46, t47, t48, t49, t50, t51, t52, t53, t54, t55, t56, t57, t58, t59, t60, t61, t62, t63, t64, t65, t66, t67, t68, t69, t70, t71, t72, t73, t74, t75, t76, t77, t78, t79, t80, t81, t82, t83, t84, t85, t86, t87, t88, t89, t90, t91, t92, t93, t94, t95, t96, t97, t98, t99, t100, t101, t102, t103, t104, t105, t106, t107, t108, t109, t110, t111, t112, t113, t114, t115, t116, t117, t118, t119, t120, t121, t122, t123, t124, t125, t126, t127, t128, t129, t130, t131, t132, t133, t134, t135, t136, t137, t138, t139, t140, t141, t142, t143, t144, t145, t146, t147, t148, t149, t150, t151, t152, t153, t154, t155, t156, t157, t158, t159, t160, t161, t162, t163, t164, t165, t166, t167, t168, t169, t170, t171, t172, t173, t174, t175, t176, t177, t178, t179, t180, t181, t182, t183, t184, t185, t186, t187, t188, t189, t190, t191, t192, t193, t194, t195, t196, t197, t198, t199, t200, t201, t202, t203, t204, t205, t206, t207, t208, t209, t210, t211, t212, t213, t214, t215, t216, t217, t218, t219, t220, t221, t222, t223, t224, t225, t226, t227, t228, t229, t230, t231, t232, t233, t234, t235, t236, t237, t238, t239, t240, t241, t242, t243, t244, t245, t246, t247, t248, t249, t250, t251, t252, t253, t254, t255, t256, t257, t258, t259, t260, t261, t262, t263, t264, t265, t266, t267, t268, t269, t270, t271, t272, t273, t274, t275, t276, t277, t278, t279, t280, t281, t282, t283, t284], []⟩ wr := by
  have hP := hI.part
  have hn1 := hP.n1
  have hn2 := hP.n2
  have hm8 := hP.m8
  have hG : GTx wr wr.heap.size (some ⟨gt, 0, none⟩) LL := own_gtx (by rw [hP.len, hN]) hI.own
  have hAr : GTx wr wr.heap.size (some ⟨gl, 0, none⟩) (spL s n m) := (hA.below hI.bel).mono hI.bel.size
  have hTle : n ≤ (thr LL (n + m)).length := by rw [← hN, hT]; exact hnT
  have hTN : T ≤ N := by
    rw [← hT]
    unfold thr
    exact Nat.le_trans (List.length_filter_le _ _) (by rw [List.length_range]; exact Nat.le_refl _)
  have hct2 := hct
  rw [hN] at hct2
  obtain ⟨LA, hLA⟩ : ∃ q, spL s n m = q := ⟨_, rfl⟩
  have hlA : LA.length = N := by rw [← hLA, (Part.all (s := s) hP.n1 hP.n2 hP.m8 hP.sz6).len, hN]
  have HJ := hide (join_part hP wr _ _ ct hG (Nat.le_refl _) hct2)
  have HR := hide (fun (w4 : World) (h : Below wr.heap.size wr w4) => reb_part hP w4 _ _ ct (hG.below h) h.size)
  have HWr := hide (fun (w4 : World) (h : Below wr.heap.size wr w4) => wrong_part hP w4 _ _ ct (hG.below h) h.size)
  have HTL := hide hTle
  rw [← hN] at HJ HR HWr HTL
  rw [hLA] at HR hAr
  obtain ⟨tg, htg1, htg2⟩ : ∃ tg, tg < N ∧ sz LL tg ≠ 0 := by
    have h9 := thr_mem LL N _ (List.getElem_mem (l := thr LL N) (n := 0) (by omega))
    exact ⟨_, h9.1, h9.2⟩
  have HTG := hide htg2
  have HI := hide hI
  have HAR := hide hAr
  have HN := hide hN
  have HT := hide hT
  have HW := hide hW
  have hwr := hI.bel.size
  have hN1 : 1 ≤ N := by omega
  have hN2 : N ≤ 24 := by omega
  have hnN : n ≤ N := by omega
  have hNI : (n : Int) + (m : Int) = (N : Int) := by omega
  have HPX := hide (fun W => pick18_c x0 N hN1 hx0 (N : Int) rfl W)
  have hxl := pickP_lt x0 N hN1
  obtain ⟨xx, hxx⟩ : ∃ q, pickP x0 N = q := ⟨_, rfl⟩
  rw [hxx] at HPX hxl
  have HPZ := hide (fun W => pick18_c z0 255 (by decide) hz0 255 rfl W)
  have hzl := pickP_lt z0 255 (by decide)
  obtain ⟨zz, hzz⟩ : ∃ q, pickP z0 255 = q := ⟨_, rfl⟩
  rw [hzz] at HPZ hzl
  have HY0 := hide hy0
  clear hP hG hAr hA hTle hct2 hLA hN hT hI hW htg2 hxx hx0 hz0 hy0 hzz
  conv => arg 2; whnf
  go_wp2_with fail
  refine (unhide HJ).mono ?_
  rintro e w4 ⟨hb4, _, h4⟩
  obtain rfl := h4 (unhide HTL)
  have H4 := hide hb4
  have hs4 := hb4.size
  clear hb4 h4 HJ
  go_wp2_with fail
  refine (unhide HR _ (unhide H4)).mono ?_
  rintro e w5 ⟨hb5, _, h5⟩
  obtain ⟨p5, c5, rfl, hg5⟩ := h5 (unhide HTL)
  have H5 := hide ((unhide H4).trans (hb5.mono hs4))
  have HG5 := hide hg5
  have hs5 := (unhide H5).size
  clear hb5 h5 HR hg5
  go_wp2_with fail
  refine (unhide HWr _ (unhide H5)).mono ?_
  rintro e w6 ⟨hb6, _, h6⟩
  obtain rfl := h6 (unhide HTL)
  have H6 := hide ((unhide H5).trans (hb6.mono hs5))
  have hs6 := (unhide H6).size
  have HTX := hide (texts18_any w6 p5 (some ⟨gl, 0, none⟩) c5 cl LA LA N N hlA.symm hlA.symm (by omega) (((unhide HG5).below hb6).mono hb6.size) (((unhide HAR).below (unhide H6)).mono hs6))
  rw [dec_true (rfl : LA = LA)] at HTX
  clear hb6 h6 HWr
  go_wp2_with fail
  refine (unhide HTX).mono ?_
  rintro e w7 ⟨rfl, hb7⟩
  have H7 := hide ((unhide H6).trans (hb7.mono hs6))
  have hs7 := (unhide H7).size
  have HI7 := hide (show LoI s n m N w2 gt ct LL w7 from ⟨(unhide HI).part, owns_only (unhide HI).own (Only.of_below (P := fun _ => False) (unhide H7)) (fun _ _ q => q), (unhide HI).bel.trans ((unhide H7).mono hwr)⟩)
  clear hb7 HTX H4 H5 HG5 H6 H7 HI HAR hs4 hs5 hs6 hlA
  go_wp2_with fail
  refine (unhide HPX _).mono ?_
  rintro e wy ⟨rfl, rfl⟩
  clear HPX
  go_wp2
  go_loopw [32] (fun i wr => ∃ k : Nat, k < N ∧ i = .int .i64 (k : Int) ∧ wr = wy) (fun i _ => dsT tg N (intOf i).toNat)
  case atStart => exact ⟨xx, hxl, rfl, rfl⟩
  case round =>
  obtain ⟨k, hk, rfl, rfl⟩ := hrel
  have hkI : (k : Int) < (N : Int) := by omega
  have HCK := hide (own_str (by rw [(unhide HI7).part.len, unhide HN]) (unhide HI7).own k hk)
  have hck := (unhide HCK).1
  by_cases hz : sz LL k = 0
  case pos =>
    have hkt : k ≠ tg := fun e => unhide HTG (by rw [← e]; exact hz)
    obtain ⟨hem, hem2⟩ := emp_yes hz
    obtain ⟨S, hS⟩ : ∃ q, LL.getD k ByteArray.empty = q := ⟨_, rfl⟩
    rw [hS] at hck hem hem2
    obtain ⟨k2, hk2⟩ : ∃ q, q = if k + 1 = N then 0 else k + 1 := ⟨_, rfl⟩
    have hmod : ((k : Int) + 1).tmod (N : Int) = (k2 : Int) := by
      rw [Int.tmod_eq_emod_of_nonneg (by omega)]
      by_cases q : k + 1 = N
      · rw [hk2, if_pos q, show ((k : Int) + 1) = (N : Int) by omega, Int.emod_self]; rfl
      · rw [hk2, if_neg q, Int.emod_eq_of_lt (by omega) (by omega)]; omega
    have hN0 : ((N : Int) == 0) = false := by simp; omega
    have HK2 := hide (show k2 < N ∧ dsT tg N k2 < dsT tg N k from by
      unfold dsT
      by_cases q : k + 1 = N
      · rw [if_pos q] at hk2
        subst hk2
        refine ⟨by omega, ?_⟩
        rw [if_pos (Nat.zero_le _)]
        by_cases q2 : k ≤ tg
        · omega
        · rw [if_neg q2]; omega
      · rw [if_neg q] at hk2
        subst hk2
        refine ⟨by omega, ?_⟩
        by_cases q2 : k ≤ tg
        · rw [if_pos q2, if_pos (by omega)]; omega
        · rw [if_neg q2, if_neg (by omega)]; omega)
    clear hz hS HCK hk2
    go_wp2
    go_roundw
    case rel => exact ⟨k2, (unhide HK2).1, rfl, trivial⟩
    case measure => simpa [intOf] using (unhide HK2).2
  obtain ⟨hem, hem2⟩ := emp_no hz
  obtain ⟨w7, rfl⟩ : ∃ q, q = wr := ⟨_, rfl⟩
  obtain ⟨X, hX⟩ : ∃ q, LL.getD k ByteArray.empty = q := ⟨_, rfl⟩
  have HX := hide hX
  have HZ := hide hz
  have hXs : X.size ≤ 60004 ∧ X.size ≠ 0 := by
    have h1 := ((unhide HI7).part.sz (by rw [← unhide HN]; exact hk) hz).1
    have h2 := stN_big s.size n hn1 (unhide HI7).part.sz6
    have h3 : sz LL k = X.size := by rw [← hX]; rfl
    omega
  obtain ⟨XN, hXN⟩ : ∃ q, X.size = q := ⟨_, rfl⟩
  rw [hXN] at hXs
  have HXN := hide hXN
  rw [hX] at hck hem hem2
  have HPY := hide (fun W => pick18_c y0 XN (by omega) (unhide HY0) (XN : Int) rfl W)
  have hyl := pickP_lt y0 XN (by omega)
  obtain ⟨yy, hyy⟩ : ∃ q, pickP y0 XN = q := ⟨_, rfl⟩
  rw [hyy] at HPY hyl
  obtain ⟨cap, w8, hcv, hbsl, hb8⟩ := Bsl.of_string w7 X (by omega)
  rw [hXN] at hcv
  obtain ⟨gb, hgb⟩ : ∃ q, w7.heap.size = q := ⟨_, rfl⟩
  rw [hgb] at hcv hbsl hb8
  have hAr := hbsl.2.2.2.2.1
  have hylN : yy < (nums X).length := by rw [nums_len, hXN]; exact hyl
  have hcy0 := hAr.get0 yy hylN
  have hfy := hAr.free0 yy hylN
  obtain ⟨bv, hbv⟩ : ∃ q, (nums X).getD yy 0 = q := ⟨_, rfl⟩
  have hcy : w8.cell? ⟨gb, yy, none⟩ = some (.int .u8 bv) := by rw [← hbv]; exact hcy0
  have H8 := hide (And.intro hb8 (And.intro hbsl hgb))
  have hs8 := hb8.size
  have hgb8 := hbsl.2.1
  obtain ⟨zv, hzv⟩ : ∃ q, q = 1 + zz := ⟨_, rfl⟩
  have hzvI : 1 + (zz : Int) = (zv : Int) := by omega
  have hzv2 : zv < 256 ∧ 1 ≤ zv := by omega
  have hwr8 : IntKind.u8.wrap (zv : Int) = (zv : Int) := by
    show ((zv : Int) % 256) = _
    omega
  obtain ⟨xv, hxv⟩ : ∃ q, byN X yy ^^^ zv = q := ⟨_, rfl⟩
  have hxr : bits .xor .u8 bv (zv : Int) = (xv : Int) := by
    rw [← hbv, ← byN_v, xor8q _ _ (byN_lt X yy) hzv2.1, hxv]
  have hXN0 : ((XN : Int) == 0) = false := by simp; omega
  have hyI : (yy : Int) < (XN : Int) := by omega
  have HXV := hide hxv
  clear hz hX HCK hXN hyy hAr hbsl hb8 hcy0 hgb hbv hzv hxv
  go_wp2_with fail
  refine (unhide HPY _).mono ?_
  rintro e wq ⟨rfl, rfl⟩
  have hw64 : wrap64 (zv : Int) = (zv : Int) := wrap64_eq _ (by omega) (by omega)
  have i0 : 0 ≤ (yy : Int) := by omega
  obtain ⟨wa, hwa⟩ : ∃ q, (wq.setCell ⟨gb, yy, none⟩ (.int .u8 (xv : Int))).drew = q := ⟨_, rfl⟩
  have HAR := hide (show Arr wa gb 0 .u8 ((nums X).set yy (xv : Int)) from by
    rw [← hwa]
    exact ((unhide H8).2.1.2.2.2.2.1.set0 yy (by rw [nums_len, unhide HXN]; exact hyl) _).drew)
  have HWA := hide (show Below w7.heap.size w7 wa from by
    rw [← hwa, (unhide H8).2.2]
    exact ((unhide H8).1.setCell (Nat.le_refl _) _).drew)
  have hcv2 := run_convert_bytes_arg (P := Tryd.prog) wa 35 5 Tryd.underlying35 Tryd.underlying5 gb 0 XN cap ((nums X).set yy (xv : Int)) (by rw [List.length_set, nums_len, unhide HXN]) (fun j hj => (unhide HAR).get j (by rw [List.length_set, nums_len, unhide HXN]; exact hj)) 9 Tryd.underlying9
  obtain ⟨Y, hY⟩ : ∃ q, strOfNums ((nums X).set yy (xv : Int)) = q := ⟨_, rfl⟩
  rw [hY] at hcv2
  have HY := hide (show spo X yy zv = Y from by rw [← hY, ← unhide HXV]; rfl)
  have HIA := hide (show LoI s n m N w2 gt ct LL wa from ⟨(unhide HI7).part, owns_only (unhide HI7).own (Only.of_below (P := fun _ => False) (unhide HWA)) (fun _ _ q => q), (unhide HI7).bel.trans ((unhide HWA).mono (unhide HI7).bel.size)⟩)
  have hgt := (own_str (by rw [(unhide HIA).part.len, unhide HN]) (unhide HIA).own k hk)
  obtain ⟨hca, hfa, hgt1, hgt2⟩ := hgt
  rw [unhide HX] at hca
  have HOB := hide (show (wa.setCell ⟨gt, k, none⟩ (.string Y)).ownsRow w2.heap.size 9 1 (.slice (some ⟨gt, 0, none⟩) N ct) N ((LL.set k Y).map Value.string) from by
    rw [← set_str]
    exact owns_set (unhide HIA).own rfl k _)
  obtain ⟨wb, hwb⟩ : ∃ q, wa.setCell ⟨gt, k, none⟩ (.string Y) = q := ⟨_, rfl⟩
  rw [hwb] at HOB
  have HBB := hide (show Below w2.heap.size w2 wb from by rw [← hwb]; exact (unhide HIA).bel.setCell hgt1 _)
  have hsb := (unhide HBB).size
  have HSPW := hide (wrong_spoilt (unhide HI7).part (by rw [← unhide HN]; exact unhide HTL) k (by rw [← unhide HN]; exact hk) (unhide HZ) yy zv (by show yy < (LL.getD k ByteArray.empty).size; rw [unhide HX, unhide HXN]; exact hyl) hzv2.1 hzv2.2 wb (some ⟨gt, 0, none⟩) wb.heap.size ct (by rw [unhide HX, unhide HY]; exact own_gtx (by rw [List.length_set, (unhide HI7).part.len, unhide HN]) (unhide HOB)) (Nat.le_refl _))
  rw [← unhide HN, unhide HT] at HSPW
  have hw8w : IntKind.i64.wrap (zv : Int) = (zv : Int) := wrapI_eq (zv : Int) (by clear hxr hwr8 hw64; omega) (by clear hxr hwr8 hw64; omega)
  have HWAE := hide hwa
  clear hY hcv hwa
  go_wp2_with fail
  refine wp_region_held_drew (S := fun _ => True) (by kernel_rfl) trivial ?_
  intro hS
  refine wpAnyH_takeD 0 (some 195) (.slice (some ⟨gb, 0, none⟩) XN cap) rfl rfl (by kernel_rfl) (by kernel_rfl) (by kernel_rfl) (fun _ _ _ h => h) (Or.inl ⟨by rfl, fun w hSw => by clear hSw; go_simp; try (intro hbad; omega)⟩) hS ?_
  simp only [Act.put, List.setIfInBounds_toArray, List.set_cons_zero, List.set_cons_succ]
  refine wpAnyH_takeD 1 (some 196) (.int .i64 (yy : Int)) rfl rfl (by kernel_rfl) (by kernel_rfl) (by kernel_rfl) (fun _ _ _ h => h) (Or.inl ⟨by rfl, fun w hSw => by clear hSw; go_simp; try (intro hbad; omega)⟩) hS ?_
  simp only [Act.put, List.setIfInBounds_toArray, List.set_cons_zero, List.set_cons_succ]
  refine wpAnyH_takeD 2 (some 197) (.slice (some ⟨gb, 0, none⟩) XN cap) rfl rfl (by kernel_rfl) (by kernel_rfl) (by kernel_rfl) (fun _ _ _ h => h) (Or.inl ⟨by rfl, fun w hSw => by clear hSw; go_simp; try (intro hbad; omega)⟩) hS ?_
  simp only [Act.put, List.setIfInBounds_toArray, List.set_cons_zero, List.set_cons_succ]
  refine wpAnyH_takeD 3 (some 198) (.int .i64 (yy : Int)) rfl rfl (by kernel_rfl) (by kernel_rfl) (by kernel_rfl) (fun _ _ _ h => h) (Or.inl ⟨by rfl, fun w hSw => by clear hSw; go_simp; try (intro hbad; omega)⟩) hS ?_
  simp only [Act.put, List.setIfInBounds_toArray, List.set_cons_zero, List.set_cons_succ]
  refine wpAnyH_takeD 4 (some 199) (.pointer (some ⟨gb, yy, none⟩)) rfl rfl (by kernel_rfl) (by kernel_rfl) (by kernel_rfl) (fun _ _ _ h => h) (Or.inl ⟨by rfl, fun w hSw => by clear hSw; go_simp; try (intro hbad; omega)⟩) hS ?_
  simp only [Act.put, List.setIfInBounds_toArray, List.set_cons_zero, List.set_cons_succ]
  refine wpAnyH_takeD 6 (some 201) (.int .i64 z0) rfl rfl (by kernel_rfl) (by kernel_rfl) (by kernel_rfl) (fun _ _ _ h => h) (Or.inl ⟨by rfl, fun w hSw => by clear hSw; go_simp; try (intro hbad; omega)⟩) hS ?_
  simp only [Act.put, List.setIfInBounds_toArray, List.set_cons_zero, List.set_cons_succ]
  refine wpAnyH_ready (rs := [5, 7]) (by kernel_rfl) (by simp) ?_
  refine AllReadyH.cons rfl (fun K hK => ?_) (AllReadyH.cons rfl (fun K hK => ?_) AllReadyH.nil)
  · simp only [List.getElem_toArray, List.getElem_cons_succ, List.getElem_cons_zero]
    go_simp
    refine hK.out _ _ trivial (fun hS => ?_)
    clear hK K
    refine wpAnyH_ready (rs := [7]) (by kernel_rfl) (by simp) ?_
    refine AllReadyH.cons rfl (fun K hK => ?_) AllReadyH.nil
    simp only [List.getElem_toArray, List.getElem_cons_succ, List.getElem_cons_zero]
    go_simp
    refine (unhide HPZ _).mono ?_
    rintro e w9 ⟨rfl, hw9⟩
    subst w9
    refine hK.out _ _ trivial (fun hS => ?_)
    clear hK K
    refine wpAnyH_takeD 8 (some 203) (.int .i64 (zv : Int)) rfl rfl (by kernel_rfl) (by kernel_rfl) (by kernel_rfl) (fun _ _ _ h => h) (Or.inl ⟨by rfl, fun w hSw => by clear hSw; go_simp; try (intro hbad; omega)⟩) hS ?_
    simp only [Act.put, List.setIfInBounds_toArray, List.set_cons_zero, List.set_cons_succ]
    refine wpAnyH_takeD 9 (some 204) (.int .u8 (zv : Int)) rfl rfl (by kernel_rfl) (by kernel_rfl) (by kernel_rfl) (fun _ _ _ h => h) (Or.inl ⟨by rfl, fun w hSw => by clear hSw; go_simp; try (intro hbad; omega)⟩) hS ?_
    simp only [Act.put, List.setIfInBounds_toArray, List.set_cons_zero, List.set_cons_succ]
    refine wpAnyH_takeD 10 (some 205) (.int .u8 (xv : Int)) rfl rfl (by kernel_rfl) (by kernel_rfl) (by kernel_rfl) (fun _ _ _ h => h) (Or.inl ⟨by rfl, fun w hSw => by clear hSw; go_simp; try (intro hbad; omega)⟩) hS ?_
    simp only [Act.put, List.setIfInBounds_toArray, List.set_cons_zero, List.set_cons_succ]
    refine wpAnyH_takeD 11 (some 206) (.pointer (some ⟨gb, yy, none⟩)) rfl rfl (by kernel_rfl) (by kernel_rfl) (by kernel_rfl) (fun _ _ _ h => h) (Or.inl ⟨by rfl, fun w hSw => by clear hSw; go_simp; try (intro hbad; omega)⟩) hS ?_
    simp only [Act.put, List.setIfInBounds_toArray, List.set_cons_zero, List.set_cons_succ]
    refine wpAnyH_ready (rs := [12]) (by kernel_rfl) (by simp) ?_
    refine AllReadyH.cons rfl (fun K hK => ?_) AllReadyH.nil
    simp only [List.getElem_toArray, List.getElem_cons_succ, List.getElem_cons_zero]
    go_simp
    refine hK.out _ _ trivial (fun hS => ?_)
    clear hK K
    refine wpAnyH_done (by kernel_rfl) ?_ _
    (first | rw [show (wq.setCell ⟨gb, yy, none⟩ (.int .u8 (xv : Int))).drew = wa from unhide HWAE] | rw [show wq.drew.setCell ⟨gb, yy, none⟩ (.int .u8 (xv : Int)) = wa from unhide HWAE])
    clear HPZ HPY hck hcy hfy hem hem2 hxr hwr8 hw64 hw8w hzvI hzv2 hyI hXN0 i0 hyl hzl hXs hxl hkI
    have hkI : (k : Int) < (N : Int) := by omega
    go_wp2_with fail
    refine (unhide HSPW).mono ?_
    rintro e wc ⟨hbc, rfl⟩
    have HBC := hide (show Below w2.heap.size w2 wc from (unhide HBB).trans (hbc.mono hsb))
    have HOC := hide (show wc.ownsRow w2.heap.size 9 1 (.slice (some ⟨gt, 0, none⟩) N ct) N ((LL.set k Y).map Value.string) from owns_only (unhide HOB) (Only.of_below (P := fun _ => False) hbc) (fun _ _ q => q))
    obtain ⟨hcc, hfc, _, _⟩ := own_str (by rw [List.length_set, (unhide HI7).part.len, unhide HN]) (unhide HOC) k hk
    have HID := hide (show LoI s n m N w2 gt ct LL (wc.setCell ⟨gt, k, none⟩ (.string X)) from ⟨(unhide HI7).part, by
      have h9 := owns_set (unhide HOC) rfl k (.string X)
      rw [set_str, List.set_set] at h9
      have e9 : LL.set k X = LL := by
        rw [← unhide HX, List.getD_eq_getElem?_getD, List.getElem?_eq_getElem (by rw [(unhide HI7).part.len, ← unhide HN]; exact hk)]
        exact List.set_getElem_self _
      rw [e9] at h9
      exact h9, (unhide HBC).setCell hgt1 _⟩)
    clear hbc HSPW HBB HOB hca hfa
    obtain ⟨wd, hwd⟩ : ∃ q, wc.setCell ⟨gt, k, none⟩ (.string X) = q := ⟨_, rfl⟩
    rw [hwd] at HID
    obtain ⟨BB, hBB⟩ : ∃ q, decide (n < T) = q := ⟨_, rfl⟩
    have hdT : decide ((n : Int) < (T : Int)) = BB := by
      rw [← hBB]
      exact decide_eq_decide.2 (by omega)
    rw [hBB]
    have hbb : (BB != BB) = false := by simp
    have hbb2 : (!BB == BB) = false := by cases BB <;> rfl
    go_wp2_with fail
    rename_i K aK
    have hK : ∀ (wx : World) (LX : List ByteArray) (_ : LoI s n m N w2 gt ct LX wx) (_ : (thr LX N).length < n) {t0 t1 t2 t3 t4 t5 t6 t7 t8 t9 t10 t11 t12 t13 t14 t15 t18 t19 t20 t22 t23 t24 t25 t26 t27 t28 t29 t30 t31 t32 t33 t34 t35 t36 t37 t38 t39 t40 t41 t42 t43 t44 t45 t46 t47 t48 t49 t50 t51 t52 t53 t54 t55 t56 t57 t58 t59 t60 t61 t62 t63 t64 t65 t66 t67 t68 t69 t70 t71 t72 t73 t74 t75 t76 t77 t78 t79 t80 t81 t82 t83 t84 t85 t86 t87 t88 t89 t90 t91 t92 t93 t94 t95 t96 t97 t98 t99 t100 t101 t102 t103 t104 t105 t106 t107 t108 t109 t110 t111 t112 t113 t114 t115 t116 t117 t118 t119 t120 t121 t122 t123 t124 t125 t126 t127 t128 t129 t130 t131 t132 t133 t134 t135 t136 t137 t138 t139 t140 t141 t142 t143 t144 t145 t146 t147 t148 t149 t150 t151 t152 t153 t154 t155 t156 t157 t158 t159 t160 t161 t162 t163 t164 t165 t166 t167 t168 t169 t170 t171 t172 t173 t174 t175 t176 t177 t178 t179 t180 t181 t182 t183 t184 t185 t186 t187 t188 t189 t190 t191 t192 t193 t194 t195 t196 t197 t198 t199 t200 t201 t202 t203 t204 t205 t206 t207 t208 t209 t210 t211 t212 t213 t214 t215 t216 t217 t218 t219 t220 t221 t222 t223 t224 t225 t226 t227 t228 t229 t230 t231 t232 t233 t234 t235 t236 t237 t238 t239 t240 t241 t242 t243 t244 t245 t246 t247 t248 t249 t250 t251 t252 t253 t254 t255 t256 t257 t258 t259 t260 t261 t262 t263 t264 t265 t266 t267 t268 t269 t270 t271 t272 t273 t274 t275 t276 t277 t278 t279 t280 t281 t282 t283 t284 : Value}, K ⟨#[t0, t1, t2, t3, t4, t5, t6, t7, t8, t9, t10, t11, t12, t13, t14, t15, .int .i64 (n : Int), .int .i64 (m : Int), t18, t19, t20, .slice (some ⟨gt, 0, none⟩) N ct, t22, t23, t24, t25, t26, t27, t28, t29, t30, t31, t32, t33, t34, t35, t36, t37, t38, t39, t40, t41, t42, t43, t44, t45, t46, t47, t48, t49, t50, t51, t52, t53, t54, t55, t56, t57, t58, t59, t60, t61, t62, t63, t64, t65, t66, t67, t68, t69, t70, t71, t72, t73, t74, t75, t76, t77, t78, t79, t80, t81, t82, t83, t84, t85, t86, t87, t88, t89, t90, t91, t92, t93, t94, t95, t96, t97, t98, t99, t100, t101, t102, t103, t104, t105, t106, t107, t108, t109, t110, t111, t112, t113, t114, t115, t116, t117, t118, t119, t120, t121, t122, t123, t124, t125, t126, t127, t128, t129, t130, t131, t132, t133, t134, t135, t136, t137, t138, t139, t140, t141, t142, t143, t144, t145, t146, t147, t148, t149, t150, t151, t152, t153, t154, t155, t156, t157, t158, t159, t160, t161, t162, t163, t164, t165, t166, t167, t168, t169, t170, t171, t172, t173, t174, t175, t176, t177, t178, t179, t180, t181, t182, t183, t184, t185, t186, t187, t188, t189, t190, t191, t192, t193, t194, t195, t196, t197, t198, t199, t200, t201, t202, t203, t204, t205, t206, t207, t208, t209, t210, t211, t212, t213, t214, t215, t216, t217, t218, t219, t220, t221, t222, t223, t224, t225, t226, t227, t228, t229, t230, t231, t232, t233, t234, t235, t236, t237, t238, t239, t240, t241, t242, t243, t244, t245, t246, t247, t248, t249, t250, t251, t252, t253, t254, t255, t256, t257, t258, t259, t260, t261, t262, t263, t264, t265, t266, t267, t268, t269, t270, t271, t272, t273, t274, t275, t276, t277, t278, t279, t280, t281, t282, t283, t284], []⟩ wx := fun wx LX h1 h2  => aK _ _ (loF_walk s n m N (unhide HN) W w2 wx gt ct LX h1 hct h2 (unhide HW) _ _ _ _ _ _ _ _ _ _ _ _ _ _ _ _ _ _ _ _ _ _ _ _ _ _ _ _ _ _ _ _ _ _ _ _ _ _ _ _ _ _ _ _ _ _ _ _ _ _ _ _ _ _ _ _ _ _ _ _ _ _ _ _ _ _ _ _ _ _ _ _ _ _ _ _ _ _ _ _ _ _ _ _ _ _ _ _ _ _ _ _ _ _ _ _ _ _ _ _ _ _ _ _ _ _ _ _ _ _ _ _ _ _ _ _ _ _ _ _ _ _ _ _ _ _ _ _ _ _ _ _ _ _ _ _ _ _ _ _ _ _ _ _ _ _ _ _ _ _ _ _ _ _ _ _ _ _ _ _ _ _ _ _ _ _ _ _ _ _ _ _ _ _ _ _ _ _ _ _ _ _ _ _ _ _ _ _ _ _ _ _ _ _ _ _ _ _ _ _ _ _ _ _ _ _ _ _ _ _ _ _ _ _ _ _ _ _ _ _ _ _ _ _ _ _ _ _ _ _ _ _ _ _ _ _ _ _ _ _ _ _ _ _ _ _ _ _ _ _ _ _ _ _ _ _ _ _ _ _ _ _ _ _ _ _ _ _ _ _ _ _ _ _ _ _ _ _ _ _ _ _)
    have HKF := hide @hK
    clear hK aK
    go_loopw [22, 36] (fun t i wx => ∃ (j U : Nat) (LX : List ByteArray), j ≤ N ∧ i = .int .i64 (j : Int) ∧ t = .int .i64 (U : Int) ∧ U ≤ N ∧ Hid (LoI s n m N w2 gt ct LX wx ∧ (thr LX N).length = U ∧ ∀ q, q < j → sz LX q = 0)) (fun _ i _ => N - (intOf i).toNat)
    case atStart => exact ⟨0, T, LL, by omega, rfl, rfl, hTN, hide ⟨unhide HID, unhide HT, fun q hq => absurd hq (by omega)⟩⟩
    case round =>
    obtain ⟨j, U, LX, hj, rfl, rfl, hU, HL⟩ := hrel
    obtain ⟨wj, rfl⟩ : ∃ q, q = wr := ⟨_, rfl⟩
    by_cases hjN : j < N
    case neg =>
      have hjN' : ¬ (j : Int) < (N : Int) := by omega
      have HU := hide (show (thr LX N).length < n from by
        have h9 : thr LX N = [] := by
          unfold thr
          refine List.filter_eq_nil_iff.2 (fun q hq => ?_)
          rw [(unhide HL).2.2 q (by have := List.mem_range.1 hq; omega)]
          decide
        rw [h9]
        exact hn1)
      go_wp2_with fail
      exact (unhide HKF) wj LX (unhide HL).1 (unhide HU)
    have hjN' : (j : Int) < (N : Int) := by omega
    by_cases hnU : n ≤ U
    case neg =>
      have hnU' : ¬ (n : Int) ≤ (U : Int) := by omega
      have HU := hide (show (thr LX N).length < n from by rw [(unhide HL).2.1]; omega)
      go_wp2_with fail
      exact (unhide HKF) wj LX (unhide HL).1 (unhide HU)
    have hnU' : (n : Int) ≤ (U : Int) := by omega
    obtain ⟨hcj, hfj, _, _⟩ := own_str (by rw [(unhide HL).1.part.len, unhide HN]) (unhide HL).1.own j hjN
    by_cases hzj : sz LX j = 0
    · obtain ⟨hej, hej2⟩ := emp_yes hzj
      have HL2 := hide (show LoI s n m N w2 gt ct LX wj ∧ (thr LX N).length = U ∧ ∀ q, q < j + 1 → sz LX q = 0 from ⟨(unhide HL).1, (unhide HL).2.1, fun q hq => by
        by_cases e : q = j
        · rw [e]; exact hzj
        · exact (unhide HL).2.2 q (by omega)⟩)
      obtain ⟨S, hS⟩ : ∃ q, LX.getD j ByteArray.empty = q := ⟨_, rfl⟩
      rw [hS] at hcj hej hej2
      clear hzj hS
      go_wp2
      go_roundw
      case rel => exact ⟨j + 1, U, LX, by omega, by go_num, rfl, hU, HL2⟩
      case measure => simp [intOf] <;> omega
    · obtain ⟨hej, hej2⟩ := emp_no hzj
      have HL2 := hide (show LoI s n m N w2 gt ct (LX.set j ⟨#[]⟩) (wj.setCell ⟨gt, j, none⟩ (.string ⟨#[]⟩)) ∧ (thr (LX.set j ⟨#[]⟩) N).length = U - 1 ∧ ∀ q, q < j + 1 → sz (LX.set j ⟨#[]⟩) q = 0 from ⟨(unhide HL).1.less (unhide HN) j hjN, by
        have h9 := thr_less' LX N j (by rw [(unhide HL).1.part.len, unhide HN]) hjN hzj
        have h8 := (unhide HL).2.1
        omega, fun q hq => by
        rw [sz_set LX j q _ (by rw [(unhide HL).1.part.len, ← unhide HN]; exact hjN)]
        by_cases e : q = j
        · rw [if_pos e]; rfl
        · rw [if_neg e]; exact (unhide HL).2.2 q (by omega)⟩)
      obtain ⟨S, hS⟩ : ∃ q, LX.getD j ByteArray.empty = q := ⟨_, rfl⟩
      rw [hS] at hcj hej hej2
      clear hzj hS
      go_wp2
      go_roundw
      case rel => exact ⟨j + 1, U - 1, LX.set j ⟨#[]⟩, by omega, by go_num, by go_num, by omega, HL2⟩
      case measure => simp [intOf] <;> omega
  · simp only [List.getElem_toArray, List.getElem_cons_succ, List.getElem_cons_zero]
    go_simp
    refine (unhide HPZ _).mono ?_
    rintro e w9 ⟨rfl, hw9⟩
    subst w9
    refine hK.out _ _ trivial (fun hS => ?_)
    clear hK K
    refine wpAnyH_takeD 8 (some 203) (.int .i64 (zv : Int)) rfl rfl (by kernel_rfl) (by kernel_rfl) (by kernel_rfl) (fun _ _ _ h => h) (Or.inl ⟨by rfl, fun w hSw => by clear hSw; go_simp; try (intro hbad; omega)⟩) hS ?_
    simp only [Act.put, List.setIfInBounds_toArray, List.set_cons_zero, List.set_cons_succ]
    refine wpAnyH_takeD 9 (some 204) (.int .u8 (zv : Int)) rfl rfl (by kernel_rfl) (by kernel_rfl) (by kernel_rfl) (fun _ _ _ h => h) (Or.inl ⟨by rfl, fun w hSw => by clear hSw; go_simp; try (intro hbad; omega)⟩) hS ?_
    simp only [Act.put, List.setIfInBounds_toArray, List.set_cons_zero, List.set_cons_succ]
    refine wpAnyH_ready (rs := [5]) (by kernel_rfl) (by simp) ?_
    refine AllReadyH.cons rfl (fun K hK => ?_) AllReadyH.nil
    simp only [List.getElem_toArray, List.getElem_cons_succ, List.getElem_cons_zero]
    go_simp
    refine hK.out _ _ trivial (fun hS => ?_)
    clear hK K
    refine wpAnyH_takeD 10 (some 205) (.int .u8 (xv : Int)) rfl rfl (by kernel_rfl) (by kernel_rfl) (by kernel_rfl) (fun _ _ _ h => h) (Or.inl ⟨by rfl, fun w hSw => by clear hSw; go_simp; try (intro hbad; omega)⟩) hS ?_
    simp only [Act.put, List.setIfInBounds_toArray, List.set_cons_zero, List.set_cons_succ]
    refine wpAnyH_takeD 11 (some 206) (.pointer (some ⟨gb, yy, none⟩)) rfl rfl (by kernel_rfl) (by kernel_rfl) (by kernel_rfl) (fun _ _ _ h => h) (Or.inl ⟨by rfl, fun w hSw => by clear hSw; go_simp; try (intro hbad; omega)⟩) hS ?_
    simp only [Act.put, List.setIfInBounds_toArray, List.set_cons_zero, List.set_cons_succ]
    refine wpAnyH_ready (rs := [12]) (by kernel_rfl) (by simp) ?_
    refine AllReadyH.cons rfl (fun K hK => ?_) AllReadyH.nil
    simp only [List.getElem_toArray, List.getElem_cons_succ, List.getElem_cons_zero]
    go_simp
    refine hK.out _ _ trivial (fun hS => ?_)
    clear hK K
    refine wpAnyH_done (by kernel_rfl) ?_ _
    (first | rw [show (wq.setCell ⟨gb, yy, none⟩ (.int .u8 (xv : Int))).drew = wa from unhide HWAE] | rw [show wq.drew.setCell ⟨gb, yy, none⟩ (.int .u8 (xv : Int)) = wa from unhide HWAE])
    clear HPZ HPY hck hcy hfy hem hem2 hxr hwr8 hw64 hw8w hzvI hzv2 hyI hXN0 i0 hyl hzl hXs hxl hkI
    have hkI : (k : Int) < (N : Int) := by omega
    go_wp2_with fail
    refine (unhide HSPW).mono ?_
    rintro e wc ⟨hbc, rfl⟩
    have HBC := hide (show Below w2.heap.size w2 wc from (unhide HBB).trans (hbc.mono hsb))
    have HOC := hide (show wc.ownsRow w2.heap.size 9 1 (.slice (some ⟨gt, 0, none⟩) N ct) N ((LL.set k Y).map Value.string) from owns_only (unhide HOB) (Only.of_below (P := fun _ => False) hbc) (fun _ _ q => q))
    obtain ⟨hcc, hfc, _, _⟩ := own_str (by rw [List.length_set, (unhide HI7).part.len, unhide HN]) (unhide HOC) k hk
    have HID := hide (show LoI s n m N w2 gt ct LL (wc.setCell ⟨gt, k, none⟩ (.string X)) from ⟨(unhide HI7).part, by
      have h9 := owns_set (unhide HOC) rfl k (.string X)
      rw [set_str, List.set_set] at h9
      have e9 : LL.set k X = LL := by
        rw [← unhide HX, List.getD_eq_getElem?_getD, List.getElem?_eq_getElem (by rw [(unhide HI7).part.len, ← unhide HN]; exact hk)]
        exact List.set_getElem_self _
      rw [e9] at h9
      exact h9, (unhide HBC).setCell hgt1 _⟩)
    clear hbc HSPW HBB HOB hca hfa
    obtain ⟨wd, hwd⟩ : ∃ q, wc.setCell ⟨gt, k, none⟩ (.string X) = q := ⟨_, rfl⟩
    rw [hwd] at HID
    obtain ⟨BB, hBB⟩ : ∃ q, decide (n < T) = q := ⟨_, rfl⟩
    have hdT : decide ((n : Int) < (T : Int)) = BB := by
      rw [← hBB]
      exact decide_eq_decide.2 (by omega)
    rw [hBB]
    have hbb : (BB != BB) = false := by simp
    have hbb2 : (!BB == BB) = false := by cases BB <;> rfl
    go_wp2_with fail
    rename_i K aK
    have hK : ∀ (wx : World) (LX : List ByteArray) (_ : LoI s n m N w2 gt ct LX wx) (_ : (thr LX N).length < n) {t0 t1 t2 t3 t4 t5 t6 t7 t8 t9 t10 t11 t12 t13 t14 t15 t18 t19 t20 t22 t23 t24 t25 t26 t27 t28 t29 t30 t31 t32 t33 t34 t35 t36 t37 t38 t39 t40 t41 t42 t43 t44 t45 t46 t47 t48 t49 t50 t51 t52 t53 t54 t55 t56 t57 t58 t59 t60 t61 t62 t63 t64 t65 t66 t67 t68 t69 t70 t71 t72 t73 t74 t75 t76 t77 t78 t79 t80 t81 t82 t83 t84 t85 t86 t87 t88 t89 t90 t91 t92 t93 t94 t95 t96 t97 t98 t99 t100 t101 t102 t103 t104 t105 t106 t107 t108 t109 t110 t111 t112 t113 t114 t115 t116 t117 t118 t119 t120 t121 t122 t123 t124 t125 t126 t127 t128 t129 t130 t131 t132 t133 t134 t135 t136 t137 t138 t139 t140 t141 t142 t143 t144 t145 t146 t147 t148 t149 t150 t151 t152 t153 t154 t155 t156 t157 t158 t159 t160 t161 t162 t163 t164 t165 t166 t167 t168 t169 t170 t171 t172 t173 t174 t175 t176 t177 t178 t179 t180 t181 t182 t183 t184 t185 t186 t187 t188 t189 t190 t191 t192 t193 t194 t195 t196 t197 t198 t199 t200 t201 t202 t203 t204 t205 t206 t207 t208 t209 t210 t211 t212 t213 t214 t215 t216 t217 t218 t219 t220 t221 t222 t223 t224 t225 t226 t227 t228 t229 t230 t231 t232 t233 t234 t235 t236 t237 t238 t239 t240 t241 t242 t243 t244 t245 t246 t247 t248 t249 t250 t251 t252 t253 t254 t255 t256 t257 t258 t259 t260 t261 t262 t263 t264 t265 t266 t267 t268 t269 t270 t271 t272 t273 t274 t275 t276 t277 t278 t279 t280 t281 t282 t283 t284 : Value}, K ⟨#[t0, t1, t2, t3, t4, t5, t6, t7, t8, t9, t10, t11, t12, t13, t14, t15, .int .i64 (n : Int), .int .i64 (m : Int), t18, t19, t20, .slice (some ⟨gt, 0, none⟩) N ct, t22, t23, t24, t25, t26, t27, t28, t29, t30, t31, t32, t33, t34, t35, t36, t37, t38, t39, t40, t41, t42, t43, t44, t45, t46, t47, t48, t49, t50, t51, t52, t53, t54, t55, t56, t57, t58, t59, t60, t61, t62, t63, t64, t65, t66, t67, t68, t69, t70, t71, t72, t73, t74, t75, t76, t77, t78, t79, t80, t81, t82, t83, t84, t85, t86, t87, t88, t89, t90, t91, t92, t93, t94, t95, t96, t97, t98, t99, t100, t101, t102, t103, t104, t105, t106, t107, t108, t109, t110, t111, t112, t113, t114, t115, t116, t117, t118, t119, t120, t121, t122, t123, t124, t125, t126, t127, t128, t129, t130, t131, t132, t133, t134, t135, t136, t137, t138, t139, t140, t141, t142, t143, t144, t145, t146, t147, t148, t149, t150, t151, t152, t153, t154, t155, t156, t157, t158, t159, t160, t161, t162, t163, t164, t165, t166, t167, t168, t169, t170, t171, t172, t173, t174, t175, t176, t177, t178, t179, t180, t181, t182, t183, t184, t185, t186, t187, t188, t189, t190, t191, t192, t193, t194, t195, t196, t197, t198, t199, t200, t201, t202, t203, t204, t205, t206, t207, t208, t209, t210, t211, t212, t213, t214, t215, t216, t217, t218, t219, t220, t221, t222, t223, t224, t225, t226, t227, t228, t229, t230, t231, t232, t233, t234, t235, t236, t237, t238, t239, t240, t241, t242, t243, t244, t245, t246, t247, t248, t249, t250, t251, t252, t253, t254, t255, t256, t257, t258, t259, t260, t261, t262, t263, t264, t265, t266, t267, t268, t269, t270, t271, t272, t273, t274, t275, t276, t277, t278, t279, t280, t281, t282, t283, t284], []⟩ wx := fun wx LX h1 h2  => aK _ _ (loF_walk s n m N (unhide HN) W w2 wx gt ct LX h1 hct h2 (unhide HW) _ _ _ _ _ _ _ _ _ _ _ _ _ _ _ _ _ _ _ _ _ _ _ _ _ _ _ _ _ _ _ _ _ _ _ _ _ _ _ _ _ _ _ _ _ _ _ _ _ _ _ _ _ _ _ _ _ _ _ _ _ _ _ _ _ _ _ _ _ _ _ _ _ _ _ _ _ _ _ _ _ _ _ _ _ _ _ _ _ _ _ _ _ _ _ _ _ _ _ _ _ _ _ _ _ _ _ _ _ _ _ _ _ _ _ _ _ _ _ _ _ _ _ _ _ _ _ _ _ _ _ _ _ _ _ _ _ _ _ _ _ _ _ _ _ _ _ _ _ _ _ _ _ _ _ _ _ _ _ _ _ _ _ _ _ _ _ _ _ _ _ _ _ _ _ _ _ _ _ _ _ _ _ _ _ _ _ _ _ _ _ _ _ _ _ _ _ _ _ _ _ _ _ _ _ _ _ _ _ _ _ _ _ _ _ _ _ _ _ _ _ _ _ _ _ _ _ _ _ _ _ _ _ _ _ _ _ _ _ _ _ _ _ _ _ _ _ _ _ _ _ _ _ _ _ _ _ _ _ _ _ _ _ _ _ _ _ _ _ _ _ _ _ _ _ _ _ _ _ _ _ _)
    have HKF := hide @hK
    clear hK aK
    go_loopw [22, 36] (fun t i wx => ∃ (j U : Nat) (LX : List ByteArray), j ≤ N ∧ i = .int .i64 (j : Int) ∧ t = .int .i64 (U : Int) ∧ U ≤ N ∧ Hid (LoI s n m N w2 gt ct LX wx ∧ (thr LX N).length = U ∧ ∀ q, q < j → sz LX q = 0)) (fun _ i _ => N - (intOf i).toNat)
    case atStart => exact ⟨0, T, LL, by omega, rfl, rfl, hTN, hide ⟨unhide HID, unhide HT, fun q hq => absurd hq (by omega)⟩⟩
    case round =>
    obtain ⟨j, U, LX, hj, rfl, rfl, hU, HL⟩ := hrel
    obtain ⟨wj, rfl⟩ : ∃ q, q = wr := ⟨_, rfl⟩
    by_cases hjN : j < N
    case neg =>
      have hjN' : ¬ (j : Int) < (N : Int) := by omega
      have HU := hide (show (thr LX N).length < n from by
        have h9 : thr LX N = [] := by
          unfold thr
          refine List.filter_eq_nil_iff.2 (fun q hq => ?_)
          rw [(unhide HL).2.2 q (by have := List.mem_range.1 hq; omega)]
          decide
        rw [h9]
        exact hn1)
      go_wp2_with fail
      exact (unhide HKF) wj LX (unhide HL).1 (unhide HU)
    have hjN' : (j : Int) < (N : Int) := by omega
    by_cases hnU : n ≤ U
    case neg =>
      have hnU' : ¬ (n : Int) ≤ (U : Int) := by omega
      have HU := hide (show (thr LX N).length < n from by rw [(unhide HL).2.1]; omega)
      go_wp2_with fail
      exact (unhide HKF) wj LX (unhide HL).1 (unhide HU)
    have hnU' : (n : Int) ≤ (U : Int) := by omega
    obtain ⟨hcj, hfj, _, _⟩ := own_str (by rw [(unhide HL).1.part.len, unhide HN]) (unhide HL).1.own j hjN
    by_cases hzj : sz LX j = 0
    · obtain ⟨hej, hej2⟩ := emp_yes hzj
      have HL2 := hide (show LoI s n m N w2 gt ct LX wj ∧ (thr LX N).length = U ∧ ∀ q, q < j + 1 → sz LX q = 0 from ⟨(unhide HL).1, (unhide HL).2.1, fun q hq => by
        by_cases e : q = j
        · rw [e]; exact hzj
        · exact (unhide HL).2.2 q (by omega)⟩)
      obtain ⟨S, hS⟩ : ∃ q, LX.getD j ByteArray.empty = q := ⟨_, rfl⟩
      rw [hS] at hcj hej hej2
      clear hzj hS
      go_wp2
      go_roundw
      case rel => exact ⟨j + 1, U, LX, by omega, by go_num, rfl, hU, HL2⟩
      case measure => simp [intOf] <;> omega
    · obtain ⟨hej, hej2⟩ := emp_no hzj
      have HL2 := hide (show LoI s n m N w2 gt ct (LX.set j ⟨#[]⟩) (wj.setCell ⟨gt, j, none⟩ (.string ⟨#[]⟩)) ∧ (thr (LX.set j ⟨#[]⟩) N).length = U - 1 ∧ ∀ q, q < j + 1 → sz (LX.set j ⟨#[]⟩) q = 0 from ⟨(unhide HL).1.less (unhide HN) j hjN, by
        have h9 := thr_less' LX N j (by rw [(unhide HL).1.part.len, unhide HN]) hjN hzj
        have h8 := (unhide HL).2.1
        omega, fun q hq => by
        rw [sz_set LX j q _ (by rw [(unhide HL).1.part.len, ← unhide HN]; exact hjN)]
        by_cases e : q = j
        · rw [if_pos e]; rfl
        · rw [if_neg e]; exact (unhide HL).2.2 q (by omega)⟩)
      obtain ⟨S, hS⟩ : ∃ q, LX.getD j ByteArray.empty = q := ⟨_, rfl⟩
      rw [hS] at hcj hej hej2
      clear hzj hS
      go_wp2
      go_roundw
      case rel => exact ⟨j + 1, U - 1, LX.set j ⟨#[]⟩, by omega, by go_num, by go_num, by omega, HL2⟩
      case measure => simp [intOf] <;> omega
end Go.Proofs.YthjimpilhijbkaaDoor
namespace Go.Proofs.YthjimpilhijbkaaDoor
open Go.RowKit
set_option maxRecDepth 100000
set_option maxHeartbeats 32000000 in
theorem lost18 (s : ByteArray) (n0 m0 x0 y0 z0 : Int) (p : Option Addr) (c : Nat) (ls : List Int) (hn0 : I64 n0) (hm0 : I64 m0) (hx0 : I64 x0) (hy0 : I64 y0) (hz0 : I64 z0) (W : World) (hL : GLs W W.heap.size p ls) (hLb : ∀ z ∈ ls, I64 z) (hLl : ls.length ≤ 9223372036854775807) (hs : s.size ≤ 9223372036854775807) : Calls Tryd.prog 3 #[.string s, .int .i64 n0, .int .i64 m0, .slice p ls.length c, .int .i64 x0, .int .i64 y0, .int .i64 z0] W fun e w' => e = .returned (.bool true) ∧ Below W.heap.size W w' := by
  have HK := hide (known18 W)
  have HP1 := hide (fun W => pick18_c n0 16 (by decide) hn0 16 rfl W)
  have HP2 := hide (fun W => pick18_c m0 9 (by decide) hm0 9 rfl W)
  have l1 := pickP_lt n0 16 (by decide)
  have l2 := pickP_lt m0 9 (by decide)
  obtain ⟨dn, hdn⟩ : ∃ q, pickP n0 16 = q := ⟨_, rfl⟩
  obtain ⟨m, hm⟩ : ∃ q, pickP m0 9 = q := ⟨_, rfl⟩
  rw [hdn] at HP1 l1
  rw [hm] at HP2 l2
  obtain ⟨n, hn⟩ : ∃ n, n = 1 + dn := ⟨_, rfl⟩
  obtain ⟨lN, hlN⟩ : ∃ q, ls.length = q := ⟨_, rfl⟩
  rw [hlN] at hLl ⊢
  have HL := hide (And.intro hlN (And.intro hL hLb))
  have HX := hide (And.intro hx0 (And.intro hy0 hz0))
  clear hdn hm hn0 hm0 hx0 hy0 hz0 hlN hL hLb
  by_cases hs6 : s.size ≤ 60000
  case neg =>
    have hs7 : (60000 : Int) < (s.size : Int) := by omega
    clear hn
    go_enter Tryd.func3, Tryd.ntmps3
    go_wp2_with fail
    refine (unhide HK).mono ?_
    rintro e w1 ⟨rfl, hb1⟩
    have HB := hide hb1
    clear hb1
    go_wp2_with fail
    refine (unhide HP1 _).mono ?_
    rintro e wx ⟨rfl, rfl⟩
    go_wp2_with fail
    refine (unhide HP2 _).mono ?_
    rintro e wx ⟨rfl, rfl⟩
    go_wp2
    go_ret
    exact ⟨rfl, unhide HB⟩
  have hs7 : ¬ (60000 : Int) < (s.size : Int) := by omega
  have hn1 : 1 ≤ n := by omega
  have hn2 : n ≤ 16 := by omega
  obtain ⟨N, hN⟩ : ∃ N, N = n + m := ⟨_, rfl⟩
  have hnI : 1 + (dn : Int) = (n : Int) := by omega
  have HSP := hide (fun W => split_ok s n m N hN hn1 hn2 (by omega) hs6 W)
  have HA := hide (And.intro (Part.all (s := s) hn1 hn2 (show m ≤ 8 by omega) hs6) (Part.all_thr s n m hn1))
  have HN := hide hN
  have hN1 : 1 ≤ N := by omega
  have hN2 : N ≤ 24 := by omega
  have hnN : n ≤ N := by omega
  have hNI : (n : Int) + (m : Int) = (N : Int) := by omega
  have hne : ((N : Int) != (N : Int)) = false := by simp
  clear hn hN
  go_enter Tryd.func3, Tryd.ntmps3
  go_wp2_with fail
  refine (unhide HK).mono ?_
  rintro e w1 ⟨rfl, hb1⟩
  have HB := hide hb1
  have hs1 := hb1.size
  clear hb1 HK
  go_wp2_with fail
  refine (unhide HP1 _).mono ?_
  rintro e wx ⟨rfl, rfl⟩
  go_wp2_with fail
  refine (unhide HP2 _).mono ?_
  rintro e wx ⟨rfl, rfl⟩
  clear HP1 HP2
  go_wp2_with fail
  refine (unhide HSP _).mono ?_
  rintro e w2 ⟨gl, cl, rfl, ho2, hb2⟩
  have H2 := hide (And.intro ho2 hb2)
  have hs2 := hb2.size
  clear ho2 hb2 HSP hnI l1
  have HC2 := hide (fun (k : Nat) (hk : k < N) => show w2.cell? ⟨gl, k, none⟩ = some (.string ((spL s n m).getD k ByteArray.empty)) ∧ ((spL s n m).getD k ByteArray.empty).size ≠ 0 from by
    have hl : (spL s n m).length = N := by rw [(unhide HA).1.len, unhide HN]
    refine ⟨(own_str hl (unhide H2).1 k hk).1, ?_⟩
    rw [spL_size s n m k hn1 (by rw [← unhide HN]; exact hk)]
    have := stN_pos s.size n hn1
    omega)
  go_wp2
  go_loopw [20] (fun i wr => ∃ k : Nat, k ≤ N ∧ i = .int .i64 (k : Int) ∧ wr = w2) (fun i _ => N - (intOf i).toNat)
  case atStart => exact ⟨0, by omega, rfl, rfl⟩
  case round =>
  obtain ⟨k, hk, rfl, rfl⟩ := hrel
  by_cases hkN : k < N
  case pos =>
    have hkN' : (k : Int) < (N : Int) := by omega
    obtain ⟨hck, hz⟩ := unhide HC2 k hkN
    obtain ⟨S, hS⟩ : ∃ q, (spL s n m).getD k ByteArray.empty = q := ⟨_, rfl⟩
    rw [hS] at hck hz
    obtain ⟨hem, hem2⟩ := emp_no hz
    clear hS hz
    go_wp2
    go_roundw
    case rel => exact ⟨k + 1, by omega, by go_num, trivial⟩
    case measure => simp [intOf] <;> omega
  have hkN' : ¬ (k : Int) < (N : Int) := by omega
  clear HC2 hkN hk hne
  obtain ⟨LA, hLA⟩ : ∃ q, spL s n m = q := ⟨_, rfl⟩
  have HLA := hide hLA
  rw [hLA] at H2
  have hlA : LA.length = N := by rw [← hLA, (unhide HA).1.len, unhide HN]
  clear hLA
  go_wp2_with (refine wpList_app_txt _ rfl (.tmp 85) (.tmp 86) rfl wr.heap.size (.slice none 0 0) 0 [] rfl (World.ownsRow_nil _ _ _ _) wr.heap.size ⟨gl, 0, none⟩ N cl LA rfl hlA (own_gtx hlA (unhide H2).1) (by omega) (Nat.le_refl _) ?_)
  intro v3 w3 ho3 hg3
  obtain ⟨pt, ct, rfl, hct⟩ := gr_form ho3
  obtain ⟨gt, rfl, _⟩ := gr_cell ho3 0 (by omega)
  have H3 := hide (show LoI s n m N wr gt ct LA w3 from ⟨by have := (unhide HA).1; rw [unhide HLA] at this; exact this, ho3, (Below.refl _ _).grown hg3 (Nat.le_refl _) (fun q hq => by cases hq)⟩)
  have HT3 := hide (show (thr LA N).length = N from by have := (unhide HA).2; rw [unhide HLA, ← unhide HN] at this; exact this)
  clear ho3 hg3 HA
  have hs3 := (unhide H3).bel.size
  obtain ⟨w2, rfl⟩ : ∃ q, q = wr := ⟨_, rfl⟩
  have hAA : GTx w2 w2.heap.size (some ⟨gl, 0, none⟩) (spL s n m) := by rw [unhide HLA]; exact own_gtx hlA (unhide H2).1
  have hWW : Below W.heap.size W w2 := (unhide HB).trans ((unhide H2).2.mono hs1)
  have HAA := hide (And.intro hAA hWW)
  clear hAA hWW
  go_wp2_with fail
  rename_i K9 aK9
  have hK9 : ∀ (wx : World) (T : Nat) (LX : List ByteArray) (_ : LoI s n m N w2 gt ct LX wx) (_ : (thr LX N).length = T) (_ : n ≤ T) {t1 t2 t3 t7 t8 t9 t10 t11 t12 t13 t14 t15 t19 t20 t23 t24 t25 t26 t27 t28 t29 t30 t31 t32 t33 t34 t35 t36 t37 t38 t39 t40 t41 t42 t43 t44 t45 t46 t47 t48 t49 t50 t51 t52 t53 t54 t55 t56 t57 t58 t59 t60 t61 t62 t63 t64 t65 t66 t67 t68 t69 t70 t71 t72 t73 t74 t75 t76 t77 t78 t79 t80 t81 t82 t83 t84 t85 t86 t87 t88 t89 t90 t91 t92 t93 t94 t95 t96 t97 t98 t99 t100 t101 t102 t103 t104 t105 t106 t107 t108 t109 t110 t111 t112 t113 t114 t115 t116 t117 t118 t119 t120 t121 t122 t123 t124 t125 t126 t127 t128 t129 t130 t131 t132 t133 t134 t135 t136 t137 t138 t139 t140 t141 t142 t143 t144 t145 t146 t147 t148 t149 t150 t151 t152 t153 t154 t155 t156 t157 t158 t159 t160 t161 t162 t163 t164 t165 t166 t167 t168 t169 t170 t171 t172 t173 t174 t175 t176 t177 t178 t179 t180 t181 t182 t183 t184 t185 t186 t187 t188 t189 t190 t191 t192 t193 t194 t195 t196 t197 t198 t199 t200 t201 t202 t203 t204 t205 t206 t207 t208 t209 t210 t211 t212 t213 t214 t215 t216 t217 t218 t219 t220 t221 t222 t223 t224 t225 t226 t227 t228 t229 t230 t231 t232 t233 t234 t235 t236 t237 t238 t239 t240 t241 t242 t243 t244 t245 t246 t247 t248 t249 t250 t251 t252 t253 t254 t255 t256 t257 t258 t259 t260 t261 t262 t263 t264 t265 t266 t267 t268 t269 t270 t271 t272 t273 t274 t275 t276 t277 t278 t279 t280 t281 t282 t283 t284 : Value}, K9 ⟨#[.string s, t1, t2, t3, .int .i64 x0, .int .i64 y0, .int .i64 z0, t7, t8, t9, t10, t11, t12, t13, t14, t15, .int .i64 (n : Int), .int .i64 (m : Int), .slice (some ⟨gl, 0, none⟩) N cl, t19, t20, .slice (some ⟨gt, 0, none⟩) N ct, .int .i64 (T : Int), t23, t24, t25, t26, t27, t28, t29, t30, t31, t32, t33, t34, t35, t36, t37, t38, t39, t40, t41, t42, t43, t44, t45, t46, t47, t48, t49, t50, t51, t52, t53, t54, t55, t56, t57, t58, t59, t60, t61, t62, t63, t64, t65, t66, t67, t68, t69, t70, t71, t72, t73, t74, t75, t76, t77, t78, t79, t80, t81, t82, t83, t84, t85, t86, t87, t88, t89, t90, t91, t92, t93, t94, t95, t96, t97, t98, t99, t100, t101, t102, t103, t104, t105, t106, t107, t108, t109, t110, t111, t112, t113, t114, t115, t116, t117, t118, t119, t120, t121, t122, t123, t124, t125, t126, t127, t128, t129, t130, t131, t132, t133, t134, t135, t136, t137, t138, t139, t140, t141, t142, t143, t144, t145, t146, t147, t148, t149, t150, t151, t152, t153, t154, t155, t156, t157, t158, t159, t160, t161, t162, t163, t164, t165, t166, t167, t168, t169, t170, t171, t172, t173, t174, t175, t176, t177, t178, t179, t180, t181, t182, t183, t184, t185, t186, t187, t188, t189, t190, t191, t192, t193, t194, t195, t196, t197, t198, t199, t200, t201, t202, t203, t204, t205, t206, t207, t208, t209, t210, t211, t212, t213, t214, t215, t216, t217, t218, t219, t220, t221, t222, t223, t224, t225, t226, t227, t228, t229, t230, t231, t232, t233, t234, t235, t236, t237, t238, t239, t240, t241, t242, t243, t244, t245, t246, t247, t248, t249, t250, t251, t252, t253, t254, t255, t256, t257, t258, t259, t260, t261, t262, t263, t264, t265, t266, t267, t268, t269, t270, t271, t272, t273, t274, t275, t276, t277, t278, t279, t280, t281, t282, t283, t284], []⟩ wx := fun wx T LX h1 h2 h3 => aK9 _ _ (loE_walk s n m N T (unhide HN) x0 y0 z0 (unhide HX).1 (unhide HX).2.1 (unhide HX).2.2 W w2 wx gt ct gl cl LX h1 hct h2 h3 (unhide HAA).1 (unhide HAA).2 _ _ _ _ _ _ _ _ _ _ _ _ _ _ _ _ _ _ _ _ _ _ _ _ _ _ _ _ _ _ _ _ _ _ _ _ _ _ _ _ _ _ _ _ _ _ _ _ _ _ _ _ _ _ _ _ _ _ _ _ _ _ _ _ _ _ _ _ _ _ _ _ _ _ _ _ _ _ _ _ _ _ _ _ _ _ _ _ _ _ _ _ _ _ _ _ _ _ _ _ _ _ _ _ _ _ _ _ _ _ _ _ _ _ _ _ _ _ _ _ _ _ _ _ _ _ _ _ _ _ _ _ _ _ _ _ _ _ _ _ _ _ _ _ _ _ _ _ _ _ _ _ _ _ _ _ _ _ _ _ _ _ _ _ _ _ _ _ _ _ _ _ _ _ _ _ _ _ _ _ _ _ _ _ _ _ _ _ _ _ _ _ _ _ _ _ _ _ _ _ _ _ _ _ _ _ _ _ _ _ _ _ _ _ _ _ _ _ _ _ _ _ _ _ _ _ _ _ _ _ _ _ _ _ _ _ _ _ _ _ _ _ _ _ _ _ _ _ _ _ _ _ _ _ _ _ _ _ _ _ _ _ _ _ _ _ _ _ _ _ _ _ _ _ _ _)
  have HKE := hide @hK9
  clear hK9 aK9
  go_loopw [22, 23] (fun t i wr => ∃ (k T : Nat) (LL : List ByteArray), k ≤ lN ∧ i = .int .i64 (k : Int) ∧ t = .int .i64 (T : Int) ∧ n ≤ T ∧ T ≤ N ∧ Hid (LoI s n m N w2 gt ct LL wr ∧ (thr LL N).length = T)) (fun _ i _ => lN - (intOf i).toNat)
  case atStart => exact ⟨0, N, LA, by omega, rfl, rfl, hnN, Nat.le_refl _, hide ⟨unhide H3, unhide HT3⟩⟩
  case round =>
  obtain ⟨k, T, LL, hk, rfl, rfl, hT1, hT2, HI⟩ := hrel
  obtain ⟨wk, rfl⟩ : ∃ q, q = wr := ⟨_, rfl⟩
  have hks := (unhide HI).1.bel.size
  by_cases hkl : k < lN
  case pos =>
    have hkl' : (k : Int) < (lN : Int) := by omega
    by_cases hTn : n < T
    case pos =>
      have hTn' : (n : Int) < (T : Int) := by omega
      obtain ⟨gp, op, rfl, hgp, hcp⟩ := (unhide HL).2.1 k (by rw [(unhide HL).1]; exact hkl)
      have hcp2 : wk.cell? ⟨gp, op + k, none⟩ = some (.int .i64 (ls.getD k 0)) := ((unhide HI).1.bel.cell (p := ⟨gp, op + k, none⟩) (by show gp < w2.heap.size; omega)).trans (((unhide H2).2.cell (p := ⟨gp, op + k, none⟩) (by show gp < wx.heap.size; omega)).trans (((unhide HB).cell (p := ⟨gp, op + k, none⟩) hgp).trans hcp))
      have hzi : I64 (ls.getD k 0) := (unhide HL).2.2 _ (by rw [List.getD_eq_getElem?_getD, List.getElem?_eq_getElem (by rw [(unhide HL).1]; exact hkl)]; exact List.getElem_mem _)
      obtain ⟨zz, hzz⟩ : ∃ q, ls.getD k 0 = q := ⟨_, rfl⟩
      rw [hzz] at hcp2 hzi
      have HPK := hide (fun W => pick18_c zz N (by omega) hzi (N : Int) rfl W)
      have hjl := pickP_lt zz N (by omega)
      obtain ⟨j, hj⟩ : ∃ q, pickP zz N = q := ⟨_, rfl⟩
      rw [hj] at HPK hjl
      have HCJ := hide (own_str (by rw [(unhide HI).1.part.len, unhide HN]) (unhide HI).1.own j hjl)
      clear hj hzi hzz hcp hgp
      have hjI : (j : Int) < (N : Int) := by omega
      go_wp2_with fail
      refine (unhide HPK _).mono ?_
      rintro e wy ⟨rfl, rfl⟩
      clear HPK hcp2
      dsimp only
      have hcj := (unhide HCJ).1
      have hfj := (unhide HCJ).2.1
      by_cases hz : sz LL j = 0
      · obtain ⟨hem, hem2⟩ := emp_yes hz
        obtain ⟨S, hS⟩ : ∃ q, LL.getD j ByteArray.empty = q := ⟨_, rfl⟩
        rw [hS] at hcj hem hem2
        clear hz hS HCJ
        go_wp2
        go_roundw
        case rel => exact ⟨k + 1, T, LL, by omega, by go_num, rfl, hT1, hT2, HI⟩
        case measure => simp [intOf] <;> omega
      · obtain ⟨hem, hem2⟩ := emp_no hz
        have HI2 := hide (show LoI s n m N w2 gt ct (LL.set j ⟨#[]⟩) (wy.setCell ⟨gt, j, none⟩ (.string ⟨#[]⟩)) ∧ (thr (LL.set j ⟨#[]⟩) N).length = T - 1 from ⟨(unhide HI).1.less (unhide HN) j hjl, by
          have h9 := thr_less' LL N j (by rw [(unhide HI).1.part.len, unhide HN]) hjl hz
          have h8 := (unhide HI).2
          omega⟩)
        obtain ⟨S, hS⟩ : ∃ q, LL.getD j ByteArray.empty = q := ⟨_, rfl⟩
        rw [hS] at hcj hem hem2
        clear hz hS HCJ
        go_wp2
        go_roundw
        case rel => exact ⟨k + 1, T - 1, LL.set j ⟨#[]⟩, by omega, by go_num, by go_num, by omega, by omega, HI2⟩
        case measure => simp [intOf] <;> omega
    have hTn' : ¬ (n : Int) < (T : Int) := by omega
    go_wp2_with fail
    exact (unhide HKE) wk T LL (unhide HI).1 (unhide HI).2 hT1
  have hkl' : ¬ (k : Int) < (lN : Int) := by omega
  go_wp2_with fail
  exact (unhide HKE) wk T LL (unhide HI).1 (unhide HI).2 hT1
end Go.Proofs.YthjimpilhijbkaaDoor
