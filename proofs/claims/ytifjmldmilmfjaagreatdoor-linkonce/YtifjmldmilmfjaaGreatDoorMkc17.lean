import Derived.Test.YtifjmldmilmfjaaGreatDoorMkc16
namespace Go.Proofs.YtifjmldmilmfjaaGreatDoor
open Go.RowKit
set_option maxRecDepth 100000
def dropSeqL : Nat → Code → Code
  | 0, c => c
  | n + 1, .seq _ b => dropSeqL n b
  | _, c => c
noncomputable def onceE : Code := dropSeqL 7 ((Tryz.f4.body).getD .skip)
set_option maxHeartbeats 400000 in
theorem pick21 (c : Int) (n : Nat) (hn : 0 < n) (hc : I64 c) (w : World) : Calls Tryz.prog 11 #[.int .i64 c, .int .i64 (n : Int)] w fun e w' => ∃ r : Nat, r < n ∧ e = .returned (.int .i64 (r : Int)) ∧ w' = w := by
  obtain ⟨hc1, hc2⟩ := hc
  have hz : ((n : Int) == 0) = false := by simp; omega
  by_cases h : c < 0
  · have e1 : (-(c + 1)).tmod (n : Int) = (-(c + 1)) % (n : Int) := Int.tmod_eq_emod_of_nonneg (by omega)
    have hp : 0 ≤ (-(c + 1)) % (n : Int) := Int.emod_nonneg _ (by omega)
    have hl : (-(c + 1)) % (n : Int) < (n : Int) := Int.emod_lt_of_pos _ (by omega)
    go_enter Tryz.func11, Tryz.ntmps11
    go_wp2
    go_ret
    exact ⟨((-(c + 1)) % (n : Int)).toNat, by omega, by simp; omega, rfl⟩
  · have e1 : c.tmod (n : Int) = c % (n : Int) := Int.tmod_eq_emod_of_nonneg (by omega)
    have hp : 0 ≤ c % (n : Int) := Int.emod_nonneg _ (by omega)
    have hl : c % (n : Int) < (n : Int) := Int.emod_lt_of_pos _ (by omega)
    go_enter Tryz.func11, Tryz.ntmps11
    go_wp2
    go_ret
    exact ⟨(c % (n : Int)).toNat, by omega, by simp; omega, rfl⟩
def boolC (T : Nat → Bool) (n : Nat) : Array Value := ((List.range n).map fun j => Value.bool (T j)).toArray
theorem boolC_get (T : Nat → Bool) (n j : Nat) (h : j < n) : (boolC T n)[j]? = some (.bool (T j)) := by simp [boolC, h]
theorem boolC_set (T : Nat → Bool) (n k : Nat) (h : k < n) : (boolC T n).setIfInBounds k (.bool true) = boolC (upT T k true) n := by
  apply Array.ext_getElem?
  intro i
  rw [Array.getElem?_setIfInBounds]
  by_cases hi : i < n
  · rw [boolC_get _ _ _ hi, boolC_get _ _ _ hi]
    unfold upT
    by_cases e : k = i
    · subst e
      rw [if_pos rfl, if_pos (by simp [boolC]; omega), if_pos rfl]
    · rw [if_neg e, if_neg (fun q => e q.symm)]
  · have h1 : (boolC T n)[i]? = none := by simp [boolC]; omega
    have h2 : (boolC (upT T k true) n)[i]? = none := by simp [boolC]; omega
    rw [h1, h2, if_neg (by omega)]
theorem boolC_zero (n : Nat) : (List.replicate n (Value.bool false)).toArray = boolC (fun _ => false) n := by
  apply Array.ext_getElem?
  intro i
  by_cases hi : i < n
  · rw [boolC_get _ _ _ hi]; simp [hi]
  · simp [boolC, hi]
/-- the third loop -/
structure LpI (w0 : World) (h g1 g2 B tb : Nat) (key one two : Int) (l : List ByteArray) (sb : Nat) (vf vs : Value) (W : World) (T : Nat → Bool) (tt mm qq : Nat) : Prop where
  bel : Below h w0 W
  a : EndM W g1 { meA key one two with s := l.length }
  b : EndM W g2 { meB key one two with s := sb, t := tt, m := mm, q := qq }
  f : W.ownsRow B 9 1 vf l.length ((frL ((meA key one two).h 0) ((meA key one two).z 0) l l.length).map Value.string)
  s : W.ownsRow B 9 1 vs l.length (l.map Value.string)
  tk : Blk W tb (boolC T l.length) 4
  win : Win T tt mm
  hh : h ≤ W.heap.size
  ap : g1 < B ∧ g2 < B ∧ g1 ≠ g2 ∧ B ≤ tb ∧ h ≤ g1 ∧ h ≤ g2 ∧ h ≤ tb ∧ (∀ q, vf.ownBlock = some q → q ≠ tb) ∧ (∀ q, vs.ownBlock = some q → q ≠ tb)
theorem LpI.bel' {w0 : World} {h g1 g2 B tb : Nat} {key one two : Int} {l : List ByteArray} {sb : Nat} {vf vs : Value} {W W' : World} {T : Nat → Bool} {tt mm qq : Nat} (x : LpI w0 h g1 g2 B tb key one two l sb vf vs W T tt mm qq) (hb : Below W.heap.size W W') : LpI w0 h g1 g2 B tb key one two l sb vf vs W' T tt mm qq :=
  ⟨x.bel.trans (hb.mono x.hh), x.a.below hb x.a.lt, x.b.below hb x.b.lt, own_bel x.f hb, own_bel x.s hb, x.tk.below hb x.tk.lt, x.win, by have := hb.size; have := x.hh; omega, x.ap⟩
theorem LpI.took {w0 : World} {h g1 g2 B tb : Nat} {key one two : Int} {l : List ByteArray} {sb : Nat} {vf vs : Value} {W W' : World} {T : Nat → Bool} {tt mm qq : Nat} (x : LpI w0 h g1 g2 B tb key one two l sb vf vs W T tt mm qq) (ho : Only (fun k => k = g2) W W') (tt' mm' qq' : Nat) (hb : EndM W' g2 { meB key one two with s := sb, t := tt', m := mm', q := qq' }) (T' : Nat → Bool) (hw : Win T' tt' mm') (r : Nat) (hr : r < l.length) (hT : T' = upT T r true) : LpI w0 h g1 g2 B tb key one two l sb vf vs (W'.setCell ⟨tb, r, none⟩ (.bool true)) T' tt' mm' qq' := by
  have hap := x.ap
  have ht : Only (fun k => k = tb) W' (W'.setCell ⟨tb, r, none⟩ (.bool true)) := (Only.refl _ _).setCell _ _ (fun _ => rfl)
  have hs1 := ho.size
  have hs2 := ht.size
  have hhx := x.hh
  refine ⟨x.bel.trans ((ho.below x.hh (fun k hk q => by omega)).trans (ht.below (by omega) (fun k hk q => by omega))), (x.a.only ho (by omega)).only ht (by omega), hb.only ht (by omega), owns_only (own_touchB (by omega) x.f ho) ht (fun q hq e => hap.2.2.2.2.2.2.2.1 q hq e), owns_only (own_touchB (by omega) x.s ho) ht (fun q hq e => hap.2.2.2.2.2.2.2.2 q hq e), ?_, hw, by omega, hap⟩
  have h1 := (x.tk.only ho (by omega)).set r (.bool true)
  rw [boolC_set _ _ _ hr, ← hT] at h1
  exact h1
theorem LpI.same {w0 : World} {h g1 g2 B tb : Nat} {key one two : Int} {l : List ByteArray} {sb : Nat} {vf vs : Value} {W W' : World} {T : Nat → Bool} {tt mm qq : Nat} (x : LpI w0 h g1 g2 B tb key one two l sb vf vs W T tt mm qq) (ho : Only (fun k => k = g2) W W') (hb : EndM W' g2 { meB key one two with s := sb, t := tt, m := mm, q := qq }) : LpI w0 h g1 g2 B tb key one two l sb vf vs W' T tt mm qq := by
  have hap := x.ap
  have hs1 := ho.size
  have hhx := x.hh
  exact ⟨x.bel.trans (ho.below x.hh (fun k hk q => by omega)), x.a.only ho (by omega), hb, own_touchB (by omega) x.f ho, own_touchB (by omega) x.s ho, x.tk.only ho (by omega), x.win, by omega, hap⟩
set_option maxHeartbeats 16000000 in
theorem onceE_walk (w : World) (h g1 g2 B : Nat) (key one two : Int) (l : List ByteArray) (n sb : Nat) (vf vs : Value) (ol : List Int) (qo co : Nat) (po : Option Addr) (hq : ol.length = qo) (hqb : qo ≤ 17592186044400) (hI9 : ∀ i, I64 (ol.getD i 0)) (_hvh : 1 < h) (hg1 : h ≤ g1) (hg2 : h ≤ g2) (hn : l.length = n) (hn80 : n ≤ 80) (hKB : ∀ W, Below h w W → KTab W ∧ ETy W) (hIL : IL w h po ol) (wr : World) (hO : OnI w h g1 g2 B key one two wr l sb vf vs) (t3 t5 t6 t7 t8 t9 t10 t11 t16 t17 t18 t19 t20 t21 t22 t23 t24 t25 t26 t27 t28 t29 t30 t31 t32 t33 t34 t35 t36 t37 t38 t39 t40 t41 t42 t43 t44 t45 t46 t47 t48 t49 t50 t51 t52 t53 t54 t55 t56 t57 t58 t59 t60 t61 t62 t63 t64 t65 t66 t67 t68 t69 t70 t71 t72 t73 t74 t75 t76 t77 t78 t79 t80 t81 t82 t83 t84 t85 t86 t87 t88 t89 t90 t91 t92 t93 t94 t95 t96 t97 t98 t99 t100 t101 t102 t103 t104 t105 t106 t107 t108 t109 t110 t111 t112 t113 t114 t115 t116 t117 t118 t119 t120 t121 t122 t123 t124 t125 t126 t127 t128 t129 t130 t131 t132 t133 t134 t135 t136 t137 t138 t139 t140 t141 t142 t143 t144 t145 t146 t147 t148 t149 t150 t151 t152 t153 t154 t155 t156 t157 t158 t159 t160 t161 t162 t163 t164 t165 t166 t167 t168 t169 t170 t171 t172 t173 t174 t175 t176 t177 t178 t179 t180 t181 t182 t183 t184 t185 t186 t187 t188 t189 t190 t191 t192 t193 t194 t195 t196 t197 t198 t199 t200 t201 t202 t203 t204 t205 t206 t207 t208 t209 t210 t211 t212 t213 t214 t215 t216 t217 t218 t219 t220 t221 t222 t223 t224 t225 t226 t227 t228 t229 t230 t231 t232 t233 t234 t235 t236 t237 t238 t239 t240 t241 t242 t243 : Value) :
    Code.wp Tryz.prog onceE (bodyPost Tryz.prog Tryz.f4 fun e w' => e = .returned (.bool true) ∧ Below h w w') ⟨#[.int .i64 key, .int .i64 one, .int .i64 two, t3, .slice po qo co, t5, t6, t7, t8, t9, t10, t11, .pointer (some ⟨g1, 0, none⟩), .pointer (some ⟨g2, 0, none⟩), vf, vs, t16, t17, t18, t19, t20, t21, t22, t23, t24, t25, t26, t27, t28, t29, t30, t31, t32, t33, t34, t35, t36, t37, t38, t39, t40, t41, t42, t43, t44, t45, t46, t47, t48, t49, t50, t51, t52, t53, t54, t55, t56, t57, t58, t59, t60, t61, t62, t63, t64, t65, t66, t67, t68, t69, t70, t71, t72, t73, t74, t75, t76, t77, t78, t79, t80, t81, t82, t83, t84, t85, t86, t87, t88, t89, t90, t91, t92, t93, t94, t95, t96, t97, t98, t99, t100, t101, t102, t103, t104, t105, t106, t107, t108, t109, t110, t111, t112, t113, t114, t115, t116, t117, t118, t119, t120, t121, t122, t123, t124, t125, t126, t127, t128, t129, t130, t131, t132, t133, t134, t135, t136, t137, t138, t139, t140, t141, t142, t143, t144, t145, t146, t147, t148, t149, t150, t151, t152, t153, t154, t155, t156, t157, t158, t159, t160, t161, t162, t163, t164, t165, t166, t167, t168, t169, t170, t171, t172, t173, t174, t175, t176, t177, t178, t179, t180, t181, t182, t183, t184, t185, t186, t187, t188, t189, t190, t191, t192, t193, t194, t195, t196, t197, t198, t199, t200, t201, t202, t203, t204, t205, t206, t207, t208, t209, t210, t211, t212, t213, t214, t215, t216, t217, t218, t219, t220, t221, t222, t223, t224, t225, t226, t227, t228, t229, t230, t231, t232, t233, t234, t235, t236, t237, t238, t239, t240, t241, t242, t243], []⟩ wr := by
  conv => arg 2; whnf
  obtain ⟨pf, cf, rfl, hcf9⟩ := gr_form hO.f
  rw [hn] at hcf9
  have HKB := hide hKB
  have HIL := hide hIL
  have HI9 := hide hI9
  have HO := hide hO
  have HN := hide hn
  have HQ := hide hq
  have HSB := hide (show sb ≤ n from by rw [← hn]; exact hO.sb9)
  have HSH := hide hO.sht
  have HF32 := hide (fun c W => fl32 c W)
  have HF16 := hide (fun c W => fl16 c W)
  rw [hn]
  clear hKB hIL hI9 hO
  go_wp2
  go_loopw [21] (fun iv wr => ∃ k : Nat, k ≤ 40 ∧ iv = .int .i64 (k : Int) ∧ Hid (OnI w h g1 g2 B key one two wr l sb (.slice pf l.length cf) vs)) (fun iv _ => 40 - (intOf iv).toNat)
  case atStart => exact ⟨0, by omega, rfl, HO⟩
  case round =>
  clear HO
  obtain ⟨k, hk, rfl, HO⟩ := hrel
  obtain ⟨wi, rfl⟩ : ∃ z, z = wr := ⟨_, rfl⟩
  by_cases hk4 : k < 40
  · have e1 : (k : Int) < 40 := by omega
    obtain ⟨j, hj⟩ : ∃ j, k % 2 = j := ⟨_, rfl⟩
    have e2 : (k : Int).tmod 2 = (j : Int) := by rw [Int.tmod_eq_emod_of_nonneg (by omega)]; omega
    have HNW := hide (fun c d W => lnew_ok (flB c 32) j (flB d 16) (flB_size _ _) (by omega) (flB_size _ _) W)
    clear hj
    go_wp2_with fail
    refine (unhide HF32 _ _).mono ?_
    rintro ev y1 ⟨rfl, hb⟩
    replace HO := hide ((unhide HO).bel' hb)
    clear hb
    go_wp2_with fail
    refine (unhide HF16 _ _).mono ?_
    rintro ev y2 ⟨rfl, hb⟩
    replace HO := hide ((unhide HO).bel' hb)
    clear hb
    go_wp2_with fail
    refine (unhide HNW _ _ _).mono ?_
    rintro ev y3 ⟨g9, _, rfl, _, hb⟩
    replace HO := hide ((unhide HO).bel' hb)
    clear hb
    go_wp2
    go_roundw
    case rel => exact ⟨k + 1, by omega, by go_num, HO⟩
    case measure => simp [intOf] <;> omega
  obtain rfl : k = 40 := by omega
  have e1 : ¬ (((40 : Nat) : Int)) < 40 := by omega
  have hmk := run_make_bool n (by omega) wi
  obtain ⟨tb, htb⟩ : ∃ z, wi.heap.size = z := ⟨_, rfl⟩
  obtain ⟨x0, hx0⟩ : ∃ z, wi.alloc (.cells (List.replicate n (Value.bool false)).toArray 4) = z := ⟨_, rfl⟩
  rw [htb, hx0] at hmk
  have HL0 := hide (show LpI w h g1 g2 B tb key one two l sb (.slice pf l.length cf) vs x0 (fun _ => false) 0 0 0 from by
    have x := unhide HO
    have hb : Below wi.heap.size wi x0 := by rw [← hx0]; exact (Below.refl _ _).alloc (Nat.le_refl _) _
    have x2 := x.bel' hb
    have g := x.gB
    have s := x.hh
    refine ⟨x2.bel, x2.a, x2.b, x2.f, x2.s, ?_, Win.zero, x2.hh, g.1, g.2.1, g.2.2.1, by omega, hg1, hg2, by omega, fun q hq e => by have := (x.f.lt q hq).2; omega, fun q hq e => by have := (x.s.lt q hq).2; omega⟩
    rw [← hx0, ← htb, unhide HN, boolC_zero]
    exact Blk.new _ _ _)
  have hnl := unhide HN
  rw [hnl] at HL0
  clear htb hx0 HO hnl
  go_wp2
  go_loopw [25, 26, 27] (fun hv cv iv wr => ∃ (k tt mm qq : Nat) (T : Nat → Bool), k ≤ qo ∧ qq ≤ k ∧ tt ≤ n ∧ iv = .int .i64 (k : Int) ∧ hv = .int .i64 ((tt : Int) - 1) ∧ cv = .int .i64 (qq : Int) ∧ Hid (LpI w h g1 g2 B tb key one two l sb (.slice pf n cf) vs wr T tt mm qq)) (fun _ _ iv _ => qo - (intOf iv).toNat)
  case atStart => exact ⟨0, 0, 0, 0, _, by omega, by omega, by omega, rfl, rfl, rfl, HL0⟩
  case round =>
  clear HL0
  obtain ⟨k, tt, mm, qq, T, hk, hqk, htn, rfl, rfl, rfl, HL⟩ := hrel
  obtain ⟨wj, rfl⟩ : ∃ z, z = wr := ⟨_, rfl⟩
  have HCB := hide (fun W (hW : LpI w h g1 g2 B tb key one two l sb (.slice pf n cf) vs W T tt mm qq) => lcounts_any g2 _ W hW.b)
  have HCA := hide (fun W (hW : LpI w h g1 g2 B tb key one two l sb (.slice pf n cf) vs W T tt mm qq) => lcounts_any g1 _ W hW.a)
  simp only [unhide HN] at HCA
  have hsb9 : sb ≤ n := unhide HSB
  by_cases hkq : k < qo
  · have d1 : decide ((k : Int) < (qo : Int)) = true := decide_eq_true (by omega)
    by_cases hn0 : n = 0
    · subst hn0
      obtain rfl : sb = 0 := by omega
      go_wp2_with fail
      refine (unhide HCB _ (unhide HL)).mono ?_
      rintro ev z1 ⟨rfl, hb⟩
      replace HL := hide ((unhide HL).bel' hb)
      clear hb
      go_wp2_with fail
      refine (unhide HCA _ (unhide HL)).mono ?_
      rintro ev z2 ⟨rfl, hb⟩
      replace HL := hide ((unhide HL).bel' hb)
      clear hb
      have hA9 : (meA key one two).q = 0 := rfl
      rw [hA9]
      go_wp2
      go_ret
      exact ⟨rfl, (unhide HL).bel⟩
    have d2 : decide ((n : Int) > 0) = true := decide_eq_true (by omega)
    have d2' : decide ((0 : Int) < (n : Int)) = true := decide_eq_true (by omega)
    obtain ⟨gp, op, rfl, hgp, hc⟩ := (unhide HIL).below (unhide HL).bel k (by omega)
    have hi9 := unhide HI9 k
    obtain ⟨c, hc9⟩ : ∃ z, ol.getD k 0 = z := ⟨_, rfl⟩
    rw [hc9] at hc hi9
    have e1 : (k : Int) < (qo : Int) := by omega
    have HPK := hide (fun W => pick21 c n (by omega) hi9 W)
    clear hc9 hi9
    go_wp2_with fail
    refine (unhide HPK _).mono ?_
    rintro ev y ⟨r, hr, rfl, hy⟩
    subst y
    have hfr := (unhide HL).f
    rw [unhide HN] at hfr
    obtain ⟨gf, epf, hcf, _, _, _⟩ := gr_cell hfr r hr
    subst epf
    have hcs := (unhide HL).s
    rw [unhide HN] at hcs
    obtain ⟨ps, cs, rfl, _⟩ := gr_form hcs
    obtain ⟨gs, eps, hcs2, _, _, _⟩ := gr_cell hcs r hr
    subst eps
    have hgs : (l.map Value.string)[r]? = some (.string (l.getD r ⟨#[]⟩)) := by
      rw [List.getElem?_map, List.getD_eq_getElem?_getD, List.getElem?_eq_getElem (by rw [unhide HN]; exact hr)]
      rfl
    have hgf : ((frL ((meA key one two).h 0) ((meA key one two).z 0) l n).map Value.string)[r]? = some (.string (frB ((meA key one two).h 0) ((meA key one two).z 0) (r : Int) (l.getD r ⟨#[]⟩))) := by
      rw [List.getElem?_map, ← frL_get _ _ l n r hr, List.getD_eq_getElem?_getD, List.getElem?_eq_getElem (by rw [frL_len]; exact hr)]
      rfl
    rw [hgf] at hcf
    rw [hgs] at hcs2
    have hmz := unhide HSH r (by rw [unhide HN]; exact hr)
    have HSC := hide (show ∀ W, LpI w h g1 g2 B tb key one two l sb (.slice (some ⟨gf, 0, none⟩) n cf) (.slice (some ⟨gs, 0, none⟩) n cs) W T tt mm qq → W.cell? ⟨gs, r, none⟩ = some (.string (l.getD r ⟨#[]⟩)) ∧ W.cell? ⟨tb, r, none⟩ = some (.bool (T r)) ∧ W.frozen? ⟨tb, r, none⟩ = false from fun W hW => by
      have hws := hW.s
      rw [unhide HN] at hws
      obtain ⟨g, e, q, _, _, _⟩ := gr_cell hws r hr
      injection e with e
      injection e with e
      subst e
      exact ⟨q.trans hgs, (hW.tk.cell r).trans (boolC_get _ _ _ (by rw [unhide HN]; exact hr)), hW.tk.frozen r⟩)
    have hbo : LE.old { meB key one two with s := sb, t := tt, m := mm, q := qq } r = (T r || decide ((32 : Int) ≤ ((tt : Int) - 1) - (r : Int))) := (unhide HL).win.old r
    have hTn := fun ho => tk_new { meB key one two with s := sb, t := tt, m := mm, q := qq } r (l.getD r ⟨#[]⟩) rfl (by omega) hmz ho
    have hTo := fun ho => tk_old { meB key one two with s := sb, t := tt, m := mm, q := qq } r (l.getD r ⟨#[]⟩) rfl (by omega) hmz ho
    have hfz := frB_size ((meA key one two).h 0) ((meA key one two).z 0) (r : Int) (l.getD r ⟨#[]⟩) (by omega)
    have hFk : ∀ f, frB (LE.h { meB key one two with s := sb, t := tt, m := mm, q := qq } (1 - (LE.i { meB key one two with s := sb, t := tt, m := mm, q := qq }))) (LE.z { meB key one two with s := sb, t := tt, m := mm, q := qq } (1 - (LE.i { meB key one two with s := sb, t := tt, m := mm, q := qq }))) (r : Int) f = frB ((meA key one two).h 0) ((meA key one two).z 0) (r : Int) f := fun _ => rfl
    simp only [hFk] at hTn hTo
    obtain ⟨s, hs⟩ : ∃ z, l.getD r ⟨#[]⟩ = z := ⟨_, rfl⟩
    obtain ⟨F, hF⟩ : ∃ z, frB ((meA key one two).h 0) ((meA key one two).z 0) (r : Int) s = z := ⟨_, rfl⟩
    rw [hs, hF] at hcf hfz hTn hTo
    rw [hs] at hcs2 hmz HSC
    have hd := (unhide HL).bel' (W' := wj.drew) (Below.refl _ _).drew
    have HTK0 := hide (ltake_any g2 _ F (by omega) (by show qq < 4611686018427387904; omega) wj.drew hd.b (unhide HKB _ hd.bel).1 (unhide HKB _ hd.bel).2)
    have HFC := hide (show ∀ z1, Only (fun k => k = g2) wj.drew z1 → z1.cell? ⟨gf, r, none⟩ = some (.string F) from fun z1 hO => by
      refine (World.cell?_of_block (a := ⟨gf, r, none⟩) (hO.2 gf (hd.f.lt gf rfl).2 ?_)).trans hcf
      have := (hd.f.lt gf rfl).1
      have := hd.ap
      omega)
    have HRI := hide (show (r : Int) < (n : Int) by omega)
    have HTW := hide (unhide HL).win
    have HD := hide hd
    have HHS := hide hs
    clear hfr hd hgs hgf hc hs hF hFk HPK hcs hfz e1 d1 d2 d2' HCA HCB HL
    by_cases ho : (T r || decide ((32 : Int) ≤ ((tt : Int) - 1) - (r : Int))) = true
    · have hto := hTo (hbo.trans ho)
      have HTK := hide (show Calls Tryz.prog 12 #[.pointer (some ⟨g2, 3, none⟩), .string F] wj.drew fun ev w' => ev = .returned (.tuple #[.string ⟨#[]⟩, .int .i64 213]) ∧ EndM w' g2 { meB key one two with s := sb, t := tt, m := mm, q := qq } ∧ Only (fun k => k = g2) wj.drew w' from by
        have := unhide HTK0
        rw [hto.1, hto.2.1, hto.2.2] at this
        exact this)
      have HN1 := hide (show ∀ z1, EndM z1 g2 { meB key one two with s := sb, t := tt, m := mm, q := qq } → Only (fun k => k = g2) wj.drew z1 → z1.cell? ⟨gf, r, none⟩ = some (.string F) ∧ LpI w h g1 g2 B tb key one two l sb (.slice (some ⟨gf, 0, none⟩) n cf) (.slice (some ⟨gs, 0, none⟩) n cs) z1 T tt mm qq from fun z1 h1 h2 => ⟨unhide HFC _ h2, (unhide HD).same h2 h1⟩)
      clear hto hTn hTo hbo HTK0 HFC HD
      go_wp2_with fail
      refine wp_region_held_drew (S := fun W => W.cell? ⟨gf, r, none⟩ = some (.string F)) (by kernel_rfl) hcf ?_
      intro hS
      refine wpAnyH_takeD 0 (some 161) (.pointer (some ⟨g2, 0, none⟩)) rfl rfl (by kernel_rfl) (by kernel_rfl) (by kernel_rfl) (fun _ _ _ h => h) (Or.inl ⟨by rfl, fun w hSw => by have hq1 : _ = _ := hSw; clear hSw; have hr9 := unhide HRI; go_simp⟩) hS ?_
      simp only [Act.put, List.setIfInBounds_toArray, List.set_cons_zero, List.set_cons_succ]
      refine wpAnyH_takeD 1 (some 162) (.pointer (some ⟨g2, 0, none⟩)) rfl rfl (by kernel_rfl) (by kernel_rfl) (by kernel_rfl) (fun _ _ _ h => h) (Or.inl ⟨by rfl, fun w hSw => by have hq1 : _ = _ := hSw; clear hSw; have hr9 := unhide HRI; go_simp⟩) hS ?_
      simp only [Act.put, List.setIfInBounds_toArray, List.set_cons_zero, List.set_cons_succ]
      refine wpAnyH_takeD 2 (some 163) (.pointer (some ⟨g2, 3, none⟩)) rfl rfl (by kernel_rfl) (by kernel_rfl) (by kernel_rfl) (fun _ _ _ h => h) (Or.inl ⟨by rfl, fun w hSw => by have hq1 : _ = _ := hSw; clear hSw; have hr9 := unhide HRI; go_simp⟩) hS ?_
      simp only [Act.put, List.setIfInBounds_toArray, List.set_cons_zero, List.set_cons_succ]
      refine wpAnyH_takeD 3 (some 164) (.slice (some ⟨gf, 0, none⟩) n cf) rfl rfl (by kernel_rfl) (by kernel_rfl) (by kernel_rfl) (fun _ _ _ h => h) (Or.inl ⟨by rfl, fun w hSw => by have hq1 : _ = _ := hSw; clear hSw; have hr9 := unhide HRI; go_simp⟩) hS ?_
      simp only [Act.put, List.setIfInBounds_toArray, List.set_cons_zero, List.set_cons_succ]
      refine wpAnyH_takeD 4 (some 165) (.int .i64 (r : Int)) rfl rfl (by kernel_rfl) (by kernel_rfl) (by kernel_rfl) (fun _ _ _ h => h) (Or.inl ⟨by rfl, fun w hSw => by have hq1 : _ = _ := hSw; clear hSw; have hr9 := unhide HRI; go_simp⟩) hS ?_
      simp only [Act.put, List.setIfInBounds_toArray, List.set_cons_zero, List.set_cons_succ]
      refine wpAnyH_takeD 5 (some 166) (.pointer (some ⟨gf, r, none⟩)) rfl rfl (by kernel_rfl) (by kernel_rfl) (by kernel_rfl) (fun _ _ _ h => h) (Or.inl ⟨by rfl, fun w hSw => by have hq1 : _ = _ := hSw; clear hSw; have hr9 := unhide HRI; go_simp⟩) hS ?_
      simp only [Act.put, List.setIfInBounds_toArray, List.set_cons_zero, List.set_cons_succ]
      refine wpAnyH_takeD 6 (some 167) (.string F) rfl rfl (by kernel_rfl) (by kernel_rfl) (by kernel_rfl) (fun _ _ _ h => h) (Or.inl ⟨by rfl, fun w hSw => by have hq1 : _ = _ := hSw; clear hSw; have hr9 := unhide HRI; go_simp⟩) hS ?_
      simp only [Act.put, List.setIfInBounds_toArray, List.set_cons_zero, List.set_cons_succ]
      refine wpAnyH_ready (rs := [7]) (by kernel_rfl) (by simp) ?_
      refine AllReadyH.cons rfl (fun K hK => ?_) AllReadyH.nil
      simp only [List.getElem_toArray, List.getElem_cons_succ, List.getElem_cons_zero]
      go_simp
      refine (unhide HTK).mono ?_
      rintro ev z1 ⟨rfl, hE, hO⟩
      obtain ⟨hS9, n1⟩ := unhide HN1 _ hE hO
      have HQ1 := hide n1
      clear hE hO n1
      refine hK.out _ _ hS9 (fun hS => ?_)
      clear hK K
      refine wpAnyH_takeD 8 (some 160) (.tuple #[.string ⟨#[]⟩, .int .i64 213]) rfl rfl (by kernel_rfl) (by kernel_rfl) (by kernel_rfl) (fun _ _ _ h => h) (Or.inl ⟨by rfl, fun w hSw => by have hq1 : _ = _ := hSw; clear hSw; have hr9 := unhide HRI; go_simp⟩) hS ?_
      simp only [Act.put, List.setIfInBounds_toArray, List.set_cons_zero, List.set_cons_succ]
      refine wpAnyH_takeD 9 (some 169) (.string ⟨#[]⟩) rfl rfl (by kernel_rfl) (by kernel_rfl) (by kernel_rfl) (fun _ _ _ h => h) (Or.inl ⟨by rfl, fun w hSw => by have hq1 : _ = _ := hSw; clear hSw; have hr9 := unhide HRI; go_simp⟩) hS ?_
      simp only [Act.put, List.setIfInBounds_toArray, List.set_cons_zero, List.set_cons_succ]
      refine wpAnyH_takeD 10 (some 170) (.int .i64 213) rfl rfl (by kernel_rfl) (by kernel_rfl) (by kernel_rfl) (fun _ _ _ h => h) (Or.inl ⟨by rfl, fun w hSw => by have hq1 : _ = _ := hSw; clear hSw; have hr9 := unhide HRI; go_simp⟩) hS ?_
      simp only [Act.put, List.setIfInBounds_toArray, List.set_cons_zero, List.set_cons_succ]
      refine wpAnyH_takeD 11 (some 29) (.string ⟨#[]⟩) rfl rfl (by kernel_rfl) (by kernel_rfl) (by kernel_rfl) (fun _ _ _ h => h) (Or.inl ⟨by rfl, fun w hSw => by have hq1 : _ = _ := hSw; clear hSw; have hr9 := unhide HRI; go_simp⟩) hS ?_
      simp only [Act.put, List.setIfInBounds_toArray, List.set_cons_zero, List.set_cons_succ]
      refine wpAnyH_takeD 12 (some 30) (.int .i64 213) rfl rfl (by kernel_rfl) (by kernel_rfl) (by kernel_rfl) (fun _ _ _ h => h) (Or.inl ⟨by rfl, fun w hSw => by have hq1 : _ = _ := hSw; clear hSw; have hr9 := unhide HRI; go_simp⟩) hS ?_
      simp only [Act.put, List.setIfInBounds_toArray, List.set_cons_zero, List.set_cons_succ]
      refine wpAnyH_done (by kernel_rfl) ?_ _
      have hsc := unhide HSC _ (unhide HQ1)
      have ct := hsc.2.1
      have cs1 := hsc.1
      clear hsc hS hcf hcs2
      cases hTr : T r
      · rw [hTr] at ct ho
        have d3 : decide ((32 : Int) ≤ ((tt : Int) - 1) - (r : Int)) = true := by simpa using ho
        have ew : wrap64 (((tt : Int) - 1) - (r : Int)) = ((tt : Int) - 1) - (r : Int) := wrap64_eq _ (by omega) (by omega)
        clear ho
        go_wp2
        go_roundw
        case rel => exact ⟨k + 1, tt, mm, qq, T, by omega, by omega, htn, by go_num, rfl, rfl, HQ1⟩
        case measure => simp [intOf] <;> omega
      · rw [hTr] at ct
        clear ho
        go_wp2
        go_roundw
        case rel => exact ⟨k + 1, tt, mm, qq, T, by omega, by omega, htn, by go_num, rfl, rfl, HQ1⟩
        case measure => simp [intOf] <;> omega
    · have ho' : (T r || decide ((32 : Int) ≤ ((tt : Int) - 1) - (r : Int))) = false := by simpa using ho
      have hto := hTn (hbo.trans ho')
      have hTr : T r = false := by cases q : T r; rfl; rw [q] at ho'; simp at ho'
      have d3 : decide ((32 : Int) ≤ ((tt : Int) - 1) - (r : Int)) = false := by rw [hTr] at ho'; simpa using ho'
      have ew : wrap64 (((tt : Int) - 1) - (r : Int)) = ((tt : Int) - 1) - (r : Int) := wrap64_eq _ (by omega) (by omega)
      obtain ⟨tt', htt⟩ : ∃ z, mkT tt r = z := ⟨_, rfl⟩
      obtain ⟨mm', hmm⟩ : ∃ z, mkM tt mm r = z := ⟨_, rfl⟩
      have HTK := hide (show Calls Tryz.prog 12 #[.pointer (some ⟨g2, 3, none⟩), .string F] wj.drew fun ev w' => ev = .returned (.tuple #[.string s, .int .i64 0]) ∧ EndM w' g2 { meB key one two with s := sb, t := tt', m := mm', q := qq + 1 } ∧ Only (fun k => k = g2) wj.drew w' from by
        have := unhide HTK0
        rw [hto.1, hto.2.1, hto.2.2] at this
        rw [← htt, ← hmm]
        exact this)
      have HW' := hide (show Win (upT T r true) tt' mm' from by rw [← htt, ← hmm]; exact (unhide HTW).mark r)
      have HN1 := hide (show ∀ z1, EndM z1 g2 { meB key one two with s := sb, t := tt', m := mm', q := qq + 1 } → Only (fun k => k = g2) wj.drew z1 → z1.cell? ⟨gf, r, none⟩ = some (.string F) ∧ (z1.cell? ⟨gs, r, none⟩ = some (.string s) ∧ z1.cell? ⟨tb, r, none⟩ = some (.bool false) ∧ z1.frozen? ⟨tb, r, none⟩ = false) ∧ LpI w h g1 g2 B tb key one two l sb (.slice (some ⟨gf, 0, none⟩) n cf) (.slice (some ⟨gs, 0, none⟩) n cs) (z1.setCell ⟨tb, r, none⟩ (.bool true)) (upT T r true) tt' mm' (qq + 1) from fun z1 h1 h2 => by
        have hd := unhide HD
        have hap := hd.ap
        have hf2 := hd.s.lt gs rfl
        have q1 := unhide HSC _ hd
        have q2 := hd.tk.only h2 (by omega)
        exact ⟨unhide HFC _ h2, ⟨(World.cell?_of_block (a := ⟨gs, r, none⟩) (h2.2 gs hf2.2 (by omega))).trans q1.1, (q2.cell r).trans (by rw [boolC_get _ _ _ (by rw [unhide HN]; exact hr), hTr]), q2.frozen r⟩, hd.took h2 _ _ _ h1 _ (unhide HW') r (by rw [unhide HN]; exact hr) rfl⟩)
      have htt9 : tt' ≤ n := by rw [← htt]; unfold mkT; split <;> omega
      have HRT := hide (show (r < tt → tt' = tt) ∧ (¬ r < tt → tt' = r + 1) from by rw [← htt]; exact ⟨fun q => if_pos q, fun q => if_neg q⟩)
      clear hto hTn hTo hbo HTK0 HFC HD ho ho' htt hmm HTW HSC
      go_wp2_with fail
      refine wp_region_held_drew (S := fun W => W.cell? ⟨gf, r, none⟩ = some (.string F)) (by kernel_rfl) hcf ?_
      intro hS
      refine wpAnyH_takeD 0 (some 161) (.pointer (some ⟨g2, 0, none⟩)) rfl rfl (by kernel_rfl) (by kernel_rfl) (by kernel_rfl) (fun _ _ _ h => h) (Or.inl ⟨by rfl, fun w hSw => by have hq1 : _ = _ := hSw; clear hSw; have hr9 := unhide HRI; go_simp⟩) hS ?_
      simp only [Act.put, List.setIfInBounds_toArray, List.set_cons_zero, List.set_cons_succ]
      refine wpAnyH_takeD 1 (some 162) (.pointer (some ⟨g2, 0, none⟩)) rfl rfl (by kernel_rfl) (by kernel_rfl) (by kernel_rfl) (fun _ _ _ h => h) (Or.inl ⟨by rfl, fun w hSw => by have hq1 : _ = _ := hSw; clear hSw; have hr9 := unhide HRI; go_simp⟩) hS ?_
      simp only [Act.put, List.setIfInBounds_toArray, List.set_cons_zero, List.set_cons_succ]
      refine wpAnyH_takeD 2 (some 163) (.pointer (some ⟨g2, 3, none⟩)) rfl rfl (by kernel_rfl) (by kernel_rfl) (by kernel_rfl) (fun _ _ _ h => h) (Or.inl ⟨by rfl, fun w hSw => by have hq1 : _ = _ := hSw; clear hSw; have hr9 := unhide HRI; go_simp⟩) hS ?_
      simp only [Act.put, List.setIfInBounds_toArray, List.set_cons_zero, List.set_cons_succ]
      refine wpAnyH_takeD 3 (some 164) (.slice (some ⟨gf, 0, none⟩) n cf) rfl rfl (by kernel_rfl) (by kernel_rfl) (by kernel_rfl) (fun _ _ _ h => h) (Or.inl ⟨by rfl, fun w hSw => by have hq1 : _ = _ := hSw; clear hSw; have hr9 := unhide HRI; go_simp⟩) hS ?_
      simp only [Act.put, List.setIfInBounds_toArray, List.set_cons_zero, List.set_cons_succ]
      refine wpAnyH_takeD 4 (some 165) (.int .i64 (r : Int)) rfl rfl (by kernel_rfl) (by kernel_rfl) (by kernel_rfl) (fun _ _ _ h => h) (Or.inl ⟨by rfl, fun w hSw => by have hq1 : _ = _ := hSw; clear hSw; have hr9 := unhide HRI; go_simp⟩) hS ?_
      simp only [Act.put, List.setIfInBounds_toArray, List.set_cons_zero, List.set_cons_succ]
      refine wpAnyH_takeD 5 (some 166) (.pointer (some ⟨gf, r, none⟩)) rfl rfl (by kernel_rfl) (by kernel_rfl) (by kernel_rfl) (fun _ _ _ h => h) (Or.inl ⟨by rfl, fun w hSw => by have hq1 : _ = _ := hSw; clear hSw; have hr9 := unhide HRI; go_simp⟩) hS ?_
      simp only [Act.put, List.setIfInBounds_toArray, List.set_cons_zero, List.set_cons_succ]
      refine wpAnyH_takeD 6 (some 167) (.string F) rfl rfl (by kernel_rfl) (by kernel_rfl) (by kernel_rfl) (fun _ _ _ h => h) (Or.inl ⟨by rfl, fun w hSw => by have hq1 : _ = _ := hSw; clear hSw; have hr9 := unhide HRI; go_simp⟩) hS ?_
      simp only [Act.put, List.setIfInBounds_toArray, List.set_cons_zero, List.set_cons_succ]
      refine wpAnyH_ready (rs := [7]) (by kernel_rfl) (by simp) ?_
      refine AllReadyH.cons rfl (fun K hK => ?_) AllReadyH.nil
      simp only [List.getElem_toArray, List.getElem_cons_succ, List.getElem_cons_zero]
      go_simp
      refine (unhide HTK).mono ?_
      rintro ev z1 ⟨rfl, hE, hO⟩
      obtain ⟨hS9, n1⟩ := unhide HN1 _ hE hO
      have HQ1 := hide n1
      clear hE hO n1
      refine hK.out _ _ hS9 (fun hS => ?_)
      clear hK K
      refine wpAnyH_takeD 8 (some 160) (.tuple #[.string s, .int .i64 0]) rfl rfl (by kernel_rfl) (by kernel_rfl) (by kernel_rfl) (fun _ _ _ h => h) (Or.inl ⟨by rfl, fun w hSw => by have hq1 : _ = _ := hSw; clear hSw; have hr9 := unhide HRI; go_simp⟩) hS ?_
      simp only [Act.put, List.setIfInBounds_toArray, List.set_cons_zero, List.set_cons_succ]
      refine wpAnyH_takeD 9 (some 169) (.string s) rfl rfl (by kernel_rfl) (by kernel_rfl) (by kernel_rfl) (fun _ _ _ h => h) (Or.inl ⟨by rfl, fun w hSw => by have hq1 : _ = _ := hSw; clear hSw; have hr9 := unhide HRI; go_simp⟩) hS ?_
      simp only [Act.put, List.setIfInBounds_toArray, List.set_cons_zero, List.set_cons_succ]
      refine wpAnyH_takeD 10 (some 170) (.int .i64 0) rfl rfl (by kernel_rfl) (by kernel_rfl) (by kernel_rfl) (fun _ _ _ h => h) (Or.inl ⟨by rfl, fun w hSw => by have hq1 : _ = _ := hSw; clear hSw; have hr9 := unhide HRI; go_simp⟩) hS ?_
      simp only [Act.put, List.setIfInBounds_toArray, List.set_cons_zero, List.set_cons_succ]
      refine wpAnyH_takeD 11 (some 29) (.string s) rfl rfl (by kernel_rfl) (by kernel_rfl) (by kernel_rfl) (fun _ _ _ h => h) (Or.inl ⟨by rfl, fun w hSw => by have hq1 : _ = _ := hSw; clear hSw; have hr9 := unhide HRI; go_simp⟩) hS ?_
      simp only [Act.put, List.setIfInBounds_toArray, List.set_cons_zero, List.set_cons_succ]
      refine wpAnyH_takeD 12 (some 30) (.int .i64 0) rfl rfl (by kernel_rfl) (by kernel_rfl) (by kernel_rfl) (fun _ _ _ h => h) (Or.inl ⟨by rfl, fun w hSw => by have hq1 : _ = _ := hSw; clear hSw; have hr9 := unhide HRI; go_simp⟩) hS ?_
      simp only [Act.put, List.setIfInBounds_toArray, List.set_cons_zero, List.set_cons_succ]
      refine wpAnyH_done (by kernel_rfl) ?_ _
      have hq1 := unhide HQ1
      have cs1 := hq1.1.1
      have ct := hq1.1.2.1
      have ft := hq1.1.2.2
      have HL2 := hide hq1.2
      clear hq1 HQ1 hS hcf hcs2
      by_cases hrt : r < tt
      · have e3 : decide (tt ≤ r) = false := decide_eq_false (by omega)
        have het := (unhide HRT).1 hrt
        subst het
        go_wp2
        go_roundw
        case rel => exact ⟨k + 1, tt', mm', qq + 1, _, by omega, by omega, htt9, by go_num, rfl, by go_num, HL2⟩
        case measure => simp [intOf] <;> omega
      · have e3 : decide (tt ≤ r) = true := decide_eq_true (by omega)
        have het := (unhide HRT).2 hrt
        subst het
        go_wp2
        go_roundw
        case rel => exact ⟨k + 1, r + 1, mm', qq + 1, _, by omega, by omega, htt9, by go_num, by go_num, by go_num, HL2⟩
        case measure => simp [intOf] <;> omega
  have d1 : decide ((k : Int) < (qo : Int)) = false := decide_eq_false (by omega)
  go_wp2_with fail
  refine (unhide HCB _ (unhide HL)).mono ?_
  rintro ev z1 ⟨rfl, hb⟩
  replace HL := hide ((unhide HL).bel' hb)
  clear hb
  go_wp2_with fail
  refine (unhide HCA _ (unhide HL)).mono ?_
  rintro ev z2 ⟨rfl, hb⟩
  replace HL := hide ((unhide HL).bel' hb)
  clear hb
  have hA9 : (meA key one two).q = 0 := rfl
  rw [hA9]
  have e9 : (sb : Int) ≤ (n : Int) := by omega
  go_wp2
  go_ret
  exact ⟨rfl, (unhide HL).bel⟩
end Go.Proofs.YtifjmldmilmfjaaGreatDoor
