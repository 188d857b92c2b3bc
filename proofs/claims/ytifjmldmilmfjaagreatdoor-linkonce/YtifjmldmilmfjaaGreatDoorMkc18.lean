import Derived.Test.YtifjmldmilmfjaaGreatDoorMkc17
import Derived.Test.YtifjmldmilmfjaaGreatDoorMkc07
import Derived.Test.YtifjmldmilmfjaaGreatDoorMkc01
import Derived.Test.YtifjmldmilmfjaaGreatDoorCards
import Derived.Test.YtifjmldmilmfjaaGreatDoorTie
import Derived.ProofKit
import Derived.OpenShut
import Derived.ShutString
import Derived.SizedLaws
import Derived.Deep.DeepHandedRow
import Derived.LaidLaws
import Derived.LaidHandle
import Derived.Lib.LaidTab
import Derived.Deep.Slices
import Derived.Deep.Strs
import Derived.Lib.SmallJoins
import Derived.Stop.LaidErr
import Derived.Stop.LaidTwo
namespace Go.Proofs.YtifjmldmilmfjaaGreatDoor
open Go.RowKit
set_option maxRecDepth 100000
set_option maxHeartbeats 16000000 in
theorem once21 (key one two : Int) (ml : List ByteArray) (qm cm : Nat) (pm : Option Addr) (ol : List Int) (qo co : Nat) (po : Option Addr) (hqm : ml.length = qm) (hqo : ol.length = qo) (hqb : qo ≤ 17592186044400) (hI9 : ∀ i, I64 (ol.getD i 0)) (w : World) (hSB : SB w w.heap.size pm ml) (hIL : IL w w.heap.size po ol) (hqmb : qm ≤ 17592186044400) (hK : KTab w) (hG : ETy w) : Calls Tryz.prog 4 #[.int .i64 key, .int .i64 one, .int .i64 two, .slice pm qm cm, .slice po qo co] w fun ev w' => ev = .returned (.bool true) ∧ Below w.heap.size w w' := by
  obtain ⟨h, hh⟩ : ∃ h, w.heap.size = h := ⟨_, rfl⟩
  have hvh : 1 < h := by rw [← hh]; exact hK.1
  have hKB : ∀ W, Below h w W → KTab W ∧ ETy W := fun W hW => ⟨hK.below (by rw [← hh] at hW; exact hW) hK.1, hG.below (by rw [← hh] at hW; exact hW) hG.lt⟩
  have HKN := hide (known21 w hK hG)
  have HME := hide (fun W (hKW : KTab W) => met_any key one two W hKW)
  rw [hh] at HKN hSB hIL ⊢
  have HKB := hide hKB
  have HSM := hide (And.intro hSB hqm)
  have HOL := hide (And.intro hqo (And.intro hI9 hIL))
  obtain ⟨i0, hi, hz3, hz1, hz2⟩ := info_parts gr_str
  have HI := hide (And.intro hi (And.intro hz3 (And.intro hz1 hz2)))
  have HKBn := hide hKB
  clear hKB hSB hqm hqo hI9 hIL hK hG hi hz3 hz1 hz2
  go_enter Tryz.func4, Tryz.ntmps4
  go_wp2_with fail
  refine (unhide HKN).mono ?_
  rintro ev y0 ⟨rfl, hb⟩
  have HB := hide hb
  clear hb HKN
  go_wp2_with fail
  refine (unhide HME y0 (unhide HKB _ (unhide HB)).1).mono ?_
  rintro ev y1 ⟨g1, g2, rfl, hE1, hE2, hne, hg1, hg2, hb⟩
  have hs0 := (unhide HB).size
  have hgh1 : h ≤ g1 := by omega
  have hgh2 : h ≤ g2 := by omega
  obtain ⟨B, hB⟩ : ∃ z, y1.heap.size = z := ⟨_, rfl⟩
  have HO := hide (show OnI w h g1 g2 B key one two y1 [] 0 (.slice none 0 0) (.slice none 0 0) from
    ⟨(unhide HB).trans (hb.mono (by omega)), hE1, hE2, World.ownsRow_nil _ _ _ _, World.ownsRow_nil _ _ _ _, fun q hq => by simp [Value.ownBlock] at hq, fun j hj => absurd hj (by simp), by simp, by have := hb.size; omega, by have := hE1.lt; have := hE2.lt; exact ⟨by omega, by omega, hne, by omega⟩⟩)
  have hhB : h ≤ B := by have := hb.size; omega
  clear hE1 hE2 hb hg1 hg2 hs0 hB HME HB
  go_wp2
  rename_i K9 aK9
  have hK9 : ∀ (wx : World) (l : List ByteArray) (n sb : Nat) (vf vs : Value) (_ : l.length = n) (_ : n ≤ 80) (_ : OnI w h g1 g2 B key one two wx l sb vf vs) (t3 t5 t6 t7 t8 t9 t10 t11 t16 t17 t18 t19 t20 t21 t22 t23 t24 t25 t26 t27 t28 t29 t30 t31 t32 t33 t34 t35 t36 t37 t38 t39 t40 t41 t42 t43 t44 t45 t46 t47 t48 t49 t50 t51 t52 t53 t54 t55 t56 t57 t58 t59 t60 t61 t62 t63 t64 t65 t66 t67 t68 t69 t70 t71 t72 t73 t74 t75 t76 t77 t78 t79 t80 t81 t82 t83 t84 t85 t86 t87 t88 t89 t90 t91 t92 t93 t94 t95 t96 t97 t98 t99 t100 t101 t102 t103 t104 t105 t106 t107 t108 t109 t110 t111 t112 t113 t114 t115 t116 t117 t118 t119 t120 t121 t122 t123 t124 t125 t126 t127 t128 t129 t130 t131 t132 t133 t134 t135 t136 t137 t138 t139 t140 t141 t142 t143 t144 t145 t146 t147 t148 t149 t150 t151 t152 t153 t154 t155 t156 t157 t158 t159 t160 t161 t162 t163 t164 t165 t166 t167 t168 t169 t170 t171 t172 t173 t174 t175 t176 t177 t178 t179 t180 t181 t182 t183 t184 t185 t186 t187 t188 t189 t190 t191 t192 t193 t194 t195 t196 t197 t198 t199 t200 t201 t202 t203 t204 t205 t206 t207 t208 t209 t210 t211 t212 t213 t214 t215 t216 t217 t218 t219 t220 t221 t222 t223 t224 t225 t226 t227 t228 t229 t230 t231 t232 t233 t234 t235 t236 t237 t238 t239 t240 t241 t242 t243 : Value), K9 ⟨#[.int .i64 key, .int .i64 one, .int .i64 two, t3, .slice po qo co, t5, t6, t7, t8, t9, t10, t11, .pointer (some ⟨g1, 0, none⟩), .pointer (some ⟨g2, 0, none⟩), vf, vs, t16, t17, t18, t19, t20, t21, t22, t23, t24, t25, t26, t27, t28, t29, t30, t31, t32, t33, t34, t35, t36, t37, t38, t39, t40, t41, t42, t43, t44, t45, t46, t47, t48, t49, t50, t51, t52, t53, t54, t55, t56, t57, t58, t59, t60, t61, t62, t63, t64, t65, t66, t67, t68, t69, t70, t71, t72, t73, t74, t75, t76, t77, t78, t79, t80, t81, t82, t83, t84, t85, t86, t87, t88, t89, t90, t91, t92, t93, t94, t95, t96, t97, t98, t99, t100, t101, t102, t103, t104, t105, t106, t107, t108, t109, t110, t111, t112, t113, t114, t115, t116, t117, t118, t119, t120, t121, t122, t123, t124, t125, t126, t127, t128, t129, t130, t131, t132, t133, t134, t135, t136, t137, t138, t139, t140, t141, t142, t143, t144, t145, t146, t147, t148, t149, t150, t151, t152, t153, t154, t155, t156, t157, t158, t159, t160, t161, t162, t163, t164, t165, t166, t167, t168, t169, t170, t171, t172, t173, t174, t175, t176, t177, t178, t179, t180, t181, t182, t183, t184, t185, t186, t187, t188, t189, t190, t191, t192, t193, t194, t195, t196, t197, t198, t199, t200, t201, t202, t203, t204, t205, t206, t207, t208, t209, t210, t211, t212, t213, t214, t215, t216, t217, t218, t219, t220, t221, t222, t223, t224, t225, t226, t227, t228, t229, t230, t231, t232, t233, t234, t235, t236, t237, t238, t239, t240, t241, t242, t243], []⟩ wx := fun wx l n sb vf vs a1 a2 a3 t3 t5 t6 t7 t8 t9 t10 t11 t16 t17 t18 t19 t20 t21 t22 t23 t24 t25 t26 t27 t28 t29 t30 t31 t32 t33 t34 t35 t36 t37 t38 t39 t40 t41 t42 t43 t44 t45 t46 t47 t48 t49 t50 t51 t52 t53 t54 t55 t56 t57 t58 t59 t60 t61 t62 t63 t64 t65 t66 t67 t68 t69 t70 t71 t72 t73 t74 t75 t76 t77 t78 t79 t80 t81 t82 t83 t84 t85 t86 t87 t88 t89 t90 t91 t92 t93 t94 t95 t96 t97 t98 t99 t100 t101 t102 t103 t104 t105 t106 t107 t108 t109 t110 t111 t112 t113 t114 t115 t116 t117 t118 t119 t120 t121 t122 t123 t124 t125 t126 t127 t128 t129 t130 t131 t132 t133 t134 t135 t136 t137 t138 t139 t140 t141 t142 t143 t144 t145 t146 t147 t148 t149 t150 t151 t152 t153 t154 t155 t156 t157 t158 t159 t160 t161 t162 t163 t164 t165 t166 t167 t168 t169 t170 t171 t172 t173 t174 t175 t176 t177 t178 t179 t180 t181 t182 t183 t184 t185 t186 t187 t188 t189 t190 t191 t192 t193 t194 t195 t196 t197 t198 t199 t200 t201 t202 t203 t204 t205 t206 t207 t208 t209 t210 t211 t212 t213 t214 t215 t216 t217 t218 t219 t220 t221 t222 t223 t224 t225 t226 t227 t228 t229 t230 t231 t232 t233 t234 t235 t236 t237 t238 t239 t240 t241 t242 t243 => aK9 _ _ (onceE_walk w h g1 g2 B key one two l n sb vf vs ol qo co po (unhide HOL).1 hqb (unhide HOL).2.1 hvh hgh1 hgh2 a1 a2 (unhide HKBn) (unhide HOL).2.2 wx a3 t3 t5 t6 t7 t8 t9 t10 t11 t16 t17 t18 t19 t20 t21 t22 t23 t24 t25 t26 t27 t28 t29 t30 t31 t32 t33 t34 t35 t36 t37 t38 t39 t40 t41 t42 t43 t44 t45 t46 t47 t48 t49 t50 t51 t52 t53 t54 t55 t56 t57 t58 t59 t60 t61 t62 t63 t64 t65 t66 t67 t68 t69 t70 t71 t72 t73 t74 t75 t76 t77 t78 t79 t80 t81 t82 t83 t84 t85 t86 t87 t88 t89 t90 t91 t92 t93 t94 t95 t96 t97 t98 t99 t100 t101 t102 t103 t104 t105 t106 t107 t108 t109 t110 t111 t112 t113 t114 t115 t116 t117 t118 t119 t120 t121 t122 t123 t124 t125 t126 t127 t128 t129 t130 t131 t132 t133 t134 t135 t136 t137 t138 t139 t140 t141 t142 t143 t144 t145 t146 t147 t148 t149 t150 t151 t152 t153 t154 t155 t156 t157 t158 t159 t160 t161 t162 t163 t164 t165 t166 t167 t168 t169 t170 t171 t172 t173 t174 t175 t176 t177 t178 t179 t180 t181 t182 t183 t184 t185 t186 t187 t188 t189 t190 t191 t192 t193 t194 t195 t196 t197 t198 t199 t200 t201 t202 t203 t204 t205 t206 t207 t208 t209 t210 t211 t212 t213 t214 t215 t216 t217 t218 t219 t220 t221 t222 t223 t224 t225 t226 t227 t228 t229 t230 t231 t232 t233 t234 t235 t236 t237 t238 t239 t240 t241 t242 t243)
  have HK9 := hide hK9
  clear aK9 hK9 HOL
  go_loopw [14, 15, 16] (fun vf vs iv wr => ∃ (k : Nat) (l : List ByteArray) (sb : Nat), k ≤ qm ∧ k ≤ 80 ∧ l.length ≤ k ∧ iv = .int .i64 (k : Int) ∧ Hid (OnI w h g1 g2 B key one two wr l sb vf vs)) (fun _ _ iv _ => qm - (intOf iv).toNat)
  case atStart => exact ⟨0, [], 0, by omega, by omega, by simp, rfl, HO⟩
  case round =>
  clear HO
  obtain ⟨k, l, sb, hk, hk80, hlk, rfl, HO⟩ := hrel
  obtain ⟨wi, rfl⟩ : ∃ z, z = wr := ⟨_, rfl⟩
  by_cases hkq : k < qm
  · have d1 : decide ((k : Int) < (qm : Int)) = true := decide_eq_true (by omega)
    by_cases h80 : k < 80
    · have d2 : decide ((k : Int) < 80) = true := decide_eq_true (by omega)
      have hBw := (unhide HO).bel
      obtain ⟨gp, op, rfl, hgp, hc⟩ := (unhide HSM).1.below hBw k (by rw [(unhide HSM).2]; exact hkq)
      obtain ⟨s, hs⟩ : ∃ z, ml.getD k ⟨#[]⟩ = z := ⟨_, rfl⟩
      rw [hs] at hc
      clear hs hBw
      by_cases hl : 4096 < s.size
      · have e2 : (s.size : Int) > 4096 := by omega
        go_wp2
        go_roundw
        case rel => exact ⟨k + 1, l, sb, by omega, by omega, by omega, by go_num, HO⟩
        case measure => simp [intOf] <;> omega
      have hs4 : s.size ≤ 4096 := by omega
      have e2 : ¬ (s.size : Int) > 4096 := by omega
      obtain ⟨pf, cf, rfl, _⟩ := gr_form (unhide HO).f
      obtain ⟨ps, cs, rfl, _⟩ := gr_form (unhide HO).s
      obtain ⟨nn, hnn⟩ : ∃ z, l.length = z := ⟨_, rfl⟩
      have hd := (unhide HO).bel' (W' := wi.drew) (Below.refl _ _).drew
      have s1 := sn_ok { meA key one two with s := l.length } s rfl (show l.length < 4611686018427387904 by omega) hs4
      have hsA : LE.snE { meA key one two with s := l.length } s = 0 ∧ LE.snF { meA key one two with s := l.length } s = frB ((meA key one two).h 0) ((meA key one two).z 0) (l.length : Int) s ∧ LE.snN { meA key one two with s := l.length } s = { meA key one two with s := l.length + 1 } := s1
      obtain ⟨bk, hbk⟩ : ∃ z, (⟨#[98, 97, 99, 107, 32]⟩ : ByteArray) ++ s = z := ⟨_, rfl⟩
      have hbz : bk.size = 5 + s.size := by rw [← hbk, ByteArray.size_append]; rfl
      have ez5 : (⟨#[98, 97, 99, 107, 32]⟩ : ByteArray).size = 5 := rfl
      obtain ⟨E2, F2, sb2, q1, q2, q3, hsb2, hE2⟩ : ∃ (E2 : Int) (F2 : ByteArray) (sb2 : Nat), LE.snE { meB key one two with s := sb } bk = E2 ∧ LE.snF { meB key one two with s := sb } bk = F2 ∧ LE.snN { meB key one two with s := sb } bk = { meB key one two with s := sb2 } ∧ sb2 ≤ sb + 1 ∧ (E2 = 0 ∨ E2 = 214 ∧ 4096 < bk.size) := by
        have h9 := hd.sb9
        by_cases hb : bk.size ≤ 4096
        · have x := sn_ok { meB key one two with s := sb } bk rfl (show sb < 4611686018427387904 by omega) hb
          exact ⟨0, _, sb + 1, x.1, rfl, x.2.2, by omega, .inl rfl⟩
        · have x := sn_long { meB key one two with s := sb } bk rfl (show sb < 4611686018427387904 by omega) (by omega)
          exact ⟨214, _, sb, x.1, rfl, x.2.2, by omega, .inr ⟨rfl, by omega⟩⟩
      have HSA := hide (lsend_any g1 _ s (by omega) wi.drew hd.a (unhide HKB _ hd.bel).1)
      rw [hsA.1, hsA.2.1, hsA.2.2] at HSA
      obtain ⟨F, hF⟩ : ∃ z, frB ((meA key one two).h 0) ((meA key one two).z 0) (l.length : Int) s = z := ⟨_, rfl⟩
      rw [hF] at HSA
      have HSZ := hide (And.intro hs4 (And.intro hsb2 (And.intro hhB hd.sb9)))
      have HN1 := hide (show ∀ z1, EndM z1 g1 { meA key one two with s := l.length + 1 } → Only (fun k => k = g1) wi.drew z1 → z1.cell? ⟨gp, op + k, none⟩ = some (.string s) ∧ (z1.drew.cell? ⟨gp, op + k, none⟩ = some (.string s) ∧ EndM z1 g1 { meA key one two with s := l.length + 1 } ∧ Only (fun k => k = g1) wi.drew z1 ∧ Below h w z1) from fun z1 h1 h2 => by
        have hx : z1.cell? ⟨gp, op + k, none⟩ = some (.string s) := (World.cell?_of_block (a := ⟨gp, op + k, none⟩) (h2.2 gp (by have := hd.hh; omega) (by omega))).trans hc
        exact ⟨hx, hx, h1, h2, hd.bel.trans (h2.below hd.hh (fun k hk q => by omega))⟩)
      have HSBG := hide (fun (z1 : World) (h2 : Only (fun k => k = g1) wi.drew z1) (h3 : Below h w z1) => lsend_any g2 { meB key one two with s := sb } bk (by omega) z1.drew (((hd.b.only h2 (fun q => hne q.symm)).below (B := z1.heap.size) (Below.refl _ _).drew (by have := hd.b.lt; have := h2.size; omega))) (unhide HKB _ (h3.trans ((Below.refl _ z1).drew.mono (by have := h2.size; have := hd.hh; omega)))).1)
      rw [q1, q2, q3] at HSBG
      have HQQ := hide (show ∀ z1 z2, (EndM z1 g1 { meA key one two with s := l.length + 1 } ∧ Only (fun k => k = g1) wi.drew z1 ∧ Below h w z1) → EndM z2 g2 { meB key one two with s := sb2 } → Only (fun k => k = g2) z1.drew z2 → z2.cell? ⟨gp, op + k, none⟩ = some (.string s) ∧ EndM z2 g1 { meA key one two with s := l.length + 1 } ∧ EndM z2 g2 { meB key one two with s := sb2 } ∧ z2.ownsRow B 9 1 (.slice pf l.length cf) l.length ((frL ((meA key one two).h 0) ((meA key one two).z 0) l l.length).map Value.string) ∧ z2.ownsRow B 9 1 (.slice ps l.length cs) l.length (l.map Value.string) ∧ Below h w z2 ∧ (B ≤ z2.heap.size ∧ gp < z2.heap.size) from fun z1 z2 h1 h2 h3 => by
        have hO : Only (fun k => k = g1 ∨ k = g2) wi.drew z2 := (h1.2.1.drew.mono (fun _ _ q => .inl q)).trans h3 (fun _ _ q => .inr q)
        have hap := hd.gB
        have hhh := hd.hh
        have hsz := hO.size
        have hgpz : gp < wi.drew.heap.size := by omega
        refine ⟨(World.cell?_of_block (a := ⟨gp, op + k, none⟩) (hO.2 gp hgpz (by omega))).trans hc, ?_, h2, owns_only hd.f hO (fun q hq e => ?_), owns_only hd.s hO (fun q hq e => ?_), hd.bel.trans (hO.below hhh (fun k hk q => by omega)), by omega, by omega⟩
        · have h9 : EndM z1.drew g1 { meA key one two with s := l.length + 1 } := h1.1.below (B := z1.heap.size) (Below.refl _ _).drew h1.1.lt
          exact h9.only h3 hne
        · have := (hd.f.lt q hq).1; omega
        · have := (hd.s.lt q hq).1; omega)
      have HDIS := hide hd.dis
      have HAPP := hide (show ∀ z2 x5 x6, (z2.cell? ⟨gp, op + k, none⟩ = some (.string s) ∧ EndM z2 g1 { meA key one two with s := l.length + 1 } ∧ EndM z2 g2 { meB key one two with s := sb2 } ∧ z2.ownsRow B 9 1 (.slice pf l.length cf) l.length ((frL ((meA key one two).h 0) ((meA key one two).z 0) l l.length).map Value.string) ∧ z2.ownsRow B 9 1 (.slice ps l.length cs) l.length (l.map Value.string) ∧ Below h w z2 ∧ (B ≤ z2.heap.size ∧ gp < z2.heap.size)) → ∀ g5 c5 g6 c6, x5.ownsRow B 9 1 (.slice (some ⟨g5, 0, none⟩) (l.length + 1) c5) (l.length + 1) ((frL ((meA key one two).h 0) ((meA key one two).z 0) l l.length).map Value.string ++ [.string F]) → (z2.alloc (.cells #[.string F] 9)).grownBy x5 (Value.slice pf l.length cf).ownBlock → ((Value.slice pf l.length cf).ownBlock = some g5 ∨ g5 = z2.heap.size + 1) → x6.ownsRow B 9 1 (.slice (some ⟨g6, 0, none⟩) (l.length + 1) c6) (l.length + 1) (l.map Value.string ++ [.string s]) → (x5.alloc (.cells #[.string s] 9)).grownBy x6 (Value.slice ps l.length cs).ownBlock → ((Value.slice ps l.length cs).ownBlock = some g6 ∨ g6 = x5.heap.size + 1) → g5 < x5.heap.size → OnI w h g1 g2 B key one two x6 (l ++ [s]) sb2 (.slice (some ⟨g5, 0, none⟩) (l.length + 1) c5) (.slice (some ⟨g6, 0, none⟩) (l.length + 1) c6) from fun z2 x5 x6 hz g5 c5 g6 c6 a1 a2 a3 a4 a5 a6 a7 => by
        rw [← hF] at a1 a2
        have hap := hd.gB
        exact OnI.app s hs4 hz.2.2.2.2.2.1 hhB hz.2.1 hz.2.2.1 (by have := hd.sb9; omega) ⟨hap.1, hap.2.1, hap.2.2.1, hz.2.2.2.2.2.2.1⟩ hz.2.2.2.1 hz.2.2.2.2.1 hd.dis hd.sht a1 a2 a3 a4 a5 a6 a7)
      clear s1 hsA q1 q2 q3 hsb2 hF hd HO
      rw [hnn] at HQQ HAPP HDIS HN1 HSA
      have hnl : nn ≤ 80 := by omega
      have HLL := hide (show l.length ≤ k from hlk)
      rw [hnn]
      go_wp2_with fail
      clear e2
      refine wp_region_held_drew (S := fun W => W.cell? ⟨gp, op + k, none⟩ = some (.string s)) (by kernel_rfl) hc ?_
      intro hS
      refine wpAnyH_takeD 0 (some 67) (.pointer (some ⟨g1, 0, none⟩)) rfl rfl (by kernel_rfl) (by kernel_rfl) (by kernel_rfl) (fun _ _ _ h => h) (Or.inl ⟨by rfl, fun w hSw => by have hq1 : _ = _ := hSw; clear hSw; go_simp⟩) hS ?_
      simp only [Act.put, List.setIfInBounds_toArray, List.set_cons_zero, List.set_cons_succ]
      refine wpAnyH_takeD 1 (some 68) (.pointer (some ⟨g1, 0, none⟩)) rfl rfl (by kernel_rfl) (by kernel_rfl) (by kernel_rfl) (fun _ _ _ h => h) (Or.inl ⟨by rfl, fun w hSw => by have hq1 : _ = _ := hSw; clear hSw; go_simp⟩) hS ?_
      simp only [Act.put, List.setIfInBounds_toArray, List.set_cons_zero, List.set_cons_succ]
      refine wpAnyH_takeD 2 (some 69) (.pointer (some ⟨g1, 0, none⟩)) rfl rfl (by kernel_rfl) (by kernel_rfl) (by kernel_rfl) (fun _ _ _ h => h) (Or.inl ⟨by rfl, fun w hSw => by have hq1 : _ = _ := hSw; clear hSw; go_simp⟩) hS ?_
      simp only [Act.put, List.setIfInBounds_toArray, List.set_cons_zero, List.set_cons_succ]
      refine wpAnyH_takeD 3 (some 70) (.slice (some ⟨gp, op, none⟩) qm cm) rfl rfl (by kernel_rfl) (by kernel_rfl) (by kernel_rfl) (fun _ _ _ h => h) (Or.inl ⟨by rfl, fun w hSw => by have hq1 : _ = _ := hSw; clear hSw; go_simp⟩) hS ?_
      simp only [Act.put, List.setIfInBounds_toArray, List.set_cons_zero, List.set_cons_succ]
      refine wpAnyH_takeD 4 (some 71) (.int .i64 (k : Int)) rfl rfl (by kernel_rfl) (by kernel_rfl) (by kernel_rfl) (fun _ _ _ h => h) (Or.inl ⟨by rfl, fun w hSw => by have hq1 : _ = _ := hSw; clear hSw; go_simp⟩) hS ?_
      simp only [Act.put, List.setIfInBounds_toArray, List.set_cons_zero, List.set_cons_succ]
      refine wpAnyH_takeD 5 (some 72) (.pointer (some ⟨gp, op + k, none⟩)) rfl rfl (by kernel_rfl) (by kernel_rfl) (by kernel_rfl) (fun _ _ _ h => h) (Or.inl ⟨by rfl, fun w hSw => by have hq1 : _ = _ := hSw; clear hSw; go_simp⟩) hS ?_
      simp only [Act.put, List.setIfInBounds_toArray, List.set_cons_zero, List.set_cons_succ]
      refine wpAnyH_takeD 6 (some 73) (.string s) rfl rfl (by kernel_rfl) (by kernel_rfl) (by kernel_rfl) (fun _ _ _ h => h) (Or.inl ⟨by rfl, fun w hSw => by have hq1 : _ = _ := hSw; clear hSw; go_simp⟩) hS ?_
      simp only [Act.put, List.setIfInBounds_toArray, List.set_cons_zero, List.set_cons_succ]
      refine wpAnyH_ready (rs := [7]) (by kernel_rfl) (by simp) ?_
      refine AllReadyH.cons rfl (fun K hK => ?_) AllReadyH.nil
      simp only [List.getElem_toArray, List.getElem_cons_succ, List.getElem_cons_zero]
      go_simp
      refine (unhide HSA).mono ?_
      rintro ev z1 ⟨rfl, hE, hO⟩
      obtain ⟨hS9, n1⟩ := unhide HN1 _ hE hO
      have HQ1 := hide n1
      clear hE hO n1
      refine hK.out _ _ hS9 (fun hS => ?_)
      clear hK K
      refine wpAnyH_takeD 8 (some 66) (.tuple #[.string F, .int .i64 0]) rfl rfl (by kernel_rfl) (by kernel_rfl) (by kernel_rfl) (fun _ _ _ h => h) (Or.inl ⟨by rfl, fun w hSw => by have hq1 : _ = _ := hSw; clear hSw; go_simp⟩) hS ?_
      simp only [Act.put, List.setIfInBounds_toArray, List.set_cons_zero, List.set_cons_succ]
      refine wpAnyH_takeD 9 (some 75) (.string F) rfl rfl (by kernel_rfl) (by kernel_rfl) (by kernel_rfl) (fun _ _ _ h => h) (Or.inl ⟨by rfl, fun w hSw => by have hq1 : _ = _ := hSw; clear hSw; go_simp⟩) hS ?_
      simp only [Act.put, List.setIfInBounds_toArray, List.set_cons_zero, List.set_cons_succ]
      refine wpAnyH_takeD 10 (some 76) (.int .i64 0) rfl rfl (by kernel_rfl) (by kernel_rfl) (by kernel_rfl) (fun _ _ _ h => h) (Or.inl ⟨by rfl, fun w hSw => by have hq1 : _ = _ := hSw; clear hSw; go_simp⟩) hS ?_
      simp only [Act.put, List.setIfInBounds_toArray, List.set_cons_zero, List.set_cons_succ]
      refine wpAnyH_takeD 11 (some 17) (.string F) rfl rfl (by kernel_rfl) (by kernel_rfl) (by kernel_rfl) (fun _ _ _ h => h) (Or.inl ⟨by rfl, fun w hSw => by have hq1 : _ = _ := hSw; clear hSw; go_simp⟩) hS ?_
      simp only [Act.put, List.setIfInBounds_toArray, List.set_cons_zero, List.set_cons_succ]
      refine wpAnyH_takeD 12 (some 18) (.int .i64 0) rfl rfl (by kernel_rfl) (by kernel_rfl) (by kernel_rfl) (fun _ _ _ h => h) (Or.inl ⟨by rfl, fun w hSw => by have hq1 : _ = _ := hSw; clear hSw; go_simp⟩) hS ?_
      simp only [Act.put, List.setIfInBounds_toArray, List.set_cons_zero, List.set_cons_succ]
      refine wpAnyH_done (by kernel_rfl) ?_ _
      have hq1 := unhide HQ1
      have hc1 := hq1.1
      have HSB1 := hide (unhide HSBG z1 hq1.2.2.1 hq1.2.2.2)
      have HN2 := hide (show ∀ z2, EndM z2 g2 { meB key one two with s := sb2 } → Only (fun k => k = g2) z1.drew z2 → z2.cell? ⟨gp, op + k, none⟩ = some (.string s) ∧ _ from fun z2 h1 h2 => ⟨(unhide HQQ z1 z2 (unhide HQ1).2 h1 h2).1, unhide HQQ z1 z2 (unhide HQ1).2 h1 h2⟩)
      clear hq1 hS HSBG HSA HN1 HQQ
      go_wp2_with fail
      refine wp_region_held_drew (S := fun W => W.cell? ⟨gp, op + k, none⟩ = some (.string s)) (by kernel_rfl) hc1 ?_
      intro hS
      refine wpAnyH_takeD 0 (some 78) (.pointer (some ⟨g2, 0, none⟩)) rfl rfl (by kernel_rfl) (by kernel_rfl) (by kernel_rfl) (fun _ _ _ h => h) (Or.inl ⟨by rfl, fun w hSw => by have hq1 : _ = _ := hSw; clear hSw; go_simp; try omega⟩) hS ?_
      simp only [Act.put, List.setIfInBounds_toArray, List.set_cons_zero, List.set_cons_succ]
      refine wpAnyH_takeD 1 (some 79) (.pointer (some ⟨g2, 0, none⟩)) rfl rfl (by kernel_rfl) (by kernel_rfl) (by kernel_rfl) (fun _ _ _ h => h) (Or.inl ⟨by rfl, fun w hSw => by have hq1 : _ = _ := hSw; clear hSw; go_simp; try omega⟩) hS ?_
      simp only [Act.put, List.setIfInBounds_toArray, List.set_cons_zero, List.set_cons_succ]
      refine wpAnyH_takeD 2 (some 80) (.pointer (some ⟨g2, 0, none⟩)) rfl rfl (by kernel_rfl) (by kernel_rfl) (by kernel_rfl) (fun _ _ _ h => h) (Or.inl ⟨by rfl, fun w hSw => by have hq1 : _ = _ := hSw; clear hSw; go_simp; try omega⟩) hS ?_
      simp only [Act.put, List.setIfInBounds_toArray, List.set_cons_zero, List.set_cons_succ]
      refine wpAnyH_takeD 3 (some 81) (.slice (some ⟨gp, op, none⟩) qm cm) rfl rfl (by kernel_rfl) (by kernel_rfl) (by kernel_rfl) (fun _ _ _ h => h) (Or.inl ⟨by rfl, fun w hSw => by have hq1 : _ = _ := hSw; clear hSw; go_simp; try omega⟩) hS ?_
      simp only [Act.put, List.setIfInBounds_toArray, List.set_cons_zero, List.set_cons_succ]
      refine wpAnyH_takeD 4 (some 82) (.int .i64 (k : Int)) rfl rfl (by kernel_rfl) (by kernel_rfl) (by kernel_rfl) (fun _ _ _ h => h) (Or.inl ⟨by rfl, fun w hSw => by have hq1 : _ = _ := hSw; clear hSw; go_simp; try omega⟩) hS ?_
      simp only [Act.put, List.setIfInBounds_toArray, List.set_cons_zero, List.set_cons_succ]
      refine wpAnyH_takeD 5 (some 83) (.pointer (some ⟨gp, op + k, none⟩)) rfl rfl (by kernel_rfl) (by kernel_rfl) (by kernel_rfl) (fun _ _ _ h => h) (Or.inl ⟨by rfl, fun w hSw => by have hq1 : _ = _ := hSw; clear hSw; go_simp; try omega⟩) hS ?_
      simp only [Act.put, List.setIfInBounds_toArray, List.set_cons_zero, List.set_cons_succ]
      refine wpAnyH_takeD 6 (some 84) (.string s) rfl rfl (by kernel_rfl) (by kernel_rfl) (by kernel_rfl) (fun _ _ _ h => h) (Or.inl ⟨by rfl, fun w hSw => by have hq1 : _ = _ := hSw; clear hSw; go_simp; try omega⟩) hS ?_
      simp only [Act.put, List.setIfInBounds_toArray, List.set_cons_zero, List.set_cons_succ]
      refine wpAnyH_takeD 7 (some 85) (.string bk) rfl rfl (by kernel_rfl) (by kernel_rfl) (by kernel_rfl) (fun _ _ _ h => h) (Or.inl ⟨by rfl, fun w hSw => by have hq1 : _ = _ := hSw; clear hSw; go_simp; try omega⟩) hS ?_
      simp only [Act.put, List.setIfInBounds_toArray, List.set_cons_zero, List.set_cons_succ]
      refine wpAnyH_ready (rs := [8]) (by kernel_rfl) (by simp) ?_
      refine AllReadyH.cons rfl (fun K hK => ?_) AllReadyH.nil
      simp only [List.getElem_toArray, List.getElem_cons_succ, List.getElem_cons_zero]
      go_simp
      refine (unhide HSB1).mono ?_
      rintro ev z2 ⟨rfl, hE, hO⟩
      obtain ⟨hS9, n1⟩ := unhide HN2 _ hE hO
      have HQ2 := hide n1
      clear hE hO n1
      refine hK.out _ _ hS9 (fun hS => ?_)
      clear hK K
      refine wpAnyH_takeD 9 (some 77) (.tuple #[.string F2, .int .i64 E2]) rfl rfl (by kernel_rfl) (by kernel_rfl) (by kernel_rfl) (fun _ _ _ h => h) (Or.inl ⟨by rfl, fun w hSw => by have hq1 : _ = _ := hSw; clear hSw; go_simp; try omega⟩) hS ?_
      simp only [Act.put, List.setIfInBounds_toArray, List.set_cons_zero, List.set_cons_succ]
      refine wpAnyH_takeD 10 (some 87) (.string F2) rfl rfl (by kernel_rfl) (by kernel_rfl) (by kernel_rfl) (fun _ _ _ h => h) (Or.inl ⟨by rfl, fun w hSw => by have hq1 : _ = _ := hSw; clear hSw; go_simp; try omega⟩) hS ?_
      simp only [Act.put, List.setIfInBounds_toArray, List.set_cons_zero, List.set_cons_succ]
      refine wpAnyH_takeD 11 (some 88) (.int .i64 E2) rfl rfl (by kernel_rfl) (by kernel_rfl) (by kernel_rfl) (fun _ _ _ h => h) (Or.inl ⟨by rfl, fun w hSw => by have hq1 : _ = _ := hSw; clear hSw; go_simp; try omega⟩) hS ?_
      simp only [Act.put, List.setIfInBounds_toArray, List.set_cons_zero, List.set_cons_succ]
      refine wpAnyH_takeD 12 (some 19) (.string F2) rfl rfl (by kernel_rfl) (by kernel_rfl) (by kernel_rfl) (fun _ _ _ h => h) (Or.inl ⟨by rfl, fun w hSw => by have hq1 : _ = _ := hSw; clear hSw; go_simp; try omega⟩) hS ?_
      simp only [Act.put, List.setIfInBounds_toArray, List.set_cons_zero, List.set_cons_succ]
      refine wpAnyH_takeD 13 (some 20) (.int .i64 E2) rfl rfl (by kernel_rfl) (by kernel_rfl) (by kernel_rfl) (fun _ _ _ h => h) (Or.inl ⟨by rfl, fun w hSw => by have hq1 : _ = _ := hSw; clear hSw; go_simp; try omega⟩) hS ?_
      simp only [Act.put, List.setIfInBounds_toArray, List.set_cons_zero, List.set_cons_succ]
      refine wpAnyH_done (by kernel_rfl) ?_ _
      clear hS hc1 HSB1 HN2 HQ1
      rcases hE2 with rfl | ⟨rfl, hbl⟩
      · clear hbz ez5 hbk
        have hq2 := unhide HQ2
        have hc2 := hq2.1
        have hBz := hq2.2.2.2.2.2.1
        have HOf := hide (hq2.2.2.2.1.alloc (.cells #[.string F] 9))
        have hzB := hq2.2.2.2.2.2.2
        clear hq2
        go_wp2_with (refine wpList_append_lies _ rfl (.tmp 104) (.tmp 106) 22 rfl B 9 i0 (.string ⟨#[]⟩) 1 16 Tryz.underlying22 (unhide HI).1 (unhide HI).2.1 (unhide HI).2.2.1 (unhide HI).2.2.2 rfl (by decide) _ nn _ rfl (unhide HOf) ⟨z2.heap.size, 0, none⟩ 1 1 [.string F] rfl rfl (fun q u hu => gr_new z2 9 _ q u hu) (by simp [Value.oneCell']) (by decide) (by unfold maxLen; omega) (by omega) (by simp; omega) (z2.heap.size + 1) (by simp) ?_)
        intro g5 c5 x5 ho5 hg5 hat5 hl5
        have hO5 : Only (fun q => (Value.slice pf nn cf).ownBlock = some q) z2 x5 := ((Only.refl _ z2).alloc _).grown hg5 (fun _ _ e => e)
        have hs5 : x5.ownsRow B 9 1 (.slice ps nn cs) nn (l.map Value.string) := owns_only (unhide HQ2).2.2.2.2.1 hO5 (fun q hq e => unhide HDIS q e hq)
        have hc5 : x5.cell? ⟨gp, op + k, none⟩ = some (.string s) := by
          refine (World.cell?_of_block (a := ⟨gp, op + k, none⟩) (hO5.2 gp (by omega) (fun e => ?_))).trans hc2
          have := ((unhide HOf).lt gp e).1
          omega
        have hx5 := hO5.size
        have HOs := hide (hs5.alloc (.cells #[.string s] 9))
        have HG5 := hide (And.intro ho5 (And.intro hg5 (And.intro hat5 hl5)))
        clear ho5 hg5 hat5 hl5 hO5 hs5 hc2 HOf
        go_wp2_with (refine wpList_append_lies _ rfl (.tmp 108) (.tmp 113) 22 rfl B 9 i0 (.string ⟨#[]⟩) 1 16 Tryz.underlying22 (unhide HI).1 (unhide HI).2.1 (unhide HI).2.2.1 (unhide HI).2.2.2 rfl (by decide) _ nn _ rfl (unhide HOs) ⟨x5.heap.size, 0, none⟩ 1 1 [.string s] rfl rfl (fun q u hu => gr_new x5 9 _ q u hu) (by simp [Value.oneCell']) (by decide) (by unfold maxLen; omega) (by omega) (by simp; omega) (x5.heap.size + 1) (by simp) ?_)
        intro g6 c6 x6 ho6 hg6 hat6 _
        have HNX := hide (unhide HAPP z2 x5 x6 (unhide HQ2) g5 c5 g6 c6 (unhide HG5).1 (unhide HG5).2.1 (unhide HG5).2.2.1 ho6 hg6 hat6 (unhide HG5).2.2.2)
        clear ho6 hg6 hat6 HOs HG5 HQ2 hc5
        go_wp2
        go_roundw
        case rel => exact ⟨k + 1, l ++ [s], sb2, by omega, by omega, by simp; omega, by go_num, HNX⟩
        case measure => simp [intOf] <;> omega
      · have d4 : decide ((s.size : Int) < 4092) = false := decide_eq_false (by omega)
        have hc3 := (unhide HQ2).1
        clear hbz ez5 hbk hbl
        have hq2 := unhide HQ2
        have hc2 := hq2.1
        have hBz := hq2.2.2.2.2.2.1
        have HOf := hide (hq2.2.2.2.1.alloc (.cells #[.string F] 9))
        have hzB := hq2.2.2.2.2.2.2
        clear hq2
        go_wp2_with (refine wpList_append_lies _ rfl (.tmp 104) (.tmp 106) 22 rfl B 9 i0 (.string ⟨#[]⟩) 1 16 Tryz.underlying22 (unhide HI).1 (unhide HI).2.1 (unhide HI).2.2.1 (unhide HI).2.2.2 rfl (by decide) _ nn _ rfl (unhide HOf) ⟨z2.heap.size, 0, none⟩ 1 1 [.string F] rfl rfl (fun q u hu => gr_new z2 9 _ q u hu) (by simp [Value.oneCell']) (by decide) (by unfold maxLen; omega) (by omega) (by simp; omega) (z2.heap.size + 1) (by simp) ?_)
        intro g5 c5 x5 ho5 hg5 hat5 hl5
        have hO5 : Only (fun q => (Value.slice pf nn cf).ownBlock = some q) z2 x5 := ((Only.refl _ z2).alloc _).grown hg5 (fun _ _ e => e)
        have hs5 : x5.ownsRow B 9 1 (.slice ps nn cs) nn (l.map Value.string) := owns_only (unhide HQ2).2.2.2.2.1 hO5 (fun q hq e => unhide HDIS q e hq)
        have hc5 : x5.cell? ⟨gp, op + k, none⟩ = some (.string s) := by
          refine (World.cell?_of_block (a := ⟨gp, op + k, none⟩) (hO5.2 gp (by omega) (fun e => ?_))).trans hc2
          have := ((unhide HOf).lt gp e).1
          omega
        have hx5 := hO5.size
        have HOs := hide (hs5.alloc (.cells #[.string s] 9))
        have HG5 := hide (And.intro ho5 (And.intro hg5 (And.intro hat5 hl5)))
        clear ho5 hg5 hat5 hl5 hO5 hs5 hc2 HOf
        go_wp2_with (refine wpList_append_lies _ rfl (.tmp 108) (.tmp 113) 22 rfl B 9 i0 (.string ⟨#[]⟩) 1 16 Tryz.underlying22 (unhide HI).1 (unhide HI).2.1 (unhide HI).2.2.1 (unhide HI).2.2.2 rfl (by decide) _ nn _ rfl (unhide HOs) ⟨x5.heap.size, 0, none⟩ 1 1 [.string s] rfl rfl (fun q u hu => gr_new x5 9 _ q u hu) (by simp [Value.oneCell']) (by decide) (by unfold maxLen; omega) (by omega) (by simp; omega) (x5.heap.size + 1) (by simp) ?_)
        intro g6 c6 x6 ho6 hg6 hat6 _
        have HNX := hide (unhide HAPP z2 x5 x6 (unhide HQ2) g5 c5 g6 c6 (unhide HG5).1 (unhide HG5).2.1 (unhide HG5).2.2.1 ho6 hg6 hat6 (unhide HG5).2.2.2)
        clear ho6 hg6 hat6 HOs HG5 HQ2 hc5
        go_wp2
        go_roundw
        case rel => exact ⟨k + 1, l ++ [s], sb2, by omega, by omega, by simp; omega, by go_num, HNX⟩
        case measure => simp [intOf] <;> omega
    · have d2 : decide ((k : Int) < 80) = false := decide_eq_false (by omega)
      go_wp2
      exact unhide HK9 wi l l.length sb _ _ rfl (by omega) (unhide HO) _ _ _ _ _ _ _ _ _ _ _ _ _ _ _ _ _ _ _ _ _ _ _ _ _ _ _ _ _ _ _ _ _ _ _ _ _ _ _ _ _ _ _ _ _ _ _ _ _ _ _ _ _ _ _ _ _ _ _ _ _ _ _ _ _ _ _ _ _ _ _ _ _ _ _ _ _ _ _ _ _ _ _ _ _ _ _ _ _ _ _ _ _ _ _ _ _ _ _ _ _ _ _ _ _ _ _ _ _ _ _ _ _ _ _ _ _ _ _ _ _ _ _ _ _ _ _ _ _ _ _ _ _ _ _ _ _ _ _ _ _ _ _ _ _ _ _ _ _ _ _ _ _ _ _ _ _ _ _ _ _ _ _ _ _ _ _ _ _ _ _ _ _ _ _ _ _ _ _ _ _ _ _ _ _ _ _ _ _ _ _ _ _ _ _ _ _ _ _ _ _ _ _ _ _ _ _ _ _ _ _ _ _ _ _ _ _ _ _ _ _ _ _ _ _ _ _ _ _ _ _ _ _ _ _ _
  · have d1 : decide ((k : Int) < (qm : Int)) = false := decide_eq_false (by omega)
    go_wp2
    exact unhide HK9 wi l l.length sb _ _ rfl (by omega) (unhide HO) _ _ _ _ _ _ _ _ _ _ _ _ _ _ _ _ _ _ _ _ _ _ _ _ _ _ _ _ _ _ _ _ _ _ _ _ _ _ _ _ _ _ _ _ _ _ _ _ _ _ _ _ _ _ _ _ _ _ _ _ _ _ _ _ _ _ _ _ _ _ _ _ _ _ _ _ _ _ _ _ _ _ _ _ _ _ _ _ _ _ _ _ _ _ _ _ _ _ _ _ _ _ _ _ _ _ _ _ _ _ _ _ _ _ _ _ _ _ _ _ _ _ _ _ _ _ _ _ _ _ _ _ _ _ _ _ _ _ _ _ _ _ _ _ _ _ _ _ _ _ _ _ _ _ _ _ _ _ _ _ _ _ _ _ _ _ _ _ _ _ _ _ _ _ _ _ _ _ _ _ _ _ _ _ _ _ _ _ _ _ _ _ _ _ _ _ _ _ _ _ _ _ _ _ _ _ _ _ _ _ _ _ _ _ _ _ _ _ _ _ _ _ _ _ _ _ _ _ _ _ _ _ _ _ _ _
end Go.Proofs.YtifjmldmilmfjaaGreatDoor

namespace Go.Proofs.YtifjmldmilmfjaaGreatDoor
open Go.ChangeShapes Go.WideShapes Go.ChangeAt Go.RowKit
theorem own : ownKnob Tryz.prog.godebug = none := by kernel_rfl
theorem laidOut : laidOutB Tryz.prog = true := by kernel_rfl
theorem gEt : Tryz.prog.globalNamed "errors.errorType" = some 0 := by kernel_rfl
theorem gRt : (Tryz.prog.cutTypes.find? (·.1 == "internal/reflectlite.rtype")).map (·.2) = some 187 := by kernel_rfl
theorem gOne : ((List.range 227).filter fun t => Tryz.prog.rowNamed t [101, 114, 114, 111, 114]) = [147] := by kernel_rfl
theorem gSize : Tryz.prog.types.size = 227 := by kernel_rfl
theorem gTab : Tryz.prog.globalNamed "strongbox/hash.roundWords" = some 1 := by kernel_rfl
theorem gTabType : (Tryz.prog.globals[1]?).map (·.type) = some 154 := by kernel_rfl
theorem cells54 : Tryz.prog.cellsOf 154 = 64 := by kernel_rfl
theorem cells44 : Tryz.prog.cellsOf 42 = 1 := by kernel_rfl
theorem wf_I64 {z : Int} (h : (Lit.int .i64 z).wf = true) : I64 z := by
  simpa [I64, Lit.wf, IntKind.min, IntKind.max, IntKind.signed, IntKind.bits] using h
def laidQm : List (String × DataW Unit) := []
def laidPm : List (String × DataW Unit) := ("strongbox/hash.roundWords", Rows.laid_strongbox_hash_roundWords) :: laidQm
def laidL : List (String × DataW Unit) := ("strongbox/hash.roundWords", Rows.laid_strongbox_hash_roundWords) :: ("errors.errorType", Rows.laid_errors_errorType) :: laidQm
theorem laid_parts {W : World} (h : laidMetH Tryz.prog laidL W) : laidMet Tryz.prog laidPm W ∧ handlesMet Tryz.prog [("errors.errorType", Rows.laid_errors_errorType)] W := h
/-- What the row's list gives. -/
theorem ety_of {W : World} (h : laidMetH Tryz.prog laidL W) : ETy W := by
  obtain ⟨name, u, ty, e1, e2, e3, e4, e5⟩ := (laid_parts h).2 _ (List.mem_singleton.2 rfl)
  have en : name = [101, 114, 114, 111, 114] := (Option.some.inj e1).symm
  subst en
  obtain rfl := Option.some.inj (gRt.symm.trans e2)
  have hm : ty ∈ (List.range 227).filter fun t => Tryz.prog.rowNamed t [101, 114, 114, 111, 114] := List.mem_filter.2 ⟨List.mem_range.2 (by rw [← gSize]; exact e3), e4⟩
  rw [gOne] at hm
  obtain rfl := List.mem_singleton.1 hm
  have hh : typeHandle Tryz.prog 147 = .pointer (some ⟨2, 147, none⟩) := by kernel_rfl
  rw [hh] at e5
  have := World.var?_cell gEt e5 0
  unfold ETy
  simpa using this
set_option maxRecDepth 100000 in
theorem ktab_of {W : World} (h : laidMetH Tryz.prog laidL W) : KTab W := by
  have hT : Lib.TabIs Tryz.prog W "strongbox/hash.roundWords" .u32 kWords :=
    Lib.tabIs_of_head (rest := laidQm) gTab gTabType Tryz.underlying154 Tryz.underlying42 cells44 cells54 (laid_parts h).1
  have hc : ∀ j, j < 64 → W.cell? ⟨1, j, none⟩ = some (.int .u32 (kWords.getD j 0)) := fun j hj => hT.cell gTab j hj
  exact ⟨World.block_lt_of_cell? W _ (hc 0 (by decide)), hc⟩
/-- A world for the witness: the settled one, the variables laid. -/
noncomputable def laidWorld (os : Os) : World :=
  let w0 := World.holding Tryz.prog os ⟨#[], #[], []⟩
  { w0 with heap := (w0.heap.modify 0 fun
      | .cells _ t frozen => .cells #[.iface 187 (.agg #[.pointer (some ⟨2, 147, none⟩)])] t frozen
      | o => o).modify 1 fun
      | .cells _ t frozen => .cells (kWords.map (Value.int .u32)).toArray t frozen
      | o => o }
theorem laid_metA (os : Os) (args : Array Value) : laidMet Tryz.prog laidPm ((laidWorld os).forCall (fun _ _ => 0) ⟨#[], args, []⟩).memory :=
  laidMet_of_run' 80 (by kernel_rfl) (by kernel_rfl)
end Go.Proofs.YtifjmldmilmfjaaGreatDoor
