import Derived.Test.YtaedoagcbkgmbaaMad
namespace Go.Proofs.Ytaedoagcbkgmbaa
open Go.RowKit
def dropSeq : Nat → Code → Code
  | 0, c => c
  | n + 1, .seq _ b => dropSeq n b
  | _, c => c
noncomputable def restB : Code := dropSeq 10 ((Try.f6.body).getD .skip)
theorem Pr0.only {w w' : World} {B b c : Nat} {l : List ByteArray} {P : Nat → Prop} (h : Pr0 w B b c l) (ho : Only P w w') (hp : ∀ k, P k → k < B) : Pr0 w' B b c l := by
  obtain ⟨v, u, h1, h2⟩ := h
  refine ⟨v, u, h1.only ho (fun k hk q => ?_), h2.1.only ho (fun q => ?_), owns_only h2.2.1 ho (fun k hk q => ?_), h2.2.2⟩
  · have := (h1.fd k hk).1
    have := hp k q
    omega
  · have := hp _ q
    have := h2.2.2
    omega
  · have := (h2.2.1.lt k hk).1
    have := hp k q
    omega
/-- The list 'all', as it lies: block g, behind w. -/
structure Al (w : World) (g : Nat) (l : List ByteArray) (wr : World) : Prop where
  blk : Blk wr g (strs l).toArray 9
  lo : w.heap.size ≤ g
  bel : Below w.heap.size w wr
theorem Al.at {w : World} {g : Nat} {l : List ByteArray} {wr : World} (h : Al w g l wr) (j : Nat) (hj : j < l.length) : wr.cell? ⟨g, j, none⟩ = some (.string (l.getD j ByteArray.empty)) := by
  rw [h.blk.cell j]
  simpa using strs_at l j hj
theorem Al.set {w : World} {g : Nat} {l : List ByteArray} {wr : World} (h : Al w g l wr) (j : Nat) (t : ByteArray) : Al w g (l.set j t) (wr.setCell ⟨g, j, none⟩ (.string t)) := by
  refine ⟨?_, h.lo, h.bel.setCell h.lo _⟩
  have := h.blk.set j (.string t)
  rw [show (strs l).toArray.setIfInBounds j (.string t) = (strs (l.set j t)).toArray by rw [← strs_set]; simp] at this
  exact this
theorem Al.below {w : World} {g : Nat} {l : List ByteArray} {wr x : World} (h : Al w g l wr) (hb : Below wr.heap.size wr x) : Al w g l x := ⟨h.blk.below hb h.blk.lt, h.lo, h.bel.trans (hb.mono h.bel.size)⟩
theorem Al.drew {w : World} {g : Nat} {l : List ByteArray} {wr : World} (h : Al w g l wr) : Al w g l wr.drew := h.below ((Below.refl _ wr).drew)
def goodL (l : List ByteArray) : Prop := (128 ≤ l.length ∧ l.length ≤ 1024) ∧ ∀ t ∈ l, t.size = 256
def codeL (l : List ByteArray) : Int := if 128 ≤ l.length ∧ l.length ≤ 1024 then (if ∀ t ∈ l, t.size = 256 then 0 else 42) else 40
theorem load_good (p : Option Addr) (c : Nat) (l : List ByteArray) (w : World) (h : Strs w p l) (hg : goodL l) (n : Nat) (hn : n = l.length) : Calls Try.prog 22 #[.slice p n c] w fun e w' => ∃ b, e = .returned (.tuple #[.pointer (some ⟨b, 0, none⟩), .int .i64 (codeL l)]) ∧ Below w.heap.size w w' ∧ ∃ v, Dk w' w.heap.size b v (freshS l) := by
  subst hn
  refine (load_any p c l w h).mono ?_
  intro e w' hp
  rw [LoadPost, if_pos hg.1, if_pos hg.2] at hp
  obtain ⟨b, v, h1, h2, h3⟩ := hp
  exact ⟨b, by rw [codeL, if_pos hg.1, if_pos hg.2]; exact h1, h3, v, h2⟩
theorem load_bad (p : Option Addr) (c : Nat) (l : List ByteArray) (w : World) (h : Strs w p l) (hg : ¬ goodL l) (n : Nat) (hn : n = l.length) : Calls Try.prog 22 #[.slice p n c] w fun e w' => e = .returned (.tuple #[.pointer none, .int .i64 (codeL l)]) ∧ Below w.heap.size w w' := by
  subst hn
  refine (load_any p c l w h).mono ?_
  intro e w' hp
  rw [LoadPost] at hp
  by_cases h1 : 128 ≤ l.length ∧ l.length ≤ 1024
  · have h2 : ¬ ∀ t ∈ l, t.size = 256 := fun h => hg ⟨h1, h⟩
    rw [if_pos h1, if_neg h2] at hp
    exact ⟨by rw [codeL, if_pos h1, if_neg h2]; exact hp.1, hp.2⟩
  · rw [if_neg h1] at hp
    exact ⟨by rw [codeL, if_neg h1]; exact hp.1, by rw [hp.2]; exact Below.refl _ _⟩
theorem rload_good (p : Option Addr) (c : Nat) (l : List ByteArray) (w : World) (h : Strs w p l) (hl : l.length ≤ 1000000) (hg : goodL l) (n : Nat) (hn : n = l.length) : Calls Try.prog 27 #[.slice p n c] w fun e w' => ∃ b, e = .returned (.tuple #[.pointer (some ⟨b, 0, none⟩), .int .i64 (codeL l)]) ∧ Below w.heap.size w w' ∧ ∃ v, Rk0 w' w.heap.size b v l := by
  subst hn
  refine (rload_any p c l w h hl).mono ?_
  intro e w' hp
  rw [RLoadPost, if_pos hg.1, if_pos hg.2] at hp
  obtain ⟨b, v, h1, h2, h3⟩ := hp
  exact ⟨b, by rw [codeL, if_pos hg.1, if_pos hg.2]; exact h1, h3, v, h2⟩
theorem rload_bad (p : Option Addr) (c : Nat) (l : List ByteArray) (w : World) (h : Strs w p l) (hl : l.length ≤ 1000000) (hg : ¬ goodL l) (n : Nat) (hn : n = l.length) : Calls Try.prog 27 #[.slice p n c] w fun e w' => e = .returned (.tuple #[.pointer none, .int .i64 (codeL l)]) ∧ Below w.heap.size w w' := by
  subst hn
  refine (rload_any p c l w h hl).mono ?_
  intro e w' hp
  rw [RLoadPost] at hp
  by_cases h1 : 128 ≤ l.length ∧ l.length ≤ 1024
  · have h2 : ¬ ∀ t ∈ l, t.size = 256 := fun h => hg ⟨h1, h⟩
    rw [if_pos h1, if_neg h2] at hp
    exact ⟨by rw [codeL, if_pos h1, if_neg h2]; exact hp.1, hp.2⟩
  · rw [if_neg h1] at hp
    exact ⟨by rw [codeL, if_neg h1]; exact hp.1, hp.2⟩
/-- The four places behind the image. -/
def TailB (M : Nat) (l : List ByteArray) : Prop := l.length = M + 4 ∧ ∀ j, M ≤ j → j < M + 4 → l.getD j ByteArray.empty = ⟨#[98, 101, 104, 105, 110, 100]⟩
theorem TailB.set {M : Nat} {l : List ByteArray} (h : TailB M l) (i : Nat) (hi : i < M) (t : ByteArray) : TailB M (l.set i t) :=
  ⟨by rw [List.length_set]; exact h.1, fun j h1 h2 => (getD_set_other l i j t (by omega)).trans (h.2 j h1 h2)⟩
theorem Al.img {w : World} {g M : Nat} {l : List ByteArray} {wr : World} (h : Al w g l wr) (hM : M ≤ l.length) : Strs wr (some ⟨g, 0, none⟩) (l.take M) := fun j hj => by
  have hj' : j < M := by rw [List.length_take] at hj; omega
  refine ⟨g, 0, rfl, h.blk.lt, ?_⟩
  rw [Nat.zero_add, h.at j (by omega)]
  simp [hj']
def KP (px : Option (Nat × Nat)) (B : Nat) (l : List ByteArray) (w : World) : Prop := ∀ q, px = some q → Pr0 w B q.1 q.2 l
theorem KP.below {px : Option (Nat × Nat)} {B : Nat} {l : List ByteArray} {w w' : World} (h : KP px B l w) (hb : Below w.heap.size w w') : KP px B l w' := fun q hq => (h q hq).below hb
theorem KP.set {px : Option (Nat × Nat)} {B : Nat} {l : List ByteArray} {w : World} (h : KP px B l w) (g j : Nat) (v : Value) (hg : g < B) : KP px B l (w.setCell ⟨g, j, none⟩ v) := fun q hq => (h q hq).only ((Only.refl (fun k => k = g) w).setCell ⟨g, j, none⟩ v (fun _ => rfl)) (fun k hk => by rw [hk]; exact hg)
set_option maxRecDepth 1000000 in
set_option maxHeartbeats 8000000 in
theorem restB_walk (w : World) (ga M : Nat) (lM : M < 1100) (l : List ByteArray) (wr : World) (hT : TailB M l) (hI : Al w ga l wr) (t0 t1 t2 t3 t4 t5 t6 t7 t8 t9 t10 t11 t12 t13 t14 t16 t18 t19 t20 t21 t22 t23 t24 t25 t26 t27 t28 t29 t30 t31 t32 t33 t34 t35 t36 t37 t38 t39 t40 t41 t42 t43 t44 t45 t46 t47 t48 t49 t50 t51 t52 t53 t54 t55 t56 t57 t58 t59 t60 t61 t62 t63 t64 t65 t66 t67 t68 t69 t70 t71 t72 t73 t74 t75 t76 t77 t78 t79 t80 t81 t82 t83 t84 t85 t86 t87 t88 t89 t90 t91 t92 t93 t94 t95 t96 t97 t98 t99 t100 t101 t102 t103 t104 t105 t106 t107 t108 t109 t110 t111 t112 t113 t114 t115 t116 t117 t118 t119 t120 t121 t122 t123 t124 t125 t126 t127 t128 t129 t130 t131 t132 t133 t134 t135 t136 t137 t138 t139 t140 t141 t142 t143 t144 t145 t146 t147 t148 t149 t150 t151 t152 t153 t154 t155 t156 t157 t158 t159 t160 t161 t162 t163 t164 t165 t166 t167 t168 t169 t170 t171 t172 t173 t174 t175 t176 t177 t178 t179 t180 t181 t182 t183 t184 t185 t186 t187 t188 t189 t190 t191 t192 t193 t194 t195 t196 t197 t198 t199 t200 t201 t202 t203 t204 t205 t206 t207 t208 t209 t210 t211 t212 t213 t214 t215 t216 t217 t218 t219 t220 t221 t222 t223 t224 t225 t226 t227 t228 t229 t230 t231 : Value) :
    Code.wp Try.prog restB (bodyPost Try.prog Try.f6 fun e w' => e = .returned (.bool true) ∧ Below w.heap.size w w') ⟨#[t0, t1, t2, t3, t4, t5, t6, t7, t8, t9, t10, t11, t12, t13, t14, .slice (some ⟨ga, 0, none⟩) (M + 4) (M + 4), t16, .slice (some ⟨ga, 0, none⟩) M (M + 4), t18, t19, t20, t21, t22, t23, t24, t25, t26, t27, t28, t29, t30, t31, t32, t33, t34, t35, t36, t37, t38, t39, t40, t41, t42, t43, t44, t45, t46, t47, t48, t49, t50, t51, t52, t53, t54, t55, t56, t57, t58, t59, t60, t61, t62, t63, t64, t65, t66, t67, t68, t69, t70, t71, t72, t73, t74, t75, t76, t77, t78, t79, t80, t81, t82, t83, t84, t85, t86, t87, t88, t89, t90, t91, t92, t93, t94, t95, t96, t97, t98, t99, t100, t101, t102, t103, t104, t105, t106, t107, t108, t109, t110, t111, t112, t113, t114, t115, t116, t117, t118, t119, t120, t121, t122, t123, t124, t125, t126, t127, t128, t129, t130, t131, t132, t133, t134, t135, t136, t137, t138, t139, t140, t141, t142, t143, t144, t145, t146, t147, t148, t149, t150, t151, t152, t153, t154, t155, t156, t157, t158, t159, t160, t161, t162, t163, t164, t165, t166, t167, t168, t169, t170, t171, t172, t173, t174, t175, t176, t177, t178, t179, t180, t181, t182, t183, t184, t185, t186, t187, t188, t189, t190, t191, t192, t193, t194, t195, t196, t197, t198, t199, t200, t201, t202, t203, t204, t205, t206, t207, t208, t209, t210, t211, t212, t213, t214, t215, t216, t217, t218, t219, t220, t221, t222, t223, t224, t225, t226, t227, t228, t229, t230, t231], []⟩ wr := by
  conv => arg 2; whnf
  have XT := hide hT
  have XI := hide hI
  obtain ⟨IMG, hIMG⟩ : ∃ IMG, IMG = l.take M := ⟨_, rfl⟩
  have hS := hI.img (M := M) (by rw [hT.1]; omega)
  have hIL : IMG.length = M := by rw [hIMG, List.length_take, hT.1]; omega
  rw [← hIMG] at hS
  have HS := hide hS
  have hsz := hI.bel.size
  have hgl := hI.blk.lt
  have HNW := hide (show ∀ j u, (strs IMG)[j]? = some u → wr.cell? (Addr.add ⟨ga, 0, none⟩ j) = some u from fun j u hu => by
    have hj : j < IMG.length := by
      have := (List.getElem?_eq_some_iff.1 hu).1
      rwa [strs_len] at this
    obtain ⟨g', o', e1, hg', hc'⟩ := hS j hj
    simp at e1
    obtain ⟨rfl, rfl⟩ := e1
    rw [Addr.add_mid, hc', ← hu]
    exact (strs_at IMG j hj).symm)
  obtain ⟨i0, hi0, hz0, hz1, hz2⟩ := info_parts infoS
  have HI := hide (And.intro hi0 (And.intro hz0 (And.intro hz1 hz2)))
  clear hT hI hIMG hS hi0 hz0 hz1 hz2
  go_wp2_with (refine wpList_append_own _ rfl (.tmp 118) (.tmp 119) 39 rfl wr.heap.size 9 i0 (.string ⟨#[]⟩) 1 16 Try.underlying39 (unhide HI).1 (unhide HI).2.1 (unhide HI).2.2.1 (unhide HI).2.2.2 rfl (by decide) _ 0 [] rfl (World.ownsRow_nil _ _ _ _) ⟨ga, 0, none⟩ M (M + 4) (strs IMG) rfl (by rw [strs_len, Nat.mul_one]; exact hIL) (unhide HNW) (by simp [strs, Value.oneCell']) (by unfold maxLen; omega) (by omega) (Nat.le_refl _) ?_)
  intro vo x1 ho hgr hun
  clear hun
  have hb1 : Below wr.heap.size wr x1 := (Below.refl _ _).grown hgr (Nat.le_refl _) (fun q hq => by cases hq)
  rw [← hIL] at ho
  obtain ⟨po, co, rfl, hso⟩ := Strs.own ho
  have XA1 := hide ((unhide XI).below hb1)
  have XS1 := hide ((unhide HS).below hb1)
  have XO1 := hide hso
  have hs1 := hb1.size
  rw [hIL]
  clear ho hgr hb1 hso XI HS HNW HI
  have HIL := hide hIL
  clear hIL
  by_cases hg : goodL IMG
  case' pos =>
    go_wp2_with fail
    refine (load_good _ _ IMG x1 (unhide XS1) hg M (unhide HIL).symm).mono ?_
    rintro ev x2 ⟨bp, rfl, hb2, vp, hd2⟩
    have XA2 := hide ((unhide XA1).below hb2)
    have XS2 := hide ((unhide XS1).below hb2)
    have XO2 := hide ((unhide XO1).below hb2)
    have XD2 := hide hd2
    have hs2 := hb2.size
    clear hd2 XA1 XS1 XO1 hb2
    go_wp2_with fail
    refine (rload_good _ _ IMG x2 (unhide XO2) (by rw [unhide HIL]; omega) hg M (unhide HIL).symm).mono ?_
    rintro ev x3 ⟨cp, rfl, hb3, up, hr3⟩
    have XK := hide (show KP (some (bp, cp)) x1.heap.size IMG x3 from fun q hq => by cases hq; exact ⟨vp, up, (unhide XD2).below hb3, hr3.base hs2⟩)
    have XA3 := hide ((unhide XA2).below hb3)
    have XS3 := hide ((unhide XS2).below hb3)
    have XO3 := hide ((unhide XO2).below hb3)
    clear hb3 hr3 XA2 XS2 XO2 XD2
  case' neg =>
    go_wp2_with fail
    refine (load_bad _ _ IMG x1 (unhide XS1) hg M (unhide HIL).symm).mono ?_
    rintro ev x2 ⟨rfl, hb2⟩
    have XA2 := hide ((unhide XA1).below hb2)
    have XS2 := hide ((unhide XS1).below hb2)
    have XO2 := hide ((unhide XO1).below hb2)
    have hs2 := hb2.size
    clear XA1 XS1 XO1 hb2
    go_wp2_with fail
    refine (rload_bad _ _ IMG x2 (unhide XO2) (by rw [unhide HIL]; omega) hg M (unhide HIL).symm).mono ?_
    rintro ev x3 ⟨rfl, hb3⟩
    have XK := hide (show KP none x1.heap.size IMG x3 from fun q hq => by cases hq)
    have XA3 := hide ((unhide XA2).below hb3)
    have XS3 := hide ((unhide XS2).below hb3)
    have XO3 := hide ((unhide XO2).below hb3)
    clear hb3 XA2 XS2 XO2
  all_goals
    have HG := hide hg
    clear hg
    generalize codeL IMG = CI at *
    go_wp2_with fail
    refine (show Calls Try.prog 21 #[.slice (some ⟨ga, 0, none⟩) M (M + 4), .slice po M co] x3 fun e w' => e = .returned (.bool true) ∧ Below x3.heap.size x3 w' from by have := same_any x3 (some ⟨ga, 0, none⟩) po (M + 4) co IMG (unhide XS3) (unhide XO3) (by rw [unhide HIL]; omega); rw [unhide HIL] at this; exact this).mono ?_
    rintro ev x4 ⟨rfl, hb4⟩
    have XA4 := hide ((unhide XA3).below hb4)
    have XK4 := hide ((unhide XK).below hb4)
    clear hb4 XA3 XS3 XO3 XK
    have hw4 : IntKind.i64.wrap ((M : Int) + 4 - 4) = (M : Int) := by rw [wrapI_eq _ (by omega) (by omega)]; omega
    go_wp2
    go_loopw [25, 26] (fun v i wr => ∃ k : Nat, M ≤ k ∧ k ≤ M + 4 ∧ v = .bool true ∧ i = .int .i64 (k : Int) ∧ Below x4.heap.size x4 wr) (fun _ i _ => M + 4 - (intOf i).toNat)
    case atStart => exact ⟨M, by omega, by omega, rfl, by go_num, Below.refl _ _⟩
    case round =>
      obtain ⟨k, hk1, hk2, rfl, rfl, hb⟩ := hrel
      obtain ⟨wa, rfl⟩ : ∃ wo, wo = wr := ⟨_, rfl⟩
      have YA := hide ((unhide XA4).below hb)
      have YK := hide ((unhide XK4).below hb)
      have YB := hide hb
      clear hb
      by_cases hkl : k < M + 4
      · have ck := (unhide YA).at k (by have := (unhide XT).1; omega)
        rw [(unhide XT).2 k hk1 hkl] at ck
        have i0 : 0 ≤ (k : Int) := by omega
        have i1 : (k : Int) < (M : Int) + 4 := by omega
        go_wp2
        go_roundw
        case rel => exact ⟨k + 1, by omega, by omega, by simp, by go_num, unhide YB⟩
        case measure => simp [intOf]; omega
      · clear XA4 XK4 YB
        have hTL := (unhide XT).1
        go_wp2
        clear hkl hk1 hk2 XT
        go_loopw [27] (fun i wr => ∃ (k : Nat) (l2 : List ByteArray), k ≤ M + 4 ∧ i = .int .i64 (k : Int) ∧ l2.length = M + 4 ∧ (∀ j, j < k → (l2.getD j ByteArray.empty).size = 256) ∧ Al w ga l2 wr ∧ KP _ x1.heap.size IMG wr) (fun i _ => M + 4 - (intOf i).toNat)
        case atStart => exact ⟨0, l, by omega, rfl, hTL, fun j hj => absurd hj (by omega), unhide YA, unhide YK⟩
        case round =>
          obtain ⟨k2, l2, hk, rfl, hl2, hsz2, hA2, hK2⟩ := hrel
          obtain ⟨wb, rfl⟩ : ∃ wo, wo = wr := ⟨_, rfl⟩
          have ZA := hide hA2
          have ZK := hide hK2
          have ZS := hide hsz2
          clear hA2 hK2 hsz2 YA YK
          by_cases hkl : k2 < M + 4
          · have HSE := hide (fun W => sector_any (k2 : Int) W)
            have HTS := hide (sectorB_size (k2 : Int))
            generalize sectorB (k2 : Int) = T at *
            go_wp2_with fail
            refine (unhide HSE _).mono ?_
            rintro ev y1 ⟨rfl, hb1⟩
            have ZA1 := hide ((unhide ZA).below hb1)
            have ZK1 := hide (((unhide ZK).below hb1).set ga k2 (.string T) (by omega))
            have ck := (unhide ZA1).at k2 (by omega)
            have fk := (unhide ZA1).blk.frozen k2
            generalize l2.getD k2 ByteArray.empty = old at ck
            have ZA2 := hide ((unhide ZA1).set k2 T)
            clear hb1 HSE ZA ZK ZA1
            go_wp2
            go_roundw
            case rel =>
              refine ⟨k2 + 1, l2.set k2 T, by omega, by go_num, by rw [List.length_set]; exact hl2, fun j hj => ?_, unhide ZA2, unhide ZK1⟩
              by_cases hjk : j = k2
              · subst hjk; rw [getD_set_same l2 j T (by omega)]; exact unhide HTS
              · rw [getD_set_other l2 k2 j T (by omega)]; exact unhide ZS j (by omega)
            case measure => simp [intOf]; omega
          · obtain ⟨IM2, hIM2⟩ : ∃ IM2, IM2 = l2.take M := ⟨_, rfl⟩
            have hS2 := (unhide ZA).img (M := M) (by omega)
            have hIL2 : IM2.length = M := by rw [hIM2, List.length_take]; omega
            have hall2 : ∀ t ∈ IM2, t.size = 256 := fun t ht => by
              rw [hIM2] at ht
              obtain ⟨j, hj, e⟩ := List.getElem_of_mem ht
              have hj' : j < M := by rw [List.length_take] at hj; omega
              have := unhide ZS j (by omega)
              rw [← e, List.getElem_take]
              simpa [List.getD_eq_getElem?_getD, show j < l2.length by omega] using this
            rw [← hIM2] at hS2
            have HS2 := hide hS2
            have HIL2 := hide hIL2
            have HALL2 := hide hall2
            clear hIM2 hS2 hIL2 hall2 ZS hk
            by_cases hm : goodL IM2
            case' pos =>
              go_wp2_with fail
              refine (load_good _ _ IM2 wb (unhide HS2) hm M (unhide HIL2).symm).mono ?_
              rintro ev z2 ⟨bq, rfl, hb2, vq, hd2⟩
              have WA := hide ((unhide ZA).below hb2)
              have WK := hide ((unhide ZK).below hb2)
              have WS := hide ((unhide HS2).below hb2)
              have WD := hide hd2
              have hsz2 := hb2.size
              clear hd2 hb2
            case' neg =>
              go_wp2_with fail
              refine (load_bad _ _ IM2 wb (unhide HS2) hm M (unhide HIL2).symm).mono ?_
              rintro ev z2 ⟨rfl, hb2⟩
              have WA := hide ((unhide ZA).below hb2)
              have WK := hide ((unhide ZK).below hb2)
              have WS := hide ((unhide HS2).below hb2)
              have hsz2 := hb2.size
              clear hb2
            all_goals
              have HM2 := hide hm
              clear hm
              have HNW := hide (show ∀ j u, (strs IM2)[j]? = some u → z2.cell? (Addr.add ⟨ga, 0, none⟩ j) = some u from fun j u hu => by
                have hj : j < IM2.length := by
                  have := (List.getElem?_eq_some_iff.1 hu).1
                  rwa [strs_len] at this
                obtain ⟨g', o', e1, hg', hc'⟩ := unhide WS j hj
                simp at e1
                obtain ⟨rfl, rfl⟩ := e1
                rw [Addr.add_mid, hc', ← hu]
                exact (strs_at IM2 j hj).symm)
              obtain ⟨i2, hi0, hz0, hz1, hz2⟩ := info_parts infoS
              have HI2 := hide (And.intro hi0 (And.intro hz0 (And.intro hz1 hz2)))
              clear hi0 hz0 hz1 hz2 ZA ZK HS2
              go_wp2_with (refine wpList_append_own _ rfl (.tmp 167) (.tmp 168) 39 rfl z2.heap.size 9 i2 (.string ⟨#[]⟩) 1 16 Try.underlying39 (unhide HI2).1 (unhide HI2).2.1 (unhide HI2).2.2.1 (unhide HI2).2.2.2 rfl (by decide) _ 0 [] rfl (World.ownsRow_nil _ _ _ _) ⟨ga, 0, none⟩ M (M + 4) (strs IM2) rfl (by rw [strs_len, Nat.mul_one]; exact unhide HIL2) (unhide HNW) (by simp [strs, Value.oneCell']) (by unfold maxLen; omega) (by omega) (Nat.le_refl _) ?_)
              intro vn z3 ho hgr hun
              clear hun
              have hb3 : Below z2.heap.size z2 z3 := (Below.refl _ _).grown hgr (Nat.le_refl _) (fun q hq => by cases hq)
              rw [← unhide HIL2] at ho
              obtain ⟨pn, cn, rfl, hsn⟩ := Strs.own ho
              rw [unhide HIL2]
              have VA := hide ((unhide WA).below hb3)
              have VK := hide ((unhide WK).below hb3)
              have VN := hide hsn
              have hsz3 := hb3.size
              have VB := hide hb3
              clear ho hgr hb3 hsn HNW HI2 WA WK WS
              first
              | (have WD2 := hide ((unhide WD).below (unhide VB))
                 go_wp2_with fail
                 refine (rload_good _ _ IM2 z3 (unhide VN) (by rw [unhide HIL2]; omega) (unhide HM2) M (unhide HIL2).symm).mono ?_
                 rintro ev z4 ⟨cq, rfl, hb4, uq, hr4⟩
                 have UA := hide ((unhide VA).below hb4)
                 have UK := hide ((unhide VK).below hb4)
                 have UP := hide (show Pr0 z4 wb.heap.size bq cq IM2 from ⟨vq, uq, (unhide WD2).below hb4, hr4.base (by omega)⟩)
                 clear hb4 hr4 VA VK VN WD WD2 VB
                 generalize codeL IM2 = CJ at *
                 go_wp2_with fail
                 refine (fresh_any _ _ bq cq IM2 ((unhide UP).below ((Below.refl _ _).alloc (Nat.le_refl _) _)) (unhide HM2).1.1 (unhide HM2).1.2 _ (by rw [unhide HIL2])).mono ?_
                 rintro ev z5 ⟨rfl, hb5⟩
                 have SA := hide ((unhide UA).below (((Below.refl _ z4).alloc (Nat.le_refl _) _).trans (hb5.mono (by simp))))
                 have SK := hide ((unhide UK).below (((Below.refl _ z4).alloc (Nat.le_refl _) _).trans (hb5.mono (by simp))))
                 clear hb5 UA UK UP)
              | (go_wp2_with fail
                 refine (rload_bad _ _ IM2 z3 (unhide VN) (by rw [unhide HIL2]; omega) (unhide HM2) M (unhide HIL2).symm).mono ?_
                 rintro ev z5 ⟨rfl, hb4⟩
                 have SA := hide ((unhide VA).below hb4)
                 have SK := hide ((unhide VK).below hb4)
                 clear hb4 VA VK VN VB
                 generalize codeL IM2 = CJ at *)
              go_wp2
              go_loopw [35] (fun i wr => ∃ (k : Nat) (l3 : List ByteArray), k ≤ M + 4 ∧ i = .int .i64 (k : Int) ∧ l3.length = M + 4 ∧ Al w ga l3 wr ∧ KP _ x1.heap.size IMG wr) (fun i _ => M + 4 - (intOf i).toNat)
              case atStart => exact ⟨0, l2, by omega, rfl, hl2, unhide SA, unhide SK⟩
              case round =>
                obtain ⟨k3, l3, hk3, rfl, hl3, hA3, hK3⟩ := hrel
                obtain ⟨wc, rfl⟩ : ∃ wo, wo = wr := ⟨_, rfl⟩
                have RA := hide hA3
                have RK := hide hK3
                clear hA3 hK3 SA SK
                by_cases hkl3 : k3 < M + 4
                · have ck := (unhide RA).at k3 (by omega)
                  have fk := (unhide RA).blk.frozen k3
                  generalize l3.getD k3 ByteArray.empty = old at ck
                  have RA2 := hide ((unhide RA).set k3 ⟨#[111, 118, 101, 114]⟩)
                  have RK2 := hide ((unhide RK).set ga k3 (.string ⟨#[111, 118, 101, 114]⟩) (by omega))
                  clear RA RK
                  go_wp2
                  go_roundw
                  case rel => exact ⟨k3 + 1, _, by omega, by go_num, by rw [List.length_set]; exact hl3, unhide RA2, unhide RK2⟩
                  case measure => simp [intOf]; omega
                · first
                  | (have hPR := unhide RK (bp, cp) rfl
                     have XPR := hide hPR
                     clear hPR RK
                     go_wp2_with fail
                     refine (fresh_any _ _ bp cp IMG ((unhide XPR).below ((Below.refl _ _).alloc (Nat.le_refl _) _)) (unhide HG).1.1 (unhide HG).1.2 _ (by rw [unhide HIL])).mono ?_
                     rintro ev y9 ⟨rfl, hb9⟩
                     have RB := hide ((((unhide RA).bel).alloc (unhide RA).bel.size _).trans (hb9.mono (by have := (unhide RA).bel.size; simp; omega)))
                     clear hb9 XPR RA
                     go_wp2
                     go_ret
                     exact ⟨rfl, unhide RB⟩)
                  | (go_wp2
                     go_ret
                     exact ⟨rfl, ((unhide RA).bel).alloc (unhide RA).bel.size _⟩)
end Go.Proofs.Ytaedoagcbkgmbaa
