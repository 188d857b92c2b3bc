import Derived.Test.YtifjmldmilmfjaaGreatDoorMp24
import Derived.BigQuiet
namespace Go.Proofs.YtifjmldmilmfjaaGreatDoor
open Go.RowKit
set_option maxRecDepth 100000
noncomputable def playE : Code := dropSeqL 3 ((Tryz.f26.body).getD .skip)
/-- what play has boxed: its pair, the step, the other end, the far one -/
structure BX (g1 d1 g2 d2 g3 d3 : Nat) (kd ed N M : Int) (S : ByteArray) (b : Nat) (W : World) : Prop where
  p : Blk W b #[.pointer (some ⟨g1, 0, none⟩), .pointer (some ⟨d1, 0, none⟩)] 71
  o : Blk W (b + 1) #[.int .i64 kd, .int .i64 ed, .int .i64 N, .int .i64 M, .string S] 73
  t : Blk W (b + 2) #[.pointer (some ⟨g2, 0, none⟩), .pointer (some ⟨d2, 0, none⟩)] 71
  c : Blk W (b + 3) #[.pointer (some ⟨g3, 0, none⟩), .pointer (some ⟨d3, 0, none⟩)] 71
theorem BX.kp {g1 d1 g2 d2 g3 d3 : Nat} {kd ed N M : Int} {S : ByteArray} {b : Nat} {W W' : World} (x : BX g1 d1 g2 d2 g3 d3 kd ed N M S b W) (k : KpR W W') : BX g1 d1 g2 d2 g3 d3 kd ed N M S b W' :=
  ⟨k.blk _ _ _ (by decide) (by decide) (by decide) x.p, k.blk _ _ _ (by decide) (by decide) (by decide) x.o, k.blk _ _ _ (by decide) (by decide) (by decide) x.t, k.blk _ _ _ (by decide) (by decide) (by decide) x.c⟩
theorem BX.only {g1 d1 g2 d2 g3 d3 g : Nat} {kd ed N M : Int} {S : ByteArray} {b : Nat} {W W' : World} (x : BX g1 d1 g2 d2 g3 d3 kd ed N M S b W) (k : Only (fun q => q = g) W W') (hb : g < b) : BX g1 d1 g2 d2 g3 d3 kd ed N M S b W' :=
  ⟨x.p.only k (by omega), x.o.only k (by omega), x.t.only k (by omega), x.c.only k (by omega)⟩
theorem BX.cells {g1 d1 g2 d2 g3 d3 : Nat} {kd ed N M : Int} {S : ByteArray} {b : Nat} {W : World} (x : BX g1 d1 g2 d2 g3 d3 kd ed N M S b W) : W.cell? ⟨b, 0, none⟩ = some (.pointer (some ⟨g1, 0, none⟩)) ∧ W.cell? ⟨b, 1, none⟩ = some (.pointer (some ⟨d1, 0, none⟩)) ∧ W.cell? ⟨b + 2, 0, none⟩ = some (.pointer (some ⟨g2, 0, none⟩)) ∧ W.cell? ⟨b + 2, 1, none⟩ = some (.pointer (some ⟨d2, 0, none⟩)) ∧ W.cell? ⟨b + 3, 0, none⟩ = some (.pointer (some ⟨g3, 0, none⟩)) ∧ W.cell? ⟨b + 3, 1, none⟩ = some (.pointer (some ⟨d3, 0, none⟩)) ∧ W.cell? ⟨b + 1, 2, none⟩ = some (.int .i64 N) ∧ W.cell? ⟨b + 1, 3, none⟩ = some (.int .i64 M) ∧ W.cell? ⟨b + 1, 4, none⟩ = some (.string S) :=
  ⟨x.p.cell 0, x.p.cell 1, x.t.cell 0, x.t.cell 1, x.c.cell 0, x.c.cell 1, x.o.cell 2, x.o.cell 3, x.o.cell 4⟩
theorem frB_le (h s : ByteArray) (n : Int) (m : ByteArray) : (frB h s n m).size ≤ 70000 := by
  have := xorB_le (mcB h (nuB n)) m 0
  rw [frB, tgB_size, ByteArray.size_append, ByteArray.size_append, nuB_size]
  show 2 + 8 + (xorB (mcB h (nuB n)) 0 m).size + 16 ≤ _
  omega
theorem grN_o (e : LE) (f : ByteArray) (ho : e.o.size ≤ 16) : (e.grN f).o.size ≤ 16 ∧ (e.grN f).t = e.t ∧ (e.grN f).m = e.m ∧ (e.grN f).q = e.q := by
  unfold LE.grN
  split
  · exact ⟨by show (f.extract 3 19).size ≤ 16; rw [ByteArray.size_extract]; omega, rfl, rfl, rfl⟩
  · exact ⟨ho, rfl, rfl, rfl⟩
set_option maxHeartbeats 1000000 in
theorem rlclose_any (g : Nat) (e : LE) (v : Value) (w : World) (hE : DEnd w g e v) : Calls Tryz.prog 41 #[.pointer (some ⟨g, 0, none⟩)] w fun ev w' => ev = .returned (.tuple #[]) ∧ DEnd w' g { e with r := false, c := true } v ∧ Only (fun k => k = g) w w' := by
  have hf := hE.1.frozen 4
  have hc := hE.1.cell 4
  simp only [List.getElem?_toArray, List.getElem?_cons_zero, List.getElem?_cons_succ] at hc
  have HS := hide (show DEnd (w.setCell ⟨g, 4, none⟩ (.bool true)) g { e with r := false, c := true } v from by
    obtain ⟨h1, h2, h3⟩ := hE
    exact ⟨h1.set 4 (.bool true), ⟨.inr (.inr ⟨rfl, rfl⟩)⟩, ⟨h3.k, h3.n, fun q => (by cases q), h3.i, h3.s, h3.t, h3.m, h3.q⟩⟩)
  have HO := hide (show Only (fun k => k = g) w (w.setCell ⟨g, 4, none⟩ (.bool true)) from (Only.refl _ _).setCell _ _ (fun _ => rfl))
  clear hE
  go_enter Tryz.func41, Tryz.ntmps41
  go_wp2
  exact ⟨rfl, .tuple #[], by simp [results], rfl, unhide HS, unhide HO⟩
set_option maxHeartbeats 16000000 in
theorem playE_walk (w0 : World) (h F : Nat) (gb db : Nat → Nat) (m : Nat) (hm : m ≤ 4398046511103) (hEnv : Env w0 h) (hvh : 1 < h) (a t c : Nat) (ha : a < 4) (ht : t < 4) (hc : c < 4) (kd ed N M : Int) (hN : I64 N) (hM : I64 M) (S : ByteArray) (hS9 : S.size ≤ 140737488351232) (f : ByteArray) (hf : f.size ≤ 4122) (b : Nat) (hb : F ≤ b) (W : World) (E : Nat → LE) (V : Nat → Value) (L : Nat → List Nat) (x : PlI w0 h F gb db m W E V L) (hBX : BX (gb a) (db a) (gb t) (db t) (gb c) (db c) kd ed N M S b W) (t0 t1 t2 t3 t4 t9 t10 t12 t13 t14 t15 t16 t17 t18 t19 t20 t21 t22 t23 t24 t25 t26 t27 t28 t29 t30 t31 t32 t33 t34 t35 t36 t37 t38 t39 t40 t41 t42 t43 t44 t45 t46 t47 t48 t49 t50 t51 t52 t53 t54 t55 t56 t57 t58 t59 t60 t61 t62 t63 t64 t65 t66 t67 t68 t69 t70 t71 t72 t73 t74 t75 t76 t77 t78 t79 t80 t81 t82 t83 t84 t85 t86 t87 t88 t89 t90 t91 t92 t93 t94 t95 t96 t97 t98 t99 t100 t101 t102 t103 t104 t105 t106 t107 t108 t109 t110 t111 t112 t113 t114 t115 t116 t117 t118 t119 t120 t121 t122 t123 t124 t125 t126 t127 t128 t129 t130 t131 t132 t133 t134 t135 t136 t137 t138 t139 t140 t141 t142 t143 t144 t145 t146 t147 t148 t149 t150 t151 t152 t153 t154 t155 t156 t157 t158 t159 t160 t161 t162 t163 t164 t165 t166 t167 t168 t169 t170 t171 t172 t173 t174 t175 t176 t177 t178 t179 t180 t181 t182 t183 t184 t185 t186 t187 t188 t189 : Value) :
    Code.wp Tryz.prog playE (bodyPost Tryz.prog Tryz.f26 fun e w' => e = .returned (.bool true) ∧ PlS w0 h F gb db (m + 1) w' ∧ KpR W w') ⟨#[t0, t1, t2, t3, t4, .pointer (some ⟨b, 0, none⟩), .pointer (some ⟨b + 1, 0, none⟩), .pointer (some ⟨b + 2, 0, none⟩), .pointer (some ⟨b + 3, 0, none⟩), t9, t10, .string f, t12, t13, t14, t15, t16, t17, t18, t19, t20, t21, t22, t23, t24, t25, t26, t27, t28, t29, t30, t31, t32, t33, t34, t35, t36, t37, t38, t39, t40, t41, t42, t43, t44, t45, t46, t47, t48, t49, t50, t51, t52, t53, t54, t55, t56, t57, t58, t59, t60, t61, t62, t63, t64, t65, t66, t67, t68, t69, t70, t71, t72, t73, t74, t75, t76, t77, t78, t79, t80, t81, t82, t83, t84, t85, t86, t87, t88, t89, t90, t91, t92, t93, t94, t95, t96, t97, t98, t99, t100, t101, t102, t103, t104, t105, t106, t107, t108, t109, t110, t111, t112, t113, t114, t115, t116, t117, t118, t119, t120, t121, t122, t123, t124, t125, t126, t127, t128, t129, t130, t131, t132, t133, t134, t135, t136, t137, t138, t139, t140, t141, t142, t143, t144, t145, t146, t147, t148, t149, t150, t151, t152, t153, t154, t155, t156, t157, t158, t159, t160, t161, t162, t163, t164, t165, t166, t167, t168, t169, t170, t171, t172, t173, t174, t175, t176, t177, t178, t179, t180, t181, t182, t183, t184, t185, t186, t187, t188, t189], []⟩ W := by
  conv => arg 2; whnf
  have HTK := hide (fun (f : ByteArray) (hf : f.size ≤ 4611686018427387904) (y : World) E V L (x : PlI w0 h F gb db m y E V L) => took_any w0 h F gb db m hm hEnv a ha f hf y E V L x)
  have HXX := hide (And.intro x hBX)
  have hla := x.lo a ha
  have hk0 : W.cell? ⟨b + 1, 0, none⟩ = some (.int .i64 kd) := hBX.o.cell 0
  by_cases k1 : kd = 1
  · subst k1
    have x0 := (unhide HXX).1.bel' (W' := W.drew) (Below.refl _ _).drew
    have b0 := (unhide HXX).2
    obtain ⟨he, hhe⟩ : ∃ z, (if (E t).c then ⟨#[]⟩ else heB (E t).k (E t).i (E t).n) = z := ⟨_, rfl⟩
    have HH1 := hide (lhello_any (gb t) (E t) W.drew (x0.en t ht) (hEnv.kb _ x0.bel).1)
    rw [hhe] at HH1
    obtain ⟨gE, hgE⟩ : ∃ z, (E a).grE he = z := ⟨_, rfl⟩
    obtain ⟨AT, hAT⟩ : ∃ AT : World → Prop, AT = fun y => BX (gb a) (db a) (gb t) (db t) (gb c) (db c) 1 ed N M S b y := ⟨_, rfl⟩
    have HAT := hide (show AT W.drew from by rw [hAT]; exact b0.kp (KpR.below (Below.refl _ _).drew))
    have HC := hide (show ∀ y, AT y → y.cell? ⟨b, 0, none⟩ = some (.pointer (some ⟨gb a, 0, none⟩)) ∧ y.cell? ⟨b, 1, none⟩ = some (.pointer (some ⟨db a, 0, none⟩)) ∧ y.cell? ⟨b + 2, 0, none⟩ = some (.pointer (some ⟨gb t, 0, none⟩)) ∧ y.cell? ⟨b + 2, 1, none⟩ = some (.pointer (some ⟨db t, 0, none⟩)) ∧ y.cell? ⟨b + 3, 0, none⟩ = some (.pointer (some ⟨gb c, 0, none⟩)) ∧ y.cell? ⟨b + 3, 1, none⟩ = some (.pointer (some ⟨db c, 0, none⟩)) ∧ y.cell? ⟨b + 1, 2, none⟩ = some (.int .i64 N) ∧ y.cell? ⟨b + 1, 3, none⟩ = some (.int .i64 M) ∧ y.cell? ⟨b + 1, 4, none⟩ = some (.string S) from fun y hy => by rw [hAT] at hy; exact hy.cells)
    have HA4 := hide (show ∀ y z, AT y → Below y.heap.size y z → AT z from fun y z hy hz => by
      rw [hAT] at hy ⊢
      exact hy.kp (KpR.below hz))
    have HA1 := hide (show ∀ y, Below W.drew.heap.size W.drew y → AT y ∧ PlI w0 h F gb db m y E V L ∧ Below W.heap.size W y from fun y hy => ⟨unhide HA4 _ _ (unhide HAT) hy, x0.bel' hy, (Below.refl _ W).drew.trans hy⟩)
    have HG1 := hide (fun y (hx : PlI w0 h F gb db m y E V L ∧ Below W.heap.size W y) => lgreet_any (gb a) (E a) he (by rw [← hhe]; split; exact Nat.zero_le _; rw [heB_size]; have := ((unhide HXX).1.en t ht).2.n; omega) y (hx.1.en a ha) (hEnv.kb _ hx.1.bel).1 (by omega))
    rw [hgE] at HG1
    have HA2 := hide (show ∀ y z, AT y → (PlI w0 h F gb db m y E V L ∧ Below W.heap.size W y) → Only (fun q => q = gb a) y z → AT z from fun y z hy _ hz => by
      rw [hAT] at hy ⊢
      exact hy.only hz (by omega))
    have HH2 := hide (fun y z (hx : PlI w0 h F gb db m y E V L ∧ Below W.heap.size W y) (hz : Only (fun q => q = gb a) y z) => rlhello_any (db t) (E t) (V t) z ((hx.1.dn t ht).only hz (fun q => hx.1.ngd a t ha ht q.symm)))
    rw [hhe] at HH2
    have HG2 := hide (show ∀ y z y3, (PlI w0 h F gb db m y E V L ∧ Below W.heap.size W y) → EndM z (gb a) ((E a).grN he) → Only (fun q => q = gb a) y z → Below z.heap.size z y3 → AT y3 → Calls Tryz.prog 22 #[.pointer (some ⟨db a, 0, none⟩), .string he] y3 fun ev w' => ev = .returned (.int .i64 gE) ∧ PlS w0 h F gb db (m + 1) w' ∧ KpR W w' ∧ AT w' from fun y z y3 hx hE hO hB3 hA3 => by
      obtain ⟨hx, hyb⟩ := hx
      have d3 := ((hx.dn a ha).only hO (fun q => hx.ngd a a ha ha q.symm)).below hB3 (by have := hx.dn a ha; have := this.lt; have := hO.size; omega)
      refine (rlgreet_any (db a) (E a) (V a) he y3 d3).mono ?_
      rintro ev w' ⟨rfl, q1, q2⟩
      have hO3 : Only (fun k => k = gb a) y y3 := hO.trans (Only.of_below (P := fun _ => False) hB3) (fun _ _ q => q.elim)
      have hoG : Only (fun k => k = gb a ∨ k = db a) y w' := (hO3.mono (fun _ _ q => .inl q)).trans q2 (fun _ _ q => .inr q)
      have t0 := hx.tk a ha
      obtain ⟨n1, n2, n3, n4⟩ := grN_o (E a) he (hx.os a ha)
      have hl := hx.lo a ha
      have t1 : TkR w' F ((E a).grN he) (V a) (L a) := ⟨owns_only t0.o hoG (fun k hk q => by have := (t0.o.lt k hk).1; omega), by rw [n2, n3]; exact t0.win, by rw [n4]; exact t0.q, t0.lt⟩
      have hEE : EndM w' (gb a) ((E a).grN he) := (hE.below hB3 hE.lt).only q2 (fun q => hx.ngd a a ha ha q)
      obtain ⟨r1, r2⟩ := hx.turn a ha _ (V a) (L a) hEE q1 t1 (hoG.mono (fun _ _ q => q.imp id .inl)) (.inl rfl) n1 (hx.ql a ha)
      refine ⟨by rw [hgE], ⟨_, _, _, r1.more (Nat.le_succ m)⟩, (KpR.below hyb).trans r2, ?_⟩
      rw [hAT] at hA3 ⊢
      exact hA3.only q2 (by omega))
    have hd0 : (gE == gE) = true := beq_self_eq_true _
    clear hhe hgE hAT x0 b0 hla
    generalize gb a = g1 at *
    generalize db a = d1 at *
    generalize gb t = g2 at *
    generalize db t = d2 at *
    generalize gb c = g3 at *
    generalize db c = d3 at *
    clear HXX HTK
    go_wp2_with fail
    refine wp_region_held_drew (S := AT) (by kernel_rfl) (unhide HAT) ?_
    intro hS
    refine wpAnyH_takeD 0 (some 32) (.pointer (some ⟨b, 0, none⟩)) rfl rfl (by kernel_rfl) (by kernel_rfl) (by kernel_rfl) (fun _ _ _ h => h) (Or.inl ⟨by rfl, fun w hSw => by obtain ⟨hq1, hq2, hq3, hq4, hq5, hq6, hq7, hq8, hq9⟩ := unhide HC w hSw; clear hSw; go_simp⟩) hS ?_
    simp only [Act.put, List.setIfInBounds_toArray, List.set_cons_zero, List.set_cons_succ]
    refine wpAnyH_takeD 1 (some 33) (.pointer (some ⟨g1, 0, none⟩)) rfl rfl (by kernel_rfl) (by kernel_rfl) (by kernel_rfl) (fun _ _ _ h => h) (Or.inl ⟨by rfl, fun w hSw => by obtain ⟨hq1, hq2, hq3, hq4, hq5, hq6, hq7, hq8, hq9⟩ := unhide HC w hSw; clear hSw; go_simp⟩) hS ?_
    simp only [Act.put, List.setIfInBounds_toArray, List.set_cons_zero, List.set_cons_succ]
    refine wpAnyH_takeD 2 (some 34) (.pointer (some ⟨b + 2, 0, none⟩)) rfl rfl (by kernel_rfl) (by kernel_rfl) (by kernel_rfl) (fun _ _ _ h => h) (Or.inl ⟨by rfl, fun w hSw => by obtain ⟨hq1, hq2, hq3, hq4, hq5, hq6, hq7, hq8, hq9⟩ := unhide HC w hSw; clear hSw; go_simp⟩) hS ?_
    simp only [Act.put, List.setIfInBounds_toArray, List.set_cons_zero, List.set_cons_succ]
    refine wpAnyH_takeD 3 (some 35) (.pointer (some ⟨g2, 0, none⟩)) rfl rfl (by kernel_rfl) (by kernel_rfl) (by kernel_rfl) (fun _ _ _ h => h) (Or.inl ⟨by rfl, fun w hSw => by obtain ⟨hq1, hq2, hq3, hq4, hq5, hq6, hq7, hq8, hq9⟩ := unhide HC w hSw; clear hSw; go_simp⟩) hS ?_
    simp only [Act.put, List.setIfInBounds_toArray, List.set_cons_zero, List.set_cons_succ]
    refine wpAnyH_takeD 6 (some 38) (.pointer (some ⟨b, 1, none⟩)) rfl rfl (by kernel_rfl) (by kernel_rfl) (by kernel_rfl) (fun _ _ _ h => h) (Or.inl ⟨by rfl, fun w hSw => by obtain ⟨hq1, hq2, hq3, hq4, hq5, hq6, hq7, hq8, hq9⟩ := unhide HC w hSw; clear hSw; go_simp⟩) hS ?_
    simp only [Act.put, List.setIfInBounds_toArray, List.set_cons_zero, List.set_cons_succ]
    refine wpAnyH_takeD 7 (some 39) (.pointer (some ⟨d1, 0, none⟩)) rfl rfl (by kernel_rfl) (by kernel_rfl) (by kernel_rfl) (fun _ _ _ h => h) (Or.inl ⟨by rfl, fun w hSw => by obtain ⟨hq1, hq2, hq3, hq4, hq5, hq6, hq7, hq8, hq9⟩ := unhide HC w hSw; clear hSw; go_simp⟩) hS ?_
    simp only [Act.put, List.setIfInBounds_toArray, List.set_cons_zero, List.set_cons_succ]
    refine wpAnyH_takeD 8 (some 40) (.pointer (some ⟨b + 2, 1, none⟩)) rfl rfl (by kernel_rfl) (by kernel_rfl) (by kernel_rfl) (fun _ _ _ h => h) (Or.inl ⟨by rfl, fun w hSw => by obtain ⟨hq1, hq2, hq3, hq4, hq5, hq6, hq7, hq8, hq9⟩ := unhide HC w hSw; clear hSw; go_simp⟩) hS ?_
    simp only [Act.put, List.setIfInBounds_toArray, List.set_cons_zero, List.set_cons_succ]
    refine wpAnyH_takeD 9 (some 41) (.pointer (some ⟨d2, 0, none⟩)) rfl rfl (by kernel_rfl) (by kernel_rfl) (by kernel_rfl) (fun _ _ _ h => h) (Or.inl ⟨by rfl, fun w hSw => by obtain ⟨hq1, hq2, hq3, hq4, hq5, hq6, hq7, hq8, hq9⟩ := unhide HC w hSw; clear hSw; go_simp⟩) hS ?_
    simp only [Act.put, List.setIfInBounds_toArray, List.set_cons_zero, List.set_cons_succ]
    refine wpAnyH_ready (rs := [4]) (by kernel_rfl) (by simp) ?_
    refine AllReadyH.cons rfl (fun K hK => ?_) AllReadyH.nil
    simp only [List.getElem_toArray, List.getElem_cons_succ, List.getElem_cons_zero]
    go_simp
    refine (unhide HH1).mono ?_
    rintro ev y1 ⟨rfl, hb1⟩
    obtain ⟨hS9, hx1⟩ := unhide HA1 y1 hb1
    have HX1 := hide hx1
    clear hb1 hx1
    refine hK.out _ _ hS9 (fun hS => ?_)
    clear hK K
    refine wpAnyH_ready (rs := [5]) (by kernel_rfl) (by simp) ?_
    refine AllReadyH.cons rfl (fun K hK => ?_) AllReadyH.nil
    simp only [List.getElem_toArray, List.getElem_cons_succ, List.getElem_cons_zero]
    go_simp
    refine (unhide HG1 y1 (unhide HX1)).mono ?_
    rintro ev y2 ⟨rfl, hE2, hO2⟩
    have hS8 := unhide HA2 _ _ hS (unhide HX1) hO2
    have HQ2 := hide (And.intro hE2 hO2)
    clear hE2 hO2
    refine hK.out _ _ hS8 (fun hS => ?_)
    clear hK K
    refine wpAnyH_ready (rs := [10]) (by kernel_rfl) (by simp) ?_
    refine AllReadyH.cons rfl (fun K hK => ?_) AllReadyH.nil
    simp only [List.getElem_toArray, List.getElem_cons_succ, List.getElem_cons_zero]
    go_simp
    refine (unhide HH2 y1 y2 (unhide HX1) (unhide HQ2).2).mono ?_
    rintro ev y3 ⟨rfl, hb3⟩
    have hS7 := unhide HA4 _ _ hS hb3
    have HQ3 := hide hb3
    clear hb3
    refine hK.out _ _ hS7 (fun hS => ?_)
    clear hK K
    refine wpAnyH_ready (rs := [11]) (by kernel_rfl) (by simp) ?_
    refine AllReadyH.cons rfl (fun K hK => ?_) AllReadyH.nil
    simp only [List.getElem_toArray, List.getElem_cons_succ, List.getElem_cons_zero]
    go_simp
    refine (unhide HG2 y1 y2 y3 (unhide HX1) (unhide HQ2).1 (unhide HQ2).2 (unhide HQ3) hS).mono ?_
    rintro ev y4 ⟨rfl, p1, p2, hS6⟩
    have HP := hide (And.intro p1 p2)
    clear p1 p2
    refine hK.out _ _ hS6 (fun hS => ?_)
    clear hK K
    refine wpAnyH_takeD 12 (some 44) (.bool true) rfl rfl (by kernel_rfl) (by kernel_rfl) (by kernel_rfl) (fun _ _ _ h => h) (Or.inl ⟨by rfl, fun w hSw => by obtain ⟨hq1, hq2, hq3, hq4, hq5, hq6, hq7, hq8, hq9⟩ := unhide HC w hSw; clear hSw; go_simp⟩) hS ?_
    simp only [Act.put, List.setIfInBounds_toArray, List.set_cons_zero, List.set_cons_succ]
    refine wpAnyH_takeD 13 (some 10) (.bool true) rfl rfl (by kernel_rfl) (by kernel_rfl) (by kernel_rfl) (fun _ _ _ h => h) (Or.inl ⟨by rfl, fun w hSw => by obtain ⟨hq1, hq2, hq3, hq4, hq5, hq6, hq7, hq8, hq9⟩ := unhide HC w hSw; clear hSw; go_simp⟩) hS ?_
    simp only [Act.put, List.setIfInBounds_toArray, List.set_cons_zero, List.set_cons_succ]
    refine wpAnyH_done (by kernel_rfl) ?_ _
    clear hS HAT HC HA1 HA2 HA4 HG1 HG2 HH1 HH2 HX1 HQ2 HQ3
    go_wp2
    go_ret
    exact ⟨rfl, (unhide HP).1, (unhide HP).2⟩
  have e1 : (kd == 1) = false := by simpa using k1
  by_cases k2 : kd = 2
  · subst k2
    have x0 := (unhide HXX).1.bel' (W' := W.drew) (Below.refl _ _).drew
    have b0 := (unhide HXX).2
    obtain ⟨he, hhe⟩ : ∃ z, (if (E c).c then ⟨#[]⟩ else heB (E c).k (E c).i (E c).n) = z := ⟨_, rfl⟩
    have HH1 := hide (lhello_any (gb c) (E c) W.drew (x0.en c hc) (hEnv.kb _ x0.bel).1)
    rw [hhe] at HH1
    obtain ⟨gE, hgE⟩ : ∃ z, (E a).grE he = z := ⟨_, rfl⟩
    obtain ⟨AT, hAT⟩ : ∃ AT : World → Prop, AT = fun y => BX (gb a) (db a) (gb t) (db t) (gb c) (db c) 2 ed N M S b y := ⟨_, rfl⟩
    have HAT := hide (show AT W.drew from by rw [hAT]; exact b0.kp (KpR.below (Below.refl _ _).drew))
    have HC := hide (show ∀ y, AT y → y.cell? ⟨b, 0, none⟩ = some (.pointer (some ⟨gb a, 0, none⟩)) ∧ y.cell? ⟨b, 1, none⟩ = some (.pointer (some ⟨db a, 0, none⟩)) ∧ y.cell? ⟨b + 2, 0, none⟩ = some (.pointer (some ⟨gb t, 0, none⟩)) ∧ y.cell? ⟨b + 2, 1, none⟩ = some (.pointer (some ⟨db t, 0, none⟩)) ∧ y.cell? ⟨b + 3, 0, none⟩ = some (.pointer (some ⟨gb c, 0, none⟩)) ∧ y.cell? ⟨b + 3, 1, none⟩ = some (.pointer (some ⟨db c, 0, none⟩)) ∧ y.cell? ⟨b + 1, 2, none⟩ = some (.int .i64 N) ∧ y.cell? ⟨b + 1, 3, none⟩ = some (.int .i64 M) ∧ y.cell? ⟨b + 1, 4, none⟩ = some (.string S) from fun y hy => by rw [hAT] at hy; exact hy.cells)
    have HA4 := hide (show ∀ y z, AT y → Below y.heap.size y z → AT z from fun y z hy hz => by
      rw [hAT] at hy ⊢
      exact hy.kp (KpR.below hz))
    have HA1 := hide (show ∀ y, Below W.drew.heap.size W.drew y → AT y ∧ PlI w0 h F gb db m y E V L ∧ Below W.heap.size W y from fun y hy => ⟨unhide HA4 _ _ (unhide HAT) hy, x0.bel' hy, (Below.refl _ W).drew.trans hy⟩)
    have HG1 := hide (fun y (hx : PlI w0 h F gb db m y E V L ∧ Below W.heap.size W y) => lgreet_any (gb a) (E a) he (by rw [← hhe]; split; exact Nat.zero_le _; rw [heB_size]; have := ((unhide HXX).1.en c hc).2.n; omega) y (hx.1.en a ha) (hEnv.kb _ hx.1.bel).1 (by omega))
    rw [hgE] at HG1
    have HA2 := hide (show ∀ y z, AT y → (PlI w0 h F gb db m y E V L ∧ Below W.heap.size W y) → Only (fun q => q = gb a) y z → AT z from fun y z hy _ hz => by
      rw [hAT] at hy ⊢
      exact hy.only hz (by omega))
    have HH2 := hide (fun y z (hx : PlI w0 h F gb db m y E V L ∧ Below W.heap.size W y) (hz : Only (fun q => q = gb a) y z) => rlhello_any (db c) (E c) (V c) z ((hx.1.dn c hc).only hz (fun q => hx.1.ngd a c ha hc q.symm)))
    rw [hhe] at HH2
    have HG2 := hide (show ∀ y z y3, (PlI w0 h F gb db m y E V L ∧ Below W.heap.size W y) → EndM z (gb a) ((E a).grN he) → Only (fun q => q = gb a) y z → Below z.heap.size z y3 → AT y3 → Calls Tryz.prog 22 #[.pointer (some ⟨db a, 0, none⟩), .string he] y3 fun ev w' => ev = .returned (.int .i64 gE) ∧ PlS w0 h F gb db (m + 1) w' ∧ KpR W w' ∧ AT w' from fun y z y3 hx hE hO hB3 hA3 => by
      obtain ⟨hx, hyb⟩ := hx
      have d3 := ((hx.dn a ha).only hO (fun q => hx.ngd a a ha ha q.symm)).below hB3 (by have := hx.dn a ha; have := this.lt; have := hO.size; omega)
      refine (rlgreet_any (db a) (E a) (V a) he y3 d3).mono ?_
      rintro ev w' ⟨rfl, q1, q2⟩
      have hO3 : Only (fun k => k = gb a) y y3 := hO.trans (Only.of_below (P := fun _ => False) hB3) (fun _ _ q => q.elim)
      have hoG : Only (fun k => k = gb a ∨ k = db a) y w' := (hO3.mono (fun _ _ q => .inl q)).trans q2 (fun _ _ q => .inr q)
      have t0 := hx.tk a ha
      obtain ⟨n1, n2, n3, n4⟩ := grN_o (E a) he (hx.os a ha)
      have hl := hx.lo a ha
      have t1 : TkR w' F ((E a).grN he) (V a) (L a) := ⟨owns_only t0.o hoG (fun k hk q => by have := (t0.o.lt k hk).1; omega), by rw [n2, n3]; exact t0.win, by rw [n4]; exact t0.q, t0.lt⟩
      have hEE : EndM w' (gb a) ((E a).grN he) := (hE.below hB3 hE.lt).only q2 (fun q => hx.ngd a a ha ha q)
      obtain ⟨r1, r2⟩ := hx.turn a ha _ (V a) (L a) hEE q1 t1 (hoG.mono (fun _ _ q => q.imp id .inl)) (.inl rfl) n1 (hx.ql a ha)
      refine ⟨by rw [hgE], ⟨_, _, _, r1.more (Nat.le_succ m)⟩, (KpR.below hyb).trans r2, ?_⟩
      rw [hAT] at hA3 ⊢
      exact hA3.only q2 (by omega))
    have hd0 : (gE == gE) = true := beq_self_eq_true _
    clear hhe hgE hAT x0 b0 hla
    generalize gb a = g1 at *
    generalize db a = d1 at *
    generalize gb t = g2 at *
    generalize db t = d2 at *
    generalize gb c = g3 at *
    generalize db c = d3 at *
    clear HXX HTK
    go_wp2_with fail
    refine wp_region_held_drew (S := AT) (by kernel_rfl) (unhide HAT) ?_
    intro hS
    refine wpAnyH_takeD 0 (some 47) (.pointer (some ⟨b, 0, none⟩)) rfl rfl (by kernel_rfl) (by kernel_rfl) (by kernel_rfl) (fun _ _ _ h => h) (Or.inl ⟨by rfl, fun w hSw => by obtain ⟨hq1, hq2, hq3, hq4, hq5, hq6, hq7, hq8, hq9⟩ := unhide HC w hSw; clear hSw; go_simp⟩) hS ?_
    simp only [Act.put, List.setIfInBounds_toArray, List.set_cons_zero, List.set_cons_succ]
    refine wpAnyH_takeD 1 (some 48) (.pointer (some ⟨g1, 0, none⟩)) rfl rfl (by kernel_rfl) (by kernel_rfl) (by kernel_rfl) (fun _ _ _ h => h) (Or.inl ⟨by rfl, fun w hSw => by obtain ⟨hq1, hq2, hq3, hq4, hq5, hq6, hq7, hq8, hq9⟩ := unhide HC w hSw; clear hSw; go_simp⟩) hS ?_
    simp only [Act.put, List.setIfInBounds_toArray, List.set_cons_zero, List.set_cons_succ]
    refine wpAnyH_takeD 2 (some 49) (.pointer (some ⟨b + 3, 0, none⟩)) rfl rfl (by kernel_rfl) (by kernel_rfl) (by kernel_rfl) (fun _ _ _ h => h) (Or.inl ⟨by rfl, fun w hSw => by obtain ⟨hq1, hq2, hq3, hq4, hq5, hq6, hq7, hq8, hq9⟩ := unhide HC w hSw; clear hSw; go_simp⟩) hS ?_
    simp only [Act.put, List.setIfInBounds_toArray, List.set_cons_zero, List.set_cons_succ]
    refine wpAnyH_takeD 3 (some 50) (.pointer (some ⟨g3, 0, none⟩)) rfl rfl (by kernel_rfl) (by kernel_rfl) (by kernel_rfl) (fun _ _ _ h => h) (Or.inl ⟨by rfl, fun w hSw => by obtain ⟨hq1, hq2, hq3, hq4, hq5, hq6, hq7, hq8, hq9⟩ := unhide HC w hSw; clear hSw; go_simp⟩) hS ?_
    simp only [Act.put, List.setIfInBounds_toArray, List.set_cons_zero, List.set_cons_succ]
    refine wpAnyH_takeD 6 (some 53) (.pointer (some ⟨b, 1, none⟩)) rfl rfl (by kernel_rfl) (by kernel_rfl) (by kernel_rfl) (fun _ _ _ h => h) (Or.inl ⟨by rfl, fun w hSw => by obtain ⟨hq1, hq2, hq3, hq4, hq5, hq6, hq7, hq8, hq9⟩ := unhide HC w hSw; clear hSw; go_simp⟩) hS ?_
    simp only [Act.put, List.setIfInBounds_toArray, List.set_cons_zero, List.set_cons_succ]
    refine wpAnyH_takeD 7 (some 54) (.pointer (some ⟨d1, 0, none⟩)) rfl rfl (by kernel_rfl) (by kernel_rfl) (by kernel_rfl) (fun _ _ _ h => h) (Or.inl ⟨by rfl, fun w hSw => by obtain ⟨hq1, hq2, hq3, hq4, hq5, hq6, hq7, hq8, hq9⟩ := unhide HC w hSw; clear hSw; go_simp⟩) hS ?_
    simp only [Act.put, List.setIfInBounds_toArray, List.set_cons_zero, List.set_cons_succ]
    refine wpAnyH_takeD 8 (some 55) (.pointer (some ⟨b + 3, 1, none⟩)) rfl rfl (by kernel_rfl) (by kernel_rfl) (by kernel_rfl) (fun _ _ _ h => h) (Or.inl ⟨by rfl, fun w hSw => by obtain ⟨hq1, hq2, hq3, hq4, hq5, hq6, hq7, hq8, hq9⟩ := unhide HC w hSw; clear hSw; go_simp⟩) hS ?_
    simp only [Act.put, List.setIfInBounds_toArray, List.set_cons_zero, List.set_cons_succ]
    refine wpAnyH_takeD 9 (some 56) (.pointer (some ⟨d3, 0, none⟩)) rfl rfl (by kernel_rfl) (by kernel_rfl) (by kernel_rfl) (fun _ _ _ h => h) (Or.inl ⟨by rfl, fun w hSw => by obtain ⟨hq1, hq2, hq3, hq4, hq5, hq6, hq7, hq8, hq9⟩ := unhide HC w hSw; clear hSw; go_simp⟩) hS ?_
    simp only [Act.put, List.setIfInBounds_toArray, List.set_cons_zero, List.set_cons_succ]
    refine wpAnyH_ready (rs := [4]) (by kernel_rfl) (by simp) ?_
    refine AllReadyH.cons rfl (fun K hK => ?_) AllReadyH.nil
    simp only [List.getElem_toArray, List.getElem_cons_succ, List.getElem_cons_zero]
    go_simp
    refine (unhide HH1).mono ?_
    rintro ev y1 ⟨rfl, hb1⟩
    obtain ⟨hS9, hx1⟩ := unhide HA1 y1 hb1
    have HX1 := hide hx1
    clear hb1 hx1
    refine hK.out _ _ hS9 (fun hS => ?_)
    clear hK K
    refine wpAnyH_ready (rs := [5]) (by kernel_rfl) (by simp) ?_
    refine AllReadyH.cons rfl (fun K hK => ?_) AllReadyH.nil
    simp only [List.getElem_toArray, List.getElem_cons_succ, List.getElem_cons_zero]
    go_simp
    refine (unhide HG1 y1 (unhide HX1)).mono ?_
    rintro ev y2 ⟨rfl, hE2, hO2⟩
    have hS8 := unhide HA2 _ _ hS (unhide HX1) hO2
    have HQ2 := hide (And.intro hE2 hO2)
    clear hE2 hO2
    refine hK.out _ _ hS8 (fun hS => ?_)
    clear hK K
    refine wpAnyH_ready (rs := [10]) (by kernel_rfl) (by simp) ?_
    refine AllReadyH.cons rfl (fun K hK => ?_) AllReadyH.nil
    simp only [List.getElem_toArray, List.getElem_cons_succ, List.getElem_cons_zero]
    go_simp
    refine (unhide HH2 y1 y2 (unhide HX1) (unhide HQ2).2).mono ?_
    rintro ev y3 ⟨rfl, hb3⟩
    have hS7 := unhide HA4 _ _ hS hb3
    have HQ3 := hide hb3
    clear hb3
    refine hK.out _ _ hS7 (fun hS => ?_)
    clear hK K
    refine wpAnyH_ready (rs := [11]) (by kernel_rfl) (by simp) ?_
    refine AllReadyH.cons rfl (fun K hK => ?_) AllReadyH.nil
    simp only [List.getElem_toArray, List.getElem_cons_succ, List.getElem_cons_zero]
    go_simp
    refine (unhide HG2 y1 y2 y3 (unhide HX1) (unhide HQ2).1 (unhide HQ2).2 (unhide HQ3) hS).mono ?_
    rintro ev y4 ⟨rfl, p1, p2, hS6⟩
    have HP := hide (And.intro p1 p2)
    clear p1 p2
    refine hK.out _ _ hS6 (fun hS => ?_)
    clear hK K
    refine wpAnyH_takeD 12 (some 59) (.bool true) rfl rfl (by kernel_rfl) (by kernel_rfl) (by kernel_rfl) (fun _ _ _ h => h) (Or.inl ⟨by rfl, fun w hSw => by obtain ⟨hq1, hq2, hq3, hq4, hq5, hq6, hq7, hq8, hq9⟩ := unhide HC w hSw; clear hSw; go_simp⟩) hS ?_
    simp only [Act.put, List.setIfInBounds_toArray, List.set_cons_zero, List.set_cons_succ]
    refine wpAnyH_takeD 13 (some 10) (.bool true) rfl rfl (by kernel_rfl) (by kernel_rfl) (by kernel_rfl) (fun _ _ _ h => h) (Or.inl ⟨by rfl, fun w hSw => by obtain ⟨hq1, hq2, hq3, hq4, hq5, hq6, hq7, hq8, hq9⟩ := unhide HC w hSw; clear hSw; go_simp⟩) hS ?_
    simp only [Act.put, List.setIfInBounds_toArray, List.set_cons_zero, List.set_cons_succ]
    refine wpAnyH_done (by kernel_rfl) ?_ _
    clear hS HAT HC HA1 HA2 HA4 HG1 HG2 HH1 HH2 HX1 HQ2 HQ3
    go_wp2
    go_ret
    exact ⟨rfl, (unhide HP).1, (unhide HP).2⟩
  have e2 : (kd == 2) = false := by simpa using k2
  by_cases k4 : kd = 4
  · subst k4
    obtain ⟨p0, p1, _, _, _, _, o2, o3, o4⟩ := hBX.cells
    clear HXX
    go_wp2_with fail
    refine (unhide HTK f (by omega) _ E V L x).mono ?_
    rintro ev y ⟨rfl, p1, p2⟩
    have HP := hide (And.intro p1 p2)
    clear p1 p2
    go_wp2
    go_ret
    exact ⟨rfl, (unhide HP).1, (unhide HP).2⟩
  have e4 : (kd == 4) = false := by simpa using k4
  by_cases k5 : kd = 5
  · subst k5
    clear hBX hla
    have hBX := (unhide HXX).2
    obtain ⟨cap, W1, hrun, hBs, hbel⟩ := Bsl.of_string W f (by omega)
    obtain ⟨fz, hfz⟩ : ∃ z, f.size = z := ⟨_, rfl⟩
    rw [hfz] at hrun hf
    obtain ⟨B, hB⟩ : ∃ z, W.heap.size = z := ⟨_, rfl⟩
    rw [hB] at hrun hBs hbel
    have hNl : (nums f).length = fz := by rw [nums_len, hfz]
    have hArr := hBs.2.2.2.2.1
    have hBlt := hBs.2.1
    have hcap := hBs.2.2.1
    have hsz := x.sz
    have HFB := hide (show F ≤ B from by rw [← hB]; exact hsz)
    have HTK2 := hide (show ∀ (l : List Int) (y : World), l.length = fz → Below B W y → Calls Tryz.prog 39 #[.agg #[.pointer (some ⟨gb a, 0, none⟩), .pointer (some ⟨db a, 0, none⟩)], .string (strOfNums l)] y fun ev w' => ev = .returned (.bool true) ∧ PlS w0 h F gb db (m + 1) w' ∧ KpR W w' from fun l y hl hy => by
      refine (unhide HTK (strOfNums l) (by rw [strOfNums_size]; omega) y E V L (x.bel' (by rw [hB]; exact hy))).mono ?_
      rintro ev w' ⟨rfl, p1, p2⟩
      exact ⟨rfl, p1, (KpR.below (by rw [hB]; exact hy)).trans p2⟩)
    have HBC := hide (show ∀ y, Below B W y → y.cell? ⟨b, 0, none⟩ = some (.pointer (some ⟨gb a, 0, none⟩)) ∧ y.cell? ⟨b, 1, none⟩ = some (.pointer (some ⟨db a, 0, none⟩)) ∧ y.cell? ⟨b + 1, 3, none⟩ = some (.int .i64 M) from fun y hy => by
      obtain ⟨q1, q2, _, _, _, _, _, q3, _⟩ := (hBX.kp (KpR.below (by rw [hB]; exact hy))).cells
      exact ⟨q1, q2, q3⟩)
    have HCV := hide (fun (y : World) (l : List Int) (hl : l.length = fz) (hA : Arr y B 0 .u8 l) => run_convert_bytes_arg (P := Tryz.prog) y 86 5 Tryz.underlying86 Tryz.underlying5 B 0 fz cap l hl (fun j hj => hA.get j (by omega)) 9 Tryz.underlying9)
    generalize gb a = g1 at *
    generalize db a = d1 at *
    clear HXX HTK hBX
    by_cases hz : 0 < fz
    · have e9 : (fz : Int) > 0 := by omega
      have HPM := hide (fun W => pick21 M fz hz hM W)
      have HP8 := hide (fun W => pick21 M 8 (by decide) hM W)
      rw [show (((8 : Nat)) : Int) = 8 from rfl] at HP8
      obtain ⟨c0, c1, c3⟩ := unhide HBC W1 hbel
      have HBL := hide hbel
      have HAR := hide hArr
      clear hBs hArr hbel
      go_wp2_with fail
      refine (unhide HPM _).mono ?_
      rintro ev yy ⟨i, hi, rfl, hy⟩
      subst yy
      clear HPM hrun
      have hi2 : (i : Int) < (fz : Int) := by omega
      have q1 := (unhide HAR).get0 i (by omega)
      have q2 := (unhide HAR).free0 i (by omega)
      obtain ⟨y9, hy9⟩ : ∃ z, (nums f).getD i 0 = z := ⟨_, rfl⟩
      rw [hy9] at q1
      clear hy9
      have HSM := hide (show ∀ v, Below B W ((W1.setCell ⟨B, i, none⟩ (.int .u8 v)).drew) ∧ Arr ((W1.setCell ⟨B, i, none⟩ (.int .u8 v)).drew) B 0 .u8 ((nums f).set i v) from fun v => ⟨((unhide HBL).setCell (Nat.le_refl _) _).drew, (unhide HAR).set0 i (by omega) v⟩)
      have HS2 := hide (show ∀ v, ((W1.setCell ⟨B, i, none⟩ (.int .u8 v)).drew).cell? ⟨b + 1, 3, none⟩ = some (.int .i64 M) from fun v => (unhide HBC _ (unhide HSM v).1).2.2)
      clear c0 c1
      go_wp2_with fail
      refine wp_region_held_drew (S := fun y => y.cell? ⟨b + 1, 3, none⟩ = some (.int .i64 M)) (by kernel_rfl) c3 ?_
      intro hS
      refine wpAnyH_takeD 0 (some 77) (.slice (some ⟨B, 0, none⟩) fz cap) rfl rfl (by kernel_rfl) (by kernel_rfl) (by kernel_rfl) (fun _ _ _ h => h) (Or.inl ⟨by rfl, fun w hSw => by have hq9 : _ = _ := hSw; clear hSw; go_simp⟩) hS ?_
      simp only [Act.put, List.setIfInBounds_toArray, List.set_cons_zero, List.set_cons_succ]
      refine wpAnyH_takeD 1 (some 78) (.int .i64 (i : Int)) rfl rfl (by kernel_rfl) (by kernel_rfl) (by kernel_rfl) (fun _ _ _ h => h) (Or.inl ⟨by rfl, fun w hSw => by have hq9 : _ = _ := hSw; clear hSw; go_simp⟩) hS ?_
      simp only [Act.put, List.setIfInBounds_toArray, List.set_cons_zero, List.set_cons_succ]
      refine wpAnyH_takeD 2 (some 79) (.slice (some ⟨B, 0, none⟩) fz cap) rfl rfl (by kernel_rfl) (by kernel_rfl) (by kernel_rfl) (fun _ _ _ h => h) (Or.inl ⟨by rfl, fun w hSw => by have hq9 : _ = _ := hSw; clear hSw; go_simp⟩) hS ?_
      simp only [Act.put, List.setIfInBounds_toArray, List.set_cons_zero, List.set_cons_succ]
      refine wpAnyH_takeD 3 (some 80) (.int .i64 (i : Int)) rfl rfl (by kernel_rfl) (by kernel_rfl) (by kernel_rfl) (fun _ _ _ h => h) (Or.inl ⟨by rfl, fun w hSw => by have hq9 : _ = _ := hSw; clear hSw; go_simp⟩) hS ?_
      simp only [Act.put, List.setIfInBounds_toArray, List.set_cons_zero, List.set_cons_succ]
      refine wpAnyH_takeD 4 (some 81) (.pointer (some ⟨B, i, none⟩)) rfl rfl (by kernel_rfl) (by kernel_rfl) (by kernel_rfl) (fun _ _ _ h => h) (Or.inl ⟨by rfl, fun w hSw => by have hq9 : _ = _ := hSw; clear hSw; go_simp⟩) hS ?_
      simp only [Act.put, List.setIfInBounds_toArray, List.set_cons_zero, List.set_cons_succ]
      refine wpAnyH_takeD 6 (some 83) (.pointer (some ⟨b + 1, 3, none⟩)) rfl rfl (by kernel_rfl) (by kernel_rfl) (by kernel_rfl) (fun _ _ _ h => h) (Or.inl ⟨by rfl, fun w hSw => by have hq9 : _ = _ := hSw; clear hSw; go_simp⟩) hS ?_
      simp only [Act.put, List.setIfInBounds_toArray, List.set_cons_zero, List.set_cons_succ]
      refine wpAnyH_takeD 7 (some 84) (.int .i64 M) rfl rfl (by kernel_rfl) (by kernel_rfl) (by kernel_rfl) (fun _ _ _ h => h) (Or.inl ⟨by rfl, fun w hSw => by have hq9 : _ = _ := hSw; clear hSw; go_simp⟩) hS ?_
      simp only [Act.put, List.setIfInBounds_toArray, List.set_cons_zero, List.set_cons_succ]
      refine wpAnyH_ready (rs := [5, 8]) (by kernel_rfl) (by simp) ?_
      refine AllReadyH.cons rfl (fun K hK => ?_) (AllReadyH.cons rfl (fun K hK => ?_) AllReadyH.nil)
      · simp only [List.getElem_toArray, List.getElem_cons_succ, List.getElem_cons_zero]
        go_simp
        refine hK.out _ _ hS (fun hS => ?_)
        clear hK K
        refine wpAnyH_ready (rs := [8]) (by kernel_rfl) (by simp) ?_
        refine AllReadyH.cons rfl (fun K hK => ?_) AllReadyH.nil
        simp only [List.getElem_toArray, List.getElem_cons_succ, List.getElem_cons_zero]
        go_simp
        refine (unhide HP8 _).mono ?_
        rintro ev yy ⟨r, hr8, rfl, hy⟩
        subst yy
        refine hK.out _ _ hS (fun hS => ?_)
        clear hK K
        obtain ⟨sh, hsh⟩ : ∃ z, IntKind.u8.wrap (2 ^ r) = z := ⟨_, rfl⟩
        obtain ⟨v9, hv9⟩ : ∃ z, bits .xor .u8 y9 sh = z := ⟨_, rfl⟩
        have hrt : ((r : Int)).toNat = r := by omega
        refine wpAnyH_takeD 9 (some 86) (.int .u8 sh) rfl rfl (by kernel_rfl) (by kernel_rfl) (by kernel_rfl) (fun _ _ _ h => h) (Or.inl ⟨by rfl, fun w hSw => by have hq9 : _ = _ := hSw; clear hSw; go_simp⟩) hS ?_
        simp only [Act.put, List.setIfInBounds_toArray, List.set_cons_zero, List.set_cons_succ]
        refine wpAnyH_takeD 10 (some 87) (.int .u8 v9) rfl rfl (by kernel_rfl) (by kernel_rfl) (by kernel_rfl) (fun _ _ _ h => h) (Or.inl ⟨by rfl, fun w hSw => by have hq9 : _ = _ := hSw; clear hSw; go_simp⟩) hS ?_
        simp only [Act.put, List.setIfInBounds_toArray, List.set_cons_zero, List.set_cons_succ]
        refine wpAnyH_takeD 11 (some 88) (.pointer (some ⟨B, i, none⟩)) rfl rfl (by kernel_rfl) (by kernel_rfl) (by kernel_rfl) (fun _ _ _ h => h) (Or.inl ⟨by rfl, fun w hSw => by have hq9 : _ = _ := hSw; clear hSw; go_simp⟩) hS ?_
        simp only [Act.put, List.setIfInBounds_toArray, List.set_cons_zero, List.set_cons_succ]
        refine wpAnyH_ready (rs := [12]) (by kernel_rfl) (by simp) ?_
        refine AllReadyH.cons rfl (fun K hK => ?_) AllReadyH.nil
        simp only [List.getElem_toArray, List.getElem_cons_succ, List.getElem_cons_zero]
        go_simp
        refine hK.out _ _ (unhide HS2 v9) (fun hS => ?_)
        clear hK K
        refine wpAnyH_done (by kernel_rfl) ?_ _
        obtain ⟨hb2, ha2⟩ := unhide HSM v9
        have hcv := unhide HCV ((W1.setCell ⟨B, i, none⟩ (.int .u8 v9)).drew) ((nums f).set i v9) (by rw [List.length_set]; exact hNl) ha2
        have HT9 := hide (unhide HTK2 ((nums f).set i v9) ((W1.setCell ⟨B, i, none⟩ (.int .u8 v9)).drew) (by rw [List.length_set]; exact hNl) hb2)
        obtain ⟨k0, k1, k3⟩ := unhide HBC _ hb2
        clear hb2 ha2 HSM HS2 HTK2 HBC HCV hS q1 q2 c3 hsh hv9
        generalize (W1.setCell ⟨B, i, none⟩ (.int .u8 v9)).drew = W9 at *
        generalize (nums f).set i v9 = l9 at *
        go_wp2_with fail
        refine (unhide HT9).mono ?_
        rintro ev y ⟨rfl, p1, p2⟩
        have HP := hide (And.intro p1 p2)
        clear p1 p2
        go_wp2
        go_ret
        exact ⟨rfl, (unhide HP).1, (unhide HP).2⟩
      · simp only [List.getElem_toArray, List.getElem_cons_succ, List.getElem_cons_zero]
        go_simp
        refine (unhide HP8 _).mono ?_
        rintro ev yy ⟨r, hr8, rfl, hy⟩
        subst yy
        refine hK.out _ _ hS (fun hS => ?_)
        clear hK K
        obtain ⟨sh, hsh⟩ : ∃ z, IntKind.u8.wrap (2 ^ r) = z := ⟨_, rfl⟩
        obtain ⟨v9, hv9⟩ : ∃ z, bits .xor .u8 y9 sh = z := ⟨_, rfl⟩
        have hrt : ((r : Int)).toNat = r := by omega
        refine wpAnyH_takeD 9 (some 86) (.int .u8 sh) rfl rfl (by kernel_rfl) (by kernel_rfl) (by kernel_rfl) (fun _ _ _ h => h) (Or.inl ⟨by rfl, fun w hSw => by have hq9 : _ = _ := hSw; clear hSw; go_simp⟩) hS ?_
        simp only [Act.put, List.setIfInBounds_toArray, List.set_cons_zero, List.set_cons_succ]
        refine wpAnyH_ready (rs := [5]) (by kernel_rfl) (by simp) ?_
        refine AllReadyH.cons rfl (fun K hK => ?_) AllReadyH.nil
        simp only [List.getElem_toArray, List.getElem_cons_succ, List.getElem_cons_zero]
        go_simp
        refine hK.out _ _ hS (fun hS => ?_)
        clear hK K
        refine wpAnyH_takeD 10 (some 87) (.int .u8 v9) rfl rfl (by kernel_rfl) (by kernel_rfl) (by kernel_rfl) (fun _ _ _ h => h) (Or.inl ⟨by rfl, fun w hSw => by have hq9 : _ = _ := hSw; clear hSw; go_simp⟩) hS ?_
        simp only [Act.put, List.setIfInBounds_toArray, List.set_cons_zero, List.set_cons_succ]
        refine wpAnyH_takeD 11 (some 88) (.pointer (some ⟨B, i, none⟩)) rfl rfl (by kernel_rfl) (by kernel_rfl) (by kernel_rfl) (fun _ _ _ h => h) (Or.inl ⟨by rfl, fun w hSw => by have hq9 : _ = _ := hSw; clear hSw; go_simp⟩) hS ?_
        simp only [Act.put, List.setIfInBounds_toArray, List.set_cons_zero, List.set_cons_succ]
        refine wpAnyH_ready (rs := [12]) (by kernel_rfl) (by simp) ?_
        refine AllReadyH.cons rfl (fun K hK => ?_) AllReadyH.nil
        simp only [List.getElem_toArray, List.getElem_cons_succ, List.getElem_cons_zero]
        go_simp
        refine hK.out _ _ (unhide HS2 v9) (fun hS => ?_)
        clear hK K
        refine wpAnyH_done (by kernel_rfl) ?_ _
        obtain ⟨hb2, ha2⟩ := unhide HSM v9
        have hcv := unhide HCV ((W1.setCell ⟨B, i, none⟩ (.int .u8 v9)).drew) ((nums f).set i v9) (by rw [List.length_set]; exact hNl) ha2
        have HT9 := hide (unhide HTK2 ((nums f).set i v9) ((W1.setCell ⟨B, i, none⟩ (.int .u8 v9)).drew) (by rw [List.length_set]; exact hNl) hb2)
        obtain ⟨k0, k1, k3⟩ := unhide HBC _ hb2
        clear hb2 ha2 HSM HS2 HTK2 HBC HCV hS q1 q2 c3 hsh hv9
        generalize (W1.setCell ⟨B, i, none⟩ (.int .u8 v9)).drew = W9 at *
        generalize (nums f).set i v9 = l9 at *
        go_wp2_with fail
        refine (unhide HT9).mono ?_
        rintro ev y ⟨rfl, p1, p2⟩
        have HP := hide (And.intro p1 p2)
        clear p1 p2
        go_wp2
        go_ret
        exact ⟨rfl, (unhide HP).1, (unhide HP).2⟩
    have hz0 : fz = 0 := by omega
    subst hz0
    have e9 : ¬ (((0 : Nat)) : Int) > 0 := by omega
    have hcv := unhide HCV W1 (nums f) hNl hArr
    have HT9 := hide (unhide HTK2 (nums f) W1 hNl hbel)
    obtain ⟨c0, c1, c3⟩ := unhide HBC W1 hbel
    clear hBs hArr hbel HTK2 HBC HCV
    go_wp2_with fail
    refine (unhide HT9).mono ?_
    rintro ev y ⟨rfl, p1, p2⟩
    have HP := hide (And.intro p1 p2)
    clear p1 p2
    go_wp2
    go_ret
    exact ⟨rfl, (unhide HP).1, (unhide HP).2⟩
  have e5 : (kd == 5) = false := by simpa using k5
  by_cases k6 : kd = 6
  · subst k6
    obtain ⟨p0, p1, _, _, _, _, o2, o3, o4⟩ := hBX.cells
    obtain ⟨AT, hAT⟩ : ∃ AT : World → Prop, AT = fun y => BX (gb a) (db a) (gb t) (db t) (gb c) (db c) 6 ed N M S b y := ⟨_, rfl⟩
    have HAT := hide (show AT W.drew from by rw [hAT]; exact (unhide HXX).2.kp (KpR.below (Below.refl _ _).drew))
    have HC := hide (show ∀ y, AT y → y.cell? ⟨b, 0, none⟩ = some (.pointer (some ⟨gb a, 0, none⟩)) ∧ y.cell? ⟨b, 1, none⟩ = some (.pointer (some ⟨db a, 0, none⟩)) ∧ y.cell? ⟨b + 1, 4, none⟩ = some (.string S) ∧ y.cell? ⟨b + 1, 2, none⟩ = some (.int .i64 N) from fun y hy => by
      rw [hAT] at hy
      obtain ⟨q1, q2, _, _, _, _, q4, _, q3⟩ := hy.cells
      exact ⟨q1, q2, q3, q4⟩)
    have HTA := hide (show ∀ (f : ByteArray) (hf : f.size ≤ 4611686018427387904) (y : World), Below W.heap.size W y → AT y → Calls Tryz.prog 39 #[.agg #[.pointer (some ⟨gb a, 0, none⟩), .pointer (some ⟨db a, 0, none⟩)], .string f] y fun ev w' => ev = .returned (.bool true) ∧ PlS w0 h F gb db (m + 1) w' ∧ KpR W w' ∧ AT w' from fun f hf y hy hA => by
      refine (unhide HTK f hf y E V L ((unhide HXX).1.bel' hy)).mono ?_
      rintro ev w' ⟨rfl, p1, p2⟩
      refine ⟨rfl, p1, (KpR.below hy).trans p2, ?_⟩
      rw [hAT] at hA ⊢
      exact hA.kp p2)
    obtain ⟨fz, hfz⟩ : ∃ z, f.size = z := ⟨_, rfl⟩
    rw [hfz] at hf
    have HPM := hide (fun W => pick21 M (fz + 1) (by omega) hM W)
    rw [show (((fz + 1 : Nat)) : Int) = (fz : Int) + 1 from by omega] at HPM
    clear hAT
    have HT0 := hide (unhide HTA)
    generalize gb a = g1 at *
    generalize db a = d1 at *
    clear HXX HTK hBX hla HTA
    go_wp2_with fail
    refine (unhide HPM _).mono ?_
    rintro ev yy ⟨r, hr, rfl, hy⟩
    subst yy
    clear HPM
    obtain ⟨q, hq⟩ : ∃ q, q + r = fz := ⟨fz - r, by omega⟩
    have w1 : (fz : Int) - (r : Int) = (q : Int) := by omega
    have w2 : IntKind.i64.wrap (q : Int) = (q : Int) := wrapI_eq _ (by omega) (by omega)
    obtain ⟨f1, hf1⟩ : ∃ z, f.extract 0 q = z := ⟨_, rfl⟩
    have hz1 : f1.size = q := by rw [← hf1, ByteArray.size_extract]; omega
    obtain ⟨f2, hf2⟩ : ∃ z, f1 ++ S = z := ⟨_, rfl⟩
    have hz2 : f2.size = q + S.size := by rw [← hf2, ByteArray.size_append, hz1]
    have HT2 := hide (unhide HT0 f2 (by omega) W.drew (Below.refl _ _).drew (unhide HAT))
    have hqz : (q : Int) ≤ (fz : Int) := by omega
    clear HT0 hz2
    go_wp2_with fail
    refine wp_region_held_drew (S := AT) (by kernel_rfl) (unhide HAT) ?_
    intro hS
    refine wpAnyH_takeD 0 (some 101) (.agg #[.pointer (some ⟨g1, 0, none⟩), .pointer (some ⟨d1, 0, none⟩)]) rfl rfl (by kernel_rfl) (by kernel_rfl) (by kernel_rfl) (fun _ _ _ h => h) (Or.inl ⟨by rfl, fun w hSw => by obtain ⟨hq1, hq2, hq3⟩ := unhide HC w hSw; clear hSw; go_simp; try omega⟩) hS ?_
    simp only [Act.put, List.setIfInBounds_toArray, List.set_cons_zero, List.set_cons_succ]
    refine wpAnyH_takeD 1 (some 102) (.string f) rfl rfl (by kernel_rfl) (by kernel_rfl) (by kernel_rfl) (fun _ _ _ h => h) (Or.inl ⟨by rfl, fun w hSw => by obtain ⟨hq1, hq2, hq3⟩ := unhide HC w hSw; clear hSw; go_simp; try omega⟩) hS ?_
    simp only [Act.put, List.setIfInBounds_toArray, List.set_cons_zero, List.set_cons_succ]
    refine wpAnyH_takeD 2 (some 103) (.string f) rfl rfl (by kernel_rfl) (by kernel_rfl) (by kernel_rfl) (fun _ _ _ h => h) (Or.inl ⟨by rfl, fun w hSw => by obtain ⟨hq1, hq2, hq3⟩ := unhide HC w hSw; clear hSw; go_simp; try omega⟩) hS ?_
    simp only [Act.put, List.setIfInBounds_toArray, List.set_cons_zero, List.set_cons_succ]
    refine wpAnyH_takeD 3 (some 104) (.int .i64 (fz : Int)) rfl rfl (by kernel_rfl) (by kernel_rfl) (by kernel_rfl) (fun _ _ _ h => h) (Or.inl ⟨by rfl, fun w hSw => by obtain ⟨hq1, hq2, hq3⟩ := unhide HC w hSw; clear hSw; go_simp; try omega⟩) hS ?_
    simp only [Act.put, List.setIfInBounds_toArray, List.set_cons_zero, List.set_cons_succ]
    refine wpAnyH_takeD 4 (some 105) (.int .i64 (r : Int)) rfl rfl (by kernel_rfl) (by kernel_rfl) (by kernel_rfl) (fun _ _ _ h => h) (Or.inl ⟨by rfl, fun w hSw => by obtain ⟨hq1, hq2, hq3⟩ := unhide HC w hSw; clear hSw; go_simp; try omega⟩) hS ?_
    simp only [Act.put, List.setIfInBounds_toArray, List.set_cons_zero, List.set_cons_succ]
    refine wpAnyH_takeD 5 (some 106) (.int .i64 (q : Int)) rfl rfl (by kernel_rfl) (by kernel_rfl) (by kernel_rfl) (fun _ _ _ h => h) (Or.inl ⟨by rfl, fun w hSw => by obtain ⟨hq1, hq2, hq3⟩ := unhide HC w hSw; clear hSw; go_simp; try omega⟩) hS ?_
    simp only [Act.put, List.setIfInBounds_toArray, List.set_cons_zero, List.set_cons_succ]
    refine wpAnyH_takeD 6 (some 107) (.string f1) rfl rfl (by kernel_rfl) (by kernel_rfl) (by kernel_rfl) (fun _ _ _ h => h) (Or.inl ⟨by rfl, fun w hSw => by obtain ⟨hq1, hq2, hq3⟩ := unhide HC w hSw; clear hSw; go_simp; try omega⟩) hS ?_
    simp only [Act.put, List.setIfInBounds_toArray, List.set_cons_zero, List.set_cons_succ]
    refine wpAnyH_takeD 7 (some 108) (.pointer (some ⟨b + 1, 4, none⟩)) rfl rfl (by kernel_rfl) (by kernel_rfl) (by kernel_rfl) (fun _ _ _ h => h) (Or.inl ⟨by rfl, fun w hSw => by obtain ⟨hq1, hq2, hq3⟩ := unhide HC w hSw; clear hSw; go_simp; try omega⟩) hS ?_
    simp only [Act.put, List.setIfInBounds_toArray, List.set_cons_zero, List.set_cons_succ]
    refine wpAnyH_takeD 8 (some 109) (.string S) rfl rfl (by kernel_rfl) (by kernel_rfl) (by kernel_rfl) (fun _ _ _ h => h) (Or.inl ⟨by rfl, fun w hSw => by obtain ⟨hq1, hq2, hq3⟩ := unhide HC w hSw; clear hSw; go_simp; try omega⟩) hS ?_
    simp only [Act.put, List.setIfInBounds_toArray, List.set_cons_zero, List.set_cons_succ]
    refine wpAnyH_takeD 9 (some 110) (.string f2) rfl rfl (by kernel_rfl) (by kernel_rfl) (by kernel_rfl) (fun _ _ _ h => h) (Or.inl ⟨by rfl, fun w hSw => by obtain ⟨hq1, hq2, hq3⟩ := unhide HC w hSw; clear hSw; go_simp; try omega⟩) hS ?_
    simp only [Act.put, List.setIfInBounds_toArray, List.set_cons_zero, List.set_cons_succ]
    refine wpAnyH_ready (rs := [10]) (by kernel_rfl) (by simp) ?_
    refine AllReadyH.cons rfl (fun K hK => ?_) AllReadyH.nil
    simp only [List.getElem_toArray, List.getElem_cons_succ, List.getElem_cons_zero]
    go_simp
    refine (unhide HT2).mono ?_
    rintro ev y4 ⟨rfl, p1, p2, hS6⟩
    have HP := hide (And.intro p1 p2)
    clear p1 p2
    refine hK.out _ _ hS6 (fun hS => ?_)
    clear hK K
    refine wpAnyH_takeD 11 (some 10) (.bool true) rfl rfl (by kernel_rfl) (by kernel_rfl) (by kernel_rfl) (fun _ _ _ h => h) (Or.inl ⟨by rfl, fun w hSw => by obtain ⟨hq1, hq2, hq3⟩ := unhide HC w hSw; clear hSw; go_simp; try omega⟩) hS ?_
    simp only [Act.put, List.setIfInBounds_toArray, List.set_cons_zero, List.set_cons_succ]
    refine wpAnyH_done (by kernel_rfl) ?_ _
    clear hS HAT HC HT2
    go_wp2
    go_ret
    exact ⟨rfl, (unhide HP).1, (unhide HP).2⟩
  have e6 : (kd == 6) = false := by simpa using k6
  by_cases k7 : kd = 7
  · subst k7
    obtain ⟨p0, p1, _, _, _, _, o2, o3, o4⟩ := hBX.cells
    obtain ⟨AT, hAT⟩ : ∃ AT : World → Prop, AT = fun y => BX (gb a) (db a) (gb t) (db t) (gb c) (db c) 7 ed N M S b y := ⟨_, rfl⟩
    have HAT := hide (show AT W.drew from by rw [hAT]; exact (unhide HXX).2.kp (KpR.below (Below.refl _ _).drew))
    have HC := hide (show ∀ y, AT y → y.cell? ⟨b, 0, none⟩ = some (.pointer (some ⟨gb a, 0, none⟩)) ∧ y.cell? ⟨b, 1, none⟩ = some (.pointer (some ⟨db a, 0, none⟩)) ∧ y.cell? ⟨b + 1, 4, none⟩ = some (.string S) ∧ y.cell? ⟨b + 1, 2, none⟩ = some (.int .i64 N) from fun y hy => by
      rw [hAT] at hy
      obtain ⟨q1, q2, _, _, _, _, q4, _, q3⟩ := hy.cells
      exact ⟨q1, q2, q3, q4⟩)
    have HTA := hide (show ∀ (f : ByteArray) (hf : f.size ≤ 4611686018427387904) (y : World), Below W.heap.size W y → AT y → Calls Tryz.prog 39 #[.agg #[.pointer (some ⟨gb a, 0, none⟩), .pointer (some ⟨db a, 0, none⟩)], .string f] y fun ev w' => ev = .returned (.bool true) ∧ PlS w0 h F gb db (m + 1) w' ∧ KpR W w' ∧ AT w' from fun f hf y hy hA => by
      refine (unhide HTK f hf y E V L ((unhide HXX).1.bel' hy)).mono ?_
      rintro ev w' ⟨rfl, p1, p2⟩
      refine ⟨rfl, p1, (KpR.below hy).trans p2, ?_⟩
      rw [hAT] at hA ⊢
      exact hA.kp p2)
    have hDE := (unhide HXX).1.dn a ha
    have co : W.cell? ⟨db a, 3, none⟩ = some (.string (E a).o) := hDE.1.cell 3
    have ci : W.cell? ⟨db a, 1, none⟩ = some (.int .i64 ((E a).i : Int)) := hDE.1.cell 1
    have hei := hDE.2.2.i
    have HFR := hide (rframe_any (db a) (E a) (V a) (by have := (unhide HXX).1.os a ha; omega) (1 - (E a).i) (by omega) N hN S (by omega) W.drew (hDE.below (B := W.heap.size) (Below.refl _ _).drew hDE.lt))
    rw [show (((1 - (E a).i : Nat)) : Int) = 1 - ((E a).i : Int) from by omega] at HFR
    have HFZ := hide (frB_le (hiB (E a).k (E a).a (E a).b (1 - (E a).i)) (seB (E a).k (E a).a (E a).b (1 - (E a).i)) N S)
    generalize frB (hiB (E a).k (E a).a (E a).b (1 - (E a).i)) (seB (E a).k (E a).a (E a).b (1 - (E a).i)) N S = F9 at *
    replace HFZ := hide (show F9.size ≤ 4611686018427387904 from by have := unhide HFZ; omega)
    have HT0 := hide (fun f hf y (hy : Below W.heap.size W y) hA => unhide HTA f hf y hy hA)
    have HA4 := hide (show ∀ z, Below W.drew.heap.size W.drew z → AT z from fun z hz => by
      rw [hAT]
      exact (unhide HXX).2.kp (KpR.below ((Below.refl _ W).drew.trans hz)))
    have HPE := hide (show PlS w0 h F gb db (m + 1) W from ⟨_, _, _, x.more (Nat.le_succ m)⟩)
    obtain ⟨o, ho⟩ : ∃ z, (E a).o = z := ⟨_, rfl⟩
    obtain ⟨ei, hei2⟩ : ∃ z, (E a).i = z := ⟨_, rfl⟩
    rw [ho] at co
    rw [hei2] at ci hei HFR
    clear hAT hDE ho hei2
    generalize gb a = g1 at *
    generalize db a = d1 at *
    clear HXX HTK hBX hla HTA
    by_cases hoz : o.size = 0
    · have oe : o.toList.isEmpty = true := by
        have : o = ⟨#[]⟩ := by
          apply nums_inj
          exact List.eq_nil_of_length_eq_zero (by rw [nums_len]; exact hoz)
        rw [this, ByteArray.toList_eq]; rfl
      go_wp2
      go_ret
      exact ⟨rfl, unhide HPE, KpR.refl _⟩
    have oe : o.toList.isEmpty = false := emp_noL hoz
    have w2 : IntKind.i64.wrap (1 - (ei : Int)) = 1 - (ei : Int) := wrapI_eq _ (by omega) (by omega)
    have oe2 : ¬ o.toList = [] := fun q => by rw [q] at oe; cases oe
    go_wp2_with fail
    refine wp_region_held_drew (S := AT) (by kernel_rfl) (unhide HAT) ?_
    intro hS
    refine wpAnyH_takeD 0 (some 120) (.agg #[.pointer (some ⟨g1, 0, none⟩), .pointer (some ⟨d1, 0, none⟩)]) rfl rfl (by kernel_rfl) (by kernel_rfl) (by kernel_rfl) (fun _ _ _ h => h) (Or.inl ⟨by rfl, fun w hSw => by obtain ⟨hq1, hq2, hq3, hq4⟩ := unhide HC w hSw; clear hSw; go_simp; try omega⟩) hS ?_
    simp only [Act.put, List.setIfInBounds_toArray, List.set_cons_zero, List.set_cons_succ]
    refine wpAnyH_takeD 1 (some 121) (.pointer (some ⟨b, 1, none⟩)) rfl rfl (by kernel_rfl) (by kernel_rfl) (by kernel_rfl) (fun _ _ _ h => h) (Or.inl ⟨by rfl, fun w hSw => by obtain ⟨hq1, hq2, hq3, hq4⟩ := unhide HC w hSw; clear hSw; go_simp; try omega⟩) hS ?_
    simp only [Act.put, List.setIfInBounds_toArray, List.set_cons_zero, List.set_cons_succ]
    refine wpAnyH_takeD 2 (some 122) (.pointer (some ⟨d1, 0, none⟩)) rfl rfl (by kernel_rfl) (by kernel_rfl) (by kernel_rfl) (fun _ _ _ h => h) (Or.inl ⟨by rfl, fun w hSw => by obtain ⟨hq1, hq2, hq3, hq4⟩ := unhide HC w hSw; clear hSw; go_simp; try omega⟩) hS ?_
    simp only [Act.put, List.setIfInBounds_toArray, List.set_cons_zero, List.set_cons_succ]
    refine wpAnyH_takeD 3 (some 123) (.pointer (some ⟨b, 1, none⟩)) rfl rfl (by kernel_rfl) (by kernel_rfl) (by kernel_rfl) (fun _ _ _ h => h) (Or.inl ⟨by rfl, fun w hSw => by obtain ⟨hq1, hq2, hq3, hq4⟩ := unhide HC w hSw; clear hSw; go_simp; try omega⟩) hS ?_
    simp only [Act.put, List.setIfInBounds_toArray, List.set_cons_zero, List.set_cons_succ]
    refine wpAnyH_takeD 4 (some 124) (.pointer (some ⟨d1, 0, none⟩)) rfl rfl (by kernel_rfl) (by kernel_rfl) (by kernel_rfl) (fun _ _ _ h => h) (Or.inl ⟨by rfl, fun w hSw => by obtain ⟨hq1, hq2, hq3, hq4⟩ := unhide HC w hSw; clear hSw; go_simp; try omega⟩) hS ?_
    simp only [Act.put, List.setIfInBounds_toArray, List.set_cons_zero, List.set_cons_succ]
    refine wpAnyH_takeD 5 (some 125) (.pointer (some ⟨d1, 0, none⟩)) rfl rfl (by kernel_rfl) (by kernel_rfl) (by kernel_rfl) (fun _ _ _ h => h) (Or.inl ⟨by rfl, fun w hSw => by obtain ⟨hq1, hq2, hq3, hq4⟩ := unhide HC w hSw; clear hSw; go_simp; try omega⟩) hS ?_
    simp only [Act.put, List.setIfInBounds_toArray, List.set_cons_zero, List.set_cons_succ]
    refine wpAnyH_takeD 6 (some 126) (.pointer (some ⟨d1, 1, none⟩)) rfl rfl (by kernel_rfl) (by kernel_rfl) (by kernel_rfl) (fun _ _ _ h => h) (Or.inl ⟨by rfl, fun w hSw => by obtain ⟨hq1, hq2, hq3, hq4⟩ := unhide HC w hSw; clear hSw; go_simp; try omega⟩) hS ?_
    simp only [Act.put, List.setIfInBounds_toArray, List.set_cons_zero, List.set_cons_succ]
    refine wpAnyH_takeD 9 (some 129) (.pointer (some ⟨b + 1, 2, none⟩)) rfl rfl (by kernel_rfl) (by kernel_rfl) (by kernel_rfl) (fun _ _ _ h => h) (Or.inl ⟨by rfl, fun w hSw => by obtain ⟨hq1, hq2, hq3, hq4⟩ := unhide HC w hSw; clear hSw; go_simp; try omega⟩) hS ?_
    simp only [Act.put, List.setIfInBounds_toArray, List.set_cons_zero, List.set_cons_succ]
    refine wpAnyH_takeD 10 (some 130) (.int .i64 N) rfl rfl (by kernel_rfl) (by kernel_rfl) (by kernel_rfl) (fun _ _ _ h => h) (Or.inl ⟨by rfl, fun w hSw => by obtain ⟨hq1, hq2, hq3, hq4⟩ := unhide HC w hSw; clear hSw; go_simp; try omega⟩) hS ?_
    simp only [Act.put, List.setIfInBounds_toArray, List.set_cons_zero, List.set_cons_succ]
    refine wpAnyH_takeD 11 (some 131) (.pointer (some ⟨b + 1, 4, none⟩)) rfl rfl (by kernel_rfl) (by kernel_rfl) (by kernel_rfl) (fun _ _ _ h => h) (Or.inl ⟨by rfl, fun w hSw => by obtain ⟨hq1, hq2, hq3, hq4⟩ := unhide HC w hSw; clear hSw; go_simp; try omega⟩) hS ?_
    simp only [Act.put, List.setIfInBounds_toArray, List.set_cons_zero, List.set_cons_succ]
    refine wpAnyH_takeD 12 (some 132) (.string S) rfl rfl (by kernel_rfl) (by kernel_rfl) (by kernel_rfl) (fun _ _ _ h => h) (Or.inl ⟨by rfl, fun w hSw => by obtain ⟨hq1, hq2, hq3, hq4⟩ := unhide HC w hSw; clear hSw; go_simp; try omega⟩) hS ?_
    simp only [Act.put, List.setIfInBounds_toArray, List.set_cons_zero, List.set_cons_succ]
    refine wpAnyH_ready (rs := [7]) (by kernel_rfl) (by simp) ?_
    refine AllReadyH.cons rfl (fun K hK => ?_) AllReadyH.nil
    simp only [List.getElem_toArray, List.getElem_cons_succ, List.getElem_cons_zero]
    go_simp
    refine hK.out _ _ hS (fun hS => ?_)
    clear hK K
    refine wpAnyH_takeD 8 (some 128) (.int .i64 (1 - (ei : Int))) rfl rfl (by kernel_rfl) (by kernel_rfl) (by kernel_rfl) (fun _ _ _ h => h) (Or.inl ⟨by rfl, fun w hSw => by obtain ⟨hq1, hq2, hq3, hq4⟩ := unhide HC w hSw; clear hSw; go_simp; try omega⟩) hS ?_
    simp only [Act.put, List.setIfInBounds_toArray, List.set_cons_zero, List.set_cons_succ]
    refine wpAnyH_ready (rs := [13]) (by kernel_rfl) (by simp) ?_
    refine AllReadyH.cons rfl (fun K hK => ?_) AllReadyH.nil
    simp only [List.getElem_toArray, List.getElem_cons_succ, List.getElem_cons_zero]
    go_simp
    refine (unhide HFR).mono ?_
    rintro ev y3 ⟨rfl, hb3⟩
    have hS7 := unhide HA4 _ hb3
    have HB3 := hide (show Below W.heap.size W y3 from (Below.refl W.heap.size W).drew.trans hb3)
    clear hb3
    refine hK.out _ _ hS7 (fun hS => ?_)
    clear hK K
    refine wpAnyH_ready (rs := [14]) (by kernel_rfl) (by simp) ?_
    refine AllReadyH.cons rfl (fun K hK => ?_) AllReadyH.nil
    simp only [List.getElem_toArray, List.getElem_cons_succ, List.getElem_cons_zero]
    go_simp
    refine (unhide HT0 F9 (unhide HFZ) y3 (unhide HB3) hS).mono ?_
    rintro ev y4 ⟨rfl, p1, p2, hS6⟩
    have HP := hide (And.intro p1 p2)
    clear p1 p2
    refine hK.out _ _ hS6 (fun hS => ?_)
    clear hK K
    refine wpAnyH_takeD 15 (some 10) (.bool true) rfl rfl (by kernel_rfl) (by kernel_rfl) (by kernel_rfl) (fun _ _ _ h => h) (Or.inl ⟨by rfl, fun w hSw => by obtain ⟨hq1, hq2, hq3, hq4⟩ := unhide HC w hSw; clear hSw; go_simp; try omega⟩) hS ?_
    simp only [Act.put, List.setIfInBounds_toArray, List.set_cons_zero, List.set_cons_succ]
    refine wpAnyH_done (by kernel_rfl) ?_ _
    clear hS HAT HC HT0 HA4 HFR
    go_wp2
    go_ret
    exact ⟨rfl, (unhide HP).1, (unhide HP).2⟩
  have e7 : (kd == 7) = false := by simpa using k7
  by_cases k8 : kd = 8
  · subst k8
    obtain ⟨p0, p1, _, _, _, _, o2, o3, o4⟩ := hBX.cells
    clear HXX
    go_wp2_with fail
    refine (unhide HTK S (by omega) _ E V L x).mono ?_
    rintro ev y ⟨rfl, p1, p2⟩
    have HP := hide (And.intro p1 p2)
    clear p1 p2
    go_wp2
    go_ret
    exact ⟨rfl, (unhide HP).1, (unhide HP).2⟩
  have e8 : (kd == 8) = false := by simpa using k8
  by_cases k10 : kd = 10
  · subst k10
    have HXY := hide (unhide HXX)
    have HCL := hide (lclose_any (gb a) (E a) W (x.en a ha))
    have HCD := hide (show ∀ y, EndM y (gb a) { E a with r := false, c := true } → Only (fun k => k = gb a) W y → Calls Tryz.prog 41 #[.pointer (some ⟨db a, 0, none⟩)] y fun ev w' => ev = .returned (.tuple #[]) ∧ ∃ (_ : True) (E2 : Nat → LE) (V2 : Nat → Value) (L2 : Nat → List Nat), PlI w0 h F gb db m w' E2 V2 L2 ∧ BX (gb a) (db a) (gb t) (db t) (gb c) (db c) 10 ed N M S b w' ∧ KpR W w' from fun y hE hO => by
      have d1 := (x.dn a ha).only hO (fun q => x.ngd a a ha ha q.symm)
      refine (rlclose_any (db a) (E a) (V a) y d1).mono ?_
      rintro ev w' ⟨rfl, q1, q2⟩
      have hoG : Only (fun k => k = gb a ∨ k = db a) W w' := (hO.mono (fun _ _ q => .inl q)).trans q2 (fun _ _ q => .inr q)
      have t0 := x.tk a ha
      have t1 : TkR w' F { E a with r := false, c := true } (V a) (L a) := ⟨owns_only t0.o hoG (fun k hk q => by have := (t0.o.lt k hk).1; omega), t0.win, t0.q, t0.lt⟩
      have hEE : EndM w' (gb a) { E a with r := false, c := true } := hE.only q2 (fun q => x.ngd a a ha ha q)
      obtain ⟨r1, r2⟩ := x.turn a ha _ (V a) (L a) hEE q1 t1 (hoG.mono (fun _ _ q => q.imp id .inl)) (.inl rfl) (x.os a ha) (x.ql a ha)
      exact ⟨rfl, trivial, _, _, _, r1, (unhide HXX).2.kp r2, r2⟩)
    have HB1 := hide (show ∀ y, Only (fun k => k = gb a) W y → y.cell? ⟨b, 1, none⟩ = some (.pointer (some ⟨db a, 0, none⟩)) from fun y hO => (hBX.only hO (by omega)).cells.2.1)
    obtain ⟨p0, p1, _⟩ := hBX.cells
    clear hBX x HXX HXY HTK
    go_wp2_with fail
    refine (unhide HCL).mono ?_
    rintro ev y1 ⟨rfl, hE, hO⟩
    have HD := hide (unhide HCD y1 hE hO)
    have p9 := unhide HB1 y1 hO
    clear hE hO HCL HCD HB1 p0 p1
    go_wp2_with fail
    refine (unhide HD).mono ?_
    rintro ev y2 ⟨rfl, hZ⟩
    have HZ := hide hZ
    clear hZ HD p9
    obtain ⟨z0, E2, V2, L2, x2, b2, k2⟩ := unhide HZ
    have HCO := hide (lcounts_any (gb a) (E2 a) y2 (x2.en a ha))
    have hLq := (x2.tk a ha).q
    obtain ⟨pv, cv, hvf, _⟩ := gr_form (x2.tk a ha).o
    rw [hLq] at hvf
    obtain ⟨AT, hAT⟩ : ∃ AT : World → Prop, AT = fun y => PlI w0 h F gb db m y E2 V2 L2 ∧ BX (gb a) (db a) (gb t) (db t) (gb c) (db c) 10 ed N M S b y ∧ KpR W y := ⟨_, rfl⟩
    have HA4 := hide (show ∀ y z, AT y → Below y.heap.size y z → AT z from fun y z hy hz => by
      rw [hAT] at hy ⊢
      exact ⟨hy.1.bel' hz, hy.2.1.kp (KpR.below hz), hy.2.2.trans (KpR.below hz)⟩)
    have HAT := hide (show AT y2 from by rw [hAT]; exact ⟨x2, b2, k2⟩)
    have HC := hide (show ∀ y, AT y → y.cell? ⟨b, 0, none⟩ = some (.pointer (some ⟨gb a, 0, none⟩)) ∧ y.cell? ⟨b, 1, none⟩ = some (.pointer (some ⟨db a, 0, none⟩)) ∧ y.cell? ⟨db a, 5, none⟩ = some (.int .i64 ((E2 a).s : Int)) ∧ y.cell? ⟨db a, 6, none⟩ = some (.slice pv (E2 a).q cv) from fun y hy => by
      rw [hAT] at hy
      obtain ⟨q1, q2, _⟩ := hy.2.1.cells
      exact ⟨q1, q2, (hy.1.dn a ha).1.cell 5, by rw [← hvf]; exact (hy.1.dn a ha).1.cell 6⟩)
    have HRD := hide (fun y (hy : AT y) => lready_any (gb a) (E2 a) y (by rw [hAT] at hy; exact hy.1.en a ha))
    have HRE := hide (fun y (hy : AT y) => rlready_any (db a) (E2 a) (V2 a) y (by rw [hAT] at hy; exact hy.1.dn a ha))
    have HHA := hide (fun y (hy : AT y) => lhello_any (gb a) (E2 a) y (by rw [hAT] at hy; exact hy.1.en a ha) (hEnv.kb _ (by rw [hAT] at hy; exact hy.1.bel)).1)
    have HHB := hide (fun y (hy : AT y) => rlhello_any (db a) (E2 a) (V2 a) y (by rw [hAT] at hy; exact hy.1.dn a ha))
    have HFI := hide (show ∀ y, AT y → PlS w0 h F gb db (m + 1) y ∧ KpR W y from fun y hy => by
      rw [hAT] at hy
      exact ⟨⟨_, _, _, hy.1.more (Nat.le_succ m)⟩, hy.2.2⟩)
    obtain ⟨he, hhe⟩ : ∃ z, (if (E2 a).c then ⟨#[]⟩ else heB (E2 a).k (E2 a).i (E2 a).n) = z := ⟨_, rfl⟩
    rw [hhe] at HHA HHB
    obtain ⟨c0, c1, c2, c3⟩ := unhide HC y2 (unhide HAT)
    clear hAT x2 b2 k2 hvf hLq hhe z0
    generalize (E2 a).s = es at *
    generalize (E2 a).q = eq9 at *
    generalize (E2 a).r = er at *
    generalize gb a = g1 at *
    generalize db a = d1 at *

    go_wp2_with fail
    refine (unhide HCO).mono ?_
    rintro ev y1 ⟨rfl, hb1⟩
    have HAT2 := hide (show AT y1.drew from unhide HA4 _ _ (unhide HAT) hb1.drew)
    clear hb1 HAT HCO c0 c1 c2 c3
    go_wp2_with fail
    refine wp_region_held_drew (S := AT) (by kernel_rfl) (unhide HAT2) ?_
    intro hS
    refine wpAnyH_takeD 0 (some 155) (.int .i64 (es : Int)) rfl rfl (by kernel_rfl) (by kernel_rfl) (by kernel_rfl) (fun _ _ _ h => h) (Or.inl ⟨by rfl, fun w hSw => by obtain ⟨hq1, hq2, hq3, hq4⟩ := unhide HC w hSw; clear hSw; go_simp; try omega⟩) hS ?_
    simp only [Act.put, List.setIfInBounds_toArray, List.set_cons_zero, List.set_cons_succ]
    refine wpAnyH_takeD 1 (some 156) (.pointer (some ⟨b, 1, none⟩)) rfl rfl (by kernel_rfl) (by kernel_rfl) (by kernel_rfl) (fun _ _ _ h => h) (Or.inl ⟨by rfl, fun w hSw => by obtain ⟨hq1, hq2, hq3, hq4⟩ := unhide HC w hSw; clear hSw; go_simp; try omega⟩) hS ?_
    simp only [Act.put, List.setIfInBounds_toArray, List.set_cons_zero, List.set_cons_succ]
    refine wpAnyH_takeD 2 (some 157) (.pointer (some ⟨d1, 0, none⟩)) rfl rfl (by kernel_rfl) (by kernel_rfl) (by kernel_rfl) (fun _ _ _ h => h) (Or.inl ⟨by rfl, fun w hSw => by obtain ⟨hq1, hq2, hq3, hq4⟩ := unhide HC w hSw; clear hSw; go_simp; try omega⟩) hS ?_
    simp only [Act.put, List.setIfInBounds_toArray, List.set_cons_zero, List.set_cons_succ]
    refine wpAnyH_takeD 3 (some 158) (.pointer (some ⟨d1, 0, none⟩)) rfl rfl (by kernel_rfl) (by kernel_rfl) (by kernel_rfl) (fun _ _ _ h => h) (Or.inl ⟨by rfl, fun w hSw => by obtain ⟨hq1, hq2, hq3, hq4⟩ := unhide HC w hSw; clear hSw; go_simp; try omega⟩) hS ?_
    simp only [Act.put, List.setIfInBounds_toArray, List.set_cons_zero, List.set_cons_succ]
    refine wpAnyH_takeD 4 (some 159) (.pointer (some ⟨d1, 5, none⟩)) rfl rfl (by kernel_rfl) (by kernel_rfl) (by kernel_rfl) (fun _ _ _ h => h) (Or.inl ⟨by rfl, fun w hSw => by obtain ⟨hq1, hq2, hq3, hq4⟩ := unhide HC w hSw; clear hSw; go_simp; try omega⟩) hS ?_
    simp only [Act.put, List.setIfInBounds_toArray, List.set_cons_zero, List.set_cons_succ]
    refine wpAnyH_takeD 5 (some 160) (.int .i64 (es : Int)) rfl rfl (by kernel_rfl) (by kernel_rfl) (by kernel_rfl) (fun _ _ _ h => h) (Or.inl ⟨by rfl, fun w hSw => by obtain ⟨hq1, hq2, hq3, hq4⟩ := unhide HC w hSw; clear hSw; go_simp; try omega⟩) hS ?_
    simp only [Act.put, List.setIfInBounds_toArray, List.set_cons_zero, List.set_cons_succ]
    refine wpAnyH_takeD 6 (some 161) (.bool true) rfl rfl (by kernel_rfl) (by kernel_rfl) (by kernel_rfl) (fun _ _ _ h => h) (Or.inl ⟨by rfl, fun w hSw => by obtain ⟨hq1, hq2, hq3, hq4⟩ := unhide HC w hSw; clear hSw; go_simp; try omega⟩) hS ?_
    simp only [Act.put, List.setIfInBounds_toArray, List.set_cons_zero, List.set_cons_succ]
    refine wpAnyH_takeD 7 (some 162) (.bool true) rfl rfl (by kernel_rfl) (by kernel_rfl) (by kernel_rfl) (fun _ _ _ h => h) (Or.inl ⟨by rfl, fun w hSw => by obtain ⟨hq1, hq2, hq3, hq4⟩ := unhide HC w hSw; clear hSw; go_simp; try omega⟩) hS ?_
    simp only [Act.put, List.setIfInBounds_toArray, List.set_cons_zero, List.set_cons_succ]
    refine wpAnyH_takeD 8 (some 163) (.int .i64 (eq9 : Int)) rfl rfl (by kernel_rfl) (by kernel_rfl) (by kernel_rfl) (fun _ _ _ h => h) (Or.inl ⟨by rfl, fun w hSw => by obtain ⟨hq1, hq2, hq3, hq4⟩ := unhide HC w hSw; clear hSw; go_simp; try omega⟩) hS ?_
    simp only [Act.put, List.setIfInBounds_toArray, List.set_cons_zero, List.set_cons_succ]
    refine wpAnyH_takeD 9 (some 164) (.pointer (some ⟨b, 1, none⟩)) rfl rfl (by kernel_rfl) (by kernel_rfl) (by kernel_rfl) (fun _ _ _ h => h) (Or.inl ⟨by rfl, fun w hSw => by obtain ⟨hq1, hq2, hq3, hq4⟩ := unhide HC w hSw; clear hSw; go_simp; try omega⟩) hS ?_
    simp only [Act.put, List.setIfInBounds_toArray, List.set_cons_zero, List.set_cons_succ]
    refine wpAnyH_takeD 10 (some 165) (.pointer (some ⟨d1, 0, none⟩)) rfl rfl (by kernel_rfl) (by kernel_rfl) (by kernel_rfl) (fun _ _ _ h => h) (Or.inl ⟨by rfl, fun w hSw => by obtain ⟨hq1, hq2, hq3, hq4⟩ := unhide HC w hSw; clear hSw; go_simp; try omega⟩) hS ?_
    simp only [Act.put, List.setIfInBounds_toArray, List.set_cons_zero, List.set_cons_succ]
    refine wpAnyH_takeD 11 (some 166) (.pointer (some ⟨d1, 0, none⟩)) rfl rfl (by kernel_rfl) (by kernel_rfl) (by kernel_rfl) (fun _ _ _ h => h) (Or.inl ⟨by rfl, fun w hSw => by obtain ⟨hq1, hq2, hq3, hq4⟩ := unhide HC w hSw; clear hSw; go_simp; try omega⟩) hS ?_
    simp only [Act.put, List.setIfInBounds_toArray, List.set_cons_zero, List.set_cons_succ]
    refine wpAnyH_takeD 12 (some 167) (.pointer (some ⟨d1, 6, none⟩)) rfl rfl (by kernel_rfl) (by kernel_rfl) (by kernel_rfl) (fun _ _ _ h => h) (Or.inl ⟨by rfl, fun w hSw => by obtain ⟨hq1, hq2, hq3, hq4⟩ := unhide HC w hSw; clear hSw; go_simp; try omega⟩) hS ?_
    simp only [Act.put, List.setIfInBounds_toArray, List.set_cons_zero, List.set_cons_succ]
    refine wpAnyH_takeD 13 (some 168) (.slice pv eq9 cv) rfl rfl (by kernel_rfl) (by kernel_rfl) (by kernel_rfl) (fun _ _ _ h => h) (Or.inl ⟨by rfl, fun w hSw => by obtain ⟨hq1, hq2, hq3, hq4⟩ := unhide HC w hSw; clear hSw; go_simp; try omega⟩) hS ?_
    simp only [Act.put, List.setIfInBounds_toArray, List.set_cons_zero, List.set_cons_succ]
    refine wpAnyH_takeD 14 (some 169) (.int .i64 (eq9 : Int)) rfl rfl (by kernel_rfl) (by kernel_rfl) (by kernel_rfl) (fun _ _ _ h => h) (Or.inl ⟨by rfl, fun w hSw => by obtain ⟨hq1, hq2, hq3, hq4⟩ := unhide HC w hSw; clear hSw; go_simp; try omega⟩) hS ?_
    simp only [Act.put, List.setIfInBounds_toArray, List.set_cons_zero, List.set_cons_succ]
    refine wpAnyH_takeD 15 (some 170) (.bool true) rfl rfl (by kernel_rfl) (by kernel_rfl) (by kernel_rfl) (fun _ _ _ h => h) (Or.inl ⟨by rfl, fun w hSw => by obtain ⟨hq1, hq2, hq3, hq4⟩ := unhide HC w hSw; clear hSw; go_simp; try omega⟩) hS ?_
    simp only [Act.put, List.setIfInBounds_toArray, List.set_cons_zero, List.set_cons_succ]
    refine wpAnyH_takeD 16 (some 171) (.bool true) rfl rfl (by kernel_rfl) (by kernel_rfl) (by kernel_rfl) (fun _ _ _ h => h) (Or.inl ⟨by rfl, fun w hSw => by obtain ⟨hq1, hq2, hq3, hq4⟩ := unhide HC w hSw; clear hSw; go_simp; try omega⟩) hS ?_
    simp only [Act.put, List.setIfInBounds_toArray, List.set_cons_zero, List.set_cons_succ]
    refine wpAnyH_takeD 17 (some 172) (.bool true) rfl rfl (by kernel_rfl) (by kernel_rfl) (by kernel_rfl) (fun _ _ _ h => h) (Or.inl ⟨by rfl, fun w hSw => by obtain ⟨hq1, hq2, hq3, hq4⟩ := unhide HC w hSw; clear hSw; go_simp; try omega⟩) hS ?_
    simp only [Act.put, List.setIfInBounds_toArray, List.set_cons_zero, List.set_cons_succ]
    refine wpAnyH_takeD 18 (some 173) (.pointer (some ⟨b, 0, none⟩)) rfl rfl (by kernel_rfl) (by kernel_rfl) (by kernel_rfl) (fun _ _ _ h => h) (Or.inl ⟨by rfl, fun w hSw => by obtain ⟨hq1, hq2, hq3, hq4⟩ := unhide HC w hSw; clear hSw; go_simp; try omega⟩) hS ?_
    simp only [Act.put, List.setIfInBounds_toArray, List.set_cons_zero, List.set_cons_succ]
    refine wpAnyH_takeD 19 (some 174) (.pointer (some ⟨g1, 0, none⟩)) rfl rfl (by kernel_rfl) (by kernel_rfl) (by kernel_rfl) (fun _ _ _ h => h) (Or.inl ⟨by rfl, fun w hSw => by obtain ⟨hq1, hq2, hq3, hq4⟩ := unhide HC w hSw; clear hSw; go_simp; try omega⟩) hS ?_
    simp only [Act.put, List.setIfInBounds_toArray, List.set_cons_zero, List.set_cons_succ]
    refine wpAnyH_takeD 21 (some 176) (.pointer (some ⟨b, 1, none⟩)) rfl rfl (by kernel_rfl) (by kernel_rfl) (by kernel_rfl) (fun _ _ _ h => h) (Or.inl ⟨by rfl, fun w hSw => by obtain ⟨hq1, hq2, hq3, hq4⟩ := unhide HC w hSw; clear hSw; go_simp; try omega⟩) hS ?_
    simp only [Act.put, List.setIfInBounds_toArray, List.set_cons_zero, List.set_cons_succ]
    refine wpAnyH_takeD 22 (some 177) (.pointer (some ⟨d1, 0, none⟩)) rfl rfl (by kernel_rfl) (by kernel_rfl) (by kernel_rfl) (fun _ _ _ h => h) (Or.inl ⟨by rfl, fun w hSw => by obtain ⟨hq1, hq2, hq3, hq4⟩ := unhide HC w hSw; clear hSw; go_simp; try omega⟩) hS ?_
    simp only [Act.put, List.setIfInBounds_toArray, List.set_cons_zero, List.set_cons_succ]
    refine wpAnyH_ready (rs := [20]) (by kernel_rfl) (by simp) ?_
    refine AllReadyH.cons rfl (fun K hK => ?_) AllReadyH.nil
    simp only [List.getElem_toArray, List.getElem_cons_succ, List.getElem_cons_zero]
    go_simp
    refine (unhide HRD _ hS).mono ?_
    rintro ev y5 ⟨rfl, hb5⟩
    have hS5 := unhide HA4 _ _ hS hb5
    clear hb5
    refine hK.out _ _ hS5 (fun hS => ?_)
    clear hK K
    refine wpAnyH_ready (rs := [23]) (by kernel_rfl) (by simp) ?_
    refine AllReadyH.cons rfl (fun K hK => ?_) AllReadyH.nil
    simp only [List.getElem_toArray, List.getElem_cons_succ, List.getElem_cons_zero]
    go_simp
    refine (unhide HRE _ hS).mono ?_
    rintro ev y6 ⟨rfl, hb5⟩
    have hS5 := unhide HA4 _ _ hS hb5
    clear hb5
    refine hK.out _ _ hS5 (fun hS => ?_)
    clear hK K
    refine wpAnyH_takeD 24 (some 179) (.bool true) rfl rfl (by kernel_rfl) (by kernel_rfl) (by kernel_rfl) (fun _ _ _ h => h) (Or.inl ⟨by rfl, fun w hSw => by obtain ⟨hq1, hq2, hq3, hq4⟩ := unhide HC w hSw; clear hSw; go_simp; try omega⟩) hS ?_
    simp only [Act.put, List.setIfInBounds_toArray, List.set_cons_zero, List.set_cons_succ]
    refine wpAnyH_takeD 25 (some 180) (.bool true) rfl rfl (by kernel_rfl) (by kernel_rfl) (by kernel_rfl) (fun _ _ _ h => h) (Or.inl ⟨by rfl, fun w hSw => by obtain ⟨hq1, hq2, hq3, hq4⟩ := unhide HC w hSw; clear hSw; go_simp; try omega⟩) hS ?_
    simp only [Act.put, List.setIfInBounds_toArray, List.set_cons_zero, List.set_cons_succ]
    refine wpAnyH_takeD 26 (some 181) (.bool true) rfl rfl (by kernel_rfl) (by kernel_rfl) (by kernel_rfl) (fun _ _ _ h => h) (Or.inl ⟨by rfl, fun w hSw => by obtain ⟨hq1, hq2, hq3, hq4⟩ := unhide HC w hSw; clear hSw; go_simp; try omega⟩) hS ?_
    simp only [Act.put, List.setIfInBounds_toArray, List.set_cons_zero, List.set_cons_succ]
    refine wpAnyH_takeD 27 (some 182) (.pointer (some ⟨b, 0, none⟩)) rfl rfl (by kernel_rfl) (by kernel_rfl) (by kernel_rfl) (fun _ _ _ h => h) (Or.inl ⟨by rfl, fun w hSw => by obtain ⟨hq1, hq2, hq3, hq4⟩ := unhide HC w hSw; clear hSw; go_simp; try omega⟩) hS ?_
    simp only [Act.put, List.setIfInBounds_toArray, List.set_cons_zero, List.set_cons_succ]
    refine wpAnyH_takeD 28 (some 183) (.pointer (some ⟨g1, 0, none⟩)) rfl rfl (by kernel_rfl) (by kernel_rfl) (by kernel_rfl) (fun _ _ _ h => h) (Or.inl ⟨by rfl, fun w hSw => by obtain ⟨hq1, hq2, hq3, hq4⟩ := unhide HC w hSw; clear hSw; go_simp; try omega⟩) hS ?_
    simp only [Act.put, List.setIfInBounds_toArray, List.set_cons_zero, List.set_cons_succ]
    refine wpAnyH_takeD 30 (some 185) (.pointer (some ⟨b, 1, none⟩)) rfl rfl (by kernel_rfl) (by kernel_rfl) (by kernel_rfl) (fun _ _ _ h => h) (Or.inl ⟨by rfl, fun w hSw => by obtain ⟨hq1, hq2, hq3, hq4⟩ := unhide HC w hSw; clear hSw; go_simp; try omega⟩) hS ?_
    simp only [Act.put, List.setIfInBounds_toArray, List.set_cons_zero, List.set_cons_succ]
    refine wpAnyH_takeD 31 (some 186) (.pointer (some ⟨d1, 0, none⟩)) rfl rfl (by kernel_rfl) (by kernel_rfl) (by kernel_rfl) (fun _ _ _ h => h) (Or.inl ⟨by rfl, fun w hSw => by obtain ⟨hq1, hq2, hq3, hq4⟩ := unhide HC w hSw; clear hSw; go_simp; try omega⟩) hS ?_
    simp only [Act.put, List.setIfInBounds_toArray, List.set_cons_zero, List.set_cons_succ]
    refine wpAnyH_ready (rs := [29]) (by kernel_rfl) (by simp) ?_
    refine AllReadyH.cons rfl (fun K hK => ?_) AllReadyH.nil
    simp only [List.getElem_toArray, List.getElem_cons_succ, List.getElem_cons_zero]
    go_simp
    refine (unhide HHA _ hS).mono ?_
    rintro ev y7 ⟨rfl, hb5⟩
    have hS5 := unhide HA4 _ _ hS hb5
    clear hb5
    refine hK.out _ _ hS5 (fun hS => ?_)
    clear hK K
    refine wpAnyH_ready (rs := [32]) (by kernel_rfl) (by simp) ?_
    refine AllReadyH.cons rfl (fun K hK => ?_) AllReadyH.nil
    simp only [List.getElem_toArray, List.getElem_cons_succ, List.getElem_cons_zero]
    go_simp
    refine (unhide HHB _ hS).mono ?_
    rintro ev y8 ⟨rfl, hb5⟩
    have hS5 := unhide HA4 _ _ hS hb5
    clear hb5
    refine hK.out _ _ hS5 (fun hS => ?_)
    clear hK K
    refine wpAnyH_takeD 33 (some 188) (.bool true) rfl rfl (by kernel_rfl) (by kernel_rfl) (by kernel_rfl) (fun _ _ _ h => h) (Or.inl ⟨by rfl, fun w hSw => by obtain ⟨hq1, hq2, hq3, hq4⟩ := unhide HC w hSw; clear hSw; go_simp; try omega⟩) hS ?_
    simp only [Act.put, List.setIfInBounds_toArray, List.set_cons_zero, List.set_cons_succ]
    refine wpAnyH_takeD 34 (some 189) (.bool true) rfl rfl (by kernel_rfl) (by kernel_rfl) (by kernel_rfl) (fun _ _ _ h => h) (Or.inl ⟨by rfl, fun w hSw => by obtain ⟨hq1, hq2, hq3, hq4⟩ := unhide HC w hSw; clear hSw; go_simp; try omega⟩) hS ?_
    simp only [Act.put, List.setIfInBounds_toArray, List.set_cons_zero, List.set_cons_succ]
    refine wpAnyH_takeD 35 (some 10) (.bool true) rfl rfl (by kernel_rfl) (by kernel_rfl) (by kernel_rfl) (fun _ _ _ h => h) (Or.inl ⟨by rfl, fun w hSw => by obtain ⟨hq1, hq2, hq3, hq4⟩ := unhide HC w hSw; clear hSw; go_simp; try omega⟩) hS ?_
    simp only [Act.put, List.setIfInBounds_toArray, List.set_cons_zero, List.set_cons_succ]
    refine wpAnyH_done (by kernel_rfl) ?_ _
    obtain ⟨p1, p2⟩ := unhide HFI _ hS
    have HP := hide (And.intro p1 p2)
    clear p1 p2 hS HFI HC HA4 HRD HRE HHA HHB HAT2
    go_wp2
    go_ret
    exact ⟨rfl, (unhide HP).1, (unhide HP).2⟩
  have e10 : (kd == 10) = false := by simpa using k10
  have HZ := hide (show ∃ (_ : True) (E2 : Nat → LE) (V2 : Nat → Value) (L2 : Nat → List Nat), PlI w0 h F gb db m W E2 V2 L2 ∧ BX (gb a) (db a) (gb t) (db t) (gb c) (db c) kd ed N M S b W ∧ KpR W W from ⟨trivial, E, V, L, x, hBX, KpR.refl _⟩)
  clear hBX x HXX HTK hla
  obtain ⟨z0, E2, V2, L2, x2, b2, k2⟩ := unhide HZ
  have HCO := hide (lcounts_any (gb a) (E2 a) W (x2.en a ha))
  have hLq := (x2.tk a ha).q
  obtain ⟨pv, cv, hvf, _⟩ := gr_form (x2.tk a ha).o
  rw [hLq] at hvf
  obtain ⟨AT, hAT⟩ : ∃ AT : World → Prop, AT = fun y => PlI w0 h F gb db m y E2 V2 L2 ∧ BX (gb a) (db a) (gb t) (db t) (gb c) (db c) kd ed N M S b y ∧ KpR W y := ⟨_, rfl⟩
  have HA4 := hide (show ∀ y z, AT y → Below y.heap.size y z → AT z from fun y z hy hz => by
    rw [hAT] at hy ⊢
    exact ⟨hy.1.bel' hz, hy.2.1.kp (KpR.below hz), hy.2.2.trans (KpR.below hz)⟩)
  have HAT := hide (show AT W from by rw [hAT]; exact ⟨x2, b2, k2⟩)
  have HC := hide (show ∀ y, AT y → y.cell? ⟨b, 0, none⟩ = some (.pointer (some ⟨gb a, 0, none⟩)) ∧ y.cell? ⟨b, 1, none⟩ = some (.pointer (some ⟨db a, 0, none⟩)) ∧ y.cell? ⟨db a, 5, none⟩ = some (.int .i64 ((E2 a).s : Int)) ∧ y.cell? ⟨db a, 6, none⟩ = some (.slice pv (E2 a).q cv) from fun y hy => by
    rw [hAT] at hy
    obtain ⟨q1, q2, _⟩ := hy.2.1.cells
    exact ⟨q1, q2, (hy.1.dn a ha).1.cell 5, by rw [← hvf]; exact (hy.1.dn a ha).1.cell 6⟩)
  have HRD := hide (fun y (hy : AT y) => lready_any (gb a) (E2 a) y (by rw [hAT] at hy; exact hy.1.en a ha))
  have HRE := hide (fun y (hy : AT y) => rlready_any (db a) (E2 a) (V2 a) y (by rw [hAT] at hy; exact hy.1.dn a ha))
  have HHA := hide (fun y (hy : AT y) => lhello_any (gb a) (E2 a) y (by rw [hAT] at hy; exact hy.1.en a ha) (hEnv.kb _ (by rw [hAT] at hy; exact hy.1.bel)).1)
  have HHB := hide (fun y (hy : AT y) => rlhello_any (db a) (E2 a) (V2 a) y (by rw [hAT] at hy; exact hy.1.dn a ha))
  have HFI := hide (show ∀ y, AT y → PlS w0 h F gb db (m + 1) y ∧ KpR W y from fun y hy => by
    rw [hAT] at hy
    exact ⟨⟨_, _, _, hy.1.more (Nat.le_succ m)⟩, hy.2.2⟩)
  obtain ⟨he, hhe⟩ : ∃ z, (if (E2 a).c then ⟨#[]⟩ else heB (E2 a).k (E2 a).i (E2 a).n) = z := ⟨_, rfl⟩
  rw [hhe] at HHA HHB
  obtain ⟨c0, c1, c2, c3⟩ := unhide HC W (unhide HAT)
  clear hAT x2 b2 k2 hvf hLq hhe z0
  generalize (E2 a).s = es at *
  generalize (E2 a).q = eq9 at *
  generalize (E2 a).r = er at *
  generalize gb a = g1 at *
  generalize db a = d1 at *

  go_wp2_with fail
  refine (unhide HCO).mono ?_
  rintro ev y1 ⟨rfl, hb1⟩
  have HAT2 := hide (show AT y1.drew from unhide HA4 _ _ (unhide HAT) hb1.drew)
  clear hb1 HAT HCO c0 c1 c2 c3
  go_wp2_with fail
  refine wp_region_held_drew (S := AT) (by kernel_rfl) (unhide HAT2) ?_
  intro hS
  refine wpAnyH_takeD 0 (some 155) (.int .i64 (es : Int)) rfl rfl (by kernel_rfl) (by kernel_rfl) (by kernel_rfl) (fun _ _ _ h => h) (Or.inl ⟨by rfl, fun w hSw => by obtain ⟨hq1, hq2, hq3, hq4⟩ := unhide HC w hSw; clear hSw; go_simp; try omega⟩) hS ?_
  simp only [Act.put, List.setIfInBounds_toArray, List.set_cons_zero, List.set_cons_succ]
  refine wpAnyH_takeD 1 (some 156) (.pointer (some ⟨b, 1, none⟩)) rfl rfl (by kernel_rfl) (by kernel_rfl) (by kernel_rfl) (fun _ _ _ h => h) (Or.inl ⟨by rfl, fun w hSw => by obtain ⟨hq1, hq2, hq3, hq4⟩ := unhide HC w hSw; clear hSw; go_simp; try omega⟩) hS ?_
  simp only [Act.put, List.setIfInBounds_toArray, List.set_cons_zero, List.set_cons_succ]
  refine wpAnyH_takeD 2 (some 157) (.pointer (some ⟨d1, 0, none⟩)) rfl rfl (by kernel_rfl) (by kernel_rfl) (by kernel_rfl) (fun _ _ _ h => h) (Or.inl ⟨by rfl, fun w hSw => by obtain ⟨hq1, hq2, hq3, hq4⟩ := unhide HC w hSw; clear hSw; go_simp; try omega⟩) hS ?_
  simp only [Act.put, List.setIfInBounds_toArray, List.set_cons_zero, List.set_cons_succ]
  refine wpAnyH_takeD 3 (some 158) (.pointer (some ⟨d1, 0, none⟩)) rfl rfl (by kernel_rfl) (by kernel_rfl) (by kernel_rfl) (fun _ _ _ h => h) (Or.inl ⟨by rfl, fun w hSw => by obtain ⟨hq1, hq2, hq3, hq4⟩ := unhide HC w hSw; clear hSw; go_simp; try omega⟩) hS ?_
  simp only [Act.put, List.setIfInBounds_toArray, List.set_cons_zero, List.set_cons_succ]
  refine wpAnyH_takeD 4 (some 159) (.pointer (some ⟨d1, 5, none⟩)) rfl rfl (by kernel_rfl) (by kernel_rfl) (by kernel_rfl) (fun _ _ _ h => h) (Or.inl ⟨by rfl, fun w hSw => by obtain ⟨hq1, hq2, hq3, hq4⟩ := unhide HC w hSw; clear hSw; go_simp; try omega⟩) hS ?_
  simp only [Act.put, List.setIfInBounds_toArray, List.set_cons_zero, List.set_cons_succ]
  refine wpAnyH_takeD 5 (some 160) (.int .i64 (es : Int)) rfl rfl (by kernel_rfl) (by kernel_rfl) (by kernel_rfl) (fun _ _ _ h => h) (Or.inl ⟨by rfl, fun w hSw => by obtain ⟨hq1, hq2, hq3, hq4⟩ := unhide HC w hSw; clear hSw; go_simp; try omega⟩) hS ?_
  simp only [Act.put, List.setIfInBounds_toArray, List.set_cons_zero, List.set_cons_succ]
  refine wpAnyH_takeD 6 (some 161) (.bool true) rfl rfl (by kernel_rfl) (by kernel_rfl) (by kernel_rfl) (fun _ _ _ h => h) (Or.inl ⟨by rfl, fun w hSw => by obtain ⟨hq1, hq2, hq3, hq4⟩ := unhide HC w hSw; clear hSw; go_simp; try omega⟩) hS ?_
  simp only [Act.put, List.setIfInBounds_toArray, List.set_cons_zero, List.set_cons_succ]
  refine wpAnyH_takeD 7 (some 162) (.bool true) rfl rfl (by kernel_rfl) (by kernel_rfl) (by kernel_rfl) (fun _ _ _ h => h) (Or.inl ⟨by rfl, fun w hSw => by obtain ⟨hq1, hq2, hq3, hq4⟩ := unhide HC w hSw; clear hSw; go_simp; try omega⟩) hS ?_
  simp only [Act.put, List.setIfInBounds_toArray, List.set_cons_zero, List.set_cons_succ]
  refine wpAnyH_takeD 8 (some 163) (.int .i64 (eq9 : Int)) rfl rfl (by kernel_rfl) (by kernel_rfl) (by kernel_rfl) (fun _ _ _ h => h) (Or.inl ⟨by rfl, fun w hSw => by obtain ⟨hq1, hq2, hq3, hq4⟩ := unhide HC w hSw; clear hSw; go_simp; try omega⟩) hS ?_
  simp only [Act.put, List.setIfInBounds_toArray, List.set_cons_zero, List.set_cons_succ]
  refine wpAnyH_takeD 9 (some 164) (.pointer (some ⟨b, 1, none⟩)) rfl rfl (by kernel_rfl) (by kernel_rfl) (by kernel_rfl) (fun _ _ _ h => h) (Or.inl ⟨by rfl, fun w hSw => by obtain ⟨hq1, hq2, hq3, hq4⟩ := unhide HC w hSw; clear hSw; go_simp; try omega⟩) hS ?_
  simp only [Act.put, List.setIfInBounds_toArray, List.set_cons_zero, List.set_cons_succ]
  refine wpAnyH_takeD 10 (some 165) (.pointer (some ⟨d1, 0, none⟩)) rfl rfl (by kernel_rfl) (by kernel_rfl) (by kernel_rfl) (fun _ _ _ h => h) (Or.inl ⟨by rfl, fun w hSw => by obtain ⟨hq1, hq2, hq3, hq4⟩ := unhide HC w hSw; clear hSw; go_simp; try omega⟩) hS ?_
  simp only [Act.put, List.setIfInBounds_toArray, List.set_cons_zero, List.set_cons_succ]
  refine wpAnyH_takeD 11 (some 166) (.pointer (some ⟨d1, 0, none⟩)) rfl rfl (by kernel_rfl) (by kernel_rfl) (by kernel_rfl) (fun _ _ _ h => h) (Or.inl ⟨by rfl, fun w hSw => by obtain ⟨hq1, hq2, hq3, hq4⟩ := unhide HC w hSw; clear hSw; go_simp; try omega⟩) hS ?_
  simp only [Act.put, List.setIfInBounds_toArray, List.set_cons_zero, List.set_cons_succ]
  refine wpAnyH_takeD 12 (some 167) (.pointer (some ⟨d1, 6, none⟩)) rfl rfl (by kernel_rfl) (by kernel_rfl) (by kernel_rfl) (fun _ _ _ h => h) (Or.inl ⟨by rfl, fun w hSw => by obtain ⟨hq1, hq2, hq3, hq4⟩ := unhide HC w hSw; clear hSw; go_simp; try omega⟩) hS ?_
  simp only [Act.put, List.setIfInBounds_toArray, List.set_cons_zero, List.set_cons_succ]
  refine wpAnyH_takeD 13 (some 168) (.slice pv eq9 cv) rfl rfl (by kernel_rfl) (by kernel_rfl) (by kernel_rfl) (fun _ _ _ h => h) (Or.inl ⟨by rfl, fun w hSw => by obtain ⟨hq1, hq2, hq3, hq4⟩ := unhide HC w hSw; clear hSw; go_simp; try omega⟩) hS ?_
  simp only [Act.put, List.setIfInBounds_toArray, List.set_cons_zero, List.set_cons_succ]
  refine wpAnyH_takeD 14 (some 169) (.int .i64 (eq9 : Int)) rfl rfl (by kernel_rfl) (by kernel_rfl) (by kernel_rfl) (fun _ _ _ h => h) (Or.inl ⟨by rfl, fun w hSw => by obtain ⟨hq1, hq2, hq3, hq4⟩ := unhide HC w hSw; clear hSw; go_simp; try omega⟩) hS ?_
  simp only [Act.put, List.setIfInBounds_toArray, List.set_cons_zero, List.set_cons_succ]
  refine wpAnyH_takeD 15 (some 170) (.bool true) rfl rfl (by kernel_rfl) (by kernel_rfl) (by kernel_rfl) (fun _ _ _ h => h) (Or.inl ⟨by rfl, fun w hSw => by obtain ⟨hq1, hq2, hq3, hq4⟩ := unhide HC w hSw; clear hSw; go_simp; try omega⟩) hS ?_
  simp only [Act.put, List.setIfInBounds_toArray, List.set_cons_zero, List.set_cons_succ]
  refine wpAnyH_takeD 16 (some 171) (.bool true) rfl rfl (by kernel_rfl) (by kernel_rfl) (by kernel_rfl) (fun _ _ _ h => h) (Or.inl ⟨by rfl, fun w hSw => by obtain ⟨hq1, hq2, hq3, hq4⟩ := unhide HC w hSw; clear hSw; go_simp; try omega⟩) hS ?_
  simp only [Act.put, List.setIfInBounds_toArray, List.set_cons_zero, List.set_cons_succ]
  refine wpAnyH_takeD 17 (some 172) (.bool true) rfl rfl (by kernel_rfl) (by kernel_rfl) (by kernel_rfl) (fun _ _ _ h => h) (Or.inl ⟨by rfl, fun w hSw => by obtain ⟨hq1, hq2, hq3, hq4⟩ := unhide HC w hSw; clear hSw; go_simp; try omega⟩) hS ?_
  simp only [Act.put, List.setIfInBounds_toArray, List.set_cons_zero, List.set_cons_succ]
  refine wpAnyH_takeD 18 (some 173) (.pointer (some ⟨b, 0, none⟩)) rfl rfl (by kernel_rfl) (by kernel_rfl) (by kernel_rfl) (fun _ _ _ h => h) (Or.inl ⟨by rfl, fun w hSw => by obtain ⟨hq1, hq2, hq3, hq4⟩ := unhide HC w hSw; clear hSw; go_simp; try omega⟩) hS ?_
  simp only [Act.put, List.setIfInBounds_toArray, List.set_cons_zero, List.set_cons_succ]
  refine wpAnyH_takeD 19 (some 174) (.pointer (some ⟨g1, 0, none⟩)) rfl rfl (by kernel_rfl) (by kernel_rfl) (by kernel_rfl) (fun _ _ _ h => h) (Or.inl ⟨by rfl, fun w hSw => by obtain ⟨hq1, hq2, hq3, hq4⟩ := unhide HC w hSw; clear hSw; go_simp; try omega⟩) hS ?_
  simp only [Act.put, List.setIfInBounds_toArray, List.set_cons_zero, List.set_cons_succ]
  refine wpAnyH_takeD 21 (some 176) (.pointer (some ⟨b, 1, none⟩)) rfl rfl (by kernel_rfl) (by kernel_rfl) (by kernel_rfl) (fun _ _ _ h => h) (Or.inl ⟨by rfl, fun w hSw => by obtain ⟨hq1, hq2, hq3, hq4⟩ := unhide HC w hSw; clear hSw; go_simp; try omega⟩) hS ?_
  simp only [Act.put, List.setIfInBounds_toArray, List.set_cons_zero, List.set_cons_succ]
  refine wpAnyH_takeD 22 (some 177) (.pointer (some ⟨d1, 0, none⟩)) rfl rfl (by kernel_rfl) (by kernel_rfl) (by kernel_rfl) (fun _ _ _ h => h) (Or.inl ⟨by rfl, fun w hSw => by obtain ⟨hq1, hq2, hq3, hq4⟩ := unhide HC w hSw; clear hSw; go_simp; try omega⟩) hS ?_
  simp only [Act.put, List.setIfInBounds_toArray, List.set_cons_zero, List.set_cons_succ]
  refine wpAnyH_ready (rs := [20]) (by kernel_rfl) (by simp) ?_
  refine AllReadyH.cons rfl (fun K hK => ?_) AllReadyH.nil
  simp only [List.getElem_toArray, List.getElem_cons_succ, List.getElem_cons_zero]
  go_simp
  refine (unhide HRD _ hS).mono ?_
  rintro ev y5 ⟨rfl, hb5⟩
  have hS5 := unhide HA4 _ _ hS hb5
  clear hb5
  refine hK.out _ _ hS5 (fun hS => ?_)
  clear hK K
  refine wpAnyH_ready (rs := [23]) (by kernel_rfl) (by simp) ?_
  refine AllReadyH.cons rfl (fun K hK => ?_) AllReadyH.nil
  simp only [List.getElem_toArray, List.getElem_cons_succ, List.getElem_cons_zero]
  go_simp
  refine (unhide HRE _ hS).mono ?_
  rintro ev y6 ⟨rfl, hb5⟩
  have hS5 := unhide HA4 _ _ hS hb5
  clear hb5
  refine hK.out _ _ hS5 (fun hS => ?_)
  clear hK K
  refine wpAnyH_takeD 24 (some 179) (.bool true) rfl rfl (by kernel_rfl) (by kernel_rfl) (by kernel_rfl) (fun _ _ _ h => h) (Or.inl ⟨by rfl, fun w hSw => by obtain ⟨hq1, hq2, hq3, hq4⟩ := unhide HC w hSw; clear hSw; go_simp; try omega⟩) hS ?_
  simp only [Act.put, List.setIfInBounds_toArray, List.set_cons_zero, List.set_cons_succ]
  refine wpAnyH_takeD 25 (some 180) (.bool true) rfl rfl (by kernel_rfl) (by kernel_rfl) (by kernel_rfl) (fun _ _ _ h => h) (Or.inl ⟨by rfl, fun w hSw => by obtain ⟨hq1, hq2, hq3, hq4⟩ := unhide HC w hSw; clear hSw; go_simp; try omega⟩) hS ?_
  simp only [Act.put, List.setIfInBounds_toArray, List.set_cons_zero, List.set_cons_succ]
  refine wpAnyH_takeD 26 (some 181) (.bool true) rfl rfl (by kernel_rfl) (by kernel_rfl) (by kernel_rfl) (fun _ _ _ h => h) (Or.inl ⟨by rfl, fun w hSw => by obtain ⟨hq1, hq2, hq3, hq4⟩ := unhide HC w hSw; clear hSw; go_simp; try omega⟩) hS ?_
  simp only [Act.put, List.setIfInBounds_toArray, List.set_cons_zero, List.set_cons_succ]
  refine wpAnyH_takeD 27 (some 182) (.pointer (some ⟨b, 0, none⟩)) rfl rfl (by kernel_rfl) (by kernel_rfl) (by kernel_rfl) (fun _ _ _ h => h) (Or.inl ⟨by rfl, fun w hSw => by obtain ⟨hq1, hq2, hq3, hq4⟩ := unhide HC w hSw; clear hSw; go_simp; try omega⟩) hS ?_
  simp only [Act.put, List.setIfInBounds_toArray, List.set_cons_zero, List.set_cons_succ]
  refine wpAnyH_takeD 28 (some 183) (.pointer (some ⟨g1, 0, none⟩)) rfl rfl (by kernel_rfl) (by kernel_rfl) (by kernel_rfl) (fun _ _ _ h => h) (Or.inl ⟨by rfl, fun w hSw => by obtain ⟨hq1, hq2, hq3, hq4⟩ := unhide HC w hSw; clear hSw; go_simp; try omega⟩) hS ?_
  simp only [Act.put, List.setIfInBounds_toArray, List.set_cons_zero, List.set_cons_succ]
  refine wpAnyH_takeD 30 (some 185) (.pointer (some ⟨b, 1, none⟩)) rfl rfl (by kernel_rfl) (by kernel_rfl) (by kernel_rfl) (fun _ _ _ h => h) (Or.inl ⟨by rfl, fun w hSw => by obtain ⟨hq1, hq2, hq3, hq4⟩ := unhide HC w hSw; clear hSw; go_simp; try omega⟩) hS ?_
  simp only [Act.put, List.setIfInBounds_toArray, List.set_cons_zero, List.set_cons_succ]
  refine wpAnyH_takeD 31 (some 186) (.pointer (some ⟨d1, 0, none⟩)) rfl rfl (by kernel_rfl) (by kernel_rfl) (by kernel_rfl) (fun _ _ _ h => h) (Or.inl ⟨by rfl, fun w hSw => by obtain ⟨hq1, hq2, hq3, hq4⟩ := unhide HC w hSw; clear hSw; go_simp; try omega⟩) hS ?_
  simp only [Act.put, List.setIfInBounds_toArray, List.set_cons_zero, List.set_cons_succ]
  refine wpAnyH_ready (rs := [29]) (by kernel_rfl) (by simp) ?_
  refine AllReadyH.cons rfl (fun K hK => ?_) AllReadyH.nil
  simp only [List.getElem_toArray, List.getElem_cons_succ, List.getElem_cons_zero]
  go_simp
  refine (unhide HHA _ hS).mono ?_
  rintro ev y7 ⟨rfl, hb5⟩
  have hS5 := unhide HA4 _ _ hS hb5
  clear hb5
  refine hK.out _ _ hS5 (fun hS => ?_)
  clear hK K
  refine wpAnyH_ready (rs := [32]) (by kernel_rfl) (by simp) ?_
  refine AllReadyH.cons rfl (fun K hK => ?_) AllReadyH.nil
  simp only [List.getElem_toArray, List.getElem_cons_succ, List.getElem_cons_zero]
  go_simp
  refine (unhide HHB _ hS).mono ?_
  rintro ev y8 ⟨rfl, hb5⟩
  have hS5 := unhide HA4 _ _ hS hb5
  clear hb5
  refine hK.out _ _ hS5 (fun hS => ?_)
  clear hK K
  refine wpAnyH_takeD 33 (some 188) (.bool true) rfl rfl (by kernel_rfl) (by kernel_rfl) (by kernel_rfl) (fun _ _ _ h => h) (Or.inl ⟨by rfl, fun w hSw => by obtain ⟨hq1, hq2, hq3, hq4⟩ := unhide HC w hSw; clear hSw; go_simp; try omega⟩) hS ?_
  simp only [Act.put, List.setIfInBounds_toArray, List.set_cons_zero, List.set_cons_succ]
  refine wpAnyH_takeD 34 (some 189) (.bool true) rfl rfl (by kernel_rfl) (by kernel_rfl) (by kernel_rfl) (fun _ _ _ h => h) (Or.inl ⟨by rfl, fun w hSw => by obtain ⟨hq1, hq2, hq3, hq4⟩ := unhide HC w hSw; clear hSw; go_simp; try omega⟩) hS ?_
  simp only [Act.put, List.setIfInBounds_toArray, List.set_cons_zero, List.set_cons_succ]
  refine wpAnyH_takeD 35 (some 10) (.bool true) rfl rfl (by kernel_rfl) (by kernel_rfl) (by kernel_rfl) (fun _ _ _ h => h) (Or.inl ⟨by rfl, fun w hSw => by obtain ⟨hq1, hq2, hq3, hq4⟩ := unhide HC w hSw; clear hSw; go_simp; try omega⟩) hS ?_
  simp only [Act.put, List.setIfInBounds_toArray, List.set_cons_zero, List.set_cons_succ]
  refine wpAnyH_done (by kernel_rfl) ?_ _
  obtain ⟨p1, p2⟩ := unhide HFI _ hS
  have HP := hide (And.intro p1 p2)
  clear p1 p2 hS HFI HC HA4 HRD HRE HHA HHB HAT2
  go_wp2
  go_ret
  exact ⟨rfl, (unhide HP).1, (unhide HP).2⟩
end Go.Proofs.YtifjmldmilmfjaaGreatDoor
