import Derived.Test.YtaedoagcbkgmbaaLsp
namespace Go.Proofs.Ytaedoagcbkgmbaa
open Go.RowKit
theorem infoI : (Try.prog.info? 3).map (fun i => (i.zero, i.size, i.bytes)) = some (some (.int .i64 0), 1, 8) := by kernel_rfl
def ints (l : List Int) : List Value := l.map (Value.int .i64)
theorem ints_len (l : List Int) : (ints l).length = l.length := by simp [ints]
/-- A row of ints that is being made. -/
def InI (w : World) (l : List Int) (u : Value) (wr : World) : Prop := wr.ownsRow w.heap.size 3 1 u l.length (ints l) ∧ Below w.heap.size w wr
theorem wpList_appI (W : World) {ops : Array Oper} {rest : List Oper} {o : Oper} {a : Act} {Q : Exit → Act → World → Prop}
    (hg : o.guard = none) (s x : Operand) (hop : o.op = Op.call { callee := Callee.builtin Builtin.append, args := #[s, x], argTypes := #[22, 22] })
    {w : World} {l : List Int} {u : Value} (hP : InI w l u W) (hs : a.eval s = u)
    (g : Nat) (z : Int) (hx : a.eval x = .slice (some ⟨g, 0, none⟩) 1 1) (hc : W.cell? ⟨g, 0, none⟩ = some (.int .i64 z)) (hsz : l.length < 2000000)
    (h : ∀ v' W', InI w (l ++ [z]) v' W' → wpList Try.prog ops Q rest (a.put o.dst v') W') : wpList Try.prog ops Q (o :: rest) a W := by
  obtain ⟨i0, hi, hz0, hz1, hz2⟩ := info_parts infoI
  refine wpList_append_own W hg s x 22 hop w.heap.size 3 i0 (.int .i64 0) 1 8 Try.underlying22 hi hz0 hz1 hz2 rfl (by decide) u l.length (ints l) hs hP.1 ⟨g, 0, none⟩ 1 1 [.int .i64 z] hx rfl (fun q u hu => ?_) (by simp [Value.oneCell']) (by unfold maxLen; omega) (by omega) hP.2.size (fun v' W' ho hgr _ => ?_)
  · cases q with
    | zero => simp at hu; subst hu; rw [Addr.add_mid]; exact hc
    | succ q => simp at hu
  · refine h v' W' ⟨?_, hP.2.grown hgr hP.2.size (fun q hq => (hP.1.lt q hq).1)⟩
    have e : ints (l ++ [z]) = ints l ++ [.int .i64 z] := by simp [ints]
    rw [e, List.length_append]
    exact ho
theorem InI.form {w wr : World} {l : List Int} {u : Value} (h : InI w l u wr) : ∃ p c, u = .slice p l.length c ∧ ∀ j, j < l.length → ∃ g o, p = some ⟨g, o, none⟩ ∧ w.heap.size ≤ g ∧ g < wr.heap.size ∧ wr.cell? ⟨g, o + j, none⟩ = some (.int .i64 (l.getD j 0)) := by
  rcases h.1.2 with ⟨h1, h2⟩ | ⟨g, cap, cur, h1, hb, hg, _⟩
  · refine ⟨none, 0, by rw [h1, h2], fun j hj => ?_⟩
    omega
  · refine ⟨some ⟨g, 0, none⟩, cap, h1, fun j hj => ⟨g, 0, rfl, hb, Blk.lt hg, ?_⟩⟩
    rw [Nat.zero_add, (own_at h.1 (by rw [h1]; rfl) j hj).1]
    simp [ints, hj]
theorem Ints.below {w w' : World} {p : Option Addr} {l : List Int} (h : Ints w p l) (hb : Below w.heap.size w w') : Ints w' p l := fun j hj => by
  obtain ⟨g, o, h1, h2, h3⟩ := h j hj
  exact ⟨g, o, h1, Nat.lt_of_lt_of_le h2 hb.size, (hb.cell (p := ⟨g, o + j, none⟩) h2).trans h3⟩
def partS (m : Nat) (l : List Int) (k : Nat) : List Int := (l.take k).map (fun z => ((pickP z m : Nat) : Int))
theorem partS_snoc (m : Nat) (l : List Int) (k : Nat) (hk : k < l.length) : partS m l (k + 1) = partS m l k ++ [((pickP (l.getD k 0) m : Nat) : Int)] := by
  rw [partS, partS, List.take_succ_eq_append_getElem hk, List.map_append]
  simp [List.getD_eq_getElem?_getD, hk]
theorem partS_len (m : Nat) (l : List Int) (k : Nat) (hk : k ≤ l.length) : (partS m l k).length = k := by simp [partS]; omega
set_option maxRecDepth 100000 in
set_option maxHeartbeats 8000000 in
theorem lasts_walk (p1 : Option Addr) (c1 : Nat) (l1 : List Int) (p2 : Option Addr) (c2 : Nat) (l2 : List Int) (p3 : Option Addr) (c3 : Nat) (l3 : List Int) (w : World) (h1 : Ints w p1 l1) (h2 : Ints w p2 l2) (h3 : Ints w p3 l3) (b1 : ∀ z ∈ l1, I64 z) (b2 : ∀ z ∈ l2, I64 z) (b3 : ∀ z ∈ l3, I64 z) (n1 : l1.length ≤ 1048576) (n2 : l2.length ≤ 1048576) (n3 : l3.length ≤ 1048576) :
    Calls Try.prog 4 #[.slice p1 l1.length c1, .slice p2 l2.length c2, .slice p3 l3.length c3] w fun e w' => e = .returned (.bool true) ∧ Below w.heap.size w w' := by
  have F1 := hide (fun W (hb : Below w.heap.size w W) => filled_any W p1 c1 l1 p2 c2 l2 (h1.below hb) (h2.below hb) b1 b2 n1 n2)
  have H2 := hide h2
  have H3 := hide h3
  have B2 := hide b2
  have B3 := hide b3
  have HPL := hide (show (filledS l1 l2).pend.length = l2.length from wlist_len _ _)
  have HEV := hide (lasts_every l1 l2)
  have HSM := hide (lasts_some l1 l2 l3)
  have HONE := hide (someF_one l1 l2 l3)
  have HLAST := hide (someF_last l1 l2 l3)
  have HFL := hide (someF_len l1 l2 l3)
  have HNL := hide (show (filledS l1 l2).now.length = 128 by show (layP (baseL l1) _).length = 128; rw [layP_len]; exact baseL_len l1)
  have HL := hide (And.intro (show (filledS l1 l2).last = baseL l1 from rfl) (baseL_len l1))
  have hal : (filledS l1 l2).dead = false := rfl
  generalize someF l1 l2 l3 = FF at *
  generalize filledS l1 l2 = s0 at *
  generalize baseL l1 = L at *
  generalize hM : l2.length = M at *
  generalize hN3 : l3.length = N3 at *
  have HMN := hide (And.intro hM hN3)
  clear h1 h2 h3 b1 b2 b3 hM hN3
  go_enter Try.func4, Try.ntmps4
  go_wp2_with fail
  refine (unhide F1 w (Below.refl _ _)).mono ?_
  rintro ev x1 ⟨bd, rfl, hI1⟩
  have X1 := hide hI1
  clear hI1
  go_wp2_with fail
  refine (unhide F1 x1 (unhide X1).bel).mono ?_
  rintro ev x2 ⟨be, rfl, hI2⟩
  have X2 := hide hI2
  clear hI2
  go_wp2_with fail
  refine (unhide F1 x2 ((unhide X1).bel.trans ((unhide X2).bel.mono (unhide X1).size))).mono ?_
  rintro ev x3 ⟨bf, rfl, hI3⟩
  have X3 := hide (E3.mk3 (unhide X1) (unhide X2) hI3)
  clear hI3 X1 X2 F1
  go_wp2_with fail
  refine (pending3 (unhide X3)).mono ?_
  rintro ev x4 ⟨rfl, rfl⟩
  rw [unhide HPL]
  go_wp2_with fail
  refine (all3 (unhide X3) hal).mono ?_
  rintro ev x5 ⟨pn, cn, rfl, hsn, hI5, _⟩
  rw [unhide HNL]
  obtain ⟨F, hF⟩ : ∃ F : Nat → Prop, F = (fun k => False ∨ (x4.heap.size ≤ k ∧ k < x5.heap.size)) := ⟨_, rfl⟩
  rw [← hF] at hsn hI5
  have X5 := hide hI5
  have XN := hide hsn
  clear hI5 hsn X3 hF
  go_wp2_with fail
  refine (image3 (unhide X5)).mono ?_
  rintro ev x6 ⟨pl, cl, rfl, hsl, hI6, hb6⟩
  have hsn2 := StrsF.mono (unhide XN) (F' := fun k => F k ∨ (x5.heap.size ≤ k ∧ k < x6.heap.size)) (fun k hk => .inl hk) (w' := x6) (fun k hk => hb6.block k ((unhide X5).fence k hk))
  obtain ⟨F', hF⟩ : ∃ F' : Nat → Prop, F' = (fun k => F k ∨ (x5.heap.size ≤ k ∧ k < x6.heap.size)) := ⟨_, rfl⟩
  rw [← hF] at hsl hI6 hsn2
  rw [(unhide HL).1] at hsl ⊢
  rw [(unhide HL).2]
  have X6 := hide hI6
  have XN6 := hide hsn2
  have XL6 := hide hsl
  clear hI6 hsl hsn2 hb6 X5 XN hF
  go_wp2
  go_loopw [12, 14] (fun u i wr => ∃ k : Nat, k ≤ M ∧ i = .int .i64 (k : Int) ∧ InI x6 (revL M k) u wr) (fun _ i _ => M - (intOf i).toNat)
  case atStart => exact ⟨0, by omega, rfl, World.ownsRow_nil _ _ _ _, Below.refl _ _⟩
  case round =>
    obtain ⟨k, hk, rfl, hI⟩ := hrel
    obtain ⟨wo, rfl⟩ : ∃ wo, wo = wr := ⟨_, rfl⟩
    obtain ⟨ue, rfl⟩ : ∃ v, v = u12 := ⟨_, rfl⟩
    have XI := hide hI
    clear hI
    by_cases hkl : k < M
    · have y1 : IntKind.i64.wrap ((M : Int) - 1) = (M : Int) - 1 := wrapI_eq _ (by omega) (by omega)
      have y2 : IntKind.i64.wrap ((M : Int) - 1 - (k : Int)) = (M : Int) - 1 - (k : Int) := wrapI_eq _ (by omega) (by omega)
      have HT := hide (revL_snoc M k)
      have hrl := revL_len M k
      have HZ := hide (show (M : Int) - 1 - (k : Int) = ((M - 1 - k : Nat) : Int) by omega)
      go_wp2_with (at_builtin; refine wpList_appI _ rfl _ _ rfl (show InI x6 (revL M k) ue _ from ⟨(unhide XI).1.alloc _, (unhide XI).2.alloc (unhide XI).2.size _⟩) rfl wo.heap.size ((M : Int) - 1 - (k : Int)) rfl (by simp) (by omega) ?_; intro v' x7 hI7; have X7 := hide hI7; clear hI7)
      go_roundw
      case rel => exact ⟨k + 1, by omega, by go_num, by rw [unhide HT, ← unhide HZ]; exact unhide X7⟩
      case measure => simp [intOf]; omega
    · have hk' : M = k := by omega
      subst hk'
      obtain ⟨pe, ce, hue, hev⟩ := (unhide XI).form
      rw [revL_len] at hue hev
      subst hue
      have XE := hide hev
      have XB := hide (unhide XI).2
      have hsz6 := (unhide XI).2.size
      clear XI hkl hk hev
      go_wp2
      go_loopw [13, 15] (fun u i wr => ∃ k : Nat, k ≤ N3 ∧ (M = 0 → k = 0) ∧ i = .int .i64 (k : Int) ∧ InI wo (partS M l3 k) u wr) (fun _ i _ => N3 - (intOf i).toNat)
      case atStart => exact ⟨0, by omega, fun _ => rfl, rfl, World.ownsRow_nil _ _ _ _, Below.refl _ _⟩
      case round =>
        obtain ⟨k, hk, hk0, rfl, hI⟩ := hrel
        obtain ⟨wq, rfl⟩ : ∃ wo, wo = wr := ⟨_, rfl⟩
        obtain ⟨us, rfl⟩ : ∃ v, v = u13 := ⟨_, rfl⟩
        have XI := hide hI
        have HK0 := hide hk0
        clear hI hk0
        by_cases hkl : k < N3 ∧ 0 < M
        · obtain ⟨hkl, hm0⟩ := hkl
          obtain ⟨g, o, rfl, hg, hc⟩ := unhide H3 k (by rw [(unhide HMN).2]; exact hkl)
          have hg6 : g < x6.heap.size := by have := (unhide X6).bel.size; omega
          have ck : wq.cell? ⟨g, o + k, none⟩ = some (.int .i64 (l3.getD k 0)) := by
            rw [(unhide XI).2.cell (p := ⟨g, o + k, none⟩) (by show g < wo.heap.size; omega), (unhide XB).cell (p := ⟨g, o + k, none⟩) hg6, (unhide X6).bel.cell (p := ⟨g, o + k, none⟩) hg]
            exact hc
          have hz : I64 (l3.getD k 0) := unhide B3 _ (by have := (unhide HMN).2; rw [List.getD_eq_getElem?_getD, List.getElem?_eq_getElem (by omega)]; exact List.getElem_mem _)
          have HPK := hide (fun W => pick_any (l3.getD k 0) M hm0 hz W)
          have HT := hide (partS_snoc M l3 k (by rw [(unhide HMN).2]; exact hkl))
          have hpl := partS_len M l3 k (by rw [(unhide HMN).2]; exact hk)
          generalize pickP (l3.getD k 0) M = j at *
          generalize l3.getD k 0 = z at *
          clear hc hz
          go_wp2_with fail
          refine (unhide HPK _).mono ?_
          rintro ev y1 ⟨rfl, rfl⟩
          clear HPK ck
          go_wp2_with (at_builtin; refine wpList_appI _ rfl _ _ rfl (show InI wo (partS M l3 k) us _ from ⟨(unhide XI).1.alloc _, (unhide XI).2.alloc (unhide XI).2.size _⟩) rfl y1.heap.size (j : Int) rfl (by simp) (by omega) ?_; intro v' x7 hI7; have X7 := hide hI7; clear hI7)
          go_roundw
          case rel => exact ⟨k + 1, by omega, fun h => by omega, by go_num, by rw [unhide HT]; exact unhide X7⟩
          case measure => simp [intOf]; omega
        · have hso : partS M l3 k = someL M l3 := by
            unfold someL
            by_cases hm0 : M = 0
            · rw [if_pos hm0, unhide HK0 hm0]
              rfl
            · have : k = N3 := by omega
              rw [if_neg hm0, this, partS, ← (unhide HMN).2, List.take_length]
          rw [hso] at XI
          obtain ⟨ps, cs, hus, hsm⟩ := (unhide XI).form
          subst hus
          obtain ⟨FI, hFI⟩ : ∃ FI : Nat → Prop, FI = (fun k => F' k ∨ (x6.heap.size ≤ k ∧ k < wq.heap.size)) := ⟨_, rfl⟩
          have hbq : Below x6.heap.size x6 wq := (unhide XB).trans ((unhide XI).2.mono hsz6)
          have hqs := (unhide XI).2.size
          have E7 := (unhide X6).grow hbq
          have N7 := StrsF.mono (unhide XN6) (F' := fun k => F' k ∨ (x6.heap.size ≤ k ∧ k < wq.heap.size)) (fun k hk => .inl hk) (w' := wq) (fun k hk => hbq.block k ((unhide X6).fence k hk))
          have L7 := StrsF.mono (unhide XL6) (F' := fun k => F' k ∨ (x6.heap.size ≤ k ∧ k < wq.heap.size)) (fun k hk => .inl hk) (w' := wq) (fun k hk => hbq.block k ((unhide X6).fence k hk))
          have V7 : IntsF wq (fun k => F' k ∨ (x6.heap.size ≤ k ∧ k < wq.heap.size)) pe (revL M M) := fun j hj => by
            rw [revL_len] at hj
            obtain ⟨g, o, e1, e2, e3, e4⟩ := unhide XE j hj
            exact ⟨g, o, e1, .inr ⟨e2, by omega⟩, ((unhide XI).2.cell (p := ⟨g, o + j, none⟩) e3).trans e4⟩
          have S7 : IntsF wq (fun k => F' k ∨ (x6.heap.size ≤ k ∧ k < wq.heap.size)) ps (someL M l3) := fun j hj => by
            obtain ⟨g, o, e1, e2, e3, e4⟩ := hsm j hj
            exact ⟨g, o, e1, .inr ⟨by omega, e3⟩, e4⟩
          rw [← hFI] at E7 N7 L7 V7 S7
          have X7 := hide E7
          have XN := hide N7
          have XL := hide L7
          have XV := hide V7
          have XS := hide S7
          have hsl3 : (someL M l3).length ≤ 1048576 := by have := (unhide HMN).2; unfold someL; split <;> simp <;> omega
          obtain ⟨e1, e2⟩ := unhide HEV
          obtain ⟨e3, e4⟩ := unhide HSM
          have HE1 := hide e1
          have HE2 := hide e2
          have HE3 := hide e3
          have HE4 := hide e4
          have hor : ¬ k < N3 ∨ (k < N3 ∧ ¬ 0 < M) := by omega
          have hNL := unhide HNL
          have XNN := hide (show StrsF wq FI pn s0.now from unhide XN)
          clear hFI XI XE XB X6 XN6 XL6 hsm hso e1 e2 e3 e4 HEV HSM hkl hk HK0 XN
          rcases hor with hA | ⟨hA, hA2⟩
          all_goals
            go_wp2_with fail
            clear hA
            try clear hA2
            refine (crash3 (unhide X7) (by rw [unhide HPL]; omega) pe (revL M M) M ce (revL_len M M).symm ((unhide X7).ints (unhide XV)) (by rw [revL_len]; omega)).mono ?_
            rintro ev x8 ⟨rfl, hI8⟩
            rw [unhide HE1]
            rw [unhide HE2] at hI8
            have X8 := hide hI8.rot
            clear hI8 X7
            go_wp2_with fail
            refine (crash3 (unhide X8) (by rw [unhide HPL]; omega) none [] 0 0 rfl (Ints.nil _ _) (by simp)).mono ?_
            rintro ev x9 ⟨rfl, hI9⟩
            rw [(crash_nil _).1]
            rw [(crash_nil _).2, (unhide HL).1] at hI9
            have X9 := hide hI9.rot
            clear hI9 X8
            go_wp2_with fail
            refine (crash3 (unhide X9) (by rw [unhide HPL]; omega) ps (someL M l3) (someL M l3).length cs rfl ((unhide X9).ints (unhide XS)) (by omega)).mono ?_
            rintro ev x10 ⟨rfl, hI10⟩
            rw [unhide HE3]
            rw [unhide HE4] at hI10
            have X10 := hide hI10.rot
            clear hI10 X9
            have YN := hide ((unhide X10).strs (unhide XNN))
            have YL := hide ((unhide X10).strs (unhide XL))
            have YS := hide ((unhide X10).ints (unhide XS))
            clear XNN XL XS XV
            go_wp2_with fail
            refine (all3 (unhide X10) rfl).mono ?_
            rintro ev x11 ⟨pa, ca, rfl, hsa, hI11, hb11⟩
            have ZA := hide (show Strs x11 pa s0.now from hI11.strs hsa)
            have ZN := hide ((unhide YN).below hb11)
            have ZL := hide ((unhide YL).below hb11)
            have ZS := hide ((unhide YS).below hb11)
            rw [show (DSt.now { s0 with last := s0.now, now := s0.now, pend := [], fuse := 0, dead := false }).length = 128 from hNL]
            have X11 := hide hI11.rot
            clear hI11 hsa hb11 X10 YN YL YS
            go_wp2_with fail
            have hsme := same_any x11 pa pn ca cn s0.now (unhide ZA) (unhide ZN) (by omega)
            rw [hNL] at hsme
            refine hsme.mono ?_
            rintro ev x12 ⟨rfl, hb12⟩
            have X12 := hide ((unhide X11).below hb12)
            have YL := hide ((unhide ZL).below hb12)
            have YS := hide ((unhide ZS).below hb12)
            clear hb12 X11 ZA ZN ZL ZS hsme
            go_wp2_with fail
            refine (all3 (unhide X12) rfl).mono ?_
            rintro ev x13 ⟨pb, cb, rfl, hsa, hI13, hb13⟩
            have ZA := hide (show Strs x13 pb L from hI13.strs hsa)
            have ZL := hide ((unhide YL).below hb13)
            have ZS := hide ((unhide YS).below hb13)
            rw [show (DSt.now { s0 with last := L, now := L, pend := [], fuse := 0, dead := false }).length = 128 from (unhide HL).2]
            have X13 := hide hI13.rot
            clear hI13 hsa hb13 X12 YL YS
            go_wp2_with fail
            have hsme := same_any x13 pb pl cb cl L (unhide ZA) (unhide ZL) (by rw [(unhide HL).2]; omega)
            rw [(unhide HL).2] at hsme
            refine hsme.mono ?_
            rintro ev x14 ⟨rfl, hb14⟩
            have X14 := hide ((unhide X13).below hb14)
            have YL := hide ((unhide ZL).below hb14)
            have YS := hide ((unhide ZS).below hb14)
            clear hb14 X13 ZA ZL ZS hsme HE1 HE2 HE3 HE4
            go_wp2_with fail
            have XR := hide (fun (i : Nat) (hi : i < 128) => (show readE { s0 with last := FF, now := FF, pend := [], fuse := 0, dead := false } (i : Int) = 0 ∧ readT { s0 with last := FF, now := FF, pend := [], fuse := 0, dead := false } (i : Int) = FF.getD i ByteArray.empty from readB (s := { s0 with last := FF, now := FF, pend := [], fuse := 0, dead := false }) rfl i (by show i < FF.length; rw [unhide HFL]; exact hi)))
            go_loopw [21] (fun v wr => ∃ i : Nat, i ≤ 128 ∧ v = .int .i64 (i : Int) ∧ Below x14.heap.size x14 wr) (fun v _ => 128 - (intOf v).toNat)
            case atStart => exact ⟨0, by omega, rfl, Below.refl _ _⟩
            case round =>
              obtain ⟨i, hi, rfl, hb⟩ := hrel
              obtain ⟨wa, rfl⟩ : ∃ wo, wo = wr := ⟨_, rfl⟩
              have YB := hide hb
              clear hb
              by_cases hil : i < 128
              · have hone := unhide HONE i hil
                have HRR := hide (unhide XR i hil)
                obtain ⟨gl, ol, rfl, hgl, hcl⟩ := unhide YL i (by rw [(unhide HL).2]; exact hil)
                have cl1 : wa.cell? ⟨gl, ol + i, none⟩ = some (.string (L.getD i ByteArray.empty)) := by rw [(unhide YB).cell (p := ⟨gl, ol + i, none⟩) hgl]; exact hcl
                go_wp2_with fail
                refine (read3 ((unhide X14).below (unhide YB)) (i : Int)).mono ?_
                rintro ev y1 ⟨rfl, rfl⟩
                rw [(unhide HRR).1, (unhide HRR).2]
                have HONI := hide (show (FF.getD i ByteArray.empty = L.getD i ByteArray.empty) ∨ ∃ jw, 0 ≤ jw ∧ jw < M ∧ pickP (l2.getD jw 0) 128 = i ∧ FF.getD i ByteArray.empty = sectorB (1000 + (jw : Int)) by
                  rcases hone with h | ⟨jw, h1, h2, h3⟩
                  · exact .inl h
                  · exact .inr ⟨jw, Nat.zero_le _, h1, h2, h3⟩)
                clear hone HRR hcl
                generalize FF.getD i ByteArray.empty = R at *
                generalize L.getD i ByteArray.empty = Li at *
                obtain ⟨b0, hb0⟩ : ∃ b0, b0 = (R.toList == Li.toList) := ⟨_, rfl⟩
                have HB0 := hide hb0
                go_wp2
                rw [← hb0]
                clear hb0
                go_loopw [24, 25] (fun v u wr => ∃ (j : Nat) (bb : Bool), j ≤ M ∧ v = .bool bb ∧ u = .int .i64 (j : Int) ∧ (bb = true ∨ ∃ jw, j ≤ jw ∧ jw < M ∧ pickP (l2.getD jw 0) 128 = i ∧ R = sectorB (1000 + (jw : Int))) ∧ Below x14.heap.size x14 wr) (fun _ u _ => M - (intOf u).toNat)
                case atStart =>
                  refine ⟨0, b0, by omega, rfl, rfl, ?_, unhide YB⟩
                  rcases unhide HONI with h | h
                  · exact .inl (by rw [unhide HB0, h]; simp)
                  · exact .inr h
                case round =>
                  obtain ⟨j, bb, hj, rfl, rfl, hor, hb⟩ := hrel
                  obtain ⟨wb, rfl⟩ : ∃ wo, wo = wr := ⟨_, rfl⟩
                  have ZB := hide hb
                  have HOR := hide hor
                  clear hb hor HB0
                  by_cases hjl : j < M
                  · cases bb with
                    | true =>
                      go_wp2
                      go_roundw
                      case rel => exact ⟨j + 1, true, by omega, rfl, by go_num, .inl rfl, unhide ZB⟩
                      case measure => simp [intOf]; omega
                    | false =>
                      have hsz14 := (unhide X14).bel.size
                      obtain ⟨g, o, rfl, hg, hc⟩ := unhide H2 j (by rw [(unhide HMN).1]; exact hjl)
                      have ck : wb.cell? ⟨g, o + j, none⟩ = some (.int .i64 (l2.getD j 0)) := by
                        rw [(unhide ZB).cell (p := ⟨g, o + j, none⟩) (by show g < x14.heap.size; omega), (unhide X14).bel.cell (p := ⟨g, o + j, none⟩) hg]
                        exact hc
                      have hz : I64 (l2.getD j 0) := unhide B2 _ (by have := (unhide HMN).1; rw [List.getD_eq_getElem?_getD, List.getElem?_eq_getElem (by omega)]; exact List.getElem_mem _)
                      have HPK := hide (fun W => pick_c (l2.getD j 0) 128 (by decide) hz 128 rfl W)
                      have HSE := hide (fun W => sector_any (1000 + (j : Int)) W)
                      have hwr : IntKind.i64.wrap (1000 + (j : Int)) = 1000 + (j : Int) := wrapI_eq _ (by omega) (by omega)
                      have HOR2 := hide (show ¬ (pickP (l2.getD j 0) 128 = i ∧ R = sectorB (1000 + (j : Int))) → ∃ jw, j + 1 ≤ jw ∧ jw < M ∧ pickP (l2.getD jw 0) 128 = i ∧ R = sectorB (1000 + (jw : Int)) from fun hn => by
                        rcases unhide HOR with h | ⟨jw, h1, h2, h3, h4⟩
                        · cases h
                        · refine ⟨jw, ?_, h2, h3, h4⟩
                          rcases Nat.eq_or_lt_of_le h1 with h | h
                          · subst h; exact absurd ⟨h3, h4⟩ hn
                          · exact h)
                      generalize hpq : pickP (l2.getD j 0) 128 = q at *
                      generalize hTT : sectorB (1000 + (j : Int)) = T at *
                      generalize l2.getD j 0 = z at *
                      clear hc hz HOR hpq hTT
                      go_wp2_with fail
                      refine (unhide HPK _).mono ?_
                      rintro ev y1 ⟨rfl, rfl⟩
                      clear HPK
                      by_cases hqi : q = i
                      · subst hqi
                        go_wp2_with fail
                        refine (unhide HSE _).mono ?_
                        rintro ev y2 ⟨rfl, hb2⟩
                        have ZB2 := hide ((unhide ZB).trans (hb2.mono (unhide ZB).size))
                        clear hb2 HSE
                        by_cases hRT : R = T
                        · subst hRT
                          go_wp2
                          go_roundw
                          case rel => exact ⟨j + 1, true, by omega, by simp, by go_num, .inl rfl, unhide ZB2⟩
                          case measure => simp [intOf]; omega
                        · have hq2 := str_ne hRT
                          have HRT := hide hRT
                          clear hRT
                          go_wp2
                          go_roundw
                          case rel => exact ⟨j + 1, false, by omega, rfl, by go_num, .inr (unhide HOR2 (fun h => unhide HRT h.2)), unhide ZB2⟩
                          case measure => simp [intOf]; omega
                      · have HQI := hide hqi
                        have hqe : ((q : Int) == (i : Int)) = false := by rw [beq_eq_false_iff_ne]; omega
                        go_wp2
                        go_roundw
                        case rel => exact ⟨j + 1, false, by omega, rfl, by go_num, .inr (unhide HOR2 (fun h => unhide HQI h.1)), unhide ZB⟩
                        case measure => simp [intOf]; omega
                  · have hbt : bb = true := by
                      rcases unhide HOR with h | ⟨jw, h1, h2, _⟩
                      · exact h
                      · omega
                    subst hbt
                    clear HOR
                    go_wp2
                    go_roundw
                    case rel => exact ⟨i + 1, by omega, by go_num, unhide ZB⟩
                    case measure => simp [intOf]; omega
              · have hsz14 := (unhide X14).bel.size
                have HOK := hide (fun (k : Nat) (hk : k < (someL M l3).length) => (show ∃ a : Nat, (someL M l3).getD k 0 = (a : Int) ∧ a < M ∧ (a : Int) ∈ someL M l3 from by
                  have hm : (someL M l3).getD k 0 ∈ someL M l3 := by rw [List.getD_eq_getElem?_getD, List.getElem?_eq_getElem hk]; exact List.getElem_mem _
                  have ho := someL_ok M l3 _ hm
                  obtain ⟨a, ha⟩ := Int.eq_ofNat_of_zero_le ho.1
                  exact ⟨a, ha, by have := ho.2; omega, by rw [← ha]; exact hm⟩))
                have HIDX := hide (fun (b : Nat) (hb : (b : Int) ∈ someL M l3) => (show ∃ k, k < (someL M l3).length ∧ (someL M l3).getD k 0 = (b : Int) from by
                  obtain ⟨k, hk, e⟩ := List.getElem_of_mem hb
                  exact ⟨k, hk, by rw [List.getD_eq_getElem?_getD, List.getElem?_eq_getElem hk]; exact e⟩))
                generalize someL M l3 = SL at *
                have HLT := hide (fun (a : Nat) (ha : a < M) (W : World) (hW : Below x14.heap.size x14 W) => (show ∃ g o, p2 = some ⟨g, o, none⟩ ∧ W.cell? ⟨g, o + a, none⟩ = some (.int .i64 (l2.getD a 0)) ∧ I64 (l2.getD a 0) from by
                  obtain ⟨g, o, e1, hg, hc⟩ := unhide H2 a (by rw [(unhide HMN).1]; exact ha)
                  refine ⟨g, o, e1, ?_, unhide B2 _ (by have := (unhide HMN).1; rw [List.getD_eq_getElem?_getD, List.getElem?_eq_getElem (by omega)]; exact List.getElem_mem _)⟩
                  rw [hW.cell (p := ⟨g, o + a, none⟩) (by show g < x14.heap.size; omega), (unhide X14).bel.cell (p := ⟨g, o + a, none⟩) hg]
                  exact hc))
                have HSC := hide (fun (k : Nat) (hk : k < SL.length) (W : World) (hW : Below x14.heap.size x14 W) => (show ∃ g o, ps = some ⟨g, o, none⟩ ∧ W.cell? ⟨g, o + k, none⟩ = some (.int .i64 (SL.getD k 0)) from by
                  obtain ⟨g, o, e1, hg, hc⟩ := unhide YS k hk
                  exact ⟨g, o, e1, (hW.cell (p := ⟨g, o + k, none⟩) hg).trans hc⟩))
                clear hi HONE YL
                go_wp2
                clear hil
                go_loopw [26] (fun v wr => ∃ k : Nat, k ≤ SL.length ∧ v = .int .i64 (k : Int) ∧ Below x14.heap.size x14 wr) (fun v _ => SL.length - (intOf v).toNat)
                case atStart => exact ⟨0, by omega, rfl, unhide YB⟩
                case round =>
                  obtain ⟨k, hk, rfl, hb⟩ := hrel
                  obtain ⟨wb, rfl⟩ : ∃ wo, wo = wr := ⟨_, rfl⟩
                  have ZB := hide hb
                  clear hb YB
                  by_cases hkl : k < SL.length
                  · obtain ⟨a, hak, haM, hain⟩ := unhide HOK k hkl
                    obtain ⟨gs, os, e1, hc1⟩ := unhide HSC k hkl wb (unhide ZB)
                    obtain ⟨g, o, e2, hc2, hz⟩ := unhide HLT a haM wb (unhide ZB)
                    subst e1 e2
                    rw [hak] at hc1
                    have HPK := hide (fun W => pick_c (l2.getD a 0) 128 (by decide) hz 128 rfl W)
                    have lp := pickP_lt (l2.getD a 0) 128 (by decide)
                    have HIN := hide (And.intro hain (show pickP (l2.getD a 0) 128 = pickP (l2.getD a 0) 128 from rfl))
                    obtain ⟨at1, hat1⟩ : ∃ at1, at1 = pickP (l2.getD a 0) 128 := ⟨_, rfl⟩
                    rw [← hat1] at HPK lp
                    have HAT := hide hat1
                    have HAIN := hide hain
                    clear hat1 hain hak HIN hz
                    generalize hzz : l2.getD a 0 = z at *
                    have HZZ := hide hzz
                    clear hzz
                    have HA2 := hide (unhide HOK k hkl)
                    go_wp2_with fail
                    refine (unhide HPK _).mono ?_
                    rintro ev y1 ⟨rfl, rfl⟩
                    clear HPK hc2
                    go_wp2
                    go_loopw [28, 29] (fun v u wr => ∃ (lst j : Nat), j ≤ SL.length ∧ v = .int .i64 (lst : Int) ∧ u = .int .i64 (j : Int) ∧ lst < M ∧ (lst : Int) ∈ SL ∧ pickP (l2.getD lst 0) 128 = at1 ∧ (∀ j', j' < j → ∀ b : Nat, SL.getD j' 0 = (b : Int) → b ≤ lst ∨ pickP (l2.getD b 0) 128 ≠ at1) ∧ Below x14.heap.size x14 wr) (fun _ u _ => SL.length - (intOf u).toNat)
                    case atStart => exact ⟨a, 0, by omega, rfl, rfl, haM, unhide HAIN, by rw [unhide HZZ, unhide HAT], fun j' hj' => absurd hj' (by omega), unhide ZB⟩
                    case round =>
                      obtain ⟨lst, j, hj, rfl, rfl, hlM, hlin, hlat, hall, hb⟩ := hrel
                      obtain ⟨wc, rfl⟩ : ∃ wo, wo = wr := ⟨_, rfl⟩
                      have WB := hide hb
                      have HIN := hide (And.intro hlin (And.intro hlat hall))
                      clear hb hlin hlat hall hc1 HAIN HZZ
                      by_cases hjl : j < SL.length
                      · obtain ⟨b, hbj, hbM, hbin⟩ := unhide HOK j hjl
                        obtain ⟨gs2, os2, e1, hc1⟩ := unhide HSC j hjl wc (unhide WB)
                        obtain ⟨g2, o2, e2, hc2, hz⟩ := unhide HLT b hbM wc (unhide WB)
                        simp only [Option.some.injEq, Addr.mk.injEq] at e1 e2
                        obtain ⟨rfl, rfl, _⟩ := e1
                        obtain ⟨rfl, rfl, _⟩ := e2
                        rw [hbj] at hc1
                        have HBB := hide (And.intro hbj hbin)
                        have HPK := hide (fun W => pick_c (l2.getD b 0) 128 (by decide) hz 128 rfl W)
                        obtain ⟨q, hq⟩ : ∃ q, q = pickP (l2.getD b 0) 128 := ⟨_, rfl⟩
                        rw [← hq] at HPK
                        have HQ := hide hq
                        clear hbj hbin hz hq
                        generalize l2.getD b 0 = zb at hc2 HPK
                        by_cases hgt : lst < b
                        · go_wp2_with fail
                          refine (unhide HPK _).mono ?_
                          rintro ev y2 ⟨rfl, rfl⟩
                          clear HPK
                          by_cases hqa : q = at1
                          · subst hqa
                            go_wp2
                            go_roundw
                            case rel =>
                              refine ⟨b, j + 1, by omega, rfl, by go_num, hbM, (unhide HBB).2, (unhide HQ).symm, fun j' hj' b' hb' => ?_, unhide WB⟩
                              rcases Nat.lt_or_ge j' j with h | h
                              · rcases (unhide HIN).2.2 j' h b' hb' with h2 | h2
                                · exact .inl (by omega)
                                · exact .inr h2
                              · have : j' = j := by omega
                                subst this
                                have := (unhide HBB).1
                                exact .inl (by omega)
                            case measure => simp [intOf]; omega
                          · have hqe : ((q : Int) == (at1 : Int)) = false := by rw [beq_eq_false_iff_ne]; omega
                            have HQA := hide hqa
                            go_wp2
                            go_roundw
                            case rel =>
                              refine ⟨lst, j + 1, by omega, rfl, by go_num, hlM, (unhide HIN).1, (unhide HIN).2.1, fun j' hj' b' hb' => ?_, unhide WB⟩
                              rcases Nat.lt_or_ge j' j with h | h
                              · exact (unhide HIN).2.2 j' h b' hb'
                              · have : j' = j := by omega
                                subst this
                                have hbb := (unhide HBB).1
                                obtain rfl : b' = b := by omega
                                exact .inr (by rw [← unhide HQ]; exact unhide HQA)
                            case measure => simp [intOf]; omega
                        · go_wp2
                          go_roundw
                          case rel =>
                            refine ⟨lst, j + 1, by omega, rfl, by go_num, hlM, (unhide HIN).1, (unhide HIN).2.1, fun j' hj' b' hb' => ?_, unhide WB⟩
                            rcases Nat.lt_or_ge j' j with h | h
                            · exact (unhide HIN).2.2 j' h b' hb'
                            · have : j' = j := by omega
                              subst this
                              have hbb := (unhide HBB).1
                              exact .inl (by omega)
                          case measure => simp [intOf]; omega
                      · have HFF := hide (show FF.getD at1 ByteArray.empty = sectorB (1000 + (lst : Int)) from by
                          rw [← (unhide HIN).2.1]
                          refine unhide HLAST lst hlM (unhide HIN).1 (fun b hb hlb => ?_)
                          obtain ⟨k', hk', ek'⟩ := unhide HIDX b hb
                          rcases (unhide HIN).2.2 k' (by omega) b ek' with h | h
                          · omega
                          · rw [(unhide HIN).2.1]; exact h)
                        have HRR := hide (unhide XR at1 lp)
                        have HSE := hide (fun W => sector_any (1000 + (lst : Int)) W)
                        have hwr : IntKind.i64.wrap (1000 + (lst : Int)) = 1000 + (lst : Int) := wrapI_eq _ (by omega) (by omega)
                        clear HIN
                        go_wp2_with fail
                        refine (read3 ((unhide X14).below (unhide WB)) (at1 : Int)).mono ?_
                        rintro ev y2 ⟨rfl, rfl⟩
                        rw [(unhide HRR).1, (unhide HRR).2, unhide HFF]
                        generalize sectorB (1000 + (lst : Int)) = T at *
                        clear HRR HFF
                        go_wp2_with fail
                        refine (unhide HSE _).mono ?_
                        rintro ev y3 ⟨rfl, hb3⟩
                        have WB3 := hide ((unhide WB).trans (hb3.mono (unhide WB).size))
                        clear hb3 HSE
                        go_wp2
                        go_roundw
                        case rel => exact ⟨k + 1, by omega, by go_num, unhide WB3⟩
                        case measure => simp [intOf]; omega
                  · have X15 := hide ((unhide X14).below (unhide ZB))
                    go_wp2_with fail
                    refine (pending3 (unhide X15)).mono ?_
                    rintro ev y1 ⟨rfl, rfl⟩
                    rw [show (DSt.pend { s0 with last := FF, now := FF, pend := [], fuse := 0, dead := false }).length = 0 from rfl]
                    go_wp2_with fail
                    refine (pending3 (unhide X15).rot).mono ?_
                    rintro ev y2 ⟨rfl, rfl⟩
                    rw [show (DSt.pend { s0 with last := s0.now, now := s0.now, pend := [], fuse := 0, dead := false }).length = 0 from rfl]
                    go_wp2_with fail
                    refine (pending3 (unhide X15).rot.rot).mono ?_
                    rintro ev y3 ⟨rfl, rfl⟩
                    rw [show (DSt.pend { s0 with last := L, now := L, pend := [], fuse := 0, dead := false }).length = 0 from rfl]
                    go_wp2
                    go_ret
                    exact ⟨rfl, (unhide X15).bel⟩
end Go.Proofs.Ytaedoagcbkgmbaa
