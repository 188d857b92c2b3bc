import Derived.Test.YtaedoagcbkgmbaaFil
namespace Go.Proofs.Ytaedoagcbkgmbaa
open Go.RowKit
/-- A disk that dies at the D-th act, ahead of the i-th one; before it was armed it had done B. -/
structure StD (D B i : Nat) (s : DSt) : Prop where
  len : s.last.length = 128
  same : s.now.length = 128
  pend : s.pend.length ≤ i
  acts : s.acts.length = B + min (i - 1) (D - 1)
  fuse : s.fuse = ((D + 1 - i : Nat) : Int)
  dead : s.dead = decide (D < i)
theorem StD.dies {D B i : Nat} {s : DSt} (h : StD D B i s) : (diesS s).fuse = ((D + 1 - (i + 1) : Nat) : Int) ∧ (diesS s).dead = decide (D < i + 1) := by
  have hf := h.fuse
  have hd := h.dead
  rw [diesS]
  by_cases h0 : 0 < s.fuse
  · rw [if_pos h0]
    refine ⟨by show s.fuse - 1 = _; omega, ?_⟩
    show decide (s.fuse = 1) = _
    by_cases e : s.fuse = 1
    · rw [decide_eq_true e, decide_eq_true (show D < i + 1 by omega)]
    · rw [decide_eq_false e, decide_eq_false (show ¬ D < i + 1 by omega)]
  · rw [if_neg h0]
    refine ⟨by omega, ?_⟩
    rw [hd]
    by_cases e : D < i
    · rw [decide_eq_true e, decide_eq_true (show D < i + 1 by omega)]
    · exfalso; omega
theorem StD.write {D B i : Nat} {s : DSt} (h : StD D B i s) (h1 : 1 ≤ i) (h12 : i ≤ 12) (hD : 1 ≤ D) (t : ByteArray) (ht : t.size = 256) : writeE s (i : Int) t = (if D ≤ i then 2 else 0) ∧ StD D B (i + 1) (writeS s (i : Int) t) := by
  have hi : isOk s (i : Int) := ⟨by omega, by rw [h.len]; omega⟩
  obtain ⟨g1, g2⟩ := h.dies
  rw [writeE, writeS, if_pos hi, if_pos hi, if_pos ht, if_pos ht]
  have hacts := h.acts
  have hpend := h.pend
  by_cases e : D ≤ i
  · have hd : (diesS s).dead = true := by rw [g2]; exact decide_eq_true (by omega)
    rw [if_pos hd, if_pos hd, if_pos e]
    exact ⟨rfl, by rw [diesS_last]; exact h.len, by rw [diesS_now]; exact h.same, by rw [diesS_pend]; omega, by rw [diesS_acts, h.acts]; omega, g1, g2⟩
  · have hd : ¬ (diesS s).dead = true := by rw [g2]; simp; omega
    rw [if_neg hd, if_neg hd, if_neg e]
    refine ⟨rfl, ?_, ?_, ?_, ?_, g1, g2⟩
    · show (diesS s).last.length = 128; rw [diesS_last]; exact h.len
    · show (s.now.set _ t).length = 128; rw [List.length_set]; exact h.same
    · show (s.pend ++ [_]).length ≤ i + 1; simp; omega
    · show (s.acts ++ [_]).length = _; simp; omega
theorem StD.flush {D B i : Nat} {s : DSt} (h : StD D B i s) (h1 : 1 ≤ i) (hD : 1 ≤ D) : flushE s = (if D ≤ i then 2 else 0) ∧ StD D B (i + 1) (flushS s) := by
  obtain ⟨g1, g2⟩ := h.dies
  rw [flushE, flushS]
  have hacts := h.acts
  have hpend := h.pend
  by_cases e : D ≤ i
  · have hd : (diesS s).dead = true := by rw [g2]; exact decide_eq_true (by omega)
    rw [if_pos hd, if_pos hd, if_pos e]
    exact ⟨rfl, by rw [diesS_last]; exact h.len, by rw [diesS_now]; exact h.same, by rw [diesS_pend]; omega, by rw [diesS_acts, h.acts]; omega, g1, g2⟩
  · have hd : ¬ (diesS s).dead = true := by rw [g2]; simp; omega
    rw [if_neg hd, if_neg hd, if_neg e]
    refine ⟨rfl, ?_, ?_, ?_, ?_, g1, g2⟩
    · show (layP s.last s.pend).length = 128; rw [layP_len]; exact h.len
    · show (diesS s).now.length = 128; rw [diesS_now]; exact h.same
    · show 0 ≤ i + 1; omega
    · show (s.acts ++ [_]).length = _; simp; omega
theorem after_states (s : DSt) (D B : Nat) (hD : 1 ≤ D) (hD2 : D ≤ 12) (h : StD D B 13 s) (T : ByteArray) (hT : T.size = 256) :
    ∃ s2 s3 s4 s5 s6, readE s 0 = 2 ∧ s.acts.length = B + D - 1 ∧ armE s 1 = 2 ∧ armS s 1 = s ∧ s.pend.length ≤ 13 ∧ crashE s [] = 0 ∧ crashS s [] = s2 ∧ armE s2 1 = 0 ∧ armS s2 1 = s3 ∧ armE s3 0 = 0 ∧ armS s3 0 = s4
      ∧ writeE s4 3 T = 0 ∧ writeS s4 3 T = s5 ∧ flushE s5 = 0 ∧ flushS s5 = s6 ∧ readE s6 3 = 0 ∧ readT s6 3 = T ∧ s6.dead = false ∧ s6.acts.length = B + D + 1 ∧ s4.pend.length ≤ 10 ∧ s5.pend.length ≤ 10 ∧ s4.acts.length = B + D - 1 ∧ s5.acts.length = B + D := by
  have hacts := h.acts
  have hd : s.dead = true := by rw [h.dead]; exact decide_eq_true (by omega)
  have hi : isOk s 0 := ⟨by omega, by rw [h.len]; omega⟩
  obtain ⟨c1, c2⟩ := crash_nil s
  have hl := h.len
  obtain ⟨a1, a2⟩ := writeA (s := { s with last := s.last, now := s.last, pend := [], fuse := 0, dead := false }) ⟨rfl, rfl⟩ 3 (by show 3 < s.last.length; omega) T hT
  obtain ⟨b1, b2⟩ := flushA (s := { s with last := s.last, now := s.last.set 3 T, pend := [(3, T)], acts := s.acts ++ [(0, 3)], fuse := 0, dead := false }) ⟨rfl, rfl⟩
  obtain ⟨d1, d2⟩ := readA (s := { s with last := s.last.set 3 T, now := s.last.set 3 T, pend := [], acts := s.acts ++ [(0, 3)] ++ [(1, 0)], fuse := 0, dead := false }) ⟨rfl, rfl⟩ 3 (by show 3 < (s.last.set 3 T).length; rw [List.length_set]; omega)
  refine ⟨_, _, _, _, _, ?_, by omega, ?_, ?_, h.pend, c1, c2, rfl, rfl, rfl, rfl, a1, a2, b1, b2, d1, ?_, rfl, ?_, ?_, ?_, ?_, ?_⟩
  · rw [readE, if_pos hi, if_pos hd]
  · rw [armE, if_neg (by decide), if_pos hd]
  · rw [armS, if_neg (by decide), if_pos hd]
  · exact d2.trans (getD_set_same s.last 3 T (by omega))
  · show (s.acts ++ [(0, 3)] ++ [(1, 0)]).length = _
    simp
    omega
  · show 0 ≤ 10
    omega
  · show 1 ≤ 10
    omega
  · show s.acts.length = _
    omega
  · show (s.acts ++ [(0, 3)]).length = _
    simp
    omega
theorem filled_armed (l1 : List Int) (D : Nat) (hD : 1 ≤ D) (hD2 : D ≤ 12) : armE (filledS l1 []) (D : Int) = 0 ∧ StD D (l1.length + 1) 1 (armS (filledS l1 []) (D : Int)) ∧ (filledS l1 []).acts.length = l1.length + 1 := by
  have ha : (filledS l1 []).acts.length = l1.length + 1 := by
    show ((wacts (wlist 0 l1) ++ [(1, 0)]) ++ wacts (wlist 1000 [])).length = _
    simp [wacts, wlist_len]
  have hn : ¬ (D : Int) < 0 := by omega
  have hd : ¬ (filledS l1 []).dead = true := by show ¬ false = true; decide
  rw [armE, armS, if_neg hn, if_neg hn, if_neg hd, if_neg hd]
  refine ⟨rfl, ⟨baseL_len l1, ?_, ?_, ?_, ?_, ?_⟩, ha⟩
  · show (layP (baseL l1) _).length = 128
    rw [layP_len]
    exact baseL_len l1
  · show (wlist 1000 []).length ≤ 1
    rw [wlist_len]
    simp
  · show (filledS l1 []).acts.length = _
    rw [ha]
    omega
  · show (D : Int) = _
    omega
  · show false = decide (D < 1)
    exact (decide_eq_false (by omega)).symm
theorem shr_I64 (x : Int) (hx : I64 x) (k : Nat) (h1 : 1 ≤ k) (h12 : k ≤ 12) : I64 (x / 2 ^ k) := by
  obtain ⟨a, c⟩ := hx
  have h : k = 1 ∨ k = 2 ∨ k = 3 ∨ k = 4 ∨ k = 5 ∨ k = 6 ∨ k = 7 ∨ k = 8 ∨ k = 9 ∨ k = 10 ∨ k = 11 ∨ k = 12 := by omega
  rcases h with h | h | h | h | h | h | h | h | h | h | h | h <;> subst h <;> simp [I64] <;> omega
set_option maxRecDepth 100000 in
set_option maxHeartbeats 8000000 in
theorem dies_walk (p1 : Option Addr) (c1 : Nat) (l1 : List Int) (n writes : Int) (hn : I64 n) (hw : I64 writes) (w : World) (h1 : Ints w p1 l1) (b1 : ∀ z ∈ l1, I64 z) (n1 : l1.length ≤ 1048576) :
    Calls Try.prog 3 #[.slice p1 l1.length c1, .int .i64 n, .int .i64 writes] w fun e w' => e = .returned (.bool true) ∧ Below w.heap.size w w' := by
  have F1 := hide (filled_any w p1 c1 l1 none 0 [] h1 (Ints.nil _ _) b1 (fun z hz => by cases hz) n1 (by simp))
  have HWR := hide hw
  clear hw
  have lq := pickP_lt n 12 (by decide)
  have lq9 := pickP_lt n 9 (by decide)
  have HP := hide (fun W => pick_c n 12 (by decide) hn 12 rfl W)
  have HP9 := hide (fun W => pick_c n 9 (by decide) hn 9 rfl W)
  generalize pickP n 12 = q at *
  generalize pickP n 9 = q9 at *
  obtain ⟨fa, fs, fl⟩ := filled_armed l1 (q + 1) (by omega) (by omega)
  have HF := hide (And.intro fa fs)
  have HFL := hide fl
  have hfp : (filledS l1 []).pend.length = 0 := by show (wlist 1000 []).length = 0; rw [wlist_len]; rfl
  have HFP := hide hfp
  generalize filledS l1 [] = s0 at *
  generalize hN : l1.length = N at *
  have HN := hide hN
  clear hN h1 b1 fa fs fl hfp hn
  go_enter Try.func3, Try.ntmps3
  go_wp2_with fail
  refine (unhide F1).mono ?_
  rintro ev x1 ⟨b, rfl, hI1⟩
  have X1 := hide hI1
  clear hI1 F1
  go_wp2_with fail
  refine (traceD (unhide X1) (by rw [unhide HFL]; omega)).mono ?_
  rintro ev x2 ⟨rfl, _, hI2, _⟩
  rw [unhide HFL]
  have X2 := hide hI2
  clear hI2 X1
  go_wp2_with fail
  refine (unhide HP _).mono ?_
  rintro ev x3 ⟨rfl, rfl⟩
  obtain ⟨D, hD⟩ : ∃ D, D = q + 1 := ⟨_, rfl⟩
  rw [← hD] at HF
  have hw1 : IntKind.i64.wrap (1 + (q : Int)) = 1 + (q : Int) := wrapI_eq _ (by omega) (by omega)
  have HD := hide hD
  clear hD
  go_wp2_with fail
  rw [show 1 + (q : Int) = (D : Int) by have := unhide HD; omega]
  have hD1 : 1 ≤ D := by have := unhide HD; omega
  have hD2 : D ≤ 12 := by have := unhide HD; omega
  clear hw1 HD lq HP
  refine (armD (unhide X2) (D : Int) (by omega)).mono ?_
  rintro ev x4 ⟨rfl, hI4⟩
  rw [(unhide HF).1]
  have X4 := hide hI4
  have HS := hide (unhide HF).2
  clear hI4 X2 HF
  generalize armS s0 (D : Int) = s1 at *
  clear HFL HFP
  go_wp2_with fail
  refine (unhide HP9 _).mono ?_
  rintro ev x5 ⟨rfl, rfl⟩
  clear HP9
  have hw9 : IntKind.i64.wrap (-1 - (q9 : Int)) = -1 - (q9 : Int) := wrapI_eq _ (by omega) (by omega)
  go_wp2_with fail
  refine (armD (unhide X4) (-1 - (q9 : Int)) (by omega)).mono ?_
  rintro ev x6 ⟨rfl, hI6⟩
  rw [armS, if_pos (by omega)] at hI6
  rw [armE, if_pos (by omega)]
  have X6 := hide hI6
  clear hI6 X4 hw9
  go_wp2
  go_loopw [11] (fun i wr => ∃ (k : Nat) (s : DSt), 1 ≤ k ∧ k ≤ 13 ∧ i = .int .i64 (k : Int) ∧ DI w wr b s ∧ StD D (N + 1) k s) (fun i _ => 13 - (intOf i).toNat)
  case atStart => exact ⟨1, s1, by omega, by omega, rfl, unhide X6, unhide HS⟩
  case round =>
    obtain ⟨k, s, hk1, hk13, rfl, hI, hS⟩ := hrel
    obtain ⟨wo, rfl⟩ : ∃ wo, wo = wr := ⟨_, rfl⟩
    have XI := hide hI
    have XS := hide hS
    have hpl := hS.pend
    have hal : s.acts.length ≤ 3000000 := by have := hS.acts; omega
    clear hI hS X6 HS
    by_cases hk12 : k ≤ 12
    · have hsh := shr_I64 writes (unhide HWR) k hk1 hk12
      have lr := pickP_lt (writes / 2 ^ k) 2 (by decide)
      have HPR := hide (fun W => pick_c (writes / 2 ^ k) 2 (by decide) hsh 2 rfl W)
      generalize pickP (writes / 2 ^ k) 2 = r at *
      clear hsh
      go_wp2_with fail
      refine (unhide HPR _).mono ?_
      rintro ev y1 ⟨rfl, rfl⟩
      clear HPR
      by_cases hr : r = 1
      · subst hr
        obtain ⟨g1, g2⟩ := (unhide XS).flush hk1 hD1
        have HG := hide g1
        have HS2 := hide g2
        clear g1 g2
        go_wp2_with fail
        refine (flushD (unhide XI) (by omega) (by omega)).mono ?_
        rintro ev y2 ⟨rfl, hI2⟩
        rw [unhide HG]
        have Y := hide hI2
        clear hI2 XI XS HG hpl hal
        by_cases hdk : D ≤ k
        · rw [if_pos hdk]
          go_wp2_with fail
          refine (deadD (unhide Y)).mono ?_
          rintro ev y9 ⟨rfl, rfl⟩
          rw [(unhide HS2).dead]
          rw [show decide (D < k + 1) = true from decide_eq_true (by omega)]
          go_wp2
          go_roundw
          case rel => exact ⟨k + 1, _, by omega, by omega, by go_num, unhide Y, unhide HS2⟩
          case measure => simp [intOf]; omega
        · rw [if_neg hdk]
          go_wp2_with fail
          refine (deadD (unhide Y)).mono ?_
          rintro ev y9 ⟨rfl, rfl⟩
          rw [(unhide HS2).dead]
          rw [show decide (D < k + 1) = false from decide_eq_false (by omega)]
          go_wp2
          go_roundw
          case rel => exact ⟨k + 1, _, by omega, by omega, by go_num, unhide Y, unhide HS2⟩
          case measure => simp [intOf]; omega
      · have hr0 : r = 0 := by omega
        subst hr0
        have hts := sectorB_size (k : Int)
        have HSE := hide (fun W => sector_any (k : Int) W)
        generalize sectorB (k : Int) = T at *
        obtain ⟨g1, g2⟩ := (unhide XS).write hk1 hk12 hD1 T hts
        have HG := hide g1
        have HS2 := hide g2
        clear g1 g2 hts hr
        go_wp2_with fail
        refine (unhide HSE _).mono ?_
        rintro ev y2 ⟨rfl, hb2⟩
        have Y2 := hide ((unhide XI).below hb2)
        clear hb2 XI HSE
        go_wp2_with fail
        refine (writeD (unhide Y2) (by omega) (by omega) (k : Int) T).mono ?_
        rintro ev y3 ⟨rfl, hI2⟩
        rw [unhide HG]
        have Y := hide hI2
        clear hI2 Y2 XS HG hpl hal
        by_cases hdk : D ≤ k
        · rw [if_pos hdk]
          go_wp2_with fail
          refine (deadD (unhide Y)).mono ?_
          rintro ev y9 ⟨rfl, rfl⟩
          rw [(unhide HS2).dead]
          rw [show decide (D < k + 1) = true from decide_eq_true (by omega)]
          go_wp2
          go_roundw
          case rel => exact ⟨k + 1, _, by omega, by omega, by go_num, unhide Y, unhide HS2⟩
          case measure => simp [intOf]; omega
        · rw [if_neg hdk]
          go_wp2_with fail
          refine (deadD (unhide Y)).mono ?_
          rintro ev y9 ⟨rfl, rfl⟩
          rw [(unhide HS2).dead]
          rw [show decide (D < k + 1) = false from decide_eq_false (by omega)]
          go_wp2
          go_roundw
          case rel => exact ⟨k + 1, _, by omega, by omega, by go_num, unhide Y, unhide HS2⟩
          case measure => simp [intOf]; omega
    · have hk' : k = 13 := by omega
      subst hk'
      have hts := sectorB_size 3
      have HSE := hide (fun W => sector_any 3 W)
      generalize sectorB 3 = T at *
      obtain ⟨s2, s3, s4, s5, s6, a1, a2, a3, a4, a5, a6, a7, a8, a9, a10, a11, a12, a13, a14, a15, a16, a17, a18, a19, a20, a21, a22, a23⟩ := after_states s D (N + 1) hD1 hD2 (unhide XS) T hts
      have A1 := hide a1
      have A2 := hide a2
      have A3 := hide a3
      have A4 := hide a4
      have A6 := hide a6
      have A7 := hide a7
      have A8 := hide a8
      have A9 := hide a9
      have A10 := hide a10
      have A11 := hide a11
      have A12 := hide a12
      have A13 := hide a13
      have A14 := hide a14
      have A15 := hide a15
      have A16 := hide a16
      have A17 := hide a17
      have A18 := hide a18
      have A19 := hide a19
      have A20 := hide a20
      have A21 := hide a21
      have A22 := hide a22
      have A23 := hide a23
      clear a1 a2 a3 a4 a6 a7 a8 a9 a10 a11 a12 a13 a14 a15 a16 a17 a18 a19 a20 a21 a22 a23 hts hk12 hk13 hk1 hpl XS
      go_wp2_with fail
      refine (readD (unhide XI) 0).mono ?_
      rintro ev y1 ⟨rfl, rfl⟩
      rw [unhide A1]
      generalize readT s 0 = RT
      go_wp2_with fail
      refine (traceD (unhide XI) (by omega)).mono ?_
      rintro ev y2 ⟨rfl, _, hI2, _⟩
      rw [unhide A2]
      have Y2 := hide hI2
      clear hI2 XI
      go_wp2_with fail
      refine (armD (unhide Y2) 1 (by decide)).mono ?_
      rintro ev y3 ⟨rfl, hI3⟩
      rw [unhide A3]
      rw [unhide A4] at hI3
      have Y3 := hide hI3
      clear hI3 Y2 A3 A4
      go_wp2_with fail
      refine (crashD (unhide Y3) (by omega) none [] 0 0 rfl (Ints.nil _ _) (by simp)).mono ?_
      rintro ev y4 ⟨rfl, hI4⟩
      rw [unhide A6]
      rw [unhide A7] at hI4
      have Y4 := hide hI4
      clear hI4 Y3 A6 A7
      go_wp2_with fail
      refine (armD (unhide Y4) 1 (by decide)).mono ?_
      rintro ev y5 ⟨rfl, hI5⟩
      rw [unhide A8]
      rw [unhide A9] at hI5
      have Y5 := hide hI5
      clear hI5 Y4 A8 A9
      go_wp2_with fail
      refine (armD (unhide Y5) 0 (by decide)).mono ?_
      rintro ev y6 ⟨rfl, hI6⟩
      rw [unhide A10]
      rw [unhide A11] at hI6
      have Y6 := hide hI6
      clear hI6 Y5 A10 A11
      go_wp2_with fail
      refine (unhide HSE _).mono ?_
      rintro ev y7 ⟨rfl, hb7⟩
      have Y7 := hide ((unhide Y6).below hb7)
      clear hb7 Y6
      go_wp2_with fail
      refine (writeD (unhide Y7) (by have := unhide A20; omega) (by have := unhide A22; omega) 3 T).mono ?_
      rintro ev y8 ⟨rfl, hI8⟩
      rw [unhide A12]
      rw [unhide A13] at hI8
      have Y8 := hide hI8
      clear hI8 Y7 A12 A13
      go_wp2_with fail
      refine (flushD (unhide Y8) (by have := unhide A21; omega) (by have := unhide A23; omega)).mono ?_
      rintro ev y9 ⟨rfl, hI9⟩
      rw [unhide A14]
      rw [unhide A15] at hI9
      have Y9 := hide hI9
      clear hI9 Y8 A14 A15
      go_wp2_with fail
      refine (readD (unhide Y9) 3).mono ?_
      rintro ev y10 ⟨rfl, rfl⟩
      rw [unhide A16, unhide A17]
      clear A16 A17
      go_wp2_with fail
      refine (unhide HSE _).mono ?_
      rintro ev y11 ⟨rfl, hb11⟩
      have Y11 := hide ((unhide Y9).below hb11)
      clear hb11 Y9 HSE
      go_wp2_with fail
      refine (deadD (unhide Y11)).mono ?_
      rintro ev y12 ⟨rfl, rfl⟩
      rw [unhide A18]
      go_wp2_with fail
      refine (traceD (unhide Y11) (by have := unhide A19; omega)).mono ?_
      rintro ev y13 ⟨rfl, _, hI13, _⟩
      rw [unhide A19]
      have Y13 := hide hI13.bel
      clear hI13 Y11
      go_wp2
      go_ret
      exact ⟨by simp, unhide Y13⟩
end Go.Proofs.Ytaedoagcbkgmbaa
