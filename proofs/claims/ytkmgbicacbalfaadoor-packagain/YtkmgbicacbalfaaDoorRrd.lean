import Derived.Test.YtkmgbicacbalfaaDoorRda
namespace Go.Proofs.YtkmgbicacbalfaaDoor
open Go.RowKit
theorem results_tmp3 {fn : Func} {t u v : Tmp} (h : fn.results = #[.tmp t, .tmp u, .tmp v]) (tmps : Array Value) (P : Program) (w : World) :
    (results fn tmps).run P w = .ok (.tuple #[tmps.getD t undef, tmps.getD u undef, tmps.getD v undef]) w := by
  simp [results, h]
macro "go_ret3" : tactic => `(tactic|
  ((try simp only [Exit.inBlock, Exit.then]); refine bodyPost_ret (results_tmp3 rfl _ _ _) rfl ?_))
set_option maxRecDepth 100000 in
set_option maxHeartbeats 4000000 in
theorem fdigits_any (S : ByteArray) (at0 : Nat) (hat : at0 ≤ S.size) (hs : S.size ≤ 9223372036854775807) (E : Int) (V C : Nat) (hV : varP ((nums S).drop at0) = (E, V, C)) (w : World) :
    Calls Tryd.prog 36 #[.string S, .int .i64 (at0 : Int)] w fun ev w' => ev = .returned (.tuple #[.int .i64 (V : Int), .int .i64 (C : Int), .int .i64 E]) ∧ w' = w := by
  have HV := hide hV
  clear hV
  go_enter Tryd.func36, Tryd.ntmps36
  go_wp2
  go_loopw [7, 8, 9] (fun u q x wr => ∃ i n U : Nat, i ≤ 9 ∧ at0 + i ≤ S.size ∧ n < 128 ^ i ∧ U = 128 ^ (min i 8) ∧ x = .int .i64 (i : Int) ∧ u = .int .i64 (n : Int) ∧ q = .int .i64 (U : Int) ∧ dgA (9 - i) i n ((nums S).drop (at0 + i)) = (E, V, C) ∧ wr = w) (fun _ _ i _ => 9 - (intOf i).toNat)
  case atStart => exact ⟨0, 0, 1, by omega, by omega, by decide, by decide, rfl, rfl, rfl, unhide HV, rfl⟩
  case round =>
    obtain ⟨i, n, U, hi9, hir, hn, hU, rfl, rfl, rfl, hD, hO⟩ := hrel
    obtain ⟨wo, rfl⟩ : ∃ wo, wo = wr := ⟨_, rfl⟩
    have HO := hide hO
    clear hO HV
    by_cases hi : i < 9
    · obtain ⟨f, hf⟩ : ∃ f, 9 - i = f + 1 := ⟨8 - i, by omega⟩
      rw [hf] at hD
      rw [show min i 8 = i by omega] at hU
      obtain ⟨p, hp⟩ : ∃ p, at0 + i = p := ⟨_, rfl⟩
      have hpi : (at0 : Int) + (i : Int) = (p : Int) := by omega
      rw [hp] at hD hir
      have hwp : IntKind.i64.wrap (p : Int) = (p : Int) := wrapI_eq _ (by omega) (by omega)
      have h88 : (128 : Nat) ^ 8 = 72057594037927936 := by decide
      have hU8 : U ≤ 72057594037927936 := by rw [hU, ← h88]; exact Nat.pow_le_pow_right (by decide) (by omega)
      by_cases hl : p < S.size
      · have hle : p < (nums S).length := by rw [nums_len]; exact hl
        rw [List.drop_eq_getElem_cons hle] at hD
        have hd0 := nums_bytes S p
        have hget : (nums S).getD p 0 = (nums S)[p] := by rw [List.getD_eq_getElem?_getD, List.getElem?_eq_getElem hle]; rfl
        have hix := index_str S p hl
        rw [hget] at hd0 hix
        obtain ⟨L', hL'⟩ : ∃ L, (nums S).drop (p + 1) = L := ⟨_, rfl⟩
        rw [hL'] at hD
        generalize (nums S)[p] = d at *
        obtain ⟨X, rfl⟩ := Int.eq_ofNat_of_zero_le hd0.1
        have hX : X < 256 := by omega
        have hng : ¬ (S.size ≤ p) := by omega
        have hw8 : IntKind.i64.wrap (X : Int) = (X : Int) := wrapI_eq _ (by omega) (by omega)
        by_cases h1 : X < 128
        · by_cases h0 : X = 0 ∧ 0 < i
          · obtain ⟨rfl, hi0⟩ := h0
            rw [dgA, if_pos ⟨rfl, hi0⟩] at hD
            obtain ⟨rfl, rfl, rfl⟩ : E = 34 ∧ V = 0 ∧ C = 0 := by
              have a1 := congrArg Prod.fst hD
              have a2 := congrArg (fun q => q.2.1) hD
              have a3 := congrArg (fun q => q.2.2) hD
              exact ⟨a1.symm, a2.symm, a3.symm⟩
            clear hD hn hU h88 hget hL' hf hp hle hd0
            go_wp2
            go_ret3
            exact ⟨rfl, unhide HO⟩
          · rw [dgA, if_neg (by omega), if_pos (by omega), Int.toNat_natCast, ← hU] at hD
            have hY0 : X * U ≤ 127 * U := Nat.mul_le_mul_right _ (by omega)
            obtain ⟨Y, hY⟩ : ∃ Y, X * U = Y := ⟨_, rfl⟩
            rw [hY] at hD hY0
            have hmul : (X : Int) * (U : Int) = (Y : Int) := by rw [← hY]; simp
            rw [← hU] at hn
            obtain ⟨Z, hZ⟩ : ∃ Z, n + Y = Z := ⟨_, rfl⟩
            have hZi : (n : Int) + (Y : Int) = (Z : Int) := by omega
            have hZl : Z ≤ 9223372036854775807 := by omega
            rw [hZ] at hD
            have hwY : IntKind.i64.wrap (Y : Int) = (Y : Int) := wrapI_eq _ (by omega) (by omega)
            have hwZ : IntKind.i64.wrap (Z : Int) = (Z : Int) := wrapI_eq _ (by omega) (by omega)
            obtain ⟨rfl, rfl, rfl⟩ : E = 0 ∧ V = Z ∧ C = i + 1 := by
              have a1 := congrArg Prod.fst hD
              have a2 := congrArg (fun q => q.2.1) hD
              have a3 := congrArg (fun q => q.2.2) hD
              exact ⟨a1.symm, a2.symm, a3.symm⟩
            have hx0 : (((X : Int) == 0) && decide (0 < (i : Int))) = false := by
              by_cases hi0 : 0 < i
              · have : ¬ X = 0 := fun q => h0 ⟨q, hi0⟩
                simp; omega
              · simp; omega
            clear hD hn hU h88 hget hL' hf hp hle hd0 hY hZ hY0
            by_cases hx : X = 0
            · have hx1 : ((X : Int) == 0) = true := by simp; omega
              have hi0 : ¬ 0 < i := fun q => h0 ⟨hx, q⟩
              clear hx h0 hx0
              go_wp2
              go_ret3
              exact ⟨rfl, unhide HO⟩
            · have hx1 : ((X : Int) == 0) = false := by simp; omega
              clear h0 hx0 hx
              go_wp2
              go_ret3
              exact ⟨rfl, unhide HO⟩
        · rw [dgA, if_neg (by omega), if_neg (by omega), Int.toNat_natCast, ← hU] at hD
          obtain ⟨R, hR⟩ : ∃ R, X - 128 = R := ⟨_, rfl⟩
          have hRi : (X : Int) - 128 = (R : Int) := by omega
          have hwR : IntKind.i64.wrap (R : Int) = (R : Int) := wrapI_eq _ (by omega) (by omega)
          rw [hR] at hD
          have hY0 : R * U ≤ 127 * U := Nat.mul_le_mul_right _ (by omega)
          obtain ⟨Y, hY⟩ : ∃ Y, R * U = Y := ⟨_, rfl⟩
          rw [hY] at hD hY0
          have hmul : (R : Int) * (U : Int) = (Y : Int) := by rw [← hY]; simp
          have hp1 : 128 ^ (i + 1) = U * 128 := by rw [Nat.pow_succ, ← hU]
          rw [← hU] at hn
          obtain ⟨Z, hZ⟩ : ∃ Z, n + Y = Z := ⟨_, rfl⟩
          have hZi : (n : Int) + (Y : Int) = (Z : Int) := by omega
          have hZl : Z ≤ 9223372036854775807 := by omega
          rw [hZ] at hD
          have hwY : IntKind.i64.wrap (Y : Int) = (Y : Int) := wrapI_eq _ (by omega) (by omega)
          have hwZ : IntKind.i64.wrap (Z : Int) = (Z : Int) := wrapI_eq _ (by omega) (by omega)
          have HZn := hide (show Z < 128 ^ (i + 1) by rw [hp1]; omega)
          have HDD := hide (show dgA (9 - (i + 1)) (i + 1) Z ((nums S).drop (at0 + (i + 1))) = (E, V, C) by
            rw [show 9 - (i + 1) = f by omega, show at0 + (i + 1) = p + 1 by omega, hL']
            exact hD)
          have HSZ := hide (show at0 + (i + 1) ≤ S.size by omega)
          by_cases h8 : i < 8
          · obtain ⟨U2, hU2⟩ : ∃ U2, 128 * U = U2 := ⟨_, rfl⟩
            have hU2i : 128 * (U : Int) = (U2 : Int) := by omega
            have hU7 : (128 : Nat) ^ i ≤ 128 ^ 7 := Nat.pow_le_pow_right (by decide) (by omega)
            have h77 : (128 : Nat) ^ 7 = 562949953421312 := by decide
            have hwU : IntKind.i64.wrap (U2 : Int) = (U2 : Int) := wrapI_eq _ (by omega) (by omega)
            have HU2 := hide (show U2 = 128 ^ (min (i + 1) 8) by rw [show min (i + 1) 8 = i + 1 by omega, hp1]; omega)
            clear hD hn hU h88 hget hL' hf hp hle hd0 hY hZ hY0 hU2 hU7 h77 hp1 hR
            go_wp2
            go_roundw
            case rel => exact ⟨i + 1, Z, U2, by omega, unhide HSZ, unhide HZn, unhide HU2, by go_num, by go_num, by go_num, unhide HDD, unhide HO⟩
            case measure => simp [intOf]; omega
          · have HU2 := hide (show U = 128 ^ (min (i + 1) 8) by rw [show min (i + 1) 8 = i by omega]; exact hU)
            clear hD hn hU h88 hget hL' hf hp hle hd0 hY hZ hY0 hp1 hR
            go_wp2
            go_roundw
            case rel => exact ⟨i + 1, Z, U, by omega, unhide HSZ, unhide HZn, unhide HU2, by go_num, by go_num, by go_num, unhide HDD, unhide HO⟩
            case measure => simp [intOf]; omega
      · rw [List.drop_eq_nil_of_le (by rw [nums_len]; omega), dgA] at hD
        obtain ⟨rfl, rfl, rfl⟩ : E = 31 ∧ V = 0 ∧ C = 0 := by
          have a1 := congrArg Prod.fst hD
          have a2 := congrArg (fun q => q.2.1) hD
          have a3 := congrArg (fun q => q.2.2) hD
          exact ⟨a1.symm, a2.symm, a3.symm⟩
        have hge : S.size ≤ p := by omega
        clear hD hn hU h88 hf hp
        go_wp2
        go_ret3
        exact ⟨rfl, unhide HO⟩
    · have hi' : i = 9 := by omega
      subst hi'
      rw [show 9 - 9 = 0 by rfl, dgA] at hD
      obtain ⟨rfl, rfl, rfl⟩ : E = 30 ∧ V = 0 ∧ C = 0 := by
        have a1 := congrArg Prod.fst hD
        have a2 := congrArg (fun q => q.2.1) hD
        have a3 := congrArg (fun q => q.2.2) hD
        exact ⟨a1.symm, a2.symm, a3.symm⟩
      clear hD hn hU
      go_wp2
      go_ret3
      exact ⟨rfl, unhide HO⟩
end Go.Proofs.YtkmgbicacbalfaaDoor
