import Derived.Test.YtkmgbicacbalfaaDoorRrg
namespace Go.Proofs.YtkmgbicacbalfaaDoor
open Go.RowKit
theorem drewN_two (w : World) (a b : Nat) : ∃ n, (w.drewN a).drewN b = w.drewN n := ⟨a + b, by simp⟩
set_option maxRecDepth 100000 in
set_option maxHeartbeats 4000000 in
theorem fnum_any (w : World) (b : Nat) (S : ByteArray) (at0 : Nat) (h : Rrf w b S (at0 : Int) 0) (hat : at0 ≤ S.size) (hs : S.size ≤ 9223372036854775807) (bytes : Int) :
    Calls Tryd.prog 7 #[.pointer (some ⟨b, 0, none⟩), .int .i64 bytes] w fun ev w' => FPost b S (at0 : Int) (numE bytes (S.extract at0 S.size)) bytes.toNat (.int .i64 (numV bytes (S.extract at0 S.size))) w ev w' := by
  obtain ⟨c0, c1, c2, f0, f1, f2⟩ := h.cells
  obtain ⟨r, hr⟩ : ∃ r, S.extract at0 S.size = r := ⟨_, rfl⟩
  rw [hr]
  have hrs : r.size = S.size - at0 := by rw [← hr]; simp
  have hrn : ∀ j, (nums r).getD j 0 = (nums S).getD (at0 + j) 0 := by
    intro j
    rw [← hr, nums_tail, List.getD_eq_getElem?_getD, List.getD_eq_getElem?_getD, List.getElem?_drop]
  have HH := hide h
  clear h
  by_cases hw : bytes < 1 ∨ 8 < bytes
  · have hE : numE bytes r = 1 := by rw [numE, if_pos hw]
    have hV : numV bytes r = 0 := by rw [numV, hE, if_neg (by decide)]
    rw [hE, hV]
    clear hE hV hrs hr hrn
    by_cases h1 : bytes < 1
    · clear hw
      go_enter Tryd.func7, Tryd.ntmps7
      go_wp2
      go_ret
      exact FPost.same (unhide HH) (by decide) rfl (Only.refl _ _)
    · have h8 : 8 < bytes := by omega
      clear hw
      go_enter Tryd.func7, Tryd.ntmps7
      go_wp2
      go_ret
      exact FPost.same (unhide HH) (by decide) rfl (Only.refl _ _)
  · obtain ⟨k, rfl⟩ := Int.eq_ofNat_of_zero_le (show 0 ≤ bytes by omega)
    have hk1 : 1 ≤ k := by omega
    have hk8 : k ≤ 8 := by omega
    obtain ⟨q, hq⟩ : ∃ q, S.size - at0 = q := ⟨_, rfl⟩
    have hqi : (S.size : Int) - (at0 : Int) = (q : Int) := by omega
    have hwq : IntKind.i64.wrap (q : Int) = (q : Int) := wrapI_eq _ (by omega) (by omega)
    by_cases hk : q < k
    · have hE : numE (k : Int) r = 31 := by rw [numE, if_neg hw, if_pos (by omega)]
      have hV : numV (k : Int) r = 0 := by rw [numV, hE, if_neg (by decide)]
      rw [hE, hV]
      clear hE hV hrs hr hq hrn hw
      go_enter Tryd.func7, Tryd.ntmps7
      go_wp2
      go_quiet (fail)
      go_wp2
      go_ret
      exact FPost.same ((unhide HH).drewN _) (by decide) rfl ((Only.refl _ _).drewN _)
    · have hix : ∀ j : Nat, j < k → ∀ w, (Instr.index 9 (.string S) (.int .i64 ((at0 + j : Nat) : Int))).run Tryd.prog w = .ok (.int .u8 ((nums r).getD j 0)) w := fun j hj w => by
        rw [hrn]
        exact index_str S (at0 + j) (by omega) w
      have hx0 := hix 0 (by omega)
      rw [Nat.add_zero] at hx0
      have hb0 := nums_bytes r 0
      obtain ⟨X, hX⟩ : ∃ X, (nums r).getD 0 0 = X := ⟨_, rfl⟩
      rw [hX] at hx0 hb0
      by_cases hbad : k = 8 ∧ 127 < X
      · obtain ⟨rfl, hX1⟩ := hbad
        have hE : numE ((8 : Nat) : Int) r = 30 := by rw [numE, if_neg hw, if_neg (by omega), Int.toNat_natCast, if_pos ((be8 _ (nums_bytes r) (by rw [nums_len]; omega)).2 (by rw [hX]; exact hX1))]
        have hV : numV ((8 : Nat) : Int) r = 0 := by rw [numV, hE, if_neg (by decide)]
        rw [hE, hV]
        have hla : at0 < S.size := by omega
        clear hE hV hrs hr hq hrn hw hix hX
        go_enter Tryd.func7, Tryd.ntmps7
        go_wp2
        go_quiet (fail)
        go_wp2
        go_quiet (fail)
        go_wp2
        go_ret
        exact FPost.same ((unhide HH).drewN _) (by decide) rfl ((Only.refl _ _).drewN _)
      · have hZ : ¬ 9223372036854775807 < beN ((nums r).take k) := by
          by_cases h8 : k = 8
          · subst h8
            intro hlt
            have := (be8 _ (nums_bytes r) (by rw [nums_len]; omega)).1 hlt
            rw [hX] at this
            exact hbad ⟨rfl, this⟩
          · have h1 := (be_bound (nums r) (nums_bytes r) k).2
            have h2 : (256 : Int) ^ k ≤ 256 ^ 7 := by have q := Nat.pow_le_pow_right (show 0 < 256 by decide) (show k ≤ 7 by omega); exact_mod_cast q
            have h3 : (256 : Int) ^ 7 = 72057594037927936 := by decide
            omega
        have hE : numE (k : Int) r = 0 := by rw [numE, if_neg hw, if_neg (by omega), Int.toNat_natCast, if_neg hZ]
        have hV : numV (k : Int) r = beN ((nums r).take k) := by rw [numV, hE, if_pos rfl, Int.toNat_natCast]
        rw [hE, hV]
        obtain ⟨p, hp⟩ : ∃ p, at0 + k = p := ⟨_, rfl⟩
        have hpi : (at0 : Int) + (k : Int) = (p : Int) := by omega
        have hwp : IntKind.i64.wrap (p : Int) = (p : Int) := wrapI_eq _ (by omega) (by omega)
        have HP := hide (show (at0 : Int) + (((k : Int).toNat : Nat) : Int) = (p : Int) by rw [Int.toNat_natCast]; exact hpi)
        have hla : at0 < S.size := by omega
        have hg8 : ((k : Int) == 8) = true ∧ decide (127 < X) = false ∨ ((k : Int) == 8) = false := by
          by_cases h8 : k = 8
          · left
            exact ⟨by simp; omega, decide_eq_false (fun q => hbad ⟨h8, q⟩)⟩
          · right
            simp; omega
        have HIX := hide hix
        have HZ := hide hZ
        have HSZ := hide (show k ≤ (nums r).length by rw [nums_len]; omega)
        have hats : at0 + k ≤ S.size := by omega
        clear hE hV hrs hr hrn hw hix hX hZ hbad
        rcases hg8 with ⟨g1, g2⟩ | g1
        · go_enter Tryd.func7, Tryd.ntmps7
          go_wp2
          go_quiet (fail)
          go_wp2
          go_quiet (fail)
          go_wp2
          go_loopw [5, 6] (fun u i wr => ∃ j : Nat, j ≤ k ∧ i = .int .i64 (j : Int) ∧ u = .int .i64 (beN ((nums r).take j)) ∧ ∃ nn, wr = w.drewN nn) (fun _ i _ => k - (intOf i).toNat)
          case atStart => exact ⟨0, by omega, rfl, rfl, drewN_two _ _ _⟩
          case round =>
            obtain ⟨j, hj, rfl, rfl, nn, rfl⟩ := hrel
            have hbo := be_bound (nums r) (nums_bytes r) j
            by_cases hjk : j < k
            · have hbn := be_take (nums r) j (by have := unhide HSZ; omega)
              have hbx := nums_bytes r j
              have hxj := unhide HIX j hjk
              have hmax : beN ((nums r).take (j + 1)) ≤ 9223372036854775807 := by
                by_cases hl : j + 1 = k
                · have := unhide HZ
                  rw [hl]
                  omega
                · have h1 := (be_bound (nums r) (nums_bytes r) (j + 1)).2
                  have h2 : (256 : Int) ^ (j + 1) ≤ 256 ^ 7 := by have q := Nat.pow_le_pow_right (show 0 < 256 by decide) (show j + 1 ≤ 7 by omega); exact_mod_cast q
                  have h3 : (256 : Int) ^ 7 = 72057594037927936 := by decide
                  omega
              obtain ⟨x, hx⟩ : ∃ x, (nums r).getD j 0 = x := ⟨_, rfl⟩
              rw [hx] at hbn hbx hxj
              obtain ⟨s, hs2⟩ : ∃ s, at0 + j = s := ⟨_, rfl⟩
              have hsi : (at0 : Int) + (j : Int) = (s : Int) := by omega
              have hws : IntKind.i64.wrap (s : Int) = (s : Int) := wrapI_eq _ (by omega) (by omega)
              rw [hs2] at hxj
              have hsl : s < S.size := by omega
              obtain ⟨B, hB⟩ : ∃ B, beN ((nums r).take j) = B := ⟨_, rfl⟩
              obtain ⟨B2, hB2⟩ : ∃ B, beN ((nums r).take (j + 1)) = B := ⟨_, rfl⟩
              rw [hB, hB2] at hbn
              rw [hB2] at hmax
              rw [hB] at hbo ⊢
              have hw1 : IntKind.i64.wrap (256 * B) = 256 * B := wrapI_eq _ (by omega) (by omega)
              have hw2 : IntKind.i64.wrap (256 * B + x) = 256 * B + x := wrapI_eq _ (by omega) (by omega)
              have hw3 : IntKind.i64.wrap x = x := wrapI_eq _ (by omega) (by omega)
              have HB2 := hide (show 256 * B + x = beN ((nums r).take (j + 1)) by rw [hB2, hbn])
              clear hB hB2 hs2 hx hbo hbn hmax
              go_wp2
              go_quiet (fail)
              go_wp2
              go_roundw
              case rel => exact ⟨j + 1, by omega, by go_num, by rw [← unhide HB2], _, rfl⟩
              case measure => simp [intOf]; omega
            · have hj' : j = k := by omega
              subst hj'
              obtain ⟨B, hB⟩ : ∃ B, beN ((nums r).take j) = B := ⟨_, rfl⟩
              rw [hB]
              have HB := hide hB
              clear hbo hB
              go_wp2
              go_ret
              exact FPost.good ((unhide HH).drewN _) (by rw [unhide HB]; rfl) ((Only.refl _ _).drewN _) (unhide HP)
        · go_enter Tryd.func7, Tryd.ntmps7
          go_wp2
          go_quiet (fail)
          go_wp2
          go_quiet (fail)
          go_wp2
          go_loopw [5, 6] (fun u i wr => ∃ j : Nat, j ≤ k ∧ i = .int .i64 (j : Int) ∧ u = .int .i64 (beN ((nums r).take j)) ∧ ∃ nn, wr = w.drewN nn) (fun _ i _ => k - (intOf i).toNat)
          case atStart => exact ⟨0, by omega, rfl, rfl, drewN_two _ _ _⟩
          case round =>
            obtain ⟨j, hj, rfl, rfl, nn, rfl⟩ := hrel
            have hbo := be_bound (nums r) (nums_bytes r) j
            by_cases hjk : j < k
            · have hbn := be_take (nums r) j (by have := unhide HSZ; omega)
              have hbx := nums_bytes r j
              have hxj := unhide HIX j hjk
              have hmax : beN ((nums r).take (j + 1)) ≤ 9223372036854775807 := by
                by_cases hl : j + 1 = k
                · have := unhide HZ
                  rw [hl]
                  omega
                · have h1 := (be_bound (nums r) (nums_bytes r) (j + 1)).2
                  have h2 : (256 : Int) ^ (j + 1) ≤ 256 ^ 7 := by have q := Nat.pow_le_pow_right (show 0 < 256 by decide) (show j + 1 ≤ 7 by omega); exact_mod_cast q
                  have h3 : (256 : Int) ^ 7 = 72057594037927936 := by decide
                  omega
              obtain ⟨x, hx⟩ : ∃ x, (nums r).getD j 0 = x := ⟨_, rfl⟩
              rw [hx] at hbn hbx hxj
              obtain ⟨s, hs2⟩ : ∃ s, at0 + j = s := ⟨_, rfl⟩
              have hsi : (at0 : Int) + (j : Int) = (s : Int) := by omega
              have hws : IntKind.i64.wrap (s : Int) = (s : Int) := wrapI_eq _ (by omega) (by omega)
              rw [hs2] at hxj
              have hsl : s < S.size := by omega
              obtain ⟨B, hB⟩ : ∃ B, beN ((nums r).take j) = B := ⟨_, rfl⟩
              obtain ⟨B2, hB2⟩ : ∃ B, beN ((nums r).take (j + 1)) = B := ⟨_, rfl⟩
              rw [hB, hB2] at hbn
              rw [hB2] at hmax
              rw [hB] at hbo ⊢
              have hw1 : IntKind.i64.wrap (256 * B) = 256 * B := wrapI_eq _ (by omega) (by omega)
              have hw2 : IntKind.i64.wrap (256 * B + x) = 256 * B + x := wrapI_eq _ (by omega) (by omega)
              have hw3 : IntKind.i64.wrap x = x := wrapI_eq _ (by omega) (by omega)
              have HB2 := hide (show 256 * B + x = beN ((nums r).take (j + 1)) by rw [hB2, hbn])
              clear hB hB2 hs2 hx hbo hbn hmax
              go_wp2
              go_quiet (fail)
              go_wp2
              go_roundw
              case rel => exact ⟨j + 1, by omega, by go_num, by rw [← unhide HB2], _, rfl⟩
              case measure => simp [intOf]; omega
            · have hj' : j = k := by omega
              subst hj'
              obtain ⟨B, hB⟩ : ∃ B, beN ((nums r).take j) = B := ⟨_, rfl⟩
              rw [hB]
              have HB := hide hB
              clear hbo hB
              go_wp2
              go_ret
              exact FPost.good ((unhide HH).drewN _) (by rw [unhide HB]; rfl) ((Only.refl _ _).drewN _) (unhide HP)
end Go.Proofs.YtkmgbicacbalfaaDoor
