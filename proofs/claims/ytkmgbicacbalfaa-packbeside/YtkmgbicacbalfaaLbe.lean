import Derived.Test.YtkmgbicacbalfaaSlt
import Derived.Test.YtkmgbicacbalfaaExt
import Derived.Test.YtkmgbicacbalfaaPk3
namespace Go.Proofs.Ytkmgbicacbalfaa
open Go.RowKit
theorem slots_nat (body : ByteArray) (S : Nat) (hS : 0 < S) : slotsP body.size (S : Int) = body.size / S := by rw [slotsP, if_neg (by omega), Int.toNat_natCast]
theorem slot_nat (body : ByteArray) (S K : Nat) (hS : 0 < S) (hb : body.size ≤ 9223372036854775807) (hK : K < body.size / S) (w : World) :
    Calls Try.prog 12 #[.string body, .int .i64 (S : Int), .int .i64 (K : Int)] w fun e w' => e = .returned (.tuple #[.string (body.extract (K * S) ((K + 1) * S)), .int .i64 0]) ∧ Below w.heap.size w w' := by
  have h1 := slots_in body.size S K hK
  have h2 : S ≤ (K + 1) * S := Nat.le_mul_of_pos_left S (by omega)
  have h3 := Nat.div_le_self body.size S
  have hE : errS body.size (S : Int) (K : Int) = 0 := by rw [errS, if_neg (by omega), if_neg (by rw [slots_nat body S hS]; omega)]
  have h := slot_any body (S : Int) (K : Int) hb ⟨by omega, by omega⟩ ⟨by omega, by omega⟩ w
  rw [slotB, if_pos hE, hE, Int.toNat_natCast, Int.toNat_natCast] at h
  exact h
theorem setSlot_nat (body : ByteArray) (S K : Nat) (s : ByteArray) (hS : 0 < S) (hb : body.size ≤ 140737488351233) (hK : K < body.size / S) (hs : s.size = S) (w : World) :
    Calls Try.prog 10 #[.string body, .int .i64 (S : Int), .int .i64 (K : Int), .string s] w fun e w' => e = .returned (.tuple #[.string (body.extract 0 (K * S) ++ s ++ body.extract (K * S + S) body.size), .int .i64 0]) ∧ Below w.heap.size w w' := by
  have h1 := slots_in body.size S K hK
  have h2 : S ≤ (K + 1) * S := Nat.le_mul_of_pos_left S (by omega)
  have h3 := Nat.div_le_self body.size S
  have hE : errT body.size s.size (S : Int) (K : Int) = 0 := by rw [errT, if_neg (by omega), if_neg (by rw [slots_nat body S hS]; omega)]
  have h := setSlot_any body (S : Int) (K : Int) s (by omega) ⟨by omega, by omega⟩ ⟨by omega, by omega⟩ (by omega) w
  rw [setB, if_pos hE, hE, Int.toNat_natCast, Int.toNat_natCast, Nat.succ_mul] at h
  exact h
theorem str_same (s : ByteArray) : (s.toList == s.toList) = true := by simp
set_option maxRecDepth 100000 in
set_option maxHeartbeats 2000000 in
theorem beside_walk (body0 : ByteArray) (size0 k0 : Int) (s0 : ByteArray) (hb : body0.size ≤ 140737488351232) (hsz : I64 size0) (hk : I64 k0) (hs : s0.size ≤ 140737488351232) (w : World) :
    Calls Try.prog 4 #[.string body0, .int .i64 size0, .int .i64 k0, .string s0] w fun e w' => e = .returned (.bool true) ∧ Below w.heap.size w w' := by
  obtain ⟨body, hbody⟩ : ∃ b, body0 ++ ⟨#[1]⟩ = b := ⟨_, rfl⟩
  have hn : body.size = body0.size + 1 := by rw [← hbody, ByteArray.size_append]; rfl
  have y1 : ¬ 9223372036854775807 < body0.size + 1 := by omega
  have H1 := hide (fun W => pick3_any size0 body.size (by omega) hsz W)
  have p1 := pickP_lt size0 body.size (by omega)
  generalize pickP size0 body.size = P at *
  obtain ⟨S, hS⟩ : ∃ S, P + 1 = S := ⟨_, rfl⟩
  have hS1 : (1 : Int) + (P : Int) = (S : Int) := by omega
  obtain ⟨M, hM⟩ : ∃ M, body.size / S = M := ⟨_, rfl⟩
  have hq : ((body.size : Int)).tdiv (S : Int) = (M : Int) := by rw [← hM]; rfl
  have hM0 : 0 < M := by rw [← hM]; exact Nat.div_pos (by omega) (by omega)
  have hMl : M ≤ body.size := by rw [← hM]; exact Nat.div_le_self _ _
  have hz : ((S : Int) == 0) = false := by simp; omega
  have H2 := hide (fun W => pick3_any k0 M hM0 hk W)
  have p2 := pickP_lt k0 M hM0
  generalize pickP k0 M = K at *
  have HSet := hide (fun s (hs : s.size = S) W => setSlot_nat body S K s (by omega) (by omega) (by omega) hs W)
  have HM := hide hM
  have hin : (K + 1) * S ≤ body.size := slots_in body.size S K (by omega)
  rw [Nat.succ_mul] at hin
  have hMS : M * S ≤ body.size := by rw [← hM]; exact Nat.div_mul_le_self _ _
  have hKM : K * S + S ≤ M * S := by rw [← Nat.succ_mul]; exact Nat.mul_le_mul_right S p2
  have hm1 : (M : Int) * (S : Int) = ((M * S : Nat) : Int) := by simp
  have hbl : body.size ≤ 140737488351233 := by omega
  have hS0 : 0 < S := by omega
  have hSl : S ≤ body.size := by omega
  obtain ⟨R, hR⟩ : ∃ R, M * S = R := ⟨_, rfl⟩
  obtain ⟨I, hI⟩ : ∃ I, K * S = I := ⟨_, rfl⟩
  rw [hR] at hm1 hMS hKM
  rw [hI] at hKM hin HSet
  have HR := hide hR
  have HI := hide hI
  have HS := hide hS
  clear hM hS hR hI hn
  go_enter Try.func4, Try.ntmps4
  go_wp2_with fail
  refine (unhide H1 _).mono ?_
  rintro e w1 ⟨rfl, rfl⟩
  clear H1
  go_wp2_with fail
  refine (unhide H2 _).mono ?_
  rintro e w2 ⟨rfl, rfl⟩
  clear H2
  go_wp2
  go_loopw [3] (fun v wr => ∃ t : ByteArray, t.size ≤ 281474976710656 ∧ v = .string t ∧ wr = w2) (fun v _ => match v with | .string t => S - t.size | _ => 0)
  case atStart => exact ⟨s0, by omega, rfl, rfl⟩
  case round =>
    obtain ⟨t, ht, rfl, rfl⟩ := hrel
    obtain ⟨wo, rfl⟩ : ∃ wo, wo = wr := ⟨_, rfl⟩
    by_cases hts : t.size < S
    · have y2 : ¬ 9223372036854775807 < t.size + t.size := by omega
      have z : (t ++ t).size = t.size + t.size := ByteArray.size_append
      have y3 : ¬ 9223372036854775807 < (t ++ t).size + 1 := by omega
      have y4 : ¬ 9223372036854775807 < t.size + t.size + 1 := by omega
      have HZ := hide (show (t ++ t ++ ⟨#[2]⟩).size = t.size + t.size + 1 by rw [ByteArray.size_append, z]; rfl)
      clear z
      go_wp2
      go_roundw
      case rel => exact ⟨t ++ t ++ ⟨#[2]⟩, by rw [unhide HZ]; omega, rfl, trivial⟩
      case measure =>
        show S - (t ++ t ++ ⟨#[2]⟩).size < S - t.size
        rw [unhide HZ]
        omega
    · have hse : (t.extract 0 S).size = S := by simp; omega
      obtain ⟨T, hT⟩ : ∃ T, body.extract 0 I ++ t.extract 0 S ++ body.extract (I + S) body.size = T := ⟨_, rfl⟩
      have hTs : T.size = body.size := by
        rw [← hT, ByteArray.size_append, ByteArray.size_append, hse]
        simp
        omega
      have H3 := hide (fun W => unhide HSet (t.extract 0 S) hse W)
      rw [hT] at H3
      have hTR : T.extract R body.size = body.extract R body.size := by
        rw [← hT]
        exact set_beside body (t.extract 0 S) I S R body.size hse (by omega) (Nat.le_refl _) (by omega) (.inr (by omega))
      have HTB := hide (fun a b (h1 : b ≤ body.size) (h2 : a ≤ b) (h3 : b ≤ I ∨ I + S ≤ a) => (by
        have := set_beside body (t.extract 0 S) I S a b hse (by omega) h1 h2 h3
        rw [hT] at this
        exact this : T.extract a b = body.extract a b))
      have HTT := hide (show T.extract I (I + S) = t.extract 0 S by
        rw [← hT]
        exact set_there body (t.extract 0 S) I S hse (by omega))
      have H4 := hide (fun W => slots_any T (S : Int) (by omega) ⟨by omega, by omega⟩ W)
      rw [hTs, slots_nat body S hS0, unhide HM] at H4
      have HA := hide (fun i (hi : i < M) W => slot_nat T S i hS0 (by omega) (by rw [hTs, unhide HM]; exact hi) W)
      have HB := hide (fun i (hi : i < M) W => slot_nat body S i hS0 (by omega) (by rw [unhide HM]; exact hi) W)
      have hw1 : IntKind.i64.wrap (R : Int) = (R : Int) := wrapI_eq _ (by omega) (by omega)
      have HT := hide hT
      have HSE := hide hse
      clear hT HSet hse
      go_wp2_with fail
      refine (unhide H3 _).mono ?_
      rintro e w3 ⟨rfl, hB3⟩
      have B3 := hide hB3
      clear hB3
      go_wp2_with fail
      go_quiet ((go_at_call 11; exact Calls.quiet_of_same (unhide H4 _)))
      go_wp2
      go_loopw [12] (fun v wr => ∃ i : Nat, i ≤ M ∧ v = .int .i64 (i : Int) ∧ Below wo.heap.size wo wr) (fun v _ => M - (intOf v).toNat)
      case atStart => exact ⟨0, by omega, rfl, below_drewN (unhide B3) _⟩
      case round =>
        obtain ⟨i, hi, rfl, hBi⟩ := hrel
        have B4 := hide hBi
        clear hBi B3
        by_cases hiM : i < M
        · have H5 := hide (fun W => unhide HA i hiM W)
          have H6 := hide (fun W => unhide HB i hiM W)
          have hiS : (i + 1) * S ≤ R := by rw [← unhide HR]; exact Nat.mul_le_mul_right S hiM
          by_cases hiK : i = K
          · subst hiK
            rw [unhide HI, show (i + 1) * S = I + S by rw [Nat.succ_mul, unhide HI], unhide HTT] at H5
            have he : ((i : Int) == (i : Int)) = true := by simp
            go_wp2_with fail
            refine (unhide H5 _).mono ?_
            rintro e w4 ⟨rfl, hB4⟩
            have B5 := hide ((unhide B4).trans (hB4.mono (unhide B4).size))
            clear hB4 B4
            go_wp2_with fail
            refine (unhide H6 _).mono ?_
            rintro e w5 ⟨rfl, hB4⟩
            have B6 := hide ((unhide B5).trans (hB4.mono (unhide B5).size))
            clear hB4 B5
            go_wp2
            go_roundw
            case rel => exact ⟨i + 1, by omega, by go_num, unhide B6⟩
            case measure => simp [intOf]; omega
          · have hab : T.extract (i * S) ((i + 1) * S) = body.extract (i * S) ((i + 1) * S) := unhide HTB _ _ (by omega) (Nat.mul_le_mul_right S (by omega)) (by
              rw [← unhide HI]
              rcases Nat.lt_or_gt_of_ne hiK with h | h
              · exact .inl (Nat.mul_le_mul_right S h)
              · right
                rw [← Nat.succ_mul]
                exact Nat.mul_le_mul_right S h)
            rw [hab] at H5
            clear hab
            generalize body.extract (i * S) ((i + 1) * S) = A at *
            have he : ((i : Int) == (K : Int)) = false := by simp; omega
            have he2 : ((i : Int) != (K : Int)) = true := by simp; omega
            go_wp2_with fail
            refine (unhide H5 _).mono ?_
            rintro e w4 ⟨rfl, hB4⟩
            have B5 := hide ((unhide B4).trans (hB4.mono (unhide B4).size))
            clear hB4 B4
            go_wp2_with fail
            refine (unhide H6 _).mono ?_
            rintro e w5 ⟨rfl, hB4⟩
            have B6 := hide ((unhide B5).trans (hB4.mono (unhide B5).size))
            clear hB4 B5
            go_wp2
            go_roundw
            case rel => exact ⟨i + 1, by omega, by go_num, unhide B6⟩
            case measure => simp [intOf]; omega
        · go_wp2
          go_ret
          exact ⟨rfl, unhide B4⟩
end Go.Proofs.Ytkmgbicacbalfaa
