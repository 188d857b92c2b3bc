import Derived.Test.YtfhapaffifhkiaaGla
namespace Go.Proofs.Ytfhapaffifhkiaa
open Go.RowKit
set_option maxRecDepth 100000
set_option maxHeartbeats 2000000 in
theorem fields18 (a b : Int) (W : World) : Calls Try.prog 4 #[.int .i64 a, .int .i64 b] W fun e w' => e = .returned (.bool true) ∧ Below W.heap.size W w' := by
  have HK := hide (known18 W)
  have HEA := hide (fun w => elem_any a w)
  have HEB := hide (fun w => elem_any b w)
  by_cases h1 : 0 ≤ a ∧ a < 256
  case neg =>
    have HM := hide (fun w => pMul_bad a b (.inl h1) w)
    have HV := hide (fun w => pInv_bad a h1 w)
    rw [decide_eq_false h1] at HEA
    obtain ⟨eb, heb⟩ : ∃ q, decide (0 ≤ b ∧ b < 256) = q := ⟨_, rfl⟩
    rw [heb] at HEB
    clear h1 heb
    go_enter Try.func4, Try.ntmps4
    go_wp2_with fail
    refine (unhide HK).mono ?_
    rintro e w1 ⟨rfl, hb1⟩
    have HB := hide hb1
    clear hb1
    go_wp2_with fail
    refine (unhide HM _).mono ?_
    rintro e w' ⟨rfl, hw'⟩
    subst w'
    go_wp2_with fail
    refine (unhide HV _).mono ?_
    rintro e w' ⟨rfl, hw'⟩
    subst w'
    go_wp2_with fail
    refine (unhide HEA _).mono ?_
    rintro e w' ⟨rfl, hw'⟩
    subst w'
    go_wp2_with fail
    refine (unhide HEB _).mono ?_
    rintro e w' ⟨rfl, hw'⟩
    subst w'
    go_wp2
    go_ret
    exact ⟨rfl, unhide HB⟩
  rw [decide_eq_true h1] at HEA
  obtain ⟨x, rfl⟩ := Int.eq_ofNat_of_zero_le h1.1
  have hx : x < 256 := by omega
  clear h1
  obtain ⟨iv, ie, HV, HIV⟩ : ∃ iv ie : Int, Hid (∀ w, Calls Try.prog 11 #[.int .i64 (x : Int)] w fun e w' => e = .returned (.tuple #[.int .i64 iv, .int .i64 ie]) ∧ w' = w) ∧ Hid ((x = 0 → iv = 0 ∧ ie = 184) ∧ (x ≠ 0 → iv = (giv x : Int) ∧ ie = 0)) := by
    by_cases h0 : x = 0
    · subst h0
      exact ⟨0, 184, hide (fun w => pInv_zero w), hide ⟨fun _ => ⟨rfl, rfl⟩, fun h => absurd rfl h⟩⟩
    · exact ⟨_, 0, hide (fun w => pInv_ok x hx h0 w), hide ⟨fun h => absurd h h0, fun _ => ⟨rfl, rfl⟩⟩⟩
  have HRI := hide (fun w => rinv_any x hx w)
  by_cases h2 : 0 ≤ b ∧ b < 256
  case neg =>
    have HM := hide (fun w => pMul_bad (x : Int) b (.inr h2) w)
    rw [decide_eq_false h2] at HEB
    clear h2
    by_cases h0 : x = 0
    · obtain ⟨rfl, rfl⟩ := (unhide HIV).1 h0
      subst h0
      simp only [Int.cast_ofNat_Int] at *
      clear HIV HRI
      go_enter Try.func4, Try.ntmps4
      go_wp2_with fail
      refine (unhide HK).mono ?_
      rintro e w1 ⟨rfl, hb1⟩
      have HB := hide hb1
      clear hb1
      go_wp2_with fail
      refine (unhide HM _).mono ?_
      rintro e w' ⟨rfl, hw'⟩
      subst w'
      go_wp2_with fail
      refine (unhide HV _).mono ?_
      rintro e w' ⟨rfl, hw'⟩
      subst w'
      go_wp2_with fail
      refine (unhide HEA _).mono ?_
      rintro e w' ⟨rfl, hw'⟩
      subst w'
      go_wp2_with fail
      refine (unhide HEB _).mono ?_
      rintro e w' ⟨rfl, hw'⟩
      subst w'
      go_wp2
      go_ret
      exact ⟨rfl, unhide HB⟩
    · obtain ⟨rfl, rfl⟩ := (unhide HIV).2 h0
      have h0' : ((x : Int) == 0) = false := by simp; omega
      generalize giv x = gv at *
      clear HIV h0
      go_enter Try.func4, Try.ntmps4
      go_wp2_with fail
      refine (unhide HK).mono ?_
      rintro e w1 ⟨rfl, hb1⟩
      have HB := hide hb1
      clear hb1
      go_wp2_with fail
      refine (unhide HM _).mono ?_
      rintro e w' ⟨rfl, hw'⟩
      subst w'
      go_wp2_with fail
      refine (unhide HV _).mono ?_
      rintro e w' ⟨rfl, hw'⟩
      subst w'
      go_wp2_with fail
      refine (unhide HEA _).mono ?_
      rintro e w' ⟨rfl, hw'⟩
      subst w'
      go_wp2_with fail
      refine (unhide HEB _).mono ?_
      rintro e w' ⟨rfl, hw'⟩
      subst w'
      go_wp2_with fail
      refine (unhide HRI _).mono ?_
      rintro e w' ⟨rfl, hw'⟩
      subst w'
      go_wp2
      go_ret
      exact ⟨rfl, unhide HB⟩
  rw [decide_eq_true h2] at HEB
  obtain ⟨y, rfl⟩ := Int.eq_ofNat_of_zero_le h2.1
  have hy : y < 256 := by omega
  clear h2
  have HM := hide (fun w => pMul_ok x y hx hy w)
  have HR := hide (fun w => rmul_any x y hx hy w)
  generalize gm x y = gv2 at *
  by_cases h0 : x = 0
  · obtain ⟨rfl, rfl⟩ := (unhide HIV).1 h0
    subst h0
    simp only [Int.cast_ofNat_Int] at *
    clear HIV HRI
    go_enter Try.func4, Try.ntmps4
    go_wp2_with fail
    refine (unhide HK).mono ?_
    rintro e w1 ⟨rfl, hb1⟩
    have HB := hide hb1
    clear hb1
    go_wp2_with fail
    refine (unhide HM _).mono ?_
    rintro e w' ⟨rfl, hw'⟩
    subst w'
    go_wp2_with fail
    refine (unhide HV _).mono ?_
    rintro e w' ⟨rfl, hw'⟩
    subst w'
    go_wp2_with fail
    refine (unhide HEA _).mono ?_
    rintro e w' ⟨rfl, hw'⟩
    subst w'
    go_wp2_with fail
    refine (unhide HEB _).mono ?_
    rintro e w' ⟨rfl, hw'⟩
    subst w'
    go_wp2_with fail
    refine (unhide HR _).mono ?_
    rintro e w' ⟨rfl, hw'⟩
    subst w'
    go_wp2
    go_ret
    exact ⟨rfl, unhide HB⟩
  · obtain ⟨rfl, rfl⟩ := (unhide HIV).2 h0
    have h0' : ((x : Int) == 0) = false := by simp; omega
    generalize giv x = gv at *
    clear HIV h0
    go_enter Try.func4, Try.ntmps4
    go_wp2_with fail
    refine (unhide HK).mono ?_
    rintro e w1 ⟨rfl, hb1⟩
    have HB := hide hb1
    clear hb1
    go_wp2_with fail
    refine (unhide HM _).mono ?_
    rintro e w' ⟨rfl, hw'⟩
    subst w'
    go_wp2_with fail
    refine (unhide HV _).mono ?_
    rintro e w' ⟨rfl, hw'⟩
    subst w'
    go_wp2_with fail
    refine (unhide HEA _).mono ?_
    rintro e w' ⟨rfl, hw'⟩
    subst w'
    go_wp2_with fail
    refine (unhide HEB _).mono ?_
    rintro e w' ⟨rfl, hw'⟩
    subst w'
    go_wp2_with fail
    refine (unhide HR _).mono ?_
    rintro e w' ⟨rfl, hw'⟩
    subst w'
    go_wp2_with fail
    refine (unhide HRI _).mono ?_
    rintro e w' ⟨rfl, hw'⟩
    subst w'
    go_wp2
    go_ret
    exact ⟨rfl, unhide HB⟩
end Go.Proofs.Ytfhapaffifhkiaa
