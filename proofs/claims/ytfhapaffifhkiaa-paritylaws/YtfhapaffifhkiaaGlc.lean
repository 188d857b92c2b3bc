import Derived.Test.YtfhapaffifhkiaaGla
namespace Go.Proofs.Ytfhapaffifhkiaa
open Go.RowKit
set_option maxRecDepth 100000
set_option maxHeartbeats 4000000 in
theorem laws18 (x y z : Int) (hx : I64 x) (hy : I64 y) (hz : I64 z) (W : World) : Calls Try.prog 3 #[.int .i64 x, .int .i64 y, .int .i64 z] W fun e w' => e = .returned (.bool true) ∧ Below W.heap.size W w' := by
  have HK := hide (known18 W)
  have HX := hide (fun w => pick18_c x 256 (by decide) hx 256 rfl w)
  have HY := hide (fun w => pick18_c y 256 (by decide) hy 256 rfl w)
  have HZ := hide (fun w => pick18_c z 256 (by decide) hz 256 rfl w)
  have ha := pickP_lt x 256 (by decide)
  have hb := pickP_lt y 256 (by decide)
  have hc := pickP_lt z 256 (by decide)
  generalize pickP x 256 = a at *
  generalize pickP y 256 = b at *
  generalize pickP z 256 = c at *
  have hab := gm_lt a b ha hb
  have hbc := gm_lt b c hb hc
  have hac := gm_lt a c ha hc
  have hxor := xor_lt8 hb hc
  have M1 := hide (fun w => mul18 a b ha hb w)
  have M2 := hide (fun w => mul18 b c hb hc w)
  have M3 := hide (fun w => mul18 a c ha hc w)
  have M4 := hide (fun w => mul18 a (b ^^^ c) ha hxor w)
  have M5 := hide (fun w => mul18 b a hb ha w)
  have M6 := hide (fun w => mul18 (gm a b) c hab hc w)
  have M7 := hide (fun w => mul18 a (gm b c) ha hbc w)
  have M8 := hide (fun w => mul18 a 1 ha (by decide) w)
  have M9 := hide (fun w => mul18 a 0 ha (by decide) w)
  rw [gm_right] at M4
  rw [gm_comm b a hb ha] at M5
  rw [gm_assoc a b c ha hb hc] at M6
  rw [gm_one a ha] at M8
  rw [gm_zero] at M9
  simp only [Int.cast_ofNat_Int] at M8 M9
  have e1 := xor64n b c (by omega) (by omega)
  have e2 := xor64n (gm a b) (gm a c) (by omega) (by omega)
  have HZE := hide (show (gm a b = 0 ↔ a = 0 ∨ b = 0) from ⟨fun h => gm_eq_zero ha hb h, fun h => by rcases h with h | h <;> rw [h]; exact zero_gm b; exact gm_zero a⟩)
  obtain ⟨iv, ie, HV, HIV⟩ : ∃ iv ie : Int, Hid (∀ w, Calls Try.prog 11 #[.int .i64 (a : Int)] w fun e w' => e = .returned (.tuple #[.int .i64 iv, .int .i64 ie]) ∧ w' = w) ∧ Hid ((a = 0 → iv = 0 ∧ ie = 184) ∧ (a ≠ 0 → iv = (giv a : Int) ∧ ie = 0)) := by
    by_cases h0 : a = 0
    · subst h0
      exact ⟨0, 184, hide (fun w => pInv_zero w), hide ⟨fun _ => ⟨rfl, rfl⟩, fun h => absurd rfl h⟩⟩
    · exact ⟨_, 0, hide (fun w => pInv_ok a ha h0 w), hide ⟨fun h => absurd h h0, fun _ => ⟨rfl, rfl⟩⟩⟩
  have HMI := hide (fun (h0 : a ≠ 0) w => mul18 a (giv a) ha (giv_lt a ha) w)
  have HGV := hide (fun (h0 : a ≠ 0) => (giv_ok a ha h0).1)
  generalize gm a b = ab at *
  generalize gm b c = bc at *
  generalize gm a c = ac at *
  obtain ⟨abc, habc⟩ : ∃ q, gm a bc = q := ⟨_, rfl⟩
  rw [habc] at M6 M7
  clear habc hx hy hz
  obtain ⟨xr, hxr⟩ : ∃ q, b ^^^ c = q := ⟨_, rfl⟩
  rw [hxr] at e1 M4 hxor
  obtain ⟨xs, hxs⟩ : ∃ q, ab ^^^ ac = q := ⟨_, rfl⟩
  rw [hxs] at e2 M4
  clear hxr hxs
  have l1 : ¬ (ab : Int) < 0 := by omega
  have l2 : ¬ (bc : Int) < 0 := by omega
  have l3 : ¬ (ac : Int) < 0 := by omega
  have l4 : ¬ (255 : Int) < (ab : Int) := by omega
  by_cases h0 : a = 0
  · obtain ⟨rfl, rfl⟩ := (unhide HIV).1 h0
    subst h0
    simp only [Int.cast_ofNat_Int] at *
    clear HIV HMI HGV HZE
    go_enter Try.func3, Try.ntmps3
    go_wp2_with fail
    refine (unhide HK).mono ?_
    rintro e w1 ⟨rfl, hb1⟩
    have HB := hide hb1
    clear hb1 HK
    go_wp2_with fail
    refine (unhide HX _).mono ?_
    rintro e w' ⟨rfl, hw'⟩
    subst w'
    go_wp2_with fail
    refine (unhide HY _).mono ?_
    rintro e w' ⟨rfl, hw'⟩
    subst w'
    go_wp2_with fail
    refine (unhide HZ _).mono ?_
    rintro e w' ⟨rfl, hw'⟩
    subst w'
    go_wp2_with fail
    refine (unhide M1 _).mono ?_
    rintro e w' ⟨rfl, hw'⟩
    subst w'
    go_wp2_with fail
    refine (unhide M2 _).mono ?_
    rintro e w' ⟨rfl, hw'⟩
    subst w'
    go_wp2_with fail
    refine (unhide M3 _).mono ?_
    rintro e w' ⟨rfl, hw'⟩
    subst w'
    go_wp2_with fail
    refine (unhide M4 _).mono ?_
    rintro e w' ⟨rfl, hw'⟩
    subst w'
    go_wp2_with fail
    refine (unhide HV _).mono ?_
    rintro e w' ⟨rfl, hw'⟩
    subst w'
    go_wp2_with fail
    refine (unhide M5 _).mono ?_
    rintro e w' ⟨rfl, hw'⟩
    subst w'
    go_wp2_with fail
    refine (unhide M6 _).mono ?_
    rintro e w' ⟨rfl, hw'⟩
    subst w'
    go_wp2_with fail
    refine (unhide M7 _).mono ?_
    rintro e w' ⟨rfl, hw'⟩
    subst w'
    go_wp2_with fail
    refine (unhide M8 _).mono ?_
    rintro e w' ⟨rfl, hw'⟩
    subst w'
    go_wp2_with fail
    refine (unhide M9 _).mono ?_
    rintro e w' ⟨rfl, hw'⟩
    subst w'
    go_wp2
    go_ret
    exact ⟨rfl, unhide HB⟩
  · obtain ⟨rfl, rfl⟩ := (unhide HIV).2 h0
    have h0' : ((a : Int) == 0) = false := by simp; omega
    have HI1 := hide (unhide HMI h0)
    rw [unhide HGV h0] at HI1
    simp only [Int.cast_ofNat_Int] at HI1
    have hzz : ((ab : Int) == 0) = ((b : Int) == 0) := by
      by_cases hb0 : b = 0
      · have := (unhide HZE).2 (.inr hb0)
        rw [this, hb0]
      · have : ab ≠ 0 := fun h => by
          rcases (unhide HZE).1 h with q | q
          · exact h0 q
          · exact hb0 q
        have e5 : ((ab : Int) == 0) = false := by simp; omega
        have e6 : ((b : Int) == 0) = false := by simp; omega
        rw [e5, e6]
    generalize giv a = gv at *
    clear HIV h0 HZE HMI HGV
    go_enter Try.func3, Try.ntmps3
    go_wp2_with fail
    refine (unhide HK).mono ?_
    rintro e w1 ⟨rfl, hb1⟩
    have HB := hide hb1
    clear hb1 HK
    go_wp2_with fail
    refine (unhide HX _).mono ?_
    rintro e w' ⟨rfl, hw'⟩
    subst w'
    go_wp2_with fail
    refine (unhide HY _).mono ?_
    rintro e w' ⟨rfl, hw'⟩
    subst w'
    go_wp2_with fail
    refine (unhide HZ _).mono ?_
    rintro e w' ⟨rfl, hw'⟩
    subst w'
    go_wp2_with fail
    refine (unhide M1 _).mono ?_
    rintro e w' ⟨rfl, hw'⟩
    subst w'
    go_wp2_with fail
    refine (unhide M2 _).mono ?_
    rintro e w' ⟨rfl, hw'⟩
    subst w'
    go_wp2_with fail
    refine (unhide M3 _).mono ?_
    rintro e w' ⟨rfl, hw'⟩
    subst w'
    go_wp2_with fail
    refine (unhide M4 _).mono ?_
    rintro e w' ⟨rfl, hw'⟩
    subst w'
    go_wp2_with fail
    refine (unhide HV _).mono ?_
    rintro e w' ⟨rfl, hw'⟩
    subst w'
    go_wp2_with fail
    refine (unhide M5 _).mono ?_
    rintro e w' ⟨rfl, hw'⟩
    subst w'
    go_wp2_with fail
    refine (unhide M6 _).mono ?_
    rintro e w' ⟨rfl, hw'⟩
    subst w'
    go_wp2_with fail
    refine (unhide M7 _).mono ?_
    rintro e w' ⟨rfl, hw'⟩
    subst w'
    go_wp2_with fail
    refine (unhide M8 _).mono ?_
    rintro e w' ⟨rfl, hw'⟩
    subst w'
    go_wp2_with fail
    refine (unhide M9 _).mono ?_
    rintro e w' ⟨rfl, hw'⟩
    subst w'
    go_wp2_with fail
    refine (unhide HI1 _).mono ?_
    rintro e w' ⟨rfl, hw'⟩
    subst w'
    cases hbb : ((b : Int) == 0) with
    | true =>
      rw [hbb] at hzz
      go_wp2
      go_ret
      exact ⟨rfl, unhide HB⟩
    | false =>
      rw [hbb] at hzz
      go_wp2
      go_ret
      exact ⟨rfl, unhide HB⟩
end Go.Proofs.Ytfhapaffifhkiaa
