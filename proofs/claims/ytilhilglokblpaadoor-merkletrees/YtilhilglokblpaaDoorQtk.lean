import Derived.Test.YtilhilglokblpaaDoorQtu
namespace Go.Proofs.YtilhilglokblpaaDoor
open Go.RowKit
set_option maxRecDepth 100000
/-- how many ones a number has -/
def kcF : Nat → Nat → Nat
  | 0, _ => 0
  | f + 1, n => n % 2 + kcF f (n / 2)
def kc (n : Nat) : Nat := kcF 13 n
theorem kcF_zero : ∀ f, kcF f 0 = 0
  | 0 => rfl
  | f + 1 => by rw [kcF, Nat.zero_div, kcF_zero f]
theorem kcF_le : ∀ f n, kcF f n ≤ f
  | 0, _ => Nat.le_refl _
  | f + 1, n => by
    have := kcF_le f (n / 2)
    rw [kcF]
    omega
theorem kc_le (n : Nat) : kc n ≤ 13 := kcF_le _ _
def oA (n : Int) : Int := IntKind.u64.wrap (bits .and .u64 (n / 2) 6148914691236517205 + bits .and .u64 n 6148914691236517205)
def oB (n : Int) : Int := IntKind.u64.wrap (bits .and .u64 (n / 4) 3689348814741910323 + bits .and .u64 n 3689348814741910323)
def oC (n : Int) : Int := bits .and .u64 (IntKind.u64.wrap (n / 16 + n)) 1085102592571150095
def oD (n : Int) : Int := IntKind.u64.wrap (n + n / 256)
def oE (n : Int) : Int := IntKind.u64.wrap (n + n / 65536)
def oF (n : Int) : Int := IntKind.u64.wrap (n + n / 4294967296)
def oG (n : Int) : Int := bits .and .i64 (wrap64 n) 127
theorem kc_all : ((List.range 65).all fun a => (List.range 64).all fun b => Nat.blt 4096 (64 * a + b) || oG (oF (oE (oD (oC (oB (oA ((64 * a + b : Nat) : Int))))))) == (kc (64 * a + b) : Int)) = true := by decide +kernel
theorem kc_of (n : Nat) (h : n ≤ 4096) : oG (oF (oE (oD (oC (oB (oA (n : Int))))))) = (kc n : Int) := by
  have h1 := List.all_eq_true.1 (List.all_eq_true.1 kc_all (n / 64) (List.mem_range.2 (by omega))) (n % 64) (List.mem_range.2 (by omega))
  have e : 64 * (n / 64) + n % 64 = n := by omega
  rw [e] at h1
  have h9 : Nat.blt 4096 n = false := by
    cases hb : Nat.blt 4096 n
    · rfl
    · exfalso
      have : 4096 < n := by simpa [Nat.blt_eq] using hb
      omega
  rw [h9, Bool.false_or, beq_iff_eq] at h1
  exact h1
set_option maxHeartbeats 1000000 in
theorem ones64_any (n : Nat) (h : n ≤ 4096) (w : World) : Calls Tryd.prog 50 #[.int .u64 (n : Int)] w fun e w' => e = .returned (.int .i64 (kc n : Int)) ∧ w' = w := by
  have h9 := kc_of n h
  have h1 : IntKind.u64.wrap (bits .and .u64 ((n : Int) / 2) 6148914691236517205 + bits .and .u64 (n : Int) 6148914691236517205) = oA (n : Int) := rfl
  generalize oA (n : Int) = a at *
  have h2 : IntKind.u64.wrap (bits .and .u64 (a / 4) 3689348814741910323 + bits .and .u64 a 3689348814741910323) = oB a := rfl
  generalize oB a = b at *
  have h3 : bits .and .u64 (IntKind.u64.wrap (b / 16 + b)) 1085102592571150095 = oC b := rfl
  generalize oC b = c at *
  have h4 : IntKind.u64.wrap (c + c / 256) = oD c := rfl
  generalize oD c = d at *
  have h5 : IntKind.u64.wrap (d + d / 65536) = oE d := rfl
  generalize oE d = x at *
  have h6 : IntKind.u64.wrap (x + x / 4294967296) = oF x := rfl
  generalize oF x = y at *
  have h7 : bits .and .i64 (wrap64 y) 127 = (kc n : Int) := h9
  generalize kc n = z at *
  clear h9 h
  go_enter Tryd.func50, Tryd.ntmps50
  go_wp2
  go_ret
  exact ⟨rfl, rfl⟩
set_option maxHeartbeats 1000000 in
theorem ones_any (n : Nat) (h : n ≤ 4096) (w : World) : Calls Tryd.prog 36 #[.int .u64 (n : Int)] w fun e w' => e = .returned (.int .i64 (kc n : Int)) ∧ w' = w := by
  have HT := hide (ones64_any n h w)
  generalize kc n = z at *
  go_enter Tryd.func36, Tryd.ntmps36
  go_wp2_with fail
  refine (unhide HT).mono ?_
  rintro e y ⟨rfl, rfl⟩
  go_wp2
  go_ret
  exact ⟨rfl, rfl⟩
set_option maxHeartbeats 1000000 in
theorem kept_any (g n : Nat) (hn : n ≤ 4096) (w : World) (h : w.cell? ⟨g, 0, none⟩ = some (.int .i64 (n : Int))) : Calls Tryd.prog 18 #[.pointer (some ⟨g, 0, none⟩)] w fun e w' => e = .returned (.int .i64 (kc n : Int)) ∧ w' = w := by
  have HT := hide (ones_any n hn w)
  have hw : IntKind.u64.wrap (n : Int) = (n : Int) := by rw [IntKind.wrap_u64]; omega
  generalize kc n = z at *
  go_enter Tryd.func18, Tryd.ntmps18
  go_wp2_with fail
  refine (unhide HT).mono ?_
  rintro e y ⟨rfl, rfl⟩
  go_wp2
  go_ret
  exact ⟨rfl, rfl⟩
set_option maxHeartbeats 1000000 in
theorem rkept_any (n : Nat) (hn : n ≤ 4096) (w : World) : Calls Tryd.prog 19 #[.int .i64 (n : Int)] w fun e w' => e = .returned (.int .i64 (kc n : Int)) ∧ w' = w := by
  obtain ⟨z, hz⟩ : ∃ z, kc n = z := ⟨_, rfl⟩
  rw [hz]
  have HZ := hide (show 0 + kcF 13 n = z from by rw [← hz, kc]; omega)
  clear hz
  go_enter Tryd.func19, Tryd.ntmps19
  go_wp2
  go_loopw [0, 3] (fun a b wr => ∃ f m k : Nat, f ≤ 13 ∧ m < 2 ^ f ∧ k + f ≤ 13 ∧ k + kcF f m = z ∧ a = .int .i64 (m : Int) ∧ b = .int .i64 (k : Int) ∧ wr = w) (fun a _ _ => (intOf a).toNat)
  case atStart => exact ⟨13, n, 0, by omega, by omega, by omega, unhide HZ, rfl, rfl, by first | rfl | trivial⟩
  case round =>
    obtain ⟨f, m, k, hf, hm, hk, he, rfl, rfl, rfl⟩ := hrel
    have HE := hide he
    have HM := hide hm
    clear he hm
    by_cases h0 : 0 < m
    · have e1 : (m : Int) > 0 := by omega
      have e1' : (0 : Int) < (m : Int) := by omega
      obtain ⟨f', rfl⟩ : ∃ f', f = f' + 1 := by
        cases f with
        | zero => have := unhide HM; omega
        | succ f' => exact ⟨f', rfl⟩
      have e2 : (m : Int).tmod 2 = ((m % 2 : Nat) : Int) := by rw [Int.tmod_eq_emod_of_nonneg (by omega)]; omega
      have hm9 : m ≤ 100000000 := by
        have h1 := unhide HM
        have h2 : 2 ^ (f' + 1) ≤ 2 ^ 13 := Nat.pow_le_pow_right (by decide) hf
        have h3 : (2 : Nat) ^ 13 = 8192 := by decide
        omega
      have e3 : wrap64 ((m : Int) / 2) = ((m / 2 : Nat) : Int) := by rw [wrap64_eq _ (by omega) (by omega)]; omega
      have e4 : wrap64 ((k : Int) + ((m % 2 : Nat) : Int)) = ((k + m % 2 : Nat) : Int) := by rw [wrap64_eq _ (by omega) (by omega)]; omega
      go_wp2
      go_roundw
      case rel =>
        refine ⟨f', m / 2, k + m % 2, by omega, ?_, by omega, ?_, by go_num, by go_num, by first | rfl | trivial⟩
        · have := unhide HM
          rw [Nat.pow_succ] at this
          omega
        · have := unhide HE
          rw [kcF] at this
          omega
      case measure => simp [intOf] <;> omega
    · obtain rfl : m = 0 := by omega
      have he := unhide HE
      rw [kcF_zero] at he
      have e1 : ¬ ((0 : Nat) : Int) > 0 := by omega
      obtain rfl : k = z := by omega
      go_wp2
      go_ret
      exact ⟨rfl, rfl⟩
end Go.Proofs.YtilhilglokblpaaDoor
