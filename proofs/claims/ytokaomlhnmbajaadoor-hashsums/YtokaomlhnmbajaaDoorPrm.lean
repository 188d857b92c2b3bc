import Derived.Test.YtokaomlhnmbajaaDoorLim
namespace Go.Proofs.YtokaomlhnmbajaaDoor
open Go.RowKit
def primeB (n : Nat) : Bool := decide (1 < n) && (List.range n).all (fun d => decide (d < 2) || decide (n < d * d) || decide (n % d ≠ 0))
theorem primeB_true (n : Nat) (h1 : 1 < n) (h : ∀ d, 2 ≤ d → d * d ≤ n → n % d ≠ 0) : primeB n = true := by
  simp only [primeB, Bool.and_eq_true, decide_eq_true_eq, List.all_eq_true, List.mem_range, Bool.or_eq_true]
  refine ⟨h1, fun d _ => ?_⟩
  by_cases h2 : d < 2
  · exact .inl (.inl h2)
  · by_cases h3 : n < d * d
    · exact .inl (.inr h3)
    · exact .inr (h d (by omega) (by omega))
theorem primeB_false (n d : Nat) (h2 : 2 ≤ d) (h3 : d * d ≤ n) (h4 : n % d = 0) : primeB n = false := by
  have hdn : d < n := by
    have : d * 2 ≤ d * d := Nat.mul_le_mul_left d h2
    omega
  cases e : primeB n with
  | false => rfl
  | true =>
    simp only [primeB, Bool.and_eq_true, decide_eq_true_eq, List.all_eq_true, List.mem_range, Bool.or_eq_true] at e
    rcases e.2 d hdn with (h | h) | h
    · omega
    · omega
    · exact absurd h4 h
set_option maxRecDepth 100000 in
set_option maxHeartbeats 400000 in
theorem prime_any (n : Nat) (h0 : 2 ≤ n) (h1 : n ≤ 400) (w : World) :
    Calls Tryd.prog 41 #[.int .i64 (n : Int)] w fun e w' => e = .returned (.bool (primeB n)) ∧ w' = w := by
  go_enter Tryd.func41, Tryd.ntmps41
  go_wp2
  go_loopw [3] (fun v wr => ∃ d : Nat, 2 ≤ d ∧ d ≤ n + 1 ∧ v = .int .i64 (d : Int) ∧ (∀ d', 2 ≤ d' → d' < d → n % d' ≠ 0) ∧ wr = w) (fun v _ => n + 1 - (intOf v).toNat)
  case atStart => exact ⟨2, by omega, by omega, rfl, fun d' _ _ => by omega, rfl⟩
  case round =>
    obtain ⟨d, hd0, hd1, rfl, hN, rfl⟩ := hrel
    obtain ⟨dd, hdd⟩ : ∃ dd : Int, dd = (d : Int) * (d : Int) := ⟨_, rfl⟩
    have hdn : dd = ((d * d : Nat) : Int) := by rw [hdd]; simp
    have hb : d * d ≤ 401 * 401 := Nat.mul_le_mul (by omega) (by omega)
    have hw : IntKind.i64.wrap ((d : Int) * (d : Int)) = dd := by rw [← hdd, IntKind.wrap_i64]; omega
    clear hdd
    by_cases hle : d * d ≤ n
    · have hdl : d ≤ n := by
        have : d * 1 ≤ d * d := Nat.mul_le_mul_left d (by omega)
        omega
      have hle2 : dd ≤ (n : Int) := by omega
      have hm : ((n : Int) % (d : Int)) = ((n % d : Nat) : Int) := by simp
      by_cases hz : n % d = 0
      · have HF := hide (primeB_false n d hd0 hle hz)
        have hz2 : ((n : Int) % (d : Int)) = 0 := by rw [hm, hz]; rfl
        clear hN hm
        go_wp2
        go_ret
        exact ⟨by rw [unhide HF]; rfl, rfl⟩
      · have hz2 : (((n : Int) % (d : Int)) == 0) = false := by rw [hm]; simp; omega
        have HN := hide hN
        clear hN hm
        go_wp2
        go_roundw
        case rel =>
          refine ⟨d + 1, by omega, by omega, by go_num, fun d' h2 h3 => ?_, trivial⟩
          rcases (show d' = d ∨ d' < d by omega) with rfl | h
          · exact hz
          · exact unhide HN d' h2 h
        case measure => simp [intOf]; omega
    · have HT : Hid (primeB n = true) := primeB_true n (by omega) fun d' h2 h3 => hN d' h2 (by
        rcases Nat.lt_or_ge d' d with h | h
        · exact h
        · have := Nat.mul_le_mul h h
          omega)
      have hle2 : ¬ dd ≤ (n : Int) := by omega
      clear hN
      go_wp2
      go_ret
      exact ⟨by rw [unhide HT]; simp; omega, rfl⟩
/-- The primes below m. -/
def prs (m : Nat) : List Int := ((List.range m).filter primeB).map (fun x : Nat => (x : Int))
theorem prs_succ (m : Nat) : prs (m + 1) = prs m ++ (if primeB m = true then [(m : Int)] else []) := by
  unfold prs
  rw [List.range_succ, List.filter_append, List.map_append]
  congr 1
  by_cases h : primeB m = true
  · simp [h]
  · simp [h]
theorem prs_len : (prs 311).length = 63 ∧ (prs 312).length = 64 := by decide +kernel
theorem prs_le (m : Nat) (h : m ≤ 311) : (prs m).length ≤ 63 := by
  rw [← prs_len.1]
  unfold prs
  rw [List.length_map, List.length_map]
  exact ((List.range_sublist.2 h).filter primeB).length_le
set_option maxRecDepth 100000 in
set_option maxHeartbeats 400000 in
theorem primes_any (w : World) :
    Calls Tryd.prog 31 #[.int .i64 64] w fun e w' => ∃ v, e = .returned v ∧ Isl w' w.heap.size v (prs 312) ∧ Below w.heap.size w w' := by
  go_enter Tryd.func31, Tryd.ntmps31
  go_wp2
  go_loopw [3, 4] (fun v i wr => ∃ m : Nat, 2 ≤ m ∧ m ≤ 312 ∧ i = .int .i64 (m : Int) ∧ Isl wr w.heap.size v (prs m) ∧ Below w.heap.size w wr) (fun _ i _ => 312 - (intOf i).toNat)
  case atStart => exact ⟨2, by omega, by omega, rfl, by rw [show prs 2 = [] by decide +kernel]; exact World.ownsRow_nil _ _ _ _, Below.refl _ _⟩
  case round =>
    obtain ⟨m, hm0, hm1, rfl, hI, hb⟩ := hrel
    obtain ⟨ad, cap, hv⟩ := hI.len
    by_cases hlt : m < 312
    · have hl := prs_le m (by omega)
      have hlc : ((prs m).length : Int) < 64 := by omega
      have HB := hide hb
      have HI := hide hI
      have HS := hide (prs_succ m)
      clear hb hI
      by_cases hp : primeB m = true
      · rw [if_pos hp] at HS
        subst hv
        go_wp2_with fail
        refine (prime_any m hm0 (by omega) wr).mono ?_
        rintro e w1 ⟨rfl, rfl⟩
        rw [hp]
        go_wp2_with (at_builtin; refine wpList_appI (w1.alloc (Obj.cells #[.int .i64 (m : Int)] 3)) rfl (.tmp 15) (.tmp 17) rfl w.heap.size _ _ rfl ((unhide HI).alloc _) (by have := (unhide HB).size; simp; omega) w1.heap.size (m : Int) rfl (by simp) (by omega) ?_; intro v1 W1 hB1 hb1; have HB1 := hide hB1; have Hb1 := hide (((unhide HB).alloc (unhide HB).size _).trans hb1); clear hB1 hb1)
        go_roundw
        case rel => exact ⟨m + 1, by omega, by omega, by go_num, by rw [unhide HS]; exact unhide HB1, unhide Hb1⟩
        case measure => simp [intOf]; omega
      · rw [if_neg hp, List.append_nil] at HS
        subst hv
        go_wp2_with fail
        refine (prime_any m hm0 (by omega) wr).mono ?_
        rintro e w1 ⟨rfl, rfl⟩
        rw [Bool.not_eq_true] at hp
        rw [hp]
        go_wp2
        go_roundw
        case rel => exact ⟨m + 1, by omega, by omega, by go_num, by rw [unhide HS]; exact unhide HI, unhide HB⟩
        case measure => simp [intOf]; omega
    · have em : m = 312 := by omega
      subst em
      rw [prs_len.2] at hv
      subst hv
      have HB := hide hb
      have HI := hide hI
      clear hb hI
      go_wp2
      go_ret
      exact ⟨_, rfl, unhide HI, unhide HB⟩
end Go.Proofs.YtokaomlhnmbajaaDoor
