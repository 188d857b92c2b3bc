import Derived.Test.YtilhilglokblpaaDoorQmc
import Derived.Test.YtilhilglokblpaaDoorQpw
namespace Go.Proofs.YtilhilglokblpaaDoor
open Go.RowKit
set_option maxRecDepth 100000
theorem and64one (c : Nat) (h : c < 9223372036854775808) : bits .and .i64 (c : Int) 1 = ((c % 2 : Nat) : Int) := by
  have hx : c &&& 1 = c % 2 := Nat.and_one_is_mod c
  have h1 : (BitVec.ofInt 64 (c : Int)).toNat = c := by
    rw [BitVec.ofInt_natCast, BitVec.toNat_ofNat]; exact Nat.mod_eq_of_lt (by omega)
  have h2 : (BitVec.ofInt 64 (1 : Int)).toNat = 1 := by decide
  show IntKind.i64.wrap ((BitVec.ofInt 64 (c : Int) &&& BitVec.ofInt 64 (1 : Int)).toNat : Int) = _
  rw [BitVec.toNat_and, h1, h2, hx, IntKind.wrap_i64]
  omega
/-- a bit of a number, as it is asked for -/
theorem peak_bit (n p : Nat) (hn : n ≤ 4096) : (bits .and .i64 ((n : Int) / 2 ^ p) 1 == 1) = decide (n / 2 ^ p % 2 = 1) := by
  have e : ((n : Int) / 2 ^ p) = ((n / 2 ^ p : Nat) : Int) := by simp
  have h1 := Nat.div_le_self n (2 ^ p)
  rw [e, and64one _ (by omega)]
  generalize n / 2 ^ p % 2 = z
  by_cases h : z = 1
  · subst h; rfl
  · rw [decide_eq_false h]
    simp
    omega
set_option maxHeartbeats 1000000 in
theorem size_any (g n : Nat) (w : World) (h : w.cell? ⟨g, 0, none⟩ = some (.int .i64 (n : Int))) : Calls Tryd.prog 10 #[.pointer (some ⟨g, 0, none⟩)] w fun e w' => e = .returned (.int .i64 (n : Int)) ∧ w' = w := by
  go_enter Tryd.func10, Tryd.ntmps10
  go_wp2
  go_ret
  exact ⟨rfl, rfl⟩
set_option maxHeartbeats 1000000 in
theorem hasPeak_any (g n p : Nat) (hn : n ≤ 4096) (hp : p ≤ 13) (w : World) (h : w.cell? ⟨g, 0, none⟩ = some (.int .i64 (n : Int))) : Calls Tryd.prog 23 #[.pointer (some ⟨g, 0, none⟩), .int .i64 (p : Int)] w fun e w' => e = .returned (.bool (decide (n / 2 ^ p % 2 = 1))) ∧ w' = w := by
  go_enter Tryd.func23, Tryd.ntmps23
  go_wp2
  go_ret
  refine ⟨?_, rfl⟩
  rw [← peak_bit n p hn]
  rfl
end Go.Proofs.YtilhilglokblpaaDoor
