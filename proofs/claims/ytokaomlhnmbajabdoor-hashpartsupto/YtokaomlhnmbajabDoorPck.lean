import Derived.Test.YtokaomlhnmbajabDoorKn
import Derived.Deep.RegionWith
namespace Go.Proofs.YtokaomlhnmbajabDoor
open Go.RowKit
set_option maxHeartbeats 400000 in
theorem pick_any (c n : Int) (hn : 0 < n) (hc : -9223372036854775808 ≤ c) (hc2 : c ≤ 9223372036854775807) (w : World) :
    Calls Tryd.prog 7 #[.int .i64 c, .int .i64 n] w fun e w' => ∃ r : Nat, (r : Int) < n ∧ e = .returned (.int .i64 (r : Int)) ∧ w' = w := by
  by_cases h : c < 0
  · have e1 : (-(c + 1)).tmod n = (-(c + 1)) % n := Int.tmod_eq_emod_of_nonneg (by omega)
    have hp : 0 ≤ (-(c + 1)) % n := Int.emod_nonneg _ (by omega)
    have hl : (-(c + 1)) % n < n := Int.emod_lt_of_pos _ hn
    have hz : (n == 0) = false := by simp; omega
    go_enter Tryd.func7, Tryd.ntmps7
    go_wp2
    go_ret
    exact ⟨((-(c + 1)) % n).toNat, by omega, by simp; omega, rfl⟩
  · have e1 : c.tmod n = c % n := Int.tmod_eq_emod_of_nonneg (by omega)
    have hp : 0 ≤ c % n := Int.emod_nonneg _ (by omega)
    have hl : c % n < n := Int.emod_lt_of_pos _ hn
    have hz : (n == 0) = false := by simp; omega
    go_enter Tryd.func7, Tryd.ntmps7
    go_wp2
    go_ret
    exact ⟨(c % n).toNat, by omega, by simp; omega, rfl⟩
end Go.Proofs.YtokaomlhnmbajabDoor
