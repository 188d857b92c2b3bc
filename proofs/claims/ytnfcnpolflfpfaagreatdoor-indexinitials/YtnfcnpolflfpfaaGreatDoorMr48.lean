import Derived.Test.YtnfcnpolflfpfaaGreatDoorMr47
import Derived.Test.YtnfcnpolflfpfaaGreatDoorMr06
import Derived.StillTailTactics
import Derived.BigRegion
namespace Go.Proofs.YtnfcnpolflfpfaaGreatDoor
open Go.RowKit
set_option maxRecDepth 100000 in
set_option maxHeartbeats 2000000 in
theorem rmake_any (kind number : Int) (body : ByteArray) (w : World) :
    Calls Tryz.prog 116 #[.agg #[.int .i64 kind, .int .i64 number, .string body]] w fun e w' => e = .returned (.tuple #[.string (makeB kind number body), .int .i64 (errM kind number body.size)]) ∧ Below w.heap.size w w' := by
  by_cases hok : fitsP kind 1 ∧ fitsP number 4
  · obtain ⟨hk, hn⟩ := hok
    have hk' := (fits1 kind).1 hk
    have hn' := (fits4 number).1 hn
    obtain ⟨K, rfl⟩ := Int.eq_ofNat_of_zero_le hk'.1
    obtain ⟨N, rfl⟩ := Int.eq_ofNat_of_zero_le hn'.1
    by_cases hb : body.size ≤ 244
    · have hE : errM (K : Int) (N : Int) body.size = 0 := by rw [errM, if_neg (by simp [hk, hn]), if_neg (by omega)]
      rw [makeB, if_pos hE, hE]
      exact rmake_ok K N body (by omega) (by omega) hb w
    · have hE : errM (K : Int) (N : Int) body.size = 32 := by rw [errM, if_neg (by simp [hk, hn]), if_pos (by omega)]
      rw [makeB, if_neg (by rw [hE]; decide), hE]
      have hb' : 244 < body.size := by omega
      have hk255 : K ≤ 255 := by omega
      have hn255 : N ≤ 4294967295 := by omega
      clear hk hn hE hk' hn'
      go_enter Tryz.func116, Tryz.ntmps116
      go_wp2
      go_ret2
      exact ⟨rfl, (Below.refl _ w).alloc (Nat.le_refl _) _⟩
  · have hE : errM kind number body.size = 1 := by rw [errM, if_pos (by by_cases hk : fitsP kind 1 <;> by_cases hn : fitsP number 4 <;> simp_all)]
    rw [makeB, if_neg (by rw [hE]; decide), hE]
    rw [fits1, fits4] at hok
    clear hE
    by_cases h1 : kind < 0
    · clear hok
      go_enter Tryz.func116, Tryz.ntmps116
      go_wp2
      go_ret2
      exact ⟨rfl, (Below.refl _ w).alloc (Nat.le_refl _) _⟩
    · by_cases h2 : 255 < kind
      · clear hok
        go_enter Tryz.func116, Tryz.ntmps116
        go_wp2
        go_ret2
        exact ⟨rfl, (Below.refl _ w).alloc (Nat.le_refl _) _⟩
      · by_cases h3 : number < 0
        · clear hok
          go_enter Tryz.func116, Tryz.ntmps116
          go_wp2
          go_ret2
          exact ⟨rfl, (Below.refl _ w).alloc (Nat.le_refl _) _⟩
        · have h4 : 4294967295 < number := by omega
          clear hok
          go_enter Tryz.func116, Tryz.ntmps116
          go_wp2
          go_ret2
          exact ⟨rfl, (Below.refl _ w).alloc (Nat.le_refl _) _⟩
/-- The number that stands at a page's bytes 4 to 7, as far as it was read. -/
def nm4 (s : ByteArray) (j : Nat) : Int := beN (((nums s).drop 4).take j)
end Go.Proofs.YtnfcnpolflfpfaaGreatDoor
