import Derived.Test.YtolblldpdgfkmaaDoorGra
import Derived.Test.YtolblldpdgfkmaaDoorBlk
import Derived.Deep.AppendLies
import Derived.Laws.OwnMore
namespace Go.Proofs.YtolblldpdgfkmaaDoor
open Go.RowKit
set_option maxRecDepth 100000
set_option maxHeartbeats 1000000 in
theorem rinv_any (a : Nat) (ha : a < 256) (w : World) : Calls Tryd.prog 65 #[.int .i64 (a : Int)] w fun e w' => e = .returned (.int .i64 (giv a : Int)) ∧ w' = w := by
  go_enter Tryd.func65, Tryd.ntmps65
  go_wp2
  go_loopw [3, 4] (fun i _ wr => ∃ k : Nat, 1 ≤ k ∧ k ≤ 256 ∧ i = .int .i64 (k : Int) ∧ Hid (∀ j, 1 ≤ j → j < k → gm a j ≠ 1) ∧ wr = w) (fun i _ _ => 256 - (intOf i).toNat)
  case atStart => exact ⟨1, by omega, by omega, rfl, hide (fun j h1 h2 => by omega), rfl⟩
  case round =>
    obtain ⟨k, hk1, hk, rfl, hn, hw⟩ := hrel
    subst wr
    by_cases hk6 : k < 256
    · have hk6' : (k : Int) < 256 := by omega
      have HM := hide (rmul_any a k ha hk6 w)
      have hwk : IntKind.i64.wrap ((k : Int) + 1) = (k : Int) + 1 := wrapI_eq _ (by omega) (by omega)
      by_cases he : gm a k = 1
      · have HE := hide (show (k : Int) = (giv a : Int) from by rw [giv_uniq ha hk6 he])
        rw [he] at HM
        simp only [Int.cast_ofNat_Int] at HM
        clear he
        go_wp2_with fail
        refine (unhide HM).mono ?_
        rintro e w' ⟨rfl, hw'⟩
        subst w'
        go_wp2
        rw [unhide HE]
        go_ret
        exact ⟨rfl, rfl⟩
      · have hne : ((gm a k : Int) == 1) = false := by simp; omega
        have HN := hide he
        generalize gm a k = z at HM hne
        clear he
        go_wp2_with fail
        refine (unhide HM).mono ?_
        rintro e w' ⟨rfl, hw'⟩
        subst w'
        go_wp2
        go_roundw
        case rel => exact ⟨k + 1, by omega, by omega, by go_num, hide (fun j h1 h2 => by
          by_cases e : j = k
          · rw [e]; exact unhide HN
          · exact unhide hn j h1 (by omega)), by first | rfl | trivial⟩
        case measure => simp [intOf]; omega
    · obtain rfl : k = 256 := by omega
      have hk6' : ¬ ((256 : Nat) : Int) < 256 := by omega
      have HE := hide (show giv a = 0 from by
        by_cases h0 : a = 0
        · rw [h0]; exact giv_zero
        · obtain ⟨h1, h2, h3⟩ := giv_ok a ha h0
          exact absurd h1 (unhide hn _ (by omega) h2))
      go_wp2
      go_ret
      exact ⟨by rw [unhide HE]; rfl, rfl⟩
theorem elem_any (a : Int) (w : World) : Calls Tryd.prog 66 #[.int .i64 a] w fun e w' => e = .returned (.bool (decide (0 ≤ a ∧ a < 256))) ∧ w' = w := by
  by_cases h : 0 ≤ a ∧ a < 256
  · have h1 : 0 ≤ a := h.1
    have h2 : a < 256 := h.2
    have HD := hide (decide_eq_true h)
    rw [unhide HD]
    clear h
    go_enter Tryd.func66, Tryd.ntmps66
    go_wp2
    go_ret
    exact ⟨rfl, rfl⟩
  · have HD := hide (decide_eq_false h)
    rw [unhide HD]
    by_cases h1 : 0 ≤ a
    · have h2 : ¬ a < 256 := fun q => h ⟨h1, q⟩
      clear h
      go_enter Tryd.func66, Tryd.ntmps66
      go_wp2
      go_ret
      exact ⟨rfl, rfl⟩
    · clear h
      go_enter Tryd.func66, Tryd.ntmps66
      go_wp2
      go_ret
      exact ⟨rfl, rfl⟩
end Go.Proofs.YtolblldpdgfkmaaDoor
