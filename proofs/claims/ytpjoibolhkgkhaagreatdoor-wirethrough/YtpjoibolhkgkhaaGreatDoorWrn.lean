import Derived.Test.YtpjoibolhkgkhaaGreatDoorWrt
import Derived.Test.YtpjoibolhkgkhaaGreatDoorNmb
namespace Go.Proofs.YtpjoibolhkgkhaaGreatDoor
open Go.RowKit
set_option maxHeartbeats 400000 in
theorem isWidth_any (n : Int) (w : World) : Calls Tryz.prog 57 #[.int .i64 n] w fun e w' => e = .returned (.bool (decide (1 ≤ n ∧ n ≤ 8))) ∧ w' = w := by
  by_cases h : 1 ≤ n
  · by_cases h8 : n ≤ 8
    · have hd : decide (1 ≤ n ∧ n ≤ 8) = true := decide_eq_true ⟨h, h8⟩
      rw [hd]
      go_enter Tryz.func57, Tryz.ntmps57
      go_wp2
      go_ret
      exact ⟨rfl, rfl⟩
    · have hd : decide (1 ≤ n ∧ n ≤ 8) = false := decide_eq_false (fun q => h8 q.2)
      rw [hd]
      go_enter Tryz.func57, Tryz.ntmps57
      go_wp2
      go_ret
      exact ⟨rfl, rfl⟩
  · have hd : decide (1 ≤ n ∧ n ≤ 8) = false := decide_eq_false (fun q => h q.1)
    rw [hd]
    go_enter Tryz.func57, Tryz.ntmps57
    go_wp2
    go_ret
    exact ⟨rfl, rfl⟩
set_option maxHeartbeats 400000 in
theorem fits_any (n : Int) (k : Nat) (hk : k ≤ 8) (w : World) : Calls Tryz.prog 59 #[.int .i64 n, .int .i64 (k : Int)] w fun e w' => e = .returned (.bool (decide (fitsP n k))) ∧ w' = w := by
  by_cases h : 0 ≤ n
  · obtain ⟨q, hq⟩ : ∃ q, n / 2 ^ (8 * k) = q := ⟨_, rfl⟩
    have ht : (8 * (k : Int)).toNat = 8 * k := by omega
    have hd : decide (fitsP n k) = (q == 0) := by
      rw [show (q == 0) = decide (q = 0) from rfl]
      apply decide_eq_decide.2
      rw [← hq]
      exact ⟨fun x => x.2, fun x => ⟨h, x⟩⟩
    rw [hd]
    clear hd
    have h2 : 8 * (k : Int) ≤ 64 := by omega
    go_enter Tryz.func59, Tryz.ntmps59
    go_wp2
    go_ret
    exact ⟨by rw [← hq]; rfl, rfl⟩
  · have hd : decide (fitsP n k) = false := decide_eq_false (fun q => h q.1)
    rw [hd]
    go_enter Tryz.func59, Tryz.ntmps59
    go_wp2
    go_ret
    exact ⟨rfl, rfl⟩
/-- One byte more, behind what was done since w. -/
theorem lay1 {w wr : World} {base b : Nat} {v : Value} {l : List Int} {e : Int} (h : WPost base b v l e w wr) (hb : base ≤ w.heap.size) (x : Int) (T : TypeId) (hsz : l.length + 1 ≤ 140737488355328) :
    Calls Tryz.prog 60 #[.pointer (some ⟨b, 0, none⟩), .slice (some ⟨wr.heap.size, 0, none⟩) 1 1] (wr.alloc (Obj.cells #[.int .u8 x] T)) fun ev w' => ev = .returned (.tuple #[]) ∧ WPost base b v (wl l e 0 [x]) e w w' := by
  obtain ⟨v1, h1, h2, h3⟩ := h
  have hA := (Only.refl (fun _ => False) wr).alloc (Obj.cells #[.int .u8 x] T)
  have hsw := h2.size
  refine (lay_any (wr.alloc (Obj.cells #[.int .u8 x] T)) base b v1 l e (h1.only hA (fun _ _ q => q)) (by simp; omega) ⟨wr.heap.size, 0, none⟩ 1 1 [x] rfl (fun j hj => ?_) hsz).mono ?_
  · obtain rfl : j = 0 := by omega
    simp [Addr.add]
  · rintro ev w' ⟨rfl, hp⟩
    refine ⟨rfl, ?_⟩
    rw [wl_ok]
    exact WPost.trans (h2.alloc _) h3 hp
end Go.Proofs.YtpjoibolhkgkhaaGreatDoor
