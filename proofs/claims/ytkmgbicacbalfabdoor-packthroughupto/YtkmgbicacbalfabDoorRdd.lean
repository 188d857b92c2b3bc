import Derived.Test.YtkmgbicacbalfabDoorRdf
import Derived.BigQuiet
namespace Go.Proofs.YtkmgbicacbalfabDoor
open Go.RowKit
set_option maxRecDepth 100000 in
set_option maxHeartbeats 400000 in
theorem newReader_any (s : ByteArray) (w : World) :
    Calls Tryd.prog 16 #[.string s] w fun e w' => e = .returned (.pointer (some ⟨w.heap.size, 0, none⟩)) ∧ Rdr w' w.heap.size s 0 0 ∧ Below w.heap.size w w' ∧ w'.heap.size = w.heap.size + 1 := by
  go_enter Tryd.func16, Tryd.ntmps16
  go_wp2
  go_ret
  exact ⟨rfl, Blk.new _ _ _, (Below.refl _ _).alloc (Nat.le_refl _) _, by simp⟩
def doneE (r : ByteArray) (e : Int) : Int := if e = 0 ∧ 0 < r.size then 33 else e
set_option maxRecDepth 100000 in
set_option maxHeartbeats 1000000 in
theorem rdone_any (w : World) (b : Nat) (r : ByteArray) (t e : Int) (h : Rdr w b r t e) :
    Calls Tryd.prog 21 #[.pointer (some ⟨b, 0, none⟩)] w fun ev w' => ev = .returned (.tuple #[.int .i64 (doneE r e), .int .i64 t]) ∧ Below w.heap.size w w' := by
  obtain ⟨c0, c1, c2, f0, f1, f2⟩ := h.cells
  clear h
  by_cases he : e = 0
  · subst he
    by_cases hs : 0 < r.size
    · have hD : doneE r 0 = 33 := by rw [doneE, if_pos ⟨rfl, hs⟩]
      rw [hD]
      clear hD
      go_enter Tryd.func21, Tryd.ntmps21
      go_wp2
      go_quiet (fail)
      go_wp2
      go_ret2
      exact ⟨rfl, below_drewN (Below.refl _ _) _⟩
    · have hD : doneE r 0 = 0 := by rw [doneE, if_neg (fun q => hs q.2)]
      rw [hD]
      clear hD
      go_enter Tryd.func21, Tryd.ntmps21
      go_wp2
      go_quiet (fail)
      go_wp2
      go_ret2
      exact ⟨rfl, below_drewN (Below.refl _ _) _⟩
  · have hD : doneE r e = e := by rw [doneE, if_neg (fun q => he q.1)]
    rw [hD]
    have hne : (e == 0) = false := by simp [he]
    clear hD
    go_enter Tryd.func21, Tryd.ntmps21
    go_wp2
    go_quiet (fail)
    go_wp2
    go_ret2
    exact ⟨rfl, below_drewN (Below.refl _ _) _⟩
end Go.Proofs.YtkmgbicacbalfabDoor
