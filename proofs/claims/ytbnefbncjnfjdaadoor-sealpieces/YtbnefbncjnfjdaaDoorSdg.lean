import Derived.Test.YtbnefbncjnfjdaaDoorSsl
namespace Go.Proofs.YtbnefbncjnfjdaaDoor
open Go.RowKit
set_option maxHeartbeats 400000 in
theorem digest2_any (c : ByteArray) (w : World) (hK : KTab w) :
    Calls Tryd.prog 16 #[.string c] w fun e w' => e = .returned (.tuple #[.string (digB c), .int .i64 (errD c)]) ∧ Below w.heap.size w w' := by
  by_cases h2 : c.size = 256
  · have h2' : ((c.size : Int) != 256) = false := by simp; omega
    have HM := hide (sum_any c w hK (by omega))
    rw [show digB c = shaB c by rw [digB, if_pos h2], show errD c = 0 by rw [errD, if_pos h2]]
    clear hK h2
    go_enter Tryd.func16, Tryd.ntmps16
    go_wp2_with fail
    refine (unhide HM).mono ?_
    rintro e w2 ⟨rfl, hB⟩
    have HB := hide hB
    clear hB
    go_wp2
    go_ret2
    exact ⟨rfl, unhide HB⟩
  · have h2' : ((c.size : Int) != 256) = true := ne_int h2
    rw [show digB c = ⟨#[]⟩ by rw [digB, if_neg h2], show errD c = 23 by rw [errD, if_neg h2]]
    clear hK h2
    go_enter Tryd.func16, Tryd.ntmps16
    go_wp2
    go_ret2
    exact ⟨rfl, Below.refl _ _⟩
end Go.Proofs.YtbnefbncjnfjdaaDoor
