import Derived.Test.YtolblldpdgfkmaaDoorGpp
import Derived.Test.YtolblldpdgfkmaaDoorGlw
namespace Go.Proofs.YtolblldpdgfkmaaDoor
open Go.RowKit
set_option maxRecDepth 100000
theorem gm_ex : gm 2 128 = 29 := by decide +kernel
theorem giv_ex : giv 2 = 142 := by decide +kernel
theorem known18 (w : World) : Calls Tryd.prog 4 #[] w fun e w' => e = .returned (.bool true) ∧ Below w.heap.size w w' := by
  have H1 := hide (fun W => pMul_ok 2 128 (by decide) (by decide) W)
  rw [gm_ex] at H1
  simp only [Int.cast_ofNat_Int] at H1
  have H2 := hide (fun W => pInv_ok 2 (by decide) (by decide) W)
  rw [giv_ex] at H2
  simp only [Int.cast_ofNat_Int] at H2
  have H3 := hide (fun W => psplit_any W ⟨#[]⟩ 5 0)
  go_enter Tryd.func4, Tryd.ntmps4
  go_wp2_with fail
  refine (unhide H1 _).mono ?_
  rintro e w' ⟨rfl, hw'⟩
  subst w'
  go_wp2_with fail
  refine (unhide H2 _).mono ?_
  rintro e w' ⟨rfl, hw'⟩
  subst w'
  go_wp2_with fail
  refine (unhide H3 _).mono ?_
  rintro e w1 ⟨hb, _, _, h3⟩
  obtain ⟨v, rfl, ho⟩ := h3 (by decide) (by show 0 ≤ 60000; decide)
  obtain ⟨p, c, rfl, _⟩ := gr_form (show w1.ownsRow w.heap.size 9 1 v 5 _ from ho)
  have HB := hide hb
  clear hb h3 ho
  go_wp2
  go_ret
  exact ⟨rfl, unhide HB⟩
end Go.Proofs.YtolblldpdgfkmaaDoor
