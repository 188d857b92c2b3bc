import Derived.Test.YtokaomlhnmbajaaDoorMde
import Derived.Test.YtokaomlhnmbajaaDoorSum
namespace Go.Proofs.YtokaomlhnmbajaaDoor
open Go.RowKit
set_option maxRecDepth 100000 in
set_option maxHeartbeats 400000 in
theorem sums_walk (s : ByteArray) (hs : s.size ≤ 140737488351232) (w : World) (hK : KTab w) :
    Calls Tryd.prog 5 #[.string s] w fun e w' => e = .returned (.bool true) ∧ Below w.heap.size w w' := by
  have HK := hide hK
  clear hK
  have C1 := hide (fun W hK => sum_any s W hK (by omega))
  have C2 := hide (fun W => rsum_any s (by omega) W)
  have hsz : (strOfNums (sha (nums s))).size = 32 := by rw [strOfNums_size, sha_len]
  generalize strOfNums (sha (nums s)) = A at *
  go_enter Tryd.func5, Tryd.ntmps5
  go_wp2_with fail
  refine (made_any w).mono ?_
  rintro e w1 ⟨rfl, hb1⟩
  have HB1 := hide hb1
  clear hb1
  go_wp2_with fail
  refine (unhide C1 _ ((unhide HK).below (unhide HB1) (unhide HK).1)).mono ?_
  rintro e w2 ⟨rfl, hb2⟩
  have HB2 := hide ((unhide HB1).trans (hb2.mono (unhide HB1).size))
  clear hb2 HB1
  go_wp2_with fail
  refine (unhide C2 _).mono ?_
  rintro e w3 ⟨rfl, hb3⟩
  have HB3 := hide ((unhide HB2).trans (hb3.mono (unhide HB2).size))
  clear hb3 HB2
  go_wp2_with fail
  refine (unhide C1 _ ((unhide HK).below (unhide HB3) (unhide HK).1)).mono ?_
  rintro e w4 ⟨rfl, hb4⟩
  have HB4 := hide ((unhide HB3).trans (hb4.mono (unhide HB3).size))
  clear hb4 HB3
  go_wp2
  go_ret
  exact ⟨by simp, unhide HB4⟩
end Go.Proofs.YtokaomlhnmbajaaDoor
