import Derived.Test.YtokaomlhnmbajabDoorMac
import Derived.Test.YtokaomlhnmbajabDoorUnh
namespace Go.Proofs.YtokaomlhnmbajabDoor
open Go.RowKit
theorem abc_hex : strOfNums (hexP (nums (strOfNums (sha (nums ⟨#[97, 98, 99]⟩))))) = ⟨#[98, 97, 55, 56, 49, 54, 98, 102, 56, 102, 48, 49, 99, 102, 101, 97, 52, 49, 52, 49, 52, 48, 100, 101, 53, 100, 97, 101, 50, 50, 50, 51, 98, 48, 48, 51, 54, 49, 97, 51, 57, 54, 49, 55, 55, 97, 57, 99, 98, 52, 49, 48, 102, 102, 54, 49, 102, 50, 48, 48, 49, 53, 97, 100]⟩ := by kernel_rfl
theorem jefe_hex : strOfNums (hexP (nums (strOfNums (macP (nums ⟨#[74, 101, 102, 101]⟩) (nums ⟨#[119, 104, 97, 116, 32, 100, 111, 32, 121, 97, 32, 119, 97, 110, 116, 32, 102, 111, 114, 32, 110, 111, 116, 104, 105, 110, 103, 63]⟩))))) = ⟨#[53, 98, 100, 99, 99, 49, 52, 54, 98, 102, 54, 48, 55, 53, 52, 101, 54, 97, 48, 52, 50, 52, 50, 54, 48, 56, 57, 53, 55, 53, 99, 55, 53, 97, 48, 48, 51, 102, 48, 56, 57, 100, 50, 55, 51, 57, 56, 51, 57, 100, 101, 99, 53, 56, 98, 57, 54, 52, 101, 99, 51, 56, 52, 51]⟩ := by kernel_rfl
theorem unhex_0a (w : World) : Calls Tryd.prog 18 #[.string ⟨#[48, 97]⟩] w fun e w' => e = .returned (.tuple #[.string ⟨#[10]⟩, .int .i64 0]) ∧ Below w.heap.size w w' := by
  refine (unhex_any ⟨#[48, 97]⟩ (by decide) w).mono ?_
  rintro e w' ⟨h, hb⟩
  refine ⟨?_, hb⟩
  have hok : okHex (nums ⟨#[48, 97]⟩) := by
    refine ⟨by decide, ?_⟩
    intro j hj
    have : j < 2 := hj
    rcases (show j = 0 ∨ j = 1 by omega) with rfl | rfl <;> decide
  rcases h with ⟨_, h⟩ | ⟨h, _⟩
  · rw [h]
    have : strOfNums (decd (nums ⟨#[48, 97]⟩) ((ByteArray.mk #[48, 97]).size / 2)) = ⟨#[10]⟩ := by kernel_rfl
    rw [this]
  · exact absurd hok h
theorem sum_abc (w : World) (hK : KTab w) : Calls Tryd.prog 13 #[.string ⟨#[97, 98, 99]⟩] w fun e w' => ∃ t, e = .returned (.string t) ∧ Hid (t = strOfNums (sha (nums ⟨#[97, 98, 99]⟩))) ∧ Below w.heap.size w w' :=
  (sum_any ⟨#[97, 98, 99]⟩ w hK (by decide)).mono fun _ _ h => ⟨_, h.1, rfl, h.2⟩
theorem hex_abc (t : ByteArray) (ht : t = strOfNums (sha (nums ⟨#[97, 98, 99]⟩))) (w : World) : Calls Tryd.prog 16 #[.string t] w fun e w' => e = .returned (.string ⟨#[98, 97, 55, 56, 49, 54, 98, 102, 56, 102, 48, 49, 99, 102, 101, 97, 52, 49, 52, 49, 52, 48, 100, 101, 53, 100, 97, 101, 50, 50, 50, 51, 98, 48, 48, 51, 54, 49, 97, 51, 57, 54, 49, 55, 55, 97, 57, 99, 98, 52, 49, 48, 102, 102, 54, 49, 102, 50, 48, 48, 49, 53, 97, 100]⟩) ∧ Below w.heap.size w w' :=
  (hex_any t (by rw [ht, strOfNums_size, sha_len]; decide) w).mono fun _ _ h => ⟨by rw [h.1, ht, abc_hex], h.2⟩
theorem mac_jefe (w : World) (hK : KTab w) : Calls Tryd.prog 17 #[.string ⟨#[74, 101, 102, 101]⟩, .string ⟨#[119, 104, 97, 116, 32, 100, 111, 32, 121, 97, 32, 119, 97, 110, 116, 32, 102, 111, 114, 32, 110, 111, 116, 104, 105, 110, 103, 63]⟩] w fun e w' => ∃ t, e = .returned (.string t) ∧ Hid (t = strOfNums (macP (nums ⟨#[74, 101, 102, 101]⟩) (nums ⟨#[119, 104, 97, 116, 32, 100, 111, 32, 121, 97, 32, 119, 97, 110, 116, 32, 102, 111, 114, 32, 110, 111, 116, 104, 105, 110, 103, 63]⟩))) ∧ Below w.heap.size w w' :=
  (mac_any ⟨#[74, 101, 102, 101]⟩ ⟨#[119, 104, 97, 116, 32, 100, 111, 32, 121, 97, 32, 119, 97, 110, 116, 32, 102, 111, 114, 32, 110, 111, 116, 104, 105, 110, 103, 63]⟩ (by decide) (by decide) w hK).mono fun _ _ h => ⟨_, h.1, rfl, h.2⟩
theorem hex_jefe (t : ByteArray) (ht : t = strOfNums (macP (nums ⟨#[74, 101, 102, 101]⟩) (nums ⟨#[119, 104, 97, 116, 32, 100, 111, 32, 121, 97, 32, 119, 97, 110, 116, 32, 102, 111, 114, 32, 110, 111, 116, 104, 105, 110, 103, 63]⟩))) (w : World) : Calls Tryd.prog 16 #[.string t] w fun e w' => e = .returned (.string ⟨#[53, 98, 100, 99, 99, 49, 52, 54, 98, 102, 54, 48, 55, 53, 52, 101, 54, 97, 48, 52, 50, 52, 50, 54, 48, 56, 57, 53, 55, 53, 99, 55, 53, 97, 48, 48, 51, 102, 48, 56, 57, 100, 50, 55, 51, 57, 56, 51, 57, 100, 101, 99, 53, 56, 98, 57, 54, 52, 101, 99, 51, 56, 52, 51]⟩) ∧ Below w.heap.size w w' :=
  (hex_any t (by rw [ht, strOfNums_size, mac_len]; decide) w).mono fun _ _ h => ⟨by rw [h.1, ht, jefe_hex], h.2⟩
set_option maxRecDepth 100000 in
set_option maxHeartbeats 400000 in
theorem known_any (w : World) (hK : KTab w) : Calls Tryd.prog 5 #[] w fun e w' => e = .returned (.bool true) ∧ Below w.heap.size w w' := by
  have HK := hide hK
  clear hK
  go_enter Tryd.func5, Tryd.ntmps5
  go_wp2_with fail
  refine (sum_abc w (unhide HK)).mono ?_
  rintro e w1 ⟨t1, rfl, h1, b1⟩
  have HB1 := hide b1
  clear b1
  go_wp2_with fail
  refine (hex_abc t1 (unhide h1) w1).mono ?_
  rintro e w2 ⟨rfl, b2⟩
  have HB2 := hide ((unhide HB1).trans (b2.mono (unhide HB1).size))
  clear b2 HB1
  go_wp2_with fail
  refine (mac_jefe w2 ((unhide HK).below (unhide HB2) (unhide HK).1)).mono ?_
  rintro e w3 ⟨t3, rfl, h3, b3⟩
  have HB3 := hide ((unhide HB2).trans (b3.mono (unhide HB2).size))
  clear b3 HB2
  go_wp2_with fail
  refine (hex_jefe t3 (unhide h3) w3).mono ?_
  rintro e w4 ⟨rfl, b4⟩
  have HB4 := hide ((unhide HB3).trans (b4.mono (unhide HB3).size))
  clear b4 HB3
  go_wp2_with fail
  refine (unhex_0a w4).mono ?_
  rintro e w5 ⟨rfl, b5⟩
  have HB5 := hide ((unhide HB4).trans (b5.mono (unhide HB4).size))
  clear b5 HB4
  go_wp2
  go_ret
  exact ⟨rfl, unhide HB5⟩
end Go.Proofs.YtokaomlhnmbajabDoor
