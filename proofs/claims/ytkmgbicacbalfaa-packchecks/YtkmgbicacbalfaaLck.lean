import Derived.Test.YtkmgbicacbalfaaRck
namespace Go.Proofs.Ytkmgbicacbalfaa
open Go.RowKit
theorem check_b (s : ByteArray) (G : Nat) (hG : G = chkN (nums s)) (hs : s.size ≤ 9223372036854775806) (w : World) :
    Calls Try.prog 7 #[.string s] w fun e w' => e = .returned (.int .i64 (G : Int)) ∧ Below w.heap.size w w' :=
  (check_g s G hG hs w).mono (by rintro e w' ⟨rfl, rfl⟩; exact ⟨rfl, Below.refl _ _⟩)
theorem rcheck_b (s : ByteArray) (G : Nat) (hG : G = chkN (nums s)) (hs : s.size ≤ 9223372036854775806) (w : World) :
    Calls Try.prog 8 #[.string s] w fun e w' => e = .returned (.int .i64 (G : Int)) ∧ Below w.heap.size w w' :=
  (rcheck_g s G hG hs w).mono (by rintro e w' ⟨rfl, rfl⟩; exact ⟨rfl, Below.refl _ _⟩)
theorem check_known : 3421780262 = chkN (nums ⟨#[49, 50, 51, 52, 53, 54, 55, 56, 57]⟩) := by decide +kernel
set_option maxRecDepth 100000 in
set_option maxHeartbeats 1000000 in
theorem checks_walk (s t : ByteArray) (hs : s.size ≤ 140737488351232) (ht : t.size ≤ 140737488351232) (w : World) :
    Calls Try.prog 3 #[.string s, .string t] w fun e w' => e = .returned (.bool true) ∧ Below w.heap.size w w' := by
  have hst : (s ++ t).size = s.size + t.size := ByteArray.size_append
  have y1 : ¬ 9223372036854775807 < s.size + t.size := by omega
  obtain ⟨G, hG⟩ : ∃ G, G = chkN (nums s) := ⟨_, rfl⟩
  obtain ⟨G2, hG2⟩ : ∃ G2, G2 = chkN (nums (s ++ t)) := ⟨_, rfl⟩
  have H0 := hide (fun W => check_b ⟨#[49, 50, 51, 52, 53, 54, 55, 56, 57]⟩ 3421780262 check_known (by decide) W)
  have H1 := hide (fun W => check_b s G hG (by omega) W)
  have H2 := hide (fun W => check_b (s ++ t) G2 hG2 (by omega) W)
  have H3 := hide (fun W => rcheck_b s G hG (by omega) W)
  have H4 := hide (fun W => rcheck_b (s ++ t) G2 hG2 (by omega) W)
  have B0 := hide (Below.refl w.heap.size w)
  clear hG hG2 hst
  go_enter Try.func3, Try.ntmps3
  go_wp2_with fail
  refine (unhide H0 _).mono ?_
  rintro e w1 ⟨rfl, hB⟩
  have B1 := hide ((unhide B0).trans (hB.mono (unhide B0).size))
  clear hB B0 H0
  go_wp2_with fail
  refine (unhide H1 _).mono ?_
  rintro e w2 ⟨rfl, hB⟩
  have B2 := hide ((unhide B1).trans (hB.mono (unhide B1).size))
  clear hB B1 H1
  go_wp2_with fail
  refine (unhide H2 _).mono ?_
  rintro e w3 ⟨rfl, hB⟩
  have B3 := hide ((unhide B2).trans (hB.mono (unhide B2).size))
  clear hB B2 H2
  go_wp2_with fail
  refine (unhide H3 _).mono ?_
  rintro e w4 ⟨rfl, hB⟩
  have B4 := hide ((unhide B3).trans (hB.mono (unhide B3).size))
  clear hB B3 H3
  go_wp2_with fail
  refine (unhide H4 _).mono ?_
  rintro e w5 ⟨rfl, hB⟩
  have B5 := hide ((unhide B4).trans (hB.mono (unhide B4).size))
  clear hB B4 H4
  go_wp2
  go_ret
  exact ⟨rfl, unhide B5⟩
end Go.Proofs.Ytkmgbicacbalfaa
