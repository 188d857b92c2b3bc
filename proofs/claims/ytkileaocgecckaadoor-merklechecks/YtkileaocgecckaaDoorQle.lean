import Derived.Test.YtkileaocgecckaaDoorQla
import Derived.Test.YtkileaocgecckaaDoorQlh
import Derived.Test.YtkileaocgecckaaDoorQrb
namespace Go.Proofs.YtkileaocgecckaaDoor
open Go.RowKit
set_option maxRecDepth 100000
set_option maxHeartbeats 2000000 in
theorem checks19 (root : ByteArray) (N I0 : Int) (s : ByteArray) (hs : s.size ≤ 140737488351232) (P : List ByteArray) (q : Nat) (hq : P.length = q) (w : World) (c : Nat) (p : Option Addr) (hS : SB w w.heap.size p P) (hK : KTab w) (hq9 : q ≤ 8796093021952) (hpn : p = none → c = 0) : Calls Tryd.prog 6 #[.string root, .int .i64 N, .int .i64 I0, .string s, .slice p q c] w fun e w' => e = .returned (.bool true) ∧ Below w.heap.size w w' := by
  obtain ⟨h, hh⟩ : ∃ h, w.heap.size = h := ⟨_, rfl⟩
  rw [hh] at hS
  have HKB := hide (show ∀ W, Below h w W → KTab W from fun W hW => hK.below hW (by rw [← hh]; exact hK.1))
  have HSB := hide (show ∀ W, Below h w W → SB W h p P from fun W hW => hS.below hW)
  have HAW := hide (fun W (hW : Below h w W) => awake19 W (unhide HKB W hW))
  have HLE := hide (fun W (hW : Below h w W) => lent19 W P q c p hq ((unhide HSB W hW).mono (by have := hW.size; omega)) (by omega) hpn)
  have HCK := hide (fun W g (hW : Below h w W) (hL : LnK W g P q (q + 8)) (hg : g < W.heap.size) => check_any root N I0 s (by omega) P q hq W (g + 1) (q + 8) (some ⟨g, 0, none⟩) (hL.SB hq) (by omega) (unhide HKB W hW) (by omega) (by omega))
  have HKE := hide (fun W g (hW : Below h w W) (hL : LnK W g P q (q + 8)) => kept19 W P g q c p h hq hL (unhide HSB W hW) (by omega))
  have HRC := hide (fun W (hW : Below h w W) => rcheck_any root N I0 s (by omega) P q hq W c p ((unhide HSB W hW).mono (by have := hW.size; omega)) (by omega))
  have HB0 := hide (show Below h w w from Below.refl _ _)
  generalize ckE root N I0 s P = er at *
  have e8 : (q : Int) ≤ (q : Int) + 8 := by omega
  rw [hh]
  clear hS hK hq hs hpn
  go_enter Tryd.func6, Tryd.ntmps6
  go_wp2_with fail
  refine (unhide HAW _ (unhide HB0)).mono ?_
  rintro e y1 ⟨rfl, hb⟩
  have HB1 := hide (show Below h w y1 from (unhide HB0).trans (hb.mono (by omega)))
  clear hb
  go_wp2_with fail
  refine (unhide HLE _ (unhide HB1)).mono ?_
  rintro e y2 ⟨rfl, HL, hb⟩
  have HB2 := hide (show Below h w y2 from (unhide HB1).trans (hb.mono (by have := (unhide HB1).size; omega)))
  obtain ⟨g, hg⟩ : ∃ z, y1.heap.size = z := ⟨_, rfl⟩
  rw [hg] at HL
  have hgs : g < y2.heap.size := by
    obtain ⟨cur, hB, _⟩ := unhide HL
    exact hB.lt
  clear hb HB1
  go_wp2_with fail
  refine (unhide HCK _ g (unhide HB2) (unhide HL) hgs).mono ?_
  rintro e y3 ⟨rfl, hb⟩
  have HB3 := hide (show Below h w y3 from (unhide HB2).trans (hb.mono (by have := (unhide HB2).size; omega)))
  have HL3 := hide ((unhide HL).below (hb.mono (by omega)))
  clear hb HB2 HL
  go_wp2_with fail
  refine (unhide HKE _ g (unhide HB3) (unhide HL3)).mono ?_
  rintro e y4 ⟨rfl, hb⟩
  have HB4 := hide (show Below h w y4 from (unhide HB3).trans (hb.mono (by have := (unhide HB3).size; omega)))
  clear hb HB3
  go_wp2_with fail
  refine (unhide HRC _ (unhide HB4)).mono ?_
  rintro e y5 ⟨rfl, hb⟩
  have HB5 := hide (show Below h w y5 from (unhide HB4).trans (hb.mono (by have := (unhide HB4).size; omega)))
  clear hb HB4
  go_wp2
  go_ret
  exact ⟨rfl, unhide HB5⟩
end Go.Proofs.YtkileaocgecckaaDoor
