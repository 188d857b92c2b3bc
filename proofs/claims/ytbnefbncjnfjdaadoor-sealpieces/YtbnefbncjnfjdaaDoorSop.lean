import Derived.Test.YtbnefbncjnfjdaaDoorSsl
namespace Go.Proofs.YtbnefbncjnfjdaaDoor
open Go.RowKit
theorem errO_20 {d k c : ByteArray} (h : ¬ (d.size = 32 ∧ k.size = 32)) : errO d k c = 20 := by
  unfold errO
  rw [if_neg h]
theorem errO_23 {d k c : ByteArray} (h1 : d.size = 32) (h2 : k.size = 32) (h : ¬ c.size = 256) : errO d k c = 23 := by
  unfold errO
  rw [if_pos ⟨h1, h2⟩, if_neg h]
theorem errO_22 {d k c : ByteArray} (h1 : d.size = 32) (h2 : k.size = 32) (h3 : c.size = 256) (h : ¬ macB d (laidB k 0 c) = k) : errO d k c = 22 := by
  unfold errO
  rw [if_pos ⟨h1, h2⟩, if_pos h3, if_neg h]
theorem errO_0 {d k c : ByteArray} (h1 : d.size = 32) (h2 : k.size = 32) (h3 : c.size = 256) (h : macB d (laidB k 0 c) = k) : errO d k c = 0 := by
  unfold errO
  rw [if_pos ⟨h1, h2⟩, if_pos h3, if_pos h]
theorem openB_no {d k c : ByteArray} (h : ¬ errO d k c = 0) : openB d k c = ⟨#[]⟩ := by
  unfold openB
  rw [if_neg h]
theorem openB_yes {d k c : ByteArray} (h : errO d k c = 0) : openB d k c = laidB k 0 c := by
  unfold openB
  rw [if_pos h]
set_option maxRecDepth 100000 in
set_option maxHeartbeats 1000000 in
theorem open_any (d k c : ByteArray) (w : World) (hK : KTab w) :
    Calls Tryd.prog 19 #[.string d, .string k, .string c] w fun e w' => e = .returned (.tuple #[.string (openB d k c), .int .i64 (errO d k c)]) ∧ Below w.heap.size w w' := by
  by_cases h1 : d.size = 32
  · have hd1 : decide (d.size = 32) = true := by simp [h1]
    by_cases h2 : k.size = 32
    · have hd2 : decide (k.size = 32) = true := by simp [h2]
      by_cases h3 : c.size = 256
      · have h3' : ((c.size : Int) != 256) = false := by simp; omega
        have hps : (laidB k 0 c).size = 256 := by rw [laidB_size, h3]
        have HL := hide (laidOn_any k 0 c (by omega) (by omega) w hK)
        change Hid (Calls Tryd.prog 29 #[.string k, .int .i64 0, .string c] w fun e w' => e = .returned (.string (laidB k 0 c)) ∧ Below w.heap.size w w') at HL
        have HM := hide (fun W (hW : KTab W) => mac_any d (laidB k 0 c) (by omega) (by omega) W hW)
        change Hid (∀ W, KTab W → Calls Tryd.prog 17 #[.string d, .string (laidB k 0 c)] W fun e w' => e = .returned (.string (macB d (laidB k 0 c))) ∧ Below W.heap.size W w') at HM
        have HS := hide (fun W => same_any (macB d (laidB k 0 c)) k (by rw [macB_size]; omega) W)
        have HK := hide hK
        by_cases h4 : macB d (laidB k 0 c) = k
        · have he := errO_0 h1 h2 h3 h4
          rw [openB_yes he, he]
          have hd4 : decide (macB d (laidB k 0 c) = k) = true := by simp [h4]
          clear h1 h2 h3 h4 he hK hps
          generalize macB d (laidB k 0 c) = m at *
          generalize laidB k 0 c = pl at *
          go_enter Tryd.func19, Tryd.ntmps19
          go_wp2_with fail
          refine (isKey_any d w).mono ?_
          rintro e w1 ⟨rfl, rfl⟩
          rw [hd1]
          go_wp2_with fail
          refine (isKey_any k w1).mono ?_
          rintro e w2 ⟨rfl, rfl⟩
          rw [hd2]
          go_wp2_with fail
          refine (unhide HL).mono ?_
          rintro e w3 ⟨rfl, hB⟩
          have B1 := hide hB
          clear hB HL
          go_wp2_with fail
          refine (unhide HM w3 ((unhide HK).below (unhide B1) (unhide HK).1)).mono ?_
          rintro e w4 ⟨rfl, hB⟩
          have B2 := hide ((unhide B1).trans (hB.mono (unhide B1).size))
          clear hB HM B1
          go_wp2_with fail
          refine (unhide HS w4).mono ?_
          rintro e w5 ⟨rfl, hB⟩
          rw [hd4]
          have B3 := hide ((unhide B2).trans (hB.mono (unhide B2).size))
          clear hB HS B2
          go_wp2
          go_ret2
          exact ⟨rfl, unhide B3⟩
        · have he := errO_22 h1 h2 h3 h4
          rw [openB_no (by omega), he]
          have hd4 : decide (macB d (laidB k 0 c) = k) = false := by simp [h4]
          clear h1 h2 h3 h4 he hK hps
          generalize macB d (laidB k 0 c) = m at *
          generalize laidB k 0 c = pl at *
          go_enter Tryd.func19, Tryd.ntmps19
          go_wp2_with fail
          refine (isKey_any d w).mono ?_
          rintro e w1 ⟨rfl, rfl⟩
          rw [hd1]
          go_wp2_with fail
          refine (isKey_any k w1).mono ?_
          rintro e w2 ⟨rfl, rfl⟩
          rw [hd2]
          go_wp2_with fail
          refine (unhide HL).mono ?_
          rintro e w3 ⟨rfl, hB⟩
          have B1 := hide hB
          clear hB HL
          go_wp2_with fail
          refine (unhide HM w3 ((unhide HK).below (unhide B1) (unhide HK).1)).mono ?_
          rintro e w4 ⟨rfl, hB⟩
          have B2 := hide ((unhide B1).trans (hB.mono (unhide B1).size))
          clear hB HM B1
          go_wp2_with fail
          refine (unhide HS w4).mono ?_
          rintro e w5 ⟨rfl, hB⟩
          rw [hd4]
          have B3 := hide ((unhide B2).trans (hB.mono (unhide B2).size))
          clear hB HS B2
          go_wp2
          go_ret2
          exact ⟨rfl, unhide B3⟩
      · have h3' : ((c.size : Int) != 256) = true := ne_int h3
        have he := errO_23 h1 h2 h3
        rw [openB_no (by omega), he]
        clear h1 h2 h3 he hK
        go_enter Tryd.func19, Tryd.ntmps19
        go_wp2_with fail
        refine (isKey_any d w).mono ?_
        rintro e w1 ⟨rfl, rfl⟩
        rw [hd1]
        go_wp2_with fail
        refine (isKey_any k w1).mono ?_
        rintro e w2 ⟨rfl, rfl⟩
        rw [hd2]
        go_wp2
        go_ret2
        exact ⟨rfl, Below.refl _ _⟩
    · have hd2 : decide (k.size = 32) = false := by simp [h2]
      have he : errO d k c = 20 := errO_20 (fun h => h2 h.2)
      rw [openB_no (by omega), he]
      clear h1 h2 he hK
      go_enter Tryd.func19, Tryd.ntmps19
      go_wp2_with fail
      refine (isKey_any d w).mono ?_
      rintro e w1 ⟨rfl, rfl⟩
      rw [hd1]
      go_wp2_with fail
      refine (isKey_any k w1).mono ?_
      rintro e w2 ⟨rfl, rfl⟩
      rw [hd2]
      go_wp2
      go_ret2
      exact ⟨rfl, Below.refl _ _⟩
  · have hd1 : decide (d.size = 32) = false := by simp [h1]
    have he : errO d k c = 20 := errO_20 (fun h => h1 h.1)
    rw [openB_no (by omega), he]
    clear h1 he hK
    go_enter Tryd.func19, Tryd.ntmps19
    go_wp2_with fail
    refine (isKey_any d w).mono ?_
    rintro e w1 ⟨rfl, rfl⟩
    rw [hd1]
    go_wp2
    go_ret2
    exact ⟨rfl, Below.refl _ _⟩
end Go.Proofs.YtbnefbncjnfjdaaDoor
