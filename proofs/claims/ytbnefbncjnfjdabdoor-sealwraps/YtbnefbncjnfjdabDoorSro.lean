import Derived.Test.YtbnefbncjnfjdabDoorSrl
import Derived.Test.YtbnefbncjnfjdabDoorSwq
import Derived.Test.YtbnefbncjnfjdabDoorSaw
namespace Go.Proofs.YtbnefbncjnfjdabDoor
open Go.RowKit
theorem str_ne {s t : ByteArray} (h : ¬ s = t) : (s.toList == t.toList) = false := by
  rw [ByteArray.toList_eq, ByteArray.toList_eq]
  simp
  exact fun h2 => h (Go.WideShapes.bytes_inj (by rw [h2]))
theorem rlaidK (k : ByteArray) (n : Nat) (s : ByteArray) (hk : k.size = 32) (hs : s.size = n) (hn : n ≤ 256) : ∃ pt : ByteArray,
    (∀ W, Calls Tryd.prog 22 #[.string k, .int .i64 0, .int .i64 (n : Int)] W fun e w' => e = .returned (.string pt) ∧ Below W.heap.size W w') ∧
    (∀ W, Calls Tryd.prog 21 #[.string s, .string pt] W fun e w' => e = .returned (.string (laidB k 0 s)) ∧ Below W.heap.size W w') := by
  have hnp : nums (strOfNums (partP (nums k) 0 n)) = partP (nums k) 0 n := nums_strOfNums _ (partP_bytes _ _ _)
  have hsp : (strOfNums (partP (nums k) 0 n)).size = n := by rw [← nums_len, hnp, partP_len]
  refine ⟨strOfNums (partP (nums k) 0 n), fun W => rpart_any k 0 n (by omega) (by omega) W, fun W => ?_⟩
  have h := rlaid2_any s (strOfNums (partP (nums k) 0 n)) (by omega) (by omega) W
  rw [hnp] at h
  rw [laidB, hs]
  exact h
set_option maxRecDepth 100000 in
set_option maxHeartbeats 1000000 in
theorem ropen_any (d k c : ByteArray) (w : World) :
    Calls Tryd.prog 7 #[.string d, .string k, .string c] w fun e w' => e = .returned (.tuple #[.string (openB d k c), .int .i64 (errO d k c)]) ∧ Below w.heap.size w w' := by
  by_cases h1 : d.size = 32
  · have hd1 : ((d.size : Int) != 32) = false := by simp; omega
    by_cases h2 : k.size = 32
    · have hd2 : ((k.size : Int) != 32) = false := by simp; omega
      by_cases h3 : c.size = 256
      · have h3' : ((c.size : Int) != 256) = false := by simp; omega
        have hps : (laidB k 0 c).size = 256 := by rw [laidB_size, h3]
        obtain ⟨pt, hP, hL⟩ := rlaidK k 256 c h2 h3 (by omega)
        have HP := hide hP
        have HL := hide hL
        have HM := hide (fun W => rmac_any d (laidB k 0 c) (by omega) (by omega) W)
        change Hid (∀ W, Calls Tryd.prog 23 #[.string d, .string (laidB k 0 c)] W fun e w' => e = .returned (.string (macB d (laidB k 0 c))) ∧ Below W.heap.size W w') at HM
        by_cases h4 : macB d (laidB k 0 c) = k
        · have he := errO_0 h1 h2 h3 h4
          rw [openB_yes he, he]
          have H4 := hide h4
          clear h1 h2 h3 h4 he hps hP hL
          generalize macB d (laidB k 0 c) = m at *
          generalize laidB k 0 c = pl at *
          obtain rfl := unhide H4
          go_enter Tryd.func7, Tryd.ntmps7
          go_wp2_with fail
          refine (unhide HP _).mono ?_
          rintro e w1 ⟨rfl, hB⟩
          have B1 := hide hB
          clear hB HP
          go_wp2_with fail
          refine (unhide HL _).mono ?_
          rintro e w2 ⟨rfl, hB⟩
          have B2 := hide ((unhide B1).trans (hB.mono (unhide B1).size))
          clear hB HL B1
          go_wp2_with fail
          refine (unhide HM _).mono ?_
          rintro e w3 ⟨rfl, hB⟩
          have B3 := hide ((unhide B2).trans (hB.mono (unhide B2).size))
          clear hB HM B2
          go_wp2
          go_ret2
          exact ⟨rfl, unhide B3⟩
        · have he := errO_22 h1 h2 h3 h4
          rw [openB_no (by omega), he]
          have hq := str_ne h4
          clear h1 h2 h3 h4 he hps hP hL
          generalize macB d (laidB k 0 c) = m at *
          generalize laidB k 0 c = pl at *
          go_enter Tryd.func7, Tryd.ntmps7
          go_wp2_with fail
          refine (unhide HP _).mono ?_
          rintro e w1 ⟨rfl, hB⟩
          have B1 := hide hB
          clear hB HP
          go_wp2_with fail
          refine (unhide HL _).mono ?_
          rintro e w2 ⟨rfl, hB⟩
          have B2 := hide ((unhide B1).trans (hB.mono (unhide B1).size))
          clear hB HL B1
          go_wp2_with fail
          refine (unhide HM _).mono ?_
          rintro e w3 ⟨rfl, hB⟩
          have B3 := hide ((unhide B2).trans (hB.mono (unhide B2).size))
          clear hB HM B2
          go_wp2
          go_ret2
          exact ⟨rfl, unhide B3⟩
      · have h3' : ((c.size : Int) != 256) = true := ne_int h3
        have he := errO_23 h1 h2 h3
        rw [openB_no (by omega), he]
        clear h1 h2 h3 he
        go_enter Tryd.func7, Tryd.ntmps7
        go_wp2
        go_ret2
        exact ⟨rfl, Below.refl _ _⟩
    · have hd2 : ((k.size : Int) != 32) = true := ne_int h2
      have he : errO d k c = 20 := errO_20 (fun h => h2 h.2)
      rw [openB_no (by omega), he]
      clear h1 h2 he
      go_enter Tryd.func7, Tryd.ntmps7
      go_wp2
      go_ret2
      exact ⟨rfl, Below.refl _ _⟩
  · have hd1 : ((d.size : Int) != 32) = true := ne_int h1
    have he : errO d k c = 20 := errO_20 (fun h => h1 h.1)
    rw [openB_no (by omega), he]
    clear h1 he
    go_enter Tryd.func7, Tryd.ntmps7
    go_wp2
    go_ret2
    exact ⟨rfl, Below.refl _ _⟩
end Go.Proofs.YtbnefbncjnfjdabDoor
