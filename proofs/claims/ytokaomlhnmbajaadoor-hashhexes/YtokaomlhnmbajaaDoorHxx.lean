import Derived.Test.YtokaomlhnmbajaaDoorRun
import Derived.Test.YtokaomlhnmbajaaDoorKn
namespace Go.Proofs.YtokaomlhnmbajaaDoor
open Go.RowKit
theorem decd_bytes (l : List Int) (h : okHex l) : Bytes (decd l (l.length / 2)) := by
  intro j
  by_cases hj : j < l.length / 2
  · have h1 := h.2 (2 * j) (by omega)
    have h2 := h.2 (2 * j + 1) (by omega)
    have b1 := sgn_bd (l.getD (2 * j) 0)
    have b2 := sgn_bd (l.getD (2 * j + 1) 0)
    have e : (decd l (l.length / 2)).getD j 0 = vald l j := by
      rw [List.getD_eq_getElem?_getD, decd, List.getElem?_map, List.getElem?_range hj]
      rfl
    rw [e, vald]
    omega
  · rw [List.getD_eq_getElem?_getD, List.getElem?_eq_none (by rw [decd_len]; omega)]; simp
theorem unhex_back (s A : ByteArray) (hs : s.size ≤ 140737488351232) (hA : A = strOfNums (hexP (nums s))) (w : World) :
    Calls Tryd.prog 11 #[.string A] w fun e w' => e = .returned (.tuple #[.string s, .int .i64 0]) ∧ Below w.heap.size w w' := by
  have hn : nums A = hexP (nums s) := by rw [hA, nums_strOfNums _ (hexP_bytes _ (nums_bytes s))]
  have hz : A.size = 2 * s.size := by rw [hA, strOfNums_size, hexP_len, nums_len]
  refine (unhex_any A (by omega) w).mono ?_
  rintro e w' ⟨h, hb⟩
  refine ⟨?_, hb⟩
  rw [hn] at h
  rcases h with ⟨_, h⟩ | ⟨h, _⟩
  · rw [h, hz, show 2 * s.size / 2 = (nums s).length by rw [nums_len]; omega, decd_hexP _ (nums_bytes s), strOfNums_nums]
  · exact absurd (okHex_hexP _ (nums_bytes s)) h
theorem hex_back (t : ByteArray) (ht : t.size ≤ 140737488351232) (hok : okHex (nums t)) (C : ByteArray) (hC : C = strOfNums (decd (nums t) (t.size / 2))) (w : World) :
    Calls Tryd.prog 10 #[.string C] w fun e w' => e = .returned (.string t) ∧ Below w.heap.size w w' := by
  have hz : C.size = t.size / 2 := by rw [hC, strOfNums_size, decd_len]
  have hb := decd_bytes (nums t) hok
  rw [nums_len] at hb
  have hev := hok.1
  rw [nums_len] at hev
  have e : strOfNums (hexP (nums C)) = t := by
    rw [hC, nums_strOfNums _ hb, hexP_decd _ hok.2 _ (by rw [nums_len]; omega), List.take_of_length_le (by rw [nums_len]; omega), strOfNums_nums]
  refine (hex_any C (by omega) w).mono ?_
  rintro e' w' ⟨h, hb⟩
  rw [e] at h
  exact ⟨h, hb⟩
set_option maxRecDepth 100000 in
set_option maxHeartbeats 400000 in
theorem hexes_walk (s t : ByteArray) (hs : s.size ≤ 140737488351232) (ht : t.size ≤ 140737488351232) (w : World) (hK : KTab w) :
    Calls Tryd.prog 3 #[.string s, .string t] w fun e w' => e = .returned (.bool true) ∧ Below w.heap.size w w' := by
  have HK := hide hK
  clear hK
  obtain ⟨A, hA⟩ : ∃ A, A = strOfNums (hexP (nums s)) := ⟨_, rfl⟩
  have C10 := hide (fun W => hex_any s (by omega) W)
  have C13 := hide (fun W => rhex_any s (by omega) W)
  rw [← hA] at C10 C13
  have C11 := hide (fun W => unhex_back s A hs hA W)
  have C11t := hide (fun W => unhex_any t (by omega) W)
  have C12 := hide (fun W => runhex_any t (by omega) W)
  clear hA
  by_cases hok : okHex (nums t)
  · obtain ⟨C, hC⟩ : ∃ C, C = strOfNums (decd (nums t) (t.size / 2)) := ⟨_, rfl⟩
    have CC := hide (fun W => hex_back t ht hok C hC W)
    rw [← hC] at C11t C12
    have HOK := hide hok
    clear hC hok
    go_enter Tryd.func3, Tryd.ntmps3
    go_wp2_with fail
    refine (known_any w (unhide HK)).mono ?_
    rintro e w1 ⟨rfl, hb1⟩
    have HB1 := hide hb1
    clear hb1
    go_wp2_with fail
    refine (unhide C10 _).mono ?_
    rintro e w2 ⟨rfl, hb2⟩
    have HB2 := hide ((unhide HB1).trans (hb2.mono (unhide HB1).size))
    clear hb2 HB1
    go_wp2_with fail
    refine (unhide C11 _).mono ?_
    rintro e w3 ⟨rfl, hb3⟩
    have HB3 := hide ((unhide HB2).trans (hb3.mono (unhide HB2).size))
    clear hb3 HB2
    go_wp2_with fail
    refine (unhide C11t _).mono ?_
    rintro e w4 ⟨⟨_, rfl⟩ | ⟨hno, _⟩, hb4⟩
    rotate_left
    · exact absurd (unhide HOK) hno
    have HB4 := hide ((unhide HB3).trans (hb4.mono (unhide HB3).size))
    clear hb4 HB3
    go_wp2_with fail
    refine (unhide C12 _).mono ?_
    rintro e w5 ⟨⟨_, rfl⟩ | ⟨hno, _⟩, hb5⟩
    rotate_left
    · exact absurd (unhide HOK) hno
    have HB5 := hide ((unhide HB4).trans (hb5.mono (unhide HB4).size))
    clear hb5 HB4
    go_wp2_with fail
    refine (unhide CC _).mono ?_
    rintro e w6 ⟨rfl, hb6⟩
    have HB6 := hide ((unhide HB5).trans (hb6.mono (unhide HB5).size))
    clear hb6 HB5
    go_wp2_with fail
    refine (unhide C13 _).mono ?_
    rintro e w7 ⟨rfl, hb7⟩
    have HB7 := hide ((unhide HB6).trans (hb7.mono (unhide HB6).size))
    clear hb7 HB6
    go_wp2
    go_ret
    exact ⟨by simp, unhide HB7⟩
  · have HOK := hide hok
    clear hok
    go_enter Tryd.func3, Tryd.ntmps3
    go_wp2_with fail
    refine (known_any w (unhide HK)).mono ?_
    rintro e w1 ⟨rfl, hb1⟩
    have HB1 := hide hb1
    clear hb1
    go_wp2_with fail
    refine (unhide C10 _).mono ?_
    rintro e w2 ⟨rfl, hb2⟩
    have HB2 := hide ((unhide HB1).trans (hb2.mono (unhide HB1).size))
    clear hb2 HB1
    go_wp2_with fail
    refine (unhide C11 _).mono ?_
    rintro e w3 ⟨rfl, hb3⟩
    have HB3 := hide ((unhide HB2).trans (hb3.mono (unhide HB2).size))
    clear hb3 HB2
    go_wp2_with fail
    refine (unhide C11t _).mono ?_
    rintro e w4 ⟨⟨hno, _⟩ | ⟨_, rfl⟩, hb4⟩
    · exact absurd hno (unhide HOK)
    have HB4 := hide ((unhide HB3).trans (hb4.mono (unhide HB3).size))
    clear hb4 HB3
    go_wp2_with fail
    refine (unhide C12 _).mono ?_
    rintro e w5 ⟨⟨hno, _⟩ | ⟨_, rfl⟩, hb5⟩
    · exact absurd hno (unhide HOK)
    have HB5 := hide ((unhide HB4).trans (hb5.mono (unhide HB4).size))
    clear hb5 HB4
    go_wp2_with fail
    refine (unhide C13 _).mono ?_
    rintro e w7 ⟨rfl, hb7⟩
    have HB7 := hide ((unhide HB5).trans (hb7.mono (unhide HB5).size))
    clear hb7 HB5
    go_wp2
    go_ret
    exact ⟨by simp, unhide HB7⟩
end Go.Proofs.YtokaomlhnmbajaaDoor
