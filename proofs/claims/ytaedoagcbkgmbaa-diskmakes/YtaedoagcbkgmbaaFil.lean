import Derived.Test.YtaedoagcbkgmbaaKnw
namespace Go.Proofs.Ytaedoagcbkgmbaa
open Go.RowKit
/-- Writes to be made: the sectors that the raw numbers speak of, and marked texts. -/
def wlist (off : Int) (l : List Int) : List (Nat × ByteArray) := (List.range l.length).map (fun j : Nat => (pickP (l.getD j 0) 128, sectorB (off + (j : Int))))
theorem wlist_len (off : Int) (l : List Int) : (wlist off l).length = l.length := by simp [wlist]
theorem wlist_take (off : Int) (l : List Int) (k : Nat) (hk : k < l.length) : (wlist off l).take (k + 1) = (wlist off l).take k ++ [(pickP (l.getD k 0) 128, sectorB (off + (k : Int)))] := by
  rw [List.take_succ_eq_append_getElem (by rw [wlist_len]; exact hk)]
  simp [wlist]
def wacts (P : List (Nat × ByteArray)) : List (Nat × Nat) := P.map (fun p => (0, p.1))
/-- A disk that lives, with these pending writes. -/
def stW (L : List ByteArray) (P : List (Nat × ByteArray)) (A : List (Nat × Nat)) : DSt := ⟨L, layP L P, P, A ++ wacts P, 0, false⟩
theorem stW_write (L : List ByteArray) (P : List (Nat × ByteArray)) (A : List (Nat × Nat)) (j : Nat) (hj : j < L.length) (t : ByteArray) (ht : t.size = 256) : writeE (stW L P A) (j : Int) t = 0 ∧ writeS (stW L P A) (j : Int) t = stW L (P ++ [(j, t)]) A := by
  obtain ⟨h1, h2⟩ := writeA (s := stW L P A) ⟨rfl, rfl⟩ j hj t ht
  refine ⟨h1, h2.trans ?_⟩
  simp [stW, layP_snoc, wacts]
theorem stW_flush (L : List ByteArray) (P : List (Nat × ByteArray)) (A : List (Nat × Nat)) : flushE (stW L P A) = 0 ∧ flushS (stW L P A) = stW (layP L P) [] (A ++ wacts P ++ [(1, 0)]) := by
  obtain ⟨h1, h2⟩ := flushA (s := stW L P A) ⟨rfl, rfl⟩
  refine ⟨h1, h2.trans ?_⟩
  simp [stW, wacts, layP]
def zeros : List ByteArray := List.replicate 128 zero256
theorem zeros_len : zeros.length = 128 := by rw [zeros, List.length_replicate]
def baseL (l1 : List Int) : List ByteArray := layP zeros (wlist 0 l1)
theorem baseL_len (l1 : List Int) : (baseL l1).length = 128 := by rw [baseL, layP_len, zeros_len]
def filledS (l1 l2 : List Int) : DSt := stW (baseL l1) (wlist 1000 l2) (wacts (wlist 0 l1) ++ [(1, 0)])
set_option maxRecDepth 100000 in
set_option maxHeartbeats 4000000 in
theorem filled_any (w : World) (p1 : Option Addr) (c1 : Nat) (l1 : List Int) (p2 : Option Addr) (c2 : Nat) (l2 : List Int) (h1 : Ints w p1 l1) (h2 : Ints w p2 l2) (b1 : ∀ z ∈ l1, I64 z) (b2 : ∀ z ∈ l2, I64 z) (n1 : l1.length ≤ 1048576) (n2 : l2.length ≤ 1048576) :
    Calls Try.prog 8 #[.slice p1 l1.length c1, .slice p2 l2.length c2] w fun e w' => ∃ b, e = .returned (.pointer (some ⟨b, 0, none⟩)) ∧ DI w w' b (filledS l1 l2) := by
  have H1 := hide h1
  have H2 := hide h2
  have B1 := hide b1
  have B2 := hide b2
  clear h1 h2 b1 b2
  go_enter Try.func8, Try.ntmps8
  go_wp2_with fail
  refine (known_any w).mono ?_
  rintro ev x1 ⟨rfl, hb1⟩
  have XB1 := hide hb1
  clear hb1
  go_wp2_with fail
  refine (new128 _).mono ?_
  rintro ev x2 ⟨b, rfl, hI2⟩
  have X2 := hide (show DI w x2 b (stW zeros [] []) from by
    obtain ⟨v, g1, g2, g3⟩ := hI2
    exact ⟨v, ⟨g1.blk, owns_base g1.rl (unhide XB1).size, owns_base g1.rn (unhide XB1).size, owns_base g1.rp (unhide XB1).size, owns_base g1.ra (unhide XB1).size, g1.ne, Nat.le_trans (unhide XB1).size g1.lo⟩, (unhide XB1).trans (g2.mono (unhide XB1).size), g3⟩)
  clear hI2
  go_wp2
  go_loopw [8] (fun i wr => ∃ k : Nat, k ≤ l1.length ∧ i = .int .i64 (k : Int) ∧ DI w wr b (stW (zeros) ((wlist 0 l1).take k) ([]))) (fun i _ => l1.length - (intOf i).toNat)
  case atStart => exact ⟨0, by omega, rfl, by simpa using unhide X2⟩
  case round =>
    obtain ⟨k, hk, rfl, hI⟩ := hrel
    obtain ⟨wo, rfl⟩ : ∃ wo, wo = wr := ⟨_, rfl⟩
    have XI := hide hI
    clear hI X2
    by_cases hkl : k < l1.length
    · obtain ⟨g, o, rfl, hg, hc⟩ := unhide H1 k hkl
      have ck : wo.cell? ⟨g, o + k, none⟩ = some (.int .i64 (l1.getD k 0)) := by rw [(unhide XI).bel.cell (p := ⟨g, o + k, none⟩) hg]; exact hc
      have hz : I64 (l1.getD k 0) := unhide B1 _ (by simp [List.getD_eq_getElem?_getD, hkl])
      have HT := hide (wlist_take 0 l1 k hkl)
      have hplen : ((wlist 0 l1).take k).length ≤ l1.length := by rw [List.length_take, wlist_len]; omega
      have lp := pickP_lt (l1.getD k 0) 128 (by decide)
      have hts := sectorB_size (0 + (k : Int))
      have HPK := hide (fun W => pick_c (l1.getD k 0) 128 (by decide) hz 128 rfl W)
      have HSE := hide (fun W => sector_any (0 + (k : Int)) W)
      have HLN := hide (show (zeros).length = 128 from zeros_len)
      clear hc hz
      generalize hpp : (wlist 0 l1).take k = P at *
      clear hpp
      generalize pickP (l1.getD k 0) 128 = j at *
      generalize l1.getD k 0 = z at *
      generalize sectorB (0 + (k : Int)) = T at *
      have HW := hide (stW_write (zeros) P ([]) j (by rw [unhide HLN]; exact lp) T hts)
      have HAL := hide (show ([] ++ wacts P).length ≤ 3000000 by simp [wacts]; omega)
      have hze : (0 : Int) + (k : Int) = (k : Int) := Int.zero_add _
      rw [hze] at HSE
      clear hze
      go_wp2_with fail
      refine (unhide HPK _).mono ?_
      rintro ev y1 ⟨rfl, rfl⟩
      go_wp2_with fail
      refine (unhide HSE _).mono ?_
      rintro ev y2 ⟨rfl, hb2⟩
      have Y2 := hide ((unhide XI).below hb2)
      clear hb2 XI HPK HSE ck
      go_wp2_with fail
      refine (writeD (unhide Y2) (by show P.length ≤ _; omega) (by have := unhide HAL; show ([] ++ wacts P).length ≤ _; omega) (j : Int) T).mono ?_
      rintro ev y3 ⟨rfl, hI3⟩
      rw [(unhide HW).1]
      rw [(unhide HW).2, ← unhide HT] at hI3
      have Y3 := hide hI3
      clear hI3 HW HT Y2
      go_wp2
      go_roundw
      case rel => exact ⟨k + 1, by omega, by go_num, unhide Y3⟩
      case measure => simp [intOf]; omega
    · have hk' : k = l1.length := by omega
      subst hk'
      rw [List.take_of_length_le (by rw [wlist_len]; exact Nat.le_refl _)] at XI
      obtain ⟨hf1, hf2⟩ := stW_flush zeros (wlist 0 l1) []
      have HF := hide (And.intro hf1 hf2)
      clear hf1 hf2 hkl hk
      go_wp2_with fail
      refine (flushD (unhide XI) (by show (wlist 0 l1).length ≤ _; rw [wlist_len]; omega) (by show ([] ++ wacts (wlist 0 l1)).length ≤ _; simp [wacts, wlist_len]; omega)).mono ?_
      rintro ev y1 ⟨rfl, hI1⟩
      rw [(unhide HF).1]
      rw [(unhide HF).2] at hI1
      have X3 := hide (show DI w y1 b (stW (baseL l1) [] (wacts (wlist 0 l1) ++ [(1, 0)])) from hI1)
      clear hI1 HF XI
      go_wp2
      go_loopw [9] (fun i wr => ∃ k : Nat, k ≤ l2.length ∧ i = .int .i64 (k : Int) ∧ DI w wr b (stW (baseL l1) ((wlist 1000 l2).take k) (wacts (wlist 0 l1) ++ [(1, 0)]))) (fun i _ => l2.length - (intOf i).toNat)
      case atStart => exact ⟨0, by omega, rfl, by simpa using unhide X3⟩
      case round =>
        obtain ⟨k, hk, rfl, hI⟩ := hrel
        obtain ⟨wo, rfl⟩ : ∃ wo, wo = wr := ⟨_, rfl⟩
        have XI := hide hI
        clear hI X3
        by_cases hkl : k < l2.length
        · obtain ⟨g, o, rfl, hg, hc⟩ := unhide H2 k hkl
          have ck : wo.cell? ⟨g, o + k, none⟩ = some (.int .i64 (l2.getD k 0)) := by rw [(unhide XI).bel.cell (p := ⟨g, o + k, none⟩) hg]; exact hc
          have hz : I64 (l2.getD k 0) := unhide B2 _ (by simp [List.getD_eq_getElem?_getD, hkl])
          have HT := hide (wlist_take 1000 l2 k hkl)
          have hplen : ((wlist 1000 l2).take k).length ≤ l2.length := by rw [List.length_take, wlist_len]; omega
          have lp := pickP_lt (l2.getD k 0) 128 (by decide)
          have hts := sectorB_size (1000 + (k : Int))
          have HPK := hide (fun W => pick_c (l2.getD k 0) 128 (by decide) hz 128 rfl W)
          have HSE := hide (fun W => sector_any (1000 + (k : Int)) W)
          have HLN := hide (show (baseL l1).length = 128 from baseL_len l1)
          clear hc hz
          generalize hpp : (wlist 1000 l2).take k = P at *
          clear hpp
          generalize pickP (l2.getD k 0) 128 = j at *
          generalize l2.getD k 0 = z at *
          generalize sectorB (1000 + (k : Int)) = T at *
          have HW := hide (stW_write (baseL l1) P (wacts (wlist 0 l1) ++ [(1, 0)]) j (by rw [unhide HLN]; exact lp) T hts)
          have HAL := hide (show (wacts (wlist 0 l1) ++ [(1, 0)] ++ wacts P).length ≤ 3000000 by simp [wacts, wlist_len]; omega)
          have hwr : IntKind.i64.wrap (1000 + (k : Int)) = 1000 + (k : Int) := wrapI_eq _ (by omega) (by omega)
          go_wp2_with fail
          refine (unhide HPK _).mono ?_
          rintro ev y1 ⟨rfl, rfl⟩
          go_wp2_with fail
          refine (unhide HSE _).mono ?_
          rintro ev y2 ⟨rfl, hb2⟩
          have Y2 := hide ((unhide XI).below hb2)
          clear hb2 XI HPK HSE ck
          go_wp2_with fail
          refine (writeD (unhide Y2) (by show P.length ≤ _; omega) (by have := unhide HAL; show (wacts (wlist 0 l1) ++ [(1, 0)] ++ wacts P).length ≤ _; omega) (j : Int) T).mono ?_
          rintro ev y3 ⟨rfl, hI3⟩
          rw [(unhide HW).1]
          rw [(unhide HW).2, ← unhide HT] at hI3
          have Y3 := hide hI3
          clear hI3 HW HT Y2
          go_wp2
          go_roundw
          case rel => exact ⟨k + 1, by omega, by go_num, unhide Y3⟩
          case measure => simp [intOf]; omega
        · have hk' : k = l2.length := by omega
          subst hk'
          rw [List.take_of_length_le (by rw [wlist_len]; exact Nat.le_refl _)] at XI
          clear hkl hk
          go_wp2
          go_ret
          exact ⟨b, rfl, unhide XI⟩
end Go.Proofs.Ytaedoagcbkgmbaa
