import Derived.Test.YtkmgbicacbalfaaDoorAgn
namespace Go.Proofs.YtkmgbicacbalfaaDoor
open Go.RowKit
def AInv (S : ByteArray) (w wr : World) : Prop := ∃ a e v, a ≤ S.size ∧ e ≠ 33 ∧ AS S w wr a e v ((nums S).take a)
theorem take_len (S : ByteArray) (a : Nat) (h : a ≤ S.size) : ((nums S).take a).length = a := by rw [List.length_take, nums_len, Nat.min_eq_left h]
set_option maxRecDepth 100000 in
set_option maxHeartbeats 8000000 in
theorem again_walk (s : ByteArray) (hs : s.size ≤ 140737488351232) (pa : Option Addr) (len cap : Nat) (hlen : len ≤ 140737488355328) (KD NN : Nat → Int) (LL : Nat → Value) (TT : Nat → ByteArray) (w : World) (hg : ETy w)
    (hcell : ∀ i, i < len → ∃ pb po, pa = some ⟨pb, po, none⟩ ∧ pb < w.heap.size ∧ w.cell? ⟨pb, po + i * 4, none⟩ = some (.int .i64 (KD i)) ∧ w.cell? ⟨pb, po + i * 4 + 1, none⟩ = some (.int .i64 (NN i)) ∧ w.cell? ⟨pb, po + i * 4 + 2, none⟩ = some (LL i) ∧ w.cell? ⟨pb, po + i * 4 + 3, none⟩ = some (.string (TT i)))
    (hsl : ∀ i, i < len → ∃ p n c, LL i = .slice p n c) :
    Calls Tryd.prog 4 #[.string s, .slice pa len cap] w fun e w' => e = .returned (.bool true) ∧ Below w.heap.size w w' := by
  have HC := hide hcell
  have HL := hide hsl
  have HG := hide hg
  obtain ⟨U, hU⟩ : ∃ U, s ++ (⟨#[7]⟩ : ByteArray) = U := ⟨_, rfl⟩
  have hUs : U.size = s.size + 1 := by rw [← hU, ByteArray.size_append]; rfl
  have y1 : ¬ 9223372036854775807 < s.size + 1 := by omega
  have HNR := hide (fun W => newReader_any U W)
  have HNW := hide (fun W => newWriter_any W)
  clear hcell hg hsl
  go_enter Tryd.func4, Tryd.ntmps4
  go_wp2_with fail
  refine (unhide HNR _).mono ?_
  rintro e x1 ⟨rfl, hR1, hB1, hz1⟩
  have R1 := hide hR1
  have B1 := hide hB1
  clear hR1 hB1 HNR
  go_wp2_with fail
  refine (unhide HNW _).mono ?_
  rintro e x2 ⟨rfl, hW2, hB2, hz2⟩
  have X2 := hide (show AInv U w x2 from by
    have hb : Below w.heap.size w x2 := (unhide B1).trans (hB2.mono (by omega))
    refine ⟨0, 0, .slice none 0 0, Nat.zero_le _, by decide, ?_, ?_, (unhide HG).below hb (unhide HG).lt, hb⟩
    · have : rst U 0 0 = ⟨U, 0, 0⟩ := by unfold rst; rw [if_pos rfl, extract_all]; rfl
      rw [this]
      exact Blk.below (unhide R1) hB2 (by omega)
    · rw [hz1] at hW2
      exact hW2)
  clear hW2 hB2 HNW R1 B1
  go_wp2
  go_loopw [7] (fun i wr => ∃ j : Nat, j ≤ len ∧ i = .int .i64 (j : Int) ∧ AInv U w wr) (fun i _ => len - (intOf i).toNat)
  case atStart => exact ⟨0, by omega, rfl, unhide X2⟩
  case round =>
    obtain ⟨j, hj, rfl, hI⟩ := hrel
    obtain ⟨wo, rfl⟩ : ∃ wo, wo = wr := ⟨_, rfl⟩
    obtain ⟨a, e, v, ha, he, hA⟩ := hI
    clear X2
    by_cases hjl : j < len
    · obtain ⟨pb, po, hpa, hpb, c0, c1, c2, c3⟩ := unhide HC j hjl
      subst hpa
      rw [← hA.bel.cell (p := ⟨pb, po + j * 4, none⟩) hpb] at c0
      rw [← hA.bel.cell (p := ⟨pb, po + j * 4 + 1, none⟩) hpb] at c1
      rw [← hA.bel.cell (p := ⟨pb, po + j * 4 + 2, none⟩) hpb] at c2
      rw [← hA.bel.cell (p := ⟨pb, po + j * 4 + 3, none⟩) hpb] at c3
      generalize KD j = kd at *
      generalize NN j = nn at *
      obtain ⟨lp, ln, lc, hll⟩ := unhide HL j hjl
      rw [hll] at c2
      generalize TT j = tt at *
      have hlo : w.heap.size + 1 < wo.heap.size := hA.wt.lt
      have XA := hide (hA.alloc (Obj.cells #[.int .i64 kd, .int .i64 nn, .slice lp ln lc, .string tt] 31))
      have OB := hide (Blk.new wo 31 #[.int .i64 kd, .int .i64 nn, .slice lp ln lc, .string tt])
      clear hA
      by_cases k1 : kd = 1
      · subst k1
        obtain ⟨V, a', e', ha', he', hgood, hcall⟩ := aNum U a e ha (by omega) he nn
        have HGD := hide hgood
        have HCL := hide hcall
        clear hgood hcall
        go_wp2_with fail
        refine (unhide HCL w _ v _ (unhide XA)).mono ?_
        rintro ev x3 ⟨rfl, hA3, hO3⟩
        have OB3 := hide ((unhide OB).only hO3 (by show ¬ wo.heap.size = w.heap.size; omega))
        have X3 := hide hA3
        clear hA3 hO3 OB XA HCL c0 c1 c2 c3
        go_wp2_with fail
        refine ((unhide X3).done).mono ?_
        rintro ev x4 ⟨rfl, hA4, hB4⟩
        have OB4 := hide ((unhide OB3).below hB4 (unhide OB3).lt)
        have X4 := hide hA4
        have n1 : x4.cell? ⟨wo.heap.size, 1, none⟩ = some (.int .i64 nn) := by rw [(unhide OB4).cell 1]; rfl
        clear hA4 hB4 OB3 X3
        obtain ⟨D, hD⟩ : ∃ D, doneE (rst U a' e').r e' = D := ⟨_, rfl⟩
        have hdi := done_in U a' e'
        rw [hD] at hdi ⊢
        rcases unhide HGD with ⟨h0, hE, hL⟩ | ⟨h0, haa⟩
        · rcases hdi.1 h0 with d0 | d0
          · subst d0
            clear hdi hD HGD OB4
            go_wp2_with fail
            refine ((unhide X4).wnum nn V hE (by rw [take_len U a ha]; omega) _ hL).mono ?_
            rintro ev x5 ⟨rfl, v5, hA5⟩
            have XR := hide (show AInv U w x5 from ⟨a', e', v5, ha', he', hA5⟩)
            clear hA5 X4 n1
            go_wp2
            go_roundw
            case rel => exact ⟨j + 1, by omega, by go_num, unhide XR⟩
            case measure => simp [intOf]; omega
          · subst d0
            clear hdi hD HGD OB4
            go_wp2_with fail
            refine ((unhide X4).wnum nn V hE (by rw [take_len U a ha]; omega) _ hL).mono ?_
            rintro ev x5 ⟨rfl, v5, hA5⟩
            have XR := hide (show AInv U w x5 from ⟨a', e', v5, ha', he', hA5⟩)
            clear hA5 X4 n1
            go_wp2
            go_roundw
            case rel => exact ⟨j + 1, by omega, by go_num, unhide XR⟩
            case measure => simp [intOf]; omega
        · have d0 := hdi.2.1 h0
          subst d0
          have g0 : (D == 0) = false := by simpa using h0
          have g33 : (D == 33) = false := by simpa using he'
          have XR := hide (show AInv U w x4 from ⟨a', D, v, ha', he', by rw [haa]; have := unhide X4; rw [haa] at this; exact this⟩)
          clear hdi hD HGD OB4 X4 n1 h0 he'
          go_wp2
          go_roundw
          case rel => exact ⟨j + 1, by omega, by go_num, unhide XR⟩
          case measure => simp [intOf]; omega
      by_cases k2 : kd = 2
      · subst k2
        obtain ⟨V, a', e', ha', he', hgood, hcall⟩ := aVar U a e ha (by omega) he
        have HGD := hide hgood
        have HCL := hide hcall
        clear hgood hcall
        go_wp2_with fail
        refine (unhide HCL w _ v _ (unhide XA)).mono ?_
        rintro ev x3 ⟨rfl, hA3, hO3⟩
        have OB3 := hide ((unhide OB).only hO3 (by show ¬ wo.heap.size = w.heap.size; omega))
        have X3 := hide hA3
        clear hA3 hO3 OB XA HCL c0 c1 c2 c3
        go_wp2_with fail
        refine ((unhide X3).done).mono ?_
        rintro ev x4 ⟨rfl, hA4, hB4⟩
        have OB4 := hide ((unhide OB3).below hB4 (unhide OB3).lt)
        have X4 := hide hA4
        have n1 : x4.cell? ⟨wo.heap.size, 1, none⟩ = some (.int .i64 nn) := by rw [(unhide OB4).cell 1]; rfl
        clear hA4 hB4 OB3 X3
        obtain ⟨D, hD⟩ : ∃ D, doneE (rst U a' e').r e' = D := ⟨_, rfl⟩
        have hdi := done_in U a' e'
        rw [hD] at hdi ⊢
        obtain ⟨hv0, hv9, hgd⟩ := unhide HGD
        rcases hgd with ⟨h0, hL⟩ | ⟨h0, haa⟩
        · rcases hdi.1 h0 with d0 | d0
          · subst d0
            clear hdi hD HGD OB4
            go_wp2_with fail
            refine ((unhide X4).wvar V hv0 hv9 (by rw [take_len U a ha]; omega) _ hL).mono ?_
            rintro ev x5 ⟨rfl, v5, hA5⟩
            have XR := hide (show AInv U w x5 from ⟨a', e', v5, ha', he', hA5⟩)
            clear hA5 X4 n1
            go_wp2
            go_roundw
            case rel => exact ⟨j + 1, by omega, by go_num, unhide XR⟩
            case measure => simp [intOf]; omega
          · subst d0
            clear hdi hD HGD OB4
            go_wp2_with fail
            refine ((unhide X4).wvar V hv0 hv9 (by rw [take_len U a ha]; omega) _ hL).mono ?_
            rintro ev x5 ⟨rfl, v5, hA5⟩
            have XR := hide (show AInv U w x5 from ⟨a', e', v5, ha', he', hA5⟩)
            clear hA5 X4 n1
            go_wp2
            go_roundw
            case rel => exact ⟨j + 1, by omega, by go_num, unhide XR⟩
            case measure => simp [intOf]; omega
        · have d0 := hdi.2.1 h0
          subst d0
          have g0 : (D == 0) = false := by simpa using h0
          have g33 : (D == 33) = false := by simpa using he'
          have XR := hide (show AInv U w x4 from ⟨a', D, v, ha', he', by rw [haa]; have := unhide X4; rw [haa] at this; exact this⟩)
          clear hdi hD HGD OB4 X4 n1 h0 he'
          go_wp2
          go_roundw
          case rel => exact ⟨j + 1, by omega, by go_num, unhide XR⟩
          case measure => simp [intOf]; omega
      by_cases k3 : kd = 3
      · subst k3
        obtain ⟨V, a', e', ha', he', hgood, hcall⟩ := aRaw U a e ha (by omega) he nn
        have HGD := hide hgood
        have HCL := hide hcall
        clear hgood hcall
        go_wp2_with fail
        refine (unhide HCL w _ v _ (unhide XA)).mono ?_
        rintro ev x3 ⟨rfl, hA3, hO3⟩
        have OB3 := hide ((unhide OB).only hO3 (by show ¬ wo.heap.size = w.heap.size; omega))
        have X3 := hide hA3
        clear hA3 hO3 OB XA HCL c0 c1 c2 c3
        go_wp2_with fail
        refine ((unhide X3).wraw V (by rw [take_len U a ha]; have := (unhide HGD).2; omega) _ (unhide HGD).1).mono ?_
        rintro ev x5 ⟨rfl, v5, hA5⟩
        have XR := hide (show AInv U w x5 from ⟨a', e', v5, ha', he', hA5⟩)
        clear hA5 X3 OB3 HGD he'
        go_wp2
        go_roundw
        case rel => exact ⟨j + 1, by omega, by go_num, unhide XR⟩
        case measure => simp [intOf]; omega
      by_cases k4 : kd = 4
      · subst k4
        obtain ⟨V, a', e', ha', he', hgood, hcall⟩ := aText U a e ha (by omega) he nn
        have HGD := hide hgood
        have HCL := hide hcall
        clear hgood hcall
        go_wp2_with fail
        refine (unhide HCL w _ v _ (unhide XA)).mono ?_
        rintro ev x3 ⟨rfl, hA3, hO3⟩
        have OB3 := hide ((unhide OB).only hO3 (by show ¬ wo.heap.size = w.heap.size; omega))
        have X3 := hide hA3
        clear hA3 hO3 OB XA HCL c0 c1 c2 c3
        go_wp2_with fail
        refine ((unhide X3).done).mono ?_
        rintro ev x4 ⟨rfl, hA4, hB4⟩
        have OB4 := hide ((unhide OB3).below hB4 (unhide OB3).lt)
        have X4 := hide hA4
        have n1 : x4.cell? ⟨wo.heap.size, 1, none⟩ = some (.int .i64 nn) := by rw [(unhide OB4).cell 1]; rfl
        clear hA4 hB4 OB3 X3
        obtain ⟨D, hD⟩ : ∃ D, doneE (rst U a' e').r e' = D := ⟨_, rfl⟩
        have hdi := done_in U a' e'
        rw [hD] at hdi ⊢
        rcases unhide HGD with ⟨h0, hE, hZ, hL⟩ | ⟨h0, haa⟩
        · rcases hdi.1 h0 with d0 | d0
          · subst d0
            clear hdi hD HGD OB4
            go_wp2_with fail
            refine ((unhide X4).wtext V nn hE (by rw [take_len U a ha]; omega) _ hL).mono ?_
            rintro ev x5 ⟨rfl, v5, hA5⟩
            have XR := hide (show AInv U w x5 from ⟨a', e', v5, ha', he', hA5⟩)
            clear hA5 X4 n1
            go_wp2
            go_roundw
            case rel => exact ⟨j + 1, by omega, by go_num, unhide XR⟩
            case measure => simp [intOf]; omega
          · subst d0
            clear hdi hD HGD OB4
            go_wp2_with fail
            refine ((unhide X4).wtext V nn hE (by rw [take_len U a ha]; omega) _ hL).mono ?_
            rintro ev x5 ⟨rfl, v5, hA5⟩
            have XR := hide (show AInv U w x5 from ⟨a', e', v5, ha', he', hA5⟩)
            clear hA5 X4 n1
            go_wp2
            go_roundw
            case rel => exact ⟨j + 1, by omega, by go_num, unhide XR⟩
            case measure => simp [intOf]; omega
        · have d0 := hdi.2.1 h0
          subst d0
          have g0 : (D == 0) = false := by simpa using h0
          have g33 : (D == 33) = false := by simpa using he'
          have XR := hide (show AInv U w x4 from ⟨a', D, v, ha', he', by rw [haa]; have := unhide X4; rw [haa] at this; exact this⟩)
          clear hdi hD HGD OB4 X4 n1 h0 he'
          go_wp2
          go_roundw
          case rel => exact ⟨j + 1, by omega, by go_num, unhide XR⟩
          case measure => simp [intOf]; omega
      have g1 : (kd == 1) = false := by simpa using k1
      have g2 : (kd == 2) = false := by simpa using k2
      have g3 : (kd == 3) = false := by simpa using k3
      have g4 : (kd == 4) = false := by simpa using k4
      have XR := hide (show AInv U w (wo.alloc (Obj.cells #[.int .i64 kd, .int .i64 nn, .slice lp ln lc, .string tt] 31)) from ⟨a, e, v, ha, he, unhide XA⟩)
      clear XA OB k1 k2 k3 k4
      go_wp2
      go_roundw
      case rel => exact ⟨j + 1, by omega, by go_num, unhide XR⟩
      case measure => simp [intOf]; omega
    · have hj' : j = len := by omega
      subst hj'
      have X3 := hide hA
      clear hA hjl HC HL
      obtain ⟨D, hD⟩ : ∃ D, doneE (rst U a e).r e = D := ⟨_, rfl⟩
      have hdi := (done_in U a e).2.2
      rw [hD] at hdi
      have HD := hide hD
      have HDI := hide hdi
      have hT : strOfNums ((nums U).take a) = U.extract 0 a := nums_inj (by
        rw [nums_extract, List.drop_zero]
        exact nums_strOfNums _ (fun i => by
          have := nums_bytes U i
          rw [List.getD_eq_getElem?_getD, List.getElem?_take]
          split
          · rw [List.getD_eq_getElem?_getD] at this; exact this
          · simp))
      obtain ⟨p, hp⟩ : ∃ p, s.size + 1 = p := ⟨_, rfl⟩
      have hpi : (s.size : Int) + 1 = (p : Int) := by omega
      have hwp : IntKind.i64.wrap (p : Int) = (p : Int) := wrapI_eq _ (by omega) (by omega)
      have hap : ¬ p < a := by omega
      have haU : a ≤ U.size := ha
      clear hD hdi he
      go_wp2_with fail
      refine ((unhide X3).done).mono ?_
      rintro ev x4 ⟨rfl, hA4, hB4⟩
      rw [unhide HD]
      have X4 := hide hA4
      clear hA4 hB4 X3
      go_wp2_with fail
      refine ((unhide X4).wdone).mono ?_
      rintro ev x5 ⟨rfl, hB5⟩
      rw [hT]
      have B5 := hide hB5
      clear hB5 X4 hT
      by_cases h0 : D = 0
      · have hae : a = p := by have := unhide HDI h0 ha; omega
        subst h0
        subst hae
        go_wp2
        go_ret
        exact ⟨rfl, unhide B5⟩
      · have hne : (D != 0) = true := by simp [h0]
        go_wp2
        go_ret
        exact ⟨rfl, unhide B5⟩
end Go.Proofs.YtkmgbicacbalfaaDoor
