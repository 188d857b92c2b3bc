import Derived.Test.YtbpcgephicmhhaaGreatDoorMf31
namespace Go.Proofs.YtbpcgephicmhhaaGreatDoor
open Go.RowKit Go.Maps Go.Sort Go.Shelf
set_option maxRecDepth 100000
theorem wChg_val (most s : Nat) (m : Int) (v : List (Nat × Nat)) : wChg ⟨true, most, s, v⟩ m = if m < -(s : Int) then 119 else if (most : Int) - (s : Int) < m then 112 else 0 := rfl
set_option maxRecDepth 100000 in
set_option maxHeartbeats 4000000 in
theorem charges11 {w : World} (hE : ETy w) (zq : Int) (hzq : I64 zq) {pa : Option Addr} {l : List Int} {na ca : Nat} (hl : na = l.length) (hI : Ints w pa l) (hw : ∀ i, I64 (l.getD i 0)) : Calls Tryz.prog 3 #[.int .i64 zq, .slice pa na ca] w fun e w' => e = .returned (.bool true) ∧ Below w.heap.size w w' := by
  have HAW := hide (awake11_any w hE)
  have HARG := hide (And.intro hE (And.intro hl (And.intro hI hw)))
  have HPI := hide (fun W => pick11_any zq 1025 (by decide) hzq 1025 rfl W)
  have hmo := pickP_lt zq 1025 (by decide)
  generalize pickP zq 1025 = most at *
  clear hE hl hI hw hzq
  go_enter Tryz.func3, Tryz.ntmps3
  go_wp2_with fail
  refine (unhide HAW).mono ?_
  rintro e w1 ⟨rfl, hb1⟩
  have HB1 := hide hb1
  have HOP := hide (topened_any 1024 (by decide) w1 ((unhide HARG).1.below hb1 (unhide HARG).1.lt))
  simp only [Int.cast_ofNat_Int] at HOP
  clear hb1 HAW
  go_wp2_with fail
  refine (unhide HOP).mono ?_
  rintro e x1 ⟨b, pb, tb, rfl, jb, LL, AA, hn, hA, h1⟩
  have HC := hide h1.begin
  clear h1 hA HOP
  go_wp2_with (go_at_call 11; refine (unhide HPI _).mono ?_; rintro e w' ⟨rfl, hw'⟩; subst w')
  refine (unhide HC).mono ?_
  rintro e x2 ⟨rfl, h2, -⟩
  have HC := hide (h2.add_ok 2 (by decide) most (by omega) (show wAdd Rc0 (((1024 : Nat) : Int) - 0) most = 0 by unfold wAdd; rw [if_neg (by decide), if_neg (by omega)]))
  simp only [show ((2 + 1 : Nat) : Int) = 3 from rfl] at HC
  clear h2
  go_wp2_with fail
  refine (unhide HC).mono ?_
  rintro e x3 ⟨rfl, h3, -⟩
  have H3 := hide h3
  clear h3 HC
  go_wp2
  go_loopw [13, 14, 15, 16] (fun su i _ _ wr => ∃ (k s : Nat) (R : Nat → Rc), k ≤ na ∧ i = .int .i64 (k : Int) ∧ su = .int .i64 (s : Int) ∧ s ≤ most ∧ TSt w1 wr b jb pb tb (fun x => x = tb) 19 1024 4 true LL AA hn (fun _ => Rc0) R ∧ R 2 = ⟨true, most, s, []⟩) (fun _ i _ _ _ => na - (intOf i).toNat)
  case atStart => exact ⟨0, 0, _, by omega, rfl, rfl, by omega, unhide H3, ups_same _ _ _⟩
  case round =>
    obtain ⟨k, s, R, hk, rfl, rfl, hs, h, hR⟩ := hrel
    clear H3
    obtain ⟨hE, hl, hI, hwl⟩ := unhide HARG
    by_cases hkn : k < na ∧ k < 40
    · have hdk : decide ((k : Int) < (na : Int)) = true := by simp; omega
      have hd4 : decide ((k : Int) < 40) = true := by simp; omega
      have hkn' : (k : Int) < (na : Int) := by omega
      have hk0 : (0 : Int) ≤ (k : Int) := by omega
      have hk40 : k < 40 := hkn.2
      obtain ⟨g, oo, rfl, hgl, cg⟩ := hI k (by omega)
      have hm := hwl k
      have HCG := hide (show ∀ W, Below w1.heap.size w1 W → W.cell? ⟨g, oo + k, none⟩ = some (.int .i64 (l.getD k 0)) from fun W hW => by
        have hb1 := unhide HB1
        rw [(hb1.trans (hW.mono hb1.size)).cell (p := ⟨g, oo + k, none⟩) hgl]
        exact cg)
      have cg0 := unhide HCG wr h.bel
      generalize l.getD k 0 = m at *
      have HSM := hide hs
      obtain ⟨hm1, hm2⟩ := hm
      have hm : I64 m := ⟨hm1, hm2⟩
      clear hI hwl hl hE cg hgl
      by_cases hB : m < -(s : Int)
      ·
        have HC := hide (h.charge_no 2 (by decide) m (by rw [hR, wChg_val, if_pos (by omega)]; decide))
        rw [show wChg (R 2) m = 119 by rw [hR, wChg_val, if_pos (by omega)]] at HC
        simp only [show ((2 + 1 : Nat) : Int) = 3 from rfl] at HC
        have g1 : decide (-(s : Int) ≤ m) = false := by simp; omega
        have g3 : decide (m < 0) = true := by simp; omega
        have g4 : decide (0 < m) = false := by simp; omega
        have hwa : IntKind.i64.wrap (-(s : Int)) = -(s : Int) := wrapI_eq _ (by omega) (by omega)
        have hwb : IntKind.i64.wrap ((most : Int) - (s : Int)) = (most : Int) - (s : Int) := wrapI_eq _ (by omega) (by omega)
        have HRR := hide hR
        clear h hR hm hs
        go_wp2_with fail
        refine (unhide HC).mono ?_
        rintro e y1 ⟨rfl, h1, -⟩
        have cg1 : y1.cell? ⟨g, oo + k, none⟩ = some (.int .i64 m) := unhide HCG y1 h1.bel
        have H1 := hide h1
        clear h1 HC cg0
        go_wp2
        go_roundw
        case rel => exact ⟨k + 1, s, R, by omega, by go_num, rfl, unhide HSM, unhide H1, unhide HRR⟩
        case measure => simp [intOf]; omega
      · by_cases hC : (most : Int) - (s : Int) < m
        ·
          have HC := hide (h.charge_no 2 (by decide) m (by rw [hR, wChg_val, if_neg (by omega), if_pos (by omega)]; decide))
          rw [show wChg (R 2) m = 112 by rw [hR, wChg_val, if_neg (by omega), if_pos (by omega)]] at HC
          simp only [show ((2 + 1 : Nat) : Int) = 3 from rfl] at HC
          have g1 : decide (-(s : Int) ≤ m) = true := by simp; omega
          have g2 : decide (m ≤ (most : Int) - (s : Int)) = false := by simp; omega
          have g3 : decide (m < 0) = false := by simp; omega
          have g4 : decide (0 < m) = true := by simp; omega
          have hwa : IntKind.i64.wrap (-(s : Int)) = -(s : Int) := wrapI_eq _ (by omega) (by omega)
          have hwb : IntKind.i64.wrap ((most : Int) - (s : Int)) = (most : Int) - (s : Int) := wrapI_eq _ (by omega) (by omega)
          have HRR := hide hR
          clear h hR hm hs
          go_wp2_with fail
          refine (unhide HC).mono ?_
          rintro e y1 ⟨rfl, h1, -⟩
          have cg1 : y1.cell? ⟨g, oo + k, none⟩ = some (.int .i64 m) := unhide HCG y1 h1.bel
          have H1 := hide h1
          clear h1 HC cg0
          go_wp2
          go_roundw
          case rel => exact ⟨k + 1, s, R, by omega, by go_num, rfl, unhide HSM, unhide H1, unhide HRR⟩
          case measure => simp [intOf]; omega
        ·
          have HC := hide (h.charge_ok 2 (by decide) m (by rw [hR, wChg_val, if_neg (by omega), if_neg (by omega)]))
          simp only [show ((2 + 1 : Nat) : Int) = 3 from rfl] at HC
          have g1 : decide (-(s : Int) ≤ m) = true := by simp; omega
          have g2 : decide (m ≤ (most : Int) - (s : Int)) = true := by simp; omega
          obtain ⟨s2, hs2⟩ : ∃ xx : Nat, (s : Int) + m = (xx : Int) := ⟨((s : Int) + m).toNat, by omega⟩
          have HS2 := hide (show s2 ≤ most ∧ chgR (R 2) m = ⟨true, most, s2, []⟩ from ⟨by omega, by rw [hR]; unfold chgR; simp only; rw [hs2]; simp⟩)
          have hw3 : IntKind.i64.wrap (s2 : Int) = (s2 : Int) := wrapI_eq _ (by omega) (by omega)
          have hwa : IntKind.i64.wrap (-(s : Int)) = -(s : Int) := wrapI_eq _ (by omega) (by omega)
          have hwb : IntKind.i64.wrap ((most : Int) - (s : Int)) = (most : Int) - (s : Int) := wrapI_eq _ (by omega) (by omega)
          have HRR := hide hR
          clear h hR hm hs
          go_wp2_with fail
          refine (unhide HC).mono ?_
          rintro e y1 ⟨rfl, h1, -⟩
          have cg1 : y1.cell? ⟨g, oo + k, none⟩ = some (.int .i64 m) := unhide HCG y1 h1.bel
          have H1 := hide h1
          clear h1 HC cg0
          go_wp2
          go_roundw
          case rel => exact ⟨k + 1, s2, _, by omega, by go_num, rfl, (unhide HS2).1, unhide H1, by rw [ups_same]; exact (unhide HS2).2⟩
          case measure => simp [intOf]; omega
    · have HSM := hide hs
      have HX : (¬ (k : Int) < (na : Int)) ∨ ((k : Int) < (na : Int) ∧ ¬ (k : Int) < 40) := by
        by_cases q : k < na
        · exact .inr ⟨by omega, by omega⟩
        · exact .inl (by omega)
      have HC := hide (h.get_ok 2 (by decide) (by rw [hR]))
      rw [hR] at HC
      simp only [show ((2 + 1 : Nat) : Int) = 3 from rfl] at HC
      clear hI hwl hl hE h hR hkn
      rcases HX with hkn' | ⟨hkn', hd4'⟩
      · have hdk : decide ((k : Int) < (na : Int)) = false := decide_eq_false hkn'
        go_wp2_with fail
        refine (unhide HC).mono ?_
        rintro e y1 ⟨v, rfl, hv, h8, -⟩
        obtain ⟨p, cp, rfl, -⟩ := row_form hv
        have HB := hide ((unhide HB1).trans (h8.bel.mono (unhide HB1).size))
        obtain ⟨h9, hh9⟩ : ∃ xx, y1.heap.size = xx := ⟨_, rfl⟩
        obtain ⟨x9, hx9⟩ : ∃ xx, y1.alloc (.cells #[.int .i64 3, .int .i64 (most : Int), .int .i64 (s : Int), .slice p 0 cp] 35) = xx := ⟨_, rfl⟩
        have B9 : Blk x9 h9 #[.int .i64 3, .int .i64 (most : Int), .int .i64 (s : Int), .slice p 0 cp] 35 := by rw [← hx9, ← hh9]; exact Blk.new y1 _ _
        have d1 : x9.cell? ⟨h9, 1, none⟩ = some (.int .i64 (most : Int)) := B9.cell 1
        have d2 : x9.cell? ⟨h9, 2, none⟩ = some (.int .i64 (s : Int)) := B9.cell 2
        have hb9 : Below y1.heap.size y1 x9 := by rw [← hx9]; exact (Below.refl _ y1).alloc (Nat.le_refl _) _
        have HBF := hide ((unhide HB).trans (hb9.mono (unhide HB).size))
        clear hv h8 B9 hb9 HC HB
        simp only [List.length_nil]
        go_wp2
        go_ret
        exact ⟨rfl, unhide HBF⟩
      · have hdk : decide ((k : Int) < (na : Int)) = true := decide_eq_true hkn'
        have hd4 : decide ((k : Int) < 40) = false := decide_eq_false hd4'
        go_wp2_with fail
        refine (unhide HC).mono ?_
        rintro e y1 ⟨v, rfl, hv, h8, -⟩
        obtain ⟨p, cp, rfl, -⟩ := row_form hv
        have HB := hide ((unhide HB1).trans (h8.bel.mono (unhide HB1).size))
        obtain ⟨h9, hh9⟩ : ∃ xx, y1.heap.size = xx := ⟨_, rfl⟩
        obtain ⟨x9, hx9⟩ : ∃ xx, y1.alloc (.cells #[.int .i64 3, .int .i64 (most : Int), .int .i64 (s : Int), .slice p 0 cp] 35) = xx := ⟨_, rfl⟩
        have B9 : Blk x9 h9 #[.int .i64 3, .int .i64 (most : Int), .int .i64 (s : Int), .slice p 0 cp] 35 := by rw [← hx9, ← hh9]; exact Blk.new y1 _ _
        have d1 : x9.cell? ⟨h9, 1, none⟩ = some (.int .i64 (most : Int)) := B9.cell 1
        have d2 : x9.cell? ⟨h9, 2, none⟩ = some (.int .i64 (s : Int)) := B9.cell 2
        have hb9 : Below y1.heap.size y1 x9 := by rw [← hx9]; exact (Below.refl _ y1).alloc (Nat.le_refl _) _
        have HBF := hide ((unhide HB).trans (hb9.mono (unhide HB).size))
        clear hv h8 B9 hb9 HC HB
        simp only [List.length_nil]
        go_wp2
        go_ret
        exact ⟨rfl, unhide HBF⟩
end Go.Proofs.YtbpcgephicmhhaaGreatDoor
