import Derived.Test.YtkmgbicacbalfaaDoorRdu
namespace Go.Proofs.YtkmgbicacbalfaaDoor
open Go.RowKit
structure LInv (w : World) (b1 c1 b2 c2 l : Nat) (U t : ByteArray) (wr : World) : Prop where
  one : ∃ a e, Two wr b1 c1 U a e
  two : ∃ a e, Two wr b2 c2 t a e
  ety : ETy wr
  bel : Below w.heap.size w wr
  last : Blk wr l #[.int .i64 5, .int .i64 0, .slice none 0 0, .string ⟨#[]⟩] 31
  low : w.heap.size ≤ b1 ∧ w.heap.size ≤ c1 ∧ w.heap.size ≤ b2 ∧ w.heap.size ≤ c2
  apart : b1 ≠ b2 ∧ b1 ≠ c2 ∧ c1 ≠ b2 ∧ c1 ≠ c2 ∧ l ≠ b1 ∧ l ≠ c1 ∧ l ≠ b2 ∧ l ≠ c2
theorem Two.only {w w' : World} {b c : Nat} {S : ByteArray} {a : Nat} {e : Int} {P : Nat → Prop} (h : Two w b c S a e) (ho : Only P w w') (hb : ¬ P b) (hc : ¬ P c) : Two w' b c S a e := ⟨h.1.only ho hb, h.2.1.only ho hc, h.2.2⟩
theorem LInv.reads1 {w : World} {b1 c1 b2 c2 l : Nat} {U t : ByteArray} {wr : World} (h : LInv w b1 c1 b2 c2 l U t wr) (hU : U.size ≤ 9223372036854775807) (KD N : Int) (L : Value) (T : ByteArray) :
    Calls Tryd.prog 8 #[.pointer (some ⟨b1, 0, none⟩), .pointer (some ⟨c1, 0, none⟩), .agg #[.int .i64 KD, .int .i64 N, L, .string T]] wr fun ev w' => ev = .returned (.bool true) ∧ LInv w b1 c1 b2 c2 l U t w' := by
  obtain ⟨a, e, h1⟩ := h.one
  obtain ⟨a2, e2, h2⟩ := h.two
  have hl := h.low
  have hp := h.apart
  refine (reads_any wr b1 c1 U a e h1 h.ety hU KD N L T).mono ?_
  rintro ev w' ⟨rfl, a', e', ⟨g1, g2⟩, go⟩
  exact ⟨rfl, ⟨⟨a', e', g1⟩, ⟨a2, e2, h2.only go (by show ¬ (b2 = b1 ∨ b2 = c1); omega) (by show ¬ (c2 = b1 ∨ c2 = c1); omega)⟩, g2, h.bel.trans (go.below h.bel.size (fun k hk q => by have q : k = b1 ∨ k = c1 := q; omega)), h.last.only go (by show ¬ (l = b1 ∨ l = c1); omega), hl, hp⟩⟩
theorem LInv.reads2 {w : World} {b1 c1 b2 c2 l : Nat} {U t : ByteArray} {wr : World} (h : LInv w b1 c1 b2 c2 l U t wr) (ht : t.size ≤ 9223372036854775807) (KD N : Int) (L : Value) (T : ByteArray) :
    Calls Tryd.prog 8 #[.pointer (some ⟨b2, 0, none⟩), .pointer (some ⟨c2, 0, none⟩), .agg #[.int .i64 KD, .int .i64 N, L, .string T]] wr fun ev w' => ev = .returned (.bool true) ∧ LInv w b1 c1 b2 c2 l U t w' := by
  obtain ⟨a, e, h1⟩ := h.one
  obtain ⟨a2, e2, h2⟩ := h.two
  have hl := h.low
  have hp := h.apart
  refine (reads_any wr b2 c2 t a2 e2 h2 h.ety ht KD N L T).mono ?_
  rintro ev w' ⟨rfl, a', e', ⟨g1, g2⟩, go⟩
  exact ⟨rfl, ⟨⟨a, e, h1.only go (by show ¬ (b1 = b2 ∨ b1 = c2); omega) (by show ¬ (c1 = b2 ∨ c1 = c2); omega)⟩, ⟨a', e', g1⟩, g2, h.bel.trans (go.below h.bel.size (fun k hk q => by have q : k = b2 ∨ k = c2 := q; omega)), h.last.only go (by show ¬ (l = b2 ∨ l = c2); omega), hl, hp⟩⟩
def num258 (U : ByteArray) (a' : Nat) (e' : Int) : Prop := a' ≤ U.size ∧
    (∀ W b, Rds W b (rst U 0 0) → ETy W → Calls Tryd.prog 6 #[.pointer (some ⟨b, 0, none⟩), .int .i64 2] W fun ev w' => ev = .returned (.int .i64 258) ∧ Rds w' b (rst U a' e') ∧ Only (fun k => k = b) W w') ∧
    (∀ W c, Rrf W c U ((0 : Nat) : Int) 0 → Calls Tryd.prog 7 #[.pointer (some ⟨c, 0, none⟩), .int .i64 2] W fun ev w' => ev = .returned (.int .i64 258) ∧ Rrf w' c U (a' : Int) e' ∧ Only (fun k => k = c) W w')
theorem num258_of (U : ByteArray) (hs : U.size ≤ 9223372036854775807) (hv : numV 2 (U.extract 0 U.size) = 258) : ∃ a' e', num258 U a' e' := by
  refine ⟨stepA 0 (numE 2 (U.extract 0 U.size)) ((2 : Int).toNat), numE 2 (U.extract 0 U.size), stepA_le U 0 _ _ (Nat.zero_le _) (fun h => (numE_le _ _ h).1), fun W b hW hg => ?_, fun W c hW => ?_⟩
  · refine (numS W b (rst U 0 0) hW hg (rst_ok U 0 0 (Nat.zero_le _) hs) 2).mono ?_
    rintro ev w' ⟨rfl, h1, h2⟩
    refine ⟨by rw [← hv]; rfl, ?_, h2⟩
    rw [← rst_step]
    exact h1
  · refine (fnum_any W c U 0 hW (Nat.zero_le _) hs 2).mono ?_
    rintro ev w' ⟨rfl, h1, h2⟩
    refine ⟨by rw [hv], ?_, h2⟩
    rw [← rTak_stepA]
    exact h1
set_option maxRecDepth 100000 in
set_option maxHeartbeats 8000000 in
theorem reads_walk (s t : ByteArray) (hs : s.size ≤ 140737488351232) (ht : t.size ≤ 140737488351232) (pa : Option Addr) (len cap : Nat) (hlen : len ≤ 140737488355328) (KD NN : Nat → Int) (LL : Nat → Value) (TT : Nat → ByteArray) (w : World) (hg : ETy w)
    (hcell : ∀ i, i < len → ∃ pb po, pa = some ⟨pb, po, none⟩ ∧ pb < w.heap.size ∧ w.cell? ⟨pb, po + i * 4, none⟩ = some (.int .i64 (KD i)) ∧ w.cell? ⟨pb, po + i * 4 + 1, none⟩ = some (.int .i64 (NN i)) ∧ w.cell? ⟨pb, po + i * 4 + 2, none⟩ = some (LL i) ∧ w.cell? ⟨pb, po + i * 4 + 3, none⟩ = some (.string (TT i))) :
    Calls Tryd.prog 3 #[.string s, .string t, .slice pa len cap] w fun e w' => e = .returned (.bool true) ∧ Below w.heap.size w w' := by
  have HC := hide hcell
  have HG := hide hg
  obtain ⟨U, hU⟩ : ∃ U, (⟨#[1, 2]⟩ : ByteArray) ++ s = U := ⟨_, rfl⟩
  have hUs : U.size = 2 + s.size := by rw [← hU, ByteArray.size_append]; rfl
  have y1 : ¬ 9223372036854775807 < 2 + s.size := by omega
  have HV := hide (show numV 2 (U.extract 0 U.size) = 258 ∧ numE 2 (U.extract 0 U.size) = 0 by
    have hn : (nums U).take 2 = [1, 2] := by
      rw [← hU]
      show ((⟨#[1, 2]⟩ ++ s : ByteArray).data.toList.map _).take 2 = [1, 2]
      simp
    have hb : beN ((nums (U.extract 0 U.size)).take (2 : Int).toNat) = 258 := by
      rw [extract_all]
      show beN ((nums U).take 2) = 258
      rw [hn]
      rfl
    have hE : numE 2 (U.extract 0 U.size) = 0 := by
      rw [numE, if_neg (by decide), if_neg (by rw [extract_all]; omega), hb, if_neg (by decide)]
    exact ⟨by rw [numV, if_pos hE, hb], hE⟩)
  have HNR := hide (fun W => newReader_any U W)
  have HNT := hide (fun W => newReader_any t W)
  clear hcell hg
  go_enter Tryd.func3, Tryd.ntmps3
  go_wp2_with fail
  refine (unhide HNR _).mono ?_
  rintro e x1 ⟨rfl, hR1, hB1, hz1⟩
  have R1 := hide hR1
  have B1 := hide hB1
  clear hR1 hB1 HNR
  go_wp2_with fail
  refine (unhide HNT _).mono ?_
  rintro e x2 ⟨rfl, hR2, hB2, hz2⟩
  have R2 := hide hR2
  have R1' := hide (show Rdr x2 w.heap.size U 0 0 from Blk.below (unhide R1) hB2 (by omega))
  have B2 := hide (show Below w.heap.size w x2 from (unhide B1).trans (hB2.mono (by omega)))
  clear hR2 hB2 HNT R1 B1
  obtain ⟨a0, e0, hN0⟩ := num258_of U (by omega) (unhide HV).1
  have HN1 := hide hN0.2.1
  have HN2 := hide hN0.2.2
  have HN0 := hide hN0.1
  clear hN0 HV
  obtain ⟨x3, hx3⟩ : ∃ x, (((x2.alloc (Obj.cells #[.string U, .int .i64 0, .int .i64 0] 28)).alloc (Obj.cells #[.string t, .int .i64 0, .int .i64 0] 28)).alloc (Obj.cells #[.int .i64 5, .int .i64 0, .slice none 0 0, .string ⟨#[]⟩] 31)) = x := ⟨_, rfl⟩
  have hH2 : x2.heap.size = w.heap.size + 1 + 1 := by omega
  have hb13 : Rds x3 w.heap.size (rst U 0 0) := by
    have : rst U 0 0 = ⟨U, 0, 0⟩ := by unfold rst; rw [if_pos rfl, extract_all]; rfl
    rw [this, ← hx3]
    exact ((Blk.alloc (unhide R1') _).alloc _).alloc _
  have hb23 : Rds x3 (w.heap.size + 1) (rst t 0 0) := by
    have : rst t 0 0 = ⟨t, 0, 0⟩ := by unfold rst; rw [if_pos rfl, extract_all]; rfl
    rw [this, ← hx3]
    have h := unhide R2
    rw [hz1] at h
    exact ((Blk.alloc h _).alloc _).alloc _
  have hc13 : Rrf x3 (w.heap.size + 1 + 1) U ((0 : Nat) : Int) 0 := by
    rw [← hx3, ← hH2]
    exact ((Blk.new x2 _ _).alloc _).alloc _
  have hc23 : Rrf x3 (w.heap.size + 1 + 1 + 1) t ((0 : Nat) : Int) 0 := by
    have h := (Blk.new (x2.alloc (Obj.cells #[.string U, .int .i64 0, .int .i64 0] 28)) 28 #[.string t, .int .i64 0, .int .i64 0]).alloc (Obj.cells #[.int .i64 5, .int .i64 0, .slice none 0 0, .string ⟨#[]⟩] 31)
    rw [hx3] at h
    have e : (x2.alloc (Obj.cells #[.string U, .int .i64 0, .int .i64 0] 28)).heap.size = w.heap.size + 1 + 1 + 1 := by simp [hH2]
    rw [e] at h
    exact h
  have hl3 : Blk x3 (w.heap.size + 1 + 1 + 1 + 1) #[.int .i64 5, .int .i64 0, .slice none 0 0, .string ⟨#[]⟩] 31 := by
    have h := Blk.new ((x2.alloc (Obj.cells #[.string U, .int .i64 0, .int .i64 0] 28)).alloc (Obj.cells #[.string t, .int .i64 0, .int .i64 0] 28)) 31 #[.int .i64 5, .int .i64 0, .slice none 0 0, .string ⟨#[]⟩]
    rw [hx3] at h
    have e : ((x2.alloc (Obj.cells #[.string U, .int .i64 0, .int .i64 0] 28)).alloc (Obj.cells #[.string t, .int .i64 0, .int .i64 0] 28)).heap.size = w.heap.size + 1 + 1 + 1 + 1 := by simp [hH2]
    rw [e] at h
    exact h
  have hB3 : Below w.heap.size w x3 := by
    rw [← hx3]
    exact (((unhide B2).alloc (by omega) _).alloc (by simp; omega) _).alloc (by simp; omega) _
  have hg3 : ETy x3 := (unhide HG).below hB3 (unhide HG).lt
  have X3 := hide (And.intro hb13 (And.intro hb23 (And.intro hc13 (And.intro hc23 (And.intro hl3 (And.intro hB3 hg3))))))
  replace hx3 := hide hx3
  clear hb13 hb23 hc13 hc23 hl3 hB3 hg3 R1' R2 B2 HG
  go_wp2_with fail
  rw [unhide hx3]
  obtain ⟨g1, g2, g3, g4, g5, g6, g7⟩ := unhide X3
  refine (unhide HN1 _ _ g1 g7).mono ?_
  rintro e x4 ⟨rfl, hR4, hO4⟩
  have X4 := hide (And.intro hR4 (And.intro (g2.only hO4 (by show ¬ w.heap.size + 1 = w.heap.size; omega)) (And.intro (g3.only hO4 (by show ¬ w.heap.size + 1 + 1 = w.heap.size; omega)) (And.intro (g4.only hO4 (by show ¬ w.heap.size + 1 + 1 + 1 = w.heap.size; omega)) (And.intro (g5.only hO4 (by show ¬ w.heap.size + 1 + 1 + 1 + 1 = w.heap.size; omega)) (And.intro (g6.trans (hO4.below g6.size (fun k hk q => by have q : k = w.heap.size := q; omega))) (ety_only g7 g1 hO4)))))))
  clear hR4 hO4 g1 g2 g3 g4 g5 g6 g7 X3 HN1 hx3
  go_wp2_with fail
  obtain ⟨g1, g2, g3, g4, g5, g6, g7⟩ := unhide X4
  refine (unhide HN2 _ _ g3).mono ?_
  rintro e x5 ⟨rfl, hR5, hO5⟩
  have X5 := hide (show LInv w w.heap.size (w.heap.size + 1 + 1) (w.heap.size + 1) (w.heap.size + 1 + 1 + 1) (w.heap.size + 1 + 1 + 1 + 1) U t x5 from
    ⟨⟨a0, e0, g1.only hO5 (by show ¬ w.heap.size = w.heap.size + 1 + 1; omega), hR5, by omega, unhide HN0⟩, ⟨0, 0, g2.only hO5 (by show ¬ w.heap.size + 1 = w.heap.size + 1 + 1; omega), g4.only hO5 (by show ¬ w.heap.size + 1 + 1 + 1 = w.heap.size + 1 + 1; omega), by omega, Nat.zero_le _⟩, ety_only2 g7 g3 hO5, g6.trans (hO5.below g6.size (fun k hk q => by have q : k = w.heap.size + 1 + 1 := q; omega)), g5.only hO5 (by show ¬ w.heap.size + 1 + 1 + 1 + 1 = w.heap.size + 1 + 1; omega), by omega, by omega⟩)
  clear hR5 hO5 g1 g2 g3 g4 g5 g6 g7 X4 HN2 HN0
  go_wp2
  go_loopw [12, 13] (fun u i wr => ∃ j : Nat, j ≤ len ∧ u = .bool true ∧ i = .int .i64 (j : Int) ∧ LInv w w.heap.size (w.heap.size + 1 + 1) (w.heap.size + 1) (w.heap.size + 1 + 1 + 1) (w.heap.size + 1 + 1 + 1 + 1) U t wr) (fun _ i _ => len - (intOf i).toNat)
  case atStart => exact ⟨0, by omega, rfl, rfl, unhide X5⟩
  case round =>
    obtain ⟨j, hj, rfl, rfl, hI⟩ := hrel
    obtain ⟨wo, rfl⟩ : ∃ wo, wo = wr := ⟨_, rfl⟩
    have Xwo := hide hI
    clear hI X5
    by_cases hjl : j < len
    · obtain ⟨pb, po, hpa, hpb, c0, c1, c2, c3⟩ := unhide HC j hjl
      subst hpa
      rw [← (unhide Xwo).bel.cell (p := ⟨pb, po + j * 4, none⟩) hpb] at c0
      rw [← (unhide Xwo).bel.cell (p := ⟨pb, po + j * 4 + 1, none⟩) hpb] at c1
      rw [← (unhide Xwo).bel.cell (p := ⟨pb, po + j * 4 + 2, none⟩) hpb] at c2
      rw [← (unhide Xwo).bel.cell (p := ⟨pb, po + j * 4 + 3, none⟩) hpb] at c3
      generalize KD j = kd at *
      generalize NN j = nn at *
      generalize LL j = ll at *
      generalize TT j = tt at *
      have hr : ((j : Int)).tmod 2 = ((j % 2 : Nat) : Int) := rfl
      by_cases hp2 : j % 2 = 0
      · rw [hp2] at hr
        clear hp2
        go_wp2_with fail
        refine ((unhide Xwo).reads1 (by omega) _ _ _ _).mono ?_
        rintro e x6 ⟨rfl, h6⟩
        have X6 := hide h6
        clear h6 Xwo c0 c1 c2 c3
        go_wp2
        go_roundw
        case rel => exact ⟨j + 1, by omega, rfl, by go_num, unhide X6⟩
        case measure => simp [intOf]; omega
      · rw [show j % 2 = 1 by omega] at hr
        clear hp2
        go_wp2_with fail
        refine ((unhide Xwo).reads2 (by omega) _ _ _ _).mono ?_
        rintro e x6 ⟨rfl, h6⟩
        have X6 := hide h6
        clear h6 Xwo c0 c1 c2 c3
        go_wp2
        go_roundw
        case rel => exact ⟨j + 1, by omega, rfl, by go_num, unhide X6⟩
        case measure => simp [intOf]; omega
    · have hj' : j = len := by omega
      subst hj'
      have d0 : wo.cell? ⟨w.heap.size + 1 + 1 + 1 + 1, 0, none⟩ = some (.int .i64 5) := by rw [(unhide Xwo).last.cell 0]; rfl
      have d1 : wo.cell? ⟨w.heap.size + 1 + 1 + 1 + 1, 1, none⟩ = some (.int .i64 0) := by rw [(unhide Xwo).last.cell 1]; rfl
      have d2 : wo.cell? ⟨w.heap.size + 1 + 1 + 1 + 1, 2, none⟩ = some (.slice none 0 0) := by rw [(unhide Xwo).last.cell 2]; rfl
      have d3 : wo.cell? ⟨w.heap.size + 1 + 1 + 1 + 1, 3, none⟩ = some (.string ⟨#[]⟩) := by rw [(unhide Xwo).last.cell 3]; rfl
      go_wp2_with fail
      refine ((unhide Xwo).reads1 (by omega) _ _ _ _).mono ?_
      rintro e x7 ⟨rfl, hx7⟩
      have Xx7 := hide hx7
      clear hx7 Xwo d0 d1 d2 d3
      have f0 : x7.cell? ⟨w.heap.size + 1 + 1 + 1 + 1, 0, none⟩ = some (.int .i64 5) := by rw [(unhide Xx7).last.cell 0]; rfl
      have f1 : x7.cell? ⟨w.heap.size + 1 + 1 + 1 + 1, 1, none⟩ = some (.int .i64 0) := by rw [(unhide Xx7).last.cell 1]; rfl
      have f2 : x7.cell? ⟨w.heap.size + 1 + 1 + 1 + 1, 2, none⟩ = some (.slice none 0 0) := by rw [(unhide Xx7).last.cell 2]; rfl
      have f3 : x7.cell? ⟨w.heap.size + 1 + 1 + 1 + 1, 3, none⟩ = some (.string ⟨#[]⟩) := by rw [(unhide Xx7).last.cell 3]; rfl
      go_wp2_with fail
      refine ((unhide Xx7).reads2 (by omega) _ _ _ _).mono ?_
      rintro e x8 ⟨rfl, hx8⟩
      have Xx8 := hide hx8
      clear hx8 Xx7 f0 f1 f2 f3
      have g0 : x8.cell? ⟨w.heap.size + 1 + 1 + 1 + 1, 0, none⟩ = some (.int .i64 5) := by rw [(unhide Xx8).last.cell 0]; rfl
      have g1 : x8.cell? ⟨w.heap.size + 1 + 1 + 1 + 1, 1, none⟩ = some (.int .i64 0) := by rw [(unhide Xx8).last.cell 1]; rfl
      have g2 : x8.cell? ⟨w.heap.size + 1 + 1 + 1 + 1, 2, none⟩ = some (.slice none 0 0) := by rw [(unhide Xx8).last.cell 2]; rfl
      have g3 : x8.cell? ⟨w.heap.size + 1 + 1 + 1 + 1, 3, none⟩ = some (.string ⟨#[]⟩) := by rw [(unhide Xx8).last.cell 3]; rfl
      go_wp2_with fail
      refine ((unhide Xx8).reads1 (by omega) _ _ _ _).mono ?_
      rintro e x9 ⟨rfl, hx9⟩
      have Xx9 := hide hx9
      clear hx9 Xx8 g0 g1 g2 g3
      go_wp2
      go_ret
      exact ⟨rfl, (unhide Xx9).bel⟩
end Go.Proofs.YtkmgbicacbalfaaDoor
