import Derived.Test.YtpcmifmgkccfnaaGreatDoorMv07
namespace Go.Proofs.YtpcmifmgkccfnaaGreatDoor
open Go.RowKit
set_option maxRecDepth 100000
/-- A body under way. -/
def bdG (m : Int) (q c n : Nat) (f : Nat → Nat × Nat) (k : Nat) : List Int := (((numB m 1 ++ (numB (q : Int) 4 ++ numB (c : Int) 4)) ++ numB (n : Int) 1) ++ vF f k)
theorem bdG_len (m : Int) (q c n : Nat) (f : Nat → Nat × Nat) (k : Nat) : (bdG m q c n f k).length = 10 + 5 * k := by simp only [bdG, List.length_append, numB_len, vF_len]
theorem bdG_succ (m : Int) (q c n : Nat) (f : Nat → Nat × Nat) (k : Nat) : (bdG m q c n f k ++ numB ((f k).1 : Int) 1) ++ numB ((f k).2 : Int) 4 = bdG m q c n f (k + 1) := by simp [bdG, vF]
theorem bdG_bdR (r : Rc) (m : Int) (hm : m = if r.th then 1 else 0) : strOfNums (bdG m r.q r.c r.v.length r.at 8) = bdR r := by
  have : m = (mkR r : Int) := by rw [hm, mkR]; split <;> rfl
  rw [this, bdR, ← bdF_all]
  rfl
theorem vC_range {W : World} {g : Nat} {th : Bool} {q c n : Nat} {f : Nat → Nat × Nat} {T : TypeId} (h : Blk W g (rC th q c n f).toArray T) : W.rangeAt g 4 (vC f) := fun j v hv => by
  rw [h.cell, Nat.add_comm]
  simpa [rC] using hv
set_option maxRecDepth 100000 in
set_option maxHeartbeats 2000000 in
theorem body_true (q c n : Nat) (f : Nat → Nat × Nat) (hq : q ≤ 65535) (hc : c ≤ 65535) (hn : n ≤ 8) (hf : ∀ k, (f k).1 ≤ 99 ∧ (f k).2 ≤ 1023) (w : World) : Calls Tryz.prog 114 #[.agg (rC true q c n f).toArray] w fun e w' => e = .returned (.string (strOfNums (bdG 1 q c n f 8))) ∧ Below w.heap.size w w' := by
  obtain ⟨g, hg⟩ : ∃ g, w.heap.size = g := ⟨_, rfl⟩
  have HIX := hide (index_vls f)
  have HRG := hide (fun W (h : Blk W g (rC true q c n f).toArray 88) => vC_range h)
  have HVL := hide (show (vC f).length = 16 from rfl)
  obtain ⟨vs, hvs⟩ : ∃ q, vC f = q := ⟨_, rfl⟩
  rw [hvs] at HIX HRG HVL
  have h0 : (rC true q c n f).toArray[0]? = some (.bool true) := rfl
  have h1 : (rC true q c n f).toArray[1]? = some (.int .i64 (q : Int)) := rfl
  have h2 : (rC true q c n f).toArray[2]? = some (.int .i64 (c : Int)) := rfl
  have h3 : (rC true q c n f).toArray[3]? = some (.int .i64 (n : Int)) := rfl
  generalize (rC true q c n f).toArray = xs at *
  clear hvs
  have HGL := hide (bdG_len 1 q c n f)
  have HGS := hide (bdG_succ 1 q c n f)
  have HG0 := hide (show ((numB 1 1 ++ (numB (q : Int) 4 ++ numB (c : Int) 4)) ++ numB (n : Int) 1) = bdG 1 q c n f 0 by simp [bdG, vF])
  generalize bdG 1 q c n f = G at *
  obtain ⟨x2, hx2⟩ : ∃ q, w.alloc (.cells xs 88) = q := ⟨_, rfl⟩
  have B : Blk x2 g xs 88 := by rw [← hx2, ← hg]; exact Blk.new w _ _
  have hb : Below g w x2 := by rw [← hx2, ← hg]; exact (Below.refl _ w).alloc (Nat.le_refl _) _
  have c0 : x2.cell? ⟨g, 0, none⟩ = some (.bool true) := by rw [B.cell]; exact h0
  have HX := hide (And.intro h1 (And.intro h2 h3))
  have X2 := hide (And.intro B hb)
  have HF := hide hf
  have HQ := hide (And.intro hq (And.intro hc hn))
  clear B hb hf h0 h1 h2 h3 hq hc hn
  rw [hg]
  go_enter Tryz.func114, Tryz.ntmps114
  go_wp2_with fail
  refine (newWriter_any _).mono ?_
  rintro e x3 ⟨rfl, hW3, hb3, hs3⟩
  obtain ⟨B, hb⟩ := unhide X2
  have B3 := B.below hb3 B.lt
  have hb13 : Below g w x3 := hb.trans (hb3.mono (by have := B.lt; omega))
  obtain ⟨bw, hbw⟩ : ∃ q, x2.heap.size = q := ⟨_, rfl⟩
  have hgb : g < bw := by rw [← hbw]; exact B.lt
  have hbl : bw ≤ x3.heap.size := by rw [← hbw]; exact hb3.size
  rw [hbw] at hW3
  rw [hbw]
  have P3 := hide (WPost.refl hW3)
  have X3 := hide (And.intro B3 (And.intro hb13 (And.intro hgb hbl)))
  have HBX := hide (show ∀ l W, WPost bw bw (.slice none 0 0) l 0 x3 W → Blk W g xs 88 ∧ Below g w W from fun l W hP => by
    have hO : Only (Fp bw (.slice none 0 0)) x3 W := by obtain ⟨_, _, q, _⟩ := hP; exact q
    refine ⟨B3.only hO (by rintro (q | q); exact absurd q (by omega); cases q), ?_⟩
    exact hb13.trans (hO.below (B := g) (by have := B3.lt; omega) (fun x hx q => by rcases q with q | q; omega; cases q)))
  clear B hb B3 hb13 hb3 hs3 hbw hgb hbl X2 hW3 hx2 c0
  go_wp2_with fail
  refine (wnumK (unhide P3) (unhide X3).2.2.2 1 (by decide) (by decide) 1 (by decide) (by simp) 1 rfl (numB 1 1) rfl).mono ?_
  rintro e x5 ⟨rfl, hP5⟩
  have B5 := (unhide HBX _ _ hP5).1
  have HP5 := hide hP5
  have c1 : x5.cell? ⟨g, 1, none⟩ = some (.int .i64 (q : Int)) := by rw [B5.cell]; exact (unhide HX).1
  have c2 : x5.cell? ⟨g, 2, none⟩ = some (.int .i64 (c : Int)) := by rw [B5.cell]; exact (unhide HX).2.1
  clear hP5 B5 P3
  go_wp2_with fail
  refine (wnum2K (unhide HP5) (unhide X3).2.2.2 4 (by decide) (by decide) (q : Int) (c : Int) (fits4n q (by have := (unhide HQ).1; omega)) (fits4n c (by have := (unhide HQ).2.1; omega)) (by rw [numB_len]; omega) 4 rfl (numB 1 1 ++ (numB (q : Int) 4 ++ numB (c : Int) 4)) rfl).mono ?_
  rintro e x6 ⟨rfl, hP6⟩
  have B6 := (unhide HBX _ _ hP6).1
  have HP6 := hide hP6
  have c3 : x6.cell? ⟨g, 3, none⟩ = some (.int .i64 (n : Int)) := by rw [B6.cell]; exact (unhide HX).2.2
  clear hP6 B6 HP5 c1 c2
  go_wp2_with fail
  refine (wnumK (unhide HP6) (unhide X3).2.2.2 1 (by decide) (by decide) (n : Int) (fits1n n (by have := (unhide HQ).2.2; omega)) (by simp [numB_len]) 1 rfl (G 0) (unhide HG0)).mono ?_
  rintro e x7 ⟨rfl, hP7⟩
  have B7 := (unhide HBX _ _ hP7).1
  have HP7 := hide hP7
  have R7 := hide (unhide HRG x7 B7)
  clear hP7 B7 HP6 c3
  go_wp2_with (refine wpList_load_mid rfl 86 (.tmp 28) rfl g 4 rfl _ _ (unhide R7) Tryz.underlying86 rfl (by rw [sizeVls, unhide HVL]) ?_)
  clear R7
  go_loopw [30] (fun i wr => ∃ k : Nat, k ≤ 8 ∧ i = .int .i64 (k : Int) ∧ WPost bw bw (.slice none 0 0) (G k) 0 x3 wr) (fun i _ => 8 - (intOf i).toNat)
  case atStart => exact ⟨0, by omega, rfl, unhide HP7⟩
  case round =>
    obtain ⟨k, hk, rfl, hP⟩ := hrel
    by_cases hkn : k < 8
    · have hkn' : (k : Int) < 8 := by omega
      have hk0 : (0 : Int) ≤ (k : Int) := by omega
      have hix := unhide HIX k hkn
      have HS := hide (unhide HGS k)
      have HLL := hide (show (G k).length ≤ 100 by rw [unhide HGL k]; omega)
      have HFK := hide (unhide HF k)
      generalize (f k).1 = u at *
      generalize (f k).2 = v at *
      have HP := hide hP
      clear hP
      obtain ⟨ge, hge⟩ : ∃ q, wr.heap.size = q := ⟨_, rfl⟩
      obtain ⟨y0, hy0⟩ : ∃ q, wr.alloc (.cells #[.int .i64 (u : Int), .int .i64 (v : Int)] 54) = q := ⟨_, rfl⟩
      have B0 : Blk y0 ge #[.int .i64 (u : Int), .int .i64 (v : Int)] 54 := by rw [← hy0, ← hge]; exact Blk.new wr _ _
      have P0 : WPost bw bw (.slice none 0 0) (G k) 0 x3 y0 := by rw [← hy0]; exact (unhide HP).alloc _
      have hgeb : bw < ge := by
        obtain ⟨v1, W1, -, -⟩ := unhide HP
        rw [← hge]
        exact W1.lt
      have k0 : y0.cell? ⟨ge, 0, none⟩ = some (.int .i64 (u : Int)) := B0.cell 0
      have k1 : y0.cell? ⟨ge, 1, none⟩ = some (.int .i64 (v : Int)) := B0.cell 1
      obtain ⟨v1, W1, O1, h1⟩ := P0
      have hnF : ¬ Fp bw v1 ge := by
        rintro (q | q)
        · omega
        · exact B0.not_row (by decide) W1.2.1 q
      have HRW := hide (wnumK (WPost.refl W1) (Nat.le_trans (unhide X3).2.2.2 O1.size) 1 (by decide) (by decide) (u : Int) (fits1n u (by have := (unhide HFK).1; omega)) (by have := unhide HLL; omega) 1 rfl _ rfl)
      have X1 := hide (And.intro B0 (And.intro O1 (And.intro h1 hnF)))
      clear B0 W1 O1 h1 hnF
      go_wp2_with fail
      refine (unhide HRW).mono ?_
      rintro e y2 ⟨rfl, hP2⟩
      obtain ⟨B1, O1, h1, hnF⟩ := unhide X1
      have hO2 : Only (Fp bw v1) y0 y2 := by obtain ⟨_, _, q, _⟩ := hP2; exact q
      have B2 := B1.only hO2 hnF
      have d1 : y2.cell? ⟨ge, 1, none⟩ = some (.int .i64 (v : Int)) := B2.cell 1
      have P2 := hide (WPost.trans O1 h1 hP2)
      clear B1 O1 h1 hnF hO2 B2 hP2 X1 HRW k0 k1 hix
      go_wp2_with fail
      refine (wnumK (unhide P2) (unhide X3).2.2.2 4 (by decide) (by decide) (v : Int) (fits4n v (by have := (unhide HFK).2; omega)) (by rw [List.length_append, numB_len]; have := unhide HLL; omega) 4 rfl (G (k + 1)) (unhide HS)).mono ?_
      rintro e y3 ⟨rfl, hP3⟩
      have HP3 := hide hP3
      clear hP3 P2 d1 hgeb hge hy0
      go_wp2
      go_roundw
      case rel => exact ⟨k + 1, by omega, by go_num, unhide HP3⟩
      case measure => simp [intOf]; omega
    · have hke : k = 8 := by omega
      have hkn' : ¬ (k : Int) < 8 := by omega
      have HD := hide (doneK hP)
      rw [hke] at HD
      clear hke hP HIX
      go_wp2_with fail
      refine (unhide HD).mono ?_
      rintro e x8 ⟨rfl, hP8⟩
      have HB8 := hide (unhide HBX _ _ hP8).2
      clear hP8 HD
      go_wp2
      go_ret
      exact ⟨rfl, unhide HB8⟩
set_option maxRecDepth 100000 in
set_option maxHeartbeats 2000000 in
theorem body_false (q c n : Nat) (f : Nat → Nat × Nat) (hq : q ≤ 65535) (hc : c ≤ 65535) (hn : n ≤ 8) (hf : ∀ k, (f k).1 ≤ 99 ∧ (f k).2 ≤ 1023) (w : World) : Calls Tryz.prog 114 #[.agg (rC false q c n f).toArray] w fun e w' => e = .returned (.string (strOfNums (bdG 0 q c n f 8))) ∧ Below w.heap.size w w' := by
  obtain ⟨g, hg⟩ : ∃ g, w.heap.size = g := ⟨_, rfl⟩
  have HIX := hide (index_vls f)
  have HRG := hide (fun W (h : Blk W g (rC false q c n f).toArray 88) => vC_range h)
  have HVL := hide (show (vC f).length = 16 from rfl)
  obtain ⟨vs, hvs⟩ : ∃ q, vC f = q := ⟨_, rfl⟩
  rw [hvs] at HIX HRG HVL
  have h0 : (rC false q c n f).toArray[0]? = some (.bool false) := rfl
  have h1 : (rC false q c n f).toArray[1]? = some (.int .i64 (q : Int)) := rfl
  have h2 : (rC false q c n f).toArray[2]? = some (.int .i64 (c : Int)) := rfl
  have h3 : (rC false q c n f).toArray[3]? = some (.int .i64 (n : Int)) := rfl
  generalize (rC false q c n f).toArray = xs at *
  clear hvs
  have HGL := hide (bdG_len 0 q c n f)
  have HGS := hide (bdG_succ 0 q c n f)
  have HG0 := hide (show ((numB 0 1 ++ (numB (q : Int) 4 ++ numB (c : Int) 4)) ++ numB (n : Int) 1) = bdG 0 q c n f 0 by simp [bdG, vF])
  generalize bdG 0 q c n f = G at *
  obtain ⟨x2, hx2⟩ : ∃ q, w.alloc (.cells xs 88) = q := ⟨_, rfl⟩
  have B : Blk x2 g xs 88 := by rw [← hx2, ← hg]; exact Blk.new w _ _
  have hb : Below g w x2 := by rw [← hx2, ← hg]; exact (Below.refl _ w).alloc (Nat.le_refl _) _
  have c0 : x2.cell? ⟨g, 0, none⟩ = some (.bool false) := by rw [B.cell]; exact h0
  have HX := hide (And.intro h1 (And.intro h2 h3))
  have X2 := hide (And.intro B hb)
  have HF := hide hf
  have HQ := hide (And.intro hq (And.intro hc hn))
  clear B hb hf h0 h1 h2 h3 hq hc hn
  rw [hg]
  go_enter Tryz.func114, Tryz.ntmps114
  go_wp2_with fail
  refine (newWriter_any _).mono ?_
  rintro e x3 ⟨rfl, hW3, hb3, hs3⟩
  obtain ⟨B, hb⟩ := unhide X2
  have B3 := B.below hb3 B.lt
  have hb13 : Below g w x3 := hb.trans (hb3.mono (by have := B.lt; omega))
  obtain ⟨bw, hbw⟩ : ∃ q, x2.heap.size = q := ⟨_, rfl⟩
  have hgb : g < bw := by rw [← hbw]; exact B.lt
  have hbl : bw ≤ x3.heap.size := by rw [← hbw]; exact hb3.size
  rw [hbw] at hW3
  rw [hbw]
  have P3 := hide (WPost.refl hW3)
  have X3 := hide (And.intro B3 (And.intro hb13 (And.intro hgb hbl)))
  have HBX := hide (show ∀ l W, WPost bw bw (.slice none 0 0) l 0 x3 W → Blk W g xs 88 ∧ Below g w W from fun l W hP => by
    have hO : Only (Fp bw (.slice none 0 0)) x3 W := by obtain ⟨_, _, q, _⟩ := hP; exact q
    refine ⟨B3.only hO (by rintro (q | q); exact absurd q (by omega); cases q), ?_⟩
    exact hb13.trans (hO.below (B := g) (by have := B3.lt; omega) (fun x hx q => by rcases q with q | q; omega; cases q)))
  clear B hb B3 hb13 hb3 hs3 hbw hgb hbl X2 hW3 hx2 c0
  go_wp2_with fail
  refine (wnumK (unhide P3) (unhide X3).2.2.2 1 (by decide) (by decide) 0 (by decide) (by simp) 1 rfl (numB 0 1) rfl).mono ?_
  rintro e x5 ⟨rfl, hP5⟩
  have B5 := (unhide HBX _ _ hP5).1
  have HP5 := hide hP5
  have c1 : x5.cell? ⟨g, 1, none⟩ = some (.int .i64 (q : Int)) := by rw [B5.cell]; exact (unhide HX).1
  have c2 : x5.cell? ⟨g, 2, none⟩ = some (.int .i64 (c : Int)) := by rw [B5.cell]; exact (unhide HX).2.1
  clear hP5 B5 P3
  go_wp2_with fail
  refine (wnum2K (unhide HP5) (unhide X3).2.2.2 4 (by decide) (by decide) (q : Int) (c : Int) (fits4n q (by have := (unhide HQ).1; omega)) (fits4n c (by have := (unhide HQ).2.1; omega)) (by rw [numB_len]; omega) 4 rfl (numB 0 1 ++ (numB (q : Int) 4 ++ numB (c : Int) 4)) rfl).mono ?_
  rintro e x6 ⟨rfl, hP6⟩
  have B6 := (unhide HBX _ _ hP6).1
  have HP6 := hide hP6
  have c3 : x6.cell? ⟨g, 3, none⟩ = some (.int .i64 (n : Int)) := by rw [B6.cell]; exact (unhide HX).2.2
  clear hP6 B6 HP5 c1 c2
  go_wp2_with fail
  refine (wnumK (unhide HP6) (unhide X3).2.2.2 1 (by decide) (by decide) (n : Int) (fits1n n (by have := (unhide HQ).2.2; omega)) (by simp [numB_len]) 1 rfl (G 0) (unhide HG0)).mono ?_
  rintro e x7 ⟨rfl, hP7⟩
  have B7 := (unhide HBX _ _ hP7).1
  have HP7 := hide hP7
  have R7 := hide (unhide HRG x7 B7)
  clear hP7 B7 HP6 c3
  go_wp2_with (refine wpList_load_mid rfl 86 (.tmp 28) rfl g 4 rfl _ _ (unhide R7) Tryz.underlying86 rfl (by rw [sizeVls, unhide HVL]) ?_)
  clear R7
  go_loopw [30] (fun i wr => ∃ k : Nat, k ≤ 8 ∧ i = .int .i64 (k : Int) ∧ WPost bw bw (.slice none 0 0) (G k) 0 x3 wr) (fun i _ => 8 - (intOf i).toNat)
  case atStart => exact ⟨0, by omega, rfl, unhide HP7⟩
  case round =>
    obtain ⟨k, hk, rfl, hP⟩ := hrel
    by_cases hkn : k < 8
    · have hkn' : (k : Int) < 8 := by omega
      have hk0 : (0 : Int) ≤ (k : Int) := by omega
      have hix := unhide HIX k hkn
      have HS := hide (unhide HGS k)
      have HLL := hide (show (G k).length ≤ 100 by rw [unhide HGL k]; omega)
      have HFK := hide (unhide HF k)
      generalize (f k).1 = u at *
      generalize (f k).2 = v at *
      have HP := hide hP
      clear hP
      obtain ⟨ge, hge⟩ : ∃ q, wr.heap.size = q := ⟨_, rfl⟩
      obtain ⟨y0, hy0⟩ : ∃ q, wr.alloc (.cells #[.int .i64 (u : Int), .int .i64 (v : Int)] 54) = q := ⟨_, rfl⟩
      have B0 : Blk y0 ge #[.int .i64 (u : Int), .int .i64 (v : Int)] 54 := by rw [← hy0, ← hge]; exact Blk.new wr _ _
      have P0 : WPost bw bw (.slice none 0 0) (G k) 0 x3 y0 := by rw [← hy0]; exact (unhide HP).alloc _
      have hgeb : bw < ge := by
        obtain ⟨v1, W1, -, -⟩ := unhide HP
        rw [← hge]
        exact W1.lt
      have k0 : y0.cell? ⟨ge, 0, none⟩ = some (.int .i64 (u : Int)) := B0.cell 0
      have k1 : y0.cell? ⟨ge, 1, none⟩ = some (.int .i64 (v : Int)) := B0.cell 1
      obtain ⟨v1, W1, O1, h1⟩ := P0
      have hnF : ¬ Fp bw v1 ge := by
        rintro (q | q)
        · omega
        · exact B0.not_row (by decide) W1.2.1 q
      have HRW := hide (wnumK (WPost.refl W1) (Nat.le_trans (unhide X3).2.2.2 O1.size) 1 (by decide) (by decide) (u : Int) (fits1n u (by have := (unhide HFK).1; omega)) (by have := unhide HLL; omega) 1 rfl _ rfl)
      have X1 := hide (And.intro B0 (And.intro O1 (And.intro h1 hnF)))
      clear B0 W1 O1 h1 hnF
      go_wp2_with fail
      refine (unhide HRW).mono ?_
      rintro e y2 ⟨rfl, hP2⟩
      obtain ⟨B1, O1, h1, hnF⟩ := unhide X1
      have hO2 : Only (Fp bw v1) y0 y2 := by obtain ⟨_, _, q, _⟩ := hP2; exact q
      have B2 := B1.only hO2 hnF
      have d1 : y2.cell? ⟨ge, 1, none⟩ = some (.int .i64 (v : Int)) := B2.cell 1
      have P2 := hide (WPost.trans O1 h1 hP2)
      clear B1 O1 h1 hnF hO2 B2 hP2 X1 HRW k0 k1 hix
      go_wp2_with fail
      refine (wnumK (unhide P2) (unhide X3).2.2.2 4 (by decide) (by decide) (v : Int) (fits4n v (by have := (unhide HFK).2; omega)) (by rw [List.length_append, numB_len]; have := unhide HLL; omega) 4 rfl (G (k + 1)) (unhide HS)).mono ?_
      rintro e y3 ⟨rfl, hP3⟩
      have HP3 := hide hP3
      clear hP3 P2 d1 hgeb hge hy0
      go_wp2
      go_roundw
      case rel => exact ⟨k + 1, by omega, by go_num, unhide HP3⟩
      case measure => simp [intOf]; omega
    · have hke : k = 8 := by omega
      have hkn' : ¬ (k : Int) < 8 := by omega
      have HD := hide (doneK hP)
      rw [hke] at HD
      clear hke hP HIX
      go_wp2_with fail
      refine (unhide HD).mono ?_
      rintro e x8 ⟨rfl, hP8⟩
      have HB8 := hide (unhide HBX _ _ hP8).2
      clear hP8 HD
      go_wp2
      go_ret
      exact ⟨rfl, unhide HB8⟩
theorem rBody_any (r : Rc) (h : ROk r) (w : World) : Calls Tryz.prog 114 #[.agg (rV r).toArray] w fun e w' => e = .returned (.string (bdR r)) ∧ Below w.heap.size w w' := by
  have hc := h.c
  have hq := h.q
  cases ht : r.th with
  | true =>
    have := body_true r.q r.c r.v.length r.at h.q (by omega) h.n h.at8 w
    rw [bdG_bdR r 1 (by rw [ht]; rfl)] at this
    rw [rV, ht]
    exact this
  | false =>
    have := body_false r.q r.c r.v.length r.at h.q (by omega) h.n h.at8 w
    rw [bdG_bdR r 0 (by rw [ht]; rfl)] at this
    rw [rV, ht]
    exact this
set_option maxRecDepth 100000 in
set_option maxHeartbeats 2000000 in
theorem sectorOf_any (k : Nat) (hk : k ≤ 8) (r : Rc) (h : ROk r) (w : World) : Calls Tryz.prog 52 #[.int .i64 (k : Int), .agg (rV r).toArray] w fun e w' => e = .returned (.string (pgR k r)) ∧ Below w.heap.size w w' := by
  obtain ⟨g, hg⟩ : ∃ g, w.heap.size = g := ⟨_, rfl⟩
  have HB := hide (fun W => rBody_any r h W)
  have HM := hide (fun W => make_any rep_ok 5 (k : Int) (bdR r) W)
  have HE := hide (pgR_err k r hk)
  have HPG := hide (show pgR k r = makeB 5 (k : Int) (bdR r) from rfl)
  generalize pgR k r = tx at *
  generalize bdR r = bd at *
  obtain ⟨xs, hxs⟩ : ∃ q, rV r = q := ⟨_, rfl⟩
  have hxl : xs.length = 20 := by rw [← hxs]; rfl
  rw [hxs] at HB ⊢
  clear hxs h
  obtain ⟨x2, hx2⟩ : ∃ q, w.alloc (.cells xs.toArray 88) = q := ⟨_, rfl⟩
  have B : Blk x2 g xs.toArray 88 := by rw [← hx2, ← hg]; exact Blk.new w _ _
  have hb : Below g w x2 := by rw [← hx2, ← hg]; exact (Below.refl _ w).alloc (Nat.le_refl _) _
  have R2 := hide (blk_range B)
  have X2 := hide (And.intro hb B.lt)
  have HXL := hide hxl
  clear B hb hxl
  rw [hg]
  go_enter Tryz.func52, Tryz.ntmps52
  go_wp2_with (refine wpList_load_mid rfl 88 (.tmp 3) rfl g 0 rfl _ _ (unhide R2) Tryz.underlying88 rfl (by rw [sizeRec, unhide HXL]) ?_)
  refine (unhide HB _).mono ?_
  rintro e x3 ⟨rfl, hb3⟩
  have HB3 := hide (show Below g w x3 from (unhide X2).1.trans (hb3.mono (Nat.le_of_lt (unhide X2).2)))
  have hs3 := hb3.size
  have hlt := (unhide X2).2
  have HL3 := hide (show g ≤ x3.heap.size by omega)
  clear hb3 hs3 hlt R2 HB hx2
  go_wp2_with fail
  refine (unhide HM _).mono ?_
  rw [unhide HE, ← unhide HPG]
  rintro e x4 ⟨rfl, hb4⟩
  have HB4 := hide (show Below g w x4 from (unhide HB3).trans (hb4.mono (unhide HL3)))
  clear hb4 HM
  go_wp2
  go_ret
  exact ⟨rfl, unhide HB4⟩
end Go.Proofs.YtpcmifmgkccfnaaGreatDoor
