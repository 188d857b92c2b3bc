import Derived.Test.YtpjoibolhkgkhaaGreatDoorXfi
namespace Go.Proofs.YtpjoibolhkgkhaaGreatDoor
open Go.RowKit
set_option maxRecDepth 100000
theorem kindByte_any (k : Nat) (hk : k ≤ 12) (w : World) : Calls Tryz.prog 37 #[.int .i64 (k : Int)] w fun e w' => e = .returned (.string (strOfNums [(k : Int)])) ∧ Below w.heap.size w w' := by
  have hA : Arr (w.alloc (Obj.cells #[.int .u8 (k : Int)] 5)) w.heap.size 0 .u8 [(k : Int)] := by
    intro j hj
    have hj0 : j = 0 := by simp at hj; omega
    subst hj0
    have hB := Blk.new w 5 #[.int .u8 (k : Int)]
    exact ⟨by rw [hB.cell]; rfl, hB.frozen _⟩
  have hcv := run_convert_bytes_arg (P := Tryz.prog) (w.alloc (Obj.cells #[.int .u8 (k : Int)] 5)) 61 5 Tryz.underlying61 Tryz.underlying5 w.heap.size 0 1 1 [(k : Int)] rfl (fun i hi => hA.get i hi) 9 Tryz.underlying9
  have hw8 : IntKind.u8.wrap (k : Int) = (k : Int) := by rw [IntKind.wrap_u8]; omega
  generalize strOfNums [(k : Int)] = S at *
  clear hA
  go_enter Tryz.func37, Tryz.ntmps37
  go_wp2
  go_ret
  exact ⟨rfl, (Below.refl _ _).alloc (Nat.le_refl _) _⟩
theorem layR_len : ∀ (fs : List Fld), (∀ f ∈ fs, IsN f) → ∀ (r : Rep) (x : Rep × List Int), layR fs r = some x → x.2.length = szF fs ∧ Bytes x.2
  | [], _, r, x, h => by
    simp only [layR, Option.some.injEq] at h
    subst h
    exact ⟨rfl, fun j => by simp⟩
  | f :: fs, hF, r, x, h => by
    rw [layR] at h
    by_cases hok : okF f (exr f r Prt.nil).2 = true
    · rw [if_pos hok] at h
      cases hq : layR fs (exr f r Prt.nil).1 with
      | none => rw [hq] at h; simp at h
      | some y =>
        rw [hq] at h
        simp only [Option.map_some, Option.some.injEq] at h
        subst h
        have hf := hF f (by simp)
        obtain ⟨e1, e2⟩ := layR_len fs (fun g hg => hF g (by simp [hg])) _ y hq
        refine ⟨by simp only [List.length_append, szF, byF_lenN hf hok, e1], Bytes.app ?_ e2⟩
        unfold byF
        split
        · exact numB_bytes _ _
        · exact nums_bytes _
    · rw [if_neg hok] at h
      simp at h
theorem lrL_len (kd : Int) (hN : ∀ f ∈ rpF kd, IsN f) (r : Rep) : (lrL kd r).length ≤ 1024 ∧ Bytes (lrL kd r) := by
  unfold lrL
  cases h : layR (rpF kd) r with
  | none => exact ⟨by simp, fun j => by simp⟩
  | some x =>
    obtain ⟨e1, e2⟩ := layR_len _ hN r x h
    have h1 := szF_le (rpF kd) (fun f hf => (hN f hf).isF)
    have h2 := rpF_len kd
    exact ⟨by simp only [e1]; omega, e2⟩
/-- a reply's bytes ahead of its check -/
def epL (kd : Int) (r : Rep) : List Int := numB r.st 1 ++ lrL kd r
set_option maxHeartbeats 4000000 in
theorem encodeReply_full (k : Nat) (hk : k ≤ 12) (r : Rep) (hst : 0 ≤ r.st ∧ r.st ≤ 13) (hfull : fullP (k : Int) r.st = true) (hNN : ∀ f ∈ rpF (k : Int), IsN f) (hB : lrB (k : Int) r = true) (w : World) : Calls Tryz.prog 12 #[.int .i64 (k : Int), .agg r.cs] w fun e w' => e = .returned (.tuple #[.string (strOfNums (epL (k : Int) r) ++ strOfNums (le4 (chkN ((k : Int) :: epL (k : Int) r)))), .int .i64 0]) ∧ Below w.heap.size w w' := by
  obtain ⟨g, hg⟩ : ∃ g, w.heap.size = g := ⟨_, rfl⟩
  have HL := hide (fun W base b v l hW hb hl => layReply_any (k : Int) r hfull hNN W base b v l hW hb hl)
  have HKB := hide (fun W => kindByte_any k hk W)
  have HK := hide (isReplyKind_any (k : Int))
  have HS := hide (isStatus_any r.st)
  rw [decide_eq_true (show (0 : Int) ≤ (k : Int) ∧ (k : Int) ≤ 12 by omega)] at HK
  rw [decide_eq_true hst] at HS
  have HFit := hide ((fits1 r.st).2 ⟨hst.1, by omega⟩)
  have HE := hide (show epL (k : Int) r = numB r.st 1 ++ lrL (k : Int) r from rfl)
  have HEL := hide (show (epL (k : Int) r).length ≤ 1025 ∧ Bytes (epL (k : Int) r) from ⟨by have := (lrL_len (k : Int) hNN r).1; simp only [epL, List.length_append, numB_len]; omega, Bytes.app (numB_bytes _ _) (lrL_len (k : Int) hNN r).2⟩)
  rw [hB] at HL
  obtain ⟨st, hst'⟩ : ∃ q, r.st = q := ⟨_, rfl⟩
  obtain ⟨y, hy⟩ : ∃ Z, w.alloc (.cells r.cs 34) = Z := ⟨_, rfl⟩
  have BY : Blk y g r.cs 34 := by rw [← hy, ← hg]; exact Blk.new w _ _
  have hby : Below g w y := by rw [← hy, ← hg]; exact (Below.refl _ w).alloc (Nat.le_refl _) _
  have hsy : y.heap.size = g + 1 := by rw [← hy, ← hg]; simp
  have c0 : y.cell? ⟨g, 0, none⟩ = some (.int .i64 st) := by rw [BY.cell, ← hst']; rfl
  have HY := hide (And.intro BY (And.intro hby hsy))
  have hrc : r.cs = r.cl.toArray := rfl
  have HSZ := hide (show (Tryz.prog.info? 34).map (·.size) = some r.cl.length from size_rep)
  rw [hrc] at hy HL HY ⊢
  rw [hst'] at HS HFit HE
  have hws : wrap64 st = st := wrap64_eq _ (by omega) (by omega)
  have HK12 := hide hk
  clear hrc hst' hst hfull hNN hB hk BY hby hsy
  generalize lrL (k : Int) r = RL at *
  generalize epL (k : Int) r = EL at *
  generalize r.cl = rl at *
  obtain ⟨SS, hSS⟩ : ∃ Z, strOfNums EL ++ strOfNums (le4 (chkN ((k : Int) :: EL))) = Z := ⟨_, rfl⟩
  rw [hSS]
  have HSS := hide hSS
  clear hSS
  go_enter Tryz.func12, Tryz.ntmps12
  go_wp2_with (first | (go_at_call 34; refine (unhide HK _).mono ?_; rintro e x ⟨rfl, hx⟩; subst x) | (go_at_call 35; refine (unhide HS _).mono ?_; rintro e x ⟨rfl, hx⟩; subst x))
  refine (newWriter_any _).mono ?_
  rintro e x1 ⟨rfl, hW1, hb1, hs1⟩
  obtain ⟨BY, hby, hsy⟩ := unhide HY
  rw [hsy] at hW1 hb1 hs1 ⊢
  have B1 := BY.below hb1 (by omega)
  have hbw1 : Below g w x1 := hby.trans (hb1.mono (by omega))
  have d0 : x1.cell? ⟨g, 0, none⟩ = some (.int .i64 st) := by rw [B1.cell]; rw [← BY.cell]; exact c0
  have hWr := WPost.refl hW1
  have HN := hide (wnumK hWr (by omega) 1 (by decide) (by decide) st (unhide HFit) (by simp) 1 rfl _ rfl)
  have H1 := hide (And.intro B1 (And.intro hbw1 hs1))
  have HW1 := hide hW1
  clear BY hby hsy hW1 hb1 hs1 B1 hbw1 hWr c0 HY hy
  go_wp2_with fail
  refine (unhide HN).mono ?_
  rintro e x2 ⟨rfl, hp2⟩
  obtain ⟨B1, hbw1, hs1⟩ := unhide H1
  have hW1 := unhide HW1
  have B2 := hp2.blk B1 (fp_blk hW1 B1 (by decide) (by omega))
  have HRG := hide (show x2.rangeAt g 0 rl from blk_range B2)
  obtain ⟨v1, hq1, hq2, hq3⟩ := hp2
  have HL2 := hide (unhide HL x2 (g + 1) (g + 1) v1 _ hq1 (by have := hq2.size; omega) (by rw [List.nil_append, numB_len]; omega))
  have HQ := hide (And.intro hq2 hq3)
  clear B1 hbw1 hs1 hW1 B2 hq1 hq2 hq3 d0
  go_wp2_with (refine wpList_load_mid rfl 34 (.tmp 3) rfl g 0 rfl rl _ (unhide HRG) Tryz.underlying34 rfl (unhide HSZ) ?_)
  refine (unhide HL2).mono ?_
  rintro e x3 ⟨l', rfl, hp3, hl'⟩
  obtain ⟨hq2, hq3⟩ := unhide HQ
  have hp3' := WPost.trans hq2 hq3 hp3
  have hl2 := hl' trivial
  rw [hl2, List.nil_append, ← unhide HE] at hp3'
  clear hl2 hl' hp3 hq2 hq3 HL2 HQ
  have hen := unhide HEL
  have HD := hide (doneK hp3')
  have hsz : (strOfNums EL).size = EL.length := by rw [← nums_len, nums_strOfNums EL hen.2]
  have hkl : strOfNums [(k : Int)] ++ strOfNums EL = strOfNums ((k : Int) :: EL) := by simp [strOfNums, ByteArray.ext_iff]
  have hkb : Bytes ((k : Int) :: EL) := by
    intro j
    have := unhide HK12
    cases j with
    | zero => simp; omega
    | succ j => simpa using hen.2 j
  have hk1 : (strOfNums [(k : Int)]).size = 1 := by
    rw [← nums_len, nums_strOfNums]
    · rfl
    · exact (fun j => by cases j with | zero => exact hkb 0 | succ j => simp)
  have hsz2 : (strOfNums ((k : Int) :: EL)).size = EL.length + 1 := by rw [← nums_len, nums_strOfNums _ hkb]; rfl
  have HC := hide (fun W => checkOf_any (strOfNums ((k : Int) :: EL)) (by omega) W)
  rw [nums_strOfNums _ hkb] at HC
  have h4 : (strOfNums (le4 (chkN ((k : Int) :: EL)))).size = 4 := by rw [← nums_len, nums_strOfNums _ (le4_bytes _ (chkN_lt _))]; rfl
  have hadd : ¬ 9223372036854775807 < (strOfNums [(k : Int)]).size + (strOfNums EL).size := by omega
  have hadd2 : ¬ 9223372036854775807 < (strOfNums EL).size + (strOfNums (le4 (chkN ((k : Int) :: EL)))).size := by omega
  clear hp3' hsz hen hkb hk1 hsz2 h4
  generalize strOfNums (le4 (chkN ((k : Int) :: EL))) = S4 at *
  generalize strOfNums ((k : Int) :: EL) = S3 at *
  generalize strOfNums [(k : Int)] = S1 at *
  generalize strOfNums EL = S at *
  go_wp2_with fail
  refine (unhide HD).mono ?_
  rintro e x4 ⟨rfl, hp4⟩
  have hb4 : Below g w x4 := by
    obtain ⟨B1, hbw1, hs1⟩ := unhide H1
    exact hbw1.trans ((hp4.bel (w := x1) (Below.refl _ _) (by omega)).mono (by omega))
  have HB4 := hide hb4
  clear hp4 hb4 HD
  go_wp2_with fail
  refine (unhide HKB _).mono ?_
  rintro e x5 ⟨rfl, hx5⟩
  have HX5 := hide hx5
  clear hx5
  go_wp2_with (go_at_call 32; refine (unhide HC _).mono ?_; rintro e x6 ⟨rfl, hx6⟩; have HX6 := hide hx6; clear hx6)
  go_ret2
  have hb5 : Below g w x5 := (unhide HB4).trans ((unhide HX5).mono (by rw [← hg]; exact (unhide HB4).size))
  exact ⟨by rw [← unhide HSS]; rfl, by rw [hg]; exact hb5.trans ((unhide HX6).mono (by rw [← hg]; exact hb5.size))⟩
end Go.Proofs.YtpjoibolhkgkhaaGreatDoor
