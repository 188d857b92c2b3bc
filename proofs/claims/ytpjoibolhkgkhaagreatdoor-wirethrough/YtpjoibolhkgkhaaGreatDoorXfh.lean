import Derived.Test.YtpjoibolhkgkhaaGreatDoorXfg
import Derived.Test.YtpjoibolhkgkhaaGreatDoorMkq
namespace Go.Proofs.YtpjoibolhkgkhaaGreatDoor
open Go.RowKit
set_option maxRecDepth 100000
theorem WPost.bel {w x z : World} {b : Nat} {l : List Int} {e : Int} (h : WPost b b (.slice none 0 0) l e x z) (hx : Below b w x) (hs : b ≤ x.heap.size) : Below b w z := by
  obtain ⟨v1, h1, h2, h3⟩ := h
  refine hx.trans (h2.below hs (fun k hk hq => ?_))
  rcases hq with hq | hq
  · omega
  · cases hq
set_option maxHeartbeats 2000000 in
theorem checkOf_any (s : ByteArray) (hs : s.size ≤ 100000) (w : World) : Calls Tryz.prog 32 #[.string s] w fun e w' => e = .returned (.string (strOfNums (le4 (chkN (nums s))))) ∧ Below w.heap.size w w' := by
  have hc : chkN (nums s) < 4294967296 := by unfold chkN; omega
  have HCK := hide (check_any s (by omega) w)
  generalize chkN (nums s) = c at *
  have a0 := i64_and255 c (by omega)
  have a1 : bits .and .i64 ((c : Int) / 256) 255 = ((c / 256 % 256 : Nat) : Int) := by have := i64_and255 (c / 256) (by omega); rwa [show ((c / 256 : Nat) : Int) = (c : Int) / 256 by omega] at this
  have a2 : bits .and .i64 ((c : Int) / 65536) 255 = ((c / 65536 % 256 : Nat) : Int) := by have := i64_and255 (c / 65536) (by omega); rwa [show ((c / 65536 : Nat) : Int) = (c : Int) / 65536 by omega] at this
  obtain ⟨d0, hd0⟩ : ∃ d, c % 256 = d := ⟨_, rfl⟩
  obtain ⟨d1, hd1⟩ : ∃ d, c / 256 % 256 = d := ⟨_, rfl⟩
  obtain ⟨d2, hd2⟩ : ∃ d, c / 65536 % 256 = d := ⟨_, rfl⟩
  obtain ⟨d3, hd3⟩ : ∃ d, c / 16777216 = d := ⟨_, rfl⟩
  have hle : le4 c = [(d0 : Int), (d1 : Int), (d2 : Int), (d3 : Int)] := by rw [le4, hd0, hd1, hd2, hd3]
  rw [hd0] at a0
  rw [hd1] at a1
  rw [hd2] at a2
  have s3 : (c : Int) / 16777216 = (d3 : Int) := by omega
  rw [hle]
  have hE : errN 1 [(d0 : Int), (d1 : Int), (d2 : Int), (d3 : Int)] = 0 := by
    rw [errN, if_neg (by decide), if_pos]
    intro n hn
    simp at hn
    rcases hn with rfl | rfl | rfl | rfl <;> exact ⟨by omega, Int.ediv_eq_zero_of_lt (by omega) (by simp; omega)⟩
  have hO : outN 1 [(d0 : Int), (d1 : Int), (d2 : Int), (d3 : Int)] = [(d0 : Int), (d1 : Int), (d2 : Int), (d3 : Int)] := by
    simp [outN, numB, List.range_succ]
    omega
  have HEO := hide (And.intro hE hO)
  clear hE hO hle hd0 hd1 hd2 hd3
  go_enter Tryz.func32, Tryz.ntmps32
  go_wp2_with (go_at_call 62; refine (unhide HCK).mono ?_; rintro e x ⟨rfl, hx⟩; subst x)
  refine (newWriter_any _).mono ?_
  rintro e x ⟨rfl, hWx, hbx, hsx⟩
  obtain ⟨b, hb⟩ : ∃ b, w.heap.size = b := ⟨_, rfl⟩
  rw [hb] at hWx hbx hsx ⊢
  have hW := WPost.refl hWx
  have hN := numK hW (by omega) 1 [(d0 : Int), (d1 : Int), (d2 : Int), (d3 : Int)] #[.int .i64 (d0 : Int), .int .i64 (d1 : Int), .int .i64 (d2 : Int), .int .i64 (d3 : Int)] rfl (by simp) 4 rfl
  rw [(unhide HEO).1, wl_good, we_good] at hN
  rw [show ((1 : Int).toNat) = 1 from rfl, (unhide HEO).2, List.nil_append] at hN
  have HN := hide hN
  have HB := hide (And.intro hbx hsx)
  clear hWx hW hN hbx hsx HCK HEO
  go_wp2_with (go_at_call 29; refine (unhide HN).mono ?_; rintro e y ⟨rfl, hy⟩; have HD := hide (doneK hy); clear hy)
  refine (unhide HD).mono ?_
  rintro e z ⟨rfl, hz⟩
  have HZ := hide hz
  clear hz HD
  go_wp2
  go_ret
  exact ⟨rfl, by rw [hb]; exact (unhide HZ).bel (unhide HB).1 (by have := (unhide HB).2; omega)⟩
theorem layQ_len : ∀ (fs : List Fld), (∀ f ∈ fs, IsQ f) → ∀ (r : Req) (x : Req × List Int), layQ fs r = some x → x.2.length = szF fs ∧ Bytes x.2
  | [], _, r, x, h => by
    simp only [layQ, Option.some.injEq] at h
    subst h
    exact ⟨rfl, fun j => by simp⟩
  | f :: fs, hF, r, x, h => by
    rw [layQ] at h
    by_cases hok : okF f (exq f r Prt.nil).2 = true
    · rw [if_pos hok] at h
      cases hq : layQ fs (exq f r Prt.nil).1 with
      | none => rw [hq] at h; simp at h
      | some y =>
        rw [hq] at h
        simp only [Option.map_some, Option.some.injEq] at h
        subst h
        have hf := hF f (by simp)
        obtain ⟨e1, e2⟩ := layQ_len fs (fun g hg => hF g (by simp [hg])) _ y hq
        refine ⟨by simp only [List.length_append, szF, byF_len hf hok, e1], Bytes.app ?_ e2⟩
        unfold byF
        split
        · exact numB_bytes _ _
        · exact nums_bytes _
    · rw [if_neg hok] at h
      simp at h
theorem lqL_len (r : Req) : (lqL r).length ≤ 1024 ∧ Bytes (lqL r) := by
  unfold lqL
  cases h : layQ (rqF r.kd) r with
  | none => exact ⟨by simp, fun j => by simp⟩
  | some x =>
    obtain ⟨e1, e2⟩ := layQ_len _ (rqF_all r.kd) r x h
    have h1 := szF_le (rqF r.kd) (fun f hf => (rqF_all r.kd f hf).isF)
    have h2 := rqF_len r.kd
    exact ⟨by simp only [e1]; omega, e2⟩
/-- a request's frame, and what is wrong -/
def eqL (r : Req) : List Int := numB r.kd 1 ++ lqL r
def encQ (r : Req) : ByteArray := if 1 ≤ r.kd ∧ r.kd ≤ 12 then (if lqB r = true then strOfNums (eqL r) ++ strOfNums (le4 (chkN (eqL r))) else ⟨#[]⟩) else ⟨#[]⟩
def errQ (r : Req) : Int := if 1 ≤ r.kd ∧ r.kd ≤ 12 then (if lqB r = true then 0 else 122) else 120
theorem eqL_len (r : Req) : (eqL r).length ≤ 1025 ∧ Bytes (eqL r) := by
  have h := lqL_len r
  refine ⟨by simp only [eqL, List.length_append, numB_len]; omega, Bytes.app (numB_bytes _ _) h.2⟩
set_option maxHeartbeats 4000000 in
theorem encodeRequest_any (r : Req) (w : World) : Calls Tryz.prog 10 #[.agg r.cs] w fun e w' => e = .returned (.tuple #[.string (encQ r), .int .i64 (errQ r)]) ∧ Below w.heap.size w w' := by
  obtain ⟨g, hg⟩ : ∃ g, w.heap.size = g := ⟨_, rfl⟩
  obtain ⟨kd, hkd⟩ : ∃ q, r.kd = q := ⟨_, rfl⟩
  obtain ⟨y, hy⟩ : ∃ Z, w.alloc (.cells r.cs 29) = Z := ⟨_, rfl⟩
  have BY : Blk y g r.cs 29 := by rw [← hy, ← hg]; exact Blk.new w _ _
  have hby : Below g w y := by rw [← hy, ← hg]; exact (Below.refl _ w).alloc (Nat.le_refl _) _
  have hsy : y.heap.size = g + 1 := by rw [← hy, ← hg]; simp
  have c0 : y.cell? ⟨g, 0, none⟩ = some (.int .i64 kd) := by rw [BY.cell, ← hkd]; rfl
  have HK := hide (isKind_any kd)
  have HY := hide (And.intro BY (And.intro hby hsy))
  by_cases hk : 1 ≤ kd ∧ kd ≤ 12
  · rw [decide_eq_true hk] at HK
    rw [encQ, errQ, hkd, if_pos hk, if_pos hk]
    have HL := hide (fun W base b v l hW hb hl => layRequest_any r W base b v l hW hb hl)
    have HE := hide (show eqL r = numB kd 1 ++ lqL r by rw [eqL, hkd])
    have HEL := hide (eqL_len r)
    have HFit := hide ((fits1 kd).2 ⟨by omega, by omega⟩)
    have hrc : r.cs = r.cl.toArray := rfl
    have HSZ := hide (show (Tryz.prog.info? 29).map (·.size) = some r.cl.length from size_req)
    rw [hrc] at hy HL HY ⊢
    clear hrc
    generalize r.cl = rl at *
    generalize lqB r = RB at *
    generalize lqL r = RL at *
    generalize eqL r = EL at *
    obtain ⟨SS, hSS⟩ : ∃ Z, (if RB = true then strOfNums EL ++ strOfNums (le4 (chkN EL)) else ⟨#[]⟩) = Z := ⟨_, rfl⟩
    obtain ⟨EE, hEE⟩ : ∃ Z, (if RB = true then (0 : Int) else 122) = Z := ⟨_, rfl⟩
    rw [hSS, hEE]
    have HSE := hide (And.intro hSS hEE)
    clear hSS hEE
    clear BY hby hsy hkd hk
    go_enter Tryz.func10, Tryz.ntmps10
    go_wp2_with (go_at_call 27; refine (unhide HK _).mono ?_; rintro e x ⟨rfl, hx⟩; subst x)
    refine (newWriter_any _).mono ?_
    rintro e x1 ⟨rfl, hW1, hb1, hs1⟩
    obtain ⟨BY, hby, hsy⟩ := unhide HY
    rw [hsy] at hW1 hb1 hs1 ⊢
    have B1 := BY.below hb1 (by omega)
    have hbw1 : Below g w x1 := hby.trans (hb1.mono (by omega))
    have d0 : x1.cell? ⟨g, 0, none⟩ = some (.int .i64 kd) := by rw [B1.cell]; rw [← BY.cell]; exact c0
    have hWr := WPost.refl hW1
    have HN := hide (wnumK hWr (by omega) 1 (by decide) (by decide) kd (unhide HFit) (by simp) 1 rfl _ rfl)
    have H1 := hide (And.intro B1 (And.intro hbw1 hs1))
    have HW1 := hide hW1
    clear BY hby hsy hW1 hb1 hs1 B1 hbw1 hWr c0 HY hy
    go_wp2_with fail
    refine (unhide HN).mono ?_
    rintro e x2 ⟨rfl, hp2⟩
    obtain ⟨B1, hbw1, hs1⟩ := unhide H1
    have hW1 := unhide HW1
    have B2 := hp2.blk B1 (fp_blk hW1 B1 (by decide) (by omega))
    have HRG := hide (show x2.rangeAt g 0 rl from blk_range B2)
    obtain ⟨v1, hq1, hq2, hq3⟩ := hp2
    have HL2 := hide (unhide HL x2 (g + 1) (g + 1) v1 _ hq1 (by have := hq2.size; omega) (by rw [List.nil_append, numB_len]; omega))
    have HQ := hide (And.intro hq2 hq3)
    clear B1 hbw1 hs1 hW1 B2 hq1 hq2 hq3 d0
    go_wp2_with (refine wpList_load_mid rfl 29 (.tmp 1) rfl g 0 rfl rl _ (unhide HRG) Tryz.underlying29 rfl (unhide HSZ) ?_)
    refine (unhide HL2).mono ?_
    rintro e x3 ⟨l', rfl, hp3, hl'⟩
    obtain ⟨hq2, hq3⟩ := unhide HQ
    have hp3' := WPost.trans hq2 hq3 hp3
    have hbel : Below g w x3 := by
      obtain ⟨B1, hbw1, hs1⟩ := unhide H1
      exact (hp3'.bel (w := x1) (Below.refl _ _) (by omega)).mono (by omega) |> fun h => hbw1.trans h
    have HB3 := hide hbel
    cases RB with
    | false =>
      clear hp3 hp3' hq2 hq3 hl' hbel
      go_wp2
      go_ret2
      exact ⟨by rw [← (unhide HSE).1, ← (unhide HSE).2]; rfl, by rw [hg]; exact unhide HB3⟩
    | true =>
      have hl2 := hl' rfl
      have HEL2 := hide (show l' = EL by rw [hl2, unhide HE, List.nil_append])
      rw [hl2, List.nil_append, ← unhide HE] at hp3'
      clear hl2 hl' hp3 hq2 hq3 hbel HL2 HQ
      have hen := unhide HEL
      have HD := hide (doneK hp3')
      have hsz : (strOfNums EL).size = EL.length := by rw [← nums_len, nums_strOfNums EL hen.2]
      have HC := hide (fun W => checkOf_any (strOfNums EL) (by omega) W)
      rw [nums_strOfNums EL hen.2] at HC
      have hadd : ¬ 9223372036854775807 < (strOfNums EL).size + (strOfNums (le4 (chkN EL))).size := by
        have h4 : (strOfNums (le4 (chkN EL))).size = 4 := by rw [← nums_len, nums_strOfNums _ (le4_bytes _ (chkN_lt _))]; rfl
        omega
      clear hp3' hsz hen
      have HSE2 := hide (show strOfNums EL ++ strOfNums (le4 (chkN EL)) = SS ∧ (0 : Int) = EE from ⟨(unhide HSE).1, (unhide HSE).2⟩)
      clear HSE
      generalize strOfNums (le4 (chkN EL)) = S4 at *
      generalize strOfNums EL = S at *
      go_wp2_with fail
      refine (unhide HD).mono ?_
      rintro e x4 ⟨rfl, hp4⟩
      have hb4 : Below g w x4 := by
        obtain ⟨B1, hbw1, hs1⟩ := unhide H1
        exact hbw1.trans ((hp4.bel (w := x1) (Below.refl _ _) (by omega)).mono (by omega))
      have HB4 := hide hb4
      clear hp4 hb4 HD
      go_wp2_with (go_at_call 32; refine (unhide HC _).mono ?_; rintro e x5 ⟨rfl, hx5⟩; have HX5 := hide hx5; clear hx5)
      go_ret2
      exact ⟨by rw [← (unhide HSE2).1, ← (unhide HSE2).2]; rfl, by rw [hg]; exact (unhide HB4).trans ((unhide HX5).mono (by rw [← hg]; exact (unhide HB4).size))⟩
  · rw [decide_eq_false hk] at HK
    rw [encQ, errQ, hkd, if_neg hk, if_neg hk]
    have HBY := hide hby
    clear BY hby hsy hk HY
    go_enter Tryz.func10, Tryz.ntmps10
    go_wp2_with (go_at_call 27; refine (unhide HK _).mono ?_; rintro e x ⟨rfl, hx⟩; subst x)
    go_ret2
    exact ⟨rfl, by rw [hg]; exact unhide HBY⟩
end Go.Proofs.YtpjoibolhkgkhaaGreatDoor
