import Derived.Test.YtclgkgaobjcifaaGreatDoorMy06
namespace Go.Proofs.YtclgkgaobjcifaaGreatDoor
open Go.RowKit
set_option maxRecDepth 100000
theorem WPost.bel {w x z : World} {b : Nat} {l : List Int} {e : Int} (h : WPost b b (.slice none 0 0) l e x z) (hx : Below b w x) (hs : b ≤ x.heap.size) : Below b w z := by
  obtain ⟨v1, h1, h2, h3⟩ := h
  refine hx.trans (h2.below hs (fun k hk hq => ?_))
  rcases hq with hq | hq
  · omega
  · cases hq
set_option maxHeartbeats 2000000 in
theorem checkOf_any (s : ByteArray) (hs : s.size ≤ 100000) (w : World) : Calls Tryz.prog 32 #[.string s] w fun e w' => e = .returned (.string (strOfNums (le4 (chkN (nums s))))) ∧ Below w.heap.size w w' := by
  have hc : chkN (nums s) < 4294967296 := by unfold chkN; omega
  have HCK := hide (check_any s (by omega) w)
  generalize chkN (nums s) = c at *
  have a0 := i64_and255 c (by omega)
  have a1 : bits .and .i64 ((c : Int) / 256) 255 = ((c / 256 % 256 : Nat) : Int) := by have := i64_and255 (c / 256) (by omega); rwa [show ((c / 256 : Nat) : Int) = (c : Int) / 256 by omega] at this
  have a2 : bits .and .i64 ((c : Int) / 65536) 255 = ((c / 65536 % 256 : Nat) : Int) := by have := i64_and255 (c / 65536) (by omega); rwa [show ((c / 65536 : Nat) : Int) = (c : Int) / 65536 by omega] at this
  obtain ⟨d0, hd0⟩ : ∃ d, c % 256 = d := ⟨_, rfl⟩
  obtain ⟨d1, hd1⟩ : ∃ d, c / 256 % 256 = d := ⟨_, rfl⟩
  obtain ⟨d2, hd2⟩ : ∃ d, c / 65536 % 256 = d := ⟨_, rfl⟩
  obtain ⟨d3, hd3⟩ : ∃ d, c / 16777216 = d := ⟨_, rfl⟩
  have hle : le4 c = [(d0 : Int), (d1 : Int), (d2 : Int), (d3 : Int)] := by rw [le4, hd0, hd1, hd2, hd3]
  rw [hd0] at a0
  rw [hd1] at a1
  rw [hd2] at a2
  have s3 : (c : Int) / 16777216 = (d3 : Int) := by omega
  rw [hle]
  have hE : errN 1 [(d0 : Int), (d1 : Int), (d2 : Int), (d3 : Int)] = 0 := by
    rw [errN, if_neg (by decide), if_pos]
    intro n hn
    simp at hn
    rcases hn with rfl | rfl | rfl | rfl <;> exact ⟨by omega, Int.ediv_eq_zero_of_lt (by omega) (by simp; omega)⟩
  have hO : outN 1 [(d0 : Int), (d1 : Int), (d2 : Int), (d3 : Int)] = [(d0 : Int), (d1 : Int), (d2 : Int), (d3 : Int)] := by
    simp [outN, numB, List.range_succ]
    omega
  have HEO := hide (And.intro hE hO)
  clear hE hO hle hd0 hd1 hd2 hd3
  go_enter Tryz.func32, Tryz.ntmps32
  go_wp2_with (go_at_call 62; refine (unhide HCK).mono ?_; rintro e x ⟨rfl, hx⟩; subst x)
  refine (newWriter_any _).mono ?_
  rintro e x ⟨rfl, hWx, hbx, hsx⟩
  obtain ⟨b, hb⟩ : ∃ b, w.heap.size = b := ⟨_, rfl⟩
  rw [hb] at hWx hbx hsx ⊢
  have hW := WPost.refl hWx
  have hN := numK hW (by omega) 1 [(d0 : Int), (d1 : Int), (d2 : Int), (d3 : Int)] #[.int .i64 (d0 : Int), .int .i64 (d1 : Int), .int .i64 (d2 : Int), .int .i64 (d3 : Int)] rfl (by simp) 4 rfl
  rw [(unhide HEO).1, wl_good, we_good] at hN
  rw [show ((1 : Int).toNat) = 1 from rfl, (unhide HEO).2, List.nil_append] at hN
  have HN := hide hN
  have HB := hide (And.intro hbx hsx)
  clear hWx hW hN hbx hsx HCK HEO
  go_wp2_with (go_at_call 29; refine (unhide HN).mono ?_; rintro e y ⟨rfl, hy⟩; have HD := hide (doneK hy); clear hy)
  refine (unhide HD).mono ?_
  rintro e z ⟨rfl, hz⟩
  have HZ := hide hz
  clear hz HD
  go_wp2
  go_ret
  exact ⟨rfl, by rw [hb]; exact (unhide HZ).bel (unhide HB).1 (by have := (unhide HB).2; omega)⟩
theorem layQ_len : ∀ (fs : List Fld), (∀ f ∈ fs, IsQ f) → ∀ (r : Req) (x : Req × List Int), layQ fs r = some x → x.2.length = szF fs ∧ Bytes x.2
  | [], _, r, x, h => by
    simp only [layQ, Option.some.injEq] at h
    subst h
    exact ⟨rfl, fun j => by simp⟩
  | f :: fs, hF, r, x, h => by
    rw [layQ] at h
    by_cases hok : okF f (exq f r Prt.nil).2 = true
    · rw [if_pos hok] at h
      cases hq : layQ fs (exq f r Prt.nil).1 with
      | none => rw [hq] at h; simp at h
      | some y =>
        rw [hq] at h
        simp only [Option.map_some, Option.some.injEq] at h
        subst h
        have hf := hF f (by simp)
        obtain ⟨e1, e2⟩ := layQ_len fs (fun g hg => hF g (by simp [hg])) _ y hq
        refine ⟨by simp only [List.length_append, szF, byF_len hf hok, e1], Bytes.app ?_ e2⟩
        unfold byF
        split
        · exact numB_bytes _ _
        · exact nums_bytes _
    · rw [if_neg hok] at h
      simp at h
theorem lqL_len (r : Req) : (lqL r).length ≤ 1024 ∧ Bytes (lqL r) := by
  unfold lqL
  cases h : layQ (rqF r.kd) r with
  | none => exact ⟨by simp, fun j => by simp⟩
  | some x =>
    obtain ⟨e1, e2⟩ := layQ_len _ (rqF_all r.kd) r x h
    have h1 := szF_le (rqF r.kd) (fun f hf => (rqF_all r.kd f hf).isF)
    have h2 := rqF_len r.kd
    exact ⟨by simp only [e1]; omega, e2⟩
/-- a request's frame, and what is wrong -/
def eqL (r : Req) : List Int := numB r.kd 1 ++ lqL r
def encQ (r : Req) : ByteArray := if 1 ≤ r.kd ∧ r.kd ≤ 12 then (if lqB r = true then strOfNums (eqL r) ++ strOfNums (le4 (chkN (eqL r))) else ⟨#[]⟩) else ⟨#[]⟩
def errQ (r : Req) : Int := if 1 ≤ r.kd ∧ r.kd ≤ 12 then (if lqB r = true then 0 else 122) else 120
theorem eqL_len (r : Req) : (eqL r).length ≤ 1025 ∧ Bytes (eqL r) := by
  have h := lqL_len r
  refine ⟨by simp only [eqL, List.length_append, numB_len]; omega, Bytes.app (numB_bytes _ _) h.2⟩
set_option maxHeartbeats 4000000 in
theorem encodeRequest_any (r : Req) (w : World) : Calls Tryz.prog 10 #[.agg r.cs] w fun e w' => e = .returned (.tuple #[.string (encQ r), .int .i64 (errQ r)]) ∧ Below w.heap.size w w' := by
  obtain ⟨g, hg⟩ : ∃ g, w.heap.size = g := ⟨_, rfl⟩
  obtain ⟨kd, hkd⟩ : ∃ q, r.kd = q := ⟨_, rfl⟩
  obtain ⟨y, hy⟩ : ∃ Z, w.alloc (.cells r.cs 29) = Z := ⟨_, rfl⟩
  have BY : Blk y g r.cs 29 := by rw [← hy, ← hg]; exact Blk.new w _ _
  have hby : Below g w y := by rw [← hy, ← hg]; exact (Below.refl _ w).alloc (Nat.le_refl _) _
  have hsy : y.heap.size = g + 1 := by rw [← hy, ← hg]; simp
  have c0 : y.cell? ⟨g, 0, none⟩ = some (.int .i64 kd) := by rw [BY.cell, ← hkd]; rfl
  have HK := hide (isKind_any kd)
  have HY := hide (And.intro BY (And.intro hby hsy))
  by_cases hk : 1 ≤ kd ∧ kd ≤ 12
  · rw [decide_eq_true hk] at HK
    rw [encQ, errQ, hkd, if_pos hk, if_pos hk]
    have HL := hide (fun W base b v l hW hb hl => layRequest_any r W base b v l hW hb hl)
    have HE := hide (show eqL r = numB kd 1 ++ lqL r by rw [eqL, hkd])
    have HEL := hide (eqL_len r)
    have HFit := hide ((fits1 kd).2 ⟨by omega, by omega⟩)
    have hrc : r.cs = r.cl.toArray := rfl
    have HSZ := hide (show (Tryz.prog.info? 29).map (·.size) = some r.cl.length from size_req)
    rw [hrc] at hy HL HY ⊢
    clear hrc
    generalize r.cl = rl at *
    generalize lqB r = RB at *
    generalize lqL r = RL at *
    generalize eqL r = EL at *
    obtain ⟨SS, hSS⟩ : ∃ Z, (if RB = true then strOfNums EL ++ strOfNums (le4 (chkN EL)) else ⟨#[]⟩) = Z := ⟨_, rfl⟩
    obtain ⟨EE, hEE⟩ : ∃ Z, (if RB = true then (0 : Int) else 122) = Z := ⟨_, rfl⟩
    rw [hSS, hEE]
    have HSE := hide (And.intro hSS hEE)
    clear hSS hEE
    clear BY hby hsy hkd hk
    go_enter Tryz.func10, Tryz.ntmps10
    go_wp2_with (go_at_call 27; refine (unhide HK _).mono ?_; rintro e x ⟨rfl, hx⟩; subst x)
    refine (newWriter_any _).mono ?_
    rintro e x1 ⟨rfl, hW1, hb1, hs1⟩
    obtain ⟨BY, hby, hsy⟩ := unhide HY
    rw [hsy] at hW1 hb1 hs1 ⊢
    have B1 := BY.below hb1 (by omega)
    have hbw1 : Below g w x1 := hby.trans (hb1.mono (by omega))
    have d0 : x1.cell? ⟨g, 0, none⟩ = some (.int .i64 kd) := by rw [B1.cell]; rw [← BY.cell]; exact c0
    have hWr := WPost.refl hW1
    have HN := hide (wnumK hWr (by omega) 1 (by decide) (by decide) kd (unhide HFit) (by simp) 1 rfl _ rfl)
    have H1 := hide (And.intro B1 (And.intro hbw1 hs1))
    have HW1 := hide hW1
    clear BY hby hsy hW1 hb1 hs1 B1 hbw1 hWr c0 HY hy
    go_wp2_with fail
    refine (unhide HN).mono ?_
    rintro e x2 ⟨rfl, hp2⟩
    obtain ⟨B1, hbw1, hs1⟩ := unhide H1
    have hW1 := unhide HW1
    have B2 := hp2.blk B1 (fp_blk hW1 B1 (by decide) (by omega))
    have HRG := hide (show x2.rangeAt g 0 rl from blk_range B2)
    obtain ⟨v1, hq1, hq2, hq3⟩ := hp2
    have HL2 := hide (unhide HL x2 (g + 1) (g + 1) v1 _ hq1 (by have := hq2.size; omega) (by rw [List.nil_append, numB_len]; omega))
    have HQ := hide (And.intro hq2 hq3)
    clear B1 hbw1 hs1 hW1 B2 hq1 hq2 hq3 d0
    go_wp2_with (refine wpList_load_mid rfl 29 (.tmp 1) rfl g 0 rfl rl _ (unhide HRG) Tryz.underlying29 rfl (unhide HSZ) ?_)
    refine (unhide HL2).mono ?_
    rintro e x3 ⟨l', rfl, hp3, hl'⟩
    obtain ⟨hq2, hq3⟩ := unhide HQ
    have hp3' := WPost.trans hq2 hq3 hp3
    have hbel : Below g w x3 := by
      obtain ⟨B1, hbw1, hs1⟩ := unhide H1
      exact (hp3'.bel (w := x1) (Below.refl _ _) (by omega)).mono (by omega) |> fun h => hbw1.trans h
    have HB3 := hide hbel
    cases RB with
    | false =>
      clear hp3 hp3' hq2 hq3 hl' hbel
      go_wp2
      go_ret2
      exact ⟨by rw [← (unhide HSE).1, ← (unhide HSE).2]; rfl, by rw [hg]; exact unhide HB3⟩
    | true =>
      have hl2 := hl' rfl
      have HEL2 := hide (show l' = EL by rw [hl2, unhide HE, List.nil_append])
      rw [hl2, List.nil_append, ← unhide HE] at hp3'
      clear hl2 hl' hp3 hq2 hq3 hbel HL2 HQ
      have hen := unhide HEL
      have HD := hide (doneK hp3')
      have hsz : (strOfNums EL).size = EL.length := by rw [← nums_len, nums_strOfNums EL hen.2]
      have HC := hide (fun W => checkOf_any (strOfNums EL) (by omega) W)
      rw [nums_strOfNums EL hen.2] at HC
      have hadd : ¬ 9223372036854775807 < (strOfNums EL).size + (strOfNums (le4 (chkN EL))).size := by
        have h4 : (strOfNums (le4 (chkN EL))).size = 4 := by rw [← nums_len, nums_strOfNums _ (le4_bytes _ (chkN_lt _))]; rfl
        omega
      clear hp3' hsz hen
      have HSE2 := hide (show strOfNums EL ++ strOfNums (le4 (chkN EL)) = SS ∧ (0 : Int) = EE from ⟨(unhide HSE).1, (unhide HSE).2⟩)
      clear HSE
      generalize strOfNums (le4 (chkN EL)) = S4 at *
      generalize strOfNums EL = S at *
      go_wp2_with fail
      refine (unhide HD).mono ?_
      rintro e x4 ⟨rfl, hp4⟩
      have hb4 : Below g w x4 := by
        obtain ⟨B1, hbw1, hs1⟩ := unhide H1
        exact hbw1.trans ((hp4.bel (w := x1) (Below.refl _ _) (by omega)).mono (by omega))
      have HB4 := hide hb4
      clear hp4 hb4 HD
      go_wp2_with (go_at_call 32; refine (unhide HC _).mono ?_; rintro e x5 ⟨rfl, hx5⟩; have HX5 := hide hx5; clear hx5)
      go_ret2
      exact ⟨by rw [← (unhide HSE2).1, ← (unhide HSE2).2]; rfl, by rw [hg]; exact (unhide HB4).trans ((unhide HX5).mono (by rw [← hg]; exact (unhide HB4).size))⟩
  · rw [decide_eq_false hk] at HK
    rw [encQ, errQ, hkd, if_neg hk, if_neg hk]
    have HBY := hide hby
    clear BY hby hsy hk HY
    go_enter Tryz.func10, Tryz.ntmps10
    go_wp2_with (go_at_call 27; refine (unhide HK _).mono ?_; rintro e x ⟨rfl, hx⟩; subst x)
    go_ret2
    exact ⟨rfl, by rw [hg]; exact unhide HBY⟩
end Go.Proofs.YtclgkgaobjcifaaGreatDoor

namespace Go.Proofs.YtclgkgaobjcifaaGreatDoor
open Go.RowKit
set_option maxRecDepth 100000
/-- the fields of replies that are numbers or texts -/
def IsN (f : Fld) : Prop := f = fQuo ∨ f = fCha ∨ f = fNon ∨ f = fWra ∨ f = fDat
theorem IsN.isP {f : Fld} (h : IsN f) : IsP f := by rcases h with rfl | rfl | rfl | rfl | rfl <;> simp [IsP]
theorem IsN.isF {f : Fld} (h : IsN f) : IsF f := h.isP.isF
def Rep.cl (r : Rep) : List Value := [.int .i64 r.st, .int .i64 r.qu, .int .i64 r.ch, .slice r.vp r.vm r.vc, .int .i64 r.no, .slice r.pp r.pm r.pc, .string r.wr, .string r.da]
theorem size_rep : (Tryz.prog.info? 34).map (·.size) = some 8 := by kernel_rfl
theorem Rep.one (r : Rep) : r.cs.all (·.oneCell') = true := by simp [Rep.cs, Value.oneCell']
theorem byF_lenN {f : Fld} (h : IsN f) {p : Prt} (hk : okF f p = true) : (byF f p).length = f.b := by
  rcases h with rfl | rfl | rfl | rfl | rfl
  · exact numB_len _ _
  · exact numB_len _ _
  · exact numB_len _ _
  all_goals (
    have hk' := of_decide_eq_true (show decide (p.t.size = _) = true from hk)
    exact (nums_len _).trans hk')
/-- fields laid down: what is left of the reply, and the bytes -/
def layR : List Fld → Rep → Option (Rep × List Int)
  | [], r => some (r, [])
  | f :: fs, r => if okF f (exr f r Prt.nil).2 then (layR fs (exr f r Prt.nil).1).map (fun x => (x.1, byF f (exr f r Prt.nil).2 ++ x.2)) else none
def lrB (kd : Int) (r : Rep) : Bool := match layR (rpF kd) r with | none => false | some x => bareP x.1
def lrL (kd : Int) (r : Rep) : List Int := match layR (rpF kd) r with | none => [] | some x => x.2
theorem empty_eq (s : ByteArray) (h : s = ⟨#[]⟩) : s.toList.isEmpty = true := by subst h; rw [ByteArray.toList_eq]; rfl
theorem empty_ne {s : ByteArray} (h : ¬ s = ⟨#[]⟩) : s.toList.isEmpty = false := by
  rw [ByteArray.toList_eq]
  obtain ⟨⟨l⟩⟩ := s
  cases l with
  | nil => exact absurd rfl h
  | cons a l => rfl
set_option maxHeartbeats 4000000 in
theorem isBare_any (r : Rep) (w : World) : Calls Tryz.prog 67 #[.agg r.cl.toArray] w fun e w' => e = .returned (.bool (bareP r)) ∧ Below w.heap.size w w' := by
  obtain ⟨st, qu, ch, vp, vm, vc, no, pp, pm, pc, wr, da⟩ := r
  show Calls Tryz.prog 67 #[.agg #[.int .i64 st, .int .i64 qu, .int .i64 ch, .slice vp vm vc, .int .i64 no, .slice pp pm pc, .string wr, .string da]] w fun e w' => e = .returned (.bool (decide (qu = 0 ∧ ch = 0 ∧ vm = 0 ∧ no = 0 ∧ pm = 0 ∧ wr = ⟨#[]⟩ ∧ da = ⟨#[]⟩))) ∧ Below w.heap.size w w'
  by_cases hqu : qu = 0
  case neg =>
    rw [decide_eq_false (fun q => hqu q.1)]
    have kqu : (qu == 0) = false := by simpa using hqu
    clear hqu
    go_enter Tryz.func67, Tryz.ntmps67
    go_wp2
    go_ret
    exact ⟨rfl, (Below.refl _ _).alloc (Nat.le_refl _) _⟩
  have kqu : (qu == 0) = true := by simpa using hqu
  by_cases hch : ch = 0
  case neg =>
    rw [decide_eq_false (fun q => hch q.2.1)]
    have kch : (ch == 0) = false := by simpa using hch
    clear hqu hch
    go_enter Tryz.func67, Tryz.ntmps67
    go_wp2
    go_ret
    exact ⟨rfl, (Below.refl _ _).alloc (Nat.le_refl _) _⟩
  have kch : (ch == 0) = true := by simpa using hch
  by_cases hvm : vm = 0
  case neg =>
    rw [decide_eq_false (fun q => hvm q.2.2.1)]
    have kvm : ((vm : Int) == 0) = false := by simp; omega
    clear hqu hch hvm
    go_enter Tryz.func67, Tryz.ntmps67
    go_wp2
    go_ret
    exact ⟨rfl, (Below.refl _ _).alloc (Nat.le_refl _) _⟩
  have kvm : ((vm : Int) == 0) = true := by simp; omega
  by_cases hno : no = 0
  case neg =>
    rw [decide_eq_false (fun q => hno q.2.2.2.1)]
    have kno : (no == 0) = false := by simpa using hno
    clear hqu hch hvm hno
    go_enter Tryz.func67, Tryz.ntmps67
    go_wp2
    go_ret
    exact ⟨rfl, (Below.refl _ _).alloc (Nat.le_refl _) _⟩
  have kno : (no == 0) = true := by simpa using hno
  by_cases hpm : pm = 0
  case neg =>
    rw [decide_eq_false (fun q => hpm q.2.2.2.2.1)]
    have kpm : ((pm : Int) == 0) = false := by simp; omega
    clear hqu hch hvm hno hpm
    go_enter Tryz.func67, Tryz.ntmps67
    go_wp2
    go_ret
    exact ⟨rfl, (Below.refl _ _).alloc (Nat.le_refl _) _⟩
  have kpm : ((pm : Int) == 0) = true := by simp; omega
  by_cases hwr : wr = ⟨#[]⟩
  case neg =>
    rw [decide_eq_false (fun q => hwr q.2.2.2.2.2.1)]
    have kwr : wr.toList.isEmpty = false := empty_ne hwr
    clear hqu hch hvm hno hpm hwr
    go_enter Tryz.func67, Tryz.ntmps67
    go_wp2
    go_ret
    exact ⟨rfl, (Below.refl _ _).alloc (Nat.le_refl _) _⟩
  have kwr : wr.toList.isEmpty = true := empty_eq _ hwr
  by_cases hda : da = ⟨#[]⟩
  case neg =>
    rw [decide_eq_false (fun q => hda q.2.2.2.2.2.2)]
    have kda : da.toList.isEmpty = false := empty_ne hda
    clear hqu hch hvm hno hpm hwr hda
    go_enter Tryz.func67, Tryz.ntmps67
    go_wp2
    go_ret
    exact ⟨rfl, (Below.refl _ _).alloc (Nat.le_refl _) _⟩
  have kda : da.toList.isEmpty = true := empty_eq _ hda
  rw [decide_eq_true (show qu = 0 ∧ ch = 0 ∧ vm = 0 ∧ no = 0 ∧ pm = 0 ∧ wr = ⟨#[]⟩ ∧ da = ⟨#[]⟩ from ⟨hqu, hch, hvm, hno, hpm, hwr, hda⟩)]
  clear hqu hch hvm hno hpm hwr hda
  go_enter Tryz.func67, Tryz.ntmps67
  go_wp2
  go_ret
  exact ⟨rfl, (Below.refl _ _).alloc (Nat.le_refl _) _⟩
set_option maxHeartbeats 8000000 in
theorem layReply_any (kd : Int) (r : Rep) (hfull : fullP kd r.st = true) (hNN : ∀ f ∈ rpF kd, IsN f) (w : World) (base b : Nat) (v : Value) (l : List Int) (hW : Wtr w base b v l 0) (hb : base ≤ w.heap.size) (hl : l.length ≤ 100) :
    Calls Tryz.prog 36 #[.pointer (some ⟨b, 0, none⟩), .int .i64 kd, .agg r.cs] w fun e w' => ∃ l', e = .returned (.bool (lrB kd r)) ∧ WPost base b v l' 0 w w' ∧ (lrB kd r = true → l' = l ++ lrL kd r) := by
  obtain ⟨g, hg⟩ : ∃ g, w.heap.size = g := ⟨_, rfl⟩
  obtain ⟨st, hst⟩ : ∃ q, r.st = q := ⟨_, rfl⟩
  have HFU := hide (isFull_any kd st)
  rw [← hst, hfull] at HFU
  obtain ⟨y, hy⟩ : ∃ Z, w.alloc (.cells r.cs 34) = Z := ⟨_, rfl⟩
  have BY : Blk y g r.cs 34 := by rw [← hy, ← hg]; exact Blk.new w _ _
  have hby : Below g w y := by rw [← hy, ← hg]; exact (Below.refl _ w).alloc (Nat.le_refl _) _
  have hsy : y.heap.size = g + 1 := by rw [← hy, ← hg]; simp
  have hbg : b < g := by rw [← hg]; exact hW.lt
  have c0 : y.cell? ⟨g, 0, none⟩ = some (.int .i64 st) := by rw [BY.cell, ← hst]; rfl
  have hWy : WPost base b v l 0 w y := (WPost.refl hW).below (by rw [hg]; exact hby)
  have HF := hide (rpf_any kd)
  have HA := hide hNN
  have HLEN := hide (rpF_len kd)
  have HLB := hide (show lrB kd r = match layR (rpF kd) r with | none => false | some x => bareP x.1 from rfl)
  have HLL := hide (show lrL kd r = match layR (rpF kd) r with | none => [] | some x => x.2 from rfl)
  have HY := hide (And.intro BY (And.intro hWy hsy))
  have HW := hide hW
  obtain ⟨rc, hrc⟩ : ∃ Z, r.cs = Z := ⟨_, rfl⟩
  have HRC := hide hrc
  rw [hrc] at hy ⊢
  generalize lrB kd r = RB at *
  generalize lrL kd r = RL at *
  generalize rpF kd = fs at *
  clear BY hby hsy hWy hW hrc hfull hNN
  go_enter Tryz.func36, Tryz.ntmps36
  go_wp2_with fail
  clear hy
  refine (unhide HF y).mono ?_
  rintro e x ⟨fvv, rfl, hR, hx⟩
  obtain ⟨p, rfl, hp⟩ := hR.form
  obtain ⟨BY, hWy, hsy⟩ := unhide HY
  have BX := BY.below hx (by omega)
  have hWx := hWy.below hx
  have hgx : g < x.heap.size := BX.lt
  have HX := hide (And.intro BX (And.intro hWx hR))
  have HP := hide hp
  obtain ⟨n, hn⟩ : ∃ n, fs.length = n := ⟨_, rfl⟩
  have HN := hide hn
  have HPB := hide (show ∀ q, p = some q → q.block < x.heap.size by
    intro q hq
    have := hR.lt q.block (by rw [hq]; rfl)
    exact this)
  rw [hn]
  have d0 : x.cell? ⟨g, 0, none⟩ = some (.int .i64 st) := by rw [BX.cell, ← BY.cell]; exact c0
  clear hp hR BY hWy hsy BX hWx hx hn c0 HY
  rw [hst] at HFU
  go_wp2_with fail
  refine (unhide HFU _).mono ?_
  rintro e x' ⟨rfl, hx'⟩
  subst x'
  go_wp2_with fail
  clear d0
  go_loopw [27] (fun i wr => ∃ (k : Nat) (rk : Rep) (lk : List Int), k ≤ n ∧ i = .int .i64 (k : Int) ∧ layR fs r = (layR (fs.drop k) rk).map (fun z => (z.1, lk ++ z.2)) ∧ Blk wr g rk.cs 34 ∧ FR wr (.slice p n n) fs ∧ WPost base b v (l ++ lk) 0 w wr ∧ lk.length ≤ 256 * k) (fun i _ => n - (intOf i).toNat)
  case atStart =>
    obtain ⟨BX, hWx, hR⟩ := unhide HX
    refine ⟨0, r, [], Nat.zero_le _, rfl, ?_, BX, by rw [← unhide HN]; rwa [unhide HN] at hR ⊢, by rw [List.append_nil]; exact hWx, by simp⟩
    rw [List.drop_zero]
    cases layR fs r with
    | none => rfl
    | some z => simp
  case round =>
    obtain ⟨k, rk, lk, hk, rfl, hlq, BK, hRk, hWk, hlk⟩ := hrel
    by_cases hkn : k < n
    · have hkn' : (k : Int) < (n : Int) := by omega
      have hk0 : (0 : Int) ≤ (k : Int) := by omega
      have hlen := unhide HN
      have hn4 := unhide HLEN
      have hRk' := hRk
      obtain ⟨q, hq, hqb⟩ := FR.form (show FR wr (.slice p fs.length fs.length) fs by rw [hlen]; exact hRk)
      obtain ⟨fb, hqe, Bf⟩ := hqb (by omega)
      obtain rfl : p = q := by simpa using hq
      subst hqe
      have hf : IsN (fs[k]'(by omega)) := unhide HA _ (List.getElem_mem _)
      have hc : wr.cell? ⟨fb, k, none⟩ = some (fv (fs[k]'(by omega))) := fr_cell Bf k (by omega)
      have hdrop : fs.drop k = fs[k]'(by omega) :: fs.drop (k + 1) := (List.getElem_cons_drop (by omega)).symm
      rw [hdrop] at hlq
      have HLQ := hide hlq
      clear hdrop hq
      generalize fs[k]'(by omega) = f at *
      obtain ⟨h, hh⟩ : ∃ h, wr.heap.size = h := ⟨_, rfl⟩
      obtain ⟨y1, hy1⟩ : ∃ Z, wr.alloc (.cells #[.int .i64 0, .string ⟨#[]⟩, .slice none 0 0] 103) = Z := ⟨_, rfl⟩
      have hb1 : Below h wr y1 := by rw [← hy1, ← hh]; exact (Below.refl _ wr).alloc (Nat.le_refl _) _
      have BZ1 : Blk y1 h #[.int .i64 0, .string ⟨#[]⟩, .slice none 0 0] 103 := by rw [← hy1, ← hh]; exact Blk.new wr _ _
      have hgh : g < h := by rw [← hh]; exact BK.lt
      have hfh : fb < h := by rw [← hh]; exact Bf.lt
      have BK1 := BK.below hb1 hgh
      have Bf1 := Bf.below hb1 hfh
      have hW1 := hWk.below (by rw [hh]; exact hb1)
      have HRG := hide (show y1.rangeAt g 0 rk.cl from blk_range BK1)
      have HY1 := hide (And.intro BK1 (And.intro Bf1 (And.intro BZ1 hW1)))
      have HK1 := hide hlk
      have HHF := hide hf
      have hs1 : y1.heap.size = h + 1 := by rw [← hy1, ← hh]; simp
      have HS1 := hide hs1
      clear hb1 BZ1 BK1 Bf1 hW1 BK Bf hRk hRk' hWk hlq hlk hqb hs1 hf
      go_wp2_with (refine wpList_load_mid rfl 34 (.tmp 5) rfl g 0 rfl rk.cl _ (unhide HRG) Tryz.underlying34 rfl size_rep ?_)
      clear hy1
      refine (exr_any f (unhide HHF).isP rk Prt.nil _).mono ?_
      rintro e x2 ⟨rfl, hx2⟩
      obtain ⟨BK1, Bf1, BZ1, hW1⟩ := unhide HY1
      have hlq := unhide HLQ
      have hs1 := unhide HS1
      obtain ⟨r2, hr2⟩ : ∃ Z, (exr f rk Prt.nil).1 = Z := ⟨_, rfl⟩
      obtain ⟨p2, hp2⟩ : ∃ Z, (exr f rk Prt.nil).2 = Z := ⟨_, rfl⟩
      rw [hr2, hp2]
      have hlay : layR (f :: fs.drop (k + 1)) rk = if okF f p2 then (layR (fs.drop (k + 1)) r2).map (fun z => (z.1, byF f p2 ++ z.2)) else none := by
        rw [layR, hr2, hp2]
      rw [hlay] at hlq
      clear hlay hr2 hp2
      have BK2 := BK1.below hx2 BK1.lt
      have Bf2 := Bf1.below hx2 Bf1.lt
      have BZ2 := BZ1.below hx2 BZ1.lt
      have hW2 := hW1.below hx2
      have hfg : fb ≠ g := by
        intro e
        subst e
        have e1 := (show x2.heap[fb]? = _ from Bf2).symm.trans (show x2.heap[fb]? = _ from BK2)
        injection e1 with e1
        injection e1 with _ e2 _
        exact absurd e2 (by decide)
      have hT1 : (34 : Nat) ≠ 5 := by decide
      have hT2 : (103 : Nat) ≠ 5 := by decide
      have hT3 : (101 : Nat) ≠ 5 := by decide
      have BK3 : Blk (x2.setRow g r2.cs) g r2.cs 34 := blk_setRow BK2
      have Bf3 : Blk (x2.setRow g r2.cs) fb _ _ := blk_setRow_other Bf2 (Ne.symm hfg)
      have BZ3 : Blk (x2.setRow g r2.cs) h _ _ := blk_setRow_other BZ2 (by omega)
      have hW3 : WPost base b v (l ++ lk) 0 w (x2.setRow g r2.cs) := hW2.turn BK2 hT1 (by omega) (by omega)
      have BK4 : Blk ((x2.setRow g r2.cs).setRow h p2.cs) g r2.cs 34 := blk_setRow_other BK3 (by omega)
      have Bf4 : Blk ((x2.setRow g r2.cs).setRow h p2.cs) fb _ _ := blk_setRow_other Bf3 (by omega)
      have BP4 : Blk ((x2.setRow g r2.cs).setRow h p2.cs) h p2.cs 103 := blk_setRow BZ3
      have hW4 : WPost base b v (l ++ lk) 0 w ((x2.setRow g r2.cs).setRow h p2.cs) := hW3.turn BZ3 hT2 (by omega) (by omega)
      obtain ⟨x3, hx3⟩ : ∃ Z, x2.setRow g r2.cs = Z := ⟨_, rfl⟩
      have HZ2 := hide BK2
      have HZ3 := hide BZ3
      rw [hx3] at BK4 Bf4 BP4 hW4
      obtain ⟨x4, hx4⟩ : ∃ Z, x3.setRow h p2.cs = Z := ⟨_, rfl⟩
      rw [hx4] at BK4 Bf4 BP4 hW4
      have HRP := hide (show x4.rangeAt h 0 p2.cl from blk_range BP4)
      obtain ⟨v1, h1, h2, h3⟩ := hW4
      have hbx : base ≤ x4.heap.size := Nat.le_trans hb h2.size
      have hlk := unhide HK1
      have hlen2 : (l ++ lk).length ≤ 1000 := by rw [List.length_append]; omega
      have hkey : ∀ (l' : List Int) (z : World), WPost base b v1 l' 0 x4 z → Blk z g r2.cs 34 ∧ FR z (.slice (some ⟨fb, 0, none⟩) n n) fs ∧ WPost base b v l' 0 w z := by
        intro l' z hz
        refine ⟨hz.blk BK4 (fp_blk h1 BK4 hT1 (by omega)), .inr ⟨fb, by rw [hlen], hz.blk Bf4 (fp_blk h1 Bf4 hT3 ?_)⟩, WPost.trans h2 h3 hz⟩
        intro e
        have e1 := (show x4.heap[fb]? = _ from Bf4).symm.trans (show x4.heap[fb]? = _ from e ▸ h1.1)
        injection e1 with e1
        injection e1 with _ e2 _
        exact absurd e2 (by decide)
      have hwk : IntKind.i64.wrap ((k : Int) + 1) = ((k + 1 : Nat) : Int) := by rw [wrapI_eq _ (by omega) (by omega)]; omega
      have HKEY := hide hkey
      clear hkey BK1 Bf1 BZ1 hW1 BK2 Bf2 BZ2 hW2 BK3 Bf3 BZ3 hW3 BK4 Bf4 BP4 h2 h3 hx2 hfg HY1 hlk HLQ
      have HO1 := hide (Rep.one r2)
      have HO2 := hide (Prt.one p2)
      have hfv : fv f = .iface f.ty (.agg f.cs) := rfl
      rw [hfv]
      clear hfv
      go_wp2_with (first | refine wpList_store_row rfl 34 (.tmp 5) (.tmp 36) rfl g r2.cs rfl rfl 34 rk.cs (unhide HZ2) size_rep rfl (unhide HO1) ?_ | refine wpList_store_row rfl 103 (.tmp 10) (.tmp 37) rfl h p2.cs rfl rfl 103 #[.int .i64 0, .string ⟨#[]⟩, .slice none 0 0] (unhide HZ3) size_prt rfl (unhide HO2) ?_ | refine wpList_load_mid rfl 103 (.tmp 10) rfl h 0 rfl p2.cl _ (unhide HRP) Tryz.underlying103 rfl size_prt ?_)
      have hf := unhide HHF
      have HBF := hide (fun (q : okF f p2 = true) => byF_lenN hf q)
      have HB256 := hide (isF_b hf.isF).2
      by_cases hok : okF f p2 = true
      · have HLQ2 := hide (show layR fs r = (layR (fs.drop (k + 1)) r2).map (fun z => (z.1, (lk ++ byF f p2) ++ z.2)) by
          rw [hlq, if_pos hok, Option.map_map]
          congr 1
          funext z
          simp)
        have HLK2 := hide (show (lk ++ byF f p2).length ≤ 256 * (k + 1) by
          rw [List.length_append, unhide HBF hok]
          have := unhide HB256
          have := unhide HK1
          omega)
        clear hlq HHF HBF HB256
        rcases hf with rfl | rfl | rfl | rfl | rfl
        · have HC := hide (show Calls Tryz.prog 130 #[.agg #[.int .i64 2, .int .i64 0, .int .i64 65535], .pointer (some ⟨b, 0, none⟩), .agg p2.cl.toArray] x4 fun e w' => e = .returned (.bool (okF fQuo p2)) ∧ WPost base b v1 (if okF fQuo p2 = true then l ++ lk ++ byF fQuo p2 else l ++ lk) 0 x4 w' from nlay_any (WPost.refl h1) hbx 2 0 65535 (by decide) (by decide) (by decide) p2 hlen2)
          rw [hok] at HC
          clear h1 hbx hlen2
          go_wp2_with (first | (go_at_call 130; refine (unhide HC).mono ?_; rintro e z ⟨rfl, hz⟩; have HZ := hide hz; clear hz))
          obtain ⟨q1, q2, q3⟩ := unhide HKEY (l ++ lk ++ byF fQuo p2) z (unhide HZ)
          exact ⟨⟨k + 1, r2, lk ++ byF fQuo p2, by omega, rfl, unhide HLQ2, q1, q2, by rw [← List.append_assoc]; exact q3, unhide HLK2⟩, by simp [intOf]; omega⟩
        · have HC := hide (show Calls Tryz.prog 130 #[.agg #[.int .i64 2, .int .i64 0, .int .i64 65535], .pointer (some ⟨b, 0, none⟩), .agg p2.cl.toArray] x4 fun e w' => e = .returned (.bool (okF fCha p2)) ∧ WPost base b v1 (if okF fCha p2 = true then l ++ lk ++ byF fCha p2 else l ++ lk) 0 x4 w' from nlay_any (WPost.refl h1) hbx 2 0 65535 (by decide) (by decide) (by decide) p2 hlen2)
          rw [hok] at HC
          clear h1 hbx hlen2
          go_wp2_with (first | (go_at_call 130; refine (unhide HC).mono ?_; rintro e z ⟨rfl, hz⟩; have HZ := hide hz; clear hz))
          obtain ⟨q1, q2, q3⟩ := unhide HKEY (l ++ lk ++ byF fCha p2) z (unhide HZ)
          exact ⟨⟨k + 1, r2, lk ++ byF fCha p2, by omega, rfl, unhide HLQ2, q1, q2, by rw [← List.append_assoc]; exact q3, unhide HLK2⟩, by simp [intOf]; omega⟩
        · have HC := hide (show Calls Tryz.prog 130 #[.agg #[.int .i64 4, .int .i64 0, .int .i64 4294967295], .pointer (some ⟨b, 0, none⟩), .agg p2.cl.toArray] x4 fun e w' => e = .returned (.bool (okF fNon p2)) ∧ WPost base b v1 (if okF fNon p2 = true then l ++ lk ++ byF fNon p2 else l ++ lk) 0 x4 w' from nlay_any (WPost.refl h1) hbx 4 0 4294967295 (by decide) (by decide) (by decide) p2 hlen2)
          rw [hok] at HC
          clear h1 hbx hlen2
          go_wp2_with (first | (go_at_call 130; refine (unhide HC).mono ?_; rintro e z ⟨rfl, hz⟩; have HZ := hide hz; clear hz))
          obtain ⟨q1, q2, q3⟩ := unhide HKEY (l ++ lk ++ byF fNon p2) z (unhide HZ)
          exact ⟨⟨k + 1, r2, lk ++ byF fNon p2, by omega, rfl, unhide HLQ2, q1, q2, by rw [← List.append_assoc]; exact q3, unhide HLK2⟩, by simp [intOf]; omega⟩
        · have HC := hide (show Calls Tryz.prog 134 #[.agg #[.int .i64 48], .pointer (some ⟨b, 0, none⟩), .agg p2.cl.toArray] x4 fun e w' => e = .returned (.bool (okF fWra p2)) ∧ WPost base b v1 (if okF fWra p2 = true then l ++ lk ++ byF fWra p2 else l ++ lk) 0 x4 w' from tlay_any (WPost.refl h1) hbx 48 (by decide) p2 hlen2)
          rw [hok] at HC
          clear h1 hbx hlen2
          go_wp2_with (first | (go_at_call 134; refine (unhide HC).mono ?_; rintro e z ⟨rfl, hz⟩; have HZ := hide hz; clear hz))
          obtain ⟨q1, q2, q3⟩ := unhide HKEY (l ++ lk ++ byF fWra p2) z (unhide HZ)
          exact ⟨⟨k + 1, r2, lk ++ byF fWra p2, by omega, rfl, unhide HLQ2, q1, q2, by rw [← List.append_assoc]; exact q3, unhide HLK2⟩, by simp [intOf]; omega⟩
        · have HC := hide (show Calls Tryz.prog 134 #[.agg #[.int .i64 256], .pointer (some ⟨b, 0, none⟩), .agg p2.cl.toArray] x4 fun e w' => e = .returned (.bool (okF fDat p2)) ∧ WPost base b v1 (if okF fDat p2 = true then l ++ lk ++ byF fDat p2 else l ++ lk) 0 x4 w' from tlay_any (WPost.refl h1) hbx 256 (by decide) p2 hlen2)
          rw [hok] at HC
          clear h1 hbx hlen2
          go_wp2_with (first | (go_at_call 134; refine (unhide HC).mono ?_; rintro e z ⟨rfl, hz⟩; have HZ := hide hz; clear hz))
          obtain ⟨q1, q2, q3⟩ := unhide HKEY (l ++ lk ++ byF fDat p2) z (unhide HZ)
          exact ⟨⟨k + 1, r2, lk ++ byF fDat p2, by omega, rfl, unhide HLQ2, q1, q2, by rw [← List.append_assoc]; exact q3, unhide HLK2⟩, by simp [intOf]; omega⟩
      · have hok : okF f p2 = false := by simpa using hok
        have HRB := hide (show RB = false by
          have hb := unhide HLB
          rw [hlq, if_neg (by rw [hok]; decide)] at hb
          exact hb)
        clear hlq HHF HBF HB256
        rcases hf with rfl | rfl | rfl | rfl | rfl
        · have HC := hide (show Calls Tryz.prog 130 #[.agg #[.int .i64 2, .int .i64 0, .int .i64 65535], .pointer (some ⟨b, 0, none⟩), .agg p2.cl.toArray] x4 fun e w' => e = .returned (.bool (okF fQuo p2)) ∧ WPost base b v1 (if okF fQuo p2 = true then l ++ lk ++ byF fQuo p2 else l ++ lk) 0 x4 w' from nlay_any (WPost.refl h1) hbx 2 0 65535 (by decide) (by decide) (by decide) p2 hlen2)
          rw [hok] at HC
          clear h1 hbx hlen2
          go_wp2_with (first | (go_at_call 130; refine (unhide HC).mono ?_; rintro e z ⟨rfl, hz⟩; have HZ := hide hz; clear hz))
          go_ret
          exact ⟨l ++ lk, by rw [unhide HRB]; rfl, (unhide HKEY (l ++ lk) z (unhide HZ)).2.2, fun q => absurd ((unhide HRB).symm.trans q) (by decide)⟩
        · have HC := hide (show Calls Tryz.prog 130 #[.agg #[.int .i64 2, .int .i64 0, .int .i64 65535], .pointer (some ⟨b, 0, none⟩), .agg p2.cl.toArray] x4 fun e w' => e = .returned (.bool (okF fCha p2)) ∧ WPost base b v1 (if okF fCha p2 = true then l ++ lk ++ byF fCha p2 else l ++ lk) 0 x4 w' from nlay_any (WPost.refl h1) hbx 2 0 65535 (by decide) (by decide) (by decide) p2 hlen2)
          rw [hok] at HC
          clear h1 hbx hlen2
          go_wp2_with (first | (go_at_call 130; refine (unhide HC).mono ?_; rintro e z ⟨rfl, hz⟩; have HZ := hide hz; clear hz))
          go_ret
          exact ⟨l ++ lk, by rw [unhide HRB]; rfl, (unhide HKEY (l ++ lk) z (unhide HZ)).2.2, fun q => absurd ((unhide HRB).symm.trans q) (by decide)⟩
        · have HC := hide (show Calls Tryz.prog 130 #[.agg #[.int .i64 4, .int .i64 0, .int .i64 4294967295], .pointer (some ⟨b, 0, none⟩), .agg p2.cl.toArray] x4 fun e w' => e = .returned (.bool (okF fNon p2)) ∧ WPost base b v1 (if okF fNon p2 = true then l ++ lk ++ byF fNon p2 else l ++ lk) 0 x4 w' from nlay_any (WPost.refl h1) hbx 4 0 4294967295 (by decide) (by decide) (by decide) p2 hlen2)
          rw [hok] at HC
          clear h1 hbx hlen2
          go_wp2_with (first | (go_at_call 130; refine (unhide HC).mono ?_; rintro e z ⟨rfl, hz⟩; have HZ := hide hz; clear hz))
          go_ret
          exact ⟨l ++ lk, by rw [unhide HRB]; rfl, (unhide HKEY (l ++ lk) z (unhide HZ)).2.2, fun q => absurd ((unhide HRB).symm.trans q) (by decide)⟩
        · have HC := hide (show Calls Tryz.prog 134 #[.agg #[.int .i64 48], .pointer (some ⟨b, 0, none⟩), .agg p2.cl.toArray] x4 fun e w' => e = .returned (.bool (okF fWra p2)) ∧ WPost base b v1 (if okF fWra p2 = true then l ++ lk ++ byF fWra p2 else l ++ lk) 0 x4 w' from tlay_any (WPost.refl h1) hbx 48 (by decide) p2 hlen2)
          rw [hok] at HC
          clear h1 hbx hlen2
          go_wp2_with (first | (go_at_call 134; refine (unhide HC).mono ?_; rintro e z ⟨rfl, hz⟩; have HZ := hide hz; clear hz))
          go_ret
          exact ⟨l ++ lk, by rw [unhide HRB]; rfl, (unhide HKEY (l ++ lk) z (unhide HZ)).2.2, fun q => absurd ((unhide HRB).symm.trans q) (by decide)⟩
        · have HC := hide (show Calls Tryz.prog 134 #[.agg #[.int .i64 256], .pointer (some ⟨b, 0, none⟩), .agg p2.cl.toArray] x4 fun e w' => e = .returned (.bool (okF fDat p2)) ∧ WPost base b v1 (if okF fDat p2 = true then l ++ lk ++ byF fDat p2 else l ++ lk) 0 x4 w' from tlay_any (WPost.refl h1) hbx 256 (by decide) p2 hlen2)
          rw [hok] at HC
          clear h1 hbx hlen2
          go_wp2_with (first | (go_at_call 134; refine (unhide HC).mono ?_; rintro e z ⟨rfl, hz⟩; have HZ := hide hz; clear hz))
          go_ret
          exact ⟨l ++ lk, by rw [unhide HRB]; rfl, (unhide HKEY (l ++ lk) z (unhide HZ)).2.2, fun q => absurd ((unhide HRB).symm.trans q) (by decide)⟩
    · obtain rfl : k = n := by omega
      have hkn' : ¬ (k : Int) < (k : Int) := by omega
      have hd : fs.drop k = [] := List.drop_eq_nil_of_le (by rw [unhide HN]; omega)
      rw [hd] at hlq
      have hlq' : layR fs r = some (rk, lk) := by rw [hlq]; simp [layR]
      have HRB := hide (show RB = bareP rk by have hb := unhide HLB; rw [hlq'] at hb; exact hb)
      have HRL := hide (show RL = lk by have hb := unhide HLL; rw [hlq'] at hb; exact hb)
      have HRG := hide (show wr.rangeAt g 0 rk.cl from blk_range BK)
      have HWK := hide hWk
      have HIB := hide (fun W => isBare_any rk W)
      clear hd hlq hlq' hRk BK hWk hlk
      go_wp2_with (first | refine wpList_load_mid rfl 34 (.tmp 5) rfl g 0 rfl rk.cl _ (unhide HRG) Tryz.underlying34 rfl size_rep ?_ | (go_at_call 67; refine (unhide HIB _).mono ?_; rintro e z ⟨rfl, hz⟩; have HZ := hide hz; clear hz))
      go_ret
      exact ⟨l ++ lk, by rw [unhide HRB]; rfl, (unhide HWK).below (unhide HZ), fun _ => by rw [unhide HRL]⟩
end Go.Proofs.YtclgkgaobjcifaaGreatDoor
