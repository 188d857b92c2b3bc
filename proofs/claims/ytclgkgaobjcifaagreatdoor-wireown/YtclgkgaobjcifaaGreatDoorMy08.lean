import Derived.Test.YtclgkgaobjcifaaGreatDoorMy07
import Derived.Test.YtclgkgaobjcifaaGreatDoorMy00
import Derived.StillTailTactics
import Derived.LaidEql
import Derived.Stop.Asserts
import Derived.RowKitTokens
namespace Go.Proofs.YtclgkgaobjcifaaGreatDoor
open Go.RowKit
set_option maxRecDepth 100000
theorem kindByte_any (k : Nat) (hk : k ≤ 12) (w : World) : Calls Tryz.prog 37 #[.int .i64 (k : Int)] w fun e w' => e = .returned (.string (strOfNums [(k : Int)])) ∧ Below w.heap.size w w' := by
  have hA : Arr (w.alloc (Obj.cells #[.int .u8 (k : Int)] 5)) w.heap.size 0 .u8 [(k : Int)] := by
    intro j hj
    have hj0 : j = 0 := by simp at hj; omega
    subst hj0
    have hB := Blk.new w 5 #[.int .u8 (k : Int)]
    exact ⟨by rw [hB.cell]; rfl, hB.frozen _⟩
  have hcv := run_convert_bytes_arg (P := Tryz.prog) (w.alloc (Obj.cells #[.int .u8 (k : Int)] 5)) 61 5 Tryz.underlying61 Tryz.underlying5 w.heap.size 0 1 1 [(k : Int)] rfl (fun i hi => hA.get i hi) 9 Tryz.underlying9
  have hw8 : IntKind.u8.wrap (k : Int) = (k : Int) := by rw [IntKind.wrap_u8]; omega
  generalize strOfNums [(k : Int)] = S at *
  clear hA
  go_enter Tryz.func37, Tryz.ntmps37
  go_wp2
  go_ret
  exact ⟨rfl, (Below.refl _ _).alloc (Nat.le_refl _) _⟩
theorem layR_len : ∀ (fs : List Fld), (∀ f ∈ fs, IsN f) → ∀ (r : Rep) (x : Rep × List Int), layR fs r = some x → x.2.length = szF fs ∧ Bytes x.2
  | [], _, r, x, h => by
    simp only [layR, Option.some.injEq] at h
    subst h
    exact ⟨rfl, fun j => by simp⟩
  | f :: fs, hF, r, x, h => by
    rw [layR] at h
    by_cases hok : okF f (exr f r Prt.nil).2 = true
    · rw [if_pos hok] at h
      cases hq : layR fs (exr f r Prt.nil).1 with
      | none => rw [hq] at h; simp at h
      | some y =>
        rw [hq] at h
        simp only [Option.map_some, Option.some.injEq] at h
        subst h
        have hf := hF f (by simp)
        obtain ⟨e1, e2⟩ := layR_len fs (fun g hg => hF g (by simp [hg])) _ y hq
        refine ⟨by simp only [List.length_append, szF, byF_lenN hf hok, e1], Bytes.app ?_ e2⟩
        unfold byF
        split
        · exact numB_bytes _ _
        · exact nums_bytes _
    · rw [if_neg hok] at h
      simp at h
theorem lrL_len (kd : Int) (hN : ∀ f ∈ rpF kd, IsN f) (r : Rep) : (lrL kd r).length ≤ 1024 ∧ Bytes (lrL kd r) := by
  unfold lrL
  cases h : layR (rpF kd) r with
  | none => exact ⟨by simp, fun j => by simp⟩
  | some x =>
    obtain ⟨e1, e2⟩ := layR_len _ hN r x h
    have h1 := szF_le (rpF kd) (fun f hf => (hN f hf).isF)
    have h2 := rpF_len kd
    exact ⟨by simp only [e1]; omega, e2⟩
/-- a reply's bytes ahead of its check -/
def epL (kd : Int) (r : Rep) : List Int := numB r.st 1 ++ lrL kd r
set_option maxHeartbeats 4000000 in
theorem encodeReply_full (k : Nat) (hk : k ≤ 12) (r : Rep) (hst : 0 ≤ r.st ∧ r.st ≤ 13) (hfull : fullP (k : Int) r.st = true) (hNN : ∀ f ∈ rpF (k : Int), IsN f) (hB : lrB (k : Int) r = true) (w : World) : Calls Tryz.prog 12 #[.int .i64 (k : Int), .agg r.cs] w fun e w' => e = .returned (.tuple #[.string (strOfNums (epL (k : Int) r) ++ strOfNums (le4 (chkN ((k : Int) :: epL (k : Int) r)))), .int .i64 0]) ∧ Below w.heap.size w w' := by
  obtain ⟨g, hg⟩ : ∃ g, w.heap.size = g := ⟨_, rfl⟩
  have HL := hide (fun W base b v l hW hb hl => layReply_any (k : Int) r hfull hNN W base b v l hW hb hl)
  have HKB := hide (fun W => kindByte_any k hk W)
  have HK := hide (isReplyKind_any (k : Int))
  have HS := hide (isStatus_any r.st)
  rw [decide_eq_true (show (0 : Int) ≤ (k : Int) ∧ (k : Int) ≤ 12 by omega)] at HK
  rw [decide_eq_true hst] at HS
  have HFit := hide ((fits1 r.st).2 ⟨hst.1, by omega⟩)
  have HE := hide (show epL (k : Int) r = numB r.st 1 ++ lrL (k : Int) r from rfl)
  have HEL := hide (show (epL (k : Int) r).length ≤ 1025 ∧ Bytes (epL (k : Int) r) from ⟨by have := (lrL_len (k : Int) hNN r).1; simp only [epL, List.length_append, numB_len]; omega, Bytes.app (numB_bytes _ _) (lrL_len (k : Int) hNN r).2⟩)
  rw [hB] at HL
  obtain ⟨st, hst'⟩ : ∃ q, r.st = q := ⟨_, rfl⟩
  obtain ⟨y, hy⟩ : ∃ Z, w.alloc (.cells r.cs 34) = Z := ⟨_, rfl⟩
  have BY : Blk y g r.cs 34 := by rw [← hy, ← hg]; exact Blk.new w _ _
  have hby : Below g w y := by rw [← hy, ← hg]; exact (Below.refl _ w).alloc (Nat.le_refl _) _
  have hsy : y.heap.size = g + 1 := by rw [← hy, ← hg]; simp
  have c0 : y.cell? ⟨g, 0, none⟩ = some (.int .i64 st) := by rw [BY.cell, ← hst']; rfl
  have HY := hide (And.intro BY (And.intro hby hsy))
  have hrc : r.cs = r.cl.toArray := rfl
  have HSZ := hide (show (Tryz.prog.info? 34).map (·.size) = some r.cl.length from size_rep)
  rw [hrc] at hy HL HY ⊢
  rw [hst'] at HS HFit HE
  have hws : wrap64 st = st := wrap64_eq _ (by omega) (by omega)
  have HK12 := hide hk
  clear hrc hst' hst hfull hNN hB hk BY hby hsy
  generalize lrL (k : Int) r = RL at *
  generalize epL (k : Int) r = EL at *
  generalize r.cl = rl at *
  obtain ⟨SS, hSS⟩ : ∃ Z, strOfNums EL ++ strOfNums (le4 (chkN ((k : Int) :: EL))) = Z := ⟨_, rfl⟩
  rw [hSS]
  have HSS := hide hSS
  clear hSS
  go_enter Tryz.func12, Tryz.ntmps12
  go_wp2_with (first | (go_at_call 34; refine (unhide HK _).mono ?_; rintro e x ⟨rfl, hx⟩; subst x) | (go_at_call 35; refine (unhide HS _).mono ?_; rintro e x ⟨rfl, hx⟩; subst x))
  refine (newWriter_any _).mono ?_
  rintro e x1 ⟨rfl, hW1, hb1, hs1⟩
  obtain ⟨BY, hby, hsy⟩ := unhide HY
  rw [hsy] at hW1 hb1 hs1 ⊢
  have B1 := BY.below hb1 (by omega)
  have hbw1 : Below g w x1 := hby.trans (hb1.mono (by omega))
  have d0 : x1.cell? ⟨g, 0, none⟩ = some (.int .i64 st) := by rw [B1.cell]; rw [← BY.cell]; exact c0
  have hWr := WPost.refl hW1
  have HN := hide (wnumK hWr (by omega) 1 (by decide) (by decide) st (unhide HFit) (by simp) 1 rfl _ rfl)
  have H1 := hide (And.intro B1 (And.intro hbw1 hs1))
  have HW1 := hide hW1
  clear BY hby hsy hW1 hb1 hs1 B1 hbw1 hWr c0 HY hy
  go_wp2_with fail
  refine (unhide HN).mono ?_
  rintro e x2 ⟨rfl, hp2⟩
  obtain ⟨B1, hbw1, hs1⟩ := unhide H1
  have hW1 := unhide HW1
  have B2 := hp2.blk B1 (fp_blk hW1 B1 (by decide) (by omega))
  have HRG := hide (show x2.rangeAt g 0 rl from blk_range B2)
  obtain ⟨v1, hq1, hq2, hq3⟩ := hp2
  have HL2 := hide (unhide HL x2 (g + 1) (g + 1) v1 _ hq1 (by have := hq2.size; omega) (by rw [List.nil_append, numB_len]; omega))
  have HQ := hide (And.intro hq2 hq3)
  clear B1 hbw1 hs1 hW1 B2 hq1 hq2 hq3 d0
  go_wp2_with (refine wpList_load_mid rfl 34 (.tmp 3) rfl g 0 rfl rl _ (unhide HRG) Tryz.underlying34 rfl (unhide HSZ) ?_)
  refine (unhide HL2).mono ?_
  rintro e x3 ⟨l', rfl, hp3, hl'⟩
  obtain ⟨hq2, hq3⟩ := unhide HQ
  have hp3' := WPost.trans hq2 hq3 hp3
  have hl2 := hl' trivial
  rw [hl2, List.nil_append, ← unhide HE] at hp3'
  clear hl2 hl' hp3 hq2 hq3 HL2 HQ
  have hen := unhide HEL
  have HD := hide (doneK hp3')
  have hsz : (strOfNums EL).size = EL.length := by rw [← nums_len, nums_strOfNums EL hen.2]
  have hkl : strOfNums [(k : Int)] ++ strOfNums EL = strOfNums ((k : Int) :: EL) := by simp [strOfNums, ByteArray.ext_iff]
  have hkb : Bytes ((k : Int) :: EL) := by
    intro j
    have := unhide HK12
    cases j with
    | zero => simp; omega
    | succ j => simpa using hen.2 j
  have hk1 : (strOfNums [(k : Int)]).size = 1 := by
    rw [← nums_len, nums_strOfNums]
    · rfl
    · exact (fun j => by cases j with | zero => exact hkb 0 | succ j => simp)
  have hsz2 : (strOfNums ((k : Int) :: EL)).size = EL.length + 1 := by rw [← nums_len, nums_strOfNums _ hkb]; rfl
  have HC := hide (fun W => checkOf_any (strOfNums ((k : Int) :: EL)) (by omega) W)
  rw [nums_strOfNums _ hkb] at HC
  have h4 : (strOfNums (le4 (chkN ((k : Int) :: EL)))).size = 4 := by rw [← nums_len, nums_strOfNums _ (le4_bytes _ (chkN_lt _))]; rfl
  have hadd : ¬ 9223372036854775807 < (strOfNums [(k : Int)]).size + (strOfNums EL).size := by omega
  have hadd2 : ¬ 9223372036854775807 < (strOfNums EL).size + (strOfNums (le4 (chkN ((k : Int) :: EL)))).size := by omega
  clear hp3' hsz hen hkb hk1 hsz2 h4
  generalize strOfNums (le4 (chkN ((k : Int) :: EL))) = S4 at *
  generalize strOfNums ((k : Int) :: EL) = S3 at *
  generalize strOfNums [(k : Int)] = S1 at *
  generalize strOfNums EL = S at *
  go_wp2_with fail
  refine (unhide HD).mono ?_
  rintro e x4 ⟨rfl, hp4⟩
  have hb4 : Below g w x4 := by
    obtain ⟨B1, hbw1, hs1⟩ := unhide H1
    exact hbw1.trans ((hp4.bel (w := x1) (Below.refl _ _) (by omega)).mono (by omega))
  have HB4 := hide hb4
  clear hp4 hb4 HD
  go_wp2_with fail
  refine (unhide HKB _).mono ?_
  rintro e x5 ⟨rfl, hx5⟩
  have HX5 := hide hx5
  clear hx5
  go_wp2_with (go_at_call 32; refine (unhide HC _).mono ?_; rintro e x6 ⟨rfl, hx6⟩; have HX6 := hide hx6; clear hx6)
  go_ret2
  have hb5 : Below g w x5 := (unhide HB4).trans ((unhide HX5).mono (by rw [← hg]; exact (unhide HB4).size))
  exact ⟨by rw [← unhide HSS]; rfl, by rw [hg]; exact hb5.trans ((unhide HX6).mono (by rw [← hg]; exact hb5.size))⟩
end Go.Proofs.YtclgkgaobjcifaaGreatDoor

namespace Go.Proofs.YtclgkgaobjcifaaGreatDoor
open Go.RowKit
theorem wpAnyH_takeD {P : Program} {ops : Array Oper} {Q : Exit → Act → World → Prop} {md : Region.Mode} {S : World → Prop} (i : Nat) (d : Option Tmp) (v : Value) {oi : Oper} {fuel : Nat} {listed : Array Bool} {a : Act} {w : World} (hi : ops[i]? = some oi) (hd : oi.dst = d)
    (hs : Region.noSelect ops = true) (hf : Region.free md ops listed i = true) (hr : (Region.ready md ops listed).contains i = true)
    (hQ : ∀ c a w, Q (.panic c) (a.put d v) w → Q (.panic c) a w) (hy : YieldsIf P ops S oi v a) (hS : S w)
    (h : wpAnyH P md ops Q S fuel (listed.setIfInBounds i true) (a.put d v) w) : wpAnyH P md ops Q S (fuel + 1) listed a w := by
  subst hd
  exact wpAnyH_take hi hs hf hr hQ hy hS h
end Go.Proofs.YtclgkgaobjcifaaGreatDoor

namespace Go.Proofs.YtclgkgaobjcifaaGreatDoor
open Go.RowKit
set_option maxRecDepth 100000
/-- is the check at the frame's end that of what is ahead of it? -/
def ckB (ah s : ByteArray) : Bool := ((strOfNums (le4 (chkN (nums (ah ++ s.extract 0 (s.size - 4)))))).toList == (s.extract (s.size - 4) s.size).toList)
def frB (s : ByteArray) (fs : List Fld) (ah : ByteArray) : Bool := if s.size = 5 + szF fs then ckB ah s else false
set_option maxHeartbeats 4000000 in
theorem isFrame_any (s : ByteArray) (hs : s.size ≤ 150000000000000) (fs : List Fld) (hF : ∀ f ∈ fs, IsF f) (hl : fs.length ≤ 4) (ah : ByteArray) (hah : ah.size ≤ 10) (v : Value) (w : World) (hR : FR w v fs) : Calls Tryz.prog 40 #[.string s, v, .string ah] w fun e w' => e = .returned (.bool (frB s fs ah)) ∧ Below w.heap.size w w' := by
  have HFS := hide (frameSize_any fs hF hl v w hR)
  have hsz := szF_le fs hF
  obtain ⟨g, hg⟩ : ∃ g, w.heap.size = g := ⟨_, rfl⟩
  by_cases hq : s.size = 5 + szF fs
  · rw [frB, if_pos hq]
    have hne : ((s.size : Int) != ((5 + szF fs : Nat) : Int)) = false := by simp; omega
    obtain ⟨E, hE⟩ : ∃ E, s.size = E + 4 := ⟨1 + szF fs, by omega⟩
    have hw : wrap64 ((s.size : Int) - 4) = (E : Int) := by rw [wrap64_eq _ (by omega) (by omega)]; omega
    have hE4 : s.size - 4 = E := by omega
    have hEs : E ≤ s.size := by omega
    rw [ckB, hE4]
    have hx : (ah ++ s.extract 0 E).size ≤ 100000 := by simp; omega
    have hadd : ¬ 9223372036854775807 < ah.size + (s.extract 0 E).size := by simp; omega
    have HC := hide (fun W => checkOf_any (ah ++ s.extract 0 E) hx W)
    obtain ⟨A1, hA1⟩ : ∃ Z, s.extract 0 E = Z := ⟨_, rfl⟩
    obtain ⟨A3, hA3⟩ : ∃ Z, s.extract E s.size = Z := ⟨_, rfl⟩
    rw [hA1] at HC hadd ⊢
    rw [hA3]
    rw [hE] at hA3
    have hle : (E : Int) ≤ (E : Int) + 4 := by omega
    obtain ⟨A2, hA2⟩ : ∃ Z, ah ++ A1 = Z := ⟨_, rfl⟩
    rw [hA2] at HC ⊢
    generalize strOfNums (le4 (chkN (nums A2))) = K4 at *
    obtain ⟨D, hD⟩ : ∃ Z, (K4.toList == A3.toList) = Z := ⟨_, rfl⟩
    rw [hD]
    clear hq hx hsz hE4 hF hR hah
    generalize (5 + szF fs : Nat) = M at *
    go_enter Tryz.func40, Tryz.ntmps40
    go_wp2_with (go_at_call 45; refine (unhide HFS).mono ?_; rintro e x ⟨rfl, hx⟩; have HX := hide hx; clear hx)
    have HBX := hide (show Below g w x by rw [← hg]; exact unhide HX)
    have HGX := hide (show g ≤ x.heap.size by rw [← hg]; exact (unhide HX).size)
    refine wp_region_held_drew (S := fun _ => True) (by kernel_rfl) trivial ?_
    intro hS
    refine wpAnyH_takeD 0 (some 16) (.string ah) rfl rfl (by kernel_rfl) (by kernel_rfl) (by kernel_rfl) (fun _ _ _ h => h) (Or.inl ⟨by rfl, fun w hSw => by clear hSw; go_simp; try omega⟩) hS ?_
    simp only [Act.put, List.setIfInBounds_toArray, List.set_cons_zero, List.set_cons_succ]
    refine wpAnyH_takeD 1 (some 17) (.string s) rfl rfl (by kernel_rfl) (by kernel_rfl) (by kernel_rfl) (fun _ _ _ h => h) (Or.inl ⟨by rfl, fun w hSw => by clear hSw; go_simp; try omega⟩) hS ?_
    simp only [Act.put, List.setIfInBounds_toArray, List.set_cons_zero, List.set_cons_succ]
    refine wpAnyH_takeD 2 (some 18) (.int .i64 (E : Int)) rfl rfl (by kernel_rfl) (by kernel_rfl) (by kernel_rfl) (fun _ _ _ h => h) (Or.inl ⟨by rfl, fun w hSw => by clear hSw; go_simp; try omega⟩) hS ?_
    simp only [Act.put, List.setIfInBounds_toArray, List.set_cons_zero, List.set_cons_succ]
    refine wpAnyH_takeD 3 (some 19) (.string A1) rfl rfl (by kernel_rfl) (by kernel_rfl) (by kernel_rfl) (fun _ _ _ h => h) (Or.inl ⟨by rfl, fun w hSw => by clear hSw; go_simp; try omega⟩) hS ?_
    simp only [Act.put, List.setIfInBounds_toArray, List.set_cons_zero, List.set_cons_succ]
    refine wpAnyH_takeD 4 (some 20) (.string A2) rfl rfl (by kernel_rfl) (by kernel_rfl) (by kernel_rfl) (fun _ _ _ h => h) (Or.inl ⟨by rfl, fun w hSw => by clear hSw; go_simp; try omega⟩) hS ?_
    simp only [Act.put, List.setIfInBounds_toArray, List.set_cons_zero, List.set_cons_succ]
    refine wpAnyH_takeD 6 (some 22) (.string s) rfl rfl (by kernel_rfl) (by kernel_rfl) (by kernel_rfl) (fun _ _ _ h => h) (Or.inl ⟨by rfl, fun w hSw => by clear hSw; go_simp; try omega⟩) hS ?_
    simp only [Act.put, List.setIfInBounds_toArray, List.set_cons_zero, List.set_cons_succ]
    refine wpAnyH_takeD 7 (some 23) (.int .i64 (E : Int)) rfl rfl (by kernel_rfl) (by kernel_rfl) (by kernel_rfl) (fun _ _ _ h => h) (Or.inl ⟨by rfl, fun w hSw => by clear hSw; go_simp; try omega⟩) hS ?_
    simp only [Act.put, List.setIfInBounds_toArray, List.set_cons_zero, List.set_cons_succ]
    refine wpAnyH_takeD 8 (some 24) (.string A3) rfl rfl (by kernel_rfl) (by kernel_rfl) (by kernel_rfl) (fun _ _ _ h => h) (Or.inl ⟨by rfl, fun w hSw => by clear hSw; go_simp; try omega⟩) hS ?_
    simp only [Act.put, List.setIfInBounds_toArray, List.set_cons_zero, List.set_cons_succ]
    refine wpAnyH_ready (rs := [5]) (by kernel_rfl) (by simp) ?_
    refine AllReadyH.cons rfl (fun K hK => ?_) AllReadyH.nil
    simp only [List.getElem_toArray, List.getElem_cons_succ, List.getElem_cons_zero]
    go_simp
    refine (unhide HC _).mono ?_
    rintro e x4 ⟨rfl, hb4⟩
    have HB4 := hide (show Below g w x4 from (unhide HBX).trans ((((Below.refl _ x).drew).trans hb4).mono (unhide HGX)))
    clear hb4
    refine hK.out _ _ trivial (fun hS => ?_)
    clear hK K
    refine wpAnyH_takeD 9 (some 25) (.bool D) rfl rfl (by kernel_rfl) (by kernel_rfl) (by kernel_rfl) (fun _ _ _ h => h) (Or.inl ⟨by rfl, fun w hSw => by clear hSw; go_simp; try omega⟩) hS ?_
    simp only [Act.put, List.setIfInBounds_toArray, List.set_cons_zero, List.set_cons_succ]
    refine wpAnyH_takeD 10 (some 6) (.bool D) rfl rfl (by kernel_rfl) (by kernel_rfl) (by kernel_rfl) (fun _ _ _ h => h) (Or.inl ⟨by rfl, fun w hSw => by clear hSw; go_simp; try omega⟩) hS ?_
    simp only [Act.put, List.setIfInBounds_toArray, List.set_cons_zero, List.set_cons_succ]
    refine wpAnyH_done (by kernel_rfl) ?_ _
    go_wp2
    go_ret
    exact ⟨rfl, by rw [hg]; exact unhide HB4⟩
  · rw [frB, if_neg hq]
    have hne : ((s.size : Int) != ((5 + szF fs : Nat) : Int)) = true := by simp; omega
    clear hq hF hR hsz
    generalize (5 + szF fs : Nat) = M at *
    go_enter Tryz.func40, Tryz.ntmps40
    go_wp2_with (go_at_call 45; refine (unhide HFS).mono ?_; rintro e x ⟨rfl, hx⟩; have HX := hide hx; clear hx)
    go_ret
    exact ⟨rfl, unhide HX⟩
end Go.Proofs.YtclgkgaobjcifaaGreatDoor

namespace Go.Proofs.YtclgkgaobjcifaaGreatDoor
open Go.RowKit
/-- Bytes as a number, the highest first. -/
def beN (l : List Int) : Int := l.foldl (fun n b => 256 * n + b) 0
theorem beN_snoc (l : List Int) (x : Int) : beN (l ++ [x]) = 256 * beN l + x := by simp [beN]
theorem or_add' (A c k B : Nat) (hc : c = 2 ^ k) (h : B < c) : B ||| A * c = A * c + B := by
  subst hc
  have := Nat.shiftLeft_add_eq_or_of_lt h A
  rw [Nat.shiftLeft_eq] at this
  rw [Nat.or_comm]
  exact this.symm
theorem nums_extract (s : ByteArray) (a b : Nat) : nums (s.extract a b) = ((nums s).take b).drop a := by
  simp [nums, ByteArray.data_extract, List.map_take, List.map_drop, List.drop_take]
theorem nums_tail (s : ByteArray) (a : Nat) : nums (s.extract a s.size) = (nums s).drop a := by
  rw [nums_extract, List.take_of_length_le (by rw [nums_len]; exact Nat.le_refl _)]
theorem extract_tail (s : ByteArray) (a b : Nat) : (s.extract a s.size).extract b (s.extract a s.size).size = s.extract (a + b) s.size := by
  have h : nums ((s.extract a s.size).extract b (s.extract a s.size).size) = nums (s.extract (a + b) s.size) := by
    rw [nums_tail, nums_tail, nums_tail, List.drop_drop]
  have h2 := congrArg strOfNums h
  rwa [strOfNums_nums, strOfNums_nums] at h2
theorem extract_all (s : ByteArray) : s.extract 0 s.size = s := by
  have h : nums (s.extract 0 s.size) = nums s := by rw [nums_tail, List.drop_zero]
  have h2 := congrArg strOfNums h
  rwa [strOfNums_nums, strOfNums_nums] at h2
theorem nums_inj {s t : ByteArray} (h : nums s = nums t) : s = t := by
  have h2 := congrArg strOfNums h
  rwa [strOfNums_nums, strOfNums_nums] at h2
end Go.Proofs.YtclgkgaobjcifaaGreatDoor

namespace Go.Proofs.YtclgkgaobjcifaaGreatDoor
open Go.RowKit
theorem Bytes.take {l : List Int} (h : Bytes l) (n : Nat) : Bytes (l.take n) := Bytes.of_mem (fun _ hx => h.mem (List.mem_of_mem_take hx))
end Go.Proofs.YtclgkgaobjcifaaGreatDoor

namespace Go.Proofs.YtclgkgaobjcifaaGreatDoor
open Go.RowKit
def pickP (c : Int) (n : Nat) : Nat := ((if c < 0 then -(c + 1) else c) % (n : Int)).toNat
theorem pickP_lt (c : Int) (n : Nat) (hn : 0 < n) : pickP c n < n := by
  have h1 := Int.emod_nonneg (if c < 0 then -(c + 1) else c) (show (n : Int) ≠ 0 by omega)
  have h2 := Int.emod_lt_of_pos (if c < 0 then -(c + 1) else c) (show 0 < (n : Int) by omega)
  unfold pickP
  omega
set_option maxHeartbeats 400000 in
theorem pick12_any (c : Int) (n : Nat) (hn : 0 < n) (hc : I64 c) (N : Int) (hN : N = (n : Int)) (w : World) :
    Calls Tryz.prog 9 #[.int .i64 c, .int .i64 N] w fun e w' => e = .returned (.int .i64 (pickP c n : Int)) ∧ w' = w := by
  subst hN
  obtain ⟨hc1, hc2⟩ := hc
  have hz : ((n : Int) == 0) = false := by simp; omega
  by_cases h : c < 0
  · have e1 : (-(c + 1)).tmod (n : Int) = (-(c + 1)) % (n : Int) := Int.tmod_eq_emod_of_nonneg (by omega)
    have hp : 0 ≤ (-(c + 1)) % (n : Int) := Int.emod_nonneg _ (by omega)
    have hl : (-(c + 1)) % (n : Int) < (n : Int) := Int.emod_lt_of_pos _ (by omega)
    have HP := hide (show (pickP c n : Int) = (-(c + 1)) % (n : Int) by rw [pickP, if_pos h]; omega)
    go_enter Tryz.func9, Tryz.ntmps9
    go_wp2
    go_ret
    exact ⟨by rw [unhide HP]; rfl, rfl⟩
  · have e1 : c.tmod (n : Int) = c % (n : Int) := Int.tmod_eq_emod_of_nonneg (by omega)
    have hp : 0 ≤ c % (n : Int) := Int.emod_nonneg _ (by omega)
    have hl : c % (n : Int) < (n : Int) := Int.emod_lt_of_pos _ (by omega)
    have HP := hide (show (pickP c n : Int) = c % (n : Int) by rw [pickP, if_neg h]; omega)
    go_enter Tryz.func9, Tryz.ntmps9
    go_wp2
    go_ret
    exact ⟨by rw [unhide HP]; rfl, rfl⟩
end Go.Proofs.YtclgkgaobjcifaaGreatDoor

namespace Go.Proofs.YtclgkgaobjcifaaGreatDoor
open Go.RowKit
set_option maxRecDepth 100000
def szV : Value → Nat
  | .string s => s.size
  | _ => 0
set_option maxHeartbeats 2000000 in
theorem sized12_any (s : ByteArray) (hs : s.size ≤ 140737488351232) (n : Nat) (hn : n ≤ 256) (K : Int) (hK : K = (n : Int)) (w : World) :
    Calls Tryz.prog 33 #[.string s, .int .i64 K] w fun e w' => (∃ t, e = .returned (.string t) ∧ t.size = n) ∧ w' = w := by
  subst hK
  have a1 : ¬ 9223372036854775807 < s.size + 1 := by omega
  have hS1 : (s ++ ⟨#[1]⟩).size = s.size + 1 := by rw [ByteArray.size_append]; rfl
  have HS1 := hide hS1
  clear hS1
  go_enter Tryz.func33, Tryz.ntmps33
  go_wp2
  go_loopw [0] (fun v wr => ∃ S : ByteArray, v = .string S ∧ 1 ≤ S.size ∧ S.size ≤ 140737488355328 ∧ wr = w) (fun v _ => n - szV v)
  case atStart => exact ⟨_, rfl, by rw [unhide HS1]; omega, by rw [unhide HS1]; omega, rfl⟩
  case round =>
    obtain ⟨S, rfl, h1, h2, hw⟩ := hrel
    subst hw
    by_cases hlt : S.size < n
    · have i1 : (S.size : Int) < (n : Int) := by omega
      have a2 : ¬ 9223372036854775807 < S.size + S.size := by omega
      have HS2 := hide (show (S ++ S).size = S.size + S.size from ByteArray.size_append ..)
      go_wp2
      go_roundw
      case rel => exact ⟨_, rfl, by rw [unhide HS2]; omega, by rw [unhide HS2]; omega, by first | rfl | trivial⟩
      case measure => simp only [szV, unhide HS2]; omega
    · have i1 : ¬ ((S.size : Int) < (n : Int)) := by omega
      have i2 : (n : Int) ≤ (S.size : Int) := by omega
      have i3 : 0 ≤ (n : Int) := by omega
      have HEX := hide (show (S.extract 0 n).size = n from by simp; omega)
      go_wp2
      go_ret
      exact ⟨⟨_, rfl, by simpa using unhide HEX⟩, rfl⟩
end Go.Proofs.YtclgkgaobjcifaaGreatDoor

namespace Go.Proofs.YtclgkgaobjcifaaGreatDoor
open Go.RowKit Go.Extern.Stop Go.Stop Go.Extern
/-! errors.As at the target *giveUp, of an error that is a giveUp: after the kit's worked toy 'toyas'. -/
theorem ea_valueOfP (t : Addr) (w : World) : (ReflectliteValue.unpack (.iface 154 (.pointer (some t)))).run Tryz.prog w
    = .ok (.agg #[.pointer (some ⟨2, 154, none⟩), .pointer (some ⟨w.heap.size, 0, none⟩), .int .u64 150]) (w.alloc (.cells #[.pointer (some t)] 154)) := by kernel_rfl
theorem ea_typeP (a : Addr) (w : World) : (ReflectliteValue.methodAny (ReflectliteValue.valueError "reflectlite.Value.Type" 0) (fun t _ _ _ => ReflectliteType.toType t) #[.agg #[.pointer (some ⟨2, 154, none⟩), .pointer (some a), .int .u64 150]]).run Tryz.prog w
    = .ok (.iface 184 (.agg #[.pointer (some ⟨2, 154, none⟩)])) w := by kernel_rfl
theorem ea_methodKind (h : Value) (w : World) : (Go.method 326 184 (.agg #[h]) "Kind").run Tryz.prog w = .ok (125, h) w := by kernel_rfl
theorem ea_kindP (w : World) : ((ReflectliteType.abiMethod fun t => (fun a : Nat => Value.int IntKind.u8 (a : Int)) <$> Rtype.kind t) #[.pointer (some ⟨2, 154, none⟩)]).run Tryz.prog w = .ok (.int .u8 22) w := by kernel_rfl
theorem ea_kindS (w : World) : ((ReflectliteType.abiMethod fun t => (fun a : Nat => Value.int IntKind.u8 (a : Int)) <$> Rtype.kind t) #[.pointer (some ⟨2, 117, none⟩)]).run Tryz.prog w = .ok (.int .u8 25) w := by kernel_rfl
theorem rlm (z : Sem Value) (f : TypeId → Addr → Nat → Nat → Sem Value) (v : Value) :
    ReflectliteValue.method z f #[v] = (do match ← ReflectliteValue.parts v with | none => z | some (t, a, fl) => f t a fl (fl % 32)) := rfl
theorem ea_partsP (a : Addr) (w : World) : (ReflectliteValue.parts (.agg #[.pointer (some ⟨2, 154, none⟩), .pointer (some a), .int .u64 150])).run Tryz.prog w = .ok (some (154, a, 150)) w := by kernel_rfl
theorem ea_isNilP (a p : Addr) (W : World) (ha : W.cell? a = some (.pointer (some p))) :
    (ReflectliteValue.method (ReflectliteValue.valueError "reflectlite.Value.IsNil" 0) ReflectliteValue.isNil #[.agg #[.pointer (some ⟨2, 154, none⟩), .pointer (some a), .int .u64 150]]).run Tryz.prog W = .ok (.bool false) W := by
  rw [rlm]
  simp only [Sem.run_bind, ea_partsP, Result.andThen]
  simp [ReflectliteValue.isNil, loadVar, isAgg, underlying, Tryz.underlying154, ha, Result.andThen]
theorem ea_methodElem (h : Value) (w : World) : (Go.method 326 184 (.agg #[h]) "Elem").run Tryz.prog w = .ok (152, .agg #[h]) w := by kernel_rfl
theorem ea_methodImplements (h : Value) (w : World) : (Go.method 326 184 (.agg #[h]) "Implements").run Tryz.prog w = .ok (153, .agg #[h]) w := by kernel_rfl
theorem ea_methodAssignableTo (h : Value) (w : World) : (Go.method 326 184 (.agg #[h]) "AssignableTo").run Tryz.prog w = .ok (150, .agg #[h]) w := by kernel_rfl
theorem ea_elemP (w : World) : (ReflectliteType.method ReflectliteType.elem #[.agg #[.pointer (some ⟨2, 154, none⟩)]]).run Tryz.prog w = .ok (.iface 184 (.agg #[.pointer (some ⟨2, 117, none⟩)])) w := by kernel_rfl
theorem ea_implementsS (w : World) : (ReflectliteType.relation "Implements" ReflectliteType.implements_ #[.agg #[.pointer (some ⟨2, 117, none⟩)], .iface 184 (.agg #[.pointer (some ⟨2, 151, none⟩)])]).run Tryz.prog w = .ok (.bool true) w := by kernel_rfl
theorem ea_typeOfS (v : Value) (w : World) : (ReflectliteType.typeOf #[.iface 117 v]).run Tryz.prog w = .ok (.iface 184 (.agg #[.pointer (some ⟨2, 117, none⟩)])) w := by kernel_rfl
theorem ea_assignableS (w : World) : (ReflectliteType.relation "AssignableTo" ReflectliteType.assignableTo #[.agg #[.pointer (some ⟨2, 117, none⟩)], .iface 184 (.agg #[.pointer (some ⟨2, 117, none⟩)])]).run Tryz.prog w = .ok (.bool true) w := by kernel_rfl
theorem ea_valueOfS (x : Int) (w : World) : (ReflectliteValue.unpack (.iface 117 (.agg #[.int .i64 x]))).run Tryz.prog w
    = .ok (.agg #[.pointer (some ⟨2, 117, none⟩), .pointer (some ⟨w.heap.size, 0, none⟩), .int .u64 153]) (w.alloc (.cells #[.int .i64 x] 117)) := by kernel_rfl
theorem ea_elemOfP (w : World) : (Rtype.elem? 154).run Tryz.prog w = .ok (some 117) w := by kernel_rfl
theorem ea_mkS (p : Addr) (w : World) : (ReflectliteValue.mk 117 p ReflectliteValue.flagAddr).run Tryz.prog w = .ok (.agg #[.pointer (some ⟨2, 117, none⟩), .pointer (some p), .int .u64 409]) w := by kernel_rfl
theorem ea_elemVP (a p : Addr) (W : World) (ha : W.cell? a = some (.pointer (some p))) :
    (ReflectliteValue.method (ReflectliteValue.valueError "reflectlite.Value.Elem" 0) ReflectliteValue.elem #[.agg #[.pointer (some ⟨2, 154, none⟩), .pointer (some a), .int .u64 150]]).run Tryz.prog W
      = .ok (.agg #[.pointer (some ⟨2, 117, none⟩), .pointer (some p), .int .u64 409]) W := by
  rw [rlm]
  simp only [Sem.run_bind, ea_partsP, Result.andThen]
  simp [ReflectliteValue.elem, loadVar, isAgg, underlying, Tryz.underlying154, ha, Result.andThen, ea_elemOfP, ea_mkS]
theorem rls (v x : Value) : ReflectliteValue.set #[v, x] = (do
    let (some (dst, a, fl), some (src, b, _)) := (← ReflectliteValue.parts v, ← ReflectliteValue.parts x)
      | unsupported (.noEntry "extern/(internal/reflectlite.Value).Set.zeroValue")
    if fl / ReflectliteValue.flagAddr % 2 == 0 then unsupported (.noEntry "extern/(internal/reflectlite.Value).Set.unaddressable")
    let val ← loadVar src b
    if ← Rtype.directlyAssignable dst src then storeVar dst a val
    else if ← Rtype.implements dst src then
      if (← Rtype.kind src) == 20 then
        match val with
        | .nilIface => unsupported (.noEntry "extern/reflectlite: a nil value of one interface type handed on as a value of another")
        | _ => storeVar dst a val
      else storeVar dst a (.iface src val)
    else panicString ("reflectlite.Set: value of type " ++ (← Rtype.spelt src) ++ " is not assignable to type " ++ (← Rtype.spelt dst))
    pure (.tuple #[])) := rfl
theorem ea_partsSa (a : Addr) (w : World) : (ReflectliteValue.parts (.agg #[.pointer (some ⟨2, 117, none⟩), .pointer (some a), .int .u64 409])).run Tryz.prog w = .ok (some (117, a, 409)) w := by kernel_rfl
theorem ea_partsS (a : Addr) (w : World) : (ReflectliteValue.parts (.agg #[.pointer (some ⟨2, 117, none⟩), .pointer (some a), .int .u64 153])).run Tryz.prog w = .ok (some (117, a, 153)) w := by kernel_rfl
theorem ea_directS (w : World) : (Rtype.directlyAssignable 117 117).run Tryz.prog w = .ok true w := by kernel_rfl
theorem ea_setS (ta b : Addr) (x : Int) (old : Value) (W : World) (hb : W.cell? b = some (.int .i64 x)) (ht : W.cell? ta = some old) (hf : W.frozen? ta = false) :
    (ReflectliteValue.set #[.agg #[.pointer (some ⟨2, 117, none⟩), .pointer (some ta), .int .u64 409], .agg #[.pointer (some ⟨2, 117, none⟩), .pointer (some b), .int .u64 153]]).run Tryz.prog W
      = .ok (.tuple #[]) (W.setCell ta (.int .i64 x)) := by
  rw [rls]
  simp only [Sem.run_bind, ea_partsSa, ea_partsS, Result.andThen]
  have hlv : (loadVar 117 b).run Tryz.prog W = .ok (.agg #[.int .i64 x]) W := by
    simp [loadVar, isAgg, underlying, Tryz.underlying117, Result.andThen, loadCells, loadCellsFrom, Addr.add, hb]
  simp [ReflectliteValue.flagAddr, hlv, Result.andThen, ea_directS, storeVar, Value.cells, storeCells, Addr.add]
  rw [run_store Tryz.prog W ta _ _ (by rfl)]
  simp [ht, hf]
end Go.Proofs.YtclgkgaobjcifaaGreatDoor

namespace Go.Proofs.YtclgkgaobjcifaaGreatDoor
open Go.RowKit Go.Extern.Stop Go.Stop Go.Extern
/-- What the laid variable errors.errorType gives. -/
def ETy (w : World) : Prop := w.cell? ⟨0, 0, none⟩ = some (.iface 184 (.agg #[.pointer (some ⟨2, 151, none⟩)]))
theorem ETy.lt {w : World} (h : ETy w) : 0 < w.heap.size := World.block_lt_of_cell? w _ h
theorem ETy.below {w w' : World} {B : Nat} (h : ETy w) (hb : Below B w w') (hB : 0 < B) : ETy w' := (hb.cell (p := ⟨0, 0, none⟩) hB).trans h
theorem ETy.only {w w' : World} {P : Nat → Prop} (h : ETy w) (ho : Only P w w') (hp : ¬ P 0) : ETy w' := (World.cell?_of_block (a := ⟨0, 0, none⟩) (ho.2 0 h.lt hp)).trans h
set_option maxRecDepth 100000 in
set_option maxHeartbeats 4000000 in
theorem as_hit (x : Int) (t : Addr) (old : Value) (w : World) (hg : ETy w) (ht0 : w.cell? t = some old) (hf0 : w.frozen? t = false) :
    Calls Tryz.prog 88 #[.iface 117 (.agg #[.int .i64 x]), .iface 154 (.pointer (some t))] w fun ev w' => ev = .returned (.bool true) ∧ w' = ((((w.alloc (.cells #[.pointer (some t)] 154)).alloc (.cells #[.pointer (some ⟨2, 154, none⟩), .pointer (some ⟨w.heap.size, 0, none⟩), .int .u64 150] 169)).alloc (.cells #[.pointer (some ⟨2, 154, none⟩), .pointer (some ⟨w.heap.size, 0, none⟩), .int .u64 150] 169)).alloc (.cells #[.int .i64 x] 117)).setCell t (.int .i64 x) := by
  have hVO := @run_callFunc_extern Tryz.prog 97 _ (fun args => ReflectliteValue.unpack (args.getD 0 (.tuple #[]))) Tryz.func97 (by kernel_rfl) (by kernel_rfl) (by kernel_rfl) (by kernel_rfl)
  have hTY := @run_callFunc_extern Tryz.prog 98 _ (ReflectliteValue.methodAny (ReflectliteValue.valueError "reflectlite.Value.Type" 0) (fun t _ _ _ => ReflectliteType.toType t)) Tryz.func98 (by kernel_rfl) (by kernel_rfl) (by kernel_rfl) (by kernel_rfl)
  have hNI := @run_callFunc_extern Tryz.prog 99 _ (ReflectliteValue.method (ReflectliteValue.valueError "reflectlite.Value.IsNil" 0) ReflectliteValue.isNil) Tryz.func99 (by kernel_rfl) (by kernel_rfl) (by kernel_rfl) (by kernel_rfl)
  have hKI := @run_callFunc_extern Tryz.prog 125 _ (ReflectliteType.abiMethod fun t => do pure (.int .u8 (← Rtype.kind t))) Tryz.func125 (by kernel_rfl) (by kernel_rfl) (by kernel_rfl) (by kernel_rfl)
  have hEL := @run_callFunc_extern Tryz.prog 152 _ (ReflectliteType.method ReflectliteType.elem) Tryz.func152 (by kernel_rfl) (by kernel_rfl) (by kernel_rfl) (by kernel_rfl)
  have hIM := @run_callFunc_extern Tryz.prog 153 _ (ReflectliteType.relation "Implements" ReflectliteType.implements_) Tryz.func153 (by kernel_rfl) (by kernel_rfl) (by kernel_rfl) (by kernel_rfl)
  have hTO := @run_callFunc_extern Tryz.prog 106 _ ReflectliteType.typeOf Tryz.func106 (by kernel_rfl) (by kernel_rfl) (by kernel_rfl) (by kernel_rfl)
  have hAT := @run_callFunc_extern Tryz.prog 150 _ (ReflectliteType.relation "AssignableTo" ReflectliteType.assignableTo) Tryz.func150 (by kernel_rfl) (by kernel_rfl) (by kernel_rfl) (by kernel_rfl)
  have hVE := @run_callFunc_extern Tryz.prog 107 _ (ReflectliteValue.method (ReflectliteValue.valueError "reflectlite.Value.Elem" 0) ReflectliteValue.elem) Tryz.func107 (by kernel_rfl) (by kernel_rfl) (by kernel_rfl) (by kernel_rfl)
  have hSE := @run_callFunc_extern Tryz.prog 108 _ ReflectliteValue.set Tryz.func108 (by kernel_rfl) (by kernel_rfl) (by kernel_rfl) (by kernel_rfl)
  have tO := ea_typeOfS
  have mA := ea_methodAssignableTo
  have a25 := ea_assignableS
  have v25 := ea_valueOfS
  have f6 := ea_valueOfP
  have f7 := ea_typeP
  have mK := ea_methodKind
  have mE := ea_methodElem
  have mI := ea_methodImplements
  have k27 := ea_kindP
  have k25 := ea_kindS
  have e27 := ea_elemP
  have i25 := ea_implementsS
  have n8 := ea_isNilP ⟨w.heap.size, 0, none⟩ t ((w.alloc (.cells #[.pointer (some t)] 154)).alloc (.cells #[.pointer (some ⟨2, 154, none⟩), .pointer (some ⟨w.heap.size, 0, none⟩), .int .u64 150] 169)) (by simp)
  have hlt : 0 < w.heap.size := hg.lt
  have hg2 : ((w.alloc (.cells #[.pointer (some t)] 154)).alloc (.cells #[.pointer (some ⟨2, 154, none⟩), .pointer (some ⟨w.heap.size, 0, none⟩), .int .u64 150] 169)).cell? ⟨0, 0, none⟩ = some (.iface 184 (.agg #[.pointer (some ⟨2, 151, none⟩)])) := by
    rw [World.cell?_alloc_lt _ _ ⟨0, 0, none⟩ (by simp <;> omega), World.cell?_alloc_lt _ _ ⟨0, 0, none⟩ hlt]; exact hg
  have htl : t.block < w.heap.size := World.block_lt_of_cell? w _ ht0
  have el := ea_elemVP ⟨w.heap.size, 0, none⟩ t (((w.alloc (.cells #[.pointer (some t)] 154)).alloc (.cells #[.pointer (some ⟨2, 154, none⟩), .pointer (some ⟨w.heap.size, 0, none⟩), .int .u64 150] 169)).alloc (.cells #[.pointer (some ⟨2, 154, none⟩), .pointer (some ⟨w.heap.size, 0, none⟩), .int .u64 150] 169)) (by rw [World.cell?_alloc_lt _ _ ⟨w.heap.size, 0, none⟩ (by simp; omega)]; simp)
  have st := ea_setS t ⟨w.heap.size + 1 + 1 + 1, 0, none⟩ x old ((((w.alloc (.cells #[.pointer (some t)] 154)).alloc (.cells #[.pointer (some ⟨2, 154, none⟩), .pointer (some ⟨w.heap.size, 0, none⟩), .int .u64 150] 169)).alloc (.cells #[.pointer (some ⟨2, 154, none⟩), .pointer (some ⟨w.heap.size, 0, none⟩), .int .u64 150] 169)).alloc (.cells #[.int .i64 x] 117))
    (by rw [World.cell?_alloc_at _ _ _ _ (by simp)]; rfl)
    (by rw [World.cell?_alloc_lt _ _ t (by simp; omega), World.cell?_alloc_lt _ _ t (by simp; omega), World.cell?_alloc_lt _ _ t (by simp; omega), World.cell?_alloc_lt _ _ t htl]; exact ht0)
    (by rw [World.frozen?_alloc_old _ _ t (by simp; omega), World.frozen?_alloc_old _ _ t (by simp; omega), World.frozen?_alloc_old _ _ t (by simp; omega), World.frozen?_alloc_old _ _ t (Nat.ne_of_lt htl)]; exact hf0)
  clear hg ht0 hf0
  go_enter Tryz.func88, Tryz.ntmps88
  go_wp2
  refine wp_loop_rounds 1 ?_
  rw [rounds_succ]
  go_wp2
  go_ret
  exact ⟨rfl, rfl⟩
end Go.Proofs.YtclgkgaobjcifaaGreatDoor
