import Derived.Test.YtclgkgaobjcifaaGreatDoorMy13
namespace Go.Proofs.YtclgkgaobjcifaaGreatDoor
open Go.RowKit
set_option maxRecDepth 100000
theorem rep0_bytes (d : Nat) : Bytes (List.replicate d (0 : Int)) := fun j => by
  rw [List.getD_eq_getElem?_getD, List.getElem?_replicate]
  split <;> decide
theorem rep0_nums (d : Nat) : nums (strOfNums (List.replicate d (0 : Int))) = List.replicate d 0 := nums_strOfNums _ (rep0_bytes d)
theorem rep0_size (d : Nat) : (strOfNums (List.replicate d (0 : Int))).size = d := by rw [← nums_len, rep0_nums, List.length_replicate]
set_option maxHeartbeats 4000000 in
theorem layReplyN_any (kd : Int) (r : Rep) (hfull : fullP kd r.st = false) (w : World) (base b : Nat) (v : Value) (l : List Int) (hW : Wtr w base b v l 0) (hb : base ≤ w.heap.size) (hl : l.length ≤ 100) :
    Calls Tryz.prog 36 #[.pointer (some ⟨b, 0, none⟩), .int .i64 kd, .agg r.cs] w fun e w' => e = .returned (.bool (bareP r)) ∧ WPost base b v (l ++ List.replicate (szF (rpF kd)) 0) 0 w w' := by
  obtain ⟨g, hg⟩ : ∃ g, w.heap.size = g := ⟨_, rfl⟩
  obtain ⟨st, hst⟩ : ∃ q, r.st = q := ⟨_, rfl⟩
  have HFU := hide (isFull_any kd st)
  rw [← hst, hfull] at HFU
  obtain ⟨y, hy⟩ : ∃ Z, w.alloc (.cells r.cs 34) = Z := ⟨_, rfl⟩
  have BY : Blk y g r.cs 34 := by rw [← hy, ← hg]; exact Blk.new w _ _
  have hby : Below g w y := by rw [← hy, ← hg]; exact (Below.refl _ w).alloc (Nat.le_refl _) _
  have hbg : b < g := by rw [← hg]; exact hW.lt
  have c0 : y.cell? ⟨g, 0, none⟩ = some (.int .i64 st) := by rw [BY.cell, ← hst]; rfl
  have hWy : Wtr y base b v l 0 := hW.only (Only.of_below (P := fun _ => False) (by rw [hg]; exact hby)) (fun _ _ q => q)
  have hby0 : base ≤ y.heap.size := by have := hby.size; omega
  have HF := hide (rpf_any kd)
  have HLEN := hide (rpF_len kd)
  have HA := hide (fun f hf => (rpF_all kd f hf).isF)
  have hsz : szF (rpF kd) ≤ 1000 := by
    unfold rpF
    (repeat' split) <;> decide
  obtain ⟨fs, hfs⟩ : ∃ fs, rpF kd = fs := ⟨_, rfl⟩
  rw [hfs] at HF HLEN HA hsz ⊢
  have HIB := hide (fun W => isBare_any r W)
  have HY := hide (And.intro BY hWy)
  have HBW := hide (show ∀ (l' : List Int) (z : World), WPost base b v l' 0 y z → WPost base b v l' 0 w z from fun l' z hz => WPost.trans (Only.of_below (by rw [hg]; exact hby)) (fun k hk => .inl hk) hz)
  have hrc : r.cs = r.cl.toArray := rfl
  have HSZ := hide (show (Tryz.prog.info? 34).map (·.size) = some r.cl.length from size_rep)
  rw [hrc] at hy HY ⊢
  generalize bareP r = RB at *
  generalize r.cl = rl at *
  clear BY hby hWy hW hfs hfull hrc
  go_enter Tryz.func36, Tryz.ntmps36
  go_wp2_with fail
  clear hy
  refine (unhide HF y).mono ?_
  rintro e x ⟨fvv, rfl, hR, hx⟩
  obtain ⟨BY, hWy⟩ := unhide HY
  have BX := BY.below hx BY.lt
  have hWx := (WPost.refl hWy).below hx
  have d0 : x.cell? ⟨g, 0, none⟩ = some (.int .i64 st) := by rw [BX.cell, ← BY.cell]; exact c0
  have HX := hide (And.intro BX hWx)
  have HFS := hide (fieldsSize_any fs (unhide HA) (by have := unhide HLEN; omega) fvv x hR)
  clear BY hWy BX hWx hx c0 hR HY HF
  rw [hst] at HFU
  go_wp2_with fail
  refine (unhide HFU _).mono ?_
  rintro e x' ⟨rfl, hx'⟩
  subst x'
  clear d0
  go_wp2_with fail
  refine (unhide HFS).mono ?_
  rintro e x1 ⟨rfl, hx1⟩
  have BX1 := (unhide HX).1.below hx1 (unhide HX).1.lt
  have hWx1 := (unhide HX).2.below hx1
  have HX1 := hide (And.intro BX1 hWx1)
  obtain ⟨d, hd⟩ : ∃ d, szF fs = d := ⟨_, rfl⟩
  have HD9 := hide hd
  rw [hd] at hsz ⊢
  have HNO := hide (noughts_any d hsz x1)
  have HRN := hide (rep0_nums d)
  have hrs := rep0_size d
  have HGL := hide (show ∀ S, strOfNums (List.replicate d (0 : Int)) = S → l ++ List.replicate d 0 = l ++ nums S from fun S e => by rw [← e, unhide HRN])
  obtain ⟨S, hS⟩ : ∃ S, strOfNums (List.replicate d (0 : Int)) = S := ⟨_, rfl⟩
  rw [hS] at HNO hrs
  have HSE := hide (unhide HGL S hS)
  clear BX1 hWx1 hx1 HX HFS hd hS HRN HGL
  go_wp2_with fail
  refine (unhide HNO).mono ?_
  rintro e x2 ⟨rfl, hx2⟩
  have BX2 := (unhide HX1).1.below hx2 (unhide HX1).1.lt
  have hWx2 := (unhide HX1).2.below hx2
  obtain ⟨v1, h1, h2, h3⟩ := hWx2
  have HRW := hide (raw_any x2 base b v1 l 0 h1 (by have := h2.size; omega) S (by omega))
  rw [wl_good] at HRW
  have HFR := hide (show ∀ (l' : List Int) (z : World), WPost base b v1 l' 0 x2 z → z.rangeAt g 0 rl ∧ WPost base b v l' 0 w z from fun l' z hz => ⟨blk_range (hz.blk BX2 (fp_blk h1 BX2 (by decide) (by omega))), unhide HBW l' z (WPost.trans h2 h3 hz)⟩)
  clear BX2 h1 h2 h3 hx2 HX1 HNO
  go_wp2_with fail
  refine (unhide HRW).mono ?_
  rintro e x3 ⟨rfl, hW3⟩
  obtain ⟨hr3, hp3⟩ := unhide HFR _ x3 hW3
  have HRG := hide hr3
  have HP3 := hide hp3
  clear hr3 hp3 hW3 HRW
  go_wp2_with (first | refine wpList_load_mid rfl 34 (.tmp 5) rfl g 0 rfl rl _ (unhide HRG) Tryz.underlying34 rfl (unhide HSZ) ?_ | (go_at_call 67; refine (unhide HIB _).mono ?_; rintro e z ⟨rfl, hz⟩; have HZ := hide hz; clear hz))
  go_ret
  exact ⟨rfl, by rw [unhide HD9, unhide HSE]; exact (unhide HP3).below (unhide HZ)⟩
/-- what layReply answers and lays down, of any reply -/
def lyB (kd : Int) (r : Rep) (V Pl : List Int) : Bool := if fullP kd r.st = true then lgB kd r V Pl else bareP r
def lyL (kd : Int) (r : Rep) (V Pl : List Int) : List Int := if fullP kd r.st = true then lgL kd r V Pl else List.replicate (szF (rpF kd)) 0
theorem layReplyA_any (kd : Int) (r : Rep) (V Pl : List Int) (hvm : V.length = r.vm) (hpm : Pl.length = r.pm) (hm9 : r.vm ≤ 9223372036854775807 ∧ r.pm ≤ 9223372036854775807) (B : Nat) (w : World) (hLV : Lst w B r.vp V) (hLP : Lst w B r.pp Pl) (base b : Nat) (v : Value) (l : List Int) (hW : Wtr w base b v l 0) (hb : base ≤ w.heap.size) (hB : B ≤ base) (hl : l.length ≤ 100) :
    Calls Tryz.prog 36 #[.pointer (some ⟨b, 0, none⟩), .int .i64 kd, .agg r.cs] w fun e w' => ∃ l', e = .returned (.bool (lyB kd r V Pl)) ∧ WPost base b v l' 0 w w' ∧ (lyB kd r V Pl = true → l' = l ++ lyL kd r V Pl) := by
  by_cases h : fullP kd r.st = true
  · rw [lyB, if_pos h, lyL, if_pos h]
    exact layReplyG_any kd r V Pl h hvm hpm hm9 B w hLV hLP base b v l hW hb hB hl
  · rw [lyB, if_neg h, lyL, if_neg h]
    refine (layReplyN_any kd r (by simpa using h) w base b v l hW hb hl).mono ?_
    rintro e w' ⟨rfl, hp⟩
    exact ⟨_, rfl, hp, fun _ => rfl⟩
theorem outN_bytes (L : List Int) : Bytes (outN 1 L) := by
  induction L with
  | nil => exact fun j => by simp [outN]
  | cons x L ih =>
    rw [show outN 1 (x :: L) = numB x 1 ++ outN 1 L from rfl]
    exact Bytes.app (numB_bytes _ _) ih
theorem layG_len (V Pl : List Int) : ∀ (fs : List Fld), (∀ f ∈ fs, IsP f) → ∀ (r : Rep) (x : Rep × List Int), layG V Pl fs r = some x → x.2.length = szF fs ∧ Bytes x.2
  | [], _, r, x, h => by
    simp only [layG, Option.some.injEq] at h
    subst h
    exact ⟨rfl, fun j => by simp⟩
  | f :: fs, hF, r, x, h => by
    rw [layG] at h
    by_cases hok : okG f (exr f r Prt.nil).2 V Pl = true
    · rw [if_pos hok] at h
      cases hq : layG V Pl fs (exr f r Prt.nil).1 with
      | none => rw [hq] at h; simp at h
      | some y =>
        rw [hq] at h
        simp only [Option.map_some, Option.some.injEq] at h
        subst h
        have hf := hF f (by simp)
        obtain ⟨e1, e2⟩ := layG_len V Pl fs (fun g hg => hF g (by simp [hg])) _ y hq
        refine ⟨by simp only [List.length_append, szF, byG_len hf hok, e1], Bytes.app ?_ e2⟩
        unfold byG
        split
        · exact outN_bytes _
        · split
          · exact Bytes.app (Bytes.app (numB_bytes _ _) (outN_bytes _)) (rep0_bytes _)
          · unfold byF
            split
            · exact numB_bytes _ _
            · exact nums_bytes _
    · rw [if_neg hok] at h
      simp at h
theorem lyL_len (kd : Int) (r : Rep) (V Pl : List Int) : (lyL kd r V Pl).length ≤ 1024 ∧ Bytes (lyL kd r V Pl) := by
  unfold lyL
  split
  · unfold lgL
    cases h : layG V Pl (rpF kd) r with
    | none => exact ⟨by simp, fun j => by simp⟩
    | some x =>
      obtain ⟨e1, e2⟩ := layG_len V Pl _ (rpF_all kd) r x h
      have h1 := szF_le (rpF kd) (fun f hf => (rpF_all kd f hf).isF)
      have h2 := rpF_len kd
      exact ⟨by simp only [e1]; omega, e2⟩
  · have h1 := szF_le (rpF kd) (fun f hf => (rpF_all kd f hf).isF)
    have h2 := rpF_len kd
    exact ⟨by rw [List.length_replicate]; omega, rep0_bytes _⟩
/-- a reply's bytes ahead of its check -/
def eyL (kd : Int) (r : Rep) (V Pl : List Int) : List Int := numB r.st 1 ++ lyL kd r V Pl
set_option maxHeartbeats 4000000 in
theorem encodeReply_ok (k : Nat) (hk : k ≤ 12) (r : Rep) (V Pl : List Int) (hvm : V.length = r.vm) (hpm : Pl.length = r.pm) (hm9 : r.vm ≤ 9223372036854775807 ∧ r.pm ≤ 9223372036854775807) (hst : 0 ≤ r.st ∧ r.st ≤ 13) (hB : lyB (k : Int) r V Pl = true) (w : World) (hLV : Lst w w.heap.size r.vp V) (hLP : Lst w w.heap.size r.pp Pl) : Calls Tryz.prog 12 #[.int .i64 (k : Int), .agg r.cs] w fun e w' => e = .returned (.tuple #[.string (strOfNums (eyL (k : Int) r V Pl) ++ strOfNums (le4 (chkN ((k : Int) :: eyL (k : Int) r V Pl)))), .int .i64 0]) ∧ Below w.heap.size w w' := by
  obtain ⟨g, hg⟩ : ∃ g, w.heap.size = g := ⟨_, rfl⟩
  have HL := hide (fun W (hW0 : Below w.heap.size w W) base b v l hW hb hB9 hl => layReplyA_any (k : Int) r V Pl hvm hpm hm9 w.heap.size W (hLV.below hW0) (hLP.below hW0) base b v l hW hb hB9 hl)
  have HKB := hide (fun W => kindByte_any k hk W)
  have HK := hide (isReplyKind_any (k : Int))
  have HS := hide (isStatus_any r.st)
  rw [decide_eq_true (show (0 : Int) ≤ (k : Int) ∧ (k : Int) ≤ 12 by omega)] at HK
  rw [decide_eq_true hst] at HS
  have HFit := hide ((fits1 r.st).2 ⟨hst.1, by omega⟩)
  have HE := hide (show eyL (k : Int) r V Pl = numB r.st 1 ++ lyL (k : Int) r V Pl from rfl)
  have HEL := hide (show (eyL (k : Int) r V Pl).length ≤ 1025 ∧ Bytes (eyL (k : Int) r V Pl) from ⟨by have := (lyL_len (k : Int) r V Pl).1; simp only [eyL, List.length_append, numB_len]; omega, Bytes.app (numB_bytes _ _) (lyL_len (k : Int) r V Pl).2⟩)
  rw [hB] at HL
  obtain ⟨st, hst'⟩ : ∃ q, r.st = q := ⟨_, rfl⟩
  obtain ⟨y, hy⟩ : ∃ Z, w.alloc (.cells r.cs 34) = Z := ⟨_, rfl⟩
  have BY : Blk y g r.cs 34 := by rw [← hy, ← hg]; exact Blk.new w _ _
  have hby : Below g w y := by rw [← hy, ← hg]; exact (Below.refl _ w).alloc (Nat.le_refl _) _
  have hsy : y.heap.size = g + 1 := by rw [← hy, ← hg]; simp
  have c0 : y.cell? ⟨g, 0, none⟩ = some (.int .i64 st) := by rw [BY.cell, ← hst']; rfl
  have HY := hide (And.intro BY (And.intro hby hsy))
  have hrc : r.cs = r.cl.toArray := rfl
  have HSZ := hide (show (Tryz.prog.info? 34).map (·.size) = some r.cl.length from size_rep)
  rw [hrc] at hy HL HY ⊢
  rw [hst'] at HS HFit HE
  have hws : wrap64 st = st := wrap64_eq _ (by omega) (by omega)
  have HK12 := hide hk
  clear hrc hst' hst hB hk BY hby hsy hLV hLP hvm hpm hm9
  generalize lyL (k : Int) r V Pl = RL at *
  generalize eyL (k : Int) r V Pl = EL at *
  generalize r.cl = rl at *
  obtain ⟨SS, hSS⟩ : ∃ Z, strOfNums EL ++ strOfNums (le4 (chkN ((k : Int) :: EL))) = Z := ⟨_, rfl⟩
  rw [hSS]
  have HSS := hide hSS
  clear hSS
  go_enter Tryz.func12, Tryz.ntmps12
  go_wp2_with (first | (go_at_call 34; refine (unhide HK _).mono ?_; rintro e x ⟨rfl, hx⟩; subst x) | (go_at_call 35; refine (unhide HS _).mono ?_; rintro e x ⟨rfl, hx⟩; subst x))
  refine (newWriter_any _).mono ?_
  rintro e x1 ⟨rfl, hW1, hb1, hs1⟩
  obtain ⟨BY, hby, hsy⟩ := unhide HY
  rw [hsy] at hW1 hb1 hs1 ⊢
  have B1 := BY.below hb1 (by omega)
  have hbw1 : Below g w x1 := hby.trans (hb1.mono (by omega))
  have d0 : x1.cell? ⟨g, 0, none⟩ = some (.int .i64 st) := by rw [B1.cell]; rw [← BY.cell]; exact c0
  have hWr := WPost.refl hW1
  have HN := hide (wnumK hWr (by omega) 1 (by decide) (by decide) st (unhide HFit) (by simp) 1 rfl _ rfl)
  have H1 := hide (And.intro B1 (And.intro hbw1 hs1))
  have HW1 := hide hW1
  clear BY hby hsy hW1 hb1 hs1 B1 hbw1 hWr c0 HY hy
  go_wp2_with fail
  refine (unhide HN).mono ?_
  rintro e x2 ⟨rfl, hp2⟩
  obtain ⟨B1, hbw1, hs1⟩ := unhide H1
  have hW1 := unhide HW1
  have B2 := hp2.blk B1 (fp_blk hW1 B1 (by decide) (by omega))
  have HRG := hide (show x2.rangeAt g 0 rl from blk_range B2)
  have hp2' := hp2
  obtain ⟨v1, hq1, hq2, hq3⟩ := hp2
  have HL2 := hide (unhide HL x2 (by rw [hg]; exact hbw1.trans ((hp2'.bel (w := x1) (Below.refl _ _) (by omega)).mono (by omega))) (g + 1) (g + 1) v1 _ hq1 (by have := hq2.size; omega) (by omega) (by rw [List.nil_append, numB_len]; omega))
  have HQ := hide (And.intro hq2 hq3)
  clear B1 hbw1 hs1 hW1 B2 hq1 hq2 hq3 d0
  go_wp2_with (refine wpList_load_mid rfl 34 (.tmp 3) rfl g 0 rfl rl _ (unhide HRG) Tryz.underlying34 rfl (unhide HSZ) ?_)
  refine (unhide HL2).mono ?_
  rintro e x3 ⟨l', rfl, hp3, hl'⟩
  obtain ⟨hq2, hq3⟩ := unhide HQ
  have hp3' := WPost.trans hq2 hq3 hp3
  have hl2 := hl' trivial
  rw [hl2, List.nil_append, ← unhide HE] at hp3'
  clear hl2 hl' hp3 hq2 hq3 HL2 HQ
  have hen := unhide HEL
  have HD := hide (doneK hp3')
  have hsz : (strOfNums EL).size = EL.length := by rw [← nums_len, nums_strOfNums EL hen.2]
  have hkl : strOfNums [(k : Int)] ++ strOfNums EL = strOfNums ((k : Int) :: EL) := by simp [strOfNums, ByteArray.ext_iff]
  have hkb : Bytes ((k : Int) :: EL) := by
    intro j
    have := unhide HK12
    cases j with
    | zero => simp; omega
    | succ j => simpa using hen.2 j
  have hk1 : (strOfNums [(k : Int)]).size = 1 := by
    rw [← nums_len, nums_strOfNums]
    · rfl
    · exact (fun j => by cases j with | zero => exact hkb 0 | succ j => simp)
  have hsz2 : (strOfNums ((k : Int) :: EL)).size = EL.length + 1 := by rw [← nums_len, nums_strOfNums _ hkb]; rfl
  have HC := hide (fun W => checkOf_any (strOfNums ((k : Int) :: EL)) (by omega) W)
  rw [nums_strOfNums _ hkb] at HC
  have h4 : (strOfNums (le4 (chkN ((k : Int) :: EL)))).size = 4 := by rw [← nums_len, nums_strOfNums _ (le4_bytes _ (chkN_lt _))]; rfl
  have hadd : ¬ 9223372036854775807 < (strOfNums [(k : Int)]).size + (strOfNums EL).size := by omega
  have hadd2 : ¬ 9223372036854775807 < (strOfNums EL).size + (strOfNums (le4 (chkN ((k : Int) :: EL)))).size := by omega
  clear hp3' hsz hen hkb hk1 hsz2 h4
  generalize strOfNums (le4 (chkN ((k : Int) :: EL))) = S4 at *
  generalize strOfNums ((k : Int) :: EL) = S3 at *
  generalize strOfNums [(k : Int)] = S1 at *
  generalize strOfNums EL = S at *
  go_wp2_with fail
  refine (unhide HD).mono ?_
  rintro e x4 ⟨rfl, hp4⟩
  have hb4 : Below g w x4 := by
    obtain ⟨B1, hbw1, hs1⟩ := unhide H1
    exact hbw1.trans ((hp4.bel (w := x1) (Below.refl _ _) (by omega)).mono (by omega))
  have HB4 := hide hb4
  clear hp4 hb4 HD
  go_wp2_with fail
  refine (unhide HKB _).mono ?_
  rintro e x5 ⟨rfl, hx5⟩
  have HX5 := hide hx5
  clear hx5
  go_wp2_with (go_at_call 32; refine (unhide HC _).mono ?_; rintro e x6 ⟨rfl, hx6⟩; have HX6 := hide hx6; clear hx6)
  go_ret2
  have hb5 : Below g w x5 := (unhide HB4).trans ((unhide HX5).mono (by rw [← hg]; exact (unhide HB4).size))
  exact ⟨by rw [← unhide HSS]; rfl, by rw [hg]; exact hb5.trans ((unhide HX6).mono (by rw [← hg]; exact hb5.size))⟩
end Go.Proofs.YtclgkgaobjcifaaGreatDoor
