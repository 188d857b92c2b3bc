import Derived.Test.YtclgkgaobjcifaaGreatDoorMy17
namespace Go.Proofs.YtclgkgaobjcifaaGreatDoor
open Go.RowKit
set_option maxRecDepth 100000
theorem vo_own {w' : World} {N b : Nat} {s : ByteArray} {i : Nat} {P9 : Prt} (hib : i + 9 ≤ s.size) (q : vtB s i = true) (h : ∃ p c, P9 = ⟨0, ⟨#[]⟩, p, vtN s i, c⟩ ∧ w'.ownsRow N 3 1 (.slice p (vtN s i) c) (vtN s i) ((tkB s (i + 1) (vtN s i)).map (Value.int .i64)) ∧ At w' b s (i + 9)) : OwnL w' N P9.p P9.m P9.c (tkB s (i + 1) (vtN s i)) := by
  obtain ⟨p, c, rfl, h2, _⟩ := h
  have h8 : vtN s i ≤ 8 := by
    have := q
    unfold vtB at this
    exact of_decide_eq_true ((Bool.and_eq_true _ _).mp this).1
  exact ⟨(show (tkB s (i + 1) (vtN s i)).length = vtN s i from tkB_len (by omega)).symm, h2⟩
set_option maxHeartbeats 8000000 in
theorem takeReplyP (kd st : Int) (hfull : fullP kd st = true) (s : ByteArray) (hs : s.size ≤ 150000000000000) (hsz : 1 + szF (rpF kd) ≤ s.size) (w : World) (b : Nat) (hA : At w b s 1) (hE : ETy w) (N : Nat) (hNw : w.heap.size = N) :
    Calls Tryz.prog 44 #[.pointer (some ⟨b, 0, none⟩), .int .i64 kd, .int .i64 st] w fun e w' => TrP (takeP (rpF kd) PR.bare s 1) st N b w e w' := by
  obtain ⟨B1, B2, hbl, hs2⟩ := two_boxes w #[.int .i64 0, .int .i64 0, .int .i64 0, .slice none 0 0, .int .i64 0, .slice none 0 0, .string ⟨#[]⟩, .string ⟨#[]⟩] #[.int .i64 0, .int .i64 0, .int .i64 0, .slice none 0 0, .int .i64 0, .slice none 0 0, .string ⟨#[]⟩, .string ⟨#[]⟩] 34 34
  obtain ⟨g, hg⟩ : ∃ g, w.heap.size = g := ⟨_, rfl⟩
  obtain ⟨y0, hy0⟩ : ∃ Z, w.alloc (.cells #[.int .i64 0, .int .i64 0, .int .i64 0, .slice none 0 0, .int .i64 0, .slice none 0 0, .string ⟨#[]⟩, .string ⟨#[]⟩] 34) = Z := ⟨_, rfl⟩
  have B0 : Blk y0 g #[.int .i64 0, .int .i64 0, .int .i64 0, .slice none 0 0, .int .i64 0, .slice none 0 0, .string ⟨#[]⟩, .string ⟨#[]⟩] 34 := by rw [← hy0, ← hg]; exact Blk.new w _ _
  have hb0 : Below g w y0 := by rw [← hy0, ← hg]; exact (Below.refl _ w).alloc (Nat.le_refl _) _
  have hs0 : y0.heap.size = g + 1 := by rw [← hy0, World.size_alloc, hg]
  have hbg : b < g := by rw [← hg]; exact hA.lt
  have hne := Rds.ne hA hE
  have HEW := hide (fun W (h : Only (fun j => j = b) w W) => hE.only h (fun q => hne q.symm))
  have hO0 : Only (fun j => j = b) w y0 := Only.of_below (by rw [hg]; exact hb0)
  have HY := hide (And.intro B0 (And.intro (hA.below hb0 hbg) hO0))
  have HF := hide (rpf_any kd)
  have HALL := hide (rpF_all kd)
  have HLEN := hide (rpF_len kd)
  have HB0 := hide (built_rep st)
  have HO1 := hide (Rep.one (Rep.bare st))
  have HFU := hide (isFull_any kd st)
  have HSZ := hide hsz
  have hs9 : szF (rpF kd) ≤ 1000 := by
    unfold rpF
    (repeat' split) <;> decide
  generalize rpF kd = fs at *
  obtain ⟨O, hO⟩ : ∃ Z, takeP fs PR.bare s 1 = Z := ⟨_, rfl⟩
  rw [hO]
  have HTO := hide hO
  have HNW := hide hNw
  clear hO hNw
  clear B1 B2 hbl hs2 hA hE B0 hb0 hO0 hsz hne
  rw [hfull] at HFU
  go_enter Tryz.func44, Tryz.ntmps44
  go_wp2_with fail
  clear hy0
  refine (unhide HF _).mono ?_
  rintro e x ⟨fvv, rfl, hR, hx⟩
  obtain ⟨p, rfl, hp⟩ := hR.form
  obtain ⟨C0, hA0, hO0⟩ := unhide HY
  have hxs : g + 1 ≤ x.heap.size := by have := hx.size; omega
  obtain ⟨h, hh⟩ : ∃ h, x.heap.size = h := ⟨_, rfl⟩
  obtain ⟨xa, hxa⟩ : ∃ Z, x.alloc (.cells #[.int .i64 0, .int .i64 0, .int .i64 0, .slice none 0 0, .int .i64 0, .slice none 0 0, .string ⟨#[]⟩, .string ⟨#[]⟩] 34) = Z := ⟨_, rfl⟩
  obtain ⟨x2, hx2⟩ : ∃ Z, xa.setRow h (Rep.bare st).cs = Z := ⟨_, rfl⟩
  have HBA := hide (show Blk xa h #[.int .i64 0, .int .i64 0, .int .i64 0, .slice none 0 0, .int .i64 0, .slice none 0 0, .string ⟨#[]⟩, .string ⟨#[]⟩] 34 from by rw [← hxa, ← hh]; exact Blk.new _ _ _)
  have hba : Below h x xa := by rw [← hxa, ← hh]; exact (Below.refl _ _).alloc (Nat.le_refl _) _
  have hba' : Below x.heap.size x xa := by rw [hh]; exact hba
  have oR : Only (fun j => j = h) xa x2 := by rw [← hx2]; exact only_setRow (P := fun j => j = h) h _ rfl
  have hfl := hR.lt
  have hyl := hA0.lt
  have HX := hide (show Blk x2 g #[.int .i64 0, .int .i64 0, .int .i64 0, .slice none 0 0, .int .i64 0, .slice none 0 0, .string ⟨#[]⟩, .string ⟨#[]⟩] 34 ∧ Blk x2 h (Rep.bare st).cs 34 ∧ At x2 b s 1 ∧ Only (fun j => j = b) w x2 ∧ FR x2 (.slice p fs.length fs.length) fs from
    ⟨((C0.below hx C0.lt).below hba (by omega)).only oR (by omega), by rw [← hx2]; exact blk_setRow (unhide HBA), ((hA0.below hx hA0.lt).below hba (by omega)).only oR (by omega), ((hO0.trans (Only.of_below (P := fun _ => False) hx) (fun _ _ e => e.elim)).trans (Only.of_below (P := fun _ => False) hba') (fun _ _ e => e.elim)).trans oR (fun k hk q => by omega), (hR.below hba (fun q hq => by have := hfl q hq; omega)).only oR (fun q hq e => by have := hfl q hq; omega)⟩)
  have hgh : g + 1 ≤ h := by omega
  obtain ⟨n, hn⟩ : ∃ n, fs.length = n := ⟨_, rfl⟩
  have HN := hide hn
  rw [hn]
  clear hp hR C0 hA0 hO0 hx hn HY hba hba' oR hfl hyl hs0 hxs
  go_wp2_with (first | refine wpList_buildAs rfl 34 #[(0, .tmp 17)] rfl _ rfl (Rep.bare st).cs (unhide HB0) ?_ | refine wpList_store_row rfl 34 (.tmp 9) (.tmp 18) rfl h (Rep.bare st).cs rfl rfl 34 #[.int .i64 0, .int .i64 0, .int .i64 0, .slice none 0 0, .int .i64 0, .slice none 0 0, .string ⟨#[]⟩, .string ⟨#[]⟩] (unhide HBA) size_rep rfl (unhide HO1) ?_)
  clear hxa hx2 HBA
  refine (unhide HFU _).mono ?_
  rintro e x' ⟨rfl, hx'⟩
  subst x'
  go_wp2_with fail
  go_loopw [34] (fun ix wr => ∃ (k : Nat) (rk : Rep) (i : Nat) (a : PR), k ≤ n ∧ ix = .int .i64 (k : Int) ∧ i + szF (fs.drop k) ≤ s.size ∧ Blk wr g #[.int .i64 0, .int .i64 0, .int .i64 0, .slice none 0 0, .int .i64 0, .slice none 0 0, .string ⟨#[]⟩, .string ⟨#[]⟩] 34 ∧ Blk wr h rk.cs 34 ∧ FR wr (.slice p n n) fs ∧ At wr b s i ∧ Only (fun j => j = b) w wr ∧ takeP (fs.drop k) a s i = O ∧ RM st (h + 1) rk a wr) (fun ix _ => n - (intOf ix).toNat)
  case atStart =>
    obtain ⟨C1, C2, hA1, hO1, hR⟩ := unhide HX
    refine ⟨0, Rep.bare st, 1, PR.bare, Nat.zero_le _, rfl, by rw [List.drop_zero]; exact unhide HSZ, C1, C2, ?_, hA1, hO1, by rw [List.drop_zero]; exact unhide HTO, RM.bare _ _ _⟩
    rw [unhide HN] at hR
    exact hR
  case round =>
    obtain ⟨k, rk, i, a, hk, rfl, hisz, BR, BK, hRk, hAk, hOk, hTk, hMk⟩ := hrel
    by_cases hkn : k < n
    · have hkn' : (k : Int) < (n : Int) := by omega
      have hk0 : (0 : Int) ≤ (k : Int) := by omega
      have hlen := unhide HN
      have hn4 := unhide HLEN
      obtain ⟨q, hq, hqb⟩ := FR.form (show FR wr (.slice p fs.length fs.length) fs by rw [hlen]; exact hRk)
      obtain ⟨fb, hqe, Bf⟩ := hqb (by omega)
      obtain rfl : p = q := by simpa using hq
      subst hqe
      have hf : IsP (fs[k]'(by omega)) := unhide HALL _ (List.getElem_mem _)
      have hc : wr.cell? ⟨fb, k, none⟩ = some (fv (fs[k]'(by omega))) := fr_cell Bf k (by omega)
      rw [szF_drop fs k (by omega)] at hisz
      have hEr := unhide HEW wr hOk
      clear hq hqb hRk
      rw [← List.getElem_cons_drop (show k < fs.length by omega), takeP] at hTk
      generalize fs[k]'(by omega) = f at *
      have HTK := hide hTk
      have HMK := hide hMk
      clear hTk hMk
      have hfv : fv f = .iface f.ty (.agg f.cs) := rfl
      rw [hfv] at hc
      clear hfv
      have hbr := hAk.lt
      have HK := hide (And.intro BR (And.intro BK (And.intro Bf (And.intro hAk (And.intro hOk hEr)))))
      have hwk : IntKind.i64.wrap ((k : Int) + 1) = ((k + 1 : Nat) : Int) := by rw [wrapI_eq _ (by omega) (by omega)]; omega
      have HISZ := hide hisz
      clear BR BK Bf hAk hOk hEr hisz
      rcases hf with rfl | rfl | rfl | rfl | rfl | rfl | rfl
      · obtain ⟨BR, BK, Bf, hAk, hOk, hEr⟩ := unhide HK
        have hib : i + 2 ≤ s.size := by have h := unhide HISZ; have e : (fQuo).b = 2 := rfl; rw [e] at h; omega
        have hC : Calls Tryz.prog 132 #[.agg #[.int .i64 2, .int .i64 0, .int .i64 65535], .pointer (some ⟨b, 0, none⟩)] wr fun e w' => TkP fQuo b s i 2 wr.heap.size wr e w' := (ntake_any 2 0 65535 (by decide) (by decide) wr b s i hAk hEr hs hib _ rfl).mono (fun e w' h9 => ⟨_, _, h9.1, rfl, fun _ => h9.2.1, h9.2.2, fun _ => rfl⟩)
        have HC := hide hC
        have hc' : wr.cell? ⟨fb, k, none⟩ = some (.iface 122 (.agg #[.int .i64 2, .int .i64 0, .int .i64 65535])) := hc
        have HBF0 := hide (And.intro BR (And.intro BK (And.intro Bf hOk)))
        clear hC hib BR BK Bf hAk hOk hEr hc
        as_aux_lemma =>
          go_wp2_with fail
          refine (unhide HC).mono ?_
          rintro e z ⟨p2, B2, rfl, hB2, hAz, hOz, hPz⟩
          obtain ⟨BR, BK, Bf, hOk⟩ := unhide HBF0
          obtain ⟨v, hv⟩ : ∃ v, z.heap.size = v := ⟨_, rfl⟩
          obtain ⟨y1, hy1⟩ : ∃ Z, z.alloc (.cells #[.int .i64 0, .string ⟨#[]⟩, .slice none 0 0] 103) = Z := ⟨_, rfl⟩
          have hzk := hOz.size
          have hgk : h < wr.heap.size := BK.lt
          have hgr : g < wr.heap.size := BR.lt
          have hfk : fb < wr.heap.size := Bf.lt
          have hfb : fb ≠ b := by
            intro e
            subst e
            obtain ⟨_, _, _, hAk, _, _⟩ := unhide HK
            exact absurd (blkT Bf (show Blk wr fb _ _ from hAk)) (by decide)
          have hfg : fb ≠ g ∧ fb ≠ h := by
            constructor
            · intro e
              subst e
              exact absurd (blkT Bf BR) (by decide)
            · intro e
              subst e
              exact absurd (blkT Bf BK) (by decide)
          have HFG := hide hfg
          have hb1 : Below v z y1 := by rw [← hy1, ← hv]; exact (Below.refl _ z).alloc (Nat.le_refl _) _
          have hb1' : Below z.heap.size z y1 := by rw [hv]; exact hb1
          have BZ1 : Blk y1 v #[.int .i64 0, .string ⟨#[]⟩, .slice none 0 0] 103 := by rw [← hy1, ← hv]; exact Blk.new z _ _
          have HZ3 := hide BZ1
          have HO3 := hide (Prt.one p2)
          obtain ⟨y2, hy2⟩ : ∃ Z, y1.setRow v p2.cs = Z := ⟨_, rfl⟩
          have oV : Only (fun j => j = v) y1 y2 := by rw [← hy2]; exact only_setRow (P := fun j => j = v) v _ rfl
          have hd : Blk y2 g #[.int .i64 0, .int .i64 0, .int .i64 0, .slice none 0 0, .int .i64 0, .slice none 0 0, .string ⟨#[]⟩, .string ⟨#[]⟩] 34 ∧ Blk y2 h rk.cs 34 ∧ Blk y2 fb (fs.map fv).toArray 101 ∧ (B2 = true → At y2 b s (i + 2)) ∧ Only (fun j => j = b) w y2 := by
            refine ⟨((BR.only hOz (by omega)).below hb1 (by omega)).only oV (by omega), ((BK.only hOz (by omega)).below hb1 (by omega)).only oV (by omega), ((Bf.only hOz hfb).below hb1 (by omega)).only oV (by omega), fun q => ((hAz q).below hb1 (by omega)).only oV (by omega), ?_⟩
            exact ((hOk.trans hOz (fun _ _ q => q)).trans (Only.of_below (P := fun _ => False) hb1') (fun _ _ q => q.elim)).trans oV (fun j hj q => by have := hOk.size; omega)
          have BP2 : Blk y2 v p2.cs 103 := by rw [← hy2]; exact blk_setRow BZ1
          have HRP := hide (show y2.rangeAt v 0 p2.cl from blk_range BP2)
          have HRG := hide (show y2.rangeAt h 0 rk.cl from blk_range hd.2.1)
          have HD := hide hd
          have HM2 := hide (show B2 = true → RM st (h + 1) (exr fQuo rk p2).1 (upP fQuo a s i) y2 from fun q => ((((unhide HMK).only hOz (fun j hj _ e => by omega)).step (show IsP fQuo by simp [IsP]) (hPz q) (by omega) ((unhide HMK).lts (by omega)))).only (P := fun _ => False) ((Only.of_below (P := fun _ => False) hb1').trans oV (fun j hj q => by omega)) (fun _ _ _ q => q))
          clear BR BK Bf hOk hb1 hb1' BZ1 BP2 hd hAz hOz hPz hfg hfb hzk oV HMK
          cases B2 with
          | true =>
            obtain ⟨r2, hr2⟩ : ∃ Z, (exr fQuo rk p2).1 = Z := ⟨_, rfl⟩
            obtain ⟨q2, hq2⟩ : ∃ Z, (exr fQuo rk p2).2 = Z := ⟨_, rfl⟩
            have hEX := exr_any fQuo (by simp [IsP]) rk p2
            rw [hr2, hq2] at hEX
            have hM3 := unhide HM2 rfl
            rw [hr2] at hM3
            have HM3 := hide hM3
            have HT2 := hide (show takeP (fs.drop (k + 1)) (upP fQuo a s i) s (i + 2) = O by
              have := unhide HTK
              rw [if_pos hB2.symm] at this
              exact this)
            clear hM3 HM2 hB2 HTK
            have HEX := hide hEX
            have HI2 := hide (show i + 2 + szF (fs.drop (k + 1)) ≤ s.size by
              have h := unhide HISZ
              have e : (fQuo).b = 2 := rfl
              rw [e] at h
              omega)
            have HO2 := hide (Rep.one r2)
            clear hEX hr2 hq2 HISZ HC HK
            go_wp2_with (first | refine wpList_store_row rfl 103 (.tmp 13) (.tmp 42) rfl v p2.cs rfl rfl 103 #[.int .i64 0, .string ⟨#[]⟩, .slice none 0 0] (unhide HZ3) size_prt rfl (unhide HO3) ?_ | refine wpList_load_mid rfl 34 (.tmp 9) rfl h 0 rfl rk.cl _ (unhide HRG) Tryz.underlying34 rfl size_rep ?_ | refine wpList_load_mid rfl 103 (.tmp 13) rfl v 0 rfl p2.cl _ (unhide HRP) Tryz.underlying103 rfl size_prt ?_)
            refine (unhide HEX _).mono ?_
            rintro e x3 ⟨rfl, hx3⟩
            obtain ⟨D1, D2, D3, D4, D5⟩ := unhide HD
            have E2 := D2.below hx3 D2.lt
            have HZ4 := hide E2
            have oH : Only (fun j => j = h) x3 (x3.setRow h r2.cs) := only_setRow (P := fun j => j = h) h _ rfl
            have HFIN := hide (show Blk (x3.setRow h r2.cs) g #[.int .i64 0, .int .i64 0, .int .i64 0, .slice none 0 0, .int .i64 0, .slice none 0 0, .string ⟨#[]⟩, .string ⟨#[]⟩] 34 ∧ Blk (x3.setRow h r2.cs) h r2.cs 34 ∧ FR (x3.setRow h r2.cs) (.slice (some ⟨fb, 0, none⟩) n n) fs ∧ At (x3.setRow h r2.cs) b s (i + 2) ∧ Only (fun j => j = b) w (x3.setRow h r2.cs) from
              ⟨(D1.below hx3 D1.lt).only oH (by omega), blk_setRow E2, .inr ⟨fb, by rw [hlen], (D3.below hx3 D3.lt).only oH (by have := unhide HFG; omega)⟩, ((D4 (by trivial)).below hx3 (D4 (by trivial)).lt).only oH (by omega), (D5.trans (Only.of_below (P := fun _ => False) hx3) (fun _ _ q => q.elim)).trans oH (fun j hj q => by omega)⟩)
            have HM4 := hide (((unhide HM3).below hx3 (Nat.le_refl _)).only oH (fun j hj _ e => by omega))
            clear D1 D2 D3 D4 D5 E2 hx3 HD oH HM3
            go_wp2_with (refine wpList_store_row rfl 34 (.tmp 9) (.tmp 52) rfl h r2.cs rfl rfl 34 rk.cs (unhide HZ4) size_rep rfl (unhide HO2) ?_)
            obtain ⟨F1, F2, F3, F4, F5⟩ := unhide HFIN
            exact ⟨⟨k + 1, r2, i + 2, upP fQuo a s i, by omega, rfl, unhide HI2, F1, F2, F3, F4, F5, unhide HT2, unhide HM4⟩, by simp [intOf]; omega⟩
          | false =>
            have HTN := hide (show none = O by
              have := unhide HTK
              rw [if_neg (by rw [← hB2]; decide)] at this
              exact this)
            clear hB2 HTK HM2
            obtain ⟨D1, D2, D3, D4, D5⟩ := unhide HD
            have BT := blk_setRow (cells := (Rep.bare 0).cs) D1
            have HL := hide (iload_blk 34 _ BT Tryz.underlying34 rfl size_rep)
            have HZ5 := hide D1
            have HO5 := hide (Rep.one (Rep.bare 0))
            have HBN := hide built_norep
            have HF2 := hide (show Only (fun j => j = b) w (y2.setRow g (Rep.bare 0).cs) from D5.trans (only_setRow (P := fun j => j = g) g _ rfl) (fun j hj q => by omega))
            clear D1 D2 D3 D4 D5 BT HD HISZ HC HK
            go_wp2_with (first | refine wpList_store_row rfl 103 (.tmp 13) (.tmp 42) rfl v p2.cs rfl rfl 103 #[.int .i64 0, .string ⟨#[]⟩, .slice none 0 0] (unhide HZ3) size_prt rfl (unhide HO3) ?_ | refine wpList_buildAs rfl 34 #[] rfl _ rfl (Rep.bare 0).cs (unhide HBN) ?_ | refine wpList_store_row rfl 34 (.tmp 6) (.tmp 46) rfl g (Rep.bare 0).cs rfl rfl 34 #[.int .i64 0, .int .i64 0, .int .i64 0, .slice none 0 0, .int .i64 0, .slice none 0 0, .string ⟨#[]⟩, .string ⟨#[]⟩] (unhide HZ5) size_rep rfl (unhide HO5) ?_)
            (try simp only [Exit.inBlock, Exit.then])
            refine bodyPost_ret (v := .tuple #[.agg (Rep.bare 0).cs, .bool false]) (results_cell2 (p := 6) (q := 7) (ty := 34) rfl _ _ _ ⟨g, 0, none⟩ rfl _ (unhide HL)) rfl ?_
            exact TrP.no (unhide HTN) (unhide HF2)
      · obtain ⟨BR, BK, Bf, hAk, hOk, hEr⟩ := unhide HK
        have hib : i + 2 ≤ s.size := by have h := unhide HISZ; have e : (fCha).b = 2 := rfl; rw [e] at h; omega
        have hC : Calls Tryz.prog 132 #[.agg #[.int .i64 2, .int .i64 0, .int .i64 65535], .pointer (some ⟨b, 0, none⟩)] wr fun e w' => TkP fCha b s i 2 wr.heap.size wr e w' := (ntake_any 2 0 65535 (by decide) (by decide) wr b s i hAk hEr hs hib _ rfl).mono (fun e w' h9 => ⟨_, _, h9.1, rfl, fun _ => h9.2.1, h9.2.2, fun _ => rfl⟩)
        have HC := hide hC
        have hc' : wr.cell? ⟨fb, k, none⟩ = some (.iface 123 (.agg #[.int .i64 2, .int .i64 0, .int .i64 65535])) := hc
        have HBF0 := hide (And.intro BR (And.intro BK (And.intro Bf hOk)))
        clear hC hib BR BK Bf hAk hOk hEr hc
        as_aux_lemma =>
          go_wp2_with fail
          refine (unhide HC).mono ?_
          rintro e z ⟨p2, B2, rfl, hB2, hAz, hOz, hPz⟩
          obtain ⟨BR, BK, Bf, hOk⟩ := unhide HBF0
          obtain ⟨v, hv⟩ : ∃ v, z.heap.size = v := ⟨_, rfl⟩
          obtain ⟨y1, hy1⟩ : ∃ Z, z.alloc (.cells #[.int .i64 0, .string ⟨#[]⟩, .slice none 0 0] 103) = Z := ⟨_, rfl⟩
          have hzk := hOz.size
          have hgk : h < wr.heap.size := BK.lt
          have hgr : g < wr.heap.size := BR.lt
          have hfk : fb < wr.heap.size := Bf.lt
          have hfb : fb ≠ b := by
            intro e
            subst e
            obtain ⟨_, _, _, hAk, _, _⟩ := unhide HK
            exact absurd (blkT Bf (show Blk wr fb _ _ from hAk)) (by decide)
          have hfg : fb ≠ g ∧ fb ≠ h := by
            constructor
            · intro e
              subst e
              exact absurd (blkT Bf BR) (by decide)
            · intro e
              subst e
              exact absurd (blkT Bf BK) (by decide)
          have HFG := hide hfg
          have hb1 : Below v z y1 := by rw [← hy1, ← hv]; exact (Below.refl _ z).alloc (Nat.le_refl _) _
          have hb1' : Below z.heap.size z y1 := by rw [hv]; exact hb1
          have BZ1 : Blk y1 v #[.int .i64 0, .string ⟨#[]⟩, .slice none 0 0] 103 := by rw [← hy1, ← hv]; exact Blk.new z _ _
          have HZ3 := hide BZ1
          have HO3 := hide (Prt.one p2)
          obtain ⟨y2, hy2⟩ : ∃ Z, y1.setRow v p2.cs = Z := ⟨_, rfl⟩
          have oV : Only (fun j => j = v) y1 y2 := by rw [← hy2]; exact only_setRow (P := fun j => j = v) v _ rfl
          have hd : Blk y2 g #[.int .i64 0, .int .i64 0, .int .i64 0, .slice none 0 0, .int .i64 0, .slice none 0 0, .string ⟨#[]⟩, .string ⟨#[]⟩] 34 ∧ Blk y2 h rk.cs 34 ∧ Blk y2 fb (fs.map fv).toArray 101 ∧ (B2 = true → At y2 b s (i + 2)) ∧ Only (fun j => j = b) w y2 := by
            refine ⟨((BR.only hOz (by omega)).below hb1 (by omega)).only oV (by omega), ((BK.only hOz (by omega)).below hb1 (by omega)).only oV (by omega), ((Bf.only hOz hfb).below hb1 (by omega)).only oV (by omega), fun q => ((hAz q).below hb1 (by omega)).only oV (by omega), ?_⟩
            exact ((hOk.trans hOz (fun _ _ q => q)).trans (Only.of_below (P := fun _ => False) hb1') (fun _ _ q => q.elim)).trans oV (fun j hj q => by have := hOk.size; omega)
          have BP2 : Blk y2 v p2.cs 103 := by rw [← hy2]; exact blk_setRow BZ1
          have HRP := hide (show y2.rangeAt v 0 p2.cl from blk_range BP2)
          have HRG := hide (show y2.rangeAt h 0 rk.cl from blk_range hd.2.1)
          have HD := hide hd
          have HM2 := hide (show B2 = true → RM st (h + 1) (exr fCha rk p2).1 (upP fCha a s i) y2 from fun q => ((((unhide HMK).only hOz (fun j hj _ e => by omega)).step (show IsP fCha by simp [IsP]) (hPz q) (by omega) ((unhide HMK).lts (by omega)))).only (P := fun _ => False) ((Only.of_below (P := fun _ => False) hb1').trans oV (fun j hj q => by omega)) (fun _ _ _ q => q))
          clear BR BK Bf hOk hb1 hb1' BZ1 BP2 hd hAz hOz hPz hfg hfb hzk oV HMK
          cases B2 with
          | true =>
            obtain ⟨r2, hr2⟩ : ∃ Z, (exr fCha rk p2).1 = Z := ⟨_, rfl⟩
            obtain ⟨q2, hq2⟩ : ∃ Z, (exr fCha rk p2).2 = Z := ⟨_, rfl⟩
            have hEX := exr_any fCha (by simp [IsP]) rk p2
            rw [hr2, hq2] at hEX
            have hM3 := unhide HM2 rfl
            rw [hr2] at hM3
            have HM3 := hide hM3
            have HT2 := hide (show takeP (fs.drop (k + 1)) (upP fCha a s i) s (i + 2) = O by
              have := unhide HTK
              rw [if_pos hB2.symm] at this
              exact this)
            clear hM3 HM2 hB2 HTK
            have HEX := hide hEX
            have HI2 := hide (show i + 2 + szF (fs.drop (k + 1)) ≤ s.size by
              have h := unhide HISZ
              have e : (fCha).b = 2 := rfl
              rw [e] at h
              omega)
            have HO2 := hide (Rep.one r2)
            clear hEX hr2 hq2 HISZ HC HK
            go_wp2_with (first | refine wpList_store_row rfl 103 (.tmp 13) (.tmp 42) rfl v p2.cs rfl rfl 103 #[.int .i64 0, .string ⟨#[]⟩, .slice none 0 0] (unhide HZ3) size_prt rfl (unhide HO3) ?_ | refine wpList_load_mid rfl 34 (.tmp 9) rfl h 0 rfl rk.cl _ (unhide HRG) Tryz.underlying34 rfl size_rep ?_ | refine wpList_load_mid rfl 103 (.tmp 13) rfl v 0 rfl p2.cl _ (unhide HRP) Tryz.underlying103 rfl size_prt ?_)
            refine (unhide HEX _).mono ?_
            rintro e x3 ⟨rfl, hx3⟩
            obtain ⟨D1, D2, D3, D4, D5⟩ := unhide HD
            have E2 := D2.below hx3 D2.lt
            have HZ4 := hide E2
            have oH : Only (fun j => j = h) x3 (x3.setRow h r2.cs) := only_setRow (P := fun j => j = h) h _ rfl
            have HFIN := hide (show Blk (x3.setRow h r2.cs) g #[.int .i64 0, .int .i64 0, .int .i64 0, .slice none 0 0, .int .i64 0, .slice none 0 0, .string ⟨#[]⟩, .string ⟨#[]⟩] 34 ∧ Blk (x3.setRow h r2.cs) h r2.cs 34 ∧ FR (x3.setRow h r2.cs) (.slice (some ⟨fb, 0, none⟩) n n) fs ∧ At (x3.setRow h r2.cs) b s (i + 2) ∧ Only (fun j => j = b) w (x3.setRow h r2.cs) from
              ⟨(D1.below hx3 D1.lt).only oH (by omega), blk_setRow E2, .inr ⟨fb, by rw [hlen], (D3.below hx3 D3.lt).only oH (by have := unhide HFG; omega)⟩, ((D4 (by trivial)).below hx3 (D4 (by trivial)).lt).only oH (by omega), (D5.trans (Only.of_below (P := fun _ => False) hx3) (fun _ _ q => q.elim)).trans oH (fun j hj q => by omega)⟩)
            have HM4 := hide (((unhide HM3).below hx3 (Nat.le_refl _)).only oH (fun j hj _ e => by omega))
            clear D1 D2 D3 D4 D5 E2 hx3 HD oH HM3
            go_wp2_with (refine wpList_store_row rfl 34 (.tmp 9) (.tmp 52) rfl h r2.cs rfl rfl 34 rk.cs (unhide HZ4) size_rep rfl (unhide HO2) ?_)
            obtain ⟨F1, F2, F3, F4, F5⟩ := unhide HFIN
            exact ⟨⟨k + 1, r2, i + 2, upP fCha a s i, by omega, rfl, unhide HI2, F1, F2, F3, F4, F5, unhide HT2, unhide HM4⟩, by simp [intOf]; omega⟩
          | false =>
            have HTN := hide (show none = O by
              have := unhide HTK
              rw [if_neg (by rw [← hB2]; decide)] at this
              exact this)
            clear hB2 HTK HM2
            obtain ⟨D1, D2, D3, D4, D5⟩ := unhide HD
            have BT := blk_setRow (cells := (Rep.bare 0).cs) D1
            have HL := hide (iload_blk 34 _ BT Tryz.underlying34 rfl size_rep)
            have HZ5 := hide D1
            have HO5 := hide (Rep.one (Rep.bare 0))
            have HBN := hide built_norep
            have HF2 := hide (show Only (fun j => j = b) w (y2.setRow g (Rep.bare 0).cs) from D5.trans (only_setRow (P := fun j => j = g) g _ rfl) (fun j hj q => by omega))
            clear D1 D2 D3 D4 D5 BT HD HISZ HC HK
            go_wp2_with (first | refine wpList_store_row rfl 103 (.tmp 13) (.tmp 42) rfl v p2.cs rfl rfl 103 #[.int .i64 0, .string ⟨#[]⟩, .slice none 0 0] (unhide HZ3) size_prt rfl (unhide HO3) ?_ | refine wpList_buildAs rfl 34 #[] rfl _ rfl (Rep.bare 0).cs (unhide HBN) ?_ | refine wpList_store_row rfl 34 (.tmp 6) (.tmp 46) rfl g (Rep.bare 0).cs rfl rfl 34 #[.int .i64 0, .int .i64 0, .int .i64 0, .slice none 0 0, .int .i64 0, .slice none 0 0, .string ⟨#[]⟩, .string ⟨#[]⟩] (unhide HZ5) size_rep rfl (unhide HO5) ?_)
            (try simp only [Exit.inBlock, Exit.then])
            refine bodyPost_ret (v := .tuple #[.agg (Rep.bare 0).cs, .bool false]) (results_cell2 (p := 6) (q := 7) (ty := 34) rfl _ _ _ ⟨g, 0, none⟩ rfl _ (unhide HL)) rfl ?_
            exact TrP.no (unhide HTN) (unhide HF2)
      · obtain ⟨BR, BK, Bf, hAk, hOk, hEr⟩ := unhide HK
        have hib : i + 9 ≤ s.size := by have h := unhide HISZ; have e : (fVos).b = 9 := rfl; rw [e] at h; omega
        have hC : Calls Tryz.prog 143 #[.agg #[], .pointer (some ⟨b, 0, none⟩)] wr fun e w' => TkP fVos b s i 9 wr.heap.size wr e w' := (voTake_any wr b s i hAk hEr hs hib).mono (fun e w' h9 => by obtain ⟨P9, q1, q2, q3⟩ := h9; exact ⟨_, _, q1, rfl, fun q => (let ⟨_, _, _, _, q5⟩ := q3 q; q5), q2, fun q => vo_own hib q (q3 q)⟩)
        have HC := hide hC
        have hc' : wr.cell? ⟨fb, k, none⟩ = some (.iface 136 (.agg #[])) := hc
        have HBF0 := hide (And.intro BR (And.intro BK (And.intro Bf hOk)))
        clear hC hib BR BK Bf hAk hOk hEr hc
        as_aux_lemma =>
          go_wp2_with fail
          refine (unhide HC).mono ?_
          rintro e z ⟨p2, B2, rfl, hB2, hAz, hOz, hPz⟩
          obtain ⟨BR, BK, Bf, hOk⟩ := unhide HBF0
          obtain ⟨v, hv⟩ : ∃ v, z.heap.size = v := ⟨_, rfl⟩
          obtain ⟨y1, hy1⟩ : ∃ Z, z.alloc (.cells #[.int .i64 0, .string ⟨#[]⟩, .slice none 0 0] 103) = Z := ⟨_, rfl⟩
          have hzk := hOz.size
          have hgk : h < wr.heap.size := BK.lt
          have hgr : g < wr.heap.size := BR.lt
          have hfk : fb < wr.heap.size := Bf.lt
          have hfb : fb ≠ b := by
            intro e
            subst e
            obtain ⟨_, _, _, hAk, _, _⟩ := unhide HK
            exact absurd (blkT Bf (show Blk wr fb _ _ from hAk)) (by decide)
          have hfg : fb ≠ g ∧ fb ≠ h := by
            constructor
            · intro e
              subst e
              exact absurd (blkT Bf BR) (by decide)
            · intro e
              subst e
              exact absurd (blkT Bf BK) (by decide)
          have HFG := hide hfg
          have hb1 : Below v z y1 := by rw [← hy1, ← hv]; exact (Below.refl _ z).alloc (Nat.le_refl _) _
          have hb1' : Below z.heap.size z y1 := by rw [hv]; exact hb1
          have BZ1 : Blk y1 v #[.int .i64 0, .string ⟨#[]⟩, .slice none 0 0] 103 := by rw [← hy1, ← hv]; exact Blk.new z _ _
          have HZ3 := hide BZ1
          have HO3 := hide (Prt.one p2)
          obtain ⟨y2, hy2⟩ : ∃ Z, y1.setRow v p2.cs = Z := ⟨_, rfl⟩
          have oV : Only (fun j => j = v) y1 y2 := by rw [← hy2]; exact only_setRow (P := fun j => j = v) v _ rfl
          have hd : Blk y2 g #[.int .i64 0, .int .i64 0, .int .i64 0, .slice none 0 0, .int .i64 0, .slice none 0 0, .string ⟨#[]⟩, .string ⟨#[]⟩] 34 ∧ Blk y2 h rk.cs 34 ∧ Blk y2 fb (fs.map fv).toArray 101 ∧ (B2 = true → At y2 b s (i + 9)) ∧ Only (fun j => j = b) w y2 := by
            refine ⟨((BR.only hOz (by omega)).below hb1 (by omega)).only oV (by omega), ((BK.only hOz (by omega)).below hb1 (by omega)).only oV (by omega), ((Bf.only hOz hfb).below hb1 (by omega)).only oV (by omega), fun q => ((hAz q).below hb1 (by omega)).only oV (by omega), ?_⟩
            exact ((hOk.trans hOz (fun _ _ q => q)).trans (Only.of_below (P := fun _ => False) hb1') (fun _ _ q => q.elim)).trans oV (fun j hj q => by have := hOk.size; omega)
          have BP2 : Blk y2 v p2.cs 103 := by rw [← hy2]; exact blk_setRow BZ1
          have HRP := hide (show y2.rangeAt v 0 p2.cl from blk_range BP2)
          have HRG := hide (show y2.rangeAt h 0 rk.cl from blk_range hd.2.1)
          have HD := hide hd
          have HM2 := hide (show B2 = true → RM st (h + 1) (exr fVos rk p2).1 (upP fVos a s i) y2 from fun q => ((((unhide HMK).only hOz (fun j hj _ e => by omega)).step (show IsP fVos by simp [IsP]) (hPz q) (by omega) ((unhide HMK).lts (by omega)))).only (P := fun _ => False) ((Only.of_below (P := fun _ => False) hb1').trans oV (fun j hj q => by omega)) (fun _ _ _ q => q))
          clear BR BK Bf hOk hb1 hb1' BZ1 BP2 hd hAz hOz hPz hfg hfb hzk oV HMK
          cases B2 with
          | true =>
            obtain ⟨r2, hr2⟩ : ∃ Z, (exr fVos rk p2).1 = Z := ⟨_, rfl⟩
            obtain ⟨q2, hq2⟩ : ∃ Z, (exr fVos rk p2).2 = Z := ⟨_, rfl⟩
            have hEX := exr_any fVos (by simp [IsP]) rk p2
            rw [hr2, hq2] at hEX
            have hM3 := unhide HM2 rfl
            rw [hr2] at hM3
            have HM3 := hide hM3
            have HT2 := hide (show takeP (fs.drop (k + 1)) (upP fVos a s i) s (i + 9) = O by
              have := unhide HTK
              rw [if_pos hB2.symm] at this
              exact this)
            clear hM3 HM2 hB2 HTK
            have HEX := hide hEX
            have HI2 := hide (show i + 9 + szF (fs.drop (k + 1)) ≤ s.size by
              have h := unhide HISZ
              have e : (fVos).b = 9 := rfl
              rw [e] at h
              omega)
            have HO2 := hide (Rep.one r2)
            clear hEX hr2 hq2 HISZ HC HK
            go_wp2_with (first | refine wpList_store_row rfl 103 (.tmp 13) (.tmp 42) rfl v p2.cs rfl rfl 103 #[.int .i64 0, .string ⟨#[]⟩, .slice none 0 0] (unhide HZ3) size_prt rfl (unhide HO3) ?_ | refine wpList_load_mid rfl 34 (.tmp 9) rfl h 0 rfl rk.cl _ (unhide HRG) Tryz.underlying34 rfl size_rep ?_ | refine wpList_load_mid rfl 103 (.tmp 13) rfl v 0 rfl p2.cl _ (unhide HRP) Tryz.underlying103 rfl size_prt ?_)
            refine (unhide HEX _).mono ?_
            rintro e x3 ⟨rfl, hx3⟩
            obtain ⟨D1, D2, D3, D4, D5⟩ := unhide HD
            have E2 := D2.below hx3 D2.lt
            have HZ4 := hide E2
            have oH : Only (fun j => j = h) x3 (x3.setRow h r2.cs) := only_setRow (P := fun j => j = h) h _ rfl
            have HFIN := hide (show Blk (x3.setRow h r2.cs) g #[.int .i64 0, .int .i64 0, .int .i64 0, .slice none 0 0, .int .i64 0, .slice none 0 0, .string ⟨#[]⟩, .string ⟨#[]⟩] 34 ∧ Blk (x3.setRow h r2.cs) h r2.cs 34 ∧ FR (x3.setRow h r2.cs) (.slice (some ⟨fb, 0, none⟩) n n) fs ∧ At (x3.setRow h r2.cs) b s (i + 9) ∧ Only (fun j => j = b) w (x3.setRow h r2.cs) from
              ⟨(D1.below hx3 D1.lt).only oH (by omega), blk_setRow E2, .inr ⟨fb, by rw [hlen], (D3.below hx3 D3.lt).only oH (by have := unhide HFG; omega)⟩, ((D4 (by trivial)).below hx3 (D4 (by trivial)).lt).only oH (by omega), (D5.trans (Only.of_below (P := fun _ => False) hx3) (fun _ _ q => q.elim)).trans oH (fun j hj q => by omega)⟩)
            have HM4 := hide (((unhide HM3).below hx3 (Nat.le_refl _)).only oH (fun j hj _ e => by omega))
            clear D1 D2 D3 D4 D5 E2 hx3 HD oH HM3
            go_wp2_with (refine wpList_store_row rfl 34 (.tmp 9) (.tmp 52) rfl h r2.cs rfl rfl 34 rk.cs (unhide HZ4) size_rep rfl (unhide HO2) ?_)
            obtain ⟨F1, F2, F3, F4, F5⟩ := unhide HFIN
            exact ⟨⟨k + 1, r2, i + 9, upP fVos a s i, by omega, rfl, unhide HI2, F1, F2, F3, F4, F5, unhide HT2, unhide HM4⟩, by simp [intOf]; omega⟩
          | false =>
            have HTN := hide (show none = O by
              have := unhide HTK
              rw [if_neg (by rw [← hB2]; decide)] at this
              exact this)
            clear hB2 HTK HM2
            obtain ⟨D1, D2, D3, D4, D5⟩ := unhide HD
            have BT := blk_setRow (cells := (Rep.bare 0).cs) D1
            have HL := hide (iload_blk 34 _ BT Tryz.underlying34 rfl size_rep)
            have HZ5 := hide D1
            have HO5 := hide (Rep.one (Rep.bare 0))
            have HBN := hide built_norep
            have HF2 := hide (show Only (fun j => j = b) w (y2.setRow g (Rep.bare 0).cs) from D5.trans (only_setRow (P := fun j => j = g) g _ rfl) (fun j hj q => by omega))
            clear D1 D2 D3 D4 D5 BT HD HISZ HC HK
            go_wp2_with (first | refine wpList_store_row rfl 103 (.tmp 13) (.tmp 42) rfl v p2.cs rfl rfl 103 #[.int .i64 0, .string ⟨#[]⟩, .slice none 0 0] (unhide HZ3) size_prt rfl (unhide HO3) ?_ | refine wpList_buildAs rfl 34 #[] rfl _ rfl (Rep.bare 0).cs (unhide HBN) ?_ | refine wpList_store_row rfl 34 (.tmp 6) (.tmp 46) rfl g (Rep.bare 0).cs rfl rfl 34 #[.int .i64 0, .int .i64 0, .int .i64 0, .slice none 0 0, .int .i64 0, .slice none 0 0, .string ⟨#[]⟩, .string ⟨#[]⟩] (unhide HZ5) size_rep rfl (unhide HO5) ?_)
            (try simp only [Exit.inBlock, Exit.then])
            refine bodyPost_ret (v := .tuple #[.agg (Rep.bare 0).cs, .bool false]) (results_cell2 (p := 6) (q := 7) (ty := 34) rfl _ _ _ ⟨g, 0, none⟩ rfl _ (unhide HL)) rfl ?_
            exact TrP.no (unhide HTN) (unhide HF2)
      · obtain ⟨BR, BK, Bf, hAk, hOk, hEr⟩ := unhide HK
        have hib : i + 4 ≤ s.size := by have h := unhide HISZ; have e : (fNon).b = 4 := rfl; rw [e] at h; omega
        have hC : Calls Tryz.prog 132 #[.agg #[.int .i64 4, .int .i64 0, .int .i64 4294967295], .pointer (some ⟨b, 0, none⟩)] wr fun e w' => TkP fNon b s i 4 wr.heap.size wr e w' := (ntake_any 4 0 4294967295 (by decide) (by decide) wr b s i hAk hEr hs hib _ rfl).mono (fun e w' h9 => ⟨_, _, h9.1, rfl, fun _ => h9.2.1, h9.2.2, fun _ => rfl⟩)
        have HC := hide hC
        have hc' : wr.cell? ⟨fb, k, none⟩ = some (.iface 126 (.agg #[.int .i64 4, .int .i64 0, .int .i64 4294967295])) := hc
        have HBF0 := hide (And.intro BR (And.intro BK (And.intro Bf hOk)))
        clear hC hib BR BK Bf hAk hOk hEr hc
        as_aux_lemma =>
          go_wp2_with fail
          refine (unhide HC).mono ?_
          rintro e z ⟨p2, B2, rfl, hB2, hAz, hOz, hPz⟩
          obtain ⟨BR, BK, Bf, hOk⟩ := unhide HBF0
          obtain ⟨v, hv⟩ : ∃ v, z.heap.size = v := ⟨_, rfl⟩
          obtain ⟨y1, hy1⟩ : ∃ Z, z.alloc (.cells #[.int .i64 0, .string ⟨#[]⟩, .slice none 0 0] 103) = Z := ⟨_, rfl⟩
          have hzk := hOz.size
          have hgk : h < wr.heap.size := BK.lt
          have hgr : g < wr.heap.size := BR.lt
          have hfk : fb < wr.heap.size := Bf.lt
          have hfb : fb ≠ b := by
            intro e
            subst e
            obtain ⟨_, _, _, hAk, _, _⟩ := unhide HK
            exact absurd (blkT Bf (show Blk wr fb _ _ from hAk)) (by decide)
          have hfg : fb ≠ g ∧ fb ≠ h := by
            constructor
            · intro e
              subst e
              exact absurd (blkT Bf BR) (by decide)
            · intro e
              subst e
              exact absurd (blkT Bf BK) (by decide)
          have HFG := hide hfg
          have hb1 : Below v z y1 := by rw [← hy1, ← hv]; exact (Below.refl _ z).alloc (Nat.le_refl _) _
          have hb1' : Below z.heap.size z y1 := by rw [hv]; exact hb1
          have BZ1 : Blk y1 v #[.int .i64 0, .string ⟨#[]⟩, .slice none 0 0] 103 := by rw [← hy1, ← hv]; exact Blk.new z _ _
          have HZ3 := hide BZ1
          have HO3 := hide (Prt.one p2)
          obtain ⟨y2, hy2⟩ : ∃ Z, y1.setRow v p2.cs = Z := ⟨_, rfl⟩
          have oV : Only (fun j => j = v) y1 y2 := by rw [← hy2]; exact only_setRow (P := fun j => j = v) v _ rfl
          have hd : Blk y2 g #[.int .i64 0, .int .i64 0, .int .i64 0, .slice none 0 0, .int .i64 0, .slice none 0 0, .string ⟨#[]⟩, .string ⟨#[]⟩] 34 ∧ Blk y2 h rk.cs 34 ∧ Blk y2 fb (fs.map fv).toArray 101 ∧ (B2 = true → At y2 b s (i + 4)) ∧ Only (fun j => j = b) w y2 := by
            refine ⟨((BR.only hOz (by omega)).below hb1 (by omega)).only oV (by omega), ((BK.only hOz (by omega)).below hb1 (by omega)).only oV (by omega), ((Bf.only hOz hfb).below hb1 (by omega)).only oV (by omega), fun q => ((hAz q).below hb1 (by omega)).only oV (by omega), ?_⟩
            exact ((hOk.trans hOz (fun _ _ q => q)).trans (Only.of_below (P := fun _ => False) hb1') (fun _ _ q => q.elim)).trans oV (fun j hj q => by have := hOk.size; omega)
          have BP2 : Blk y2 v p2.cs 103 := by rw [← hy2]; exact blk_setRow BZ1
          have HRP := hide (show y2.rangeAt v 0 p2.cl from blk_range BP2)
          have HRG := hide (show y2.rangeAt h 0 rk.cl from blk_range hd.2.1)
          have HD := hide hd
          have HM2 := hide (show B2 = true → RM st (h + 1) (exr fNon rk p2).1 (upP fNon a s i) y2 from fun q => ((((unhide HMK).only hOz (fun j hj _ e => by omega)).step (show IsP fNon by simp [IsP]) (hPz q) (by omega) ((unhide HMK).lts (by omega)))).only (P := fun _ => False) ((Only.of_below (P := fun _ => False) hb1').trans oV (fun j hj q => by omega)) (fun _ _ _ q => q))
          clear BR BK Bf hOk hb1 hb1' BZ1 BP2 hd hAz hOz hPz hfg hfb hzk oV HMK
          cases B2 with
          | true =>
            obtain ⟨r2, hr2⟩ : ∃ Z, (exr fNon rk p2).1 = Z := ⟨_, rfl⟩
            obtain ⟨q2, hq2⟩ : ∃ Z, (exr fNon rk p2).2 = Z := ⟨_, rfl⟩
            have hEX := exr_any fNon (by simp [IsP]) rk p2
            rw [hr2, hq2] at hEX
            have hM3 := unhide HM2 rfl
            rw [hr2] at hM3
            have HM3 := hide hM3
            have HT2 := hide (show takeP (fs.drop (k + 1)) (upP fNon a s i) s (i + 4) = O by
              have := unhide HTK
              rw [if_pos hB2.symm] at this
              exact this)
            clear hM3 HM2 hB2 HTK
            have HEX := hide hEX
            have HI2 := hide (show i + 4 + szF (fs.drop (k + 1)) ≤ s.size by
              have h := unhide HISZ
              have e : (fNon).b = 4 := rfl
              rw [e] at h
              omega)
            have HO2 := hide (Rep.one r2)
            clear hEX hr2 hq2 HISZ HC HK
            go_wp2_with (first | refine wpList_store_row rfl 103 (.tmp 13) (.tmp 42) rfl v p2.cs rfl rfl 103 #[.int .i64 0, .string ⟨#[]⟩, .slice none 0 0] (unhide HZ3) size_prt rfl (unhide HO3) ?_ | refine wpList_load_mid rfl 34 (.tmp 9) rfl h 0 rfl rk.cl _ (unhide HRG) Tryz.underlying34 rfl size_rep ?_ | refine wpList_load_mid rfl 103 (.tmp 13) rfl v 0 rfl p2.cl _ (unhide HRP) Tryz.underlying103 rfl size_prt ?_)
            refine (unhide HEX _).mono ?_
            rintro e x3 ⟨rfl, hx3⟩
            obtain ⟨D1, D2, D3, D4, D5⟩ := unhide HD
            have E2 := D2.below hx3 D2.lt
            have HZ4 := hide E2
            have oH : Only (fun j => j = h) x3 (x3.setRow h r2.cs) := only_setRow (P := fun j => j = h) h _ rfl
            have HFIN := hide (show Blk (x3.setRow h r2.cs) g #[.int .i64 0, .int .i64 0, .int .i64 0, .slice none 0 0, .int .i64 0, .slice none 0 0, .string ⟨#[]⟩, .string ⟨#[]⟩] 34 ∧ Blk (x3.setRow h r2.cs) h r2.cs 34 ∧ FR (x3.setRow h r2.cs) (.slice (some ⟨fb, 0, none⟩) n n) fs ∧ At (x3.setRow h r2.cs) b s (i + 4) ∧ Only (fun j => j = b) w (x3.setRow h r2.cs) from
              ⟨(D1.below hx3 D1.lt).only oH (by omega), blk_setRow E2, .inr ⟨fb, by rw [hlen], (D3.below hx3 D3.lt).only oH (by have := unhide HFG; omega)⟩, ((D4 (by trivial)).below hx3 (D4 (by trivial)).lt).only oH (by omega), (D5.trans (Only.of_below (P := fun _ => False) hx3) (fun _ _ q => q.elim)).trans oH (fun j hj q => by omega)⟩)
            have HM4 := hide (((unhide HM3).below hx3 (Nat.le_refl _)).only oH (fun j hj _ e => by omega))
            clear D1 D2 D3 D4 D5 E2 hx3 HD oH HM3
            go_wp2_with (refine wpList_store_row rfl 34 (.tmp 9) (.tmp 52) rfl h r2.cs rfl rfl 34 rk.cs (unhide HZ4) size_rep rfl (unhide HO2) ?_)
            obtain ⟨F1, F2, F3, F4, F5⟩ := unhide HFIN
            exact ⟨⟨k + 1, r2, i + 4, upP fNon a s i, by omega, rfl, unhide HI2, F1, F2, F3, F4, F5, unhide HT2, unhide HM4⟩, by simp [intOf]; omega⟩
          | false =>
            have HTN := hide (show none = O by
              have := unhide HTK
              rw [if_neg (by rw [← hB2]; decide)] at this
              exact this)
            clear hB2 HTK HM2
            obtain ⟨D1, D2, D3, D4, D5⟩ := unhide HD
            have BT := blk_setRow (cells := (Rep.bare 0).cs) D1
            have HL := hide (iload_blk 34 _ BT Tryz.underlying34 rfl size_rep)
            have HZ5 := hide D1
            have HO5 := hide (Rep.one (Rep.bare 0))
            have HBN := hide built_norep
            have HF2 := hide (show Only (fun j => j = b) w (y2.setRow g (Rep.bare 0).cs) from D5.trans (only_setRow (P := fun j => j = g) g _ rfl) (fun j hj q => by omega))
            clear D1 D2 D3 D4 D5 BT HD HISZ HC HK
            go_wp2_with (first | refine wpList_store_row rfl 103 (.tmp 13) (.tmp 42) rfl v p2.cs rfl rfl 103 #[.int .i64 0, .string ⟨#[]⟩, .slice none 0 0] (unhide HZ3) size_prt rfl (unhide HO3) ?_ | refine wpList_buildAs rfl 34 #[] rfl _ rfl (Rep.bare 0).cs (unhide HBN) ?_ | refine wpList_store_row rfl 34 (.tmp 6) (.tmp 46) rfl g (Rep.bare 0).cs rfl rfl 34 #[.int .i64 0, .int .i64 0, .int .i64 0, .slice none 0 0, .int .i64 0, .slice none 0 0, .string ⟨#[]⟩, .string ⟨#[]⟩] (unhide HZ5) size_rep rfl (unhide HO5) ?_)
            (try simp only [Exit.inBlock, Exit.then])
            refine bodyPost_ret (v := .tuple #[.agg (Rep.bare 0).cs, .bool false]) (results_cell2 (p := 6) (q := 7) (ty := 34) rfl _ _ _ ⟨g, 0, none⟩ rfl _ (unhide HL)) rfl ?_
            exact TrP.no (unhide HTN) (unhide HF2)
      · obtain ⟨BR, BK, Bf, hAk, hOk, hEr⟩ := unhide HK
        have hib : i + 8 ≤ s.size := by have h := unhide HISZ; have e : (fPla).b = 8 := rfl; rw [e] at h; omega
        have hC : Calls Tryz.prog 139 #[.agg #[], .pointer (some ⟨b, 0, none⟩)] wr fun e w' => TkP fPla b s i 8 wr.heap.size wr e w' := (plTake_any wr b s i hAk hEr hs hib).mono (fun e w' h9 => by obtain ⟨p9, c9, q1, q2, q3, q4⟩ := h9; exact ⟨_, _, q1, rfl, fun _ => q3, q4, fun _ => (show OwnL _ _ p9 8 c9 (tkB s i 8) from ⟨(tkB_len hib).symm, q2⟩)⟩)
        have HC := hide hC
        have hc' : wr.cell? ⟨fb, k, none⟩ = some (.iface 135 (.agg #[])) := hc
        have HBF0 := hide (And.intro BR (And.intro BK (And.intro Bf hOk)))
        clear hC hib BR BK Bf hAk hOk hEr hc
        as_aux_lemma =>
          go_wp2_with fail
          refine (unhide HC).mono ?_
          rintro e z ⟨p2, B2, rfl, hB2, hAz, hOz, hPz⟩
          obtain ⟨BR, BK, Bf, hOk⟩ := unhide HBF0
          obtain ⟨v, hv⟩ : ∃ v, z.heap.size = v := ⟨_, rfl⟩
          obtain ⟨y1, hy1⟩ : ∃ Z, z.alloc (.cells #[.int .i64 0, .string ⟨#[]⟩, .slice none 0 0] 103) = Z := ⟨_, rfl⟩
          have hzk := hOz.size
          have hgk : h < wr.heap.size := BK.lt
          have hgr : g < wr.heap.size := BR.lt
          have hfk : fb < wr.heap.size := Bf.lt
          have hfb : fb ≠ b := by
            intro e
            subst e
            obtain ⟨_, _, _, hAk, _, _⟩ := unhide HK
            exact absurd (blkT Bf (show Blk wr fb _ _ from hAk)) (by decide)
          have hfg : fb ≠ g ∧ fb ≠ h := by
            constructor
            · intro e
              subst e
              exact absurd (blkT Bf BR) (by decide)
            · intro e
              subst e
              exact absurd (blkT Bf BK) (by decide)
          have HFG := hide hfg
          have hb1 : Below v z y1 := by rw [← hy1, ← hv]; exact (Below.refl _ z).alloc (Nat.le_refl _) _
          have hb1' : Below z.heap.size z y1 := by rw [hv]; exact hb1
          have BZ1 : Blk y1 v #[.int .i64 0, .string ⟨#[]⟩, .slice none 0 0] 103 := by rw [← hy1, ← hv]; exact Blk.new z _ _
          have HZ3 := hide BZ1
          have HO3 := hide (Prt.one p2)
          obtain ⟨y2, hy2⟩ : ∃ Z, y1.setRow v p2.cs = Z := ⟨_, rfl⟩
          have oV : Only (fun j => j = v) y1 y2 := by rw [← hy2]; exact only_setRow (P := fun j => j = v) v _ rfl
          have hd : Blk y2 g #[.int .i64 0, .int .i64 0, .int .i64 0, .slice none 0 0, .int .i64 0, .slice none 0 0, .string ⟨#[]⟩, .string ⟨#[]⟩] 34 ∧ Blk y2 h rk.cs 34 ∧ Blk y2 fb (fs.map fv).toArray 101 ∧ (B2 = true → At y2 b s (i + 8)) ∧ Only (fun j => j = b) w y2 := by
            refine ⟨((BR.only hOz (by omega)).below hb1 (by omega)).only oV (by omega), ((BK.only hOz (by omega)).below hb1 (by omega)).only oV (by omega), ((Bf.only hOz hfb).below hb1 (by omega)).only oV (by omega), fun q => ((hAz q).below hb1 (by omega)).only oV (by omega), ?_⟩
            exact ((hOk.trans hOz (fun _ _ q => q)).trans (Only.of_below (P := fun _ => False) hb1') (fun _ _ q => q.elim)).trans oV (fun j hj q => by have := hOk.size; omega)
          have BP2 : Blk y2 v p2.cs 103 := by rw [← hy2]; exact blk_setRow BZ1
          have HRP := hide (show y2.rangeAt v 0 p2.cl from blk_range BP2)
          have HRG := hide (show y2.rangeAt h 0 rk.cl from blk_range hd.2.1)
          have HD := hide hd
          have HM2 := hide (show B2 = true → RM st (h + 1) (exr fPla rk p2).1 (upP fPla a s i) y2 from fun q => ((((unhide HMK).only hOz (fun j hj _ e => by omega)).step (show IsP fPla by simp [IsP]) (hPz q) (by omega) ((unhide HMK).lts (by omega)))).only (P := fun _ => False) ((Only.of_below (P := fun _ => False) hb1').trans oV (fun j hj q => by omega)) (fun _ _ _ q => q))
          clear BR BK Bf hOk hb1 hb1' BZ1 BP2 hd hAz hOz hPz hfg hfb hzk oV HMK
          cases B2 with
          | true =>
            obtain ⟨r2, hr2⟩ : ∃ Z, (exr fPla rk p2).1 = Z := ⟨_, rfl⟩
            obtain ⟨q2, hq2⟩ : ∃ Z, (exr fPla rk p2).2 = Z := ⟨_, rfl⟩
            have hEX := exr_any fPla (by simp [IsP]) rk p2
            rw [hr2, hq2] at hEX
            have hM3 := unhide HM2 rfl
            rw [hr2] at hM3
            have HM3 := hide hM3
            have HT2 := hide (show takeP (fs.drop (k + 1)) (upP fPla a s i) s (i + 8) = O by
              have := unhide HTK
              rw [if_pos hB2.symm] at this
              exact this)
            clear hM3 HM2 hB2 HTK
            have HEX := hide hEX
            have HI2 := hide (show i + 8 + szF (fs.drop (k + 1)) ≤ s.size by
              have h := unhide HISZ
              have e : (fPla).b = 8 := rfl
              rw [e] at h
              omega)
            have HO2 := hide (Rep.one r2)
            clear hEX hr2 hq2 HISZ HC HK
            go_wp2_with (first | refine wpList_store_row rfl 103 (.tmp 13) (.tmp 42) rfl v p2.cs rfl rfl 103 #[.int .i64 0, .string ⟨#[]⟩, .slice none 0 0] (unhide HZ3) size_prt rfl (unhide HO3) ?_ | refine wpList_load_mid rfl 34 (.tmp 9) rfl h 0 rfl rk.cl _ (unhide HRG) Tryz.underlying34 rfl size_rep ?_ | refine wpList_load_mid rfl 103 (.tmp 13) rfl v 0 rfl p2.cl _ (unhide HRP) Tryz.underlying103 rfl size_prt ?_)
            refine (unhide HEX _).mono ?_
            rintro e x3 ⟨rfl, hx3⟩
            obtain ⟨D1, D2, D3, D4, D5⟩ := unhide HD
            have E2 := D2.below hx3 D2.lt
            have HZ4 := hide E2
            have oH : Only (fun j => j = h) x3 (x3.setRow h r2.cs) := only_setRow (P := fun j => j = h) h _ rfl
            have HFIN := hide (show Blk (x3.setRow h r2.cs) g #[.int .i64 0, .int .i64 0, .int .i64 0, .slice none 0 0, .int .i64 0, .slice none 0 0, .string ⟨#[]⟩, .string ⟨#[]⟩] 34 ∧ Blk (x3.setRow h r2.cs) h r2.cs 34 ∧ FR (x3.setRow h r2.cs) (.slice (some ⟨fb, 0, none⟩) n n) fs ∧ At (x3.setRow h r2.cs) b s (i + 8) ∧ Only (fun j => j = b) w (x3.setRow h r2.cs) from
              ⟨(D1.below hx3 D1.lt).only oH (by omega), blk_setRow E2, .inr ⟨fb, by rw [hlen], (D3.below hx3 D3.lt).only oH (by have := unhide HFG; omega)⟩, ((D4 (by trivial)).below hx3 (D4 (by trivial)).lt).only oH (by omega), (D5.trans (Only.of_below (P := fun _ => False) hx3) (fun _ _ q => q.elim)).trans oH (fun j hj q => by omega)⟩)
            have HM4 := hide (((unhide HM3).below hx3 (Nat.le_refl _)).only oH (fun j hj _ e => by omega))
            clear D1 D2 D3 D4 D5 E2 hx3 HD oH HM3
            go_wp2_with (refine wpList_store_row rfl 34 (.tmp 9) (.tmp 52) rfl h r2.cs rfl rfl 34 rk.cs (unhide HZ4) size_rep rfl (unhide HO2) ?_)
            obtain ⟨F1, F2, F3, F4, F5⟩ := unhide HFIN
            exact ⟨⟨k + 1, r2, i + 8, upP fPla a s i, by omega, rfl, unhide HI2, F1, F2, F3, F4, F5, unhide HT2, unhide HM4⟩, by simp [intOf]; omega⟩
          | false =>
            have HTN := hide (show none = O by
              have := unhide HTK
              rw [if_neg (by rw [← hB2]; decide)] at this
              exact this)
            clear hB2 HTK HM2
            obtain ⟨D1, D2, D3, D4, D5⟩ := unhide HD
            have BT := blk_setRow (cells := (Rep.bare 0).cs) D1
            have HL := hide (iload_blk 34 _ BT Tryz.underlying34 rfl size_rep)
            have HZ5 := hide D1
            have HO5 := hide (Rep.one (Rep.bare 0))
            have HBN := hide built_norep
            have HF2 := hide (show Only (fun j => j = b) w (y2.setRow g (Rep.bare 0).cs) from D5.trans (only_setRow (P := fun j => j = g) g _ rfl) (fun j hj q => by omega))
            clear D1 D2 D3 D4 D5 BT HD HISZ HC HK
            go_wp2_with (first | refine wpList_store_row rfl 103 (.tmp 13) (.tmp 42) rfl v p2.cs rfl rfl 103 #[.int .i64 0, .string ⟨#[]⟩, .slice none 0 0] (unhide HZ3) size_prt rfl (unhide HO3) ?_ | refine wpList_buildAs rfl 34 #[] rfl _ rfl (Rep.bare 0).cs (unhide HBN) ?_ | refine wpList_store_row rfl 34 (.tmp 6) (.tmp 46) rfl g (Rep.bare 0).cs rfl rfl 34 #[.int .i64 0, .int .i64 0, .int .i64 0, .slice none 0 0, .int .i64 0, .slice none 0 0, .string ⟨#[]⟩, .string ⟨#[]⟩] (unhide HZ5) size_rep rfl (unhide HO5) ?_)
            (try simp only [Exit.inBlock, Exit.then])
            refine bodyPost_ret (v := .tuple #[.agg (Rep.bare 0).cs, .bool false]) (results_cell2 (p := 6) (q := 7) (ty := 34) rfl _ _ _ ⟨g, 0, none⟩ rfl _ (unhide HL)) rfl ?_
            exact TrP.no (unhide HTN) (unhide HF2)
      · obtain ⟨BR, BK, Bf, hAk, hOk, hEr⟩ := unhide HK
        have hib : i + 48 ≤ s.size := by have h := unhide HISZ; have e : (fWra).b = 48 := rfl; rw [e] at h; omega
        have hC : Calls Tryz.prog 136 #[.agg #[.int .i64 48], .pointer (some ⟨b, 0, none⟩)] wr fun e w' => TkP fWra b s i 48 wr.heap.size wr e w' := (ttake_any 48 wr b s i hAk hEr hs hib).mono (fun e w' h9 => ⟨_, _, h9.1, rfl, fun _ => h9.2.1, h9.2.2, fun _ => rfl⟩)
        have HC := hide hC
        have hc' : wr.cell? ⟨fb, k, none⟩ = some (.iface 131 (.agg #[.int .i64 48])) := hc
        have HBF0 := hide (And.intro BR (And.intro BK (And.intro Bf hOk)))
        clear hC hib BR BK Bf hAk hOk hEr hc
        as_aux_lemma =>
          go_wp2_with fail
          refine (unhide HC).mono ?_
          rintro e z ⟨p2, B2, rfl, hB2, hAz, hOz, hPz⟩
          obtain ⟨BR, BK, Bf, hOk⟩ := unhide HBF0
          obtain ⟨v, hv⟩ : ∃ v, z.heap.size = v := ⟨_, rfl⟩
          obtain ⟨y1, hy1⟩ : ∃ Z, z.alloc (.cells #[.int .i64 0, .string ⟨#[]⟩, .slice none 0 0] 103) = Z := ⟨_, rfl⟩
          have hzk := hOz.size
          have hgk : h < wr.heap.size := BK.lt
          have hgr : g < wr.heap.size := BR.lt
          have hfk : fb < wr.heap.size := Bf.lt
          have hfb : fb ≠ b := by
            intro e
            subst e
            obtain ⟨_, _, _, hAk, _, _⟩ := unhide HK
            exact absurd (blkT Bf (show Blk wr fb _ _ from hAk)) (by decide)
          have hfg : fb ≠ g ∧ fb ≠ h := by
            constructor
            · intro e
              subst e
              exact absurd (blkT Bf BR) (by decide)
            · intro e
              subst e
              exact absurd (blkT Bf BK) (by decide)
          have HFG := hide hfg
          have hb1 : Below v z y1 := by rw [← hy1, ← hv]; exact (Below.refl _ z).alloc (Nat.le_refl _) _
          have hb1' : Below z.heap.size z y1 := by rw [hv]; exact hb1
          have BZ1 : Blk y1 v #[.int .i64 0, .string ⟨#[]⟩, .slice none 0 0] 103 := by rw [← hy1, ← hv]; exact Blk.new z _ _
          have HZ3 := hide BZ1
          have HO3 := hide (Prt.one p2)
          obtain ⟨y2, hy2⟩ : ∃ Z, y1.setRow v p2.cs = Z := ⟨_, rfl⟩
          have oV : Only (fun j => j = v) y1 y2 := by rw [← hy2]; exact only_setRow (P := fun j => j = v) v _ rfl
          have hd : Blk y2 g #[.int .i64 0, .int .i64 0, .int .i64 0, .slice none 0 0, .int .i64 0, .slice none 0 0, .string ⟨#[]⟩, .string ⟨#[]⟩] 34 ∧ Blk y2 h rk.cs 34 ∧ Blk y2 fb (fs.map fv).toArray 101 ∧ (B2 = true → At y2 b s (i + 48)) ∧ Only (fun j => j = b) w y2 := by
            refine ⟨((BR.only hOz (by omega)).below hb1 (by omega)).only oV (by omega), ((BK.only hOz (by omega)).below hb1 (by omega)).only oV (by omega), ((Bf.only hOz hfb).below hb1 (by omega)).only oV (by omega), fun q => ((hAz q).below hb1 (by omega)).only oV (by omega), ?_⟩
            exact ((hOk.trans hOz (fun _ _ q => q)).trans (Only.of_below (P := fun _ => False) hb1') (fun _ _ q => q.elim)).trans oV (fun j hj q => by have := hOk.size; omega)
          have BP2 : Blk y2 v p2.cs 103 := by rw [← hy2]; exact blk_setRow BZ1
          have HRP := hide (show y2.rangeAt v 0 p2.cl from blk_range BP2)
          have HRG := hide (show y2.rangeAt h 0 rk.cl from blk_range hd.2.1)
          have HD := hide hd
          have HM2 := hide (show B2 = true → RM st (h + 1) (exr fWra rk p2).1 (upP fWra a s i) y2 from fun q => ((((unhide HMK).only hOz (fun j hj _ e => by omega)).step (show IsP fWra by simp [IsP]) (hPz q) (by omega) ((unhide HMK).lts (by omega)))).only (P := fun _ => False) ((Only.of_below (P := fun _ => False) hb1').trans oV (fun j hj q => by omega)) (fun _ _ _ q => q))
          clear BR BK Bf hOk hb1 hb1' BZ1 BP2 hd hAz hOz hPz hfg hfb hzk oV HMK
          cases B2 with
          | true =>
            obtain ⟨r2, hr2⟩ : ∃ Z, (exr fWra rk p2).1 = Z := ⟨_, rfl⟩
            obtain ⟨q2, hq2⟩ : ∃ Z, (exr fWra rk p2).2 = Z := ⟨_, rfl⟩
            have hEX := exr_any fWra (by simp [IsP]) rk p2
            rw [hr2, hq2] at hEX
            have hM3 := unhide HM2 rfl
            rw [hr2] at hM3
            have HM3 := hide hM3
            have HT2 := hide (show takeP (fs.drop (k + 1)) (upP fWra a s i) s (i + 48) = O by
              have := unhide HTK
              rw [if_pos hB2.symm] at this
              exact this)
            clear hM3 HM2 hB2 HTK
            have HEX := hide hEX
            have HI2 := hide (show i + 48 + szF (fs.drop (k + 1)) ≤ s.size by
              have h := unhide HISZ
              have e : (fWra).b = 48 := rfl
              rw [e] at h
              omega)
            have HO2 := hide (Rep.one r2)
            clear hEX hr2 hq2 HISZ HC HK
            go_wp2_with (first | refine wpList_store_row rfl 103 (.tmp 13) (.tmp 42) rfl v p2.cs rfl rfl 103 #[.int .i64 0, .string ⟨#[]⟩, .slice none 0 0] (unhide HZ3) size_prt rfl (unhide HO3) ?_ | refine wpList_load_mid rfl 34 (.tmp 9) rfl h 0 rfl rk.cl _ (unhide HRG) Tryz.underlying34 rfl size_rep ?_ | refine wpList_load_mid rfl 103 (.tmp 13) rfl v 0 rfl p2.cl _ (unhide HRP) Tryz.underlying103 rfl size_prt ?_)
            refine (unhide HEX _).mono ?_
            rintro e x3 ⟨rfl, hx3⟩
            obtain ⟨D1, D2, D3, D4, D5⟩ := unhide HD
            have E2 := D2.below hx3 D2.lt
            have HZ4 := hide E2
            have oH : Only (fun j => j = h) x3 (x3.setRow h r2.cs) := only_setRow (P := fun j => j = h) h _ rfl
            have HFIN := hide (show Blk (x3.setRow h r2.cs) g #[.int .i64 0, .int .i64 0, .int .i64 0, .slice none 0 0, .int .i64 0, .slice none 0 0, .string ⟨#[]⟩, .string ⟨#[]⟩] 34 ∧ Blk (x3.setRow h r2.cs) h r2.cs 34 ∧ FR (x3.setRow h r2.cs) (.slice (some ⟨fb, 0, none⟩) n n) fs ∧ At (x3.setRow h r2.cs) b s (i + 48) ∧ Only (fun j => j = b) w (x3.setRow h r2.cs) from
              ⟨(D1.below hx3 D1.lt).only oH (by omega), blk_setRow E2, .inr ⟨fb, by rw [hlen], (D3.below hx3 D3.lt).only oH (by have := unhide HFG; omega)⟩, ((D4 (by trivial)).below hx3 (D4 (by trivial)).lt).only oH (by omega), (D5.trans (Only.of_below (P := fun _ => False) hx3) (fun _ _ q => q.elim)).trans oH (fun j hj q => by omega)⟩)
            have HM4 := hide (((unhide HM3).below hx3 (Nat.le_refl _)).only oH (fun j hj _ e => by omega))
            clear D1 D2 D3 D4 D5 E2 hx3 HD oH HM3
            go_wp2_with (refine wpList_store_row rfl 34 (.tmp 9) (.tmp 52) rfl h r2.cs rfl rfl 34 rk.cs (unhide HZ4) size_rep rfl (unhide HO2) ?_)
            obtain ⟨F1, F2, F3, F4, F5⟩ := unhide HFIN
            exact ⟨⟨k + 1, r2, i + 48, upP fWra a s i, by omega, rfl, unhide HI2, F1, F2, F3, F4, F5, unhide HT2, unhide HM4⟩, by simp [intOf]; omega⟩
          | false =>
            have HTN := hide (show none = O by
              have := unhide HTK
              rw [if_neg (by rw [← hB2]; decide)] at this
              exact this)
            clear hB2 HTK HM2
            obtain ⟨D1, D2, D3, D4, D5⟩ := unhide HD
            have BT := blk_setRow (cells := (Rep.bare 0).cs) D1
            have HL := hide (iload_blk 34 _ BT Tryz.underlying34 rfl size_rep)
            have HZ5 := hide D1
            have HO5 := hide (Rep.one (Rep.bare 0))
            have HBN := hide built_norep
            have HF2 := hide (show Only (fun j => j = b) w (y2.setRow g (Rep.bare 0).cs) from D5.trans (only_setRow (P := fun j => j = g) g _ rfl) (fun j hj q => by omega))
            clear D1 D2 D3 D4 D5 BT HD HISZ HC HK
            go_wp2_with (first | refine wpList_store_row rfl 103 (.tmp 13) (.tmp 42) rfl v p2.cs rfl rfl 103 #[.int .i64 0, .string ⟨#[]⟩, .slice none 0 0] (unhide HZ3) size_prt rfl (unhide HO3) ?_ | refine wpList_buildAs rfl 34 #[] rfl _ rfl (Rep.bare 0).cs (unhide HBN) ?_ | refine wpList_store_row rfl 34 (.tmp 6) (.tmp 46) rfl g (Rep.bare 0).cs rfl rfl 34 #[.int .i64 0, .int .i64 0, .int .i64 0, .slice none 0 0, .int .i64 0, .slice none 0 0, .string ⟨#[]⟩, .string ⟨#[]⟩] (unhide HZ5) size_rep rfl (unhide HO5) ?_)
            (try simp only [Exit.inBlock, Exit.then])
            refine bodyPost_ret (v := .tuple #[.agg (Rep.bare 0).cs, .bool false]) (results_cell2 (p := 6) (q := 7) (ty := 34) rfl _ _ _ ⟨g, 0, none⟩ rfl _ (unhide HL)) rfl ?_
            exact TrP.no (unhide HTN) (unhide HF2)
      · obtain ⟨BR, BK, Bf, hAk, hOk, hEr⟩ := unhide HK
        have hib : i + 256 ≤ s.size := by have h := unhide HISZ; have e : (fDat).b = 256 := rfl; rw [e] at h; omega
        have hC : Calls Tryz.prog 136 #[.agg #[.int .i64 256], .pointer (some ⟨b, 0, none⟩)] wr fun e w' => TkP fDat b s i 256 wr.heap.size wr e w' := (ttake_any 256 wr b s i hAk hEr hs hib).mono (fun e w' h9 => ⟨_, _, h9.1, rfl, fun _ => h9.2.1, h9.2.2, fun _ => rfl⟩)
        have HC := hide hC
        have hc' : wr.cell? ⟨fb, k, none⟩ = some (.iface 133 (.agg #[.int .i64 256])) := hc
        have HBF0 := hide (And.intro BR (And.intro BK (And.intro Bf hOk)))
        clear hC hib BR BK Bf hAk hOk hEr hc
        as_aux_lemma =>
          go_wp2_with fail
          refine (unhide HC).mono ?_
          rintro e z ⟨p2, B2, rfl, hB2, hAz, hOz, hPz⟩
          obtain ⟨BR, BK, Bf, hOk⟩ := unhide HBF0
          obtain ⟨v, hv⟩ : ∃ v, z.heap.size = v := ⟨_, rfl⟩
          obtain ⟨y1, hy1⟩ : ∃ Z, z.alloc (.cells #[.int .i64 0, .string ⟨#[]⟩, .slice none 0 0] 103) = Z := ⟨_, rfl⟩
          have hzk := hOz.size
          have hgk : h < wr.heap.size := BK.lt
          have hgr : g < wr.heap.size := BR.lt
          have hfk : fb < wr.heap.size := Bf.lt
          have hfb : fb ≠ b := by
            intro e
            subst e
            obtain ⟨_, _, _, hAk, _, _⟩ := unhide HK
            exact absurd (blkT Bf (show Blk wr fb _ _ from hAk)) (by decide)
          have hfg : fb ≠ g ∧ fb ≠ h := by
            constructor
            · intro e
              subst e
              exact absurd (blkT Bf BR) (by decide)
            · intro e
              subst e
              exact absurd (blkT Bf BK) (by decide)
          have HFG := hide hfg
          have hb1 : Below v z y1 := by rw [← hy1, ← hv]; exact (Below.refl _ z).alloc (Nat.le_refl _) _
          have hb1' : Below z.heap.size z y1 := by rw [hv]; exact hb1
          have BZ1 : Blk y1 v #[.int .i64 0, .string ⟨#[]⟩, .slice none 0 0] 103 := by rw [← hy1, ← hv]; exact Blk.new z _ _
          have HZ3 := hide BZ1
          have HO3 := hide (Prt.one p2)
          obtain ⟨y2, hy2⟩ : ∃ Z, y1.setRow v p2.cs = Z := ⟨_, rfl⟩
          have oV : Only (fun j => j = v) y1 y2 := by rw [← hy2]; exact only_setRow (P := fun j => j = v) v _ rfl
          have hd : Blk y2 g #[.int .i64 0, .int .i64 0, .int .i64 0, .slice none 0 0, .int .i64 0, .slice none 0 0, .string ⟨#[]⟩, .string ⟨#[]⟩] 34 ∧ Blk y2 h rk.cs 34 ∧ Blk y2 fb (fs.map fv).toArray 101 ∧ (B2 = true → At y2 b s (i + 256)) ∧ Only (fun j => j = b) w y2 := by
            refine ⟨((BR.only hOz (by omega)).below hb1 (by omega)).only oV (by omega), ((BK.only hOz (by omega)).below hb1 (by omega)).only oV (by omega), ((Bf.only hOz hfb).below hb1 (by omega)).only oV (by omega), fun q => ((hAz q).below hb1 (by omega)).only oV (by omega), ?_⟩
            exact ((hOk.trans hOz (fun _ _ q => q)).trans (Only.of_below (P := fun _ => False) hb1') (fun _ _ q => q.elim)).trans oV (fun j hj q => by have := hOk.size; omega)
          have BP2 : Blk y2 v p2.cs 103 := by rw [← hy2]; exact blk_setRow BZ1
          have HRP := hide (show y2.rangeAt v 0 p2.cl from blk_range BP2)
          have HRG := hide (show y2.rangeAt h 0 rk.cl from blk_range hd.2.1)
          have HD := hide hd
          have HM2 := hide (show B2 = true → RM st (h + 1) (exr fDat rk p2).1 (upP fDat a s i) y2 from fun q => ((((unhide HMK).only hOz (fun j hj _ e => by omega)).step (show IsP fDat by simp [IsP]) (hPz q) (by omega) ((unhide HMK).lts (by omega)))).only (P := fun _ => False) ((Only.of_below (P := fun _ => False) hb1').trans oV (fun j hj q => by omega)) (fun _ _ _ q => q))
          clear BR BK Bf hOk hb1 hb1' BZ1 BP2 hd hAz hOz hPz hfg hfb hzk oV HMK
          cases B2 with
          | true =>
            obtain ⟨r2, hr2⟩ : ∃ Z, (exr fDat rk p2).1 = Z := ⟨_, rfl⟩
            obtain ⟨q2, hq2⟩ : ∃ Z, (exr fDat rk p2).2 = Z := ⟨_, rfl⟩
            have hEX := exr_any fDat (by simp [IsP]) rk p2
            rw [hr2, hq2] at hEX
            have hM3 := unhide HM2 rfl
            rw [hr2] at hM3
            have HM3 := hide hM3
            have HT2 := hide (show takeP (fs.drop (k + 1)) (upP fDat a s i) s (i + 256) = O by
              have := unhide HTK
              rw [if_pos hB2.symm] at this
              exact this)
            clear hM3 HM2 hB2 HTK
            have HEX := hide hEX
            have HI2 := hide (show i + 256 + szF (fs.drop (k + 1)) ≤ s.size by
              have h := unhide HISZ
              have e : (fDat).b = 256 := rfl
              rw [e] at h
              omega)
            have HO2 := hide (Rep.one r2)
            clear hEX hr2 hq2 HISZ HC HK
            go_wp2_with (first | refine wpList_store_row rfl 103 (.tmp 13) (.tmp 42) rfl v p2.cs rfl rfl 103 #[.int .i64 0, .string ⟨#[]⟩, .slice none 0 0] (unhide HZ3) size_prt rfl (unhide HO3) ?_ | refine wpList_load_mid rfl 34 (.tmp 9) rfl h 0 rfl rk.cl _ (unhide HRG) Tryz.underlying34 rfl size_rep ?_ | refine wpList_load_mid rfl 103 (.tmp 13) rfl v 0 rfl p2.cl _ (unhide HRP) Tryz.underlying103 rfl size_prt ?_)
            refine (unhide HEX _).mono ?_
            rintro e x3 ⟨rfl, hx3⟩
            obtain ⟨D1, D2, D3, D4, D5⟩ := unhide HD
            have E2 := D2.below hx3 D2.lt
            have HZ4 := hide E2
            have oH : Only (fun j => j = h) x3 (x3.setRow h r2.cs) := only_setRow (P := fun j => j = h) h _ rfl
            have HFIN := hide (show Blk (x3.setRow h r2.cs) g #[.int .i64 0, .int .i64 0, .int .i64 0, .slice none 0 0, .int .i64 0, .slice none 0 0, .string ⟨#[]⟩, .string ⟨#[]⟩] 34 ∧ Blk (x3.setRow h r2.cs) h r2.cs 34 ∧ FR (x3.setRow h r2.cs) (.slice (some ⟨fb, 0, none⟩) n n) fs ∧ At (x3.setRow h r2.cs) b s (i + 256) ∧ Only (fun j => j = b) w (x3.setRow h r2.cs) from
              ⟨(D1.below hx3 D1.lt).only oH (by omega), blk_setRow E2, .inr ⟨fb, by rw [hlen], (D3.below hx3 D3.lt).only oH (by have := unhide HFG; omega)⟩, ((D4 (by trivial)).below hx3 (D4 (by trivial)).lt).only oH (by omega), (D5.trans (Only.of_below (P := fun _ => False) hx3) (fun _ _ q => q.elim)).trans oH (fun j hj q => by omega)⟩)
            have HM4 := hide (((unhide HM3).below hx3 (Nat.le_refl _)).only oH (fun j hj _ e => by omega))
            clear D1 D2 D3 D4 D5 E2 hx3 HD oH HM3
            go_wp2_with (refine wpList_store_row rfl 34 (.tmp 9) (.tmp 52) rfl h r2.cs rfl rfl 34 rk.cs (unhide HZ4) size_rep rfl (unhide HO2) ?_)
            obtain ⟨F1, F2, F3, F4, F5⟩ := unhide HFIN
            exact ⟨⟨k + 1, r2, i + 256, upP fDat a s i, by omega, rfl, unhide HI2, F1, F2, F3, F4, F5, unhide HT2, unhide HM4⟩, by simp [intOf]; omega⟩
          | false =>
            have HTN := hide (show none = O by
              have := unhide HTK
              rw [if_neg (by rw [← hB2]; decide)] at this
              exact this)
            clear hB2 HTK HM2
            obtain ⟨D1, D2, D3, D4, D5⟩ := unhide HD
            have BT := blk_setRow (cells := (Rep.bare 0).cs) D1
            have HL := hide (iload_blk 34 _ BT Tryz.underlying34 rfl size_rep)
            have HZ5 := hide D1
            have HO5 := hide (Rep.one (Rep.bare 0))
            have HBN := hide built_norep
            have HF2 := hide (show Only (fun j => j = b) w (y2.setRow g (Rep.bare 0).cs) from D5.trans (only_setRow (P := fun j => j = g) g _ rfl) (fun j hj q => by omega))
            clear D1 D2 D3 D4 D5 BT HD HISZ HC HK
            go_wp2_with (first | refine wpList_store_row rfl 103 (.tmp 13) (.tmp 42) rfl v p2.cs rfl rfl 103 #[.int .i64 0, .string ⟨#[]⟩, .slice none 0 0] (unhide HZ3) size_prt rfl (unhide HO3) ?_ | refine wpList_buildAs rfl 34 #[] rfl _ rfl (Rep.bare 0).cs (unhide HBN) ?_ | refine wpList_store_row rfl 34 (.tmp 6) (.tmp 46) rfl g (Rep.bare 0).cs rfl rfl 34 #[.int .i64 0, .int .i64 0, .int .i64 0, .slice none 0 0, .int .i64 0, .slice none 0 0, .string ⟨#[]⟩, .string ⟨#[]⟩] (unhide HZ5) size_rep rfl (unhide HO5) ?_)
            (try simp only [Exit.inBlock, Exit.then])
            refine bodyPost_ret (v := .tuple #[.agg (Rep.bare 0).cs, .bool false]) (results_cell2 (p := 6) (q := 7) (ty := 34) rfl _ _ _ ⟨g, 0, none⟩ rfl _ (unhide HL)) rfl ?_
            exact TrP.no (unhide HTN) (unhide HF2)
    · obtain rfl : k = n := by omega
      rw [List.drop_of_length_le (by have := unhide HN; omega), takeP] at hTk
      have HTK := hide hTk
      have hkg := BK.lt
      have HMK := hide (show RM st N rk a (wr.setRow g rk.cs) from (hMk.only (only_setRow (P := fun j => j = g) g _ rfl) (fun j hj _ e => by omega)).base (by have := unhide HNW; omega))
      clear hTk hMk hkg
      have hkn' : ¬ (k : Int) < (k : Int) := by omega
      have HRG := hide (show wr.rangeAt h 0 rk.cl from blk_range BK)
      have BT := blk_setRow (cells := rk.cs) BR
      have HL := hide (iload_blk 34 _ BT Tryz.underlying34 rfl size_rep)
      have HZ := hide BR
      have HO := hide (Rep.one rk)
      have HF2 := hide (show Only (fun j => j = b) w (wr.setRow g rk.cs) from hOk.trans (only_setRow (P := fun j => j = g) g _ rfl) (fun j hj q => by omega))
      clear BR BK hRk hAk hOk hisz BT
      go_wp2_with (first | refine wpList_load_mid rfl 34 (.tmp 9) rfl h 0 rfl rk.cl _ (unhide HRG) Tryz.underlying34 rfl size_rep ?_ | refine wpList_store_row rfl 34 (.tmp 6) (.tmp 55) rfl g rk.cs rfl rfl 34 #[.int .i64 0, .int .i64 0, .int .i64 0, .slice none 0 0, .int .i64 0, .slice none 0 0, .string ⟨#[]⟩, .string ⟨#[]⟩] (unhide HZ) size_rep rfl (unhide HO) ?_)
      (try simp only [Exit.inBlock, Exit.then])
      refine bodyPost_ret (v := .tuple #[.agg rk.cs, .bool true]) (results_cell2 (p := 6) (q := 7) (ty := 34) rfl _ _ _ ⟨g, 0, none⟩ rfl _ (unhide HL)) rfl ?_
      exact TrP.yes (unhide HTK) (unhide HF2) (unhide HMK)
end Go.Proofs.YtclgkgaobjcifaaGreatDoor
