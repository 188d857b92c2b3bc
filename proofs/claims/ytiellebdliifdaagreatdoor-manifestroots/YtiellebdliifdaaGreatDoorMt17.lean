import Derived.Test.YtiellebdliifdaaGreatDoorMt13
import Derived.Deep.RegionHeld3
namespace Go.Proofs.YtiellebdliifdaaGreatDoor
open Go.RowKit
theorem Jb.alloc {w : World} {jb b nx : Nat} {lost : Bool} (h : Jb w jb b nx lost) (o : Obj) : Jb (w.alloc o) jb b nx lost := Blk.alloc h o
theorem blk_at1 (x : World) (T : TypeId) (cur : Array Value) (y : World) (hy : y = x.alloc (Obj.cells cur T)) : Blk y x.heap.size cur T ∧ Below x.heap.size x y ∧ y.heap.size = x.heap.size + 1 := by
 subst hy
 exact ⟨Blk.new x T cur, (Below.refl _ x).alloc (Nat.le_refl _) _, by simp⟩
set_option maxRecDepth 100000 in
set_option maxHeartbeats 4000000 in
theorem commit_any (w : World) (base b jb nx : Nat) (v : DV) (s : DSt) (lost : Bool) (h : Dk w base b v s) (hJ : Jb w jb b nx lost) (hjb : ¬ Fd b v jb) (hb : base ≤ w.heap.size) (hS : Sane s) (hnx : nx < 4294967296) (p : Option Addr) (c : Nat) (l : List Wr1) (n : Nat) (hn : n = l.length) (hl : Wls w p l) (hp : s.pend.length ≤ 1000000) (ha : s.acts.length ≤ 100000000) :
  Calls Tryz.prog 31 #[.pointer (some ⟨jb, 0, none⟩), .slice p n c] w fun e w' => e = .returned (.int .i64 (commitR s nx lost l).e) ∧ JPost base b jb v (commitR s nx lost l).s (commitR s nx lost l).nx (commitR s nx lost l).lost w w' := by
 have hlt : ∀ k, Fd b v k → k < w.heap.size := fun k hk => (h.fd k hk).2
 have hjl : jb < w.heap.size := Blk.lt hJ
 obtain ⟨x0, hx0⟩ : ∃ x, x = w.alloc (Obj.cells #[.pointer (some ⟨jb, 0, none⟩)] 61) := ⟨_, rfl⟩
 obtain ⟨BX0, hB0, hs0⟩ := blk_at1 w _ _ x0 hx0
 have hbn : base ≤ x0.heap.size := by omega
 have c0 : x0.cell? ⟨w.heap.size, 0, none⟩ = some (.pointer (some ⟨jb, 0, none⟩)) := BX0.cell 0
 have J0 : Jb x0 jb b nx lost := Blk.below hJ hB0 hjl
 have j0 : x0.cell? ⟨jb, 0, none⟩ = some (.pointer (some ⟨b, 0, none⟩)) := Blk.cell J0 0
 have D0 : Dk x0 base b v s := h.below hB0
 have j0w : w.cell? ⟨jb, 0, none⟩ = some (.pointer (some ⟨b, 0, none⟩)) := Blk.cell hJ 0
 have hjne : jb ≠ w.heap.size := by omega
 have hjl2 : jb < w.heap.size := hjl
 have HSZ := hide (size_any x0 base b v s D0)
 have HRF := hide (refusal_any x0 p c l n hn (hl.below hB0) (s.last.length : Int))
 have HD := hide h
 have HJ := hide (And.intro hJ (And.intro hjb hjl))
 have HL := hide hl
 have HN := hide hn
 have HS := hide hS
 have HLT := hide hlt
 have HB0W := hide hB0
 have HX0 := hide (And.intro BX0 (And.intro hs0 J0))
 have HBB := hide hbn
 have hcap := hS.cap
 have HCAP := hide hcap
 clear h hJ hjb hl hn hS hlt hB0 BX0 hs0 J0 D0 hjl hbn hcap
 obtain ⟨sz, hsz⟩ : ∃ sz, (s.last.length : Int) = sz := ⟨_, rfl⟩
 rw [hsz] at HSZ HRF
 have HSZE := hide hsz
 clear hsz
 go_enter_defers Tryz.func31, Tryz.ntmps31
 go_wp2_with fail
 rw [← hx0]
 replace hx0 := hide hx0
 refine (unhide HSZ).mono ?_
 rintro ev x1 ⟨rfl, rfl⟩
 go_wp2_with fail
 refine (unhide HRF).mono ?_
 rintro ev x2 ⟨rfl, hB2⟩
 have HB2 := hide hB2
 clear hB2 c0 j0 HSZ HRF j0w
 by_cases hr : refE l sz = 0
 ·have HR := hide hr
  have BX2 := (unhide HX0).1.below (unhide HB2) (by have := (unhide HX0).2.1; omega)
  have hjl0 : jb < x1.heap.size := Blk.lt (unhide HX0).2.2
  have J2 : Jb x2 jb b nx lost := Blk.below (unhide HX0).2.2 (unhide HB2) hjl0
  have c0 : x2.cell? ⟨w.heap.size, 0, none⟩ = some (.pointer (some ⟨jb, 0, none⟩)) := BX2.cell 0
  have j2 : x2.cell? ⟨jb, 2, none⟩ = some (.bool lost) := Blk.cell J2 2
  rw [hr]
  clear hr BX2 J2 hjl0
  cases lost with
  | true =>
   have hcr : commitR s nx true l = ⟨2, s, nx, true⟩ := by rw [commitR, unhide HSZE, if_neg (by rw [unhide HR]; simp), if_pos rfl]
   have HCR := hide hcr
   clear hcr
   go_wp2
   refine ⟨_, results_tmp rfl _ _ _, ?_⟩
   rw [unhide HCR]
   exact ⟨rfl, fin0 ((unhide HB0W).trans ((unhide HB2).mono (unhide HB0W).size)) (unhide HD) (unhide HJ).1⟩
  | false =>
   obtain ⟨h16, hfr, _, _⟩ := ref_zero l sz (unhide HR)
   have hcr : commitR s nx false l = if (runsR s (runsOf nx l)).1 = 0 then ⟨0, (runsR s (runsOf nx l)).2, (nx + 1) % 4294967296, false⟩ else ⟨(runsR s (runsOf nx l)).1, (runsR s (runsOf nx l)).2, nx, true⟩ := by rw [commitR, unhide HSZE, if_neg (by rw [unhide HR]; simp), if_neg (by decide)]
   have HCR := hide hcr
   have H16 := hide h16
   have HFT := hide (secs_fit l sz (by have := unhide HCAP; have := unhide HSZE; omega) hfr)
   clear hcr h16 hfr
   obtain ⟨x3, hx3⟩ : ∃ x, x = x2.alloc (Obj.cells #[.bool false] 4) := ⟨_, rfl⟩
   obtain ⟨BE3, hB3, hs3⟩ := blk_at1 x2 _ _ x3 hx3
   have HB3 := hide ((unhide HB2).trans (hB3.mono (unhide HB2).size))
   have HBE := hide (And.intro BE3 hs3)
   have HFU := hide (filledUp_any x3 p c l n (unhide HN) ((unhide HL).below ((unhide HB0W).trans ((unhide HB3).mono (unhide HB0W).size))) (by rw [unhide HN]; exact unhide H16))
   clear BE3 hB3 hs3
   go_wp2_with fail
   rw [← hx3]
   replace hx3 := hide hx3
   refine (unhide HFU).mono ?_
   rintro ev y0 ⟨gC, hgC, rfl, hBC, hBy⟩
   have HBy0 := hide ((unhide HB3).trans (hBy.mono (unhide HB3).size))
   have BC0 := hide hBC
   have BE0 := hide ((unhide HBE).1.below hBy (unhide HBE).1.lt)
   have HGC := hide hgC
   have hsz0 : x1.heap.size ≤ x3.heap.size := (unhide HB3).size
   have HSZ3 := hide (show w.heap.size ≤ x2.heap.size ∧ w.heap.size ≤ gC ∧ w.heap.size ≤ x1.heap.size from ⟨by have := (unhide HB2).size; have := (unhide HX0).2.1; omega, by have := (unhide HX0).2.1; omega, by have := (unhide HX0).2.1; omega⟩)
   have HSO := hide (show ∀ y, Below x1.heap.size x1 y → y.cell? ⟨w.heap.size, 0, none⟩ = some (.pointer (some ⟨jb, 0, none⟩)) ∧ y.cell? ⟨jb, 1, none⟩ = some (.int .u32 (nx : Int)) from fun y hy =>
    ⟨((unhide HX0).1.below hy (by have := (unhide HX0).2.1; omega)).cell 0, Blk.cell (Blk.below (unhide HX0).2.2 hy (Blk.lt (unhide HX0).2.2)) 1⟩)
   have hSy0 := unhide HSO _ (unhide HBy0)
   clear hBC hBy hgC hsz0 c0 j2 HFU
   go_wp2_with fail
   refine wp_region_noPanic ?_
   refine wp_region_held_drew (S := fun w' => w'.cell? ⟨w.heap.size, 0, none⟩ = some (.pointer (some ⟨jb, 0, none⟩)) ∧ w'.cell? ⟨jb, 1, none⟩ = some (.int .u32 (nx : Int))) (by kernel_rfl) hSy0 ?_
   intro hS
   refine wpAnyH_takeD 0 (some 30) (.slice (some ⟨gC, 0, none⟩) 16 16) rfl rfl (by kernel_rfl) (by kernel_rfl) (by kernel_rfl) (fun _ _ _ h => h) (Or.inl ⟨by rfl, fun w hSw => by obtain ⟨q1, q2⟩ := hSw; go_simp⟩) hS ?_
   simp only [Act.put, List.setIfInBounds_toArray, List.set_cons_zero, List.set_cons_succ]
   refine wpAnyH_takeD 2 (some 32) (.pointer (some ⟨jb, 0, none⟩)) rfl rfl (by kernel_rfl) (by kernel_rfl) (by kernel_rfl) (fun _ _ _ h => h) (Or.inl ⟨by rfl, fun w hSw => by obtain ⟨q1, q2⟩ := hSw; go_simp⟩) hS ?_
   simp only [Act.put, List.setIfInBounds_toArray, List.set_cons_zero, List.set_cons_succ]
   refine wpAnyH_takeD 3 (some 33) (.pointer (some ⟨jb, 0, none⟩)) rfl rfl (by kernel_rfl) (by kernel_rfl) (by kernel_rfl) (fun _ _ _ h => h) (Or.inl ⟨by rfl, fun w hSw => by obtain ⟨q1, q2⟩ := hSw; go_simp⟩) hS ?_
   simp only [Act.put, List.setIfInBounds_toArray, List.set_cons_zero, List.set_cons_succ]
   refine wpAnyH_takeD 4 (some 34) (.pointer (some ⟨jb, 1, none⟩)) rfl rfl (by kernel_rfl) (by kernel_rfl) (by kernel_rfl) (fun _ _ _ h => h) (Or.inl ⟨by rfl, fun w hSw => by obtain ⟨q1, q2⟩ := hSw; go_simp⟩) hS ?_
   simp only [Act.put, List.setIfInBounds_toArray, List.set_cons_zero, List.set_cons_succ]
   refine wpAnyH_takeD 5 (some 35) (.int .u32 (nx : Int)) rfl rfl (by kernel_rfl) (by kernel_rfl) (by kernel_rfl) (fun _ _ _ h => h) (Or.inl ⟨by rfl, fun w hSw => by obtain ⟨q1, q2⟩ := hSw; go_simp⟩) hS ?_
   simp only [Act.put, List.setIfInBounds_toArray, List.set_cons_zero, List.set_cons_succ]
   refine wpAnyH_takeD 6 (some 36) (.slice (some ⟨gC, 0, none⟩) 16 16) rfl rfl (by kernel_rfl) (by kernel_rfl) (by kernel_rfl) (fun _ _ _ h => h) (Or.inl ⟨by rfl, fun w hSw => by obtain ⟨q1, q2⟩ := hSw; go_simp⟩) hS ?_
   simp only [Act.put, List.setIfInBounds_toArray, List.set_cons_zero, List.set_cons_succ]
   refine wpAnyH_takeD 10 (some 40) (.slice (some ⟨gC, 0, none⟩) 16 16) rfl rfl (by kernel_rfl) (by kernel_rfl) (by kernel_rfl) (fun _ _ _ h => h) (Or.inl ⟨by rfl, fun w hSw => by obtain ⟨q1, q2⟩ := hSw; go_simp⟩) hS ?_
   simp only [Act.put, List.setIfInBounds_toArray, List.set_cons_zero, List.set_cons_succ]
   refine wpAnyH_takeD 11 (some 41) (.pointer (some ⟨jb, 0, none⟩)) rfl rfl (by kernel_rfl) (by kernel_rfl) (by kernel_rfl) (fun _ _ _ h => h) (Or.inl ⟨by rfl, fun w hSw => by obtain ⟨q1, q2⟩ := hSw; go_simp⟩) hS ?_
   simp only [Act.put, List.setIfInBounds_toArray, List.set_cons_zero, List.set_cons_succ]
   refine wpAnyH_takeD 12 (some 42) (.pointer (some ⟨jb, 0, none⟩)) rfl rfl (by kernel_rfl) (by kernel_rfl) (by kernel_rfl) (fun _ _ _ h => h) (Or.inl ⟨by rfl, fun w hSw => by obtain ⟨q1, q2⟩ := hSw; go_simp⟩) hS ?_
   simp only [Act.put, List.setIfInBounds_toArray, List.set_cons_zero, List.set_cons_succ]
   refine wpAnyH_takeD 13 (some 43) (.pointer (some ⟨jb, 1, none⟩)) rfl rfl (by kernel_rfl) (by kernel_rfl) (by kernel_rfl) (fun _ _ _ h => h) (Or.inl ⟨by rfl, fun w hSw => by obtain ⟨q1, q2⟩ := hSw; go_simp⟩) hS ?_
   simp only [Act.put, List.setIfInBounds_toArray, List.set_cons_zero, List.set_cons_succ]
   refine wpAnyH_takeD 14 (some 44) (.int .u32 (nx : Int)) rfl rfl (by kernel_rfl) (by kernel_rfl) (by kernel_rfl) (fun _ _ _ h => h) (Or.inl ⟨by rfl, fun w hSw => by obtain ⟨q1, q2⟩ := hSw; go_simp⟩) hS ?_
   simp only [Act.put, List.setIfInBounds_toArray, List.set_cons_zero, List.set_cons_succ]
   refine wpAnyH_takeD 20 (some 50) (.int .i64 0) rfl rfl (by kernel_rfl) (by kernel_rfl) (by kernel_rfl) (fun _ _ _ h => h) (Or.inl ⟨by rfl, fun w hSw => by obtain ⟨q1, q2⟩ := hSw; go_simp⟩) hS ?_
   simp only [Act.put, List.setIfInBounds_toArray, List.set_cons_zero, List.set_cons_succ]
   have BC := BC0
   have BE := BE0
   have HF16 := hide (filled_len l (unhide H16))
   have HAR := hide (asRecords_any y0.drew (some ⟨gC, 0, none⟩) 16 (filled l) 16 (unhide HF16).symm (wls_blk (show Blk y0.drew gC _ _ from unhide BC)) (by rw [unhide HF16]; decide))
   refine wpAnyH_ready (rs := [1]) (by kernel_rfl) (by simp) ?_
   refine AllReadyH.cons rfl (fun K hK => ?_) AllReadyH.nil
   simp only [List.getElem_toArray, List.getElem_cons_succ, List.getElem_cons_zero]
   go_simp
   refine (unhide HAR).mono ?_
   rintro ev y1 ⟨rfl, hA1, hb1⟩
   have hb1' : Below y0.heap.size y0 y1 := ((Below.refl _ y0).drew).trans hb1
   have HBy1 := hide ((unhide HBy0).trans ((hb1').mono (unhide HBy0).size))
   replace BC := hide ((unhide BC).below (hb1') (unhide BC).lt)
   replace BE := hide ((unhide BE).below (hb1') (unhide BE).lt)
   have BA := hide (show Blk y1 y0.heap.size (wrv (recL (filled l))).toArray 76 from hA1)
   have HLA := hide (show w.heap.size ≤ y0.heap.size from by have := (unhide HBy0).size; have := (unhide HSZ3).2.2; omega)
   clear hA1 hb1 hb1' HAR
   refine hK.out _ _ (unhide HSO _ (unhide HBy1)) (fun hS => ?_)
   clear hK K
   have HSH := hide (setHead_any (nx : Int) y1 (some ⟨gC, 0, none⟩) 16 (filled l) 16 (unhide HF16).symm (wls_blk (unhide BC)) (by rw [unhide HF16]; decide))
   refine wpAnyH_ready (rs := [7]) (by kernel_rfl) (by simp) ?_
   refine AllReadyH.cons rfl (fun K hK => ?_) AllReadyH.nil
   simp only [List.getElem_toArray, List.getElem_cons_succ, List.getElem_cons_zero]
   go_simp
   refine (unhide HSH).mono ?_
   rintro ev y2 ⟨rfl, hA2, hb2⟩
   have HBy2 := hide ((unhide HBy1).trans ((hb2).mono (unhide HBy1).size))
   replace BC := hide ((unhide BC).below (hb2) (unhide BC).lt)
   replace BE := hide ((unhide BE).below (hb2) (unhide BE).lt)
   replace BA := hide ((unhide BA).below (hb2) (unhide BA).lt)
   have BH := hide hA2
   clear hA2 hb2 HSH
   refine hK.out _ _ (unhide HSO _ (unhide HBy2)) (fun hS => ?_)
   clear hK K
   have HWS := hide (hwrite_set nx hnx (some ⟨y1.heap.size + 1, 0, none⟩) 16 y2 (secs (filled l)) 16 (by simp [secs, unhide HF16]) (by decide) (.inr ⟨_, 0, rfl, (unhide BH).lt, fun j hj => by rw [Nat.zero_add, (unhide BH).cell]; simp [List.getD_eq_getElem?_getD, hj]⟩) (fun k o e => by cases e; exact (unhide BH).lt) (unhide HFT) (by simp [secs, unhide HF16]))
   have HWC := hide (fun (W : World) => hwrite_clear nx hnx none 0 W)
   obtain ⟨hs, hhs⟩ : ∃ x, headB nx (secs (filled l)) = x := ⟨_, rfl⟩
   obtain ⟨hc, hhc⟩ : ∃ x, headB nx [] = x := ⟨_, rfl⟩
   rw [hhs] at HWS
   rw [hhc] at HWC
   have HHS := hide (And.intro hhs hhc)
   have HCH := hide (fun (W : World) => clearHead_any (nx : Int) W)
   clear hhs hhc
   refine wpAnyH_ready (rs := [8]) (by kernel_rfl) (by simp) ?_
   refine AllReadyH.cons rfl (fun K hK => ?_) AllReadyH.nil
   simp only [List.getElem_toArray, List.getElem_cons_succ, List.getElem_cons_zero]
   go_simp
   refine (unhide HWS).mono ?_
   rintro ev y3 ⟨rfl, hb3⟩
   have HBy3 := hide ((unhide HBy2).trans ((hb3).mono (unhide HBy2).size))
   replace BC := hide ((unhide BC).below (hb3) (unhide BC).lt)
   replace BE := hide ((unhide BE).below (hb3) (unhide BE).lt)
   replace BA := hide ((unhide BA).below (hb3) (unhide BA).lt)
   clear hb3 HWS BH
   refine hK.out _ _ (unhide HSO _ (unhide HBy3)) (fun hS => ?_)
   clear hK K
   refine wpAnyH_ready (rs := [9, 15]) (by kernel_rfl) (by simp) ?_
   refine AllReadyH.cons rfl (fun K hK => ?_) (AllReadyH.cons rfl (fun K hK => ?_) AllReadyH.nil)
   ·simp only [List.getElem_toArray, List.getElem_cons_succ, List.getElem_cons_zero]
    go_simp
    obtain ⟨z4, hz⟩ : ∃ x, x = y3.alloc (Obj.cells #[.int .i64 1, .string hs] 76) := ⟨_, rfl⟩
    obtain ⟨BZ, hbz, -⟩ := blk_at1 y3 _ _ z4 hz
    rw [← hz]
    replace hz := hide hz
    have HBz4 := hide ((unhide HBy3).trans ((hbz).mono (unhide HBy3).size))
    replace BC := hide ((unhide BC).below (hbz) (unhide BC).lt)
    replace BE := hide ((unhide BE).below (hbz) (unhide BE).lt)
    replace BA := hide ((unhide BA).below (hbz) (unhide BA).lt)
    have HLB := hide (show w.heap.size ≤ y3.heap.size from by have := (unhide HBy3).size; have := (unhide HSZ3).2.2; omega)
    obtain ⟨gB, hgg⟩ : ∃ g, y3.heap.size = g := ⟨_, rfl⟩
    rw [hgg] at BZ HLB ⊢
    have BB := hide BZ
    clear BZ hbz hgg
    refine hK.out _ _ (unhide HSO _ (unhide HBz4)) (fun hS => ?_)
    clear hK K
    refine wpAnyH_ready (rs := [15]) (by kernel_rfl) (by simp) ?_
    refine AllReadyH.cons rfl (fun K hK => ?_) AllReadyH.nil
    simp only [List.getElem_toArray, List.getElem_cons_succ, List.getElem_cons_zero]
    go_simp
    refine (unhide HCH _).mono ?_
    rintro ev z5 ⟨rfl, hbz⟩
    have HBz5 := hide ((unhide HBz4).trans ((hbz).mono (unhide HBz4).size))
    replace BC := hide ((unhide BC).below (hbz) (unhide BC).lt)
    replace BE := hide ((unhide BE).below (hbz) (unhide BE).lt)
    replace BA := hide ((unhide BA).below (hbz) (unhide BA).lt)
    replace BB := hide ((unhide BB).below (hbz) (unhide BB).lt)
    clear hbz
    refine hK.out _ _ (unhide HSO _ (unhide HBz5)) (fun hS => ?_)
    clear hK K
    refine wpAnyH_ready (rs := [16]) (by kernel_rfl) (by simp) ?_
    refine AllReadyH.cons rfl (fun K hK => ?_) AllReadyH.nil
    simp only [List.getElem_toArray, List.getElem_cons_succ, List.getElem_cons_zero]
    go_simp
    refine (unhide HWC _).mono ?_
    rintro ev z6 ⟨rfl, hbz⟩
    have HBz6 := hide ((unhide HBz5).trans ((hbz).mono (unhide HBz5).size))
    replace BC := hide ((unhide BC).below (hbz) (unhide BC).lt)
    replace BE := hide ((unhide BE).below (hbz) (unhide BE).lt)
    replace BA := hide ((unhide BA).below (hbz) (unhide BA).lt)
    replace BB := hide ((unhide BB).below (hbz) (unhide BB).lt)
    clear hbz
    refine hK.out _ _ (unhide HSO _ (unhide HBz6)) (fun hS => ?_)
    clear hK K
    refine wpAnyH_ready (rs := [17]) (by kernel_rfl) (by simp) ?_
    refine AllReadyH.cons rfl (fun K hK => ?_) AllReadyH.nil
    simp only [List.getElem_toArray, List.getElem_cons_succ, List.getElem_cons_zero]
    go_simp
    obtain ⟨z7, hz⟩ : ∃ x, x = z6.alloc (Obj.cells #[.int .i64 1, .string hc] 76) := ⟨_, rfl⟩
    obtain ⟨BZ, hbz, -⟩ := blk_at1 z6 _ _ z7 hz
    rw [← hz]
    replace hz := hide hz
    have HBz7 := hide ((unhide HBz6).trans ((hbz).mono (unhide HBz6).size))
    replace BC := hide ((unhide BC).below (hbz) (unhide BC).lt)
    replace BE := hide ((unhide BE).below (hbz) (unhide BE).lt)
    replace BA := hide ((unhide BA).below (hbz) (unhide BA).lt)
    replace BB := hide ((unhide BB).below (hbz) (unhide BB).lt)
    have HLD := hide (show w.heap.size ≤ z6.heap.size from by have := (unhide HBz6).size; have := (unhide HSZ3).2.2; omega)
    obtain ⟨gD, hgg⟩ : ∃ g, z6.heap.size = g := ⟨_, rfl⟩
    rw [hgg] at BZ HLD ⊢
    have BD := hide BZ
    clear BZ hbz hgg
    refine hK.out _ _ (unhide HSO _ (unhide HBz7)) (fun hS => ?_)
    clear hK K
    refine wpAnyH_ready (rs := [18]) (by kernel_rfl) (by simp) ?_
    refine AllReadyH.cons rfl (fun K hK => ?_) AllReadyH.nil
    simp only [List.getElem_toArray, List.getElem_cons_succ, List.getElem_cons_zero]
    go_simp
    obtain ⟨y9, hy9⟩ : ∃ x, x = z7.alloc (Obj.cells #[.slice (some ⟨y0.heap.size, 0, none⟩) 16 16, .slice (some ⟨gB, 0, none⟩) 1 1, .slice (some ⟨gC, 0, none⟩) 16 16, .slice (some ⟨gD, 0, none⟩) 1 1] 72) := ⟨_, rfl⟩
    obtain ⟨BR9, hb9, -⟩ := blk_at1 z7 _ _ y9 hy9
    have HBy9 := hide ((unhide HBz7).trans ((hb9).mono (unhide HBz7).size))
    replace BC := hide ((unhide BC).below (hb9) (unhide BC).lt)
    replace BE := hide ((unhide BE).below (hb9) (unhide BE).lt)
    replace BA := hide ((unhide BA).below (hb9) (unhide BA).lt)
    replace BB := hide ((unhide BB).below (hb9) (unhide BB).lt)
    replace BD := hide ((unhide BD).below (hb9) (unhide BD).lt)
    have BR := hide BR9
    rw [← hy9]
    replace hy9 := hide hy9
    have HLR := hide (show w.heap.size ≤ z7.heap.size from by have := (unhide HBz7).size; have := (unhide HSZ3).2.2; omega)
    clear BR9 hb9
    refine hK.out _ _ (unhide HSO _ (unhide HBy9)) (fun hS => ?_)
    clear hK K
    refine wpAnyH_takeD 19 (some 49) (.int .i64 4) rfl rfl (by kernel_rfl) (by kernel_rfl) (by kernel_rfl) (fun _ _ _ h => h) (Or.inl ⟨by rfl, fun w hSw => by obtain ⟨q1, q2⟩ := hSw; go_simp⟩) hS ?_
    simp only [Act.put, List.setIfInBounds_toArray, List.set_cons_zero, List.set_cons_succ]
    refine wpAnyH_done (by kernel_rfl) ?_ _
    clear hS
    have HBW := hide ((unhide HB0W).trans ((unhide HBy9).mono (unhide HB0W).size))
    have HCW := hide (CW.make (nx := nx) (jb := jb) (bx := w.heap.size) (unhide H16) (unhide HBW) (unhide BA) (by rw [(unhide HHS).1]; exact unhide BB) (unhide BC) (by rw [(unhide HHS).2]; exact unhide BD) (unhide BR) ((unhide HX0).1.below (unhide HBy9) (by have := (unhide HX0).2.1; omega)) (unhide BE) (unhide HLA) (unhide HLB) (unhide HSZ3).2.1 (unhide HLD) (unhide HLR) (Nat.le_refl _) (unhide HSZ3).1)
    obtain ⟨gR, hgR⟩ : ∃ g, z7.heap.size = g := ⟨_, rfl⟩
    have HWG := hide (show w.heap.size ≠ x2.heap.size from by have := (unhide HB2).size; have := (unhide HX0).2.1; omega)
    obtain ⟨ge, hge⟩ : ∃ g, x2.heap.size = g := ⟨_, rfl⟩
    rw [hge] at HWG
    obtain ⟨R, hRR⟩ : ∃ R, runsOf nx l = R := ⟨_, rfl⟩
    rw [hgR, hge, hRR] at HCW
    rw [hgR, hge]
    rw [hRR] at HCR
    have hR4 : R.length = 4 := by rw [← hRR]; rfl
    have HRL := hide (show ∀ k, k < 4 → (R.getD k []).length ≤ 16 from fun k hk => by
     rw [← hRR]
     obtain q | q | q | q : k = 0 ∨ k = 1 ∨ k = 2 ∨ k = 3 := by omega
     ·subst q; rw [getD0, recL_len, unhide HF16]; decide
     ·subst q; rw [getD1]; exact (show 1 ≤ 16 by decide)
     ·subst q; rw [getD2, unhide HF16]; decide
     ·subst q; rw [getD3]; exact (show 1 ≤ 16 by decide))
    have HR4 := hide hR4
    have XC0 := hide (show CmI base b v s R y9 0 y9 from ⟨s, DPost.refl ((unhide HD).below (unhide HBW)), unhide HS, rfl, by omega, by omega⟩)
    have HS4 := hide (show base ≤ y9.heap.size from by have := unhide HBB; have := (unhide HBy9).size; omega)
    clear hgR hge hRR hR4 HLA HLB HLD HLR HHS HF16 BC BE BA BB BD BR HCH HWC HFT H16 hSy0
    refine NoPanic.normal ?_
    go_wp2
    go_loopw [50] (fun i wr => ∃ k : Nat, k ≤ 4 ∧ i = .int .i64 (k : Int) ∧ CmI base b v s R y9 k wr) (fun i _ => 4 - (intOf i).toNat)
    case atStart => exact ⟨0, by omega, rfl, unhide XC0⟩
    case round =>
     obtain ⟨k, hk, rfl, s', hP, hS', hE, hp', ha'⟩ := hrel
     obtain ⟨wo, rfl⟩ : ∃ wo, wo = wr := ⟨_, rfl⟩
     obtain ⟨kr, kb, ke, ko⟩ := (unhide HCW).keep (unhide HLT) hP.onlyW (fun hb => ((Only.of_below (P := fun _ => False) hb).mono (fun _ _ q => q.elim)).trans hP.onlyW (fun _ _ q => q))
     have Jo : Jb wo jb b nx false := Blk.only (unhide HJ).1 ko (unhide HJ).2.1
     have cb : wo.cell? ⟨w.heap.size, 0, none⟩ = some (.pointer (some ⟨jb, 0, none⟩)) := kb.cell 0
     have cj : wo.cell? ⟨jb, 0, none⟩ = some (.pointer (some ⟨b, 0, none⟩)) := Blk.cell Jo 0
     have HE := hide hE
     have HSS := hide hS'
     have hP2 := hP
     have HPW := hide hP2
     obtain ⟨v', k1, k2, k3⟩ := hP
     have HKO := hide ko
     have HK := hide (And.intro k1 (And.intro k2 k3))
     have HKE := hide (And.intro ke kb)
     clear XC0 hE hS' hP2 k1 k2 k3 ke kb ko
     by_cases hk4 : k < 4
     ·obtain ⟨g, cg, hg, hgl, hlg⟩ := kr k hk4
      have hst := runsR_drop s' R k (by rw [unhide HR4]; exact hk4)
      have hrl := unhide HRL k hk4
      obtain ⟨rk, hrk⟩ : ∃ rk, R.getD k [] = rk := ⟨_, rfl⟩
      rw [hrk] at cg hlg hst hrl
      obtain ⟨nk, hnk⟩ : ∃ nk, nk = rk.length := ⟨_, rfl⟩
      rw [← hnk] at cg hrl
      have HST := hide hst
      have HNK := hide hnk
      have hfr : ∀ g' o', (some ⟨g, 0, none⟩ : Option Addr) = some ⟨g', o', none⟩ → ¬ Fd b v' g' := fun g' o' e q => by
       cases e
       rcases (unhide HK).2.2 g q with q | q
       ·have := unhide HLT g q; omega
       ·omega
      have HLY := hide (jlay_any wo base b v' s' (unhide HK).1 (Nat.le_trans (unhide HS4) (unhide HK).2.1.size) (unhide HSS) (some ⟨g, 0, none⟩) nk rk nk hnk hlg hfr (by omega) (by omega))
      clear kr hst hlg hfr hnk hrk Jo
      have i0 : 0 ≤ (k : Int) := by omega
      have i1 : (k : Int) < 4 := by omega
      go_wp2_with fail
      refine (unhide HLY).mono ?_
      rintro ev z1 ⟨rfl, hP1⟩
      have XP1 := hide (DPost.trans (unhide HK).2.1 (unhide HK).2.2 hP1)
      clear hP1 HLY cb cj cg
      by_cases he : (layR s' rk).1 = 0
      ·have XI := hide (show CmI base b v s R y9 (k + 1) z1 from ⟨_, unhide XP1, layR_sane rk s' (unhide HSS), by rw [unhide HE, unhide HST, if_pos he], by have := layR_pend rk s'; have := unhide HNK; omega, by have := layR_acts rk s'; have := unhide HNK; omega⟩)
       rw [he]
       clear XP1 HK he HE HST HKE HKO HPW
       go_wp2
       go_roundw
       case rel => exact ⟨k + 1, by omega, by go_num, unhide XI⟩
       case measure => simp [intOf]; omega
      ·have hcr2 : commitR s nx false l = ⟨(layR s' rk).1, (layR s' rk).2, nx, true⟩ := by rw [unhide HCR, unhide HE, unhide HST, if_neg he, if_neg he]
       have HCR2 := hide hcr2
       have hne : ((layR s' rk).1 != 0) = true := by simp [he]
       generalize (layR s' rk).1 = E at *
       generalize (layR s' rk).2 = S2 at *
       obtain ⟨zr, zb, ze, zo⟩ := (unhide HCW).keep (unhide HLT) (unhide XP1).onlyW (fun hb => ((Only.of_below (P := fun _ => False) hb).mono (fun _ _ q => q.elim)).trans (unhide XP1).onlyW (fun _ _ q => q))
       have HC1 := hide (commit1F_any z1 jb b nx false (Blk.only (unhide HJ).1 zo (unhide HJ).2.1) w.heap.size ge (zb.cell 0) (ze.cell 0))
       clear hcr2 HK HE HST zr zb ze zo he HKE HKO HPW
       go_wp2
       refine leaves_cons (f := 82) (args := #[.pointer (some ⟨w.heap.size, 0, none⟩), .pointer (some ⟨ge, 0, none⟩)]) (by simp) (by simp [go_sem]) ?_
       refine (unhide HC1).mono ?_
       rintro e u' wF ⟨rfl, rfl, rfl⟩
       refine ⟨_, results_tmp rfl _ _ _, ?_⟩
       rw [unhide HCR2]
       exact ⟨rfl, finF (unhide HBW) (unhide XP1) (unhide HJ).1 (unhide HJ).2.1⟩
     ·have hk' : k = 4 := by omega
      subst hk'
      have hE2 : runsR s R = (0, s') := by rw [unhide HE, List.drop_of_length_le (by rw [unhide HR4]; exact Nat.le_refl _)]; rfl
      have hcr2 : commitR s nx false l = ⟨0, s', (nx + 1) % 4294967296, false⟩ := by rw [unhide HCR, hE2, if_pos rfl]
      have HCR2 := hide hcr2
      have e0 : wo.cell? ⟨ge, 0, none⟩ = some (.bool false) := (unhide HKE).1.cell 0
      have f0 : wo.frozen? ⟨ge, 0, none⟩ = false := (unhide HKE).1.frozen 0
      have hgl := (unhide HCW).ended.lt
      have hge2 := (unhide HCW).le
      have hjg : jb ≠ ge := by have := (unhide HJ).2.2; omega
      have zo : Only (fun q => q = ge) wo (wo.setCell ⟨ge, 0, none⟩ (.bool true)) := (Only.refl _ wo).setCell _ _ (fun _ => rfl)
      have hwg := unhide HWG
      have HC1 := hide (commit1T_any (wo.setCell ⟨ge, 0, none⟩ (.bool true)) jb b nx false (Blk.only Jo zo hjg) w.heap.size ge (((unhide HKE).2.only zo hwg).cell 0) (by rw [((unhide HKE).1.set 0 (.bool true)).cell 0]; rfl))
      have HFN := hide (finT (m := (nx + 1) % 4294967296) (unhide HBW) (unhide HPW) (unhide HJ).1 (unhide HJ).2.1 (unhide HLT) hge2 hgl)
      clear hcr2 hE2 HE kr Jo zo hjg hwg hgl hge2 HK
      generalize (nx + 1) % 4294967296 = m at *
      go_wp2
      refine leaves_cons (f := 82) (args := #[.pointer (some ⟨w.heap.size, 0, none⟩), .pointer (some ⟨ge, 0, none⟩)]) (by simp) (by simp [go_sem]) ?_
      refine (unhide HC1).mono ?_
      rintro e u' wF ⟨rfl, rfl, rfl⟩
      refine ⟨_, results_tmp rfl _ _ _, ?_⟩
      rw [unhide HCR2]
      exact ⟨rfl, unhide HFN⟩
   ·simp only [List.getElem_toArray, List.getElem_cons_succ, List.getElem_cons_zero]
    go_simp
    refine (unhide HCH _).mono ?_
    rintro ev z4 ⟨rfl, hbz⟩
    have HBz4 := hide ((unhide HBy3).trans ((hbz).mono (unhide HBy3).size))
    replace BC := hide ((unhide BC).below (hbz) (unhide BC).lt)
    replace BE := hide ((unhide BE).below (hbz) (unhide BE).lt)
    replace BA := hide ((unhide BA).below (hbz) (unhide BA).lt)
    clear hbz
    refine hK.out _ _ (unhide HSO _ (unhide HBz4)) (fun hS => ?_)
    clear hK K
    refine wpAnyH_ready (rs := [9, 16]) (by kernel_rfl) (by simp) ?_
    refine AllReadyH.cons rfl (fun K hK => ?_) (AllReadyH.cons rfl (fun K hK => ?_) AllReadyH.nil)
    ·simp only [List.getElem_toArray, List.getElem_cons_succ, List.getElem_cons_zero]
     go_simp
     obtain ⟨z5, hz⟩ : ∃ x, x = z4.alloc (Obj.cells #[.int .i64 1, .string hs] 76) := ⟨_, rfl⟩
     obtain ⟨BZ, hbz, -⟩ := blk_at1 z4 _ _ z5 hz
     rw [← hz]
     replace hz := hide hz
     have HBz5 := hide ((unhide HBz4).trans ((hbz).mono (unhide HBz4).size))
     replace BC := hide ((unhide BC).below (hbz) (unhide BC).lt)
     replace BE := hide ((unhide BE).below (hbz) (unhide BE).lt)
     replace BA := hide ((unhide BA).below (hbz) (unhide BA).lt)
     have HLB := hide (show w.heap.size ≤ z4.heap.size from by have := (unhide HBz4).size; have := (unhide HSZ3).2.2; omega)
     obtain ⟨gB, hgg⟩ : ∃ g, z4.heap.size = g := ⟨_, rfl⟩
     rw [hgg] at BZ HLB ⊢
     have BB := hide BZ
     clear BZ hbz hgg
     refine hK.out _ _ (unhide HSO _ (unhide HBz5)) (fun hS => ?_)
     clear hK K
     refine wpAnyH_ready (rs := [16]) (by kernel_rfl) (by simp) ?_
     refine AllReadyH.cons rfl (fun K hK => ?_) AllReadyH.nil
     simp only [List.getElem_toArray, List.getElem_cons_succ, List.getElem_cons_zero]
     go_simp
     refine (unhide HWC _).mono ?_
     rintro ev z6 ⟨rfl, hbz⟩
     have HBz6 := hide ((unhide HBz5).trans ((hbz).mono (unhide HBz5).size))
     replace BC := hide ((unhide BC).below (hbz) (unhide BC).lt)
     replace BE := hide ((unhide BE).below (hbz) (unhide BE).lt)
     replace BA := hide ((unhide BA).below (hbz) (unhide BA).lt)
     replace BB := hide ((unhide BB).below (hbz) (unhide BB).lt)
     clear hbz
     refine hK.out _ _ (unhide HSO _ (unhide HBz6)) (fun hS => ?_)
     clear hK K
     refine wpAnyH_ready (rs := [17]) (by kernel_rfl) (by simp) ?_
     refine AllReadyH.cons rfl (fun K hK => ?_) AllReadyH.nil
     simp only [List.getElem_toArray, List.getElem_cons_succ, List.getElem_cons_zero]
     go_simp
     obtain ⟨z7, hz⟩ : ∃ x, x = z6.alloc (Obj.cells #[.int .i64 1, .string hc] 76) := ⟨_, rfl⟩
     obtain ⟨BZ, hbz, -⟩ := blk_at1 z6 _ _ z7 hz
     rw [← hz]
     replace hz := hide hz
     have HBz7 := hide ((unhide HBz6).trans ((hbz).mono (unhide HBz6).size))
     replace BC := hide ((unhide BC).below (hbz) (unhide BC).lt)
     replace BE := hide ((unhide BE).below (hbz) (unhide BE).lt)
     replace BA := hide ((unhide BA).below (hbz) (unhide BA).lt)
     replace BB := hide ((unhide BB).below (hbz) (unhide BB).lt)
     have HLD := hide (show w.heap.size ≤ z6.heap.size from by have := (unhide HBz6).size; have := (unhide HSZ3).2.2; omega)
     obtain ⟨gD, hgg⟩ : ∃ g, z6.heap.size = g := ⟨_, rfl⟩
     rw [hgg] at BZ HLD ⊢
     have BD := hide BZ
     clear BZ hbz hgg
     refine hK.out _ _ (unhide HSO _ (unhide HBz7)) (fun hS => ?_)
     clear hK K
     refine wpAnyH_ready (rs := [18]) (by kernel_rfl) (by simp) ?_
     refine AllReadyH.cons rfl (fun K hK => ?_) AllReadyH.nil
     simp only [List.getElem_toArray, List.getElem_cons_succ, List.getElem_cons_zero]
     go_simp
     obtain ⟨y9, hy9⟩ : ∃ x, x = z7.alloc (Obj.cells #[.slice (some ⟨y0.heap.size, 0, none⟩) 16 16, .slice (some ⟨gB, 0, none⟩) 1 1, .slice (some ⟨gC, 0, none⟩) 16 16, .slice (some ⟨gD, 0, none⟩) 1 1] 72) := ⟨_, rfl⟩
     obtain ⟨BR9, hb9, -⟩ := blk_at1 z7 _ _ y9 hy9
     have HBy9 := hide ((unhide HBz7).trans ((hb9).mono (unhide HBz7).size))
     replace BC := hide ((unhide BC).below (hb9) (unhide BC).lt)
     replace BE := hide ((unhide BE).below (hb9) (unhide BE).lt)
     replace BA := hide ((unhide BA).below (hb9) (unhide BA).lt)
     replace BB := hide ((unhide BB).below (hb9) (unhide BB).lt)
     replace BD := hide ((unhide BD).below (hb9) (unhide BD).lt)
     have BR := hide BR9
     rw [← hy9]
     replace hy9 := hide hy9
     have HLR := hide (show w.heap.size ≤ z7.heap.size from by have := (unhide HBz7).size; have := (unhide HSZ3).2.2; omega)
     clear BR9 hb9
     refine hK.out _ _ (unhide HSO _ (unhide HBy9)) (fun hS => ?_)
     clear hK K
     refine wpAnyH_takeD 19 (some 49) (.int .i64 4) rfl rfl (by kernel_rfl) (by kernel_rfl) (by kernel_rfl) (fun _ _ _ h => h) (Or.inl ⟨by rfl, fun w hSw => by obtain ⟨q1, q2⟩ := hSw; go_simp⟩) hS ?_
     simp only [Act.put, List.setIfInBounds_toArray, List.set_cons_zero, List.set_cons_succ]
     refine wpAnyH_done (by kernel_rfl) ?_ _
     clear hS
     have HBW := hide ((unhide HB0W).trans ((unhide HBy9).mono (unhide HB0W).size))
     have HCW := hide (CW.make (nx := nx) (jb := jb) (bx := w.heap.size) (unhide H16) (unhide HBW) (unhide BA) (by rw [(unhide HHS).1]; exact unhide BB) (unhide BC) (by rw [(unhide HHS).2]; exact unhide BD) (unhide BR) ((unhide HX0).1.below (unhide HBy9) (by have := (unhide HX0).2.1; omega)) (unhide BE) (unhide HLA) (unhide HLB) (unhide HSZ3).2.1 (unhide HLD) (unhide HLR) (Nat.le_refl _) (unhide HSZ3).1)
     obtain ⟨gR, hgR⟩ : ∃ g, z7.heap.size = g := ⟨_, rfl⟩
     have HWG := hide (show w.heap.size ≠ x2.heap.size from by have := (unhide HB2).size; have := (unhide HX0).2.1; omega)
     obtain ⟨ge, hge⟩ : ∃ g, x2.heap.size = g := ⟨_, rfl⟩
     rw [hge] at HWG
     obtain ⟨R, hRR⟩ : ∃ R, runsOf nx l = R := ⟨_, rfl⟩
     rw [hgR, hge, hRR] at HCW
     rw [hgR, hge]
     rw [hRR] at HCR
     have hR4 : R.length = 4 := by rw [← hRR]; rfl
     have HRL := hide (show ∀ k, k < 4 → (R.getD k []).length ≤ 16 from fun k hk => by
      rw [← hRR]
      obtain q | q | q | q : k = 0 ∨ k = 1 ∨ k = 2 ∨ k = 3 := by omega
      ·subst q; rw [getD0, recL_len, unhide HF16]; decide
      ·subst q; rw [getD1]; exact (show 1 ≤ 16 by decide)
      ·subst q; rw [getD2, unhide HF16]; decide
      ·subst q; rw [getD3]; exact (show 1 ≤ 16 by decide))
     have HR4 := hide hR4
     have XC0 := hide (show CmI base b v s R y9 0 y9 from ⟨s, DPost.refl ((unhide HD).below (unhide HBW)), unhide HS, rfl, by omega, by omega⟩)
     have HS4 := hide (show base ≤ y9.heap.size from by have := unhide HBB; have := (unhide HBy9).size; omega)
     clear hgR hge hRR hR4 HLA HLB HLD HLR HHS HF16 BC BE BA BB BD BR HCH HWC HFT H16 hSy0
     refine NoPanic.normal ?_
     go_wp2
     go_loopw [50] (fun i wr => ∃ k : Nat, k ≤ 4 ∧ i = .int .i64 (k : Int) ∧ CmI base b v s R y9 k wr) (fun i _ => 4 - (intOf i).toNat)
     case atStart => exact ⟨0, by omega, rfl, unhide XC0⟩
     case round =>
      obtain ⟨k, hk, rfl, s', hP, hS', hE, hp', ha'⟩ := hrel
      obtain ⟨wo, rfl⟩ : ∃ wo, wo = wr := ⟨_, rfl⟩
      obtain ⟨kr, kb, ke, ko⟩ := (unhide HCW).keep (unhide HLT) hP.onlyW (fun hb => ((Only.of_below (P := fun _ => False) hb).mono (fun _ _ q => q.elim)).trans hP.onlyW (fun _ _ q => q))
      have Jo : Jb wo jb b nx false := Blk.only (unhide HJ).1 ko (unhide HJ).2.1
      have cb : wo.cell? ⟨w.heap.size, 0, none⟩ = some (.pointer (some ⟨jb, 0, none⟩)) := kb.cell 0
      have cj : wo.cell? ⟨jb, 0, none⟩ = some (.pointer (some ⟨b, 0, none⟩)) := Blk.cell Jo 0
      have HE := hide hE
      have HSS := hide hS'
      have hP2 := hP
      have HPW := hide hP2
      obtain ⟨v', k1, k2, k3⟩ := hP
      have HKO := hide ko
      have HK := hide (And.intro k1 (And.intro k2 k3))
      have HKE := hide (And.intro ke kb)
      clear XC0 hE hS' hP2 k1 k2 k3 ke kb ko
      by_cases hk4 : k < 4
      ·obtain ⟨g, cg, hg, hgl, hlg⟩ := kr k hk4
       have hst := runsR_drop s' R k (by rw [unhide HR4]; exact hk4)
       have hrl := unhide HRL k hk4
       obtain ⟨rk, hrk⟩ : ∃ rk, R.getD k [] = rk := ⟨_, rfl⟩
       rw [hrk] at cg hlg hst hrl
       obtain ⟨nk, hnk⟩ : ∃ nk, nk = rk.length := ⟨_, rfl⟩
       rw [← hnk] at cg hrl
       have HST := hide hst
       have HNK := hide hnk
       have hfr : ∀ g' o', (some ⟨g, 0, none⟩ : Option Addr) = some ⟨g', o', none⟩ → ¬ Fd b v' g' := fun g' o' e q => by
        cases e
        rcases (unhide HK).2.2 g q with q | q
        ·have := unhide HLT g q; omega
        ·omega
       have HLY := hide (jlay_any wo base b v' s' (unhide HK).1 (Nat.le_trans (unhide HS4) (unhide HK).2.1.size) (unhide HSS) (some ⟨g, 0, none⟩) nk rk nk hnk hlg hfr (by omega) (by omega))
       clear kr hst hlg hfr hnk hrk Jo
       have i0 : 0 ≤ (k : Int) := by omega
       have i1 : (k : Int) < 4 := by omega
       go_wp2_with fail
       refine (unhide HLY).mono ?_
       rintro ev z1 ⟨rfl, hP1⟩
       have XP1 := hide (DPost.trans (unhide HK).2.1 (unhide HK).2.2 hP1)
       clear hP1 HLY cb cj cg
       by_cases he : (layR s' rk).1 = 0
       ·have XI := hide (show CmI base b v s R y9 (k + 1) z1 from ⟨_, unhide XP1, layR_sane rk s' (unhide HSS), by rw [unhide HE, unhide HST, if_pos he], by have := layR_pend rk s'; have := unhide HNK; omega, by have := layR_acts rk s'; have := unhide HNK; omega⟩)
        rw [he]
        clear XP1 HK he HE HST HKE HKO HPW
        go_wp2
        go_roundw
        case rel => exact ⟨k + 1, by omega, by go_num, unhide XI⟩
        case measure => simp [intOf]; omega
       ·have hcr2 : commitR s nx false l = ⟨(layR s' rk).1, (layR s' rk).2, nx, true⟩ := by rw [unhide HCR, unhide HE, unhide HST, if_neg he, if_neg he]
        have HCR2 := hide hcr2
        have hne : ((layR s' rk).1 != 0) = true := by simp [he]
        generalize (layR s' rk).1 = E at *
        generalize (layR s' rk).2 = S2 at *
        obtain ⟨zr, zb, ze, zo⟩ := (unhide HCW).keep (unhide HLT) (unhide XP1).onlyW (fun hb => ((Only.of_below (P := fun _ => False) hb).mono (fun _ _ q => q.elim)).trans (unhide XP1).onlyW (fun _ _ q => q))
        have HC1 := hide (commit1F_any z1 jb b nx false (Blk.only (unhide HJ).1 zo (unhide HJ).2.1) w.heap.size ge (zb.cell 0) (ze.cell 0))
        clear hcr2 HK HE HST zr zb ze zo he HKE HKO HPW
        go_wp2
        refine leaves_cons (f := 82) (args := #[.pointer (some ⟨w.heap.size, 0, none⟩), .pointer (some ⟨ge, 0, none⟩)]) (by simp) (by simp [go_sem]) ?_
        refine (unhide HC1).mono ?_
        rintro e u' wF ⟨rfl, rfl, rfl⟩
        refine ⟨_, results_tmp rfl _ _ _, ?_⟩
        rw [unhide HCR2]
        exact ⟨rfl, finF (unhide HBW) (unhide XP1) (unhide HJ).1 (unhide HJ).2.1⟩
      ·have hk' : k = 4 := by omega
       subst hk'
       have hE2 : runsR s R = (0, s') := by rw [unhide HE, List.drop_of_length_le (by rw [unhide HR4]; exact Nat.le_refl _)]; rfl
       have hcr2 : commitR s nx false l = ⟨0, s', (nx + 1) % 4294967296, false⟩ := by rw [unhide HCR, hE2, if_pos rfl]
       have HCR2 := hide hcr2
       have e0 : wo.cell? ⟨ge, 0, none⟩ = some (.bool false) := (unhide HKE).1.cell 0
       have f0 : wo.frozen? ⟨ge, 0, none⟩ = false := (unhide HKE).1.frozen 0
       have hgl := (unhide HCW).ended.lt
       have hge2 := (unhide HCW).le
       have hjg : jb ≠ ge := by have := (unhide HJ).2.2; omega
       have zo : Only (fun q => q = ge) wo (wo.setCell ⟨ge, 0, none⟩ (.bool true)) := (Only.refl _ wo).setCell _ _ (fun _ => rfl)
       have hwg := unhide HWG
       have HC1 := hide (commit1T_any (wo.setCell ⟨ge, 0, none⟩ (.bool true)) jb b nx false (Blk.only Jo zo hjg) w.heap.size ge (((unhide HKE).2.only zo hwg).cell 0) (by rw [((unhide HKE).1.set 0 (.bool true)).cell 0]; rfl))
       have HFN := hide (finT (m := (nx + 1) % 4294967296) (unhide HBW) (unhide HPW) (unhide HJ).1 (unhide HJ).2.1 (unhide HLT) hge2 hgl)
       clear hcr2 hE2 HE kr Jo zo hjg hwg hgl hge2 HK
       generalize (nx + 1) % 4294967296 = m at *
       go_wp2
       refine leaves_cons (f := 82) (args := #[.pointer (some ⟨w.heap.size, 0, none⟩), .pointer (some ⟨ge, 0, none⟩)]) (by simp) (by simp [go_sem]) ?_
       refine (unhide HC1).mono ?_
       rintro e u' wF ⟨rfl, rfl, rfl⟩
       refine ⟨_, results_tmp rfl _ _ _, ?_⟩
       rw [unhide HCR2]
       exact ⟨rfl, unhide HFN⟩
    ·simp only [List.getElem_toArray, List.getElem_cons_succ, List.getElem_cons_zero]
     go_simp
     refine (unhide HWC _).mono ?_
     rintro ev z5 ⟨rfl, hbz⟩
     have HBz5 := hide ((unhide HBz4).trans ((hbz).mono (unhide HBz4).size))
     replace BC := hide ((unhide BC).below (hbz) (unhide BC).lt)
     replace BE := hide ((unhide BE).below (hbz) (unhide BE).lt)
     replace BA := hide ((unhide BA).below (hbz) (unhide BA).lt)
     clear hbz
     refine hK.out _ _ (unhide HSO _ (unhide HBz5)) (fun hS => ?_)
     clear hK K
     refine wpAnyH_ready (rs := [9, 17]) (by kernel_rfl) (by simp) ?_
     refine AllReadyH.cons rfl (fun K hK => ?_) (AllReadyH.cons rfl (fun K hK => ?_) AllReadyH.nil)
     ·simp only [List.getElem_toArray, List.getElem_cons_succ, List.getElem_cons_zero]
      go_simp
      obtain ⟨z6, hz⟩ : ∃ x, x = z5.alloc (Obj.cells #[.int .i64 1, .string hs] 76) := ⟨_, rfl⟩
      obtain ⟨BZ, hbz, -⟩ := blk_at1 z5 _ _ z6 hz
      rw [← hz]
      replace hz := hide hz
      have HBz6 := hide ((unhide HBz5).trans ((hbz).mono (unhide HBz5).size))
      replace BC := hide ((unhide BC).below (hbz) (unhide BC).lt)
      replace BE := hide ((unhide BE).below (hbz) (unhide BE).lt)
      replace BA := hide ((unhide BA).below (hbz) (unhide BA).lt)
      have HLB := hide (show w.heap.size ≤ z5.heap.size from by have := (unhide HBz5).size; have := (unhide HSZ3).2.2; omega)
      obtain ⟨gB, hgg⟩ : ∃ g, z5.heap.size = g := ⟨_, rfl⟩
      rw [hgg] at BZ HLB ⊢
      have BB := hide BZ
      clear BZ hbz hgg
      refine hK.out _ _ (unhide HSO _ (unhide HBz6)) (fun hS => ?_)
      clear hK K
      refine wpAnyH_ready (rs := [17]) (by kernel_rfl) (by simp) ?_
      refine AllReadyH.cons rfl (fun K hK => ?_) AllReadyH.nil
      simp only [List.getElem_toArray, List.getElem_cons_succ, List.getElem_cons_zero]
      go_simp
      obtain ⟨z7, hz⟩ : ∃ x, x = z6.alloc (Obj.cells #[.int .i64 1, .string hc] 76) := ⟨_, rfl⟩
      obtain ⟨BZ, hbz, -⟩ := blk_at1 z6 _ _ z7 hz
      rw [← hz]
      replace hz := hide hz
      have HBz7 := hide ((unhide HBz6).trans ((hbz).mono (unhide HBz6).size))
      replace BC := hide ((unhide BC).below (hbz) (unhide BC).lt)
      replace BE := hide ((unhide BE).below (hbz) (unhide BE).lt)
      replace BA := hide ((unhide BA).below (hbz) (unhide BA).lt)
      replace BB := hide ((unhide BB).below (hbz) (unhide BB).lt)
      have HLD := hide (show w.heap.size ≤ z6.heap.size from by have := (unhide HBz6).size; have := (unhide HSZ3).2.2; omega)
      obtain ⟨gD, hgg⟩ : ∃ g, z6.heap.size = g := ⟨_, rfl⟩
      rw [hgg] at BZ HLD ⊢
      have BD := hide BZ
      clear BZ hbz hgg
      refine hK.out _ _ (unhide HSO _ (unhide HBz7)) (fun hS => ?_)
      clear hK K
      refine wpAnyH_ready (rs := [18]) (by kernel_rfl) (by simp) ?_
      refine AllReadyH.cons rfl (fun K hK => ?_) AllReadyH.nil
      simp only [List.getElem_toArray, List.getElem_cons_succ, List.getElem_cons_zero]
      go_simp
      obtain ⟨y9, hy9⟩ : ∃ x, x = z7.alloc (Obj.cells #[.slice (some ⟨y0.heap.size, 0, none⟩) 16 16, .slice (some ⟨gB, 0, none⟩) 1 1, .slice (some ⟨gC, 0, none⟩) 16 16, .slice (some ⟨gD, 0, none⟩) 1 1] 72) := ⟨_, rfl⟩
      obtain ⟨BR9, hb9, -⟩ := blk_at1 z7 _ _ y9 hy9
      have HBy9 := hide ((unhide HBz7).trans ((hb9).mono (unhide HBz7).size))
      replace BC := hide ((unhide BC).below (hb9) (unhide BC).lt)
      replace BE := hide ((unhide BE).below (hb9) (unhide BE).lt)
      replace BA := hide ((unhide BA).below (hb9) (unhide BA).lt)
      replace BB := hide ((unhide BB).below (hb9) (unhide BB).lt)
      replace BD := hide ((unhide BD).below (hb9) (unhide BD).lt)
      have BR := hide BR9
      rw [← hy9]
      replace hy9 := hide hy9
      have HLR := hide (show w.heap.size ≤ z7.heap.size from by have := (unhide HBz7).size; have := (unhide HSZ3).2.2; omega)
      clear BR9 hb9
      refine hK.out _ _ (unhide HSO _ (unhide HBy9)) (fun hS => ?_)
      clear hK K
      refine wpAnyH_takeD 19 (some 49) (.int .i64 4) rfl rfl (by kernel_rfl) (by kernel_rfl) (by kernel_rfl) (fun _ _ _ h => h) (Or.inl ⟨by rfl, fun w hSw => by obtain ⟨q1, q2⟩ := hSw; go_simp⟩) hS ?_
      simp only [Act.put, List.setIfInBounds_toArray, List.set_cons_zero, List.set_cons_succ]
      refine wpAnyH_done (by kernel_rfl) ?_ _
      clear hS
      have HBW := hide ((unhide HB0W).trans ((unhide HBy9).mono (unhide HB0W).size))
      have HCW := hide (CW.make (nx := nx) (jb := jb) (bx := w.heap.size) (unhide H16) (unhide HBW) (unhide BA) (by rw [(unhide HHS).1]; exact unhide BB) (unhide BC) (by rw [(unhide HHS).2]; exact unhide BD) (unhide BR) ((unhide HX0).1.below (unhide HBy9) (by have := (unhide HX0).2.1; omega)) (unhide BE) (unhide HLA) (unhide HLB) (unhide HSZ3).2.1 (unhide HLD) (unhide HLR) (Nat.le_refl _) (unhide HSZ3).1)
      obtain ⟨gR, hgR⟩ : ∃ g, z7.heap.size = g := ⟨_, rfl⟩
      have HWG := hide (show w.heap.size ≠ x2.heap.size from by have := (unhide HB2).size; have := (unhide HX0).2.1; omega)
      obtain ⟨ge, hge⟩ : ∃ g, x2.heap.size = g := ⟨_, rfl⟩
      rw [hge] at HWG
      obtain ⟨R, hRR⟩ : ∃ R, runsOf nx l = R := ⟨_, rfl⟩
      rw [hgR, hge, hRR] at HCW
      rw [hgR, hge]
      rw [hRR] at HCR
      have hR4 : R.length = 4 := by rw [← hRR]; rfl
      have HRL := hide (show ∀ k, k < 4 → (R.getD k []).length ≤ 16 from fun k hk => by
       rw [← hRR]
       obtain q | q | q | q : k = 0 ∨ k = 1 ∨ k = 2 ∨ k = 3 := by omega
       ·subst q; rw [getD0, recL_len, unhide HF16]; decide
       ·subst q; rw [getD1]; exact (show 1 ≤ 16 by decide)
       ·subst q; rw [getD2, unhide HF16]; decide
       ·subst q; rw [getD3]; exact (show 1 ≤ 16 by decide))
      have HR4 := hide hR4
      have XC0 := hide (show CmI base b v s R y9 0 y9 from ⟨s, DPost.refl ((unhide HD).below (unhide HBW)), unhide HS, rfl, by omega, by omega⟩)
      have HS4 := hide (show base ≤ y9.heap.size from by have := unhide HBB; have := (unhide HBy9).size; omega)
      clear hgR hge hRR hR4 HLA HLB HLD HLR HHS HF16 BC BE BA BB BD BR HCH HWC HFT H16 hSy0
      refine NoPanic.normal ?_
      go_wp2
      go_loopw [50] (fun i wr => ∃ k : Nat, k ≤ 4 ∧ i = .int .i64 (k : Int) ∧ CmI base b v s R y9 k wr) (fun i _ => 4 - (intOf i).toNat)
      case atStart => exact ⟨0, by omega, rfl, unhide XC0⟩
      case round =>
       obtain ⟨k, hk, rfl, s', hP, hS', hE, hp', ha'⟩ := hrel
       obtain ⟨wo, rfl⟩ : ∃ wo, wo = wr := ⟨_, rfl⟩
       obtain ⟨kr, kb, ke, ko⟩ := (unhide HCW).keep (unhide HLT) hP.onlyW (fun hb => ((Only.of_below (P := fun _ => False) hb).mono (fun _ _ q => q.elim)).trans hP.onlyW (fun _ _ q => q))
       have Jo : Jb wo jb b nx false := Blk.only (unhide HJ).1 ko (unhide HJ).2.1
       have cb : wo.cell? ⟨w.heap.size, 0, none⟩ = some (.pointer (some ⟨jb, 0, none⟩)) := kb.cell 0
       have cj : wo.cell? ⟨jb, 0, none⟩ = some (.pointer (some ⟨b, 0, none⟩)) := Blk.cell Jo 0
       have HE := hide hE
       have HSS := hide hS'
       have hP2 := hP
       have HPW := hide hP2
       obtain ⟨v', k1, k2, k3⟩ := hP
       have HKO := hide ko
       have HK := hide (And.intro k1 (And.intro k2 k3))
       have HKE := hide (And.intro ke kb)
       clear XC0 hE hS' hP2 k1 k2 k3 ke kb ko
       by_cases hk4 : k < 4
       ·obtain ⟨g, cg, hg, hgl, hlg⟩ := kr k hk4
        have hst := runsR_drop s' R k (by rw [unhide HR4]; exact hk4)
        have hrl := unhide HRL k hk4
        obtain ⟨rk, hrk⟩ : ∃ rk, R.getD k [] = rk := ⟨_, rfl⟩
        rw [hrk] at cg hlg hst hrl
        obtain ⟨nk, hnk⟩ : ∃ nk, nk = rk.length := ⟨_, rfl⟩
        rw [← hnk] at cg hrl
        have HST := hide hst
        have HNK := hide hnk
        have hfr : ∀ g' o', (some ⟨g, 0, none⟩ : Option Addr) = some ⟨g', o', none⟩ → ¬ Fd b v' g' := fun g' o' e q => by
         cases e
         rcases (unhide HK).2.2 g q with q | q
         ·have := unhide HLT g q; omega
         ·omega
        have HLY := hide (jlay_any wo base b v' s' (unhide HK).1 (Nat.le_trans (unhide HS4) (unhide HK).2.1.size) (unhide HSS) (some ⟨g, 0, none⟩) nk rk nk hnk hlg hfr (by omega) (by omega))
        clear kr hst hlg hfr hnk hrk Jo
        have i0 : 0 ≤ (k : Int) := by omega
        have i1 : (k : Int) < 4 := by omega
        go_wp2_with fail
        refine (unhide HLY).mono ?_
        rintro ev z1 ⟨rfl, hP1⟩
        have XP1 := hide (DPost.trans (unhide HK).2.1 (unhide HK).2.2 hP1)
        clear hP1 HLY cb cj cg
        by_cases he : (layR s' rk).1 = 0
        ·have XI := hide (show CmI base b v s R y9 (k + 1) z1 from ⟨_, unhide XP1, layR_sane rk s' (unhide HSS), by rw [unhide HE, unhide HST, if_pos he], by have := layR_pend rk s'; have := unhide HNK; omega, by have := layR_acts rk s'; have := unhide HNK; omega⟩)
         rw [he]
         clear XP1 HK he HE HST HKE HKO HPW
         go_wp2
         go_roundw
         case rel => exact ⟨k + 1, by omega, by go_num, unhide XI⟩
         case measure => simp [intOf]; omega
        ·have hcr2 : commitR s nx false l = ⟨(layR s' rk).1, (layR s' rk).2, nx, true⟩ := by rw [unhide HCR, unhide HE, unhide HST, if_neg he, if_neg he]
         have HCR2 := hide hcr2
         have hne : ((layR s' rk).1 != 0) = true := by simp [he]
         generalize (layR s' rk).1 = E at *
         generalize (layR s' rk).2 = S2 at *
         obtain ⟨zr, zb, ze, zo⟩ := (unhide HCW).keep (unhide HLT) (unhide XP1).onlyW (fun hb => ((Only.of_below (P := fun _ => False) hb).mono (fun _ _ q => q.elim)).trans (unhide XP1).onlyW (fun _ _ q => q))
         have HC1 := hide (commit1F_any z1 jb b nx false (Blk.only (unhide HJ).1 zo (unhide HJ).2.1) w.heap.size ge (zb.cell 0) (ze.cell 0))
         clear hcr2 HK HE HST zr zb ze zo he HKE HKO HPW
         go_wp2
         refine leaves_cons (f := 82) (args := #[.pointer (some ⟨w.heap.size, 0, none⟩), .pointer (some ⟨ge, 0, none⟩)]) (by simp) (by simp [go_sem]) ?_
         refine (unhide HC1).mono ?_
         rintro e u' wF ⟨rfl, rfl, rfl⟩
         refine ⟨_, results_tmp rfl _ _ _, ?_⟩
         rw [unhide HCR2]
         exact ⟨rfl, finF (unhide HBW) (unhide XP1) (unhide HJ).1 (unhide HJ).2.1⟩
       ·have hk' : k = 4 := by omega
        subst hk'
        have hE2 : runsR s R = (0, s') := by rw [unhide HE, List.drop_of_length_le (by rw [unhide HR4]; exact Nat.le_refl _)]; rfl
        have hcr2 : commitR s nx false l = ⟨0, s', (nx + 1) % 4294967296, false⟩ := by rw [unhide HCR, hE2, if_pos rfl]
        have HCR2 := hide hcr2
        have e0 : wo.cell? ⟨ge, 0, none⟩ = some (.bool false) := (unhide HKE).1.cell 0
        have f0 : wo.frozen? ⟨ge, 0, none⟩ = false := (unhide HKE).1.frozen 0
        have hgl := (unhide HCW).ended.lt
        have hge2 := (unhide HCW).le
        have hjg : jb ≠ ge := by have := (unhide HJ).2.2; omega
        have zo : Only (fun q => q = ge) wo (wo.setCell ⟨ge, 0, none⟩ (.bool true)) := (Only.refl _ wo).setCell _ _ (fun _ => rfl)
        have hwg := unhide HWG
        have HC1 := hide (commit1T_any (wo.setCell ⟨ge, 0, none⟩ (.bool true)) jb b nx false (Blk.only Jo zo hjg) w.heap.size ge (((unhide HKE).2.only zo hwg).cell 0) (by rw [((unhide HKE).1.set 0 (.bool true)).cell 0]; rfl))
        have HFN := hide (finT (m := (nx + 1) % 4294967296) (unhide HBW) (unhide HPW) (unhide HJ).1 (unhide HJ).2.1 (unhide HLT) hge2 hgl)
        clear hcr2 hE2 HE kr Jo zo hjg hwg hgl hge2 HK
        generalize (nx + 1) % 4294967296 = m at *
        go_wp2
        refine leaves_cons (f := 82) (args := #[.pointer (some ⟨w.heap.size, 0, none⟩), .pointer (some ⟨ge, 0, none⟩)]) (by simp) (by simp [go_sem]) ?_
        refine (unhide HC1).mono ?_
        rintro e u' wF ⟨rfl, rfl, rfl⟩
        refine ⟨_, results_tmp rfl _ _ _, ?_⟩
        rw [unhide HCR2]
        exact ⟨rfl, unhide HFN⟩
     ·simp only [List.getElem_toArray, List.getElem_cons_succ, List.getElem_cons_zero]
      go_simp
      obtain ⟨z6, hz⟩ : ∃ x, x = z5.alloc (Obj.cells #[.int .i64 1, .string hc] 76) := ⟨_, rfl⟩
      obtain ⟨BZ, hbz, -⟩ := blk_at1 z5 _ _ z6 hz
      rw [← hz]
      replace hz := hide hz
      have HBz6 := hide ((unhide HBz5).trans ((hbz).mono (unhide HBz5).size))
      replace BC := hide ((unhide BC).below (hbz) (unhide BC).lt)
      replace BE := hide ((unhide BE).below (hbz) (unhide BE).lt)
      replace BA := hide ((unhide BA).below (hbz) (unhide BA).lt)
      have HLD := hide (show w.heap.size ≤ z5.heap.size from by have := (unhide HBz5).size; have := (unhide HSZ3).2.2; omega)
      obtain ⟨gD, hgg⟩ : ∃ g, z5.heap.size = g := ⟨_, rfl⟩
      rw [hgg] at BZ HLD ⊢
      have BD := hide BZ
      clear BZ hbz hgg
      refine hK.out _ _ (unhide HSO _ (unhide HBz6)) (fun hS => ?_)
      clear hK K
      refine wpAnyH_ready (rs := [9]) (by kernel_rfl) (by simp) ?_
      refine AllReadyH.cons rfl (fun K hK => ?_) AllReadyH.nil
      simp only [List.getElem_toArray, List.getElem_cons_succ, List.getElem_cons_zero]
      go_simp
      obtain ⟨z7, hz⟩ : ∃ x, x = z6.alloc (Obj.cells #[.int .i64 1, .string hs] 76) := ⟨_, rfl⟩
      obtain ⟨BZ, hbz, -⟩ := blk_at1 z6 _ _ z7 hz
      rw [← hz]
      replace hz := hide hz
      have HBz7 := hide ((unhide HBz6).trans ((hbz).mono (unhide HBz6).size))
      replace BC := hide ((unhide BC).below (hbz) (unhide BC).lt)
      replace BE := hide ((unhide BE).below (hbz) (unhide BE).lt)
      replace BA := hide ((unhide BA).below (hbz) (unhide BA).lt)
      replace BD := hide ((unhide BD).below (hbz) (unhide BD).lt)
      have HLB := hide (show w.heap.size ≤ z6.heap.size from by have := (unhide HBz6).size; have := (unhide HSZ3).2.2; omega)
      obtain ⟨gB, hgg⟩ : ∃ g, z6.heap.size = g := ⟨_, rfl⟩
      rw [hgg] at BZ HLB ⊢
      have BB := hide BZ
      clear BZ hbz hgg
      refine hK.out _ _ (unhide HSO _ (unhide HBz7)) (fun hS => ?_)
      clear hK K
      refine wpAnyH_ready (rs := [18]) (by kernel_rfl) (by simp) ?_
      refine AllReadyH.cons rfl (fun K hK => ?_) AllReadyH.nil
      simp only [List.getElem_toArray, List.getElem_cons_succ, List.getElem_cons_zero]
      go_simp
      obtain ⟨y9, hy9⟩ : ∃ x, x = z7.alloc (Obj.cells #[.slice (some ⟨y0.heap.size, 0, none⟩) 16 16, .slice (some ⟨gB, 0, none⟩) 1 1, .slice (some ⟨gC, 0, none⟩) 16 16, .slice (some ⟨gD, 0, none⟩) 1 1] 72) := ⟨_, rfl⟩
      obtain ⟨BR9, hb9, -⟩ := blk_at1 z7 _ _ y9 hy9
      have HBy9 := hide ((unhide HBz7).trans ((hb9).mono (unhide HBz7).size))
      replace BC := hide ((unhide BC).below (hb9) (unhide BC).lt)
      replace BE := hide ((unhide BE).below (hb9) (unhide BE).lt)
      replace BA := hide ((unhide BA).below (hb9) (unhide BA).lt)
      replace BB := hide ((unhide BB).below (hb9) (unhide BB).lt)
      replace BD := hide ((unhide BD).below (hb9) (unhide BD).lt)
      have BR := hide BR9
      rw [← hy9]
      replace hy9 := hide hy9
      have HLR := hide (show w.heap.size ≤ z7.heap.size from by have := (unhide HBz7).size; have := (unhide HSZ3).2.2; omega)
      clear BR9 hb9
      refine hK.out _ _ (unhide HSO _ (unhide HBy9)) (fun hS => ?_)
      clear hK K
      refine wpAnyH_takeD 19 (some 49) (.int .i64 4) rfl rfl (by kernel_rfl) (by kernel_rfl) (by kernel_rfl) (fun _ _ _ h => h) (Or.inl ⟨by rfl, fun w hSw => by obtain ⟨q1, q2⟩ := hSw; go_simp⟩) hS ?_
      simp only [Act.put, List.setIfInBounds_toArray, List.set_cons_zero, List.set_cons_succ]
      refine wpAnyH_done (by kernel_rfl) ?_ _
      clear hS
      have HBW := hide ((unhide HB0W).trans ((unhide HBy9).mono (unhide HB0W).size))
      have HCW := hide (CW.make (nx := nx) (jb := jb) (bx := w.heap.size) (unhide H16) (unhide HBW) (unhide BA) (by rw [(unhide HHS).1]; exact unhide BB) (unhide BC) (by rw [(unhide HHS).2]; exact unhide BD) (unhide BR) ((unhide HX0).1.below (unhide HBy9) (by have := (unhide HX0).2.1; omega)) (unhide BE) (unhide HLA) (unhide HLB) (unhide HSZ3).2.1 (unhide HLD) (unhide HLR) (Nat.le_refl _) (unhide HSZ3).1)
      obtain ⟨gR, hgR⟩ : ∃ g, z7.heap.size = g := ⟨_, rfl⟩
      have HWG := hide (show w.heap.size ≠ x2.heap.size from by have := (unhide HB2).size; have := (unhide HX0).2.1; omega)
      obtain ⟨ge, hge⟩ : ∃ g, x2.heap.size = g := ⟨_, rfl⟩
      rw [hge] at HWG
      obtain ⟨R, hRR⟩ : ∃ R, runsOf nx l = R := ⟨_, rfl⟩
      rw [hgR, hge, hRR] at HCW
      rw [hgR, hge]
      rw [hRR] at HCR
      have hR4 : R.length = 4 := by rw [← hRR]; rfl
      have HRL := hide (show ∀ k, k < 4 → (R.getD k []).length ≤ 16 from fun k hk => by
       rw [← hRR]
       obtain q | q | q | q : k = 0 ∨ k = 1 ∨ k = 2 ∨ k = 3 := by omega
       ·subst q; rw [getD0, recL_len, unhide HF16]; decide
       ·subst q; rw [getD1]; exact (show 1 ≤ 16 by decide)
       ·subst q; rw [getD2, unhide HF16]; decide
       ·subst q; rw [getD3]; exact (show 1 ≤ 16 by decide))
      have HR4 := hide hR4
      have XC0 := hide (show CmI base b v s R y9 0 y9 from ⟨s, DPost.refl ((unhide HD).below (unhide HBW)), unhide HS, rfl, by omega, by omega⟩)
      have HS4 := hide (show base ≤ y9.heap.size from by have := unhide HBB; have := (unhide HBy9).size; omega)
      clear hgR hge hRR hR4 HLA HLB HLD HLR HHS HF16 BC BE BA BB BD BR HCH HWC HFT H16 hSy0
      refine NoPanic.normal ?_
      go_wp2
      go_loopw [50] (fun i wr => ∃ k : Nat, k ≤ 4 ∧ i = .int .i64 (k : Int) ∧ CmI base b v s R y9 k wr) (fun i _ => 4 - (intOf i).toNat)
      case atStart => exact ⟨0, by omega, rfl, unhide XC0⟩
      case round =>
       obtain ⟨k, hk, rfl, s', hP, hS', hE, hp', ha'⟩ := hrel
       obtain ⟨wo, rfl⟩ : ∃ wo, wo = wr := ⟨_, rfl⟩
       obtain ⟨kr, kb, ke, ko⟩ := (unhide HCW).keep (unhide HLT) hP.onlyW (fun hb => ((Only.of_below (P := fun _ => False) hb).mono (fun _ _ q => q.elim)).trans hP.onlyW (fun _ _ q => q))
       have Jo : Jb wo jb b nx false := Blk.only (unhide HJ).1 ko (unhide HJ).2.1
       have cb : wo.cell? ⟨w.heap.size, 0, none⟩ = some (.pointer (some ⟨jb, 0, none⟩)) := kb.cell 0
       have cj : wo.cell? ⟨jb, 0, none⟩ = some (.pointer (some ⟨b, 0, none⟩)) := Blk.cell Jo 0
       have HE := hide hE
       have HSS := hide hS'
       have hP2 := hP
       have HPW := hide hP2
       obtain ⟨v', k1, k2, k3⟩ := hP
       have HKO := hide ko
       have HK := hide (And.intro k1 (And.intro k2 k3))
       have HKE := hide (And.intro ke kb)
       clear XC0 hE hS' hP2 k1 k2 k3 ke kb ko
       by_cases hk4 : k < 4
       ·obtain ⟨g, cg, hg, hgl, hlg⟩ := kr k hk4
        have hst := runsR_drop s' R k (by rw [unhide HR4]; exact hk4)
        have hrl := unhide HRL k hk4
        obtain ⟨rk, hrk⟩ : ∃ rk, R.getD k [] = rk := ⟨_, rfl⟩
        rw [hrk] at cg hlg hst hrl
        obtain ⟨nk, hnk⟩ : ∃ nk, nk = rk.length := ⟨_, rfl⟩
        rw [← hnk] at cg hrl
        have HST := hide hst
        have HNK := hide hnk
        have hfr : ∀ g' o', (some ⟨g, 0, none⟩ : Option Addr) = some ⟨g', o', none⟩ → ¬ Fd b v' g' := fun g' o' e q => by
         cases e
         rcases (unhide HK).2.2 g q with q | q
         ·have := unhide HLT g q; omega
         ·omega
        have HLY := hide (jlay_any wo base b v' s' (unhide HK).1 (Nat.le_trans (unhide HS4) (unhide HK).2.1.size) (unhide HSS) (some ⟨g, 0, none⟩) nk rk nk hnk hlg hfr (by omega) (by omega))
        clear kr hst hlg hfr hnk hrk Jo
        have i0 : 0 ≤ (k : Int) := by omega
        have i1 : (k : Int) < 4 := by omega
        go_wp2_with fail
        refine (unhide HLY).mono ?_
        rintro ev z1 ⟨rfl, hP1⟩
        have XP1 := hide (DPost.trans (unhide HK).2.1 (unhide HK).2.2 hP1)
        clear hP1 HLY cb cj cg
        by_cases he : (layR s' rk).1 = 0
        ·have XI := hide (show CmI base b v s R y9 (k + 1) z1 from ⟨_, unhide XP1, layR_sane rk s' (unhide HSS), by rw [unhide HE, unhide HST, if_pos he], by have := layR_pend rk s'; have := unhide HNK; omega, by have := layR_acts rk s'; have := unhide HNK; omega⟩)
         rw [he]
         clear XP1 HK he HE HST HKE HKO HPW
         go_wp2
         go_roundw
         case rel => exact ⟨k + 1, by omega, by go_num, unhide XI⟩
         case measure => simp [intOf]; omega
        ·have hcr2 : commitR s nx false l = ⟨(layR s' rk).1, (layR s' rk).2, nx, true⟩ := by rw [unhide HCR, unhide HE, unhide HST, if_neg he, if_neg he]
         have HCR2 := hide hcr2
         have hne : ((layR s' rk).1 != 0) = true := by simp [he]
         generalize (layR s' rk).1 = E at *
         generalize (layR s' rk).2 = S2 at *
         obtain ⟨zr, zb, ze, zo⟩ := (unhide HCW).keep (unhide HLT) (unhide XP1).onlyW (fun hb => ((Only.of_below (P := fun _ => False) hb).mono (fun _ _ q => q.elim)).trans (unhide XP1).onlyW (fun _ _ q => q))
         have HC1 := hide (commit1F_any z1 jb b nx false (Blk.only (unhide HJ).1 zo (unhide HJ).2.1) w.heap.size ge (zb.cell 0) (ze.cell 0))
         clear hcr2 HK HE HST zr zb ze zo he HKE HKO HPW
         go_wp2
         refine leaves_cons (f := 82) (args := #[.pointer (some ⟨w.heap.size, 0, none⟩), .pointer (some ⟨ge, 0, none⟩)]) (by simp) (by simp [go_sem]) ?_
         refine (unhide HC1).mono ?_
         rintro e u' wF ⟨rfl, rfl, rfl⟩
         refine ⟨_, results_tmp rfl _ _ _, ?_⟩
         rw [unhide HCR2]
         exact ⟨rfl, finF (unhide HBW) (unhide XP1) (unhide HJ).1 (unhide HJ).2.1⟩
       ·have hk' : k = 4 := by omega
        subst hk'
        have hE2 : runsR s R = (0, s') := by rw [unhide HE, List.drop_of_length_le (by rw [unhide HR4]; exact Nat.le_refl _)]; rfl
        have hcr2 : commitR s nx false l = ⟨0, s', (nx + 1) % 4294967296, false⟩ := by rw [unhide HCR, hE2, if_pos rfl]
        have HCR2 := hide hcr2
        have e0 : wo.cell? ⟨ge, 0, none⟩ = some (.bool false) := (unhide HKE).1.cell 0
        have f0 : wo.frozen? ⟨ge, 0, none⟩ = false := (unhide HKE).1.frozen 0
        have hgl := (unhide HCW).ended.lt
        have hge2 := (unhide HCW).le
        have hjg : jb ≠ ge := by have := (unhide HJ).2.2; omega
        have zo : Only (fun q => q = ge) wo (wo.setCell ⟨ge, 0, none⟩ (.bool true)) := (Only.refl _ wo).setCell _ _ (fun _ => rfl)
        have hwg := unhide HWG
        have HC1 := hide (commit1T_any (wo.setCell ⟨ge, 0, none⟩ (.bool true)) jb b nx false (Blk.only Jo zo hjg) w.heap.size ge (((unhide HKE).2.only zo hwg).cell 0) (by rw [((unhide HKE).1.set 0 (.bool true)).cell 0]; rfl))
        have HFN := hide (finT (m := (nx + 1) % 4294967296) (unhide HBW) (unhide HPW) (unhide HJ).1 (unhide HJ).2.1 (unhide HLT) hge2 hgl)
        clear hcr2 hE2 HE kr Jo zo hjg hwg hgl hge2 HK
        generalize (nx + 1) % 4294967296 = m at *
        go_wp2
        refine leaves_cons (f := 82) (args := #[.pointer (some ⟨w.heap.size, 0, none⟩), .pointer (some ⟨ge, 0, none⟩)]) (by simp) (by simp [go_sem]) ?_
        refine (unhide HC1).mono ?_
        rintro e u' wF ⟨rfl, rfl, rfl⟩
        refine ⟨_, results_tmp rfl _ _ _, ?_⟩
        rw [unhide HCR2]
        exact ⟨rfl, unhide HFN⟩
 ·have hcr : commitR s nx lost l = ⟨refE l sz, s, nx, lost⟩ := by rw [commitR, unhide HSZE, if_pos (by simpa using hr)]
  have HCR := hide hcr
  have hne : (refE l sz != 0) = true := by simp [hr]
  generalize refE l sz = E at *
  clear hcr hr
  go_wp2
  refine ⟨_, results_tmp rfl _ _ _, ?_⟩
  rw [unhide HCR]
  exact ⟨rfl, fin0 ((unhide HB0W).trans ((unhide HB2).mono (unhide HB0W).size)) (unhide HD) (unhide HJ).1⟩
end Go.Proofs.YtiellebdliifdaaGreatDoor
