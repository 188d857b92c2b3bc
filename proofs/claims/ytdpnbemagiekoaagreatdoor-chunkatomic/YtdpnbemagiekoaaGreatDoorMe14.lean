import Derived.Test.YtdpnbemagiekoaaGreatDoorMe11
import Derived.Deep.RegionHeld3
namespace Go.Proofs.YtdpnbemagiekoaaGreatDoor
open List renaming getElem_toArray -> lD, getElem_cons_succ -> lE, getElem_cons_zero -> lF
section
open Go.RowKit
theorem zBf (x : World) (T : TypeId) (cur : Array Value) (y : World) (hy : y = x.alloc (Obj.cells cur T)) : Blk y x.heap.size cur T /\ Below x.heap.size x y /\ y.heap.size = x.heap.size + 1 := by
 subst hy
 exact ⟨Blk.new x T cur, (Below.refl _ x).alloc (Nat.le_refl _) _, by simp⟩
set_option maxRecDepth 100000 in
set_option maxHeartbeats 4000000 in
theorem zIS (w : World) (base b jb nx : Nat) (v : DV) (s : DSt) (lost : Bool) (h : Dk w base b v s) (hJ : Jb w jb b nx lost) (hjb : ¬ Fd b v jb) (hb : base <= w.heap.size) (hS : Sane s) (hnx : nx < 4294967296) (p : Option Addr) (c : Nat) (l : List Wr1) (n : Nat) (hn : n = l.length) (hl : Wls w p l) (hp : s.pend.length <= 1000000) (ha : s.acts.length <= 100000000) :
  Calls Tryz.prog 55 #[.pointer (some ⟨jb, 0, none⟩), .slice p n c] w fun e w' => e = .returned (.int .i64 (zAm s nx lost l).e) /\ zMK base b jb v (zAm s nx lost l).s (zAm s nx lost l).nx (zAm s nx lost l).lost w w' := by
 have hlt : ∀ k, Fd b v k -> k < w.heap.size := fun k hk => (h.fd k hk).2
 have hjl : jb < w.heap.size := Blk.lt hJ
 obtain ⟨x0, hx0⟩ : ∃ x, x = w.alloc (Obj.cells #[.pointer (some ⟨jb, 0, none⟩)] 79) := ⟨_, rfl⟩
 obtain ⟨BX0, hB0, hs0⟩ := zBf w _ _ x0 hx0
 have hbn : base <= x0.heap.size := by omega
 have c0 : x0.cell? ⟨w.heap.size, 0, none⟩ = some (.pointer (some ⟨jb, 0, none⟩)) := BX0.cell 0
 have J0 : Jb x0 jb b nx lost := Blk.below hJ hB0 hjl
 have j0 : x0.cell? ⟨jb, 0, none⟩ = some (.pointer (some ⟨b, 0, none⟩)) := Blk.cell J0 0
 have D0 : Dk x0 base b v s := h.below hB0
 have j0w : w.cell? ⟨jb, 0, none⟩ = some (.pointer (some ⟨b, 0, none⟩)) := Blk.cell hJ 0
 have hjne : jb ≠ w.heap.size := by omega
 have hjl2 : jb < w.heap.size := hjl
 have HSZ := uB (zEk x0 base b v s D0)
 have HRF := uB (zH5 x0 p c l n hn (hl.below hB0) (s.last.length : Int))
 have HD := uB h
 have HJ := uB (And.intro hJ (And.intro hjb hjl))
 have HL := uB hl
 have HN := uB hn
 have HS := uB hS
 have HLT := uB hlt
 have HB0W := uB hB0
 have HX0 := uB (And.intro BX0 (And.intro hs0 J0))
 have HBB := uB hbn
 have hcap := hS.cap
 have HCAP := uB hcap
 clear h hJ hjb hl hn hS hlt hB0 BX0 hs0 J0 D0 hjl hbn hcap
 obtain ⟨sz, hsz⟩ : ∃ sz, (s.last.length : Int) = sz := ⟨_, rfl⟩
 rw [hsz] at HSZ HRF
 have HSZE := uB hsz
 clear hsz
 go_enter_defers Tryz.func55, Tryz.ntmps55
 go_wp2_with fail
 rw [<- hx0]
 replace hx0 := uB hx0
 refine (uA HSZ).mono ?_
 rintro ev x1 ⟨rfl, rfl⟩
 go_wp2_with fail
 refine (uA HRF).mono ?_
 rintro ev x2 ⟨rfl, hB2⟩
 have HB2 := uB hB2
 clear hB2 c0 j0 HSZ HRF j0w
 by_cases hr : refE l sz = 0
 ·have HR := uB hr
  have BX2 := (uA HX0).1.below (uA HB2) (by have := (uA HX0).2.1; omega)
  have hjl0 : jb < x1.heap.size := Blk.lt (uA HX0).2.2
  have J2 : Jb x2 jb b nx lost := Blk.below (uA HX0).2.2 (uA HB2) hjl0
  have c0 : x2.cell? ⟨w.heap.size, 0, none⟩ = some (.pointer (some ⟨jb, 0, none⟩)) := BX2.cell 0
  have j2 : x2.cell? ⟨jb, 2, none⟩ = some (.bool lost) := Blk.cell J2 2
  rw [hr]
  clear hr BX2 J2 hjl0
  cases lost with
  | true =>
   have hcr : zAm s nx true l = ⟨2, s, nx, true⟩ := by rw [zAm, uA HSZE, if_neg (by rw [uA HR]; simp), if_pos rfl]
   have HCR := uB hcr
   clear hcr
   go_wp2
   refine ⟨_, results_tmp rfl _ _ _, ?_⟩
   rw [uA HCR]
   exact ⟨rfl, fin0 ((uA HB0W).trans ((uA HB2).mono (uA HB0W).size)) (uA HD) (uA HJ).1⟩
  | false =>
   obtain ⟨h16, hfr, _, _⟩ := zM3 l sz (uA HR)
   have hcr : zAm s nx false l = if (zAH s (zAZ nx l)).1 = 0 then ⟨0, (zAH s (zAZ nx l)).2, (nx + 1) % 4294967296, false⟩ else ⟨(zAH s (zAZ nx l)).1, (zAH s (zAZ nx l)).2, nx, true⟩ := by rw [zAm, uA HSZE, if_neg (by rw [uA HR]; simp), if_neg (by decide)]
   have HCR := uB hcr
   have H16 := uB h16
   have HFT := uB (zMe l sz (by have := uA HCAP; have := uA HSZE; omega) hfr)
   clear hcr h16 hfr
   obtain ⟨x3, hx3⟩ : ∃ x, x = x2.alloc (Obj.cells #[.bool false] 4) := ⟨_, rfl⟩
   obtain ⟨BE3, hB3, hs3⟩ := zBf x2 _ _ x3 hx3
   have HB3 := uB ((uA HB2).trans (hB3.mono (uA HB2).size))
   have HBE := uB (And.intro BE3 hs3)
   have HFU := uB (zGH x3 p c l n (uA HN) ((uA HL).below ((uA HB0W).trans ((uA HB3).mono (uA HB0W).size))) (by rw [uA HN]; exact uA H16))
   clear BE3 hB3 hs3
   go_wp2_with fail
   rw [<- hx3]
   replace hx3 := uB hx3
   refine (uA HFU).mono ?_
   rintro ev y0 ⟨gC, hgC, rfl, hBC, hBy⟩
   have HBy0 := uB ((uA HB3).trans (hBy.mono (uA HB3).size))
   have BC0 := uB hBC
   have BE0 := uB ((uA HBE).1.below hBy (uA HBE).1.lt)
   have HGC := uB hgC
   have hsz0 : x1.heap.size <= x3.heap.size := (uA HB3).size
   have HSZ3 := uB (show w.heap.size <= x2.heap.size /\ w.heap.size <= gC /\ w.heap.size <= x1.heap.size from ⟨by have := (uA HB2).size; have := (uA HX0).2.1; omega, by have := (uA HX0).2.1; omega, by have := (uA HX0).2.1; omega⟩)
   have HSO := uB (show ∀ y, Below x1.heap.size x1 y -> y.cell? ⟨w.heap.size, 0, none⟩ = some (.pointer (some ⟨jb, 0, none⟩)) /\ y.cell? ⟨jb, 1, none⟩ = some (.int .u32 (nx : Int)) from fun y hy =>
    ⟨((uA HX0).1.below hy (by have := (uA HX0).2.1; omega)).cell 0, Blk.cell (Blk.below (uA HX0).2.2 hy (Blk.lt (uA HX0).2.2)) 1⟩)
   have hSy0 := uA HSO _ (uA HBy0)
   clear hBC hBy hgC hsz0 c0 j2 HFU
   go_wp2_with fail
   refine wp_region_noPanic ?_
   refine wp_region_held_drew (S := fun w' => w'.cell? ⟨w.heap.size, 0, none⟩ = some (.pointer (some ⟨jb, 0, none⟩)) /\ w'.cell? ⟨jb, 1, none⟩ = some (.int .u32 (nx : Int))) (by kernel_rfl) hSy0 ?_
   intro hS
   refine yL 0 (some 30) (.slice (some ⟨gC, 0, none⟩) 16 16) rfl (fun w hSw => by obtain ⟨q1, q2⟩ := hSw; go_simp) hS ?_
   refine yL 2 (some 32) (.pointer (some ⟨jb, 0, none⟩)) rfl (fun w hSw => by obtain ⟨q1, q2⟩ := hSw; go_simp) hS ?_
   refine yL 3 (some 33) (.pointer (some ⟨jb, 0, none⟩)) rfl (fun w hSw => by obtain ⟨q1, q2⟩ := hSw; go_simp) hS ?_
   refine yL 4 (some 34) (.pointer (some ⟨jb, 1, none⟩)) rfl (fun w hSw => by obtain ⟨q1, q2⟩ := hSw; go_simp) hS ?_
   refine yL 5 (some 35) (.int .u32 (nx : Int)) rfl (fun w hSw => by obtain ⟨q1, q2⟩ := hSw; go_simp) hS ?_
   refine yL 6 (some 36) (.slice (some ⟨gC, 0, none⟩) 16 16) rfl (fun w hSw => by obtain ⟨q1, q2⟩ := hSw; go_simp) hS ?_
   refine yL 10 (some 40) (.slice (some ⟨gC, 0, none⟩) 16 16) rfl (fun w hSw => by obtain ⟨q1, q2⟩ := hSw; go_simp) hS ?_
   refine yL 11 (some 41) (.pointer (some ⟨jb, 0, none⟩)) rfl (fun w hSw => by obtain ⟨q1, q2⟩ := hSw; go_simp) hS ?_
   refine yL 12 (some 42) (.pointer (some ⟨jb, 0, none⟩)) rfl (fun w hSw => by obtain ⟨q1, q2⟩ := hSw; go_simp) hS ?_
   refine yL 13 (some 43) (.pointer (some ⟨jb, 1, none⟩)) rfl (fun w hSw => by obtain ⟨q1, q2⟩ := hSw; go_simp) hS ?_
   refine yL 14 (some 44) (.int .u32 (nx : Int)) rfl (fun w hSw => by obtain ⟨q1, q2⟩ := hSw; go_simp) hS ?_
   refine yL 20 (some 50) (.int .i64 0) rfl (fun w hSw => by obtain ⟨q1, q2⟩ := hSw; go_simp) hS ?_
   have BC := BC0
   have BE := BE0
   have HF16 := uB (zAO l (uA H16))
   have HAR := uB (zGc y0.drew (some ⟨gC, 0, none⟩) 16 (zAb l) 16 (uA HF16).symm (zBS (show Blk y0.drew gC _ _ from uA BC)) (by rw [uA HF16]; decide))
   refine wpAnyH_ready (rs := [1]) (by kernel_rfl) (by simp) ?_
   refine AllReadyH.cons rfl (fun K hK => ?_) AllReadyH.nil
   simp only [lD, lE, lF]
   go_simp
   refine (uA HAR).mono ?_
   rintro ev y1 ⟨rfl, hA1, hb1⟩
   have hb1' : Below y0.heap.size y0 y1 := ((Below.refl _ y0).drew).trans hb1
   have HBy1 := uB ((uA HBy0).trans ((hb1').mono (uA HBy0).size))
   replace BC := uB ((uA BC).below (hb1') (uA BC).lt)
   replace BE := uB ((uA BE).below (hb1') (uA BE).lt)
   have BA := uB (show Blk y1 y0.heap.size (wrv (recL (zAb l))).toArray 112 from hA1)
   have HLA := uB (show w.heap.size <= y0.heap.size from by have := (uA HBy0).size; have := (uA HSZ3).2.2; omega)
   clear hA1 hb1 hb1' HAR
   refine hK.out _ _ (uA HSO _ (uA HBy1)) (fun hS => ?_)
   clear hK K
   have HSH := uB (zHl (nx : Int) y1 (some ⟨gC, 0, none⟩) 16 (zAb l) 16 (uA HF16).symm (zBS (uA BC)) (by rw [uA HF16]; decide))
   refine wpAnyH_ready (rs := [7]) (by kernel_rfl) (by simp) ?_
   refine AllReadyH.cons rfl (fun K hK => ?_) AllReadyH.nil
   simp only [lD, lE, lF]
   go_simp
   refine (uA HSH).mono ?_
   rintro ev y2 ⟨rfl, hA2, hb2⟩
   have HBy2 := uB ((uA HBy1).trans ((hb2).mono (uA HBy1).size))
   replace BC := uB ((uA BC).below (hb2) (uA BC).lt)
   replace BE := uB ((uA BE).below (hb2) (uA BE).lt)
   replace BA := uB ((uA BA).below (hb2) (uA BA).lt)
   have BH := uB hA2
   clear hA2 hb2 HSH
   refine hK.out _ _ (uA HSO _ (uA HBy2)) (fun hS => ?_)
   clear hK K
   have HWS := uB (zJc nx hnx (some ⟨y1.heap.size + 1, 0, none⟩) 16 y2 (secs (zAb l)) 16 (by simp [secs, uA HF16]) (by decide) (.inr ⟨_, 0, rfl, (uA BH).lt, fun j hj => by rw [Nat.zero_add, (uA BH).cell]; simp [List.getD_eq_getElem?_getD, hj]⟩) (fun k o e => by cases e; exact (uA BH).lt) (uA HFT) (by simp [secs, uA HF16]))
   have HWC := uB (fun (W : World) => zCm nx hnx none 0 W)
   obtain ⟨hs, hhs⟩ : ∃ x, zAq nx (secs (zAb l)) = x := ⟨_, rfl⟩
   obtain ⟨hc, hhc⟩ : ∃ x, zAq nx [] = x := ⟨_, rfl⟩
   rw [hhs] at HWS
   rw [hhc] at HWC
   have HHS := uB (And.intro hhs hhc)
   have HCH := uB (fun (W : World) => zBD (nx : Int) W)
   clear hhs hhc
   refine wpAnyH_ready (rs := [8]) (by kernel_rfl) (by simp) ?_
   refine AllReadyH.cons rfl (fun K hK => ?_) AllReadyH.nil
   simp only [lD, lE, lF]
   go_simp
   refine (uA HWS).mono ?_
   rintro ev y3 ⟨rfl, hb3⟩
   have HBy3 := uB ((uA HBy2).trans ((hb3).mono (uA HBy2).size))
   replace BC := uB ((uA BC).below (hb3) (uA BC).lt)
   replace BE := uB ((uA BE).below (hb3) (uA BE).lt)
   replace BA := uB ((uA BA).below (hb3) (uA BA).lt)
   clear hb3 HWS BH
   refine hK.out _ _ (uA HSO _ (uA HBy3)) (fun hS => ?_)
   clear hK K
   refine wpAnyH_ready (rs := [9, 15]) (by kernel_rfl) (by simp) ?_
   refine AllReadyH.cons rfl (fun K hK => ?_) (AllReadyH.cons rfl (fun K hK => ?_) AllReadyH.nil)
   ·simp only [lD, lE, lF]
    go_simp
    obtain ⟨z4, hz⟩ : ∃ x, x = y3.alloc (Obj.cells #[.int .i64 1, .string hs] 112) := ⟨_, rfl⟩
    obtain ⟨BZ, hbz, -⟩ := zBf y3 _ _ z4 hz
    rw [<- hz]
    replace hz := uB hz
    have HBz4 := uB ((uA HBy3).trans ((hbz).mono (uA HBy3).size))
    replace BC := uB ((uA BC).below (hbz) (uA BC).lt)
    replace BE := uB ((uA BE).below (hbz) (uA BE).lt)
    replace BA := uB ((uA BA).below (hbz) (uA BA).lt)
    have HLB := uB (show w.heap.size <= y3.heap.size from by have := (uA HBy3).size; have := (uA HSZ3).2.2; omega)
    obtain ⟨gB, hgg⟩ : ∃ g, y3.heap.size = g := ⟨_, rfl⟩
    rw [hgg] at BZ HLB ⊢
    have BB := uB BZ
    clear BZ hbz hgg
    refine hK.out _ _ (uA HSO _ (uA HBz4)) (fun hS => ?_)
    clear hK K
    refine wpAnyH_ready (rs := [15]) (by kernel_rfl) (by simp) ?_
    refine AllReadyH.cons rfl (fun K hK => ?_) AllReadyH.nil
    simp only [lD, lE, lF]
    go_simp
    refine (uA HCH _).mono ?_
    rintro ev z5 ⟨rfl, hbz⟩
    have HBz5 := uB ((uA HBz4).trans ((hbz).mono (uA HBz4).size))
    replace BC := uB ((uA BC).below (hbz) (uA BC).lt)
    replace BE := uB ((uA BE).below (hbz) (uA BE).lt)
    replace BA := uB ((uA BA).below (hbz) (uA BA).lt)
    replace BB := uB ((uA BB).below (hbz) (uA BB).lt)
    clear hbz
    refine hK.out _ _ (uA HSO _ (uA HBz5)) (fun hS => ?_)
    clear hK K
    refine wpAnyH_ready (rs := [16]) (by kernel_rfl) (by simp) ?_
    refine AllReadyH.cons rfl (fun K hK => ?_) AllReadyH.nil
    simp only [lD, lE, lF]
    go_simp
    refine (uA HWC _).mono ?_
    rintro ev z6 ⟨rfl, hbz⟩
    have HBz6 := uB ((uA HBz5).trans ((hbz).mono (uA HBz5).size))
    replace BC := uB ((uA BC).below (hbz) (uA BC).lt)
    replace BE := uB ((uA BE).below (hbz) (uA BE).lt)
    replace BA := uB ((uA BA).below (hbz) (uA BA).lt)
    replace BB := uB ((uA BB).below (hbz) (uA BB).lt)
    clear hbz
    refine hK.out _ _ (uA HSO _ (uA HBz6)) (fun hS => ?_)
    clear hK K
    refine wpAnyH_ready (rs := [17]) (by kernel_rfl) (by simp) ?_
    refine AllReadyH.cons rfl (fun K hK => ?_) AllReadyH.nil
    simp only [lD, lE, lF]
    go_simp
    obtain ⟨z7, hz⟩ : ∃ x, x = z6.alloc (Obj.cells #[.int .i64 1, .string hc] 112) := ⟨_, rfl⟩
    obtain ⟨BZ, hbz, -⟩ := zBf z6 _ _ z7 hz
    rw [<- hz]
    replace hz := uB hz
    have HBz7 := uB ((uA HBz6).trans ((hbz).mono (uA HBz6).size))
    replace BC := uB ((uA BC).below (hbz) (uA BC).lt)
    replace BE := uB ((uA BE).below (hbz) (uA BE).lt)
    replace BA := uB ((uA BA).below (hbz) (uA BA).lt)
    replace BB := uB ((uA BB).below (hbz) (uA BB).lt)
    have HLD := uB (show w.heap.size <= z6.heap.size from by have := (uA HBz6).size; have := (uA HSZ3).2.2; omega)
    obtain ⟨gD, hgg⟩ : ∃ g, z6.heap.size = g := ⟨_, rfl⟩
    rw [hgg] at BZ HLD ⊢
    have BD := uB BZ
    clear BZ hbz hgg
    refine hK.out _ _ (uA HSO _ (uA HBz7)) (fun hS => ?_)
    clear hK K
    refine wpAnyH_ready (rs := [18]) (by kernel_rfl) (by simp) ?_
    refine AllReadyH.cons rfl (fun K hK => ?_) AllReadyH.nil
    simp only [lD, lE, lF]
    go_simp
    obtain ⟨y9, hy9⟩ : ∃ x, x = z7.alloc (Obj.cells #[.slice (some ⟨y0.heap.size, 0, none⟩) 16 16, .slice (some ⟨gB, 0, none⟩) 1 1, .slice (some ⟨gC, 0, none⟩) 16 16, .slice (some ⟨gD, 0, none⟩) 1 1] 63) := ⟨_, rfl⟩
    obtain ⟨BR9, hb9, -⟩ := zBf z7 _ _ y9 hy9
    have HBy9 := uB ((uA HBz7).trans ((hb9).mono (uA HBz7).size))
    replace BC := uB ((uA BC).below (hb9) (uA BC).lt)
    replace BE := uB ((uA BE).below (hb9) (uA BE).lt)
    replace BA := uB ((uA BA).below (hb9) (uA BA).lt)
    replace BB := uB ((uA BB).below (hb9) (uA BB).lt)
    replace BD := uB ((uA BD).below (hb9) (uA BD).lt)
    have BR := uB BR9
    rw [<- hy9]
    replace hy9 := uB hy9
    have HLR := uB (show w.heap.size <= z7.heap.size from by have := (uA HBz7).size; have := (uA HSZ3).2.2; omega)
    clear BR9 hb9
    refine hK.out _ _ (uA HSO _ (uA HBy9)) (fun hS => ?_)
    clear hK K
    refine yL 19 (some 49) (.int .i64 4) rfl (fun w hSw => by obtain ⟨q1, q2⟩ := hSw; go_simp) hS ?_
    refine wpAnyH_done (by kernel_rfl) ?_ _
    clear hS
    have HBW := uB ((uA HB0W).trans ((uA HBy9).mono (uA HB0W).size))
    have HCW := uB (CW.make (nx := nx) (jb := jb) (bx := w.heap.size) (uA H16) (uA HBW) (uA BA) (by rw [(uA HHS).1]; exact uA BB) (uA BC) (by rw [(uA HHS).2]; exact uA BD) (uA BR) ((uA HX0).1.below (uA HBy9) (by have := (uA HX0).2.1; omega)) (uA BE) (uA HLA) (uA HLB) (uA HSZ3).2.1 (uA HLD) (uA HLR) (Nat.le_refl _) (uA HSZ3).1)
    obtain ⟨gR, hgR⟩ : ∃ g, z7.heap.size = g := ⟨_, rfl⟩
    have HWG := uB (show w.heap.size ≠ x2.heap.size from by have := (uA HB2).size; have := (uA HX0).2.1; omega)
    obtain ⟨ge, hge⟩ : ∃ g, x2.heap.size = g := ⟨_, rfl⟩
    rw [hge] at HWG
    obtain ⟨R, hRR⟩ : ∃ R, zAZ nx l = R := ⟨_, rfl⟩
    rw [hgR, hge, hRR] at HCW
    rw [hgR, hge]
    rw [hRR] at HCR
    have hR4 : R.length = 4 := by rw [<- hRR]; rfl
    have HRL := uB (show ∀ k, k < 4 -> (R.getD k []).length <= 16 from fun k hk => by
     rw [<- hRR]
     obtain q | q | q | q : k = 0 ∨ k = 1 ∨ k = 2 ∨ k = 3 := by omega
     ·subst q; rw [zKt, zBu, uA HF16]; decide
     ·subst q; rw [zKX]; exact (show 1 <= 16 by decide)
     ·subst q; rw [zKU, uA HF16]; decide
     ·subst q; rw [zKJ]; exact (show 1 <= 16 by decide))
    have HR4 := uB hR4
    have XC0 := uB (show CmI base b v s R y9 0 y9 from ⟨s, DPost.refl ((uA HD).below (uA HBW)), uA HS, rfl, by omega, by omega⟩)
    have HS4 := uB (show base <= y9.heap.size from by have := uA HBB; have := (uA HBy9).size; omega)
    clear hgR hge hRR hR4 HLA HLB HLD HLR HHS HF16 BC BE BA BB BD BR HCH HWC HFT H16 hSy0
    refine NoPanic.normal ?_
    go_wp2
    go_loopw [50] (fun i wr => ∃ k : Nat, k <= 4 /\ i = .int .i64 (k : Int) /\ CmI base b v s R y9 k wr) (fun i _ => 4 - (intOf i).toNat)
    case atStart => exact ⟨0, by omega, rfl, uA XC0⟩
    case round =>
     obtain ⟨k, hk, rfl, s', hP, hS', hE, hp', ha'⟩ := hrel
     obtain ⟨wo, rfl⟩ : ∃ wo, wo = wr := ⟨_, rfl⟩
     obtain ⟨kr, kb, ke, ko⟩ := (uA HCW).keep (uA HLT) hP.onlyW (fun hb => ((Only.of_below (P := fun _ => False) hb).mono (fun _ _ q => q.elim)).trans hP.onlyW (fun _ _ q => q))
     have Jo : Jb wo jb b nx false := Blk.only (uA HJ).1 ko (uA HJ).2.1
     have cb : wo.cell? ⟨w.heap.size, 0, none⟩ = some (.pointer (some ⟨jb, 0, none⟩)) := kb.cell 0
     have cj : wo.cell? ⟨jb, 0, none⟩ = some (.pointer (some ⟨b, 0, none⟩)) := Blk.cell Jo 0
     have HE := uB hE
     have HSS := uB hS'
     have hP2 := hP
     have HPW := uB hP2
     obtain ⟨v', k1, k2, k3⟩ := hP
     have HKO := uB ko
     have HK := uB (And.intro k1 (And.intro k2 k3))
     have HKE := uB (And.intro ke kb)
     clear XC0 hE hS' hP2 k1 k2 k3 ke kb ko
     by_cases hk4 : k < 4
     ·obtain ⟨g, cg, hg, hgl, hlg⟩ := kr k hk4
      have hst := zCD s' R k (by rw [uA HR4]; exact hk4)
      have hrl := uA HRL k hk4
      obtain ⟨rk, hrk⟩ : ∃ rk, R.getD k [] = rk := ⟨_, rfl⟩
      rw [hrk] at cg hlg hst hrl
      obtain ⟨nk, hnk⟩ : ∃ nk, nk = rk.length := ⟨_, rfl⟩
      rw [<- hnk] at cg hrl
      have HST := uB hst
      have HNK := uB hnk
      have hfr : ∀ g' o', (some ⟨g, 0, none⟩ : Option Addr) = some ⟨g', o', none⟩ -> ¬ Fd b v' g' := fun g' o' e q => by
       cases e
       rcases (uA HK).2.2 g q with q | q
       ·have := uA HLT g q; omega
       ·omega
      have HLY := uB (zB4 wo base b v' s' (uA HK).1 (Nat.le_trans (uA HS4) (uA HK).2.1.size) (uA HSS) (some ⟨g, 0, none⟩) nk rk nk hnk hlg hfr (by omega) (by omega))
      clear kr hst hlg hfr hnk hrk Jo
      have i0 : 0 <= (k : Int) := by omega
      have i1 : (k : Int) < 4 := by omega
      go_wp2_with fail
      refine (uA HLY).mono ?_
      rintro ev z1 ⟨rfl, hP1⟩
      have XP1 := uB (DPost.trans (uA HK).2.1 (uA HK).2.2 hP1)
      clear hP1 HLY cb cj cg
      by_cases he : (layR s' rk).1 = 0
      ·have XI := uB (show CmI base b v s R y9 (k + 1) z1 from ⟨_, uA XP1, zAX rk s' (uA HSS), by rw [uA HE, uA HST, if_pos he], by have := zCg rk s'; have := uA HNK; omega, by have := zCi rk s'; have := uA HNK; omega⟩)
       rw [he]
       clear XP1 HK he HE HST HKE HKO HPW
       go_wp2
       go_roundw
       case rel => exact ⟨k + 1, by omega, by go_num, uA XI⟩
       case measure => simp [intOf]; omega
      ·have hcr2 : zAm s nx false l = ⟨(layR s' rk).1, (layR s' rk).2, nx, true⟩ := by rw [uA HCR, uA HE, uA HST, if_neg he, if_neg he]
       have HCR2 := uB hcr2
       have hne : ((layR s' rk).1 != 0) = true := by simp [he]
       generalize (layR s' rk).1 = E at *
       generalize (layR s' rk).2 = S2 at *
       obtain ⟨zr, zb, ze, zo⟩ := (uA HCW).keep (uA HLT) (uA XP1).onlyW (fun hb => ((Only.of_below (P := fun _ => False) hb).mono (fun _ _ q => q.elim)).trans (uA XP1).onlyW (fun _ _ q => q))
       have HC1 := uB (zBO z1 jb b nx false (Blk.only (uA HJ).1 zo (uA HJ).2.1) w.heap.size ge (zb.cell 0) (ze.cell 0))
       clear hcr2 HK HE HST zr zb ze zo he HKE HKO HPW
       go_wp2
       refine leaves_cons (f := 115) (args := #[.pointer (some ⟨w.heap.size, 0, none⟩), .pointer (some ⟨ge, 0, none⟩)]) (by simp) (by simp [go_sem]) ?_
       refine (uA HC1).mono ?_
       rintro e u' wF ⟨rfl, rfl, rfl⟩
       refine ⟨_, results_tmp rfl _ _ _, ?_⟩
       rw [uA HCR2]
       exact ⟨rfl, finF (uA HBW) (uA XP1) (uA HJ).1 (uA HJ).2.1⟩
     ·have hk' : k = 4 := by omega
      subst hk'
      have hE2 : zAH s R = (0, s') := by rw [uA HE, List.drop_of_length_le (by rw [uA HR4]; exact Nat.le_refl _)]; rfl
      have hcr2 : zAm s nx false l = ⟨0, s', (nx + 1) % 4294967296, false⟩ := by rw [uA HCR, hE2, if_pos rfl]
      have HCR2 := uB hcr2
      have e0 : wo.cell? ⟨ge, 0, none⟩ = some (.bool false) := (uA HKE).1.cell 0
      have f0 : wo.frozen? ⟨ge, 0, none⟩ = false := (uA HKE).1.frozen 0
      have hgl := (uA HCW).ended.lt
      have hge2 := (uA HCW).le
      have hjg : jb ≠ ge := by have := (uA HJ).2.2; omega
      have zo : Only (fun q => q = ge) wo (wo.setCell ⟨ge, 0, none⟩ (.bool true)) := (Only.refl _ wo).setCell _ _ (fun _ => rfl)
      have hwg := uA HWG
      have HC1 := uB (zBR (wo.setCell ⟨ge, 0, none⟩ (.bool true)) jb b nx false (Blk.only Jo zo hjg) w.heap.size ge (((uA HKE).2.only zo hwg).cell 0) (by rw [((uA HKE).1.set 0 (.bool true)).cell 0]; rfl))
      have HFN := uB (finT (m := (nx + 1) % 4294967296) (uA HBW) (uA HPW) (uA HJ).1 (uA HJ).2.1 (uA HLT) hge2 hgl)
      clear hcr2 hE2 HE kr Jo zo hjg hwg hgl hge2 HK
      generalize (nx + 1) % 4294967296 = m at *
      go_wp2
      refine leaves_cons (f := 115) (args := #[.pointer (some ⟨w.heap.size, 0, none⟩), .pointer (some ⟨ge, 0, none⟩)]) (by simp) (by simp [go_sem]) ?_
      refine (uA HC1).mono ?_
      rintro e u' wF ⟨rfl, rfl, rfl⟩
      refine ⟨_, results_tmp rfl _ _ _, ?_⟩
      rw [uA HCR2]
      exact ⟨rfl, uA HFN⟩
   ·simp only [lD, lE, lF]
    go_simp
    refine (uA HCH _).mono ?_
    rintro ev z4 ⟨rfl, hbz⟩
    have HBz4 := uB ((uA HBy3).trans ((hbz).mono (uA HBy3).size))
    replace BC := uB ((uA BC).below (hbz) (uA BC).lt)
    replace BE := uB ((uA BE).below (hbz) (uA BE).lt)
    replace BA := uB ((uA BA).below (hbz) (uA BA).lt)
    clear hbz
    refine hK.out _ _ (uA HSO _ (uA HBz4)) (fun hS => ?_)
    clear hK K
    refine wpAnyH_ready (rs := [9, 16]) (by kernel_rfl) (by simp) ?_
    refine AllReadyH.cons rfl (fun K hK => ?_) (AllReadyH.cons rfl (fun K hK => ?_) AllReadyH.nil)
    ·simp only [lD, lE, lF]
     go_simp
     obtain ⟨z5, hz⟩ : ∃ x, x = z4.alloc (Obj.cells #[.int .i64 1, .string hs] 112) := ⟨_, rfl⟩
     obtain ⟨BZ, hbz, -⟩ := zBf z4 _ _ z5 hz
     rw [<- hz]
     replace hz := uB hz
     have HBz5 := uB ((uA HBz4).trans ((hbz).mono (uA HBz4).size))
     replace BC := uB ((uA BC).below (hbz) (uA BC).lt)
     replace BE := uB ((uA BE).below (hbz) (uA BE).lt)
     replace BA := uB ((uA BA).below (hbz) (uA BA).lt)
     have HLB := uB (show w.heap.size <= z4.heap.size from by have := (uA HBz4).size; have := (uA HSZ3).2.2; omega)
     obtain ⟨gB, hgg⟩ : ∃ g, z4.heap.size = g := ⟨_, rfl⟩
     rw [hgg] at BZ HLB ⊢
     have BB := uB BZ
     clear BZ hbz hgg
     refine hK.out _ _ (uA HSO _ (uA HBz5)) (fun hS => ?_)
     clear hK K
     refine wpAnyH_ready (rs := [16]) (by kernel_rfl) (by simp) ?_
     refine AllReadyH.cons rfl (fun K hK => ?_) AllReadyH.nil
     simp only [lD, lE, lF]
     go_simp
     refine (uA HWC _).mono ?_
     rintro ev z6 ⟨rfl, hbz⟩
     have HBz6 := uB ((uA HBz5).trans ((hbz).mono (uA HBz5).size))
     replace BC := uB ((uA BC).below (hbz) (uA BC).lt)
     replace BE := uB ((uA BE).below (hbz) (uA BE).lt)
     replace BA := uB ((uA BA).below (hbz) (uA BA).lt)
     replace BB := uB ((uA BB).below (hbz) (uA BB).lt)
     clear hbz
     refine hK.out _ _ (uA HSO _ (uA HBz6)) (fun hS => ?_)
     clear hK K
     refine wpAnyH_ready (rs := [17]) (by kernel_rfl) (by simp) ?_
     refine AllReadyH.cons rfl (fun K hK => ?_) AllReadyH.nil
     simp only [lD, lE, lF]
     go_simp
     obtain ⟨z7, hz⟩ : ∃ x, x = z6.alloc (Obj.cells #[.int .i64 1, .string hc] 112) := ⟨_, rfl⟩
     obtain ⟨BZ, hbz, -⟩ := zBf z6 _ _ z7 hz
     rw [<- hz]
     replace hz := uB hz
     have HBz7 := uB ((uA HBz6).trans ((hbz).mono (uA HBz6).size))
     replace BC := uB ((uA BC).below (hbz) (uA BC).lt)
     replace BE := uB ((uA BE).below (hbz) (uA BE).lt)
     replace BA := uB ((uA BA).below (hbz) (uA BA).lt)
     replace BB := uB ((uA BB).below (hbz) (uA BB).lt)
     have HLD := uB (show w.heap.size <= z6.heap.size from by have := (uA HBz6).size; have := (uA HSZ3).2.2; omega)
     obtain ⟨gD, hgg⟩ : ∃ g, z6.heap.size = g := ⟨_, rfl⟩
     rw [hgg] at BZ HLD ⊢
     have BD := uB BZ
     clear BZ hbz hgg
     refine hK.out _ _ (uA HSO _ (uA HBz7)) (fun hS => ?_)
     clear hK K
     refine wpAnyH_ready (rs := [18]) (by kernel_rfl) (by simp) ?_
     refine AllReadyH.cons rfl (fun K hK => ?_) AllReadyH.nil
     simp only [lD, lE, lF]
     go_simp
     obtain ⟨y9, hy9⟩ : ∃ x, x = z7.alloc (Obj.cells #[.slice (some ⟨y0.heap.size, 0, none⟩) 16 16, .slice (some ⟨gB, 0, none⟩) 1 1, .slice (some ⟨gC, 0, none⟩) 16 16, .slice (some ⟨gD, 0, none⟩) 1 1] 63) := ⟨_, rfl⟩
     obtain ⟨BR9, hb9, -⟩ := zBf z7 _ _ y9 hy9
     have HBy9 := uB ((uA HBz7).trans ((hb9).mono (uA HBz7).size))
     replace BC := uB ((uA BC).below (hb9) (uA BC).lt)
     replace BE := uB ((uA BE).below (hb9) (uA BE).lt)
     replace BA := uB ((uA BA).below (hb9) (uA BA).lt)
     replace BB := uB ((uA BB).below (hb9) (uA BB).lt)
     replace BD := uB ((uA BD).below (hb9) (uA BD).lt)
     have BR := uB BR9
     rw [<- hy9]
     replace hy9 := uB hy9
     have HLR := uB (show w.heap.size <= z7.heap.size from by have := (uA HBz7).size; have := (uA HSZ3).2.2; omega)
     clear BR9 hb9
     refine hK.out _ _ (uA HSO _ (uA HBy9)) (fun hS => ?_)
     clear hK K
     refine yL 19 (some 49) (.int .i64 4) rfl (fun w hSw => by obtain ⟨q1, q2⟩ := hSw; go_simp) hS ?_
     refine wpAnyH_done (by kernel_rfl) ?_ _
     clear hS
     have HBW := uB ((uA HB0W).trans ((uA HBy9).mono (uA HB0W).size))
     have HCW := uB (CW.make (nx := nx) (jb := jb) (bx := w.heap.size) (uA H16) (uA HBW) (uA BA) (by rw [(uA HHS).1]; exact uA BB) (uA BC) (by rw [(uA HHS).2]; exact uA BD) (uA BR) ((uA HX0).1.below (uA HBy9) (by have := (uA HX0).2.1; omega)) (uA BE) (uA HLA) (uA HLB) (uA HSZ3).2.1 (uA HLD) (uA HLR) (Nat.le_refl _) (uA HSZ3).1)
     obtain ⟨gR, hgR⟩ : ∃ g, z7.heap.size = g := ⟨_, rfl⟩
     have HWG := uB (show w.heap.size ≠ x2.heap.size from by have := (uA HB2).size; have := (uA HX0).2.1; omega)
     obtain ⟨ge, hge⟩ : ∃ g, x2.heap.size = g := ⟨_, rfl⟩
     rw [hge] at HWG
     obtain ⟨R, hRR⟩ : ∃ R, zAZ nx l = R := ⟨_, rfl⟩
     rw [hgR, hge, hRR] at HCW
     rw [hgR, hge]
     rw [hRR] at HCR
     have hR4 : R.length = 4 := by rw [<- hRR]; rfl
     have HRL := uB (show ∀ k, k < 4 -> (R.getD k []).length <= 16 from fun k hk => by
      rw [<- hRR]
      obtain q | q | q | q : k = 0 ∨ k = 1 ∨ k = 2 ∨ k = 3 := by omega
      ·subst q; rw [zKt, zBu, uA HF16]; decide
      ·subst q; rw [zKX]; exact (show 1 <= 16 by decide)
      ·subst q; rw [zKU, uA HF16]; decide
      ·subst q; rw [zKJ]; exact (show 1 <= 16 by decide))
     have HR4 := uB hR4
     have XC0 := uB (show CmI base b v s R y9 0 y9 from ⟨s, DPost.refl ((uA HD).below (uA HBW)), uA HS, rfl, by omega, by omega⟩)
     have HS4 := uB (show base <= y9.heap.size from by have := uA HBB; have := (uA HBy9).size; omega)
     clear hgR hge hRR hR4 HLA HLB HLD HLR HHS HF16 BC BE BA BB BD BR HCH HWC HFT H16 hSy0
     refine NoPanic.normal ?_
     go_wp2
     go_loopw [50] (fun i wr => ∃ k : Nat, k <= 4 /\ i = .int .i64 (k : Int) /\ CmI base b v s R y9 k wr) (fun i _ => 4 - (intOf i).toNat)
     case atStart => exact ⟨0, by omega, rfl, uA XC0⟩
     case round =>
      obtain ⟨k, hk, rfl, s', hP, hS', hE, hp', ha'⟩ := hrel
      obtain ⟨wo, rfl⟩ : ∃ wo, wo = wr := ⟨_, rfl⟩
      obtain ⟨kr, kb, ke, ko⟩ := (uA HCW).keep (uA HLT) hP.onlyW (fun hb => ((Only.of_below (P := fun _ => False) hb).mono (fun _ _ q => q.elim)).trans hP.onlyW (fun _ _ q => q))
      have Jo : Jb wo jb b nx false := Blk.only (uA HJ).1 ko (uA HJ).2.1
      have cb : wo.cell? ⟨w.heap.size, 0, none⟩ = some (.pointer (some ⟨jb, 0, none⟩)) := kb.cell 0
      have cj : wo.cell? ⟨jb, 0, none⟩ = some (.pointer (some ⟨b, 0, none⟩)) := Blk.cell Jo 0
      have HE := uB hE
      have HSS := uB hS'
      have hP2 := hP
      have HPW := uB hP2
      obtain ⟨v', k1, k2, k3⟩ := hP
      have HKO := uB ko
      have HK := uB (And.intro k1 (And.intro k2 k3))
      have HKE := uB (And.intro ke kb)
      clear XC0 hE hS' hP2 k1 k2 k3 ke kb ko
      by_cases hk4 : k < 4
      ·obtain ⟨g, cg, hg, hgl, hlg⟩ := kr k hk4
       have hst := zCD s' R k (by rw [uA HR4]; exact hk4)
       have hrl := uA HRL k hk4
       obtain ⟨rk, hrk⟩ : ∃ rk, R.getD k [] = rk := ⟨_, rfl⟩
       rw [hrk] at cg hlg hst hrl
       obtain ⟨nk, hnk⟩ : ∃ nk, nk = rk.length := ⟨_, rfl⟩
       rw [<- hnk] at cg hrl
       have HST := uB hst
       have HNK := uB hnk
       have hfr : ∀ g' o', (some ⟨g, 0, none⟩ : Option Addr) = some ⟨g', o', none⟩ -> ¬ Fd b v' g' := fun g' o' e q => by
        cases e
        rcases (uA HK).2.2 g q with q | q
        ·have := uA HLT g q; omega
        ·omega
       have HLY := uB (zB4 wo base b v' s' (uA HK).1 (Nat.le_trans (uA HS4) (uA HK).2.1.size) (uA HSS) (some ⟨g, 0, none⟩) nk rk nk hnk hlg hfr (by omega) (by omega))
       clear kr hst hlg hfr hnk hrk Jo
       have i0 : 0 <= (k : Int) := by omega
       have i1 : (k : Int) < 4 := by omega
       go_wp2_with fail
       refine (uA HLY).mono ?_
       rintro ev z1 ⟨rfl, hP1⟩
       have XP1 := uB (DPost.trans (uA HK).2.1 (uA HK).2.2 hP1)
       clear hP1 HLY cb cj cg
       by_cases he : (layR s' rk).1 = 0
       ·have XI := uB (show CmI base b v s R y9 (k + 1) z1 from ⟨_, uA XP1, zAX rk s' (uA HSS), by rw [uA HE, uA HST, if_pos he], by have := zCg rk s'; have := uA HNK; omega, by have := zCi rk s'; have := uA HNK; omega⟩)
        rw [he]
        clear XP1 HK he HE HST HKE HKO HPW
        go_wp2
        go_roundw
        case rel => exact ⟨k + 1, by omega, by go_num, uA XI⟩
        case measure => simp [intOf]; omega
       ·have hcr2 : zAm s nx false l = ⟨(layR s' rk).1, (layR s' rk).2, nx, true⟩ := by rw [uA HCR, uA HE, uA HST, if_neg he, if_neg he]
        have HCR2 := uB hcr2
        have hne : ((layR s' rk).1 != 0) = true := by simp [he]
        generalize (layR s' rk).1 = E at *
        generalize (layR s' rk).2 = S2 at *
        obtain ⟨zr, zb, ze, zo⟩ := (uA HCW).keep (uA HLT) (uA XP1).onlyW (fun hb => ((Only.of_below (P := fun _ => False) hb).mono (fun _ _ q => q.elim)).trans (uA XP1).onlyW (fun _ _ q => q))
        have HC1 := uB (zBO z1 jb b nx false (Blk.only (uA HJ).1 zo (uA HJ).2.1) w.heap.size ge (zb.cell 0) (ze.cell 0))
        clear hcr2 HK HE HST zr zb ze zo he HKE HKO HPW
        go_wp2
        refine leaves_cons (f := 115) (args := #[.pointer (some ⟨w.heap.size, 0, none⟩), .pointer (some ⟨ge, 0, none⟩)]) (by simp) (by simp [go_sem]) ?_
        refine (uA HC1).mono ?_
        rintro e u' wF ⟨rfl, rfl, rfl⟩
        refine ⟨_, results_tmp rfl _ _ _, ?_⟩
        rw [uA HCR2]
        exact ⟨rfl, finF (uA HBW) (uA XP1) (uA HJ).1 (uA HJ).2.1⟩
      ·have hk' : k = 4 := by omega
       subst hk'
       have hE2 : zAH s R = (0, s') := by rw [uA HE, List.drop_of_length_le (by rw [uA HR4]; exact Nat.le_refl _)]; rfl
       have hcr2 : zAm s nx false l = ⟨0, s', (nx + 1) % 4294967296, false⟩ := by rw [uA HCR, hE2, if_pos rfl]
       have HCR2 := uB hcr2
       have e0 : wo.cell? ⟨ge, 0, none⟩ = some (.bool false) := (uA HKE).1.cell 0
       have f0 : wo.frozen? ⟨ge, 0, none⟩ = false := (uA HKE).1.frozen 0
       have hgl := (uA HCW).ended.lt
       have hge2 := (uA HCW).le
       have hjg : jb ≠ ge := by have := (uA HJ).2.2; omega
       have zo : Only (fun q => q = ge) wo (wo.setCell ⟨ge, 0, none⟩ (.bool true)) := (Only.refl _ wo).setCell _ _ (fun _ => rfl)
       have hwg := uA HWG
       have HC1 := uB (zBR (wo.setCell ⟨ge, 0, none⟩ (.bool true)) jb b nx false (Blk.only Jo zo hjg) w.heap.size ge (((uA HKE).2.only zo hwg).cell 0) (by rw [((uA HKE).1.set 0 (.bool true)).cell 0]; rfl))
       have HFN := uB (finT (m := (nx + 1) % 4294967296) (uA HBW) (uA HPW) (uA HJ).1 (uA HJ).2.1 (uA HLT) hge2 hgl)
       clear hcr2 hE2 HE kr Jo zo hjg hwg hgl hge2 HK
       generalize (nx + 1) % 4294967296 = m at *
       go_wp2
       refine leaves_cons (f := 115) (args := #[.pointer (some ⟨w.heap.size, 0, none⟩), .pointer (some ⟨ge, 0, none⟩)]) (by simp) (by simp [go_sem]) ?_
       refine (uA HC1).mono ?_
       rintro e u' wF ⟨rfl, rfl, rfl⟩
       refine ⟨_, results_tmp rfl _ _ _, ?_⟩
       rw [uA HCR2]
       exact ⟨rfl, uA HFN⟩
    ·simp only [lD, lE, lF]
     go_simp
     refine (uA HWC _).mono ?_
     rintro ev z5 ⟨rfl, hbz⟩
     have HBz5 := uB ((uA HBz4).trans ((hbz).mono (uA HBz4).size))
     replace BC := uB ((uA BC).below (hbz) (uA BC).lt)
     replace BE := uB ((uA BE).below (hbz) (uA BE).lt)
     replace BA := uB ((uA BA).below (hbz) (uA BA).lt)
     clear hbz
     refine hK.out _ _ (uA HSO _ (uA HBz5)) (fun hS => ?_)
     clear hK K
     refine wpAnyH_ready (rs := [9, 17]) (by kernel_rfl) (by simp) ?_
     refine AllReadyH.cons rfl (fun K hK => ?_) (AllReadyH.cons rfl (fun K hK => ?_) AllReadyH.nil)
     ·simp only [lD, lE, lF]
      go_simp
      obtain ⟨z6, hz⟩ : ∃ x, x = z5.alloc (Obj.cells #[.int .i64 1, .string hs] 112) := ⟨_, rfl⟩
      obtain ⟨BZ, hbz, -⟩ := zBf z5 _ _ z6 hz
      rw [<- hz]
      replace hz := uB hz
      have HBz6 := uB ((uA HBz5).trans ((hbz).mono (uA HBz5).size))
      replace BC := uB ((uA BC).below (hbz) (uA BC).lt)
      replace BE := uB ((uA BE).below (hbz) (uA BE).lt)
      replace BA := uB ((uA BA).below (hbz) (uA BA).lt)
      have HLB := uB (show w.heap.size <= z5.heap.size from by have := (uA HBz5).size; have := (uA HSZ3).2.2; omega)
      obtain ⟨gB, hgg⟩ : ∃ g, z5.heap.size = g := ⟨_, rfl⟩
      rw [hgg] at BZ HLB ⊢
      have BB := uB BZ
      clear BZ hbz hgg
      refine hK.out _ _ (uA HSO _ (uA HBz6)) (fun hS => ?_)
      clear hK K
      refine wpAnyH_ready (rs := [17]) (by kernel_rfl) (by simp) ?_
      refine AllReadyH.cons rfl (fun K hK => ?_) AllReadyH.nil
      simp only [lD, lE, lF]
      go_simp
      obtain ⟨z7, hz⟩ : ∃ x, x = z6.alloc (Obj.cells #[.int .i64 1, .string hc] 112) := ⟨_, rfl⟩
      obtain ⟨BZ, hbz, -⟩ := zBf z6 _ _ z7 hz
      rw [<- hz]
      replace hz := uB hz
      have HBz7 := uB ((uA HBz6).trans ((hbz).mono (uA HBz6).size))
      replace BC := uB ((uA BC).below (hbz) (uA BC).lt)
      replace BE := uB ((uA BE).below (hbz) (uA BE).lt)
      replace BA := uB ((uA BA).below (hbz) (uA BA).lt)
      replace BB := uB ((uA BB).below (hbz) (uA BB).lt)
      have HLD := uB (show w.heap.size <= z6.heap.size from by have := (uA HBz6).size; have := (uA HSZ3).2.2; omega)
      obtain ⟨gD, hgg⟩ : ∃ g, z6.heap.size = g := ⟨_, rfl⟩
      rw [hgg] at BZ HLD ⊢
      have BD := uB BZ
      clear BZ hbz hgg
      refine hK.out _ _ (uA HSO _ (uA HBz7)) (fun hS => ?_)
      clear hK K
      refine wpAnyH_ready (rs := [18]) (by kernel_rfl) (by simp) ?_
      refine AllReadyH.cons rfl (fun K hK => ?_) AllReadyH.nil
      simp only [lD, lE, lF]
      go_simp
      obtain ⟨y9, hy9⟩ : ∃ x, x = z7.alloc (Obj.cells #[.slice (some ⟨y0.heap.size, 0, none⟩) 16 16, .slice (some ⟨gB, 0, none⟩) 1 1, .slice (some ⟨gC, 0, none⟩) 16 16, .slice (some ⟨gD, 0, none⟩) 1 1] 63) := ⟨_, rfl⟩
      obtain ⟨BR9, hb9, -⟩ := zBf z7 _ _ y9 hy9
      have HBy9 := uB ((uA HBz7).trans ((hb9).mono (uA HBz7).size))
      replace BC := uB ((uA BC).below (hb9) (uA BC).lt)
      replace BE := uB ((uA BE).below (hb9) (uA BE).lt)
      replace BA := uB ((uA BA).below (hb9) (uA BA).lt)
      replace BB := uB ((uA BB).below (hb9) (uA BB).lt)
      replace BD := uB ((uA BD).below (hb9) (uA BD).lt)
      have BR := uB BR9
      rw [<- hy9]
      replace hy9 := uB hy9
      have HLR := uB (show w.heap.size <= z7.heap.size from by have := (uA HBz7).size; have := (uA HSZ3).2.2; omega)
      clear BR9 hb9
      refine hK.out _ _ (uA HSO _ (uA HBy9)) (fun hS => ?_)
      clear hK K
      refine yL 19 (some 49) (.int .i64 4) rfl (fun w hSw => by obtain ⟨q1, q2⟩ := hSw; go_simp) hS ?_
      refine wpAnyH_done (by kernel_rfl) ?_ _
      clear hS
      have HBW := uB ((uA HB0W).trans ((uA HBy9).mono (uA HB0W).size))
      have HCW := uB (CW.make (nx := nx) (jb := jb) (bx := w.heap.size) (uA H16) (uA HBW) (uA BA) (by rw [(uA HHS).1]; exact uA BB) (uA BC) (by rw [(uA HHS).2]; exact uA BD) (uA BR) ((uA HX0).1.below (uA HBy9) (by have := (uA HX0).2.1; omega)) (uA BE) (uA HLA) (uA HLB) (uA HSZ3).2.1 (uA HLD) (uA HLR) (Nat.le_refl _) (uA HSZ3).1)
      obtain ⟨gR, hgR⟩ : ∃ g, z7.heap.size = g := ⟨_, rfl⟩
      have HWG := uB (show w.heap.size ≠ x2.heap.size from by have := (uA HB2).size; have := (uA HX0).2.1; omega)
      obtain ⟨ge, hge⟩ : ∃ g, x2.heap.size = g := ⟨_, rfl⟩
      rw [hge] at HWG
      obtain ⟨R, hRR⟩ : ∃ R, zAZ nx l = R := ⟨_, rfl⟩
      rw [hgR, hge, hRR] at HCW
      rw [hgR, hge]
      rw [hRR] at HCR
      have hR4 : R.length = 4 := by rw [<- hRR]; rfl
      have HRL := uB (show ∀ k, k < 4 -> (R.getD k []).length <= 16 from fun k hk => by
       rw [<- hRR]
       obtain q | q | q | q : k = 0 ∨ k = 1 ∨ k = 2 ∨ k = 3 := by omega
       ·subst q; rw [zKt, zBu, uA HF16]; decide
       ·subst q; rw [zKX]; exact (show 1 <= 16 by decide)
       ·subst q; rw [zKU, uA HF16]; decide
       ·subst q; rw [zKJ]; exact (show 1 <= 16 by decide))
      have HR4 := uB hR4
      have XC0 := uB (show CmI base b v s R y9 0 y9 from ⟨s, DPost.refl ((uA HD).below (uA HBW)), uA HS, rfl, by omega, by omega⟩)
      have HS4 := uB (show base <= y9.heap.size from by have := uA HBB; have := (uA HBy9).size; omega)
      clear hgR hge hRR hR4 HLA HLB HLD HLR HHS HF16 BC BE BA BB BD BR HCH HWC HFT H16 hSy0
      refine NoPanic.normal ?_
      go_wp2
      go_loopw [50] (fun i wr => ∃ k : Nat, k <= 4 /\ i = .int .i64 (k : Int) /\ CmI base b v s R y9 k wr) (fun i _ => 4 - (intOf i).toNat)
      case atStart => exact ⟨0, by omega, rfl, uA XC0⟩
      case round =>
       obtain ⟨k, hk, rfl, s', hP, hS', hE, hp', ha'⟩ := hrel
       obtain ⟨wo, rfl⟩ : ∃ wo, wo = wr := ⟨_, rfl⟩
       obtain ⟨kr, kb, ke, ko⟩ := (uA HCW).keep (uA HLT) hP.onlyW (fun hb => ((Only.of_below (P := fun _ => False) hb).mono (fun _ _ q => q.elim)).trans hP.onlyW (fun _ _ q => q))
       have Jo : Jb wo jb b nx false := Blk.only (uA HJ).1 ko (uA HJ).2.1
       have cb : wo.cell? ⟨w.heap.size, 0, none⟩ = some (.pointer (some ⟨jb, 0, none⟩)) := kb.cell 0
       have cj : wo.cell? ⟨jb, 0, none⟩ = some (.pointer (some ⟨b, 0, none⟩)) := Blk.cell Jo 0
       have HE := uB hE
       have HSS := uB hS'
       have hP2 := hP
       have HPW := uB hP2
       obtain ⟨v', k1, k2, k3⟩ := hP
       have HKO := uB ko
       have HK := uB (And.intro k1 (And.intro k2 k3))
       have HKE := uB (And.intro ke kb)
       clear XC0 hE hS' hP2 k1 k2 k3 ke kb ko
       by_cases hk4 : k < 4
       ·obtain ⟨g, cg, hg, hgl, hlg⟩ := kr k hk4
        have hst := zCD s' R k (by rw [uA HR4]; exact hk4)
        have hrl := uA HRL k hk4
        obtain ⟨rk, hrk⟩ : ∃ rk, R.getD k [] = rk := ⟨_, rfl⟩
        rw [hrk] at cg hlg hst hrl
        obtain ⟨nk, hnk⟩ : ∃ nk, nk = rk.length := ⟨_, rfl⟩
        rw [<- hnk] at cg hrl
        have HST := uB hst
        have HNK := uB hnk
        have hfr : ∀ g' o', (some ⟨g, 0, none⟩ : Option Addr) = some ⟨g', o', none⟩ -> ¬ Fd b v' g' := fun g' o' e q => by
         cases e
         rcases (uA HK).2.2 g q with q | q
         ·have := uA HLT g q; omega
         ·omega
        have HLY := uB (zB4 wo base b v' s' (uA HK).1 (Nat.le_trans (uA HS4) (uA HK).2.1.size) (uA HSS) (some ⟨g, 0, none⟩) nk rk nk hnk hlg hfr (by omega) (by omega))
        clear kr hst hlg hfr hnk hrk Jo
        have i0 : 0 <= (k : Int) := by omega
        have i1 : (k : Int) < 4 := by omega
        go_wp2_with fail
        refine (uA HLY).mono ?_
        rintro ev z1 ⟨rfl, hP1⟩
        have XP1 := uB (DPost.trans (uA HK).2.1 (uA HK).2.2 hP1)
        clear hP1 HLY cb cj cg
        by_cases he : (layR s' rk).1 = 0
        ·have XI := uB (show CmI base b v s R y9 (k + 1) z1 from ⟨_, uA XP1, zAX rk s' (uA HSS), by rw [uA HE, uA HST, if_pos he], by have := zCg rk s'; have := uA HNK; omega, by have := zCi rk s'; have := uA HNK; omega⟩)
         rw [he]
         clear XP1 HK he HE HST HKE HKO HPW
         go_wp2
         go_roundw
         case rel => exact ⟨k + 1, by omega, by go_num, uA XI⟩
         case measure => simp [intOf]; omega
        ·have hcr2 : zAm s nx false l = ⟨(layR s' rk).1, (layR s' rk).2, nx, true⟩ := by rw [uA HCR, uA HE, uA HST, if_neg he, if_neg he]
         have HCR2 := uB hcr2
         have hne : ((layR s' rk).1 != 0) = true := by simp [he]
         generalize (layR s' rk).1 = E at *
         generalize (layR s' rk).2 = S2 at *
         obtain ⟨zr, zb, ze, zo⟩ := (uA HCW).keep (uA HLT) (uA XP1).onlyW (fun hb => ((Only.of_below (P := fun _ => False) hb).mono (fun _ _ q => q.elim)).trans (uA XP1).onlyW (fun _ _ q => q))
         have HC1 := uB (zBO z1 jb b nx false (Blk.only (uA HJ).1 zo (uA HJ).2.1) w.heap.size ge (zb.cell 0) (ze.cell 0))
         clear hcr2 HK HE HST zr zb ze zo he HKE HKO HPW
         go_wp2
         refine leaves_cons (f := 115) (args := #[.pointer (some ⟨w.heap.size, 0, none⟩), .pointer (some ⟨ge, 0, none⟩)]) (by simp) (by simp [go_sem]) ?_
         refine (uA HC1).mono ?_
         rintro e u' wF ⟨rfl, rfl, rfl⟩
         refine ⟨_, results_tmp rfl _ _ _, ?_⟩
         rw [uA HCR2]
         exact ⟨rfl, finF (uA HBW) (uA XP1) (uA HJ).1 (uA HJ).2.1⟩
       ·have hk' : k = 4 := by omega
        subst hk'
        have hE2 : zAH s R = (0, s') := by rw [uA HE, List.drop_of_length_le (by rw [uA HR4]; exact Nat.le_refl _)]; rfl
        have hcr2 : zAm s nx false l = ⟨0, s', (nx + 1) % 4294967296, false⟩ := by rw [uA HCR, hE2, if_pos rfl]
        have HCR2 := uB hcr2
        have e0 : wo.cell? ⟨ge, 0, none⟩ = some (.bool false) := (uA HKE).1.cell 0
        have f0 : wo.frozen? ⟨ge, 0, none⟩ = false := (uA HKE).1.frozen 0
        have hgl := (uA HCW).ended.lt
        have hge2 := (uA HCW).le
        have hjg : jb ≠ ge := by have := (uA HJ).2.2; omega
        have zo : Only (fun q => q = ge) wo (wo.setCell ⟨ge, 0, none⟩ (.bool true)) := (Only.refl _ wo).setCell _ _ (fun _ => rfl)
        have hwg := uA HWG
        have HC1 := uB (zBR (wo.setCell ⟨ge, 0, none⟩ (.bool true)) jb b nx false (Blk.only Jo zo hjg) w.heap.size ge (((uA HKE).2.only zo hwg).cell 0) (by rw [((uA HKE).1.set 0 (.bool true)).cell 0]; rfl))
        have HFN := uB (finT (m := (nx + 1) % 4294967296) (uA HBW) (uA HPW) (uA HJ).1 (uA HJ).2.1 (uA HLT) hge2 hgl)
        clear hcr2 hE2 HE kr Jo zo hjg hwg hgl hge2 HK
        generalize (nx + 1) % 4294967296 = m at *
        go_wp2
        refine leaves_cons (f := 115) (args := #[.pointer (some ⟨w.heap.size, 0, none⟩), .pointer (some ⟨ge, 0, none⟩)]) (by simp) (by simp [go_sem]) ?_
        refine (uA HC1).mono ?_
        rintro e u' wF ⟨rfl, rfl, rfl⟩
        refine ⟨_, results_tmp rfl _ _ _, ?_⟩
        rw [uA HCR2]
        exact ⟨rfl, uA HFN⟩
     ·simp only [lD, lE, lF]
      go_simp
      obtain ⟨z6, hz⟩ : ∃ x, x = z5.alloc (Obj.cells #[.int .i64 1, .string hc] 112) := ⟨_, rfl⟩
      obtain ⟨BZ, hbz, -⟩ := zBf z5 _ _ z6 hz
      rw [<- hz]
      replace hz := uB hz
      have HBz6 := uB ((uA HBz5).trans ((hbz).mono (uA HBz5).size))
      replace BC := uB ((uA BC).below (hbz) (uA BC).lt)
      replace BE := uB ((uA BE).below (hbz) (uA BE).lt)
      replace BA := uB ((uA BA).below (hbz) (uA BA).lt)
      have HLD := uB (show w.heap.size <= z5.heap.size from by have := (uA HBz5).size; have := (uA HSZ3).2.2; omega)
      obtain ⟨gD, hgg⟩ : ∃ g, z5.heap.size = g := ⟨_, rfl⟩
      rw [hgg] at BZ HLD ⊢
      have BD := uB BZ
      clear BZ hbz hgg
      refine hK.out _ _ (uA HSO _ (uA HBz6)) (fun hS => ?_)
      clear hK K
      refine wpAnyH_ready (rs := [9]) (by kernel_rfl) (by simp) ?_
      refine AllReadyH.cons rfl (fun K hK => ?_) AllReadyH.nil
      simp only [lD, lE, lF]
      go_simp
      obtain ⟨z7, hz⟩ : ∃ x, x = z6.alloc (Obj.cells #[.int .i64 1, .string hs] 112) := ⟨_, rfl⟩
      obtain ⟨BZ, hbz, -⟩ := zBf z6 _ _ z7 hz
      rw [<- hz]
      replace hz := uB hz
      have HBz7 := uB ((uA HBz6).trans ((hbz).mono (uA HBz6).size))
      replace BC := uB ((uA BC).below (hbz) (uA BC).lt)
      replace BE := uB ((uA BE).below (hbz) (uA BE).lt)
      replace BA := uB ((uA BA).below (hbz) (uA BA).lt)
      replace BD := uB ((uA BD).below (hbz) (uA BD).lt)
      have HLB := uB (show w.heap.size <= z6.heap.size from by have := (uA HBz6).size; have := (uA HSZ3).2.2; omega)
      obtain ⟨gB, hgg⟩ : ∃ g, z6.heap.size = g := ⟨_, rfl⟩
      rw [hgg] at BZ HLB ⊢
      have BB := uB BZ
      clear BZ hbz hgg
      refine hK.out _ _ (uA HSO _ (uA HBz7)) (fun hS => ?_)
      clear hK K
      refine wpAnyH_ready (rs := [18]) (by kernel_rfl) (by simp) ?_
      refine AllReadyH.cons rfl (fun K hK => ?_) AllReadyH.nil
      simp only [lD, lE, lF]
      go_simp
      obtain ⟨y9, hy9⟩ : ∃ x, x = z7.alloc (Obj.cells #[.slice (some ⟨y0.heap.size, 0, none⟩) 16 16, .slice (some ⟨gB, 0, none⟩) 1 1, .slice (some ⟨gC, 0, none⟩) 16 16, .slice (some ⟨gD, 0, none⟩) 1 1] 63) := ⟨_, rfl⟩
      obtain ⟨BR9, hb9, -⟩ := zBf z7 _ _ y9 hy9
      have HBy9 := uB ((uA HBz7).trans ((hb9).mono (uA HBz7).size))
      replace BC := uB ((uA BC).below (hb9) (uA BC).lt)
      replace BE := uB ((uA BE).below (hb9) (uA BE).lt)
      replace BA := uB ((uA BA).below (hb9) (uA BA).lt)
      replace BB := uB ((uA BB).below (hb9) (uA BB).lt)
      replace BD := uB ((uA BD).below (hb9) (uA BD).lt)
      have BR := uB BR9
      rw [<- hy9]
      replace hy9 := uB hy9
      have HLR := uB (show w.heap.size <= z7.heap.size from by have := (uA HBz7).size; have := (uA HSZ3).2.2; omega)
      clear BR9 hb9
      refine hK.out _ _ (uA HSO _ (uA HBy9)) (fun hS => ?_)
      clear hK K
      refine yL 19 (some 49) (.int .i64 4) rfl (fun w hSw => by obtain ⟨q1, q2⟩ := hSw; go_simp) hS ?_
      refine wpAnyH_done (by kernel_rfl) ?_ _
      clear hS
      have HBW := uB ((uA HB0W).trans ((uA HBy9).mono (uA HB0W).size))
      have HCW := uB (CW.make (nx := nx) (jb := jb) (bx := w.heap.size) (uA H16) (uA HBW) (uA BA) (by rw [(uA HHS).1]; exact uA BB) (uA BC) (by rw [(uA HHS).2]; exact uA BD) (uA BR) ((uA HX0).1.below (uA HBy9) (by have := (uA HX0).2.1; omega)) (uA BE) (uA HLA) (uA HLB) (uA HSZ3).2.1 (uA HLD) (uA HLR) (Nat.le_refl _) (uA HSZ3).1)
      obtain ⟨gR, hgR⟩ : ∃ g, z7.heap.size = g := ⟨_, rfl⟩
      have HWG := uB (show w.heap.size ≠ x2.heap.size from by have := (uA HB2).size; have := (uA HX0).2.1; omega)
      obtain ⟨ge, hge⟩ : ∃ g, x2.heap.size = g := ⟨_, rfl⟩
      rw [hge] at HWG
      obtain ⟨R, hRR⟩ : ∃ R, zAZ nx l = R := ⟨_, rfl⟩
      rw [hgR, hge, hRR] at HCW
      rw [hgR, hge]
      rw [hRR] at HCR
      have hR4 : R.length = 4 := by rw [<- hRR]; rfl
      have HRL := uB (show ∀ k, k < 4 -> (R.getD k []).length <= 16 from fun k hk => by
       rw [<- hRR]
       obtain q | q | q | q : k = 0 ∨ k = 1 ∨ k = 2 ∨ k = 3 := by omega
       ·subst q; rw [zKt, zBu, uA HF16]; decide
       ·subst q; rw [zKX]; exact (show 1 <= 16 by decide)
       ·subst q; rw [zKU, uA HF16]; decide
       ·subst q; rw [zKJ]; exact (show 1 <= 16 by decide))
      have HR4 := uB hR4
      have XC0 := uB (show CmI base b v s R y9 0 y9 from ⟨s, DPost.refl ((uA HD).below (uA HBW)), uA HS, rfl, by omega, by omega⟩)
      have HS4 := uB (show base <= y9.heap.size from by have := uA HBB; have := (uA HBy9).size; omega)
      clear hgR hge hRR hR4 HLA HLB HLD HLR HHS HF16 BC BE BA BB BD BR HCH HWC HFT H16 hSy0
      refine NoPanic.normal ?_
      go_wp2
      go_loopw [50] (fun i wr => ∃ k : Nat, k <= 4 /\ i = .int .i64 (k : Int) /\ CmI base b v s R y9 k wr) (fun i _ => 4 - (intOf i).toNat)
      case atStart => exact ⟨0, by omega, rfl, uA XC0⟩
      case round =>
       obtain ⟨k, hk, rfl, s', hP, hS', hE, hp', ha'⟩ := hrel
       obtain ⟨wo, rfl⟩ : ∃ wo, wo = wr := ⟨_, rfl⟩
       obtain ⟨kr, kb, ke, ko⟩ := (uA HCW).keep (uA HLT) hP.onlyW (fun hb => ((Only.of_below (P := fun _ => False) hb).mono (fun _ _ q => q.elim)).trans hP.onlyW (fun _ _ q => q))
       have Jo : Jb wo jb b nx false := Blk.only (uA HJ).1 ko (uA HJ).2.1
       have cb : wo.cell? ⟨w.heap.size, 0, none⟩ = some (.pointer (some ⟨jb, 0, none⟩)) := kb.cell 0
       have cj : wo.cell? ⟨jb, 0, none⟩ = some (.pointer (some ⟨b, 0, none⟩)) := Blk.cell Jo 0
       have HE := uB hE
       have HSS := uB hS'
       have hP2 := hP
       have HPW := uB hP2
       obtain ⟨v', k1, k2, k3⟩ := hP
       have HKO := uB ko
       have HK := uB (And.intro k1 (And.intro k2 k3))
       have HKE := uB (And.intro ke kb)
       clear XC0 hE hS' hP2 k1 k2 k3 ke kb ko
       by_cases hk4 : k < 4
       ·obtain ⟨g, cg, hg, hgl, hlg⟩ := kr k hk4
        have hst := zCD s' R k (by rw [uA HR4]; exact hk4)
        have hrl := uA HRL k hk4
        obtain ⟨rk, hrk⟩ : ∃ rk, R.getD k [] = rk := ⟨_, rfl⟩
        rw [hrk] at cg hlg hst hrl
        obtain ⟨nk, hnk⟩ : ∃ nk, nk = rk.length := ⟨_, rfl⟩
        rw [<- hnk] at cg hrl
        have HST := uB hst
        have HNK := uB hnk
        have hfr : ∀ g' o', (some ⟨g, 0, none⟩ : Option Addr) = some ⟨g', o', none⟩ -> ¬ Fd b v' g' := fun g' o' e q => by
         cases e
         rcases (uA HK).2.2 g q with q | q
         ·have := uA HLT g q; omega
         ·omega
        have HLY := uB (zB4 wo base b v' s' (uA HK).1 (Nat.le_trans (uA HS4) (uA HK).2.1.size) (uA HSS) (some ⟨g, 0, none⟩) nk rk nk hnk hlg hfr (by omega) (by omega))
        clear kr hst hlg hfr hnk hrk Jo
        have i0 : 0 <= (k : Int) := by omega
        have i1 : (k : Int) < 4 := by omega
        go_wp2_with fail
        refine (uA HLY).mono ?_
        rintro ev z1 ⟨rfl, hP1⟩
        have XP1 := uB (DPost.trans (uA HK).2.1 (uA HK).2.2 hP1)
        clear hP1 HLY cb cj cg
        by_cases he : (layR s' rk).1 = 0
        ·have XI := uB (show CmI base b v s R y9 (k + 1) z1 from ⟨_, uA XP1, zAX rk s' (uA HSS), by rw [uA HE, uA HST, if_pos he], by have := zCg rk s'; have := uA HNK; omega, by have := zCi rk s'; have := uA HNK; omega⟩)
         rw [he]
         clear XP1 HK he HE HST HKE HKO HPW
         go_wp2
         go_roundw
         case rel => exact ⟨k + 1, by omega, by go_num, uA XI⟩
         case measure => simp [intOf]; omega
        ·have hcr2 : zAm s nx false l = ⟨(layR s' rk).1, (layR s' rk).2, nx, true⟩ := by rw [uA HCR, uA HE, uA HST, if_neg he, if_neg he]
         have HCR2 := uB hcr2
         have hne : ((layR s' rk).1 != 0) = true := by simp [he]
         generalize (layR s' rk).1 = E at *
         generalize (layR s' rk).2 = S2 at *
         obtain ⟨zr, zb, ze, zo⟩ := (uA HCW).keep (uA HLT) (uA XP1).onlyW (fun hb => ((Only.of_below (P := fun _ => False) hb).mono (fun _ _ q => q.elim)).trans (uA XP1).onlyW (fun _ _ q => q))
         have HC1 := uB (zBO z1 jb b nx false (Blk.only (uA HJ).1 zo (uA HJ).2.1) w.heap.size ge (zb.cell 0) (ze.cell 0))
         clear hcr2 HK HE HST zr zb ze zo he HKE HKO HPW
         go_wp2
         refine leaves_cons (f := 115) (args := #[.pointer (some ⟨w.heap.size, 0, none⟩), .pointer (some ⟨ge, 0, none⟩)]) (by simp) (by simp [go_sem]) ?_
         refine (uA HC1).mono ?_
         rintro e u' wF ⟨rfl, rfl, rfl⟩
         refine ⟨_, results_tmp rfl _ _ _, ?_⟩
         rw [uA HCR2]
         exact ⟨rfl, finF (uA HBW) (uA XP1) (uA HJ).1 (uA HJ).2.1⟩
       ·have hk' : k = 4 := by omega
        subst hk'
        have hE2 : zAH s R = (0, s') := by rw [uA HE, List.drop_of_length_le (by rw [uA HR4]; exact Nat.le_refl _)]; rfl
        have hcr2 : zAm s nx false l = ⟨0, s', (nx + 1) % 4294967296, false⟩ := by rw [uA HCR, hE2, if_pos rfl]
        have HCR2 := uB hcr2
        have e0 : wo.cell? ⟨ge, 0, none⟩ = some (.bool false) := (uA HKE).1.cell 0
        have f0 : wo.frozen? ⟨ge, 0, none⟩ = false := (uA HKE).1.frozen 0
        have hgl := (uA HCW).ended.lt
        have hge2 := (uA HCW).le
        have hjg : jb ≠ ge := by have := (uA HJ).2.2; omega
        have zo : Only (fun q => q = ge) wo (wo.setCell ⟨ge, 0, none⟩ (.bool true)) := (Only.refl _ wo).setCell _ _ (fun _ => rfl)
        have hwg := uA HWG
        have HC1 := uB (zBR (wo.setCell ⟨ge, 0, none⟩ (.bool true)) jb b nx false (Blk.only Jo zo hjg) w.heap.size ge (((uA HKE).2.only zo hwg).cell 0) (by rw [((uA HKE).1.set 0 (.bool true)).cell 0]; rfl))
        have HFN := uB (finT (m := (nx + 1) % 4294967296) (uA HBW) (uA HPW) (uA HJ).1 (uA HJ).2.1 (uA HLT) hge2 hgl)
        clear hcr2 hE2 HE kr Jo zo hjg hwg hgl hge2 HK
        generalize (nx + 1) % 4294967296 = m at *
        go_wp2
        refine leaves_cons (f := 115) (args := #[.pointer (some ⟨w.heap.size, 0, none⟩), .pointer (some ⟨ge, 0, none⟩)]) (by simp) (by simp [go_sem]) ?_
        refine (uA HC1).mono ?_
        rintro e u' wF ⟨rfl, rfl, rfl⟩
        refine ⟨_, results_tmp rfl _ _ _, ?_⟩
        rw [uA HCR2]
        exact ⟨rfl, uA HFN⟩
 ·have hcr : zAm s nx lost l = ⟨refE l sz, s, nx, lost⟩ := by rw [zAm, uA HSZE, if_pos (by simpa using hr)]
  have HCR := uB hcr
  have hne : (refE l sz != 0) = true := by simp [hr]
  generalize refE l sz = E at *
  clear hcr hr
  go_wp2
  refine ⟨_, results_tmp rfl _ _ _, ?_⟩
  rw [uA HCR]
  exact ⟨rfl, fin0 ((uA HB0W).trans ((uA HB2).mono (uA HB0W).size)) (uA HD) (uA HJ).1⟩
end
end Go.Proofs.YtdpnbemagiekoaaGreatDoor
