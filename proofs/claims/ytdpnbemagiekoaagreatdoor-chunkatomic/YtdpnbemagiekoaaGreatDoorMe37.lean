import Derived.Test.YtdpnbemagiekoaaGreatDoorMe36
namespace Go.Proofs.YtdpnbemagiekoaaGreatDoor
open List renaming getElem_toArray -> lD, getElem_cons_succ -> lE, getElem_cons_zero -> lF
section
open Go.RowKit Go.Maps Go.Sort Go.Shelf
def Zr (Z : Nat -> Prop) (g1 g2 : Nat) : Nat -> Prop := fun x => Z x ∨ (g1 <= x /\ x < g2)
theorem Kp.less {Z Z' : Nat -> Prop} {a b : World} (h : Kp Z a b) (hz : ∀ x, Z' x -> Z x) : Kp Z' a b := fun x hx => h x (hz x hx)
def ToldQ (l c : Nat -> Nat) (P : World -> Prop) (e : Ending) (w' : World) : Prop := ∃ r, e = .returned (.bool r) /\ ((∀ j, j < 21 -> l j = c j) -> r = true) /\ P w'
theorem ToldQ.intro {l c : Nat -> Nat} {P : World -> Prop} {e : Ending} {w' : World} (r : Bool) (h1 : e = .returned (.bool r)) (h2 : (∀ j, j < 21 -> l j = c j) -> r = true) (h3 : P w') : ToldQ l c P e w' := ⟨r, h1, h2, h3⟩
theorem yE {P : Program} {ops : Array Oper} {Q : Exit → Act → World → Prop} {md : Region.Mode} {S R : World → Prop} (i : Nat) (d : Option Tmp) (v : Value) {oi : Oper} {fuel : Nat} {listed L : Array Bool} {a A : Act} {w : World} (hi : ops[i]? = some oi) (hR : ∀ w, S w → R w) (hS : S w) (h : wpAnyH P md ops Q S fuel L A w) (hy : ∀ w, R w → (execOp a.eval oi).run P w = .ok (.value v) w := by intro w r; go_simp) (hL : listed.setIfInBounds i true = L := by first | (simp only [List.setIfInBounds_toArray, List.set_cons_zero, List.set_cons_succ]; rfl) | rfl) (hA : a.put d v = A := by first | (simp only [Act.put, List.setIfInBounds_toArray, List.set_cons_zero, List.set_cons_succ]; rfl) | rfl) (hd : oi.dst = d := by rfl) (hs : Region.noSelect ops = true := by kernel_rfl) (hf : Region.free md ops listed i = true := by kernel_rfl) (hr : (Region.ready md ops listed).contains i = true := by kernel_rfl) (hQ : ∀ c a w, Q (.panic c) (a.put d v) w → Q (.panic c) a w := by exact fun _ _ _ h => h) (hw : Region.wanted oi (yielded ops a.tmps) = true := by rfl) : wpAnyH P md ops Q S (fuel + 1) listed a w :=
  yL i d v hi (fun w s => hy w (hR w s)) hS h hL hA hd hs hf hr hQ hw
set_option maxRecDepth 100000 in
set_option maxHeartbeats 8000000 in
theorem zDe {w0 w : World} {b jb pb xb mb sb gb : Nat} {Z : Nat -> Prop} {z : Nat} {op : Bool} {L : List ByteArray} {A : List (Nat × Nat)} {hn : Nat} {Tw T : Nat -> En} {Bw B : Nat -> Bool} {Dw D : Nat -> ByteArray} {e0 e1 e2 : Addr} (h : CSz w0 w b jb pb xb mb sb gb Z 21 z op L A hn Tw T T Bw B Dw D) (hK : KTab w0) (hs : Snt w0 e0 e1 e2) (c : Nat -> Nat) (hR : Rp T B D c) (gl : Nat) (hZ : Z gl) (l : Nat -> Nat) (hl : Rw21 w gl l) (hlb : ∀ j, l j <= 65535) :
  Calls Tryz.prog 29 #[.pointer (some ⟨gb, 0, none⟩), .slice (some ⟨gl, 0, none⟩) 21 21] w (ToldQ l c (fun w' => CSz w0 w' b jb pb xb mb sb gb Z 21 z op L A hn Tw T T Bw B Dw D /\ Kp Z w w')) := by
 have HSU := uB (zJ4 gl l hlb w hl)
 have HMC := uB h.mcount
 have hT := h.ok.1
 have hlen := hR.len hT
 have hsum := hR.sum hT
 rw [zNz hR.bit, hlen] at HMC
 obtain ⟨k0, k1, k2, k3, k4⟩ := h.c
 have ht1 := zK1 l 65535 hlb 21
 have ht2 := zK1 c 65535 hR.le 21
 have hm1 := zKK c 21
 have hm2 := zKK l 21
 have HQ := uB (And.intro hK (And.intro hs (And.intro hR (And.intro hT (And.intro hl hlb)))))
 have HH := uB (And.intro hZ h)
 have HCE := uB (fun (q : ∀ j, j < 21 -> l j = c j) => And.intro (zON q) (zO5 q))
 have HSL := uB (And.intro hlen hsum)
 clear h hK hs hR hl hlb hT hlen hsum hZ
 obtain ⟨ml, hml⟩ : ∃ q, cnt l 21 = q := ⟨_, rfl⟩
 obtain ⟨tl, htl⟩ : ∃ q, tot l 21 = q := ⟨_, rfl⟩
 obtain ⟨m, hm⟩ : ∃ q, cnt c 21 = q := ⟨_, rfl⟩
 rw [hml, htl] at HSU
 rw [hm] at HMC
 rw [hml, htl, hm] at HCE
 rw [hm] at HSL
 rw [htl] at ht1
 rw [hml] at hm2
 rw [hm] at hm1
 clear hml htl hm
 go_enter Tryz.func29, Tryz.ntmps29
 go_wp2_with (go_at_call 27; refine (uA HSU).mono ?_; rintro e w' ⟨rfl, hw'⟩; subst w')
 refine (uA HMC).mono ?_
 rintro e x1 ⟨rfl, h1, p1⟩
 have HEA := uB h1.each
 obtain ⟨c0, c1, c2, c3, c4⟩ := h1.c
 have X1 := uB (And.intro h1 p1)
 clear h1 p1 HMC k0 k1 k2 k3 k4
 go_wp2_with fail
 refine (uA HEA).mono ?_
 rintro e x2 ⟨pk, cap, rfl, hSl, hb2⟩
 obtain ⟨g1, hg1⟩ : ∃ q, x1.heap.size = q := ⟨_, rfl⟩
 obtain ⟨g2, hg2⟩ : ∃ q, x2.heap.size = q := ⟨_, rfl⟩
 have h2 : CSz w0 x2 b jb pb xb mb sb gb (Zr Z g1 g2) 21 z op L A hn Tw T T Bw B Dw D := (uA X1).1.more hb2 (fun x q => q.imp_right (fun r => by rw [hg1, hg2]; exact r))
 have p2 : Kp Z w x2 := (uA X1).2.trans (fun x hx => hb2.block x ((uA X1).1.zlt x hx))
 have hl2 : Rw21 x2 gl l := (uA HQ).2.2.2.2.1.kp p2 (uA HH).1
 rw [hg1] at hSl
 rw [(uA HSL).1]
 have HCK := uB h2.chunks
 rw [(uA HSL).1] at HCK
 obtain ⟨d0, d1, d2, d3, d4⟩ := h2.c
 have X2 := uB (And.intro h2 (And.intro p2 (And.intro hl2 (show SlsB g1 x2 pk T (lstE T 21) /\ x2.heap.size = g2 from ⟨hSl, hg2⟩))))
 clear h2 p2 hl2 hSl hb2 hg1 hg2 HEA X1 c0 c1 c2 c3 c4
 by_cases hmm : m = ml
 ·subst hmm
  have hmn : ((m : Int) != (m : Int)) = false := by simp
  go_wp2_with (go_at_call 25; refine (uA HCK).mono ?_; rintro e x3 ⟨rfl, h3, p3⟩)
  obtain ⟨h2, p2, hl2, hSl, hg2⟩ := uA X2
  have Y0 := uB (And.intro h3 p3)
  have X3 := uB (And.intro p2 (And.intro hl2 (And.intro hSl hg2)))
  clear h3 p3 h2 p2 hl2 hSl hg2 X2 HCK d0 d1 d2 d3 d4
  go_loopw [10, 11, 12, 13, 14] (fun i _ _ _ _ wr => ∃ k : Nat, k <= 21 /\ i = .int .i64 (k : Int) /\ CSz w0 wr b jb pb xb mb sb gb (Zr Z g1 g2) 21 z op L A hn Tw T T Bw B Dw D /\ Kp (Zr Z g1 g2) x2 wr /\ (∀ j, j < k -> l j = c j)) (fun i _ _ _ _ _ => 21 - (intOf i).toNat)
  case atStart => exact ⟨0, by omega, rfl, (uA Y0).1, (uA Y0).2, fun j hj => absurd hj (Nat.not_lt_zero j)⟩
  case round =>
   obtain ⟨k, hk, rfl, hC, hp, heq⟩ := hrel
   obtain ⟨wo, rfl⟩ : ∃ wo, wo = wr := ⟨_, rfl⟩
   clear Y0
   by_cases hkn : k < 21
   ·have hkn' : (k : Int) < 21 := by omega
    have hk0 : (0 : Int) <= (k : Int) := by omega
    have HBK := uB (fun W => zDK k hkn W)
    have HBD := uB (fun W (hW : KTab W) => zBK (bkB k) (zDm k) W hW)
    obtain ⟨lk, hlk⟩ : ∃ q, l k = q := ⟨_, rfl⟩
    obtain ⟨ck, hck⟩ : ∃ q, c k = q := ⟨_, rfl⟩
    have hlk5 : lk <= 65535 := by rw [<- hlk]; exact (uA HQ).2.2.2.2.2 k
    have hck5 : ck <= 65535 := by rw [<- hck]; exact (uA HQ).2.2.1.le k
    have HKK := uB (And.intro hlk (And.intro hck (And.intro hkn heq)))
    have HR5 := uB (fun (W : World) (hW : Kp (Zr Z g1 g2) x2 W) => show W.cell? ⟨gl, k, none⟩ = some (.int .i64 (lk : Int)) from by rw [<- hlk]; exact ((uA X3).2.1.kp hW (.inl (uA HH).1)) k hkn)
    have HIT := uB ((uA HQ).2.2.1.hit k hkn)
    have HMI := uB ((uA HQ).2.2.1.mis k hkn)
    rw [hck] at HIT HMI
    have hd32 : (dgB (bkB k)).size = 32 := zFL _
    generalize bkB k = t at *
    generalize dgB t = d at *
    have XC := uB (And.intro hC hp)
    clear hC hp heq hlk hck hkn
    go_wp2_with fail
    refine (uA HBK _).mono ?_
    rintro e y1 ⟨rfl, hb1⟩
    obtain ⟨hC, hp⟩ := uA XC
    obtain ⟨hC1, q1⟩ := hC.below hb1
    have HDG := uB (uA HBD y1 ((uA HQ).1.below hC1.bel (uA HQ).1.1))
    have XC1 := uB (And.intro hC1 (hp.trans q1))
    clear hC hp hC1 q1 hb1 XC
    go_wp2_with fail
    refine (uA HDG).mono ?_
    rintro e y2 ⟨rfl, hb2⟩
    obtain ⟨hC, hp⟩ := uA XC1
    obtain ⟨hC2, q2⟩ := hC.below hb2
    have XC2 := uB (And.intro hC2 (hp.trans q2))
    obtain ⟨k0, k1, k2, k3, k4⟩ := hC2.c
    clear hC hp hC2 q2 hb2 XC1 HDG
    by_cases hc0 : 0 < ck
    ·obtain ⟨p, hp21, hTp, hDp⟩ := uA HIT hc0
     have HLD := uB ((uA XC2).1.load p hp21 d ck hTp t hDp)
     go_wp2_with fail
     refine (uA HLD).mono ?_
     rintro e y3 ⟨rfl, hC3, q3⟩
     have hS3 : CSz w0 y3.drew b jb pb xb mb sb gb (Zr Z g1 g2) 21 z op L A hn Tw T T Bw B Dw D /\ Kp (Zr Z g1 g2) x2 y3.drew := ⟨(hC3.below ((Below.refl _ y3).drew)).1, ((uA XC2).2.trans q3).trans (fun _ _ => rfl)⟩
     clear hC3 q3 HLD XC2 k0 k1 k2 k3 k4
     go_wp2
     have HCN := uB (fun (W : World) (hW : CSz w0 W b jb pb xb mb sb gb (Zr Z g1 g2) 21 z op L A hn Tw T T Bw B Dw D) => hW.count p hp21 d ck hTp)
     clear hp21 hTp hDp HIT HMI
     by_cases hlc : lk = ck
     ·have f1 : ((ck : Int) != (lk : Int)) = false := by rw [hlc]; simp
      have f2 : (0 : Int) < (lk : Int) := by omega
      have f2' : 0 < lk := by omega
      have f3 : ((lk : Int) == 0) = false := by simp; omega
      have HLC := uB hlc
      clear hlc
      refine wp_region_held_drew (S := fun w' => CSz w0 w' b jb pb xb mb sb gb (Zr Z g1 g2) 21 z op L A hn Tw T T Bw B Dw D /\ Kp (Zr Z g1 g2) x2 w') (by kernel_rfl) hS3 ?_
      intro hS
      refine yE 0 (some 81) (.int .i64 0) rfl (fun w h => And.intro h.1.c (uA HR5 w h.2)) hS ?_
      refine yE 1 (some 82) (.bool false) rfl (fun w h => And.intro h.1.c (uA HR5 w h.2)) hS ?_
      refine yE 2 (some 83) (.bool false) rfl (fun w h => And.intro h.1.c (uA HR5 w h.2)) hS ?_
      refine yE 3 (some 84) (.pointer (some ⟨gb, 0, none⟩)) rfl (fun w h => And.intro h.1.c (uA HR5 w h.2)) hS ?_
      refine yE 4 (some 85) (.pointer (some ⟨gb, 0, none⟩)) rfl (fun w h => And.intro h.1.c (uA HR5 w h.2)) hS ?_
      refine yE 5 (some 86) (.pointer (some ⟨gb, 4, none⟩)) rfl (fun w h => And.intro h.1.c (uA HR5 w h.2)) hS ?_
      refine yE 6 (some 87) (.pointer (some ⟨sb, 0, none⟩)) rfl (fun w h => And.intro h.1.c (uA HR5 w h.2)) hS ?_
      refine yE 7 (some 88) (.string d) rfl (fun w h => And.intro h.1.c (uA HR5 w h.2)) hS ?_
      refine yE 9 (some 90) (.slice (some ⟨gl, 0, none⟩) 21 21) rfl (fun w h => And.intro h.1.c (uA HR5 w h.2)) hS ?_
      refine yE 10 (some 91) (.int .i64 (k : Int)) rfl (fun w h => And.intro h.1.c (uA HR5 w h.2)) hS ?_
      refine yE 11 (some 92) (.pointer (some ⟨gl, k, none⟩)) rfl (fun w h => And.intro h.1.c (uA HR5 w h.2)) hS ?_
      refine yE 12 (some 93) (.int .i64 (lk : Int)) rfl (fun w h => And.intro h.1.c (uA HR5 w h.2)) hS ?_
      refine wpAnyH_ready (rs := [8]) (by kernel_rfl) (by simp) ?_
      refine AllReadyH.cons rfl (fun K hK => ?_) AllReadyH.nil
      simp only [lD, lE, lF]
      go_simp
      refine (uA HCN _ hS.1).mono ?_
      rintro e y4 ⟨rfl, hC4, q4⟩
      have hS4 : CSz w0 y4 b jb pb xb mb sb gb (Zr Z g1 g2) 21 z op L A hn Tw T T Bw B Dw D /\ Kp (Zr Z g1 g2) x2 y4 := ⟨hC4, hS.2.trans q4⟩
      clear hC4 q4 HCN
      refine hK.out _ _ hS4 (fun hS => ?_)
      clear hK K
      refine yE 13 (some 94) (.bool false) rfl (fun w h => And.intro h.1.c (uA HR5 w h.2)) hS ?_
      refine yE 14 (some 95) (.bool false) rfl (fun w h => And.intro h.1.c (uA HR5 w h.2)) hS ?_
      refine yE 15 (some 96) (.bool false) rfl (fun w h => And.intro h.1.c (uA HR5 w h.2)) hS ?_
      refine yE 16 (some 97) (.slice (some ⟨gl, 0, none⟩) 21 21) rfl (fun w h => And.intro h.1.c (uA HR5 w h.2)) hS ?_
      refine yE 17 (some 98) (.int .i64 (k : Int)) rfl (fun w h => And.intro h.1.c (uA HR5 w h.2)) hS ?_
      refine yE 18 (some 99) (.pointer (some ⟨gl, k, none⟩)) rfl (fun w h => And.intro h.1.c (uA HR5 w h.2)) hS ?_
      refine yE 19 (some 100) (.int .i64 (lk : Int)) rfl (fun w h => And.intro h.1.c (uA HR5 w h.2)) hS ?_
      refine yE 20 (some 101) (.bool true) rfl (fun w h => And.intro h.1.c (uA HR5 w h.2)) hS ?_
      refine yE 21 (some 102) (.bool true) rfl (fun w h => And.intro h.1.c (uA HR5 w h.2)) hS ?_
      refine yE 22 (some 103) (.int .i64 0) rfl (fun w h => And.intro h.1.c (uA HR5 w h.2)) hS ?_
      refine yE 23 (some 104) (.bool false) rfl (fun w h => And.intro h.1.c (uA HR5 w h.2)) hS ?_
      refine yE 24 (some 105) (.bool false) rfl (fun w h => And.intro h.1.c (uA HR5 w h.2)) hS ?_
      refine yE 25 (some 106) (.string t) rfl (fun w h => And.intro h.1.c (uA HR5 w h.2)) hS ?_
      refine yE 26 (some 107) (.int .i64 (k : Int)) rfl (fun w h => And.intro h.1.c (uA HR5 w h.2)) hS ?_
      refine wpAnyH_ready (rs := [27]) (by kernel_rfl) (by simp) ?_
      refine AllReadyH.cons rfl (fun K hK => ?_) AllReadyH.nil
      simp only [lD, lE, lF]
      go_simp
      refine (uA HBK _).mono ?_
      rintro e y5 ⟨rfl, hb5⟩
      have hS5 : CSz w0 y5 b jb pb xb mb sb gb (Zr Z g1 g2) 21 z op L A hn Tw T T Bw B Dw D /\ Kp (Zr Z g1 g2) x2 y5 := ⟨(hS.1.below hb5).1, hS.2.trans (hS.1.below hb5).2⟩
      clear hb5
      refine hK.out _ _ hS5 (fun hS => ?_)
      clear hK K
      refine yE 28 (some 109) (.bool false) rfl (fun w h => And.intro h.1.c (uA HR5 w h.2)) hS ?_
      refine yE 29 (some 110) (.bool false) rfl (fun w h => And.intro h.1.c (uA HR5 w h.2)) hS ?_
      refine yE 30 (some 111) (.bool false) rfl (fun w h => And.intro h.1.c (uA HR5 w h.2)) hS ?_
      refine yE 31 (some 112) (.bool false) rfl (fun w h => And.intro h.1.c (uA HR5 w h.2)) hS ?_
      refine yE 32 (some 113) (.bool false) rfl (fun w h => And.intro h.1.c (uA HR5 w h.2)) hS ?_
      refine yE 33 (some 114) (.slice (some ⟨gl, 0, none⟩) 21 21) rfl (fun w h => And.intro h.1.c (uA HR5 w h.2)) hS ?_
      refine yE 34 (some 115) (.int .i64 (k : Int)) rfl (fun w h => And.intro h.1.c (uA HR5 w h.2)) hS ?_
      refine yE 35 (some 116) (.pointer (some ⟨gl, k, none⟩)) rfl (fun w h => And.intro h.1.c (uA HR5 w h.2)) hS ?_
      refine yE 36 (some 117) (.int .i64 (lk : Int)) rfl (fun w h => And.intro h.1.c (uA HR5 w h.2)) hS ?_
      refine yE 37 (some 118) (.bool false) rfl (fun w h => And.intro h.1.c (uA HR5 w h.2)) hS ?_
      refine yE 38 (some 119) (.bool false) rfl (fun w h => And.intro h.1.c (uA HR5 w h.2)) hS ?_
      refine yR 39 (some 120) rfl hS ?_
      refine yR 40 (some 121) rfl hS ?_
      refine yR 41 (some 122) rfl hS ?_
      refine yR 42 (some 123) rfl hS ?_
      refine yR 43 (some 124) rfl hS ?_
      refine yR 44 (some 125) rfl hS ?_
      refine yE 45 (some 126) (.bool false) rfl (fun w h => And.intro h.1.c (uA HR5 w h.2)) hS ?_
      refine yE 46 (some 127) (.bool false) rfl (fun w h => And.intro h.1.c (uA HR5 w h.2)) hS ?_
      refine wpAnyH_done (by kernel_rfl) ?_ _
      have Y5 := uB hS
      clear hS
      go_wp2
      go_roundw
      case rel => exact ⟨k + 1, by omega, by go_num, (uA Y5).1, (uA Y5).2, fun j hj => by
       rcases Nat.lt_succ_iff_lt_or_eq.1 hj with q | q
       ·exact (uA HKK).2.2.2 j q
       ·rw [q, (uA HKK).1, (uA HKK).2.1]; exact uA HLC⟩
      case measure => simp [intOf]; omega
     ·have f1 : ((ck : Int) != (lk : Int)) = true := by simp; omega
      have HLC := uB hlc
      clear hlc
      refine wp_region_held_drew (S := fun w' => CSz w0 w' b jb pb xb mb sb gb (Zr Z g1 g2) 21 z op L A hn Tw T T Bw B Dw D /\ Kp (Zr Z g1 g2) x2 w') (by kernel_rfl) hS3 ?_
      intro hS
      refine yE 0 (some 81) (.int .i64 0) rfl (fun w h => And.intro h.1.c (uA HR5 w h.2)) hS ?_
      refine yE 1 (some 82) (.bool false) rfl (fun w h => And.intro h.1.c (uA HR5 w h.2)) hS ?_
      refine yE 2 (some 83) (.bool false) rfl (fun w h => And.intro h.1.c (uA HR5 w h.2)) hS ?_
      refine yE 3 (some 84) (.pointer (some ⟨gb, 0, none⟩)) rfl (fun w h => And.intro h.1.c (uA HR5 w h.2)) hS ?_
      refine yE 4 (some 85) (.pointer (some ⟨gb, 0, none⟩)) rfl (fun w h => And.intro h.1.c (uA HR5 w h.2)) hS ?_
      refine yE 5 (some 86) (.pointer (some ⟨gb, 4, none⟩)) rfl (fun w h => And.intro h.1.c (uA HR5 w h.2)) hS ?_
      refine yE 6 (some 87) (.pointer (some ⟨sb, 0, none⟩)) rfl (fun w h => And.intro h.1.c (uA HR5 w h.2)) hS ?_
      refine yE 7 (some 88) (.string d) rfl (fun w h => And.intro h.1.c (uA HR5 w h.2)) hS ?_
      refine yE 9 (some 90) (.slice (some ⟨gl, 0, none⟩) 21 21) rfl (fun w h => And.intro h.1.c (uA HR5 w h.2)) hS ?_
      refine yE 10 (some 91) (.int .i64 (k : Int)) rfl (fun w h => And.intro h.1.c (uA HR5 w h.2)) hS ?_
      refine yE 11 (some 92) (.pointer (some ⟨gl, k, none⟩)) rfl (fun w h => And.intro h.1.c (uA HR5 w h.2)) hS ?_
      refine yE 12 (some 93) (.int .i64 (lk : Int)) rfl (fun w h => And.intro h.1.c (uA HR5 w h.2)) hS ?_
      refine wpAnyH_ready (rs := [8]) (by kernel_rfl) (by simp) ?_
      refine AllReadyH.cons rfl (fun K hK => ?_) AllReadyH.nil
      simp only [lD, lE, lF]
      go_simp
      refine (uA HCN _ hS.1).mono ?_
      rintro e y4 ⟨rfl, hC4, q4⟩
      have hS4 : CSz w0 y4 b jb pb xb mb sb gb (Zr Z g1 g2) 21 z op L A hn Tw T T Bw B Dw D /\ Kp (Zr Z g1 g2) x2 y4 := ⟨hC4, hS.2.trans q4⟩
      clear hC4 q4 HCN
      refine hK.out _ _ hS4 (fun hS => ?_)
      clear hK K
      refine yE 13 (some 94) (.bool true) rfl (fun w h => And.intro h.1.c (uA HR5 w h.2)) hS ?_
      refine yE 14 (some 95) (.bool true) rfl (fun w h => And.intro h.1.c (uA HR5 w h.2)) hS ?_
      refine yE 15 (some 96) (.bool true) rfl (fun w h => And.intro h.1.c (uA HR5 w h.2)) hS ?_
      refine yR 16 (some 97) rfl hS ?_
      refine yR 17 (some 98) rfl hS ?_
      refine yR 18 (some 99) rfl hS ?_
      refine yR 19 (some 100) rfl hS ?_
      refine yR 20 (some 101) rfl hS ?_
      refine yR 21 (some 102) rfl hS ?_
      refine yR 22 (some 103) rfl hS ?_
      refine yR 23 (some 104) rfl hS ?_
      refine yR 24 (some 105) rfl hS ?_
      refine yR 25 (some 106) rfl hS ?_
      refine yR 26 (some 107) rfl hS ?_
      refine yR 27 (some 108) rfl hS ?_
      refine yR 28 (some 109) rfl hS ?_
      refine yR 29 (some 110) rfl hS ?_
      refine yR 30 (some 111) rfl hS ?_
      refine yE 31 (some 112) (.bool true) rfl (fun w h => And.intro h.1.c (uA HR5 w h.2)) hS ?_
      refine yE 32 (some 113) (.bool true) rfl (fun w h => And.intro h.1.c (uA HR5 w h.2)) hS ?_
      refine yR 33 (some 114) rfl hS ?_
      refine yR 34 (some 115) rfl hS ?_
      refine yR 35 (some 116) rfl hS ?_
      refine yR 36 (some 117) rfl hS ?_
      refine yR 37 (some 118) rfl hS ?_
      refine yR 38 (some 119) rfl hS ?_
      refine yR 39 (some 120) rfl hS ?_
      refine yR 40 (some 121) rfl hS ?_
      refine yR 41 (some 122) rfl hS ?_
      refine yR 42 (some 123) rfl hS ?_
      refine yR 43 (some 124) rfl hS ?_
      refine yR 44 (some 125) rfl hS ?_
      refine yR 45 (some 126) rfl hS ?_
      refine yE 46 (some 127) (.bool true) rfl (fun w h => And.intro h.1.c (uA HR5 w h.2)) hS ?_
      refine wpAnyH_done (by kernel_rfl) ?_ _
      have Y5 := uB hS
      clear hS
      go_wp2
      go_ret
      exact ToldQ.intro false rfl (fun q => absurd (by have := q k (uA HKK).2.2.1; rw [(uA HKK).1, (uA HKK).2.1] at this; exact this) (uA HLC)) ⟨ (uA Y5).1.more (Below.refl _ _) (fun x q => .inl (.inl q)), (uA X3).1.trans ((uA Y5).2.less (fun x q => .inl q))⟩
    ·have hc00 : ck = 0 := by omega
     have hmi := uA HMI hc00
     have HLD := uB ((uA XC2).1.loadM (uA HQ).2.1 d hd32 hmi)
     go_wp2_with fail
     refine (uA HLD).mono ?_
     rintro e y3 ⟨rfl, hC3, q3⟩
     have hS3 : CSz w0 y3.drew b jb pb xb mb sb gb (Zr Z g1 g2) 21 z op L A hn Tw T T Bw B Dw D /\ Kp (Zr Z g1 g2) x2 y3.drew := ⟨(hC3.below ((Below.refl _ y3).drew)).1, ((uA XC2).2.trans q3).trans (fun _ _ => rfl)⟩
     clear hC3 q3 HLD XC2 k0 k1 k2 k3 k4
     go_wp2
     have HCN := uB (fun (W : World) (hW : CSz w0 W b jb pb xb mb sb gb (Zr Z g1 g2) 21 z op L A hn Tw T T Bw B Dw D) => hW.countM (uA HQ).2.1 d hd32 hmi)
     clear HIT HMI hmi
     by_cases hlc : lk = ck
     ·have f0 : lk = 0 := by omega
      have f1 : ((0 : Int) != (lk : Int)) = false := by rw [f0]; rfl
      have f2 : ¬ (0 : Int) < (lk : Int) := by omega
      have f3 : ((lk : Int) == 0) = true := by rw [f0]; rfl
      have f4 : ((90 : Int) != 90) = false := by decide
      have HLC := uB hlc
      have f5 : ¬ 0 < lk := by omega
      clear hlc f0
      refine wp_region_held_drew (S := fun w' => CSz w0 w' b jb pb xb mb sb gb (Zr Z g1 g2) 21 z op L A hn Tw T T Bw B Dw D /\ Kp (Zr Z g1 g2) x2 w') (by kernel_rfl) hS3 ?_
      intro hS
      refine yE 0 (some 81) (.int .i64 0) rfl (fun w h => And.intro h.1.c (uA HR5 w h.2)) hS ?_
      refine yE 1 (some 82) (.bool false) rfl (fun w h => And.intro h.1.c (uA HR5 w h.2)) hS ?_
      refine yE 2 (some 83) (.bool false) rfl (fun w h => And.intro h.1.c (uA HR5 w h.2)) hS ?_
      refine yE 3 (some 84) (.pointer (some ⟨gb, 0, none⟩)) rfl (fun w h => And.intro h.1.c (uA HR5 w h.2)) hS ?_
      refine yE 4 (some 85) (.pointer (some ⟨gb, 0, none⟩)) rfl (fun w h => And.intro h.1.c (uA HR5 w h.2)) hS ?_
      refine yE 5 (some 86) (.pointer (some ⟨gb, 4, none⟩)) rfl (fun w h => And.intro h.1.c (uA HR5 w h.2)) hS ?_
      refine yE 6 (some 87) (.pointer (some ⟨sb, 0, none⟩)) rfl (fun w h => And.intro h.1.c (uA HR5 w h.2)) hS ?_
      refine yE 7 (some 88) (.string d) rfl (fun w h => And.intro h.1.c (uA HR5 w h.2)) hS ?_
      refine yE 9 (some 90) (.slice (some ⟨gl, 0, none⟩) 21 21) rfl (fun w h => And.intro h.1.c (uA HR5 w h.2)) hS ?_
      refine yE 10 (some 91) (.int .i64 (k : Int)) rfl (fun w h => And.intro h.1.c (uA HR5 w h.2)) hS ?_
      refine yE 11 (some 92) (.pointer (some ⟨gl, k, none⟩)) rfl (fun w h => And.intro h.1.c (uA HR5 w h.2)) hS ?_
      refine yE 12 (some 93) (.int .i64 (lk : Int)) rfl (fun w h => And.intro h.1.c (uA HR5 w h.2)) hS ?_
      refine wpAnyH_ready (rs := [8]) (by kernel_rfl) (by simp) ?_
      refine AllReadyH.cons rfl (fun K hK => ?_) AllReadyH.nil
      simp only [lD, lE, lF]
      go_simp
      refine (uA HCN _ hS.1).mono ?_
      rintro e y4 ⟨rfl, hC4, q4⟩
      have hS4 : CSz w0 y4 b jb pb xb mb sb gb (Zr Z g1 g2) 21 z op L A hn Tw T T Bw B Dw D /\ Kp (Zr Z g1 g2) x2 y4 := ⟨hC4, hS.2.trans q4⟩
      clear hC4 q4 HCN
      refine hK.out _ _ hS4 (fun hS => ?_)
      clear hK K
      refine yE 13 (some 94) (.bool false) rfl (fun w h => And.intro h.1.c (uA HR5 w h.2)) hS ?_
      refine yE 14 (some 95) (.bool false) rfl (fun w h => And.intro h.1.c (uA HR5 w h.2)) hS ?_
      refine yE 15 (some 96) (.bool false) rfl (fun w h => And.intro h.1.c (uA HR5 w h.2)) hS ?_
      refine yE 16 (some 97) (.slice (some ⟨gl, 0, none⟩) 21 21) rfl (fun w h => And.intro h.1.c (uA HR5 w h.2)) hS ?_
      refine yE 17 (some 98) (.int .i64 (k : Int)) rfl (fun w h => And.intro h.1.c (uA HR5 w h.2)) hS ?_
      refine yE 18 (some 99) (.pointer (some ⟨gl, k, none⟩)) rfl (fun w h => And.intro h.1.c (uA HR5 w h.2)) hS ?_
      refine yE 19 (some 100) (.int .i64 (lk : Int)) rfl (fun w h => And.intro h.1.c (uA HR5 w h.2)) hS ?_
      refine yE 20 (some 101) (.bool false) rfl (fun w h => And.intro h.1.c (uA HR5 w h.2)) hS ?_
      refine yE 21 (some 102) (.bool false) rfl (fun w h => And.intro h.1.c (uA HR5 w h.2)) hS ?_
      refine yR 22 (some 103) rfl hS ?_
      refine yR 23 (some 104) rfl hS ?_
      refine yR 24 (some 105) rfl hS ?_
      refine yR 25 (some 106) rfl hS ?_
      refine yR 26 (some 107) rfl hS ?_
      refine yR 27 (some 108) rfl hS ?_
      refine yR 28 (some 109) rfl hS ?_
      refine yR 29 (some 110) rfl hS ?_
      refine yE 30 (some 111) (.bool false) rfl (fun w h => And.intro h.1.c (uA HR5 w h.2)) hS ?_
      refine yE 31 (some 112) (.bool false) rfl (fun w h => And.intro h.1.c (uA HR5 w h.2)) hS ?_
      refine yE 32 (some 113) (.bool false) rfl (fun w h => And.intro h.1.c (uA HR5 w h.2)) hS ?_
      refine yE 33 (some 114) (.slice (some ⟨gl, 0, none⟩) 21 21) rfl (fun w h => And.intro h.1.c (uA HR5 w h.2)) hS ?_
      refine yE 34 (some 115) (.int .i64 (k : Int)) rfl (fun w h => And.intro h.1.c (uA HR5 w h.2)) hS ?_
      refine yE 35 (some 116) (.pointer (some ⟨gl, k, none⟩)) rfl (fun w h => And.intro h.1.c (uA HR5 w h.2)) hS ?_
      refine yE 36 (some 117) (.int .i64 (lk : Int)) rfl (fun w h => And.intro h.1.c (uA HR5 w h.2)) hS ?_
      refine yE 37 (some 118) (.bool true) rfl (fun w h => And.intro h.1.c (uA HR5 w h.2)) hS ?_
      refine yE 38 (some 119) (.bool true) rfl (fun w h => And.intro h.1.c (uA HR5 w h.2)) hS ?_
      refine yE 39 (some 120) (.int .i64 90) rfl (fun w h => And.intro h.1.c (uA HR5 w h.2)) hS ?_
      refine yE 40 (some 121) (.bool false) rfl (fun w h => And.intro h.1.c (uA HR5 w h.2)) hS ?_
      refine yE 41 (some 122) (.bool false) rfl (fun w h => And.intro h.1.c (uA HR5 w h.2)) hS ?_
      refine yE 42 (some 123) (.string ⟨#[]⟩) rfl (fun w h => And.intro h.1.c (uA HR5 w h.2)) hS ?_
      refine yE 43 (some 124) (.bool false) rfl (fun w h => And.intro h.1.c (uA HR5 w h.2)) hS ?_
      refine yE 44 (some 125) (.bool false) rfl (fun w h => And.intro h.1.c (uA HR5 w h.2)) hS ?_
      refine yE 45 (some 126) (.bool false) rfl (fun w h => And.intro h.1.c (uA HR5 w h.2)) hS ?_
      refine yE 46 (some 127) (.bool false) rfl (fun w h => And.intro h.1.c (uA HR5 w h.2)) hS ?_
      refine wpAnyH_done (by kernel_rfl) ?_ _
      have Y5 := uB hS
      clear hS
      go_wp2
      go_roundw
      case rel => exact ⟨k + 1, by omega, by go_num, (uA Y5).1, (uA Y5).2, fun j hj => by
       rcases Nat.lt_succ_iff_lt_or_eq.1 hj with q | q
       ·exact (uA HKK).2.2.2 j q
       ·rw [q, (uA HKK).1, (uA HKK).2.1]; exact uA HLC⟩
      case measure => simp [intOf]; omega
     ·have f1 : ((0 : Int) != (lk : Int)) = true := by simp; omega
      have HLC := uB hlc
      clear hlc
      refine wp_region_held_drew (S := fun w' => CSz w0 w' b jb pb xb mb sb gb (Zr Z g1 g2) 21 z op L A hn Tw T T Bw B Dw D /\ Kp (Zr Z g1 g2) x2 w') (by kernel_rfl) hS3 ?_
      intro hS
      refine yE 0 (some 81) (.int .i64 0) rfl (fun w h => And.intro h.1.c (uA HR5 w h.2)) hS ?_
      refine yE 1 (some 82) (.bool false) rfl (fun w h => And.intro h.1.c (uA HR5 w h.2)) hS ?_
      refine yE 2 (some 83) (.bool false) rfl (fun w h => And.intro h.1.c (uA HR5 w h.2)) hS ?_
      refine yE 3 (some 84) (.pointer (some ⟨gb, 0, none⟩)) rfl (fun w h => And.intro h.1.c (uA HR5 w h.2)) hS ?_
      refine yE 4 (some 85) (.pointer (some ⟨gb, 0, none⟩)) rfl (fun w h => And.intro h.1.c (uA HR5 w h.2)) hS ?_
      refine yE 5 (some 86) (.pointer (some ⟨gb, 4, none⟩)) rfl (fun w h => And.intro h.1.c (uA HR5 w h.2)) hS ?_
      refine yE 6 (some 87) (.pointer (some ⟨sb, 0, none⟩)) rfl (fun w h => And.intro h.1.c (uA HR5 w h.2)) hS ?_
      refine yE 7 (some 88) (.string d) rfl (fun w h => And.intro h.1.c (uA HR5 w h.2)) hS ?_
      refine yE 9 (some 90) (.slice (some ⟨gl, 0, none⟩) 21 21) rfl (fun w h => And.intro h.1.c (uA HR5 w h.2)) hS ?_
      refine yE 10 (some 91) (.int .i64 (k : Int)) rfl (fun w h => And.intro h.1.c (uA HR5 w h.2)) hS ?_
      refine yE 11 (some 92) (.pointer (some ⟨gl, k, none⟩)) rfl (fun w h => And.intro h.1.c (uA HR5 w h.2)) hS ?_
      refine yE 12 (some 93) (.int .i64 (lk : Int)) rfl (fun w h => And.intro h.1.c (uA HR5 w h.2)) hS ?_
      refine wpAnyH_ready (rs := [8]) (by kernel_rfl) (by simp) ?_
      refine AllReadyH.cons rfl (fun K hK => ?_) AllReadyH.nil
      simp only [lD, lE, lF]
      go_simp
      refine (uA HCN _ hS.1).mono ?_
      rintro e y4 ⟨rfl, hC4, q4⟩
      have hS4 : CSz w0 y4 b jb pb xb mb sb gb (Zr Z g1 g2) 21 z op L A hn Tw T T Bw B Dw D /\ Kp (Zr Z g1 g2) x2 y4 := ⟨hC4, hS.2.trans q4⟩
      clear hC4 q4 HCN
      refine hK.out _ _ hS4 (fun hS => ?_)
      clear hK K
      refine yE 13 (some 94) (.bool true) rfl (fun w h => And.intro h.1.c (uA HR5 w h.2)) hS ?_
      refine yE 14 (some 95) (.bool true) rfl (fun w h => And.intro h.1.c (uA HR5 w h.2)) hS ?_
      refine yE 15 (some 96) (.bool true) rfl (fun w h => And.intro h.1.c (uA HR5 w h.2)) hS ?_
      refine yR 16 (some 97) rfl hS ?_
      refine yR 17 (some 98) rfl hS ?_
      refine yR 18 (some 99) rfl hS ?_
      refine yR 19 (some 100) rfl hS ?_
      refine yR 20 (some 101) rfl hS ?_
      refine yR 21 (some 102) rfl hS ?_
      refine yR 22 (some 103) rfl hS ?_
      refine yR 23 (some 104) rfl hS ?_
      refine yR 24 (some 105) rfl hS ?_
      refine yR 25 (some 106) rfl hS ?_
      refine yR 26 (some 107) rfl hS ?_
      refine yR 27 (some 108) rfl hS ?_
      refine yR 28 (some 109) rfl hS ?_
      refine yR 29 (some 110) rfl hS ?_
      refine yR 30 (some 111) rfl hS ?_
      refine yE 31 (some 112) (.bool true) rfl (fun w h => And.intro h.1.c (uA HR5 w h.2)) hS ?_
      refine yE 32 (some 113) (.bool true) rfl (fun w h => And.intro h.1.c (uA HR5 w h.2)) hS ?_
      refine yR 33 (some 114) rfl hS ?_
      refine yR 34 (some 115) rfl hS ?_
      refine yR 35 (some 116) rfl hS ?_
      refine yR 36 (some 117) rfl hS ?_
      refine yR 37 (some 118) rfl hS ?_
      refine yR 38 (some 119) rfl hS ?_
      refine yR 39 (some 120) rfl hS ?_
      refine yR 40 (some 121) rfl hS ?_
      refine yR 41 (some 122) rfl hS ?_
      refine yR 42 (some 123) rfl hS ?_
      refine yR 43 (some 124) rfl hS ?_
      refine yR 44 (some 125) rfl hS ?_
      refine yR 45 (some 126) rfl hS ?_
      refine yE 46 (some 127) (.bool true) rfl (fun w h => And.intro h.1.c (uA HR5 w h.2)) hS ?_
      refine wpAnyH_done (by kernel_rfl) ?_ _
      have Y5 := uB hS
      clear hS
      go_wp2
      go_ret
      exact ToldQ.intro false rfl (fun q => absurd (by have := q k (uA HKK).2.2.1; rw [(uA HKK).1, (uA HKK).2.1] at this; exact this) (uA HLC)) ⟨ (uA Y5).1.more (Below.refl _ _) (fun x q => .inl (.inl q)), (uA X3).1.trans ((uA Y5).2.less (fun x q => .inl q))⟩
   ·have hk21 : k = 21 := by omega
    have hkn' : ¬ (k : Int) < 21 := by omega
    have hall : ∀ j, j < 21 -> l j = c j := fun j hj => heq j (by omega)
    have htt : tl = tot c 21 := (uA HCE hall).2
    have Y1 := uB (And.intro hC hp)
    have HTT := uB (And.intro hall htt)
    clear hC hp heq hk21 hkn hall htt hk
    go_wp2
    go_loopw [6, 15, 16, 17, 18, 19, 20, 21] (fun a i _ _ _ _ _ _ wr => ∃ q rem : Nat, q <= m /\ a = .int .i64 (rem : Int) /\ i = .int .i64 (q : Int) /\ rem + (((lstE T 21).take q).map (enN T)).sum = tl /\ CSz w0 wr b jb pb xb mb sb gb (Zr Z g1 g2) 21 z op L A hn Tw T T Bw B Dw D /\ Kp (Zr Z g1 g2) x2 wr) (fun _ i _ _ _ _ _ _ _ => m - (intOf i).toNat)
    case atStart => exact ⟨0, tl, Nat.zero_le _, rfl, rfl, rfl, (uA Y1).1, (uA Y1).2⟩
    case round =>
     obtain ⟨q, rem, hq, rfl, rfl, hrem, hC, hp⟩ := hrel
     obtain ⟨wp, rfl⟩ : ∃ wp, wp = wr := ⟨_, rfl⟩
     clear Y1
     by_cases hqn : q < m
     ·have hqn' : (q : Int) < (m : Int) := by omega
      have hq0 : (0 : Int) <= (q : Int) := by omega
      have hql : q < (lstE T 21).length := by rw [(uA HSL).1]; exact hqn
      obtain ⟨_, hp21, ⟨d, cc, hTp⟩, htk⟩ := zH6 T 21 q hql
      obtain ⟨gs, os, rfl, hgs1, hgs2, hcl⟩ := (uA X3).2.2.1 q hql
      have hgz : Zr Z g1 g2 gs := .inr ⟨hgs1, by rw [<- (uA X3).2.2.2]; exact hgs2⟩
      obtain ⟨p, hpp⟩ : ∃ q', (lstE T 21).getD q 0 = q' := ⟨_, rfl⟩
      rw [hpp] at hp21 hTp htk hcl
      have HSC := uB (fun (W : World) (hW : Kp (Zr Z g1 g2) x2 W) => show W.cell? ⟨gs, os + q * 3, none⟩ = some (.int .i64 (p : Int)) /\ W.cell? ⟨gs, os + q * 3 + 1, none⟩ = some (.string d) /\ W.cell? ⟨gs, os + q * 3 + 2, none⟩ = some (.int .i64 (cc : Int)) from ⟨(World.cell?_of_block (a := ⟨gs, os + q * 3, none⟩) (hW gs hgz)).trans (by have := hcl 0 (by decide); rw [hTp] at this; exact this), (World.cell?_of_block (a := ⟨gs, os + q * 3 + 1, none⟩) (hW gs hgz)).trans (by have := hcl 1 (by decide); rw [hTp] at this; exact this), (World.cell?_of_block (a := ⟨gs, os + q * 3 + 2, none⟩) (hW gs hgz)).trans (by have := hcl 2 (by decide); rw [hTp] at this; exact this)⟩)
      obtain ⟨kk, hkk, hdk, hck, hDk⟩ := (uA HQ).2.2.1.own p d cc hTp
      have hBp : B p = true := by rw [(uA HQ).2.2.1.bit p hp21, hTp]; rfl
      have hcc5 : cc <= 65535 := by rw [hck]; exact (uA HQ).2.2.1.le kk
      have hsp : (((lstE T 21).take (q + 1)).map (enN T)).sum = (((lstE T 21).take q).map (enN T)).sum + cc := by
       rw [htk, List.map_append, List.sum_append]
       simp [enN, hTp]
      have hle : (((lstE T 21).take (q + 1)).map (enN T)).sum <= tl := by
       rw [(uA HTT).2, <- (uA HSL).2]
       conv => rhs; rw [<- List.take_append_drop (q + 1) (lstE T 21), List.map_append, List.sum_append]
       exact Nat.le_add_right _ _
      obtain ⟨t, ht⟩ : ∃ q', D p = q' := ⟨_, rfl⟩
      have ht256 : t.size = 256 := by rw [<- ht, hDk]; exact zDm kk
      have hdt : dgB t = d := by rw [<- ht, hDk, hdk]
      have HUS := uB (fun (W : World) (hW : CSz w0 W b jb pb xb mb sb gb (Zr Z g1 g2) 21 z op L A hn Tw T T Bw B Dw D) => hW.mused p hp21)
      have HRD := uB (fun (W : World) (hW : CSz w0 W b jb pb xb mb sb gb (Zr Z g1 g2) 21 z op L A hn Tw T T Bw B Dw D) => hW.pread p hp21)
      rw [hBp] at HUS
      rw [ht] at HRD
      have HDG := uB (fun (W : World) (hW : KTab W) => zBK t ht256 W hW)
      rw [hdt] at HDG
      have HRM := uB (And.intro hrem (And.intro hsp hle))
      have hr5 : cc <= rem := by omega
      have hr6 : rem <= 1376235 := by omega
      have hS0 : CSz w0 wp.drew b jb pb xb mb sb gb (Zr Z g1 g2) 21 z op L A hn Tw T T Bw B Dw D /\ Kp (Zr Z g1 g2) x2 wp.drew := ⟨(hC.below ((Below.refl _ wp).drew)).1, hp.trans (fun _ _ => rfl)⟩
      have e30 : (30 : Int) + (p : Int) = ((30 + p : Nat) : Int) := by omega
      have h30 : 30 + p <= 60 := by omega
      have HPV := uB (show ∀ qm, q = qm + 1 -> ∃ pp, pp < p /\ ∀ (W : World), Kp (Zr Z g1 g2) x2 W -> W.cell? ⟨gs, os + qm * 3, none⟩ = some (.int .i64 (pp : Int)) from fun qm hqm => by
       obtain ⟨g', o', e', _, _, hcl'⟩ := (uA X3).2.2.1 qm (by omega)
       cases e'
       obtain ⟨_, _, ⟨d', cc', hTp'⟩, _⟩ := zH6 T 21 qm (by omega)
       have hri := zJ8 T 21 qm (by omega)
       rw [<- hqm, hpp] at hri
       exact ⟨_, hri, fun W hW => (World.cell?_of_block (a := ⟨gs, os + qm * 3, none⟩) (hW gs hgz)).trans (by have := hcl' 0 (by decide); rw [hTp'] at this; exact this)⟩)
      have hw30 : IntKind.i64.wrap ((30 + p : Nat) : Int) = ((30 + p : Nat) : Int) := zAB _ (by omega) (by omega)
      generalize 30 + p = pk at *
      clear hC hp hrem hql htk hcl hTp hpp hkk hdk hck hDk hBp hsp hle ht ht256 hdt hgs1 hgs2 hgz hqn
      go_wp2
      refine wp_region_held_drew (S := fun w' => CSz w0 w' b jb pb xb mb sb gb (Zr Z g1 g2) 21 z op L A hn Tw T T Bw B Dw D /\ Kp (Zr Z g1 g2) x2 w') (by kernel_rfl) hS0 ?_
      intro hS
      refine yE 0 (some 134) (.pointer (some ⟨gb, 0, none⟩)) rfl (fun w h => And.intro h.1.c (uA HSC w h.2)) hS ?_
      refine yE 1 (some 135) (.pointer (some ⟨gb, 0, none⟩)) rfl (fun w h => And.intro h.1.c (uA HSC w h.2)) hS ?_
      refine yE 2 (some 136) (.pointer (some ⟨gb, 2, none⟩)) rfl (fun w h => And.intro h.1.c (uA HSC w h.2)) hS ?_
      refine yE 3 (some 137) (.pointer (some ⟨mb, 0, none⟩)) rfl (fun w h => And.intro h.1.c (uA HSC w h.2)) hS ?_
      refine yE 4 (some 138) (.slice (some ⟨gs, os, none⟩) m cap) rfl (fun w h => And.intro h.1.c (uA HSC w h.2)) hS ?_
      refine yE 5 (some 139) (.int .i64 (q : Int)) rfl (fun w h => And.intro h.1.c (uA HSC w h.2)) hS ?_
      refine yE 6 (some 140) (.pointer (some ⟨gs, os + q * 3, none⟩)) rfl (fun w h => And.intro h.1.c (uA HSC w h.2)) hS ?_
      refine yE 7 (some 141) (.pointer (some ⟨gs, os + q * 3, none⟩)) rfl (fun w h => And.intro h.1.c (uA HSC w h.2)) hS ?_
      refine yE 8 (some 142) (.int .i64 (p : Int)) rfl (fun w h => And.intro h.1.c (uA HSC w h.2)) hS ?_
      refine wpAnyH_ready (rs := [9]) (by kernel_rfl) (by simp) ?_
      refine AllReadyH.cons rfl (fun K hK => ?_) AllReadyH.nil
      simp only [lD, lE, lF]
      go_simp
      refine (uA HUS _ hS.1).mono ?_
      rintro e y1 ⟨rfl, hC1, q1⟩
      have hS1 : CSz w0 y1 b jb pb xb mb sb gb (Zr Z g1 g2) 21 z op L A hn Tw T T Bw B Dw D /\ Kp (Zr Z g1 g2) x2 y1 := ⟨hC1, hS.2.trans q1⟩
      clear hC1 q1 HUS
      refine hK.out _ _ hS1 (fun hS => ?_)
      clear hK K
      refine yE 10 (some 133) (.tuple #[.bool true, .int .i64 0]) rfl (fun w h => And.intro h.1.c (uA HSC w h.2)) hS ?_
      refine yE 11 (some 144) (.bool true) rfl (fun w h => And.intro h.1.c (uA HSC w h.2)) hS ?_
      refine yE 12 (some 145) (.int .i64 0) rfl (fun w h => And.intro h.1.c (uA HSC w h.2)) hS ?_
      refine yE 13 (some 16) (.bool true) rfl (fun w h => And.intro h.1.c (uA HSC w h.2)) hS ?_
      refine yE 14 (some 17) (.int .i64 0) rfl (fun w h => And.intro h.1.c (uA HSC w h.2)) hS ?_
      refine wpAnyH_done (by kernel_rfl) ?_ _
      have hS2 : CSz w0 y1.drew b jb pb xb mb sb gb (Zr Z g1 g2) 21 z op L A hn Tw T T Bw B Dw D /\ Kp (Zr Z g1 g2) x2 y1.drew := ⟨(hS.1.below ((Below.refl _ y1).drew)).1, hS.2.trans (fun _ _ => rfl)⟩
      clear hS hS0
      go_wp2
      refine wp_region_held_drew (S := fun w' => CSz w0 w' b jb pb xb mb sb gb (Zr Z g1 g2) 21 z op L A hn Tw T T Bw B Dw D /\ Kp (Zr Z g1 g2) x2 w') (by kernel_rfl) hS2 ?_
      intro hS
      refine yE 0 (some 147) (.pointer (some ⟨gb, 0, none⟩)) rfl (fun w h => And.intro h.1.c (uA HSC w h.2)) hS ?_
      refine yE 1 (some 148) (.pointer (some ⟨gb, 0, none⟩)) rfl (fun w h => And.intro h.1.c (uA HSC w h.2)) hS ?_
      refine yE 2 (some 149) (.pointer (some ⟨gb, 1, none⟩)) rfl (fun w h => And.intro h.1.c (uA HSC w h.2)) hS ?_
      refine yE 3 (some 150) (.pointer (some ⟨pb, 0, none⟩)) rfl (fun w h => And.intro h.1.c (uA HSC w h.2)) hS ?_
      refine yE 4 (some 151) (.slice (some ⟨gs, os, none⟩) m cap) rfl (fun w h => And.intro h.1.c (uA HSC w h.2)) hS ?_
      refine yE 5 (some 152) (.int .i64 (q : Int)) rfl (fun w h => And.intro h.1.c (uA HSC w h.2)) hS ?_
      refine yE 6 (some 153) (.pointer (some ⟨gs, os + q * 3, none⟩)) rfl (fun w h => And.intro h.1.c (uA HSC w h.2)) hS ?_
      refine yE 7 (some 154) (.pointer (some ⟨gs, os + q * 3, none⟩)) rfl (fun w h => And.intro h.1.c (uA HSC w h.2)) hS ?_
      refine yE 8 (some 155) (.int .i64 (p : Int)) rfl (fun w h => And.intro h.1.c (uA HSC w h.2)) hS ?_
      refine yE 9 (some 156) (.int .i64 (pk : Int)) rfl (fun w h => And.intro h.1.c (uA HSC w h.2)) hS ?_
      refine wpAnyH_ready (rs := [10]) (by kernel_rfl) (by simp) ?_
      refine AllReadyH.cons rfl (fun K hK => ?_) AllReadyH.nil
      simp only [lD, lE, lF]
      go_simp
      refine (uA HRD _ hS.1).mono ?_
      rintro e y2 ⟨rfl, hC2, q2⟩
      have hS3 : CSz w0 y2 b jb pb xb mb sb gb (Zr Z g1 g2) 21 z op L A hn Tw T T Bw B Dw D /\ Kp (Zr Z g1 g2) x2 y2 := ⟨hC2, hS.2.trans q2⟩
      clear hC2 q2 HRD
      refine hK.out _ _ hS3 (fun hS => ?_)
      clear hK K
      refine yE 11 (some 146) (.tuple #[.string t, .int .i64 0]) rfl (fun w h => And.intro h.1.c (uA HSC w h.2)) hS ?_
      refine yE 12 (some 158) (.string t) rfl (fun w h => And.intro h.1.c (uA HSC w h.2)) hS ?_
      refine yE 13 (some 159) (.int .i64 0) rfl (fun w h => And.intro h.1.c (uA HSC w h.2)) hS ?_
      refine yE 14 (some 18) (.string t) rfl (fun w h => And.intro h.1.c (uA HSC w h.2)) hS ?_
      refine yE 15 (some 19) (.int .i64 0) rfl (fun w h => And.intro h.1.c (uA HSC w h.2)) hS ?_
      refine wpAnyH_done (by kernel_rfl) ?_ _
      have XC3 := uB hS
      clear hS hS2
      go_wp2_with fail
      refine (uA HDG _ ((uA HQ).1.below (uA XC3).1.bel (uA HQ).1.1)).mono ?_
      rintro e y3 ⟨rfl, hb3⟩
      have hS4 : CSz w0 y3 b jb pb xb mb sb gb (Zr Z g1 g2) 21 z op L A hn Tw T T Bw B Dw D /\ Kp (Zr Z g1 g2) x2 y3 := ⟨((uA XC3).1.below hb3).1, (uA XC3).2.trans ((uA XC3).1.below hb3).2⟩
      have hS5 : CSz w0 y3.drew b jb pb xb mb sb gb (Zr Z g1 g2) 21 z op L A hn Tw T T Bw B Dw D /\ Kp (Zr Z g1 g2) x2 y3.drew := ⟨(hS4.1.below ((Below.refl _ y3).drew)).1, hS4.2.trans (fun _ _ => rfl)⟩
      clear hS4 hb3 HDG XC3
      go_wp2
      by_cases hq1 : 0 < q
      ·obtain ⟨qm, hqm⟩ : ∃ qm, q = qm + 1 := ⟨q - 1, by omega⟩
       obtain ⟨pp, hlt, hpv⟩ := uA HPV qm hqm
       have HPP := uB hpv
       have g1' : (q : Int) - 1 = (qm : Int) := by omega
       have g7' : IntKind.i64.wrap (qm : Int) = (qm : Int) := zAB _ (by omega) (by omega)
       have g2' : (0 : Int) < (q : Int) := by omega
       have g3' : ¬ (p : Int) <= (pp : Int) := by omega
       have g4' : (qm : Int) < (m : Int) := by omega
       have g5' : (0 : Int) <= (qm : Int) := by omega
       have g6' : ¬ p <= pp := by omega
       clear hpv HPV hqm
       refine wp_region_held_drew (S := fun w' => CSz w0 w' b jb pb xb mb sb gb (Zr Z g1 g2) 21 z op L A hn Tw T T Bw B Dw D /\ Kp (Zr Z g1 g2) x2 w') (by kernel_rfl) hS5 ?_
       intro hS
       refine yE 0 (some 165) (.int .i64 0) rfl (fun w h => And.intro h.1.c (And.intro (uA HSC w h.2) (uA HPP w h.2))) hS ?_
       refine yE 1 (some 166) (.bool false) rfl (fun w h => And.intro h.1.c (And.intro (uA HSC w h.2) (uA HPP w h.2))) hS ?_
       refine yE 2 (some 167) (.bool false) rfl (fun w h => And.intro h.1.c (And.intro (uA HSC w h.2) (uA HPP w h.2))) hS ?_
       refine yE 3 (some 168) (.int .i64 0) rfl (fun w h => And.intro h.1.c (And.intro (uA HSC w h.2) (uA HPP w h.2))) hS ?_
       refine yE 4 (some 169) (.bool false) rfl (fun w h => And.intro h.1.c (And.intro (uA HSC w h.2) (uA HPP w h.2))) hS ?_
       refine yE 5 (some 170) (.bool false) rfl (fun w h => And.intro h.1.c (And.intro (uA HSC w h.2) (uA HPP w h.2))) hS ?_
       refine yE 6 (some 171) (.bool false) rfl (fun w h => And.intro h.1.c (And.intro (uA HSC w h.2) (uA HPP w h.2))) hS ?_
       refine yE 7 (some 172) (.int .i64 0) rfl (fun w h => And.intro h.1.c (And.intro (uA HSC w h.2) (uA HPP w h.2))) hS ?_
       refine yE 8 (some 173) (.bool false) rfl (fun w h => And.intro h.1.c (And.intro (uA HSC w h.2) (uA HPP w h.2))) hS ?_
       refine yE 9 (some 174) (.bool false) rfl (fun w h => And.intro h.1.c (And.intro (uA HSC w h.2) (uA HPP w h.2))) hS ?_
       refine yE 10 (some 175) (.bool false) rfl (fun w h => And.intro h.1.c (And.intro (uA HSC w h.2) (uA HPP w h.2))) hS ?_
       refine yE 11 (some 176) (.bool true) rfl (fun w h => And.intro h.1.c (And.intro (uA HSC w h.2) (uA HPP w h.2))) hS ?_
       refine yE 12 (some 177) (.bool false) rfl (fun w h => And.intro h.1.c (And.intro (uA HSC w h.2) (uA HPP w h.2))) hS ?_
       refine yE 13 (some 178) (.bool false) rfl (fun w h => And.intro h.1.c (And.intro (uA HSC w h.2) (uA HPP w h.2))) hS ?_
       refine yE 14 (some 179) (.bool false) rfl (fun w h => And.intro h.1.c (And.intro (uA HSC w h.2) (uA HPP w h.2))) hS ?_
       refine yE 15 (some 180) (.string d) rfl (fun w h => And.intro h.1.c (And.intro (uA HSC w h.2) (uA HPP w h.2))) hS ?_
       refine yE 16 (some 181) (.slice (some ⟨gs, os, none⟩) m cap) rfl (fun w h => And.intro h.1.c (And.intro (uA HSC w h.2) (uA HPP w h.2))) hS ?_
       refine yE 17 (some 182) (.int .i64 (q : Int)) rfl (fun w h => And.intro h.1.c (And.intro (uA HSC w h.2) (uA HPP w h.2))) hS ?_
       refine yE 18 (some 183) (.pointer (some ⟨gs, os + q * 3, none⟩)) rfl (fun w h => And.intro h.1.c (And.intro (uA HSC w h.2) (uA HPP w h.2))) hS ?_
       refine yE 19 (some 184) (.pointer (some ⟨gs, os + q * 3 + 1, none⟩)) rfl (fun w h => And.intro h.1.c (And.intro (uA HSC w h.2) (uA HPP w h.2))) hS ?_
       refine yE 20 (some 185) (.string d) rfl (fun w h => And.intro h.1.c (And.intro (uA HSC w h.2) (uA HPP w h.2))) hS ?_
       refine yE 21 (some 186) (.bool false) rfl (fun w h => And.intro h.1.c (And.intro (uA HSC w h.2) (uA HPP w h.2))) hS ?_
       refine yE 22 (some 187) (.bool false) rfl (fun w h => And.intro h.1.c (And.intro (uA HSC w h.2) (uA HPP w h.2))) hS ?_
       refine yE 23 (some 188) (.bool false) rfl (fun w h => And.intro h.1.c (And.intro (uA HSC w h.2) (uA HPP w h.2))) hS ?_
       refine yE 24 (some 189) (.int .i64 (q : Int)) rfl (fun w h => And.intro h.1.c (And.intro (uA HSC w h.2) (uA HPP w h.2))) hS ?_
       refine yE 25 (some 190) (.bool true) rfl (fun w h => And.intro h.1.c (And.intro (uA HSC w h.2) (uA HPP w h.2))) hS ?_
       refine yE 26 (some 191) (.bool true) rfl (fun w h => And.intro h.1.c (And.intro (uA HSC w h.2) (uA HPP w h.2))) hS ?_
       refine yE 27 (some 192) (.slice (some ⟨gs, os, none⟩) m cap) rfl (fun w h => And.intro h.1.c (And.intro (uA HSC w h.2) (uA HPP w h.2))) hS ?_
       refine yE 28 (some 193) (.int .i64 (q : Int)) rfl (fun w h => And.intro h.1.c (And.intro (uA HSC w h.2) (uA HPP w h.2))) hS ?_
       refine yE 29 (some 194) (.int .i64 (qm : Int)) rfl (fun w h => And.intro h.1.c (And.intro (uA HSC w h.2) (uA HPP w h.2))) hS ?_
       refine yE 30 (some 195) (.pointer (some ⟨gs, os + qm * 3, none⟩)) rfl (fun w h => And.intro h.1.c (And.intro (uA HSC w h.2) (uA HPP w h.2))) hS ?_
       refine yE 31 (some 196) (.pointer (some ⟨gs, os + qm * 3, none⟩)) rfl (fun w h => And.intro h.1.c (And.intro (uA HSC w h.2) (uA HPP w h.2))) hS ?_
       refine yE 32 (some 197) (.int .i64 (pp : Int)) rfl (fun w h => And.intro h.1.c (And.intro (uA HSC w h.2) (uA HPP w h.2))) hS ?_
       refine yE 33 (some 198) (.slice (some ⟨gs, os, none⟩) m cap) rfl (fun w h => And.intro h.1.c (And.intro (uA HSC w h.2) (uA HPP w h.2))) hS ?_
       refine yE 34 (some 199) (.int .i64 (q : Int)) rfl (fun w h => And.intro h.1.c (And.intro (uA HSC w h.2) (uA HPP w h.2))) hS ?_
       refine yE 35 (some 200) (.pointer (some ⟨gs, os + q * 3, none⟩)) rfl (fun w h => And.intro h.1.c (And.intro (uA HSC w h.2) (uA HPP w h.2))) hS ?_
       refine yE 36 (some 201) (.pointer (some ⟨gs, os + q * 3, none⟩)) rfl (fun w h => And.intro h.1.c (And.intro (uA HSC w h.2) (uA HPP w h.2))) hS ?_
       refine yE 37 (some 202) (.int .i64 (p : Int)) rfl (fun w h => And.intro h.1.c (And.intro (uA HSC w h.2) (uA HPP w h.2))) hS ?_
       refine yE 38 (some 203) (.bool false) rfl (fun w h => And.intro h.1.c (And.intro (uA HSC w h.2) (uA HPP w h.2))) hS ?_
       refine yE 39 (some 204) (.bool false) rfl (fun w h => And.intro h.1.c (And.intro (uA HSC w h.2) (uA HPP w h.2))) hS ?_
       refine yE 40 (some 205) (.bool false) rfl (fun w h => And.intro h.1.c (And.intro (uA HSC w h.2) (uA HPP w h.2))) hS ?_
       refine wpAnyH_done (by kernel_rfl) ?_ _
       obtain ⟨s0, s1, s2⟩ := uA HSC _ hS.2
       have Y7 := uB hS
       have e7 : (rem : Int) - (cc : Int) = ((rem - cc : Nat) : Int) := by omega
       clear hS hS5
       go_wp2
       go_roundw
       case rel => exact ⟨q + 1, rem - cc, by omega, by go_num, by go_num, by have := uA HRM; omega, (uA Y7).1, (uA Y7).2⟩
       case measure => simp [intOf]; omega
      ·have g2' : ¬ (0 : Int) < (q : Int) := by omega
       clear HPV
       refine wp_region_held_drew (S := fun w' => CSz w0 w' b jb pb xb mb sb gb (Zr Z g1 g2) 21 z op L A hn Tw T T Bw B Dw D /\ Kp (Zr Z g1 g2) x2 w') (by kernel_rfl) hS5 ?_
       intro hS
       refine yE 0 (some 165) (.int .i64 0) rfl (fun w h => And.intro h.1.c (uA HSC w h.2)) hS ?_
       refine yE 1 (some 166) (.bool false) rfl (fun w h => And.intro h.1.c (uA HSC w h.2)) hS ?_
       refine yE 2 (some 167) (.bool false) rfl (fun w h => And.intro h.1.c (uA HSC w h.2)) hS ?_
       refine yE 3 (some 168) (.int .i64 0) rfl (fun w h => And.intro h.1.c (uA HSC w h.2)) hS ?_
       refine yE 4 (some 169) (.bool false) rfl (fun w h => And.intro h.1.c (uA HSC w h.2)) hS ?_
       refine yE 5 (some 170) (.bool false) rfl (fun w h => And.intro h.1.c (uA HSC w h.2)) hS ?_
       refine yE 6 (some 171) (.bool false) rfl (fun w h => And.intro h.1.c (uA HSC w h.2)) hS ?_
       refine yE 7 (some 172) (.int .i64 0) rfl (fun w h => And.intro h.1.c (uA HSC w h.2)) hS ?_
       refine yE 8 (some 173) (.bool false) rfl (fun w h => And.intro h.1.c (uA HSC w h.2)) hS ?_
       refine yE 9 (some 174) (.bool false) rfl (fun w h => And.intro h.1.c (uA HSC w h.2)) hS ?_
       refine yE 10 (some 175) (.bool false) rfl (fun w h => And.intro h.1.c (uA HSC w h.2)) hS ?_
       refine yE 11 (some 176) (.bool true) rfl (fun w h => And.intro h.1.c (uA HSC w h.2)) hS ?_
       refine yE 12 (some 177) (.bool false) rfl (fun w h => And.intro h.1.c (uA HSC w h.2)) hS ?_
       refine yE 13 (some 178) (.bool false) rfl (fun w h => And.intro h.1.c (uA HSC w h.2)) hS ?_
       refine yE 14 (some 179) (.bool false) rfl (fun w h => And.intro h.1.c (uA HSC w h.2)) hS ?_
       refine yE 15 (some 180) (.string d) rfl (fun w h => And.intro h.1.c (uA HSC w h.2)) hS ?_
       refine yE 16 (some 181) (.slice (some ⟨gs, os, none⟩) m cap) rfl (fun w h => And.intro h.1.c (uA HSC w h.2)) hS ?_
       refine yE 17 (some 182) (.int .i64 (q : Int)) rfl (fun w h => And.intro h.1.c (uA HSC w h.2)) hS ?_
       refine yE 18 (some 183) (.pointer (some ⟨gs, os + q * 3, none⟩)) rfl (fun w h => And.intro h.1.c (uA HSC w h.2)) hS ?_
       refine yE 19 (some 184) (.pointer (some ⟨gs, os + q * 3 + 1, none⟩)) rfl (fun w h => And.intro h.1.c (uA HSC w h.2)) hS ?_
       refine yE 20 (some 185) (.string d) rfl (fun w h => And.intro h.1.c (uA HSC w h.2)) hS ?_
       refine yE 21 (some 186) (.bool false) rfl (fun w h => And.intro h.1.c (uA HSC w h.2)) hS ?_
       refine yE 22 (some 187) (.bool false) rfl (fun w h => And.intro h.1.c (uA HSC w h.2)) hS ?_
       refine yE 23 (some 188) (.bool false) rfl (fun w h => And.intro h.1.c (uA HSC w h.2)) hS ?_
       refine yE 24 (some 189) (.int .i64 (q : Int)) rfl (fun w h => And.intro h.1.c (uA HSC w h.2)) hS ?_
       refine yE 25 (some 190) (.bool false) rfl (fun w h => And.intro h.1.c (uA HSC w h.2)) hS ?_
       refine yE 26 (some 191) (.bool false) rfl (fun w h => And.intro h.1.c (uA HSC w h.2)) hS ?_
       refine yR 27 (some 192) rfl hS ?_
       refine yR 28 (some 193) rfl hS ?_
       refine yR 29 (some 194) rfl hS ?_
       refine yR 30 (some 195) rfl hS ?_
       refine yR 31 (some 196) rfl hS ?_
       refine yR 32 (some 197) rfl hS ?_
       refine yR 33 (some 198) rfl hS ?_
       refine yR 34 (some 199) rfl hS ?_
       refine yR 35 (some 200) rfl hS ?_
       refine yR 36 (some 201) rfl hS ?_
       refine yR 37 (some 202) rfl hS ?_
       refine yR 38 (some 203) rfl hS ?_
       refine yE 39 (some 204) (.bool false) rfl (fun w h => And.intro h.1.c (uA HSC w h.2)) hS ?_
       refine yE 40 (some 205) (.bool false) rfl (fun w h => And.intro h.1.c (uA HSC w h.2)) hS ?_
       refine wpAnyH_done (by kernel_rfl) ?_ _
       obtain ⟨s0, s1, s2⟩ := uA HSC _ hS.2
       have Y7 := uB hS
       have e7 : (rem : Int) - (cc : Int) = ((rem - cc : Nat) : Int) := by omega
       clear hS hS5
       go_wp2
       go_roundw
       case rel => exact ⟨q + 1, rem - cc, by omega, by go_num, by go_num, by have := uA HRM; omega, (uA Y7).1, (uA Y7).2⟩
       case measure => simp [intOf]; omega
     ·have hqm : q = m := by omega
      have hqn' : ¬ (q : Int) < (m : Int) := by omega
      have hr0 : rem = 0 := by
       have h1 := (uA HSL).2
       have h2 := (uA HTT).2
       rw [List.take_of_length_le (by rw [(uA HSL).1]; omega)] at hrem
       omega
      have Y8 := uB (And.intro hC hp)
      have hr0' : ((rem : Int) == 0) = true := by rw [hr0]; rfl
      clear hC hp hrem hqm hqn hr0 hq
      go_wp2
      go_ret
      exact ToldQ.intro true rfl (fun _ => rfl) ⟨ (uA Y8).1.more (Below.refl _ _) (fun x q => .inl (.inl q)), (uA X3).1.trans ((uA Y8).2.less (fun x q => .inl q))⟩
 ·have hmn : ((m : Int) != (ml : Int)) = true := by simp; omega
  have HNE := uB hmm
  clear hmm
  go_wp2
  go_ret
  obtain ⟨h2, p2, _⟩ := uA X2
  exact ToldQ.intro false rfl (fun q => absurd (uA HCE q).1.symm (uA HNE)) ⟨ h2.more (Below.refl _ _) (fun x q => .inl (.inl q)), p2⟩
end
end Go.Proofs.YtdpnbemagiekoaaGreatDoor
