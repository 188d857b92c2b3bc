import Derived.Test.YtaepdekpdiofnaaGreatDoorMi37
import Derived.BigQuiet
namespace Go.Proofs.YtaepdekpdiofnaaGreatDoor
open Go.RowKit
/-- Losses that were handed in. -/
def Lss (w : World) (p : Option Addr) (os : List (Int × Int)) : Prop := ∀ i, i < os.length → ∃ g o, p = some ⟨g, o, none⟩ ∧ g < w.heap.size ∧ w.cell? ⟨g, o + i * 2, none⟩ = some (.int .i64 (os.getD i (0, 0)).1) ∧ w.cell? ⟨g, o + i * 2 + 1, none⟩ = some (.int .i64 (os.getD i (0, 0)).2) ∧ I64 (os.getD i (0, 0)).1
/-- The fence: the old image, and the list. -/
def Xo (g : Nat) (q : Option Addr) (l : List Wr1) (x : Nat) : Prop := x = g ∨ Xq q l x
/-- Behind some opens. -/
def AtR (O : List ByteArray) (l : List Wr1) (q : Option Addr) (g : Nat) (w0 : World) (b : Nat) (k : Nat) (must : Bool) (wr : World) : Prop :=
  ∃ I A, DF w0 wr b (rs I A) (Xo g q l) ∧ StA O l must I ∧ A.length ≤ 1000 + 19 * k ∧ Strs wr (some ⟨g, 0, none⟩) O ∧ Wls wr q l
theorem Xo.fence {g : Nat} {q : Option Addr} {l : List Wr1} {O : List ByteArray} {w w' : World} (ho : Only (fun x => ¬ Xo g q l x) w w') (h1 : Strs w (some ⟨g, 0, none⟩) O) (h2 : Wls w q l) : Strs w' (some ⟨g, 0, none⟩) O ∧ Wls w' q l :=
  ⟨h1.fence ho (fun g' o' e' => .inl (by simp at e'; exact e'.1.symm)), h2.fence0 ho (fun h0 g' o' e' => .inr ⟨h0, o', e'⟩)⟩
theorem arm_rs (I : List ByteArray) (A : List (Nat × Nat)) (f : Nat) : armE (rs I A) (f : Int) = 0 ∧ armS (rs I A) (f : Int) = ⟨I, I, [], A, (f : Int), false⟩ := by
  have h : ¬ ((f : Int) < 0) := by omega
  rw [armE, armS, if_neg h, if_neg h]
  exact ⟨rfl, rfl⟩
set_option maxRecDepth 100000 in
set_option maxHeartbeats 8000000 in
theorem atomic_walk (pa : Option Addr) (ca : Nat) (ra : List Wr1) (na : Nat) (hna : na = ra.length) (pb : Option Addr) (cb : Nat) (rb : List Wr1) (nb : Nat) (hnb : nb = rb.length) (la lk : Int) (hlal : I64 la) (po : Option Addr) (co : Nat) (os : List (Int × Int)) (no : Nat) (hno : no = os.length)
    (w : World) (hg : ETy w) (hla : Wls w pa ra) (hlb : Wls w pb rb) (hka : Wok ra) (hkb : Wok rb) (hza : na ≤ 9223372036854775807) (hzb : nb ≤ 9223372036854775807) (hlo : Lss w po os) (hzo : no ≤ 9223372036854775807) :
    Calls Tryz.prog 6 #[.slice pa na ca, .slice pb nb cb, .agg #[.int .i64 la, .int .i64 lk], .slice po no co] w fun e w' => e = .returned (.bool true) ∧ Below w.heap.size w w' := by
  obtain ⟨w1, hw1⟩ : ∃ x, x = w.alloc (Obj.cells #[.int .i64 la, .int .i64 lk] 67) := ⟨_, rfl⟩
  have hb0 : Below w.heap.size w w1 := by rw [hw1]; exact (Below.refl _ w).alloc (Nat.le_refl _) _
  have HBX := hide (show Blk w1 w.heap.size #[.int .i64 la, .int .i64 lk] 67 by rw [hw1]; exact Blk.new w _ _)
  have HB0 := hide hb0
  have HG := hide (hg.below hb0 hg.lt)
  have HAW := hide (awake_any w1 (unhide HG))
  have HLA := hide (And.intro (hla.below hb0) (And.intro hka (And.intro hza hna)))
  have HLB := hide (And.intro (hlb.below hb0) (And.intro hkb (And.intro hzb hnb)))
  have HLO := hide (And.intro hlo hno)
  have HLL := hide hlal
  have G1 := hide (lstF_good ra [] GoodL.nil)
  have G2 := hide (lstF_good rb [] GoodL.nil)
  obtain ⟨l1, hl1⟩ : ∃ l, lstF [] ra = l := ⟨_, rfl⟩
  obtain ⟨l, hl⟩ : ∃ l, lstF [] rb = l := ⟨_, rfl⟩
  rw [hl1] at G1
  rw [hl] at G2
  replace hl1 := hide hl1
  replace hl := hide hl
  obtain ⟨bx, hbx⟩ : ∃ bx, w.heap.size = bx := ⟨_, rfl⟩
  rw [hbx] at HBX
  have HBQ := hide hbx
  clear hg hla hlb hka hkb hna hnb hlo hno hza hzb hlal hb0 hbx
  go_enter Tryz.func6, Tryz.ntmps6
  go_wp2_with fail
  rw [← hw1]
  replace hw1 := hide hw1
  rw [unhide HBQ]
  refine (unhide HAW).mono ?_
  rintro e x1 ⟨rfl, hb1⟩
  have HB1 := hide hb1
  have HG1 := hide ((unhide HG).below hb1 (unhide HG).lt)
  have HST := hide (started_any x1 (unhide HG1))
  clear hb1 HAW
  go_wp2_with fail
  refine (unhide HST).mono ?_
  rintro e x2 ⟨b, jb, rfl, hJ2⟩
  have H2 := hide hJ2
  have HLS := hide (listed_any x2 pa ca ra na (unhide HLA).2.2.2 ((unhide HLA).1.below ((unhide HB1).trans (hJ2.bel.mono (unhide HB1).size))) (unhide HLA).2.1 (unhide HLA).2.2.1)
  clear hJ2 HST
  go_wp2_with fail
  refine (unhide HLS).mono ?_
  rintro e x3 ⟨q1, c1, rfl, hw3, hb3, hf3⟩
  rw [unhide hl1] at hw3 ⊢
  obtain ⟨m1, hm1⟩ : ∃ m, l1.length = m := ⟨_, rfl⟩
  rw [hm1]
  have HM1 := hide hm1
  have HK3 := hide ((unhide H2).jk.more hb3 (Xq q1 l1) (fun x hx => by
    obtain ⟨h0, o, ho⟩ := hx
    obtain ⟨g', o', e', hlt, _⟩ := hw3 0 h0
    rw [ho] at e'
    simp at e'
    refine .inr ⟨hf3 x o ho, ?_⟩
    rw [e'.1]; exact hlt))
  have HC := hide (commitK (unhide HK3) (by decide) q1 c1 l1 m1 hm1.symm hw3 (Nat.zero_le _) (by show A0.length ≤ _; decide))
  rw [commit_rs L0 A0 1 l1 L0_len (unhide G1)] at HC
  have HO := hide (show StO (comL L0 1 l1) (comL L0 1 l1) from ⟨(comL_len L0 1 l1).trans L0_len, com_size L0 1 l1 (unhide G1) L0_size, com_head L0 1 l1 (by rw [L0_len]; decide), fun k _ _ => rfl⟩)
  have HFA := hide (free_again L0 1 l1 (unhide G1).len)
  have HAL := hide (show (A0 ++ comA l1).length = 40 by rw [List.length_append, comA_len l1 (unhide G1).len]; rfl)
  generalize comL L0 1 l1 = O at *
  generalize A0 ++ comA l1 = A at *
  have HW3 := hide hw3
  clear hw3 hb3 hf3 HLS H2 hm1
  go_wp2_with fail
  refine (unhide HC).mono ?_
  rintro e x4 ⟨rfl, hK4, hO4⟩
  have HK4 := hide (show JK x1 x4 b jb (rs O A) 2 false (Xq q1 l1) from hK4)
  have HW4 := hide ((unhide HW3).fence0 hO4 (fun h0 g' o' e' => ⟨h0, o', e'⟩))
  have HIM := hide (imageK (unhide HK4) (unhide HO).len)
  clear hK4 hO4 HC HK3 HW3
  go_wp2_with fail
  refine (unhide HIM).mono ?_
  rintro e x5 ⟨g5, cap5, rfl, h51, h52, hS5, hb5⟩
  have HK5 := hide ((unhide HK4).more hb5 (fun x => x = g5) (fun x hx => .inr (by rw [hx]; exact ⟨h51, h52⟩)))
  have HS5 := hide hS5
  have HLD := hide (laid_any x5 (some ⟨g5, 0, none⟩) cap5 O 128 (unhide HO).len.symm hS5 (by decide) (by decide) q1 c1 l1 m1 (unhide HM1).symm ((unhide HW4).below hb5) (fun x hx => by have := (unhide G1).free x hx; exact ⟨by omega, by omega⟩) (by have := (unhide G1).len; have := unhide HM1; omega))
  clear h51 h52 hS5 hb5 HIM HK4 HW4
  go_wp2_with fail
  refine (unhide HLD).mono ?_
  rintro e x6 ⟨rfl, hB6, hb6⟩
  have HK6 := hide ((unhide HK5).below hb6)
  have HS6 := hide ((unhide HS5).below hb6)
  have HF := hide (free_any x6 (some ⟨g5, 0, none⟩) (some ⟨x5.heap.size, 0, none⟩) cap5 128 O (layP O (natW l1)) 128 (unhide HO).len.symm (by rw [layP_len]; exact (unhide HO).len.symm) (unhide HS6) (fun j hj => ⟨x5.heap.size, 0, rfl, hB6.lt, by rw [Nat.zero_add, hB6.cell j]; simpa using strs_at _ _ hj⟩) (by decide))
  rw [freeB_true (unhide HFA)] at HF
  clear hB6 hb6 HLD HK5 HS5
  go_wp2_with fail
  refine (unhide HF).mono ?_
  rintro e x7 ⟨rfl, hb7⟩
  have HK7 := hide ((unhide HK6).below hb7)
  have HS7 := hide ((unhide HS6).below hb7)
  have HLS := hide (listed_any x7 pb cb rb nb (unhide HLB).2.2.2 ((unhide HLB).1.below ((unhide HB1).trans ((unhide HK7).bel.mono (unhide HB1).size))) (unhide HLB).2.1 (unhide HLB).2.2.1)
  clear hb7 HF HK6 HS6 HFA HM1
  go_wp2_with fail
  refine (unhide HLS).mono ?_
  rintro e x8 ⟨q, c8, rfl, hw8, hb8, hf8⟩
  rw [unhide hl] at hw8 ⊢
  obtain ⟨m, hm⟩ : ∃ m, l.length = m := ⟨_, rfl⟩
  rw [hm]
  have HM := hide hm
  have HK8 := hide ((unhide HK7).more hb8 (Xo g5 q l) (fun x hx => by
    rcases hx with hx | ⟨h0, o, ho⟩
    · exact .inl hx
    · obtain ⟨g', o', e', hlt, _⟩ := hw8 0 h0
      rw [ho] at e'
      simp at e'
      refine .inr ⟨hf8 x o ho, ?_⟩
      rw [e'.1]; exact hlt))
  have HS8 := hide ((unhide HS7).below hb8)
  have HW8 := hide hw8
  have HBX8 := hide ((unhide HBX).below ((unhide HB1).trans ((unhide HK8).bel.mono (unhide HB1).size)) (unhide HBX).lt)
  have cx0 : x8.cell? ⟨bx, 0, none⟩ = some (.int .i64 la) := (unhide HBX8).cell 0
  have HPK := hide (fun W => pick5_c la 40 (by decide) (unhide HLL) 40 rfl W)
  obtain ⟨f, hf⟩ : ∃ f, pickP la 40 = f := ⟨_, rfl⟩
  have hf40 : f < 40 := by rw [← hf]; exact pickP_lt la 40 (by decide)
  rw [hf] at HPK
  have HAR := hide (armK (unhide HK8) (f : Int) (by omega))
  rw [(arm_rs O A f).1, (arm_rs O A f).2] at HAR
  clear hw8 hb8 hf8 HLS HK7 HS7 hm hf
  go_wp2_with fail
  refine (unhide HPK _).mono ?_
  rintro e y8 ⟨rfl, rfl⟩
  go_wp2_with fail
  refine (unhide HAR).mono ?_
  rintro e x9 ⟨rfl, hK9, hO9⟩
  obtain ⟨HS9', HW9'⟩ := Xo.fence hO9 (unhide HS8) (unhide HW8)
  have HS9 := hide HS9'
  have HW9 := hide HW9'
  obtain ⟨ce, cs, cnx, clost, hcm, hcp, hca, hcc⟩ := commit_at (unhide HO) (unhide G2) A f (by omega)
  have HC := hide (commitK hK9 (by decide) q c8 l m (unhide HM).symm HW9' (Nat.zero_le _) (by show A.length ≤ _; have := unhide HAL; omega))
  rw [hcm] at HC
  have HCC := hide hcc
  obtain ⟨must, hmu⟩ : ∃ m, (ce == 0) = m := ⟨_, rfl⟩
  have HMU := hide (show decide (ce = 0) = must by rw [← hmu]; rfl)
  rw [unhide HMU] at HCC
  clear hK9 hO9 HS9' HW9' HAR HPK cx0 hcm hcc HK8 HS8 HW8
  go_wp2_with fail
  refine (unhide HC).mono ?_
  rintro e x10 ⟨rfl, hK10, hO10⟩
  obtain ⟨HS10', HW10'⟩ := Xo.fence hO10 (unhide HS9) (unhide HW9)
  have HS10 := hide HS10'
  have HW10 := hide HW10'
  have HD10 := hide (show DF x1 x10 b cs (Xo g5 q l) from hK10.df)
  have HBX10 := hide ((unhide HBX).below ((unhide HB1).trans ((unhide HD10).bel.mono (unhide HB1).size)) (unhide HBX).lt)
  have cx1 : x10.cell? ⟨bx, 1, none⟩ = some (.int .i64 lk) := (unhide HBX10).cell 1
  have HBXL := hide (show bx < x1.heap.size from Nat.lt_of_lt_of_le (unhide HBX).lt (unhide HB1).size)
  clear hK10 hO10 HS10' HW10' HC HS9 HW9
  go_wp2_with fail
  refine wp_region_held_drew (S := fun w' => w'.cell? ⟨bx, 1, none⟩ = some (.int .i64 lk)) (by kernel_rfl) cx1 ?_
  intro hS
  refine wpAnyH_takeD 0 (some 78) (.pointer (some ⟨b, 0, none⟩)) rfl rfl (by kernel_rfl) (by kernel_rfl) (by kernel_rfl) (fun _ _ _ h => h) (Or.inl ⟨by rfl, fun w hSw => by have q2 := hSw; go_simp⟩) hS ?_
  simp only [Act.put, List.setIfInBounds_toArray, List.set_cons_zero, List.set_cons_succ]
  refine wpAnyH_takeD 1 (some 79) (.pointer (some ⟨bx, 1, none⟩)) rfl rfl (by kernel_rfl) (by kernel_rfl) (by kernel_rfl) (fun _ _ _ h => h) (Or.inl ⟨by rfl, fun w hSw => by have q2 := hSw; go_simp⟩) hS ?_
  simp only [Act.put, List.setIfInBounds_toArray, List.set_cons_zero, List.set_cons_succ]
  refine wpAnyH_takeD 2 (some 80) (.int .i64 lk) rfl rfl (by kernel_rfl) (by kernel_rfl) (by kernel_rfl) (fun _ _ _ h => h) (Or.inl ⟨by rfl, fun w hSw => by have q2 := hSw; go_simp⟩) hS ?_
  simp only [Act.put, List.setIfInBounds_toArray, List.set_cons_zero, List.set_cons_succ]
  refine wpAnyH_takeD 3 (some 81) (.pointer (some ⟨b, 0, none⟩)) rfl rfl (by kernel_rfl) (by kernel_rfl) (by kernel_rfl) (fun _ _ _ h => h) (Or.inl ⟨by rfl, fun w hSw => by have q2 := hSw; go_simp⟩) hS ?_
  simp only [Act.put, List.setIfInBounds_toArray, List.set_cons_zero, List.set_cons_succ]
  refine wpAnyH_takeD 4 (some 82) (.pointer (some ⟨b, 0, none⟩)) rfl rfl (by kernel_rfl) (by kernel_rfl) (by kernel_rfl) (fun _ _ _ h => h) (Or.inl ⟨by rfl, fun w hSw => by have q2 := hSw; go_simp⟩) hS ?_
  simp only [Act.put, List.setIfInBounds_toArray, List.set_cons_zero, List.set_cons_succ]
  refine wpAnyH_takeD 5 (some 83) (.pointer (some ⟨b, 0, none⟩)) rfl rfl (by kernel_rfl) (by kernel_rfl) (by kernel_rfl) (fun _ _ _ h => h) (Or.inl ⟨by rfl, fun w hSw => by have q2 := hSw; go_simp⟩) hS ?_
  simp only [Act.put, List.setIfInBounds_toArray, List.set_cons_zero, List.set_cons_succ]
  refine wpAnyH_ready (rs := [6]) (by kernel_rfl) (by simp) ?_
  refine AllReadyH.cons rfl (fun K hK => ?_) AllReadyH.nil
  simp only [List.getElem_toArray, List.getElem_cons_succ, List.getElem_cons_zero]
  go_simp
  refine (pendingD (unhide HD10).di.drew).mono ?_
  rintro ev p1 ⟨rfl, rfl⟩
  refine hK.out _ _ cx1 (fun hS => ?_)
  clear hK K
  refine wpAnyH_ready (rs := [7]) (by kernel_rfl) (by simp) ?_
  refine AllReadyH.cons rfl (fun K hK => ?_) AllReadyH.nil
  simp only [List.getElem_toArray, List.getElem_cons_succ, List.getElem_cons_zero]
  go_simp
  refine (some_any _ _ (by omega) _).mono ?_
  rintro ev p2 ⟨kp2, kc2, KL, rfl, hKi, hKr, hKn, hbp⟩
  have ZAD := hide (DF.below ((unhide HD10).below ((Below.refl _ x10).drew)) hbp)
  have ZAC := hide (crashF (unhide ZAD) (by have := hcp; omega) kp2 KL KL.length kc2 rfl hKi (by have := hcp; omega))
  obtain ⟨hce, IX, hIX, hcs⟩ := (unhide HCC).crash KL hKr
  rw [hce, hcs] at ZAC
  have hS2 : p2.cell? ⟨bx, 1, none⟩ = some (.int .i64 lk) := ((unhide HBX).below ((unhide HB1).trans ((unhide ZAD).bel.mono (unhide HB1).size)) (unhide HBX).lt).cell 1
  refine hK.out _ _ hS2 (fun hS => ?_)
  have ZAB := hide hbp
  clear hK K hKi hKr hKn hbp hce hcs
  refine wpAnyH_ready (rs := [8]) (by kernel_rfl) (by simp) ?_
  refine AllReadyH.cons rfl (fun K hK => ?_) AllReadyH.nil
  simp only [List.getElem_toArray, List.getElem_cons_succ, List.getElem_cons_zero]
  go_simp
  refine (unhide ZAC).mono ?_
  rintro ev p3 ⟨rfl, hDF3, hO3⟩
  have hS3 : p3.cell? ⟨bx, 1, none⟩ = some (.int .i64 lk) := ((unhide HBX).below ((unhide HB1).trans (hDF3.bel.mono (unhide HB1).size)) (unhide HBX).lt).cell 1
  refine hK.out _ _ hS3 (fun hS => ?_)
  clear hK K
  refine wpAnyH_takeD 9 (some 20) (.int .i64 0) rfl rfl (by kernel_rfl) (by kernel_rfl) (by kernel_rfl) (fun _ _ _ h => h) (Or.inl ⟨by rfl, fun w hSw => by have q2 := hSw; go_simp⟩) hS ?_
  simp only [Act.put, List.setIfInBounds_toArray, List.set_cons_zero, List.set_cons_succ]
  refine wpAnyH_done (by kernel_rfl) ?_ _
  have R0 := hide (show AtR O l q g5 x1 b 0 must p3 from by
    obtain ⟨s1, s2⟩ := Xo.fence hO3 (((unhide HS10).below ((Below.refl _ x10).drew)).below (unhide ZAB)) (((unhide HW10).below ((Below.refl _ x10).drew)).below (unhide ZAB))
    exact ⟨IX, cs.acts, hDF3, hIX, by have := unhide HAL; omega, s1, s2⟩)
  clear hDF3 hO3 hS3 hS2 hIX ZAC ZAD ZAB HD10 HS10 HW10 HCC cx1 hmu HMU hS HBX10 HBX8
  have HOL := hide (unhide HO).len
  go_wp2
  go_loopw [19, 21] (fun M i wr => ∃ (k : Nat) (mu : Bool), (k ≤ no ∧ k ≤ 5) ∧ M = .bool mu ∧ i = .int .i64 (k : Int) ∧ AtR O l q g5 x1 b k mu wr) (fun _ i _ => no - (intOf i).toNat)
  case atStart => exact ⟨0, must, ⟨by omega, by omega⟩, rfl, rfl, unhide R0⟩
  case round =>
    obtain ⟨k, mu, ⟨hk1, hk5⟩, rfl, rfl, I, A2, hD, hA, hAl, hS0, hW0⟩ := hrel
    obtain ⟨wo, rfl⟩ : ∃ wo, wo = wr := ⟨_, rfl⟩
    have XD := hide hD
    have XA := hide hA
    have XS := hide hS0
    have XW := hide hW0
    clear hD hA hS0 hW0 R0
    by_cases hkn : k < no
    · by_cases hk4 : k < 5
      · obtain ⟨go', oo, rfl, hgo, hc0, hc1, hI0⟩ := (unhide HLO).1 k (by have := (unhide HLO).2; omega)
        have HBW := hide (show ∀ x, Below x1.heap.size x1 x → Below w.heap.size w x from fun x hx => (unhide HB0).trans (((unhide HB1).trans (hx.mono (unhide HB1).size)).mono (unhide HB0).size))
        have ca0 := ((unhide HBW wo (unhide XD).bel).cell (p := ⟨go', oo + k * 2, none⟩) hgo).trans hc0
        obtain ⟨la2, hla2⟩ : ∃ z, (os.getD k (0, 0)).1 = z := ⟨_, rfl⟩
        obtain ⟨lk2, hlk2⟩ : ∃ z, (os.getD k (0, 0)).2 = z := ⟨_, rfl⟩
        rw [hla2] at ca0 hI0
        rw [hlk2] at hc1
        have HC1 := hide (fun x (hx : Below x1.heap.size x1 x) => ((unhide HBW x hx).cell (p := ⟨go', oo + k * 2 + 1, none⟩) hgo).trans hc1)
        have HPK := hide (fun W => pick5_c la2 20 (by decide) hI0 20 rfl W)
        obtain ⟨f, hf⟩ : ∃ f, pickP la2 20 = f := ⟨_, rfl⟩
        have hf20 : f < 20 := by rw [← hf]; exact pickP_lt la2 20 (by decide)
        rw [hf] at HPK
        obtain ⟨f1, hf1⟩ : ∃ f1, f1 = f + 1 := ⟨_, rfl⟩
        have hwr : IntKind.i64.wrap (1 + (f : Int)) = (f1 : Int) := by rw [wrapI_eq _ (by omega) (by omega)]; omega
        have HAR := hide (armF (unhide XD) (f1 : Int) (by omega))
        rw [(arm_rs I A2 f1).1, (arm_rs I A2 f1).2] at HAR
        have HF1 := hide (show 1 ≤ f1 ∧ f1 ≤ 20 by omega)
        have i0 : 0 ≤ (k : Int) := by omega
        have i1 : (k : Int) < (no : Int) := by omega
        clear hc0 hc1 hI0 hla2 hlk2 hf hf1
        go_wp2_with fail
        refine (unhide HPK _).mono ?_
        rintro e y1 ⟨rfl, rfl⟩
        clear ca0
        go_wp2_with fail
        refine (unhide HAR).mono ?_
        rintro e y2 ⟨rfl, hD2, hO2⟩
        obtain ⟨t1, t2⟩ := Xo.fence hO2 (unhide XS) (unhide XW)
        have YS := hide t1
        have YW := hide t2
        have HOP := hide (openF hD2 ((unhide HG1).below hD2.bel (unhide HG1).lt) (unhide HF1).1 (unhide HF1).2 (unhide XA) (unhide G2) (unhide HOL) (by omega))
        clear hD2 hO2 t1 t2 HAR HPK XD XA XS XW hwr
        go_wp2_with fail
        refine (unhide HOP).mono ?_
        rintro e y3 ⟨jp, ag, er, s3, rfl, hD3, hO3, her, hp3, ha3, hcr3⟩
        obtain ⟨t1, t2⟩ := Xo.fence hO3 (unhide YS) (unhide YW)
        have ZS := hide t1
        have ZW := hide t2
        have ZD := hide hD3
        have ZC := hide hcr3
        have c3 := unhide HC1 y3 hD3.bel
        clear hD3 hO3 t1 t2 HOP YS YW hcr3
        cases mu with
        | true =>
          rcases her with rfl | rfl
          · have ZC2 := hide (show Crashed (StA O l true) s3 from by have := unhide ZC; simpa using this)
            clear ZC
            go_wp2_with fail
            refine wp_region_held_drew (S := fun w' => w'.cell? ⟨go', oo + k * 2 + 1, none⟩ = some (.int .i64 lk2)) (by kernel_rfl) c3 ?_
            intro hS
            refine wpAnyH_takeD 0 (some 126) (.pointer (some ⟨b, 0, none⟩)) rfl rfl (by kernel_rfl) (by kernel_rfl) (by kernel_rfl) (fun _ _ _ h => h) (Or.inl ⟨by rfl, fun w hSw => by have q2 := hSw; go_simp⟩) hS ?_
            simp only [Act.put, List.setIfInBounds_toArray, List.set_cons_zero, List.set_cons_succ]
            refine wpAnyH_takeD 1 (some 127) (.slice (some ⟨go', oo, none⟩) no co) rfl rfl (by kernel_rfl) (by kernel_rfl) (by kernel_rfl) (fun _ _ _ h => h) (Or.inl ⟨by rfl, fun w hSw => by have q2 := hSw; go_simp⟩) hS ?_
            simp only [Act.put, List.setIfInBounds_toArray, List.set_cons_zero, List.set_cons_succ]
            refine wpAnyH_takeD 2 (some 128) (.int .i64 (k : Int)) rfl rfl (by kernel_rfl) (by kernel_rfl) (by kernel_rfl) (fun _ _ _ h => h) (Or.inl ⟨by rfl, fun w hSw => by have q2 := hSw; go_simp⟩) hS ?_
            simp only [Act.put, List.setIfInBounds_toArray, List.set_cons_zero, List.set_cons_succ]
            refine wpAnyH_takeD 3 (some 129) (.pointer (some ⟨go', oo + k * 2, none⟩)) rfl rfl (by kernel_rfl) (by kernel_rfl) (by kernel_rfl) (fun _ _ _ h => h) (Or.inl ⟨by rfl, fun w hSw => by have q2 := hSw; go_simp⟩) hS ?_
            simp only [Act.put, List.setIfInBounds_toArray, List.set_cons_zero, List.set_cons_succ]
            refine wpAnyH_takeD 4 (some 130) (.pointer (some ⟨go', oo + k * 2 + 1, none⟩)) rfl rfl (by kernel_rfl) (by kernel_rfl) (by kernel_rfl) (fun _ _ _ h => h) (Or.inl ⟨by rfl, fun w hSw => by have q2 := hSw; go_simp⟩) hS ?_
            simp only [Act.put, List.setIfInBounds_toArray, List.set_cons_zero, List.set_cons_succ]
            refine wpAnyH_takeD 5 (some 131) (.int .i64 lk2) rfl rfl (by kernel_rfl) (by kernel_rfl) (by kernel_rfl) (fun _ _ _ h => h) (Or.inl ⟨by rfl, fun w hSw => by have q2 := hSw; go_simp⟩) hS ?_
            simp only [Act.put, List.setIfInBounds_toArray, List.set_cons_zero, List.set_cons_succ]
            refine wpAnyH_takeD 6 (some 132) (.pointer (some ⟨b, 0, none⟩)) rfl rfl (by kernel_rfl) (by kernel_rfl) (by kernel_rfl) (fun _ _ _ h => h) (Or.inl ⟨by rfl, fun w hSw => by have q2 := hSw; go_simp⟩) hS ?_
            simp only [Act.put, List.setIfInBounds_toArray, List.set_cons_zero, List.set_cons_succ]
            refine wpAnyH_takeD 7 (some 133) (.pointer (some ⟨b, 0, none⟩)) rfl rfl (by kernel_rfl) (by kernel_rfl) (by kernel_rfl) (fun _ _ _ h => h) (Or.inl ⟨by rfl, fun w hSw => by have q2 := hSw; go_simp⟩) hS ?_
            simp only [Act.put, List.setIfInBounds_toArray, List.set_cons_zero, List.set_cons_succ]
            refine wpAnyH_takeD 8 (some 134) (.pointer (some ⟨b, 0, none⟩)) rfl rfl (by kernel_rfl) (by kernel_rfl) (by kernel_rfl) (fun _ _ _ h => h) (Or.inl ⟨by rfl, fun w hSw => by have q2 := hSw; go_simp⟩) hS ?_
            simp only [Act.put, List.setIfInBounds_toArray, List.set_cons_zero, List.set_cons_succ]
            refine wpAnyH_ready (rs := [9]) (by kernel_rfl) (by simp) ?_
            refine AllReadyH.cons rfl (fun K hK => ?_) AllReadyH.nil
            simp only [List.getElem_toArray, List.getElem_cons_succ, List.getElem_cons_zero]
            go_simp
            refine (pendingD (unhide ZD).di.drew).mono ?_
            rintro ev p1 ⟨rfl, rfl⟩
            refine hK.out _ _ c3 (fun hS => ?_)
            clear hK K
            refine wpAnyH_ready (rs := [10]) (by kernel_rfl) (by simp) ?_
            refine AllReadyH.cons rfl (fun K hK => ?_) AllReadyH.nil
            simp only [List.getElem_toArray, List.getElem_cons_succ, List.getElem_cons_zero]
            go_simp
            refine (some_any _ _ (by omega) _).mono ?_
            rintro ev p2 ⟨kp2, kc2, KL, rfl, hKi, hKr, hKn, hbp⟩
            have ZBD := hide (DF.below ((unhide ZD).below ((Below.refl _ y3).drew)) hbp)
            have ZBC := hide (crashF (unhide ZBD) (by have := hp3; omega) kp2 KL KL.length kc2 rfl hKi (by have := hp3; omega))
            obtain ⟨hce, IX, hIX, hcs⟩ := (unhide ZC2).crash KL hKr
            rw [hce, hcs] at ZBC
            have hS2 : p2.cell? ⟨go', oo + k * 2 + 1, none⟩ = some (.int .i64 lk2) := unhide HC1 p2 (unhide ZBD).bel
            refine hK.out _ _ hS2 (fun hS => ?_)
            have ZBB := hide hbp
            clear hK K hKi hKr hKn hbp hce hcs
            refine wpAnyH_ready (rs := [11]) (by kernel_rfl) (by simp) ?_
            refine AllReadyH.cons rfl (fun K hK => ?_) AllReadyH.nil
            simp only [List.getElem_toArray, List.getElem_cons_succ, List.getElem_cons_zero]
            go_simp
            refine (unhide ZBC).mono ?_
            rintro ev p3 ⟨rfl, hDF3, hO3⟩
            have hS3 : p3.cell? ⟨go', oo + k * 2 + 1, none⟩ = some (.int .i64 lk2) := unhide HC1 p3 hDF3.bel
            refine hK.out _ _ hS3 (fun hS => ?_)
            clear hK K
            refine wpAnyH_takeD 12 (some 26) (.int .i64 0) rfl rfl (by kernel_rfl) (by kernel_rfl) (by kernel_rfl) (fun _ _ _ h => h) (Or.inl ⟨by rfl, fun w hSw => by have q2 := hSw; go_simp⟩) hS ?_
            simp only [Act.put, List.setIfInBounds_toArray, List.set_cons_zero, List.set_cons_succ]
            refine wpAnyH_done (by kernel_rfl) ?_ _
            have R3 := hide (show AtR O l q g5 x1 b (k + 1) true p3 from by
              obtain ⟨s1, s2⟩ := Xo.fence hO3 (((unhide ZS).below ((Below.refl _ y3).drew)).below (unhide ZBB)) (((unhide ZW).below ((Below.refl _ y3).drew)).below (unhide ZBB))
              exact ⟨IX, s3.acts, hDF3, hIX, by omega, s1, s2⟩)
            clear hDF3 hO3 hS3 hS2 hIX ZBC ZBD ZBB ZD ZS ZW ZC2 c3 hS
            go_wp2
            go_roundw
            case rel => exact ⟨k + 1, true, ⟨by omega, by omega⟩, rfl, by go_num, unhide R3⟩
            case measure => simp [intOf]; omega
          · have ZC2 := hide (show Crashed (StA O l true) s3 from by have := unhide ZC; simpa using this)
            clear ZC
            go_wp2_with fail
            refine wp_region_held_drew (S := fun w' => w'.cell? ⟨go', oo + k * 2 + 1, none⟩ = some (.int .i64 lk2)) (by kernel_rfl) c3 ?_
            intro hS
            refine wpAnyH_takeD 0 (some 126) (.pointer (some ⟨b, 0, none⟩)) rfl rfl (by kernel_rfl) (by kernel_rfl) (by kernel_rfl) (fun _ _ _ h => h) (Or.inl ⟨by rfl, fun w hSw => by have q2 := hSw; go_simp⟩) hS ?_
            simp only [Act.put, List.setIfInBounds_toArray, List.set_cons_zero, List.set_cons_succ]
            refine wpAnyH_takeD 1 (some 127) (.slice (some ⟨go', oo, none⟩) no co) rfl rfl (by kernel_rfl) (by kernel_rfl) (by kernel_rfl) (fun _ _ _ h => h) (Or.inl ⟨by rfl, fun w hSw => by have q2 := hSw; go_simp⟩) hS ?_
            simp only [Act.put, List.setIfInBounds_toArray, List.set_cons_zero, List.set_cons_succ]
            refine wpAnyH_takeD 2 (some 128) (.int .i64 (k : Int)) rfl rfl (by kernel_rfl) (by kernel_rfl) (by kernel_rfl) (fun _ _ _ h => h) (Or.inl ⟨by rfl, fun w hSw => by have q2 := hSw; go_simp⟩) hS ?_
            simp only [Act.put, List.setIfInBounds_toArray, List.set_cons_zero, List.set_cons_succ]
            refine wpAnyH_takeD 3 (some 129) (.pointer (some ⟨go', oo + k * 2, none⟩)) rfl rfl (by kernel_rfl) (by kernel_rfl) (by kernel_rfl) (fun _ _ _ h => h) (Or.inl ⟨by rfl, fun w hSw => by have q2 := hSw; go_simp⟩) hS ?_
            simp only [Act.put, List.setIfInBounds_toArray, List.set_cons_zero, List.set_cons_succ]
            refine wpAnyH_takeD 4 (some 130) (.pointer (some ⟨go', oo + k * 2 + 1, none⟩)) rfl rfl (by kernel_rfl) (by kernel_rfl) (by kernel_rfl) (fun _ _ _ h => h) (Or.inl ⟨by rfl, fun w hSw => by have q2 := hSw; go_simp⟩) hS ?_
            simp only [Act.put, List.setIfInBounds_toArray, List.set_cons_zero, List.set_cons_succ]
            refine wpAnyH_takeD 5 (some 131) (.int .i64 lk2) rfl rfl (by kernel_rfl) (by kernel_rfl) (by kernel_rfl) (fun _ _ _ h => h) (Or.inl ⟨by rfl, fun w hSw => by have q2 := hSw; go_simp⟩) hS ?_
            simp only [Act.put, List.setIfInBounds_toArray, List.set_cons_zero, List.set_cons_succ]
            refine wpAnyH_takeD 6 (some 132) (.pointer (some ⟨b, 0, none⟩)) rfl rfl (by kernel_rfl) (by kernel_rfl) (by kernel_rfl) (fun _ _ _ h => h) (Or.inl ⟨by rfl, fun w hSw => by have q2 := hSw; go_simp⟩) hS ?_
            simp only [Act.put, List.setIfInBounds_toArray, List.set_cons_zero, List.set_cons_succ]
            refine wpAnyH_takeD 7 (some 133) (.pointer (some ⟨b, 0, none⟩)) rfl rfl (by kernel_rfl) (by kernel_rfl) (by kernel_rfl) (fun _ _ _ h => h) (Or.inl ⟨by rfl, fun w hSw => by have q2 := hSw; go_simp⟩) hS ?_
            simp only [Act.put, List.setIfInBounds_toArray, List.set_cons_zero, List.set_cons_succ]
            refine wpAnyH_takeD 8 (some 134) (.pointer (some ⟨b, 0, none⟩)) rfl rfl (by kernel_rfl) (by kernel_rfl) (by kernel_rfl) (fun _ _ _ h => h) (Or.inl ⟨by rfl, fun w hSw => by have q2 := hSw; go_simp⟩) hS ?_
            simp only [Act.put, List.setIfInBounds_toArray, List.set_cons_zero, List.set_cons_succ]
            refine wpAnyH_ready (rs := [9]) (by kernel_rfl) (by simp) ?_
            refine AllReadyH.cons rfl (fun K hK => ?_) AllReadyH.nil
            simp only [List.getElem_toArray, List.getElem_cons_succ, List.getElem_cons_zero]
            go_simp
            refine (pendingD (unhide ZD).di.drew).mono ?_
            rintro ev p1 ⟨rfl, rfl⟩
            refine hK.out _ _ c3 (fun hS => ?_)
            clear hK K
            refine wpAnyH_ready (rs := [10]) (by kernel_rfl) (by simp) ?_
            refine AllReadyH.cons rfl (fun K hK => ?_) AllReadyH.nil
            simp only [List.getElem_toArray, List.getElem_cons_succ, List.getElem_cons_zero]
            go_simp
            refine (some_any _ _ (by omega) _).mono ?_
            rintro ev p2 ⟨kp2, kc2, KL, rfl, hKi, hKr, hKn, hbp⟩
            have ZBD := hide (DF.below ((unhide ZD).below ((Below.refl _ y3).drew)) hbp)
            have ZBC := hide (crashF (unhide ZBD) (by have := hp3; omega) kp2 KL KL.length kc2 rfl hKi (by have := hp3; omega))
            obtain ⟨hce, IX, hIX, hcs⟩ := (unhide ZC2).crash KL hKr
            rw [hce, hcs] at ZBC
            have hS2 : p2.cell? ⟨go', oo + k * 2 + 1, none⟩ = some (.int .i64 lk2) := unhide HC1 p2 (unhide ZBD).bel
            refine hK.out _ _ hS2 (fun hS => ?_)
            have ZBB := hide hbp
            clear hK K hKi hKr hKn hbp hce hcs
            refine wpAnyH_ready (rs := [11]) (by kernel_rfl) (by simp) ?_
            refine AllReadyH.cons rfl (fun K hK => ?_) AllReadyH.nil
            simp only [List.getElem_toArray, List.getElem_cons_succ, List.getElem_cons_zero]
            go_simp
            refine (unhide ZBC).mono ?_
            rintro ev p3 ⟨rfl, hDF3, hO3⟩
            have hS3 : p3.cell? ⟨go', oo + k * 2 + 1, none⟩ = some (.int .i64 lk2) := unhide HC1 p3 hDF3.bel
            refine hK.out _ _ hS3 (fun hS => ?_)
            clear hK K
            refine wpAnyH_takeD 12 (some 26) (.int .i64 0) rfl rfl (by kernel_rfl) (by kernel_rfl) (by kernel_rfl) (fun _ _ _ h => h) (Or.inl ⟨by rfl, fun w hSw => by have q2 := hSw; go_simp⟩) hS ?_
            simp only [Act.put, List.setIfInBounds_toArray, List.set_cons_zero, List.set_cons_succ]
            refine wpAnyH_done (by kernel_rfl) ?_ _
            have R3 := hide (show AtR O l q g5 x1 b (k + 1) true p3 from by
              obtain ⟨s1, s2⟩ := Xo.fence hO3 (((unhide ZS).below ((Below.refl _ y3).drew)).below (unhide ZBB)) (((unhide ZW).below ((Below.refl _ y3).drew)).below (unhide ZBB))
              exact ⟨IX, s3.acts, hDF3, hIX, by omega, s1, s2⟩)
            clear hDF3 hO3 hS3 hS2 hIX ZBC ZBD ZBB ZD ZS ZW ZC2 c3 hS
            go_wp2
            go_roundw
            case rel => exact ⟨k + 1, true, ⟨by omega, by omega⟩, rfl, by go_num, unhide R3⟩
            case measure => simp [intOf]; omega
        | false =>
          rcases her with rfl | rfl
          · cases ag with
            | true =>
              have ZC2 := hide (show Crashed (StA O l true) s3 from by have := unhide ZC; simpa using this)
              clear ZC
              go_wp2_with fail
              refine wp_region_held_drew (S := fun w' => w'.cell? ⟨go', oo + k * 2 + 1, none⟩ = some (.int .i64 lk2)) (by kernel_rfl) c3 ?_
              intro hS
              refine wpAnyH_takeD 0 (some 126) (.pointer (some ⟨b, 0, none⟩)) rfl rfl (by kernel_rfl) (by kernel_rfl) (by kernel_rfl) (fun _ _ _ h => h) (Or.inl ⟨by rfl, fun w hSw => by have q2 := hSw; go_simp⟩) hS ?_
              simp only [Act.put, List.setIfInBounds_toArray, List.set_cons_zero, List.set_cons_succ]
              refine wpAnyH_takeD 1 (some 127) (.slice (some ⟨go', oo, none⟩) no co) rfl rfl (by kernel_rfl) (by kernel_rfl) (by kernel_rfl) (fun _ _ _ h => h) (Or.inl ⟨by rfl, fun w hSw => by have q2 := hSw; go_simp⟩) hS ?_
              simp only [Act.put, List.setIfInBounds_toArray, List.set_cons_zero, List.set_cons_succ]
              refine wpAnyH_takeD 2 (some 128) (.int .i64 (k : Int)) rfl rfl (by kernel_rfl) (by kernel_rfl) (by kernel_rfl) (fun _ _ _ h => h) (Or.inl ⟨by rfl, fun w hSw => by have q2 := hSw; go_simp⟩) hS ?_
              simp only [Act.put, List.setIfInBounds_toArray, List.set_cons_zero, List.set_cons_succ]
              refine wpAnyH_takeD 3 (some 129) (.pointer (some ⟨go', oo + k * 2, none⟩)) rfl rfl (by kernel_rfl) (by kernel_rfl) (by kernel_rfl) (fun _ _ _ h => h) (Or.inl ⟨by rfl, fun w hSw => by have q2 := hSw; go_simp⟩) hS ?_
              simp only [Act.put, List.setIfInBounds_toArray, List.set_cons_zero, List.set_cons_succ]
              refine wpAnyH_takeD 4 (some 130) (.pointer (some ⟨go', oo + k * 2 + 1, none⟩)) rfl rfl (by kernel_rfl) (by kernel_rfl) (by kernel_rfl) (fun _ _ _ h => h) (Or.inl ⟨by rfl, fun w hSw => by have q2 := hSw; go_simp⟩) hS ?_
              simp only [Act.put, List.setIfInBounds_toArray, List.set_cons_zero, List.set_cons_succ]
              refine wpAnyH_takeD 5 (some 131) (.int .i64 lk2) rfl rfl (by kernel_rfl) (by kernel_rfl) (by kernel_rfl) (fun _ _ _ h => h) (Or.inl ⟨by rfl, fun w hSw => by have q2 := hSw; go_simp⟩) hS ?_
              simp only [Act.put, List.setIfInBounds_toArray, List.set_cons_zero, List.set_cons_succ]
              refine wpAnyH_takeD 6 (some 132) (.pointer (some ⟨b, 0, none⟩)) rfl rfl (by kernel_rfl) (by kernel_rfl) (by kernel_rfl) (fun _ _ _ h => h) (Or.inl ⟨by rfl, fun w hSw => by have q2 := hSw; go_simp⟩) hS ?_
              simp only [Act.put, List.setIfInBounds_toArray, List.set_cons_zero, List.set_cons_succ]
              refine wpAnyH_takeD 7 (some 133) (.pointer (some ⟨b, 0, none⟩)) rfl rfl (by kernel_rfl) (by kernel_rfl) (by kernel_rfl) (fun _ _ _ h => h) (Or.inl ⟨by rfl, fun w hSw => by have q2 := hSw; go_simp⟩) hS ?_
              simp only [Act.put, List.setIfInBounds_toArray, List.set_cons_zero, List.set_cons_succ]
              refine wpAnyH_takeD 8 (some 134) (.pointer (some ⟨b, 0, none⟩)) rfl rfl (by kernel_rfl) (by kernel_rfl) (by kernel_rfl) (fun _ _ _ h => h) (Or.inl ⟨by rfl, fun w hSw => by have q2 := hSw; go_simp⟩) hS ?_
              simp only [Act.put, List.setIfInBounds_toArray, List.set_cons_zero, List.set_cons_succ]
              refine wpAnyH_ready (rs := [9]) (by kernel_rfl) (by simp) ?_
              refine AllReadyH.cons rfl (fun K hK => ?_) AllReadyH.nil
              simp only [List.getElem_toArray, List.getElem_cons_succ, List.getElem_cons_zero]
              go_simp
              refine (pendingD (unhide ZD).di.drew).mono ?_
              rintro ev p1 ⟨rfl, rfl⟩
              refine hK.out _ _ c3 (fun hS => ?_)
              clear hK K
              refine wpAnyH_ready (rs := [10]) (by kernel_rfl) (by simp) ?_
              refine AllReadyH.cons rfl (fun K hK => ?_) AllReadyH.nil
              simp only [List.getElem_toArray, List.getElem_cons_succ, List.getElem_cons_zero]
              go_simp
              refine (some_any _ _ (by omega) _).mono ?_
              rintro ev p2 ⟨kp2, kc2, KL, rfl, hKi, hKr, hKn, hbp⟩
              have ZBD := hide (DF.below ((unhide ZD).below ((Below.refl _ y3).drew)) hbp)
              have ZBC := hide (crashF (unhide ZBD) (by have := hp3; omega) kp2 KL KL.length kc2 rfl hKi (by have := hp3; omega))
              obtain ⟨hce, IX, hIX, hcs⟩ := (unhide ZC2).crash KL hKr
              rw [hce, hcs] at ZBC
              have hS2 : p2.cell? ⟨go', oo + k * 2 + 1, none⟩ = some (.int .i64 lk2) := unhide HC1 p2 (unhide ZBD).bel
              refine hK.out _ _ hS2 (fun hS => ?_)
              have ZBB := hide hbp
              clear hK K hKi hKr hKn hbp hce hcs
              refine wpAnyH_ready (rs := [11]) (by kernel_rfl) (by simp) ?_
              refine AllReadyH.cons rfl (fun K hK => ?_) AllReadyH.nil
              simp only [List.getElem_toArray, List.getElem_cons_succ, List.getElem_cons_zero]
              go_simp
              refine (unhide ZBC).mono ?_
              rintro ev p3 ⟨rfl, hDF3, hO3⟩
              have hS3 : p3.cell? ⟨go', oo + k * 2 + 1, none⟩ = some (.int .i64 lk2) := unhide HC1 p3 hDF3.bel
              refine hK.out _ _ hS3 (fun hS => ?_)
              clear hK K
              refine wpAnyH_takeD 12 (some 26) (.int .i64 0) rfl rfl (by kernel_rfl) (by kernel_rfl) (by kernel_rfl) (fun _ _ _ h => h) (Or.inl ⟨by rfl, fun w hSw => by have q2 := hSw; go_simp⟩) hS ?_
              simp only [Act.put, List.setIfInBounds_toArray, List.set_cons_zero, List.set_cons_succ]
              refine wpAnyH_done (by kernel_rfl) ?_ _
              have R3 := hide (show AtR O l q g5 x1 b (k + 1) true p3 from by
                obtain ⟨s1, s2⟩ := Xo.fence hO3 (((unhide ZS).below ((Below.refl _ y3).drew)).below (unhide ZBB)) (((unhide ZW).below ((Below.refl _ y3).drew)).below (unhide ZBB))
                exact ⟨IX, s3.acts, hDF3, hIX, by omega, s1, s2⟩)
              clear hDF3 hO3 hS3 hS2 hIX ZBC ZBD ZBB ZD ZS ZW ZC2 c3 hS
              go_wp2
              go_roundw
              case rel => exact ⟨k + 1, true, ⟨by omega, by omega⟩, rfl, by go_num, unhide R3⟩
              case measure => simp [intOf]; omega
            | false =>
              have ZC2 := hide (show Crashed (StA O l false) s3 from by have := unhide ZC; simpa using this)
              clear ZC
              go_wp2_with fail
              refine wp_region_held_drew (S := fun w' => w'.cell? ⟨go', oo + k * 2 + 1, none⟩ = some (.int .i64 lk2)) (by kernel_rfl) c3 ?_
              intro hS
              refine wpAnyH_takeD 0 (some 126) (.pointer (some ⟨b, 0, none⟩)) rfl rfl (by kernel_rfl) (by kernel_rfl) (by kernel_rfl) (fun _ _ _ h => h) (Or.inl ⟨by rfl, fun w hSw => by have q2 := hSw; go_simp⟩) hS ?_
              simp only [Act.put, List.setIfInBounds_toArray, List.set_cons_zero, List.set_cons_succ]
              refine wpAnyH_takeD 1 (some 127) (.slice (some ⟨go', oo, none⟩) no co) rfl rfl (by kernel_rfl) (by kernel_rfl) (by kernel_rfl) (fun _ _ _ h => h) (Or.inl ⟨by rfl, fun w hSw => by have q2 := hSw; go_simp⟩) hS ?_
              simp only [Act.put, List.setIfInBounds_toArray, List.set_cons_zero, List.set_cons_succ]
              refine wpAnyH_takeD 2 (some 128) (.int .i64 (k : Int)) rfl rfl (by kernel_rfl) (by kernel_rfl) (by kernel_rfl) (fun _ _ _ h => h) (Or.inl ⟨by rfl, fun w hSw => by have q2 := hSw; go_simp⟩) hS ?_
              simp only [Act.put, List.setIfInBounds_toArray, List.set_cons_zero, List.set_cons_succ]
              refine wpAnyH_takeD 3 (some 129) (.pointer (some ⟨go', oo + k * 2, none⟩)) rfl rfl (by kernel_rfl) (by kernel_rfl) (by kernel_rfl) (fun _ _ _ h => h) (Or.inl ⟨by rfl, fun w hSw => by have q2 := hSw; go_simp⟩) hS ?_
              simp only [Act.put, List.setIfInBounds_toArray, List.set_cons_zero, List.set_cons_succ]
              refine wpAnyH_takeD 4 (some 130) (.pointer (some ⟨go', oo + k * 2 + 1, none⟩)) rfl rfl (by kernel_rfl) (by kernel_rfl) (by kernel_rfl) (fun _ _ _ h => h) (Or.inl ⟨by rfl, fun w hSw => by have q2 := hSw; go_simp⟩) hS ?_
              simp only [Act.put, List.setIfInBounds_toArray, List.set_cons_zero, List.set_cons_succ]
              refine wpAnyH_takeD 5 (some 131) (.int .i64 lk2) rfl rfl (by kernel_rfl) (by kernel_rfl) (by kernel_rfl) (fun _ _ _ h => h) (Or.inl ⟨by rfl, fun w hSw => by have q2 := hSw; go_simp⟩) hS ?_
              simp only [Act.put, List.setIfInBounds_toArray, List.set_cons_zero, List.set_cons_succ]
              refine wpAnyH_takeD 6 (some 132) (.pointer (some ⟨b, 0, none⟩)) rfl rfl (by kernel_rfl) (by kernel_rfl) (by kernel_rfl) (fun _ _ _ h => h) (Or.inl ⟨by rfl, fun w hSw => by have q2 := hSw; go_simp⟩) hS ?_
              simp only [Act.put, List.setIfInBounds_toArray, List.set_cons_zero, List.set_cons_succ]
              refine wpAnyH_takeD 7 (some 133) (.pointer (some ⟨b, 0, none⟩)) rfl rfl (by kernel_rfl) (by kernel_rfl) (by kernel_rfl) (fun _ _ _ h => h) (Or.inl ⟨by rfl, fun w hSw => by have q2 := hSw; go_simp⟩) hS ?_
              simp only [Act.put, List.setIfInBounds_toArray, List.set_cons_zero, List.set_cons_succ]
              refine wpAnyH_takeD 8 (some 134) (.pointer (some ⟨b, 0, none⟩)) rfl rfl (by kernel_rfl) (by kernel_rfl) (by kernel_rfl) (fun _ _ _ h => h) (Or.inl ⟨by rfl, fun w hSw => by have q2 := hSw; go_simp⟩) hS ?_
              simp only [Act.put, List.setIfInBounds_toArray, List.set_cons_zero, List.set_cons_succ]
              refine wpAnyH_ready (rs := [9]) (by kernel_rfl) (by simp) ?_
              refine AllReadyH.cons rfl (fun K hK => ?_) AllReadyH.nil
              simp only [List.getElem_toArray, List.getElem_cons_succ, List.getElem_cons_zero]
              go_simp
              refine (pendingD (unhide ZD).di.drew).mono ?_
              rintro ev p1 ⟨rfl, rfl⟩
              refine hK.out _ _ c3 (fun hS => ?_)
              clear hK K
              refine wpAnyH_ready (rs := [10]) (by kernel_rfl) (by simp) ?_
              refine AllReadyH.cons rfl (fun K hK => ?_) AllReadyH.nil
              simp only [List.getElem_toArray, List.getElem_cons_succ, List.getElem_cons_zero]
              go_simp
              refine (some_any _ _ (by omega) _).mono ?_
              rintro ev p2 ⟨kp2, kc2, KL, rfl, hKi, hKr, hKn, hbp⟩
              have ZBD := hide (DF.below ((unhide ZD).below ((Below.refl _ y3).drew)) hbp)
              have ZBC := hide (crashF (unhide ZBD) (by have := hp3; omega) kp2 KL KL.length kc2 rfl hKi (by have := hp3; omega))
              obtain ⟨hce, IX, hIX, hcs⟩ := (unhide ZC2).crash KL hKr
              rw [hce, hcs] at ZBC
              have hS2 : p2.cell? ⟨go', oo + k * 2 + 1, none⟩ = some (.int .i64 lk2) := unhide HC1 p2 (unhide ZBD).bel
              refine hK.out _ _ hS2 (fun hS => ?_)
              have ZBB := hide hbp
              clear hK K hKi hKr hKn hbp hce hcs
              refine wpAnyH_ready (rs := [11]) (by kernel_rfl) (by simp) ?_
              refine AllReadyH.cons rfl (fun K hK => ?_) AllReadyH.nil
              simp only [List.getElem_toArray, List.getElem_cons_succ, List.getElem_cons_zero]
              go_simp
              refine (unhide ZBC).mono ?_
              rintro ev p3 ⟨rfl, hDF3, hO3⟩
              have hS3 : p3.cell? ⟨go', oo + k * 2 + 1, none⟩ = some (.int .i64 lk2) := unhide HC1 p3 hDF3.bel
              refine hK.out _ _ hS3 (fun hS => ?_)
              clear hK K
              refine wpAnyH_takeD 12 (some 26) (.int .i64 0) rfl rfl (by kernel_rfl) (by kernel_rfl) (by kernel_rfl) (fun _ _ _ h => h) (Or.inl ⟨by rfl, fun w hSw => by have q2 := hSw; go_simp⟩) hS ?_
              simp only [Act.put, List.setIfInBounds_toArray, List.set_cons_zero, List.set_cons_succ]
              refine wpAnyH_done (by kernel_rfl) ?_ _
              have R3 := hide (show AtR O l q g5 x1 b (k + 1) false p3 from by
                obtain ⟨s1, s2⟩ := Xo.fence hO3 (((unhide ZS).below ((Below.refl _ y3).drew)).below (unhide ZBB)) (((unhide ZW).below ((Below.refl _ y3).drew)).below (unhide ZBB))
                exact ⟨IX, s3.acts, hDF3, hIX, by omega, s1, s2⟩)
              clear hDF3 hO3 hS3 hS2 hIX ZBC ZBD ZBB ZD ZS ZW ZC2 c3 hS
              go_wp2
              go_roundw
              case rel => exact ⟨k + 1, false, ⟨by omega, by omega⟩, rfl, by go_num, unhide R3⟩
              case measure => simp [intOf]; omega
          · have ZC2 := hide (show Crashed (StA O l false) s3 from by have := unhide ZC; simpa using this)
            clear ZC
            go_wp2_with fail
            refine wp_region_held_drew (S := fun w' => w'.cell? ⟨go', oo + k * 2 + 1, none⟩ = some (.int .i64 lk2)) (by kernel_rfl) c3 ?_
            intro hS
            refine wpAnyH_takeD 0 (some 126) (.pointer (some ⟨b, 0, none⟩)) rfl rfl (by kernel_rfl) (by kernel_rfl) (by kernel_rfl) (fun _ _ _ h => h) (Or.inl ⟨by rfl, fun w hSw => by have q2 := hSw; go_simp⟩) hS ?_
            simp only [Act.put, List.setIfInBounds_toArray, List.set_cons_zero, List.set_cons_succ]
            refine wpAnyH_takeD 1 (some 127) (.slice (some ⟨go', oo, none⟩) no co) rfl rfl (by kernel_rfl) (by kernel_rfl) (by kernel_rfl) (fun _ _ _ h => h) (Or.inl ⟨by rfl, fun w hSw => by have q2 := hSw; go_simp⟩) hS ?_
            simp only [Act.put, List.setIfInBounds_toArray, List.set_cons_zero, List.set_cons_succ]
            refine wpAnyH_takeD 2 (some 128) (.int .i64 (k : Int)) rfl rfl (by kernel_rfl) (by kernel_rfl) (by kernel_rfl) (fun _ _ _ h => h) (Or.inl ⟨by rfl, fun w hSw => by have q2 := hSw; go_simp⟩) hS ?_
            simp only [Act.put, List.setIfInBounds_toArray, List.set_cons_zero, List.set_cons_succ]
            refine wpAnyH_takeD 3 (some 129) (.pointer (some ⟨go', oo + k * 2, none⟩)) rfl rfl (by kernel_rfl) (by kernel_rfl) (by kernel_rfl) (fun _ _ _ h => h) (Or.inl ⟨by rfl, fun w hSw => by have q2 := hSw; go_simp⟩) hS ?_
            simp only [Act.put, List.setIfInBounds_toArray, List.set_cons_zero, List.set_cons_succ]
            refine wpAnyH_takeD 4 (some 130) (.pointer (some ⟨go', oo + k * 2 + 1, none⟩)) rfl rfl (by kernel_rfl) (by kernel_rfl) (by kernel_rfl) (fun _ _ _ h => h) (Or.inl ⟨by rfl, fun w hSw => by have q2 := hSw; go_simp⟩) hS ?_
            simp only [Act.put, List.setIfInBounds_toArray, List.set_cons_zero, List.set_cons_succ]
            refine wpAnyH_takeD 5 (some 131) (.int .i64 lk2) rfl rfl (by kernel_rfl) (by kernel_rfl) (by kernel_rfl) (fun _ _ _ h => h) (Or.inl ⟨by rfl, fun w hSw => by have q2 := hSw; go_simp⟩) hS ?_
            simp only [Act.put, List.setIfInBounds_toArray, List.set_cons_zero, List.set_cons_succ]
            refine wpAnyH_takeD 6 (some 132) (.pointer (some ⟨b, 0, none⟩)) rfl rfl (by kernel_rfl) (by kernel_rfl) (by kernel_rfl) (fun _ _ _ h => h) (Or.inl ⟨by rfl, fun w hSw => by have q2 := hSw; go_simp⟩) hS ?_
            simp only [Act.put, List.setIfInBounds_toArray, List.set_cons_zero, List.set_cons_succ]
            refine wpAnyH_takeD 7 (some 133) (.pointer (some ⟨b, 0, none⟩)) rfl rfl (by kernel_rfl) (by kernel_rfl) (by kernel_rfl) (fun _ _ _ h => h) (Or.inl ⟨by rfl, fun w hSw => by have q2 := hSw; go_simp⟩) hS ?_
            simp only [Act.put, List.setIfInBounds_toArray, List.set_cons_zero, List.set_cons_succ]
            refine wpAnyH_takeD 8 (some 134) (.pointer (some ⟨b, 0, none⟩)) rfl rfl (by kernel_rfl) (by kernel_rfl) (by kernel_rfl) (fun _ _ _ h => h) (Or.inl ⟨by rfl, fun w hSw => by have q2 := hSw; go_simp⟩) hS ?_
            simp only [Act.put, List.setIfInBounds_toArray, List.set_cons_zero, List.set_cons_succ]
            refine wpAnyH_ready (rs := [9]) (by kernel_rfl) (by simp) ?_
            refine AllReadyH.cons rfl (fun K hK => ?_) AllReadyH.nil
            simp only [List.getElem_toArray, List.getElem_cons_succ, List.getElem_cons_zero]
            go_simp
            refine (pendingD (unhide ZD).di.drew).mono ?_
            rintro ev p1 ⟨rfl, rfl⟩
            refine hK.out _ _ c3 (fun hS => ?_)
            clear hK K
            refine wpAnyH_ready (rs := [10]) (by kernel_rfl) (by simp) ?_
            refine AllReadyH.cons rfl (fun K hK => ?_) AllReadyH.nil
            simp only [List.getElem_toArray, List.getElem_cons_succ, List.getElem_cons_zero]
            go_simp
            refine (some_any _ _ (by omega) _).mono ?_
            rintro ev p2 ⟨kp2, kc2, KL, rfl, hKi, hKr, hKn, hbp⟩
            have ZBD := hide (DF.below ((unhide ZD).below ((Below.refl _ y3).drew)) hbp)
            have ZBC := hide (crashF (unhide ZBD) (by have := hp3; omega) kp2 KL KL.length kc2 rfl hKi (by have := hp3; omega))
            obtain ⟨hce, IX, hIX, hcs⟩ := (unhide ZC2).crash KL hKr
            rw [hce, hcs] at ZBC
            have hS2 : p2.cell? ⟨go', oo + k * 2 + 1, none⟩ = some (.int .i64 lk2) := unhide HC1 p2 (unhide ZBD).bel
            refine hK.out _ _ hS2 (fun hS => ?_)
            have ZBB := hide hbp
            clear hK K hKi hKr hKn hbp hce hcs
            refine wpAnyH_ready (rs := [11]) (by kernel_rfl) (by simp) ?_
            refine AllReadyH.cons rfl (fun K hK => ?_) AllReadyH.nil
            simp only [List.getElem_toArray, List.getElem_cons_succ, List.getElem_cons_zero]
            go_simp
            refine (unhide ZBC).mono ?_
            rintro ev p3 ⟨rfl, hDF3, hO3⟩
            have hS3 : p3.cell? ⟨go', oo + k * 2 + 1, none⟩ = some (.int .i64 lk2) := unhide HC1 p3 hDF3.bel
            refine hK.out _ _ hS3 (fun hS => ?_)
            clear hK K
            refine wpAnyH_takeD 12 (some 26) (.int .i64 0) rfl rfl (by kernel_rfl) (by kernel_rfl) (by kernel_rfl) (fun _ _ _ h => h) (Or.inl ⟨by rfl, fun w hSw => by have q2 := hSw; go_simp⟩) hS ?_
            simp only [Act.put, List.setIfInBounds_toArray, List.set_cons_zero, List.set_cons_succ]
            refine wpAnyH_done (by kernel_rfl) ?_ _
            have R3 := hide (show AtR O l q g5 x1 b (k + 1) false p3 from by
              obtain ⟨s1, s2⟩ := Xo.fence hO3 (((unhide ZS).below ((Below.refl _ y3).drew)).below (unhide ZBB)) (((unhide ZW).below ((Below.refl _ y3).drew)).below (unhide ZBB))
              exact ⟨IX, s3.acts, hDF3, hIX, by omega, s1, s2⟩)
            clear hDF3 hO3 hS3 hS2 hIX ZBC ZBD ZBB ZD ZS ZW ZC2 c3 hS
            go_wp2
            go_roundw
            case rel => exact ⟨k + 1, false, ⟨by omega, by omega⟩, rfl, by go_num, unhide R3⟩
            case measure => simp [intOf]; omega
      · have hk8' : ¬ (k : Int) < 5 := by omega
        clear HLO
        have HIM := hide (imageF (unhide XD) (unhide XA).len)
        go_wp2_with fail
        refine (unhide HIM).mono ?_
        rintro e z1 ⟨g9, cap9, rfl, h91, h92, hS9, hb9⟩
        have YD := hide ((unhide XD).below hb9)
        have YS := hide ((unhide XS).below hb9)
        have YW := hide ((unhide XW).below hb9)
        have HLO2 := hide (load128 z1 (some ⟨g9, 0, none⟩) cap9 I (unhide XA).len (unhide XA).size hS9)
        clear h91 h92 hS9 hb9 HIM XD XS XW
        go_wp2_with fail
        refine (unhide HLO2).mono ?_
        rintro e z2 ⟨b8, v8, rfl, hD8, hb8⟩
        have HD8 := hide hD8
        have HB8 := hide hb8
        have HOZ := hide (openZ hD8 ((unhide HG1).below ((unhide YD).bel.trans (hb8.mono (unhide YD).bel.size)) (unhide HG1).lt) hb8.size (unhide XA) (unhide G2) (unhide HOL))
        clear hD8 hb8 HLO2
        go_wp2_with fail
        refine (unhide HOZ).mono ?_
        rintro e z3 ⟨jp, ag, I2, A3, rfl, hP3, hSn, hI2, hfin⟩
        have HD3 := hide (show DF z1 z3 b8 (rs I2 A3) (fun _ => False) from (DF.dpost (unhide HD8) (unhide HB8) hSn (fun _ q => q.elim) hP3).1)
        have HFIN := hide hfin
        have HI2 := hide hI2
        clear hP3 hSn hfin hI2 HOZ HD8 HB8
        have HCF := hide (crashF (unhide HD3) (Nat.zero_le _) none [] 0 0 rfl (Ints.nil _ _) (by simp))
        obtain ⟨cc1, cc2⟩ := crash_nil (rs I2 A3)
        rw [cc1, cc2] at HCF
        clear cc1 cc2
        go_wp2_with fail
        refine (unhide HCF).mono ?_
        rintro e z4 ⟨rfl, hD4, -⟩
        have HD4 := hide (show DF z1 z4 b8 (rs I2 A3) (fun _ => False) from hD4)
        have HIM := hide (imageF (unhide HD4) (unhide HI2))
        clear hD4 HCF HD3
        go_wp2_with fail
        refine (unhide HIM).mono ?_
        rintro e z5 ⟨g6, cap6, rfl, h61, h62, hS6, hb6⟩
        have HB6 := hide ((unhide HD4).below hb6).bel
        have HN6 := hide hS6
        have HO6 := hide ((unhide YS).below (unhide HB6))
        have HW6 := hide ((unhide YW).below (unhide HB6))
        clear h61 h62 hS6 hb6 HIM HD4 YS YW
        have HLD := hide (laid_any z5 (some ⟨g5, 0, none⟩) cap5 O 128 (unhide HOL).symm (unhide HO6) (by decide) (by decide) q c8 l m (unhide HM).symm (unhide HW6) (fun x hx => by have := (unhide G2).free x hx; exact ⟨by omega, by omega⟩) (by have := (unhide G2).len; have := unhide HM; omega))
        go_wp2_with fail
        refine (unhide HLD).mono ?_
        rintro e z6 ⟨rfl, hB6, hb6⟩
        have HF1 := hide (free_any z6 (some ⟨g6, 0, none⟩) (some ⟨z5.heap.size, 0, none⟩) cap6 128 I2 (layP O (natW l)) 128 (unhide HI2).symm (by rw [layP_len]; exact (unhide HOL).symm) ((unhide HN6).below hb6) (fun j hj => ⟨z5.heap.size, 0, rfl, hB6.lt, by rw [Nat.zero_add, hB6.cell j]; simpa using strs_at _ _ hj⟩) (by decide))
        have HB7 := hide ((unhide HB6).trans (hb6.mono (unhide HB6).size))
        have HN7 := hide ((unhide HN6).below hb6)
        have HO7 := hide ((unhide HO6).below hb6)
        clear hB6 hb6 HLD HN6 HO6 HW6 HB6
        go_wp2_with fail
        refine (unhide HF1).mono ?_
        rintro e z7 ⟨rfl, hb7⟩
        have HF2 := hide (free_any z7 (some ⟨g6, 0, none⟩) (some ⟨g5, 0, none⟩) cap6 cap5 I2 O 128 (unhide HI2).symm (unhide HOL).symm ((unhide HN7).below hb7) ((unhide HO7).below hb7) (by decide))
        have HB8 := hide ((unhide HB7).trans (hb7.mono (unhide HB7).size))
        clear hb7 HF1 HN7 HO7 HB7
        go_wp2_with fail
        refine (unhide HF2).mono ?_
        rintro e z8 ⟨rfl, hb8⟩
        have HE := hide (show Below w.heap.size w z8 from by
          have q1 := (unhide HB8).trans (hb8.mono (unhide HB8).size)
          have q2 := (unhide YD).bel.trans (q1.mono (unhide YD).bel.size)
          exact (unhide HB0).trans (((unhide HB1).trans (q2.mono (unhide HB1).size)).mono (unhide HB0).size))
        clear hb8 HF2 HB8 YD
        rcases unhide HFIN with ⟨u1, u2, u3⟩ | u1
        · rw [freeB_true u1]
          subst u2 u3
          clear u1 HFIN
          cases freeB I2 (layP O (natW l)) with
          | true =>
            go_wp2
            go_ret
            exact ⟨rfl, unhide HE⟩
          | false =>
            go_wp2
            go_ret
            exact ⟨rfl, unhide HE⟩
        · rw [freeB_true u1]
          clear u1 HFIN
          go_wp2
          go_ret
          exact ⟨rfl, unhide HE⟩
    · have hkn' : ¬ (k : Int) < (no : Int) := by omega
      clear HLO
      have HIM := hide (imageF (unhide XD) (unhide XA).len)
      go_wp2_with fail
      refine (unhide HIM).mono ?_
      rintro e z1 ⟨g9, cap9, rfl, h91, h92, hS9, hb9⟩
      have YD := hide ((unhide XD).below hb9)
      have YS := hide ((unhide XS).below hb9)
      have YW := hide ((unhide XW).below hb9)
      have HLO2 := hide (load128 z1 (some ⟨g9, 0, none⟩) cap9 I (unhide XA).len (unhide XA).size hS9)
      clear h91 h92 hS9 hb9 HIM XD XS XW
      go_wp2_with fail
      refine (unhide HLO2).mono ?_
      rintro e z2 ⟨b8, v8, rfl, hD8, hb8⟩
      have HD8 := hide hD8
      have HB8 := hide hb8
      have HOZ := hide (openZ hD8 ((unhide HG1).below ((unhide YD).bel.trans (hb8.mono (unhide YD).bel.size)) (unhide HG1).lt) hb8.size (unhide XA) (unhide G2) (unhide HOL))
      clear hD8 hb8 HLO2
      go_wp2_with fail
      refine (unhide HOZ).mono ?_
      rintro e z3 ⟨jp, ag, I2, A3, rfl, hP3, hSn, hI2, hfin⟩
      have HD3 := hide (show DF z1 z3 b8 (rs I2 A3) (fun _ => False) from (DF.dpost (unhide HD8) (unhide HB8) hSn (fun _ q => q.elim) hP3).1)
      have HFIN := hide hfin
      have HI2 := hide hI2
      clear hP3 hSn hfin hI2 HOZ HD8 HB8
      have HCF := hide (crashF (unhide HD3) (Nat.zero_le _) none [] 0 0 rfl (Ints.nil _ _) (by simp))
      obtain ⟨cc1, cc2⟩ := crash_nil (rs I2 A3)
      rw [cc1, cc2] at HCF
      clear cc1 cc2
      go_wp2_with fail
      refine (unhide HCF).mono ?_
      rintro e z4 ⟨rfl, hD4, -⟩
      have HD4 := hide (show DF z1 z4 b8 (rs I2 A3) (fun _ => False) from hD4)
      have HIM := hide (imageF (unhide HD4) (unhide HI2))
      clear hD4 HCF HD3
      go_wp2_with fail
      refine (unhide HIM).mono ?_
      rintro e z5 ⟨g6, cap6, rfl, h61, h62, hS6, hb6⟩
      have HB6 := hide ((unhide HD4).below hb6).bel
      have HN6 := hide hS6
      have HO6 := hide ((unhide YS).below (unhide HB6))
      have HW6 := hide ((unhide YW).below (unhide HB6))
      clear h61 h62 hS6 hb6 HIM HD4 YS YW
      have HLD := hide (laid_any z5 (some ⟨g5, 0, none⟩) cap5 O 128 (unhide HOL).symm (unhide HO6) (by decide) (by decide) q c8 l m (unhide HM).symm (unhide HW6) (fun x hx => by have := (unhide G2).free x hx; exact ⟨by omega, by omega⟩) (by have := (unhide G2).len; have := unhide HM; omega))
      go_wp2_with fail
      refine (unhide HLD).mono ?_
      rintro e z6 ⟨rfl, hB6, hb6⟩
      have HF1 := hide (free_any z6 (some ⟨g6, 0, none⟩) (some ⟨z5.heap.size, 0, none⟩) cap6 128 I2 (layP O (natW l)) 128 (unhide HI2).symm (by rw [layP_len]; exact (unhide HOL).symm) ((unhide HN6).below hb6) (fun j hj => ⟨z5.heap.size, 0, rfl, hB6.lt, by rw [Nat.zero_add, hB6.cell j]; simpa using strs_at _ _ hj⟩) (by decide))
      have HB7 := hide ((unhide HB6).trans (hb6.mono (unhide HB6).size))
      have HN7 := hide ((unhide HN6).below hb6)
      have HO7 := hide ((unhide HO6).below hb6)
      clear hB6 hb6 HLD HN6 HO6 HW6 HB6
      go_wp2_with fail
      refine (unhide HF1).mono ?_
      rintro e z7 ⟨rfl, hb7⟩
      have HF2 := hide (free_any z7 (some ⟨g6, 0, none⟩) (some ⟨g5, 0, none⟩) cap6 cap5 I2 O 128 (unhide HI2).symm (unhide HOL).symm ((unhide HN7).below hb7) ((unhide HO7).below hb7) (by decide))
      have HB8 := hide ((unhide HB7).trans (hb7.mono (unhide HB7).size))
      clear hb7 HF1 HN7 HO7 HB7
      go_wp2_with fail
      refine (unhide HF2).mono ?_
      rintro e z8 ⟨rfl, hb8⟩
      have HE := hide (show Below w.heap.size w z8 from by
        have q1 := (unhide HB8).trans (hb8.mono (unhide HB8).size)
        have q2 := (unhide YD).bel.trans (q1.mono (unhide YD).bel.size)
        exact (unhide HB0).trans (((unhide HB1).trans (q2.mono (unhide HB1).size)).mono (unhide HB0).size))
      clear hb8 HF2 HB8 YD
      rcases unhide HFIN with ⟨u1, u2, u3⟩ | u1
      · rw [freeB_true u1]
        subst u2 u3
        clear u1 HFIN
        cases freeB I2 (layP O (natW l)) with
        | true =>
          go_wp2
          go_ret
          exact ⟨rfl, unhide HE⟩
        | false =>
          go_wp2
          go_ret
          exact ⟨rfl, unhide HE⟩
      · rw [freeB_true u1]
        clear u1 HFIN
        go_wp2
        go_ret
        exact ⟨rfl, unhide HE⟩
end Go.Proofs.YtaepdekpdiofnaaGreatDoor
