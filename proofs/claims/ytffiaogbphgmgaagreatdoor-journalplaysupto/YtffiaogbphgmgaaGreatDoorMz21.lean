import Derived.Test.YtffiaogbphgmgaaGreatDoorMz20
namespace Go.Proofs.YtffiaogbphgmgaaGreatDoor
open Go.RowKit
/-- A run, and the head that is cleared behind it. -/
def secR (s : DSt) (n : Nat) (L : List Wr1) : Int × DSt := if (layR s L).1 = 0 then layR (layR s L).2 [(1, headB n [])] else layR s L
/-- k writes of the run are done. -/
def ScI (w : World) (base b : Nat) (v : RV) (s : DSt) (L : List Wr1) (k : Nat) (wr : World) : Prop :=
  ∃ v' sk, Rk wr base b v' sk ∧ Sane sk ∧ Coh sk ∧ layR s L = layR sk (L.drop k) ∧ Only (Fr4 b v) w wr ∧ (∀ x, Fr4 b v' x → Fr4 b v x ∨ w.heap.size ≤ x) ∧ sk.pend.length ≤ s.pend.length + k ∧ sk.acts.length ≤ s.acts.length + k
def ScP (w : World) (base b : Nat) (v : RV) (s : DSt) (n : Nat) (L : List Wr1) (e : Ending) (w' : World) : Prop := e = .returned (.int .i64 (secR s n L).1) ∧ RPst base b v (secR s n L).2 w w'
theorem ScI.start {w : World} {base b : Nat} {v : RV} {s : DSt} (L : List Wr1) (h : Rk w base b v s) (hS : Sane s) (hC : Coh s) : ScI w base b v s L 0 w := ⟨v, s, h, hS, hC, rfl, Only.refl _ _, fun _ q => .inl q, Nat.le_refl _, Nat.le_refl _⟩
set_option maxRecDepth 100000 in
set_option maxHeartbeats 2000000 in
theorem rsecond_loop (w : World) (base b : Nat) (v : RV) (s : DSt) (h : Rk w base b v s) (hb : base ≤ w.heap.size) (hS : Sane s) (hC : Coh s) (hp : s.pend.length ≤ 100000000) (ha : s.acts.length ≤ 100000000) (n : Nat) (hn : n < 4294967296) (p q : Option Addr) (c d : Nat) (l : List Int) (dt : List ByteArray) (hl : l.length = 16) (hd : dt.length = 16) (hI : Ints w p l) (hD : Strs w q dt) (fp : ∀ g o, p = some ⟨g, o, none⟩ → ¬ Fr4 b v g) (fq : ∀ g o, q = some ⟨g, o, none⟩ → ¬ Fr4 b v g) (L : List Wr1) (hL : L.length = 16) (hLk : ∀ k, k < 16 → L.getD k wr0 = (l.getD k 0, dt.getD k ByteArray.empty)) :
    Calls Tryz.prog 77 #[.pointer (some ⟨b, 0, none⟩), .int .i64 (n : Int), .slice p 16 c, .slice q 16 d] w (ScP w base b v s n L) := by
  have X0 := hide (ScI.start L h hS hC)
  have HLS := hide (And.intro hl (And.intro hd (And.intro hI (And.intro hD (And.intro fp (And.intro fq (And.intro hL hLk)))))))
  have HCL := hide (fun W => rclear_any n hn (n : Int) rfl W)
  obtain ⟨hc, hhc⟩ : ∃ x, headB n [] = x := ⟨_, rfl⟩
  rw [hhc] at HCL
  have HHC := hide hhc
  clear h hS hC hl hd hI hD fp fq hL hLk hhc
  go_enter Tryz.func77, Tryz.ntmps77
  go_wp2
  go_loopw [9] (fun i wr => ∃ k : Nat, k ≤ 16 ∧ i = .int .i64 (k : Int) ∧ ScI w base b v s L k wr) (fun i _ => 16 - (intOf i).toNat)
  case atStart => exact ⟨0, by omega, rfl, unhide X0⟩
  case round =>
    obtain ⟨k, hk, rfl, v', sk, hR, hSs, hCo, hE, hO, hF, hpk, hak⟩ := hrel
    obtain ⟨wo, rfl⟩ : ∃ wo, wo = wr := ⟨_, rfl⟩
    have XR := hide (And.intro hR (And.intro hSs (And.intro hCo (And.intro hE (And.intro hO hF)))))
    clear hR hSs hCo hE hO hF X0
    by_cases hk16 : k < 16
    · have hk' : (k : Int) < 16 := by omega
      obtain ⟨hl, hd, hI, hD, fp, fq, hL, hLk⟩ := unhide HLS
      obtain ⟨g1, o1, rfl, hg1, c1⟩ := hI k (by omega)
      obtain ⟨g2, o2, rfl, hg2, c2⟩ := hD k (by omega)
      have n1 := fp g1 o1 rfl
      have n2 := fq g2 o2 rfl
      have d1 := (World.cell?_of_block (a := ⟨g1, o1 + k, none⟩) ((unhide XR).2.2.2.2.1.2 g1 hg1 n1)).trans c1
      have d2 := (World.cell?_of_block (a := ⟨g2, o2 + k, none⟩) ((unhide XR).2.2.2.2.1.2 g2 hg2 n2)).trans c2
      have HNF := hide (show ¬ Fr4 b v' g1 ∧ ¬ Fr4 b v' g2 from ⟨fun r => by rcases (unhide XR).2.2.2.2.2 g1 r with r | r; exact n1 r; omega, fun r => by rcases (unhide XR).2.2.2.2.2 g2 r with r | r; exact n2 r; omega⟩)
      have HLT := hide (show g1 < wo.heap.size ∧ g2 < wo.heap.size from ⟨Nat.lt_of_lt_of_le hg1 (unhide XR).2.2.2.2.1.size, Nat.lt_of_lt_of_le hg2 (unhide XR).2.2.2.2.1.size⟩)
      have HDR := hide (layR_drop sk (L) k (by omega))
      rw [hLk k hk16] at HDR
      have HDR2 := hide (show layR s L = layR sk (L.drop k) from (unhide XR).2.2.2.1)
      obtain ⟨z, hz⟩ : ∃ z, l.getD k 0 = z := ⟨_, rfl⟩
      obtain ⟨t, ht⟩ : ∃ t, dt.getD k ByteArray.empty = t := ⟨_, rfl⟩
      rw [hz] at d1 HDR
      rw [ht] at d2 HDR
      have HWR := hide (rwrite_any wo.drew base b v' sk (unhide XR).1.drew (Nat.le_trans hb (unhide XR).2.2.2.2.1.size) (unhide XR).2.1 (unhide XR).2.2.1 (by omega) (by omega) z t)
      have hpg := pend_grow sk z t
      have hag := acts_grow sk z t
      obtain ⟨er, her⟩ : ∃ er, writeE sk z t = er := ⟨_, rfl⟩
      rw [her] at HWR
      have HER := hide her
      have i0 : 0 ≤ (k : Int) := by omega
      clear hl hd hI hD fp fq hL hLk c1 c2 n1 n2 hz ht her
      go_wp2_with fail
      refine wp_region_held_drew (S := fun w' => w'.cell? ⟨g1, o1 + k, none⟩ = some (.int .i64 z) ∧ w'.cell? ⟨g2, o2 + k, none⟩ = some (.string t)) (by kernel_rfl) ⟨d1, d2⟩ ?_
      intro hS
      refine wpAnyH_takeD 0 (some 16) (.pointer (some ⟨b, 0, none⟩)) rfl rfl (by kernel_rfl) (by kernel_rfl) (by kernel_rfl) (fun _ _ _ h => h) (Or.inl ⟨by rfl, fun w hSw => by obtain ⟨u1, u2⟩ := hSw; go_simp⟩) hS ?_
      simp only [Act.put, List.setIfInBounds_toArray, List.set_cons_zero, List.set_cons_succ]
      refine wpAnyH_takeD 1 (some 17) (.slice (some ⟨g1, o1, none⟩) 16 c) rfl rfl (by kernel_rfl) (by kernel_rfl) (by kernel_rfl) (fun _ _ _ h => h) (Or.inl ⟨by rfl, fun w hSw => by obtain ⟨u1, u2⟩ := hSw; go_simp⟩) hS ?_
      simp only [Act.put, List.setIfInBounds_toArray, List.set_cons_zero, List.set_cons_succ]
      refine wpAnyH_takeD 2 (some 18) (.int .i64 (k : Int)) rfl rfl (by kernel_rfl) (by kernel_rfl) (by kernel_rfl) (fun _ _ _ h => h) (Or.inl ⟨by rfl, fun w hSw => by obtain ⟨u1, u2⟩ := hSw; go_simp⟩) hS ?_
      simp only [Act.put, List.setIfInBounds_toArray, List.set_cons_zero, List.set_cons_succ]
      refine wpAnyH_takeD 3 (some 19) (.pointer (some ⟨g1, o1 + k, none⟩)) rfl rfl (by kernel_rfl) (by kernel_rfl) (by kernel_rfl) (fun _ _ _ h => h) (Or.inl ⟨by rfl, fun w hSw => by obtain ⟨u1, u2⟩ := hSw; go_simp⟩) hS ?_
      simp only [Act.put, List.setIfInBounds_toArray, List.set_cons_zero, List.set_cons_succ]
      refine wpAnyH_takeD 4 (some 20) (.int .i64 z) rfl rfl (by kernel_rfl) (by kernel_rfl) (by kernel_rfl) (fun _ _ _ h => h) (Or.inl ⟨by rfl, fun w hSw => by obtain ⟨u1, u2⟩ := hSw; go_simp⟩) hS ?_
      simp only [Act.put, List.setIfInBounds_toArray, List.set_cons_zero, List.set_cons_succ]
      refine wpAnyH_takeD 5 (some 21) (.slice (some ⟨g2, o2, none⟩) 16 d) rfl rfl (by kernel_rfl) (by kernel_rfl) (by kernel_rfl) (fun _ _ _ h => h) (Or.inl ⟨by rfl, fun w hSw => by obtain ⟨u1, u2⟩ := hSw; go_simp⟩) hS ?_
      simp only [Act.put, List.setIfInBounds_toArray, List.set_cons_zero, List.set_cons_succ]
      refine wpAnyH_takeD 6 (some 22) (.int .i64 (k : Int)) rfl rfl (by kernel_rfl) (by kernel_rfl) (by kernel_rfl) (fun _ _ _ h => h) (Or.inl ⟨by rfl, fun w hSw => by obtain ⟨u1, u2⟩ := hSw; go_simp⟩) hS ?_
      simp only [Act.put, List.setIfInBounds_toArray, List.set_cons_zero, List.set_cons_succ]
      refine wpAnyH_takeD 7 (some 23) (.pointer (some ⟨g2, o2 + k, none⟩)) rfl rfl (by kernel_rfl) (by kernel_rfl) (by kernel_rfl) (fun _ _ _ h => h) (Or.inl ⟨by rfl, fun w hSw => by obtain ⟨u1, u2⟩ := hSw; go_simp⟩) hS ?_
      simp only [Act.put, List.setIfInBounds_toArray, List.set_cons_zero, List.set_cons_succ]
      refine wpAnyH_takeD 8 (some 24) (.string t) rfl rfl (by kernel_rfl) (by kernel_rfl) (by kernel_rfl) (fun _ _ _ h => h) (Or.inl ⟨by rfl, fun w hSw => by obtain ⟨u1, u2⟩ := hSw; go_simp⟩) hS ?_
      simp only [Act.put, List.setIfInBounds_toArray, List.set_cons_zero, List.set_cons_succ]
      refine wpAnyH_ready (rs := [9]) (by kernel_rfl) (by simp) ?_
      refine AllReadyH.cons rfl (fun K hK => ?_) AllReadyH.nil
      simp only [List.getElem_toArray, List.getElem_cons_succ, List.getElem_cons_zero]
      go_simp
      refine (unhide HWR).mono ?_
      rintro ev y1 ⟨rfl, hP1⟩
      have HP1 := hide hP1
      have hSy : y1.cell? ⟨g1, o1 + k, none⟩ = some (.int .i64 z) ∧ y1.cell? ⟨g2, o2 + k, none⟩ = some (.string t) := by
        obtain ⟨v2, k1, k2, k3⟩ := hP1
        exact ⟨(World.cell?_of_block (a := ⟨g1, o1 + k, none⟩) (k2.2 g1 (unhide HLT).1 (unhide HNF).1)).trans d1, (World.cell?_of_block (a := ⟨g2, o2 + k, none⟩) (k2.2 g2 (unhide HLT).2 (unhide HNF).2)).trans d2⟩
      refine hK.out _ _ hSy (fun hS => ?_)
      clear hK K hP1
      refine wpAnyH_takeD 10 (some 10) (.int .i64 er) rfl rfl (by kernel_rfl) (by kernel_rfl) (by kernel_rfl) (fun _ _ _ h => h) (Or.inl ⟨by rfl, fun w hSw => by obtain ⟨u1, u2⟩ := hSw; go_simp⟩) hS ?_
      simp only [Act.put, List.setIfInBounds_toArray, List.set_cons_zero, List.set_cons_succ]
      refine wpAnyH_done (by kernel_rfl) ?_ _
      clear hS hSy
      have HT := hide (RPst.trans ((unhide XR).2.2.2.2.1.drew) (unhide XR).2.2.2.2.2 (unhide HP1))
      by_cases he : er = 0
      · subst he
        have R1 := hide (show ScI w base b v s L (k + 1) y1 from by
          obtain ⟨v2, k1, k2, k3⟩ := unhide HT
          refine ⟨v2, writeS sk z t, k1, (unhide XR).2.1.write z t, (unhide XR).2.2.1.write z t, ?_, k2, k3, by omega, by omega⟩
          rw [unhide HDR2, unhide HDR, if_pos (unhide HER)])
        clear HP1 HT XR HDR HDR2 HER d1 d2
        go_wp2
        go_roundw
        case rel => exact ⟨k + 1, by omega, by go_num, unhide R1⟩
        case measure => simp [intOf]; omega
      · have he' : (er == 0) = false := by simpa using he
        have HE := hide (show ScP w base b v s n L (.returned (.int .i64 er)) y1 from by
          have e1 : layR s L = (er, writeS sk z t) := by rw [unhide HDR2, unhide HDR, if_neg (by rw [unhide HER]; exact he), unhide HER]
          have e2 : secR s n L = (er, writeS sk z t) := by rw [secR, e1, if_neg he]
          rw [ScP, e2]
          exact ⟨rfl, unhide HT⟩)
        clear HP1 HT XR HDR HDR2 HER d1 d2 he
        go_wp2
        go_ret
        exact unhide HE
    · have hk' : ¬ (k : Int) < 16 := by omega
      have HEQ := hide (show layR s L = (flushE sk, flushS sk) from by
        rw [(unhide XR).2.2.2.1, List.drop_of_length_le (by have := (unhide HLS).2.2.2.2.2.2.1; omega), layR])
      have HFL := hide (rflush_any wo base b v' sk (unhide XR).1 (Nat.le_trans hb (unhide XR).2.2.2.2.1.size) (unhide XR).2.1 (unhide XR).2.2.1 (by omega) (by omega))
      have hfp : (flushS sk).pend.length ≤ sk.pend.length := by
        unfold flushS
        split
        · rw [diesS_pend]; exact Nat.le_refl _
        · exact Nat.zero_le _
      have hfa : (flushS sk).acts.length ≤ sk.acts.length + 1 := by
        unfold flushS
        split
        · rw [diesS_acts]; omega
        · simp
      go_wp2_with fail
      refine (unhide HFL).mono ?_
      rintro e y1 ⟨rfl, hP1⟩
      have HT := hide (RPst.trans (unhide XR).2.2.2.2.1 (unhide XR).2.2.2.2.2 hP1)
      have HSC := hide (And.intro ((unhide XR).2.1.flush) ((unhide XR).2.2.1.flush))
      obtain ⟨fe, hfe⟩ : ∃ fe, flushE sk = fe := ⟨_, rfl⟩
      obtain ⟨fs, hfs⟩ : ∃ fs, flushS sk = fs := ⟨_, rfl⟩
      rw [hfs] at HT HSC hfp hfa
      rw [hfe]
      rw [hfe, hfs] at HEQ
      clear hP1 HFL XR hfe hfs
      by_cases he : fe = 0
      · subst he
        go_wp2_with fail
        refine (unhide HCL _).mono ?_
        rintro e y2 ⟨rfl, hb2⟩
        obtain ⟨v2, k1, k2, k3⟩ := unhide HT
        have HWR := hide (rwrite_any y2 base b v2 fs (k1.below hb2) (Nat.le_trans hb (Nat.le_trans k2.size hb2.size)) (unhide HSC).1 (unhide HSC).2 (by omega) (by omega) 1 hc)
        have HB2 := hide hb2
        have HK2 := hide (And.intro k2 k3)
        have hpg := pend_grow fs 1 hc
        have hag := acts_grow fs 1 hc
        clear k1 k2 k3 hb2 HT
        go_wp2_with fail
        refine (unhide HWR).mono ?_
        rintro e y3 ⟨rfl, hP3⟩
        have HP3 := hide hP3
        have HT3 := hide (RPst.trans (unhide HK2).1 (unhide HK2).2 (RPst.belowL (unhide HB2) hP3))
        have hsz3 : base ≤ y3.heap.size := by
          obtain ⟨v3, _, k2, _⟩ := unhide HT3
          exact Nat.le_trans hb k2.size
        clear hP3 HWR
        by_cases hw : writeE fs 1 hc = 0
        · rw [hw]
          have HE3 := hide (show secR s n L = (flushE (writeS fs 1 hc), flushS (writeS fs 1 hc)) from by rw [secR, unhide HEQ, if_pos rfl, unhide HHC, layR, if_pos hw, layR])
          obtain ⟨v3, k1, k2, k3⟩ := unhide HT3
          have HFL := hide (rflush_any y3 base b v3 (writeS fs 1 hc) k1 hsz3 ((unhide HSC).1.write 1 hc) ((unhide HSC).2.write 1 hc) (by omega) (by omega))
          have HK3 := hide (And.intro k2 k3)
          clear k1 k2 k3 hw
          go_wp2_with fail
          refine (unhide HFL).mono ?_
          rintro e y4 ⟨rfl, hP4⟩
          have HE := hide (show ScP w base b v s n L (.returned (.int .i64 (flushE (writeS fs 1 hc)))) y4 from by
            rw [ScP, unhide HE3]
            exact ⟨rfl, RPst.trans (unhide HK3).1 (unhide HK3).2 hP4⟩)
          clear hP4 HFL
          go_wp2
          go_ret
          exact unhide HE
        · have HE := hide (show ScP w base b v s n L (.returned (.int .i64 (writeE fs 1 hc))) y3 from by
            have e3 : secR s n L = (writeE fs 1 hc, writeS fs 1 hc) := by rw [secR, unhide HEQ, if_pos rfl, unhide HHC, layR, if_neg hw]
            rw [ScP, e3]
            exact ⟨rfl, unhide HT3⟩)
          have hw' : (writeE fs 1 hc == 0) = false := by simpa using hw
          generalize writeE fs 1 hc = er at *
          clear hw hpg hag
          go_wp2
          go_ret
          exact unhide HE
      · have he' : (fe == 0) = false := by simpa using he
        have HE := hide (show ScP w base b v s n L (.returned (.int .i64 fe)) y1 from by
          have e2 : secR s n L = (fe, fs) := by rw [secR, unhide HEQ, if_neg he]
          rw [ScP, e2]
          exact ⟨rfl, unhide HT⟩)
        clear he HT HEQ
        go_wp2
        go_ret
        exact unhide HE
end Go.Proofs.YtffiaogbphgmgaaGreatDoor
