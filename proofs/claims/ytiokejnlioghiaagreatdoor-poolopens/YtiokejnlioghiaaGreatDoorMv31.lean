import Derived.Test.YtiokejnlioghiaaGreatDoorMv30
import Derived.Test.YtiokejnlioghiaaGreatDoorMv29
import Derived.Test.YtiokejnlioghiaaGreatDoorMv20
namespace Go.Proofs.YtiokejnlioghiaaGreatDoor
open Go.RowKit Go.Maps Go.Sort Go.Shelf
set_option maxRecDepth 100000
theorem gd0 : Gd (freshS (List.replicate 128 zero256)) 128 0 0 := by
  have k : ∀ t ∈ List.replicate 128 zero256, t.size ≤ 256 := fun t ht => by rw [(List.mem_replicate.1 ht).2]; exact Nat.le_of_eq zero256_size
  exact ⟨Sane.fresh _ (by rw [List.length_replicate]; decide) (by rw [List.length_replicate]; decide), Coh.fresh _, ⟨k, k, fun p hp => by cases hp⟩, List.length_replicate .., Nat.le_refl _, Nat.le_refl _⟩
theorem gd1 : Gd (rs L0 A0) 128 1 2 := by
  have h := gd0.lay [(1, headB 0 [])]
  rw [format_rs] at h
  exact h
theorem or1 : RHP (readT (rs L0 A0) 1) ((rs L0 A0).last.length : Int) ((0 : Nat) : Int) [] true ∧ OR (rs L0 A0) 0 [] true (rs L0 A0) 0 false true := by
  have hr := read_rs L0 A0 1 (by rw [L0_len]; decide)
  have h1 : readE (rs L0 A0) 1 = 0 := hr.1
  have h2 : readT (rs L0 A0) 1 = headB 0 [] := by
    have : readT (rs L0 A0) 1 = L0.getD 1 ByteArray.empty := hr.2
    rw [this]; exact head0
  refine ⟨?_, .inr (.inr (.inl ⟨h1, rfl, rfl, rfl, rfl, rfl, rfl⟩))⟩
  obtain ⟨n, H, ok, h⟩ := RHP.ex (readT (rs L0 A0) 1) ((rs L0 A0).last.length : Int)
  rw [h2] at h ⊢
  obtain ⟨q1, q2, q3⟩ := rhp_clear 0 (by decide) _ n H ok h
  rw [q1, q2, q3] at h
  exact h
set_option maxHeartbeats 8000000 in
theorem popens6 (k0 : Int) (hd : ByteArray) (c2 c3 : Int) (hc2 : I64 c2) (hc3 : I64 c3) (W : World) (hG : ETy W) :
    Calls Tryz.prog 3 #[.int .i64 k0, .string hd, .int .i64 c2, .int .i64 c3] W fun e w' => e = .returned (.bool true) ∧ Below W.heap.size W w' := by
  have HN1 := hide (new_any 128 W)
  have HG := hide hG
  have HC := hide (And.intro hc2 hc3)
  clear hG hc2 hc3
  go_enter Tryz.func3, Tryz.ntmps3
  go_wp2_with fail
  refine (unhide HN1).mono ?_
  intro e x1 hq
  rw [NewPost, if_pos (by decide)] at hq
  obtain ⟨b, v, rfl, hD, hb1⟩ := hq
  have HN2 := hide (rnew_any 128 x1)
  have HD := hide (And.intro hD hb1)
  clear hD hb1 HN1
  go_wp2_with fail
  refine (unhide HN2).mono ?_
  intro e x2 hq
  rw [RNewPost, if_pos (by decide)] at hq
  obtain ⟨br, vr, rfl, hR, hb2⟩ := hq
  have h2 : Pr W x2 b br (freshS (List.replicate 128 zero256)) (freshS (List.replicate 128 zero256)) (fun _ => False) := Pr.init (unhide HD).1 (unhide HD).2 hR.rk hb2
  have HO1 := hide (popen_nil x2 3 (by decide))
  have HO2 := hide (popen_bad x2 none 65 (by decide))
  have HO3 := hide (popen_bad x2 none (-1) (by decide))
  have HF1 := hide (h2.fmt gd0.sane (by have := gd0.pend; omega) (by have := gd0.acts; omega))
  rw [format_rs] at HF1
  clear hR hb2 h2 HN2 HD
  go_wp2_with fail
  refine (unhide HO1).mono ?_
  rintro e y ⟨rfl, hy⟩
  subst y
  clear HO1
  go_wp2_with fail
  refine (unhide HO2).mono ?_
  rintro e y ⟨rfl, hy⟩
  subst y
  clear HO2
  go_wp2_with fail
  refine (unhide HO3).mono ?_
  rintro e y ⟨rfl, hy⟩
  subst y
  clear HO3
  go_wp2_with fail
  refine (unhide HF1).mono ?_
  rintro e x3 ⟨rfl, h3, -⟩
  have HF2 := hide (h3.rfmt gd0.sane gd0.coh (by have := gd0.pend; omega) (by have := gd0.acts; omega))
  rw [format_rs] at HF2
  clear h3 HF1
  go_wp2_with fail
  refine (unhide HF2).mono ?_
  rintro e x4 ⟨rfl, h4, -⟩
  have HBY := hide (bytes6_any ⟨#[120]⟩ x4)
  obtain ⟨bx, hbx⟩ : ∃ z, bytesB ⟨#[120]⟩ = z := ⟨_, rfl⟩
  rw [hbx] at HBY
  have H4 := hide h4
  clear h4 HF2 hbx
  go_wp2_with fail
  refine (unhide HBY).mono ?_
  rintro e x5 ⟨rfl, hb5⟩
  obtain ⟨gl, hgl⟩ : ∃ z, x5.heap.size = z := ⟨_, rfl⟩
  obtain ⟨x6, hx6⟩ : ∃ z, x5.alloc (.cells #[.int .i64 19, .string bx] 36) = z := ⟨_, rfl⟩
  have hB6 : Blk x6 gl #[.int .i64 19, .string bx] 36 := by rw [← hx6, ← hgl]; exact Blk.new x5 _ _
  have h6 : Pr W x6 b br (rs L0 A0) (rs L0 A0) (fun k => k = gl) := ((unhide H4).below hb5).more (by rw [← hx6]; exact (Below.refl _ _).alloc (Nat.le_refl _) _) (fun k e => .inr (by rw [e]; exact ⟨by omega, hB6.lt⟩))
  have HJO := hide (h6.openP ((unhide HG).below h6.bel (unhide HG).lt) gd1.sane (by have := gd1.sz.read 1; omega) (by have := gd1.pend; omega) (by have := gd1.acts; omega) or1.1 or1.2)
  have HB6 := hide hB6
  have HGL := hide (show W.heap.size ≤ gl from by have := h6.bel.size; have := ((unhide H4).below hb5).bel.size; omega)
  have HW6 := hide h6.bel.size
  clear hb5 hB6 h6 HBY H4
  go_wp2_with fail
  clear hx6 hgl
  refine (unhide HJO).mono ?_
  rintro e x7 ⟨⟨jp, rfl, hJ⟩, h7, hO7⟩
  obtain ⟨jb, rfl, hjl, hJb⟩ : ∃ jb, jp = some ⟨jb, 0, none⟩ ∧ x6.heap.size ≤ jb ∧ Jb x7 jb b 1 false := by
    rcases hJ with ⟨q, _⟩ | ⟨_, jb, q1, q2, q3⟩
    · cases q
    · exact ⟨jb, q1, q2, q3⟩
  have h7f := h7.fen hJb (by unfold FT; decide)
  have HRO := hide (h7f.openR gd1.sane gd1.coh (by have := gd1.pend; omega) (by have := gd1.acts; omega) (by have := gd1.len; omega) or1.1 or1.2)
  have H7 := hide (show Blk x7 gl #[.int .i64 19, .string bx] 36 ∧ Jb x7 jb b 1 false ∧ W.heap.size ≤ jb ∧ W.heap.size ≤ x7.heap.size from ⟨(unhide HB6).only hO7 (fun q => q rfl), hJb, Nat.le_trans (unhide HW6) hjl, h7.bel.size⟩)
  clear hJ hjl hJb h7 hO7 h7f HJO HB6 HW6
  go_wp2_with fail
  refine (unhide HRO).mono ?_
  rintro e x8 ⟨⟨kp0, rfl, hK⟩, h8, hO8⟩
  obtain ⟨kb, rfl, hkl, hKb⟩ : ∃ kb, kp0 = some ⟨kb, 0, none⟩ ∧ x7.heap.size ≤ kb ∧ Rj x8 kb br 0 false := by
    rcases hK with ⟨q, _⟩ | ⟨_, jb, q1, q2, q3⟩
    · cases q
    · exact ⟨jb, q1, q2, q3⟩
  have h8f := h8.fen hKb (by unfold FT; decide)
  have HBN := hide (show Jb x8 jb b 1 false ∧ Rj x8 kb br 0 false ∧ Blk x8 gl #[.int .i64 19, .string bx] 36 from ⟨Blk.only (unhide H7).2.1 hO8 (fun q => q (.inr rfl)), hKb, (unhide H7).1.only hO8 (fun q => q (.inl rfl))⟩)
  have HLO := hide (show W.heap.size ≤ jb ∧ W.heap.size ≤ kb from ⟨(unhide H7).2.2.1, Nat.le_trans (unhide H7).2.2.2 hkl⟩)
  have HPK := hide (pick6_any c2 50 (by decide) (unhide HC).1 50 rfl x8)
  have q50 := pickP_lt c2 50 (by decide)
  have HPE := hide (show ∀ w9, Calls Tryz.prog 13 #[.int .i64 c2, .int .i64 50] w9 fun e w' => e = .returned (.int .i64 (pickP c2 50 : Int)) ∧ w' = w9 from fun w9 => pick6_any c2 50 (by decide) (unhide HC).1 50 rfl w9)
  obtain ⟨p2, hp2⟩ : ∃ z, pickP c2 50 = z := ⟨_, rfl⟩
  rw [hp2] at HPK q50 HPE
  have HAR := hide (h8f.arm (p2 : Int))
  have HGD := hide (gd1.arm (p2 : Int) (by omega))
  clear hK hkl hKb h8 hO8 h8f hp2 q50 HRO H7
  go_wp2_with fail
  refine (unhide HPK).mono ?_
  rintro e y ⟨rfl, hy⟩
  subst y
  clear HPK
  go_wp2_with fail
  refine (unhide HAR).mono ?_
  rintro e x9 ⟨rfl, h9, hO9⟩
  have HB9 := hide (show Jb x9 jb b 1 false ∧ Rj x9 kb br 0 false ∧ Blk x9 gl #[.int .i64 19, .string bx] 36 from ⟨Blk.only (unhide HBN).1 hO9 (fun q => q (.inl (.inr rfl))), Blk.only (unhide HBN).2.1 hO9 (fun q => q (.inr rfl)), (unhide HBN).2.2.only hO9 (fun q => q (.inl (.inl rfl)))⟩)
  have HAR2 := hide (h9.rarm (p2 : Int))
  have HPK := hide (unhide HPE x9)
  clear h9 hO9 HAR HBN
  go_wp2_with fail
  refine (unhide HPK).mono ?_
  rintro e y ⟨rfl, hy⟩
  subst y
  clear HPK HPE
  go_wp2_with fail
  refine (unhide HAR2).mono ?_
  rintro e x10 ⟨rfl, h10, hO10⟩
  obtain ⟨s2, hs2⟩ : ∃ z, armS (rs L0 A0) (p2 : Int) = z := ⟨_, rfl⟩
  rw [hs2] at h10 HGD
  have HB10 := hide (show Jb x10 jb b 1 false ∧ Rj x10 kb br 0 false ∧ Blk x10 gl #[.int .i64 19, .string bx] 36 from ⟨Blk.only (unhide HB9).1 hO10 (fun q => q (.inl (.inr rfl))), Blk.only (unhide HB9).2.1 hO10 (fun q => q (.inr rfl)), (unhide HB9).2.2.only hO10 (fun q => q (.inl (.inl rfl)))⟩)
  have hWl : ∀ (WW : World), Blk WW gl #[.int .i64 19, .string bx] 36 → Wls WW (some ⟨gl, 0, none⟩) [(19, bx)] := fun WW hB j hj => by
    obtain rfl : j = 0 := by simpa using hj
    exact ⟨gl, 0, rfl, hB.lt, hB.cell 0, hB.cell 1⟩
  have HWL := hide hWl
  have HCM := hide (h10.commit (.inl (.inr rfl)) (unhide HB10).1 (unhide HLO).1 (unhide HGD).sane (by decide) (some ⟨gl, 0, none⟩) 1 [(19, bx)] 1 rfl (hWl _ (unhide HB10).2.2) (by have := (unhide HGD).pend; omega) (by have := (unhide HGD).acts; omega))
  have HGC := hide ((unhide HGD).commit 1 false [(19, bx)])
  obtain ⟨R, hRc⟩ : ∃ z, commitR s2 1 false [(19, bx)] = z := ⟨_, rfl⟩
  rw [hRc] at HCM HGC
  have HRC := hide hRc
  clear h10 hO10 hs2 hWl HAR2 HB9 hRc
  go_wp2_with fail
  refine (unhide HCM).mono ?_
  rintro e x11 ⟨rfl, -, h11, hO11⟩
  have hK11 : Rj x11 kb br 0 false := Blk.only (unhide HB10).2.1 hO11 (fun q => by
    rcases q with q | q
    · exact q (.inr rfl)
    · exact absurd (blk_ty (unhide HB10).2.1 (by rw [q]; exact (unhide HB10).1)) (by decide))
  have hL11 : Blk x11 gl #[.int .i64 19, .string bx] 36 := (unhide HB10).2.2.only hO11 (fun q => by
    rcases q with q | q
    · exact q (.inl (.inl rfl))
    · exact absurd (blk_ty (unhide HB10).2.2 (by rw [q]; exact (unhide HB10).1)) (by decide))
  have HRM := hide (h11.rcommit (.inr rfl) hK11 (unhide HLO).2 (unhide HGD).sane (unhide HGD).coh (by decide) (some ⟨gl, 0, none⟩) 1 [(19, bx)] 1 rfl (unhide HWL _ hL11) (fun g o e => by
    injection e with e
    injection e with e1 e2
    rw [← e1]
    exact .inl (.inl (.inl rfl))) (by have := (unhide HGD).pend; omega) (by have := (unhide HGD).acts; omega))
  have e01 : (0 + 1) % 4294967296 = 1 := rfl
  rw [e01, unhide HRC] at HRM
  clear h11 hO11 hK11 hL11 HCM HB10 e01
  go_wp2_with fail
  refine (unhide HRM).mono ?_
  rintro e x12 ⟨rfl, -, h12, -⟩
  obtain ⟨s3, hs3⟩ : ∃ z, R.s = z := ⟨_, rfl⟩
  obtain ⟨em, hem⟩ : ∃ z, R.e = z := ⟨_, rfl⟩
  rw [hs3] at h12 HGC
  rw [hem]
  have nm : (em != em) = false := by simp
  obtain ⟨g13, hg13⟩ : ∃ z, x12.heap.size = z := ⟨_, rfl⟩
  obtain ⟨x13, hx13⟩ : ∃ z, x12.alloc (.cells #[] 3) = z := ⟨_, rfl⟩
  have hB13 : Blk x13 g13 #[] 3 := by rw [← hx13, ← hg13]; exact Blk.new x12 _ _
  have h13 := h12.more (Y := fun k => k = g13) (show Below x12.heap.size x12 x13 by rw [← hx13]; exact (Below.refl _ _).alloc (Nat.le_refl _) _) (fun k e => .inr (by rw [e]; exact ⟨by omega, hB13.lt⟩))
  have HCR := hide (h13.crash (unhide HGC).sane (by have := (unhide HGC).pend; omega) (some ⟨g13, 0, none⟩) [] 0 (fun j hj => by cases hj) (by decide))
  simp only [List.length_nil] at HCR
  have HGX := hide ((unhide HGC).crash [])
  clear h12 hs3 hem HRM HRC HGD HLO HWL h13 hB13
  go_wp2_with fail
  clear hx13 hg13
  refine (unhide HCR).mono ?_
  rintro e x14 ⟨rfl, h14, -⟩
  obtain ⟨g15, hg15⟩ : ∃ z, x14.heap.size = z := ⟨_, rfl⟩
  obtain ⟨x15, hx15⟩ : ∃ z, x14.alloc (.cells #[] 3) = z := ⟨_, rfl⟩
  have hB15 : Blk x15 g15 #[] 3 := by rw [← hx15, ← hg15]; exact Blk.new x14 _ _
  have h15 := h14.more (Y := fun k => k = g15) (show Below x14.heap.size x14 x15 by rw [← hx15]; exact (Below.refl _ _).alloc (Nat.le_refl _) _) (fun k e => .inr (by rw [e]; exact ⟨by omega, hB15.lt⟩))
  have HCQ := hide (h15.rcrash (unhide HGC).sane (by have := (unhide HGC).pend; omega) (some ⟨g15, 0, none⟩) [] 0 (fun j hj => by cases hj) (by decide) (fun g o e => by
    injection e with e
    injection e with e1 e2
    exact e1.symm))
  simp only [List.length_nil] at HCQ
  clear h14 h15 hB15 HCR HGC
  go_wp2_with fail
  clear hx15 hg15
  refine (unhide HCQ).mono ?_
  rintro e x16 ⟨rfl, h16, -⟩
  obtain ⟨s4, hs4⟩ : ∃ z, crashS s3 [] = z := ⟨_, rfl⟩
  rw [hs4] at h16 HGX
  have H16 := hide h16
  clear h16 hs4 HCQ
  by_cases h256 : hd.size = 256
  · as_aux_lemma =>
      have hc : ((hd.size : Int) == 256) = true := by rw [h256]; rfl
      have HW1 := hide ((unhide H16).wr (unhide HGX).sane (by have := (unhide HGX).pend; omega) (by have := (unhide HGX).acts; omega) 1 hd)
      have HGW := hide ((unhide HGX).write 1 hd)
      clear h256
      go_wp2_with fail
      refine (unhide HW1).mono ?_
      rintro e x17 ⟨rfl, h17, -⟩
      have HW2 := hide (h17.rwr (unhide HGX).sane (unhide HGX).coh (by have := (unhide HGX).pend; omega) (by have := (unhide HGX).acts; omega) 1 hd)
      clear h17 HW1 hc
      go_wp2_with fail
      refine (unhide HW2).mono ?_
      rintro e y ⟨rfl, h18, -⟩
      have HP5 := hide (And.intro h18 (unhide HGW))
      clear h18 HW2 H16 HGX HGW
      have HPK2 := hide (pick6_any c3 30 (by decide) (unhide HC).2 30 rfl y)
      have q30 := pickP_lt c3 30 (by decide)
      obtain ⟨p3, hp3⟩ : ∃ z, pickP c3 30 = z := ⟨_, rfl⟩
      rw [hp3] at HPK2 q30
      have HP3Q := hide hp3
      have HA1 := hide ((unhide HP5).1.arm (p3 : Int))
      have HGA := hide ((unhide HP5).2.arm (p3 : Int) (by omega))
      clear hp3 q30
      go_wp2_with fail
      refine (unhide HPK2).mono ?_
      rintro e yy ⟨rfl, hyy⟩
      subst yy
      clear HPK2
      go_wp2_with fail
      refine (unhide HA1).mono ?_
      rintro e y1 ⟨rfl, h1, -⟩
      have HA2 := hide (h1.rarm (p3 : Int))
      have HPK3 := hide (pick6_any c3 30 (by decide) (unhide HC).2 30 rfl y1)
      rw [unhide HP3Q] at HPK3
      clear h1 HA1
      go_wp2_with fail
      refine (unhide HPK3).mono ?_
      rintro e yy ⟨rfl, hyy⟩
      subst yy
      clear HPK3
      go_wp2_with fail
      refine (unhide HA2).mono ?_
      rintro e y2 ⟨rfl, h2, -⟩
      obtain ⟨s6, hs6⟩ : ∃ z, armS (writeS s4 1 hd) (p3 : Int) = z := ⟨_, rfl⟩
      rw [hs6] at h2 HGA
      obtain ⟨xb, hxb⟩ : ∃ z, y2.heap.size = z := ⟨_, rfl⟩
      obtain ⟨y3, hy3⟩ : ∃ z, y2.alloc (.cells #[.pointer (some ⟨b, 0, none⟩), .pointer none, .pointer (some ⟨br, 0, none⟩), .pointer none, .slice none 0 0, .slice none 0 0, .slice none 0 0, .slice none 0 0] 54) = z := ⟨_, rfl⟩
      have hB3 : Blk y3 xb #[.pointer (some ⟨b, 0, none⟩), .pointer none, .pointer (some ⟨br, 0, none⟩), .pointer none, .slice none 0 0, .slice none 0 0, .slice none 0 0, .slice none 0 0] 54 := by rw [← hy3, ← hxb]; exact Blk.new y2 _ _
      have hb3 : Below y2.heap.size y2 y3 := by rw [← hy3]; exact (Below.refl _ _).alloc (Nat.le_refl _) _
      have h3 := h2.more (Y := fun k => k = xb) hb3 (fun k e => .inr (by rw [e]; exact ⟨by omega, hB3.lt⟩))
      have HX := hide (show W.heap.size ≤ xb from by rw [← hxb]; exact h2.bel.size)
      have HG3 := hide (show ETy y3 from (unhide HG).below h3.bel (unhide HG).lt)
      have H3 := hide (And.intro h3 hB3)
      clear h2 hb3 h3 hB3 hs6 HA2
      by_cases hk : 0 ≤ k0 ∧ k0 ≤ 64
      case neg =>
        as_aux_lemma =>
          have HOP := hide (opens_bad (unhide H3).1 rfl (unhide HX) (unhide H3).2 k0 hk)
          have HGS := hide (unhide HGA)
          clear hk HGA
          go_wp2_with fail
          clear hy3 hxb
          refine (unhide HOP).mono ?_
          rintro e y4 ⟨rfl, ⟨vz, vrz, hDz, hRz, -, hbz, -⟩, hBz⟩
          have g1 : y4.cell? ⟨xb, 1, none⟩ = some (.pointer none) := hBz.cell 1
          clear H3 HOP
          have HEN := hide (ended_any hDz hRz hBz (by have := (unhide HGS).acts; omega) (unhide HGS).sane.acts (unhide HGS).sane.pos (unhide HGS).sane.cap)
          have HBE := hide hbz
          clear hDz hRz hBz hbz
          go_wp2_with fail
          refine (unhide HEN).mono ?_
          rintro e xz ⟨rfl, hbe⟩
          have HFIN := hide (show Below W.heap.size W xz from (unhide HBE).trans (hbe.mono (unhide HBE).size))
          clear hbe HEN HBE
          go_wp2
          go_ret
          exact ⟨rfl, unhide HFIN⟩
      obtain ⟨kp, rfl⟩ := Int.eq_ofNat_of_zero_le hk.1
      have hk64 : kp ≤ 64 := by omega
      obtain ⟨nz, H, okh, hRH⟩ := RHP.ex (readT s6 1) (s6.last.length : Int)
      obtain ⟨n1, n2, n3⟩ := hRH.num
      obtain ⟨nh, rfl⟩ := Int.eq_ofNat_of_zero_le n1
      obtain ⟨s7, er, ag, has, hOR⟩ := OR.ex s6 nh H okh
      have HGS := hide ((unhide HGA).or hOR n3)
      have HLEN := hide (show 18 ≤ s6.last.length ∧ (readT s6 1).size ≤ 9223372036854775807 ∧ s6.pend.length ≤ 100000 ∧ s6.acts.length ≤ 100000 from by
        have q := (unhide HGA).sz.read 1
        have := (unhide HGA).len
        have := (unhide HGA).pend
        have := (unhide HGA).acts
        exact ⟨by omega, by omega, by omega, by omega⟩)
      rcases hOR.er0 with ⟨rfl, rfl⟩ | ⟨-, hne⟩
      case inr =>
        as_aux_lemma =>
          have HOP := hide (opens_no (unhide H3).1 rfl (unhide HX) (unhide H3).2 kp hk64 (unhide HG3) (unhide HGA).sane (unhide HGA).coh (unhide HLEN).2.1 (unhide HLEN).2.2.1 (unhide HLEN).2.2.2 (unhide HLEN).1 hRH hOR hne)
          clear hk hk64 hRH n1 n2 n3 hOR hne HGA HLEN
          go_wp2_with fail
          clear hy3 hxb
          refine (unhide HOP).mono ?_
          rintro e y4 ⟨rfl, ⟨vz, vrz, hDz, hRz, -, hbz, -⟩, hBz⟩
          have g1 : y4.cell? ⟨xb, 1, none⟩ = some (.pointer none) := hBz.cell 1
          clear H3 HOP
          have HEN := hide (ended_any hDz hRz hBz (by have := (unhide HGS).acts; omega) (unhide HGS).sane.acts (unhide HGS).sane.pos (unhide HGS).sane.cap)
          have HBE := hide hbz
          clear hDz hRz hBz hbz
          go_wp2_with fail
          refine (unhide HEN).mono ?_
          rintro e xz ⟨rfl, hbe⟩
          have HFIN := hide (show Below W.heap.size W xz from (unhide HBE).trans (hbe.mono (unhide HBE).size))
          clear hbe HEN HBE
          go_wp2
          go_ret
          exact ⟨rfl, unhide HFIN⟩
      as_aux_lemma =>
        have HOP := hide (opens_yes (unhide H3).1 rfl (unhide HX) (fun k e => by rw [e]; exact unhide HX) (unhide H3).2 kp hk64 (unhide HG3) (unhide HGA).sane (unhide HGA).coh (unhide HLEN).2.1 (unhide HLEN).2.2.1 (unhide HLEN).2.2.2 (unhide HLEN).1 hRH hOR (unhide HGS).sane)
        clear hk hk64 hRH n1 n2 n3 hOR HGA HLEN
        go_wp2_with fail
        clear hy3 hxb
        refine (unhide HOP).mono ?_
        rintro e y4 ⟨rfl, hY⟩
        have g1 : ∃ pb, y4.cell? ⟨xb, 1, none⟩ = some (.pointer (some ⟨pb, 0, none⟩)) := by
          obtain ⟨pb, jb9, qb9, vr9, jp9, X9, a1, _⟩ := hY
          exact ⟨pb, a1.cell 1⟩
        obtain ⟨pb, g1⟩ := g1
        have HST := hide (stepR6 hY (unhide HGS).coh (unhide HGS).sz (by have := (unhide HGS).pend; omega) (by have := (unhide HGS).len; omega) (by have := (unhide HGS).len; omega))
        clear hY H3 HOP
        go_wp2_with fail
        refine (unhide HST).mono ?_
        rintro e y5 ⟨rfl, ⟨vz, vrz, pz, yz, hDz, hRz, hBz, hbz⟩⟩
        clear HST g1
        have HEN := hide (ended_any hDz hRz hBz (by have := (unhide HGS).acts; omega) (unhide HGS).sane.acts (unhide HGS).sane.pos (unhide HGS).sane.cap)
        have HBE := hide hbz
        clear hDz hRz hBz hbz
        go_wp2_with fail
        refine (unhide HEN).mono ?_
        rintro e xz ⟨rfl, hbe⟩
        have HFIN := hide (show Below W.heap.size W xz from (unhide HBE).trans (hbe.mono (unhide HBE).size))
        clear hbe HEN HBE
        go_wp2
        go_ret
        exact ⟨rfl, unhide HFIN⟩
  · as_aux_lemma =>
      have hc : ((hd.size : Int) == 256) = false := by simp; omega
      obtain ⟨y, rfl⟩ : ∃ q, q = x16 := ⟨_, rfl⟩
      have HP5 := hide (And.intro (unhide H16) (unhide HGX))
      clear h256 H16 HGX
      have HPK2 := hide (pick6_any c3 30 (by decide) (unhide HC).2 30 rfl y)
      have q30 := pickP_lt c3 30 (by decide)
      obtain ⟨p3, hp3⟩ : ∃ z, pickP c3 30 = z := ⟨_, rfl⟩
      rw [hp3] at HPK2 q30
      have HP3Q := hide hp3
      have HA1 := hide ((unhide HP5).1.arm (p3 : Int))
      have HGA := hide ((unhide HP5).2.arm (p3 : Int) (by omega))
      clear hp3 q30
      go_wp2_with fail
      refine (unhide HPK2).mono ?_
      rintro e yy ⟨rfl, hyy⟩
      subst yy
      clear HPK2
      go_wp2_with fail
      refine (unhide HA1).mono ?_
      rintro e y1 ⟨rfl, h1, -⟩
      have HA2 := hide (h1.rarm (p3 : Int))
      have HPK3 := hide (pick6_any c3 30 (by decide) (unhide HC).2 30 rfl y1)
      rw [unhide HP3Q] at HPK3
      clear h1 HA1
      go_wp2_with fail
      refine (unhide HPK3).mono ?_
      rintro e yy ⟨rfl, hyy⟩
      subst yy
      clear HPK3
      go_wp2_with fail
      refine (unhide HA2).mono ?_
      rintro e y2 ⟨rfl, h2, -⟩
      obtain ⟨s6, hs6⟩ : ∃ z, armS (s4) (p3 : Int) = z := ⟨_, rfl⟩
      rw [hs6] at h2 HGA
      obtain ⟨xb, hxb⟩ : ∃ z, y2.heap.size = z := ⟨_, rfl⟩
      obtain ⟨y3, hy3⟩ : ∃ z, y2.alloc (.cells #[.pointer (some ⟨b, 0, none⟩), .pointer none, .pointer (some ⟨br, 0, none⟩), .pointer none, .slice none 0 0, .slice none 0 0, .slice none 0 0, .slice none 0 0] 54) = z := ⟨_, rfl⟩
      have hB3 : Blk y3 xb #[.pointer (some ⟨b, 0, none⟩), .pointer none, .pointer (some ⟨br, 0, none⟩), .pointer none, .slice none 0 0, .slice none 0 0, .slice none 0 0, .slice none 0 0] 54 := by rw [← hy3, ← hxb]; exact Blk.new y2 _ _
      have hb3 : Below y2.heap.size y2 y3 := by rw [← hy3]; exact (Below.refl _ _).alloc (Nat.le_refl _) _
      have h3 := h2.more (Y := fun k => k = xb) hb3 (fun k e => .inr (by rw [e]; exact ⟨by omega, hB3.lt⟩))
      have HX := hide (show W.heap.size ≤ xb from by rw [← hxb]; exact h2.bel.size)
      have HG3 := hide (show ETy y3 from (unhide HG).below h3.bel (unhide HG).lt)
      have H3 := hide (And.intro h3 hB3)
      clear h2 hb3 h3 hB3 hs6 HA2
      by_cases hk : 0 ≤ k0 ∧ k0 ≤ 64
      case neg =>
        as_aux_lemma =>
          have HOP := hide (opens_bad (unhide H3).1 rfl (unhide HX) (unhide H3).2 k0 hk)
          have HGS := hide (unhide HGA)
          clear hk HGA
          go_wp2_with fail
          clear hy3 hxb
          refine (unhide HOP).mono ?_
          rintro e y4 ⟨rfl, ⟨vz, vrz, hDz, hRz, -, hbz, -⟩, hBz⟩
          have g1 : y4.cell? ⟨xb, 1, none⟩ = some (.pointer none) := hBz.cell 1
          clear H3 HOP
          have HEN := hide (ended_any hDz hRz hBz (by have := (unhide HGS).acts; omega) (unhide HGS).sane.acts (unhide HGS).sane.pos (unhide HGS).sane.cap)
          have HBE := hide hbz
          clear hDz hRz hBz hbz
          go_wp2_with fail
          refine (unhide HEN).mono ?_
          rintro e xz ⟨rfl, hbe⟩
          have HFIN := hide (show Below W.heap.size W xz from (unhide HBE).trans (hbe.mono (unhide HBE).size))
          clear hbe HEN HBE
          go_wp2
          go_ret
          exact ⟨rfl, unhide HFIN⟩
      obtain ⟨kp, rfl⟩ := Int.eq_ofNat_of_zero_le hk.1
      have hk64 : kp ≤ 64 := by omega
      obtain ⟨nz, H, okh, hRH⟩ := RHP.ex (readT s6 1) (s6.last.length : Int)
      obtain ⟨n1, n2, n3⟩ := hRH.num
      obtain ⟨nh, rfl⟩ := Int.eq_ofNat_of_zero_le n1
      obtain ⟨s7, er, ag, has, hOR⟩ := OR.ex s6 nh H okh
      have HGS := hide ((unhide HGA).or hOR n3)
      have HLEN := hide (show 18 ≤ s6.last.length ∧ (readT s6 1).size ≤ 9223372036854775807 ∧ s6.pend.length ≤ 100000 ∧ s6.acts.length ≤ 100000 from by
        have q := (unhide HGA).sz.read 1
        have := (unhide HGA).len
        have := (unhide HGA).pend
        have := (unhide HGA).acts
        exact ⟨by omega, by omega, by omega, by omega⟩)
      rcases hOR.er0 with ⟨rfl, rfl⟩ | ⟨-, hne⟩
      case inr =>
        as_aux_lemma =>
          have HOP := hide (opens_no (unhide H3).1 rfl (unhide HX) (unhide H3).2 kp hk64 (unhide HG3) (unhide HGA).sane (unhide HGA).coh (unhide HLEN).2.1 (unhide HLEN).2.2.1 (unhide HLEN).2.2.2 (unhide HLEN).1 hRH hOR hne)
          clear hk hk64 hRH n1 n2 n3 hOR hne HGA HLEN
          go_wp2_with fail
          clear hy3 hxb
          refine (unhide HOP).mono ?_
          rintro e y4 ⟨rfl, ⟨vz, vrz, hDz, hRz, -, hbz, -⟩, hBz⟩
          have g1 : y4.cell? ⟨xb, 1, none⟩ = some (.pointer none) := hBz.cell 1
          clear H3 HOP
          have HEN := hide (ended_any hDz hRz hBz (by have := (unhide HGS).acts; omega) (unhide HGS).sane.acts (unhide HGS).sane.pos (unhide HGS).sane.cap)
          have HBE := hide hbz
          clear hDz hRz hBz hbz
          go_wp2_with fail
          refine (unhide HEN).mono ?_
          rintro e xz ⟨rfl, hbe⟩
          have HFIN := hide (show Below W.heap.size W xz from (unhide HBE).trans (hbe.mono (unhide HBE).size))
          clear hbe HEN HBE
          go_wp2
          go_ret
          exact ⟨rfl, unhide HFIN⟩
      as_aux_lemma =>
        have HOP := hide (opens_yes (unhide H3).1 rfl (unhide HX) (fun k e => by rw [e]; exact unhide HX) (unhide H3).2 kp hk64 (unhide HG3) (unhide HGA).sane (unhide HGA).coh (unhide HLEN).2.1 (unhide HLEN).2.2.1 (unhide HLEN).2.2.2 (unhide HLEN).1 hRH hOR (unhide HGS).sane)
        clear hk hk64 hRH n1 n2 n3 hOR HGA HLEN
        go_wp2_with fail
        clear hy3 hxb
        refine (unhide HOP).mono ?_
        rintro e y4 ⟨rfl, hY⟩
        have g1 : ∃ pb, y4.cell? ⟨xb, 1, none⟩ = some (.pointer (some ⟨pb, 0, none⟩)) := by
          obtain ⟨pb, jb9, qb9, vr9, jp9, X9, a1, _⟩ := hY
          exact ⟨pb, a1.cell 1⟩
        obtain ⟨pb, g1⟩ := g1
        have HST := hide (stepR6 hY (unhide HGS).coh (unhide HGS).sz (by have := (unhide HGS).pend; omega) (by have := (unhide HGS).len; omega) (by have := (unhide HGS).len; omega))
        clear hY H3 HOP
        go_wp2_with fail
        refine (unhide HST).mono ?_
        rintro e y5 ⟨rfl, ⟨vz, vrz, pz, yz, hDz, hRz, hBz, hbz⟩⟩
        clear HST g1
        have HEN := hide (ended_any hDz hRz hBz (by have := (unhide HGS).acts; omega) (unhide HGS).sane.acts (unhide HGS).sane.pos (unhide HGS).sane.cap)
        have HBE := hide hbz
        clear hDz hRz hBz hbz
        go_wp2_with fail
        refine (unhide HEN).mono ?_
        rintro e xz ⟨rfl, hbe⟩
        have HFIN := hide (show Below W.heap.size W xz from (unhide HBE).trans (hbe.mono (unhide HBE).size))
        clear hbe HEN HBE
        go_wp2
        go_ret
        exact ⟨rfl, unhide HFIN⟩
end Go.Proofs.YtiokejnlioghiaaGreatDoor
