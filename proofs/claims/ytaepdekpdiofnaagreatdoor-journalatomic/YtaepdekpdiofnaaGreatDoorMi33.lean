import Derived.Test.YtaepdekpdiofnaaGreatDoorMi32
namespace Go.Proofs.YtaepdekpdiofnaaGreatDoor
open Go.RowKit
/-- Behind k lists: the disk, its journal, and the image that is wanted. -/
def LtR (w0 : World) (k b jb g : Nat) (L : List ByteArray) (A : List (Nat × Nat)) (want : List ByteArray) (wr : World) : Prop :=
  JK w0 wr b jb (rs L A) (k + 1) false (fun x => x = g) ∧ Strs wr (some ⟨g, 0, none⟩) want ∧ want.length = 128 ∧ L.length = 128 ∧ freeQ L want ∧ (∀ t ∈ L, t.size = 256) ∧ L.getD 1 ByteArray.empty = headB k [] ∧ A.length ≤ 2 + 38 * k
theorem L0_size : ∀ t ∈ L0, t.size = 256 := fun t ht => by
  rcases List.mem_or_eq_of_mem_set ht with q | q
  · rw [List.eq_of_mem_replicate q]; exact zero256_size
  · rw [q]; exact headB_size 0 [] (by simp)
theorem Wls.fence0 {w w' : World} {p : Option Addr} {l : List Wr1} {X : Nat → Prop} (h : Wls w p l) (ho : Only (fun x => ¬ X x) w w') (hp : 0 < l.length → ∀ g o, p = some ⟨g, o, none⟩ → X g) : Wls w' p l := by
  by_cases h0 : 0 < l.length
  · exact h.fence ho (hp h0)
  · intro j hj; omega
theorem imageK {w0 w : World} {b jb : Nat} {L : List ByteArray} {A : List (Nat × Nat)} {nx : Nat} {lost : Bool} {X : Nat → Prop} (h : JK w0 w b jb (rs L A) nx lost X) (hL : L.length = 128) : Calls Tryz.prog 17 #[.pointer (some ⟨b, 0, none⟩)] w fun e w' => ∃ g cap, e = .returned (.slice (some ⟨g, 0, none⟩) 128 cap) ∧ w.heap.size ≤ g ∧ g < w'.heap.size ∧ Strs w' (some ⟨g, 0, none⟩) L ∧ Below w.heap.size w w' := by
  obtain ⟨v, h1, _⟩ := h
  refine (image_any w _ b v _ h1 (by show 0 < L.length; omega) (by show L.length ≤ 1024; omega)).mono ?_
  rintro e w' ⟨v', rfl, hr, hb⟩
  have hr' : w'.ownsRow w.heap.size 9 1 v' L.length (strs L) := hr
  obtain ⟨g, cap, e, hg1, hg2⟩ := hr'.form (by omega)
  obtain ⟨p', c', e2, hs⟩ := Strs.own hr'
  rw [e] at e2
  simp at e2
  obtain ⟨rfl, rfl⟩ := e2
  have hlt := hr'.lt g (by rw [e]; rfl)
  exact ⟨g, cap, by rw [e, hL], hlt.1, hlt.2, hs, hb⟩
theorem load128 (w : World) (p : Option Addr) (c : Nat) (L : List ByteArray) (hL : L.length = 128) (hs : ∀ t ∈ L, t.size = 256) (h : Strs w p L) : Calls Tryz.prog 18 #[.slice p 128 c] w fun e w' => ∃ b v, e = .returned (.tuple #[.pointer (some ⟨b, 0, none⟩), .int .i64 0]) ∧ Dk w' w.heap.size b v (rs L []) ∧ Below w.heap.size w w' := by
  have := load_any p c L w h
  rw [hL] at this
  refine this.mono ?_
  intro e w' hP
  rw [LoadPost, if_pos ⟨by omega, by omega⟩, if_pos hs] at hP
  exact hP
/-- What a list is to the fence: its block, if it has any write. -/
def Xl (g : Nat) (q : Option Addr) (l : List Wr1) (x : Nat) : Prop := x = g ∨ (0 < l.length ∧ ∃ o, q = some ⟨x, o, none⟩)
set_option maxRecDepth 100000 in
set_option maxHeartbeats 4000000 in
theorem lasts_walk (p : Option Addr) (c : Nat) (ls : List (List Wr1)) (n : Nat) (hn : n = ls.length) (hz : n ≤ 9223372036854775807) (cr : Int) (hcr : I64 cr) (w : World) (hg : ETy w) (hl : Wll w p ls) :
    Calls Tryz.prog 5 #[.slice p n c, .int .i64 cr] w fun e w' => e = .returned (.bool true) ∧ Below w.heap.size w w' := by
  have HAW := hide (awake_any w hg)
  have HG := hide hg
  have HL := hide hl
  have HN := hide hn
  have HCR := hide hcr
  clear hg hl hn hcr
  go_enter Tryz.func5, Tryz.ntmps5
  go_wp2_with fail
  refine (unhide HAW).mono ?_
  rintro e x1 ⟨rfl, hb1⟩
  have HB1 := hide hb1
  have HST := hide (started_any x1 ((unhide HG).below hb1 (unhide HG).lt))
  clear hb1 HAW
  go_wp2_with fail
  refine (unhide HST).mono ?_
  rintro e x2 ⟨b, jb, rfl, hJ2⟩
  have H2 := hide hJ2
  clear hJ2 HST
  have HIM := hide (show Calls Tryz.prog 17 #[.pointer (some ⟨b, 0, none⟩)] x2 fun e w' => ∃ g cap, e = .returned (.slice (some ⟨g, 0, none⟩) 128 cap) ∧ LtR x1 0 b jb g L0 A0 L0 w' from by
    obtain ⟨v, h1, _⟩ := unhide H2
    refine (image_any x2 _ b v _ h1 (by show 0 < L0.length; rw [L0_len]; decide) (by show L0.length ≤ 1024; rw [L0_len]; decide)).mono ?_
    rintro e w' ⟨v', rfl, hr, hb⟩
    have hr' : w'.ownsRow x2.heap.size 9 1 v' L0.length (strs L0) := hr
    obtain ⟨g, cap, e, hg1, hg2⟩ := hr'.form (by rw [L0_len]; decide)
    obtain ⟨p', c', e2, hs⟩ := Strs.own hr'
    rw [e] at e2
    simp at e2
    obtain ⟨rfl, rfl⟩ := e2
    have hlt := hr'.lt g (by rw [e]; rfl)
    refine ⟨g, cap, by rw [e, L0_len], (unhide H2).jk.more hb _ (fun x hx => .inr ?_), hs, L0_len, L0_len, fun k _ _ => rfl, L0_size, head0, by decide⟩
    rw [hx]; exact hlt)
  go_wp2_with fail
  refine (unhide HIM).mono ?_
  rintro e x3 ⟨g, cap, rfl, hR3⟩
  have R3 := hide hR3
  clear hR3 HIM H2
  go_wp2_with fail
  refine (next_any _ jb b 1 false (unhide R3).1.jb (by decide)).mono ?_
  rintro e x4 ⟨rfl, rfl⟩
  go_wp2
  go_loopw [6, 7, 9, 10, 11] (fun D J Wt Nm i wr => ∃ k b jb g cap L A want, (k ≤ n ∧ k ≤ 8) ∧ D = .pointer (some ⟨b, 0, none⟩) ∧ J = .pointer (some ⟨jb, 0, none⟩) ∧ Wt = .slice (some ⟨g, 0, none⟩) 128 cap ∧ Nm = .int .i64 (((k + 1 : Nat)) : Int) ∧ i = .int .i64 (k : Int) ∧ LtR x1 k b jb g L A want wr) (fun _ _ _ _ i _ => n - (intOf i).toNat)
  case atStart => exact ⟨0, b, jb, g, cap, L0, A0, L0, ⟨by omega, by omega⟩, rfl, rfl, rfl, rfl, rfl, unhide R3⟩
  case round =>
    obtain ⟨k, b, jb, g, cap, L, A, want, ⟨hk1, hk8⟩, rfl, rfl, rfl, rfl, rfl, hR⟩ := hrel
    obtain ⟨wo, rfl⟩ : ∃ wo, wo = wr := ⟨_, rfl⟩
    have XR := hide hR
    clear hR R3
    by_cases hkn : k < n
    · by_cases hk7 : k < 8
      · obtain ⟨gl, ol, ql, cl, rfl, hgl, hcl, hwl, hkl, hzl⟩ := unhide HL k (by have := unhide HN; omega)
        have HBW := hide ((unhide HB1).trans ((unhide XR).1.bel.mono (unhide HB1).size))
        have ck := ((unhide HBW).cell (p := ⟨gl, ol + k, none⟩) hgl).trans hcl
        obtain ⟨raw, hraw⟩ : ∃ raw, ls.getD k [] = raw := ⟨_, rfl⟩
        rw [hraw] at ck hwl hkl hzl
        obtain ⟨nl, hnl⟩ : ∃ nl, raw.length = nl := ⟨_, rfl⟩
        rw [hnl] at ck hzl
        have HLS := hide (listed_any wo ql cl raw nl hnl.symm (hwl.below (unhide HBW)) hkl hzl)
        have HGD := hide (lstF_good raw [] GoodL.nil)
        clear hcl hraw hnl hwl hkl
        go_wp2_with fail
        refine (unhide HLS).mono ?_
        rintro e y1 ⟨q1, c1, rfl, hw1, hb1, hf1⟩
        generalize lstF [] raw = l at *
        obtain ⟨m1, hm1⟩ : ∃ m, l.length = m := ⟨_, rfl⟩
        rw [hm1]
        have HM1 := hide hm1
        obtain ⟨hK, hS, hwn, hLn, hfr, hsz, hhd, hal⟩ := unhide XR
        have HK1 := hide (hK.more hb1 (Xl g q1 l) (fun x hx => by
          rcases hx with hx | ⟨h0, o, ho⟩
          · exact .inl hx
          · obtain ⟨g', o', e', hlt, _⟩ := hw1 0 h0
            rw [ho] at e'
            simp at e'
            refine .inr ⟨hf1 x o ho, ?_⟩
            rw [e'.1]; exact hlt))
        obtain ⟨nx, hnx⟩ : ∃ nx, k + 1 = nx := ⟨_, rfl⟩
        obtain ⟨ny, hny⟩ : ∃ ny, (nx + 1) % 4294967296 = ny := ⟨_, rfl⟩
        have hny' : ny = nx + 1 := by omega
        have hwr : IntKind.i64.wrap ((nx : Int) + 1) = (ny : Int) := by rw [wrapI_eq _ (by omega) (by omega)]; omega
        rw [hnx] at HK1 ⊢
        have HC := hide (commitK (unhide HK1) (by omega) q1 c1 l m1 hm1.symm hw1 (Nat.zero_le _) (by show A.length ≤ _; omega))
        rw [commit_rs L A nx l hLn (unhide HGD), hny] at HC
        have HW1 := hide hw1
        have HNX := hide (And.intro hnx hny')
        have HPU := hide (And.intro (com_freeQ L want nx l (unhide HGD).len hLn hwn hfr) (And.intro (com_size L nx l (unhide HGD) hsz) (And.intro (com_head L nx l (by omega)) (And.intro (comL_len L nx l) (comA_len l (unhide HGD).len)))))
        have HS1 := hide (hS.below hb1)
        have HWN := hide (And.intro hwn (And.intro hLn hal))
        clear hK hS hwn hLn hfr hsz hhd hal hw1 hb1 hf1 hnx hny hny' hm1 HLS XR
        generalize comL L nx l = L2 at *
        generalize hA2 : A ++ comA l = A2 at *
        replace hA2 := hide hA2
        go_wp2_with fail
        refine (unhide HC).mono ?_
        rintro e y2 ⟨rfl, hK2, hO2⟩
        have HK2 := hide hK2
        have HLD := hide (laid_any y2 (some ⟨g, 0, none⟩) cap want 128 (unhide HWN).1.symm ((unhide HS1).fence hO2 (fun g' o' e' => .inl (by simp at e'; exact e'.1.symm))) (by decide) (by decide) q1 c1 l m1 (unhide HM1).symm ((unhide HW1).fence0 hO2 (fun h0 g' o' e' => .inr ⟨h0, o', e'⟩)) (fun x hx => by have := (unhide HGD).free x hx; exact ⟨by omega, by omega⟩) (by have := (unhide HGD).len; have := unhide HM1; omega))
        clear hK2 hO2 HC HK1 HS1 HW1
        go_wp2_with fail
        refine (unhide HLD).mono ?_
        rintro e y3 ⟨rfl, hB3, hb3⟩
        have HR3 := hide (show LtR x1 (k + 1) b jb y2.heap.size L2 A2 (layP want (natW l)) y3 from by
          obtain ⟨a1, a2, a3, a4, a5⟩ := unhide HPU
          have e2 : k + 1 + 1 = ny := by have := unhide HNX; omega
          refine ⟨?_, ?_, by rw [layP_len]; exact (unhide HWN).1, by rw [a4]; exact (unhide HWN).2.1, a1, a2, by rw [a3, (unhide HNX).1], ?_⟩
          · rw [e2]
            exact (unhide HK2).more hb3 _ (fun x hx => .inr (by rw [hx]; exact ⟨Nat.le_refl _, hB3.lt⟩))
          · intro j hj
            exact ⟨y2.heap.size, 0, rfl, hB3.lt, by rw [Nat.zero_add, hB3.cell j]; simpa using strs_at _ _ hj⟩
          · rw [← unhide hA2, List.length_append, a5]
            have := (unhide HWN).2.2
            omega)
        have HJ3 := hide (show Jb y3 jb b ny false from by
          have := (unhide HR3).1.jb
          rwa [show k + 1 + 1 = ny by have := unhide HNX; omega] at this)
        have hny : ny < 4294967296 := by have := unhide HNX; omega
        obtain ⟨g3, hg3⟩ : ∃ g3, y2.heap.size = g3 := ⟨_, rfl⟩
        rw [hg3] at HR3 ⊢
        clear hB3 hb3 HLD HK2 hg3 HPU HGD
        go_wp2_with fail
        refine (next_any y3 jb b ny false (unhide HJ3) hny).mono ?_
        rintro e y4 ⟨rfl, rfl⟩
        go_wp2_with fail
        · have HIM := hide (imageK (unhide HR3).1 (unhide HR3).2.2.2.1)
          refine (unhide HIM).mono ?_
          rintro e y5 ⟨g5, cap5, rfl, h51, h52, hS5, hb5⟩
          have HLO := hide (load128 y5 (some ⟨g5, 0, none⟩) cap5 L2 (unhide HR3).2.2.2.1 (unhide HR3).2.2.2.2.2.1 hS5)
          have HK5 := hide ((unhide HR3).1.below hb5)
          have HS5 := hide ((unhide HR3).2.1.below hb5)
          clear h51 h52 hS5 hb5 HIM HJ3
          go_wp2_with fail
          refine (unhide HLO).mono ?_
          rintro e y6 ⟨b6, v6, rfl, hD6, hb6⟩
          have HS6 := hide ((unhide HS5).below hb6)
          have HB6 := hide ((unhide HK5).below hb6).bel
          have hE6 : ETy y6 := (unhide HG).below ((unhide HB1).trans ((unhide HB6).mono (unhide HB1).size)) (unhide HG).lt
          have HOP := hide (openK (X := fun x => x = g3) hD6 (unhide HK5).bel.size hb6.size (unhide HB6) (fun x hx => (unhide HK5).lt x hx) hE6 (Sane.fresh L2 (by have := (unhide HR3).2.2.2.1; omega) (by have := (unhide HR3).2.2.2.1; omega)) (k + 1) (by omega) (by have := (unhide HR3).2.2.2.1; omega) (unhide HR3).2.2.2.2.2.2.1)
          rw [show (k + 1 + 1) % 4294967296 = ny by have := unhide HNX; omega] at HOP
          clear hD6 hb6 hE6 HLO HK5 HS5
          go_wp2_with fail
          refine (unhide HOP).mono ?_
          rintro e y7 ⟨jb7, rfl, hK7, hO7⟩
          have HR7 := hide (show LtR x1 (k + 1) b6 jb7 g3 L2 [] (layP want (natW l)) y7 from by
            obtain ⟨_, _, a3, a4, a5, a6, a7, _⟩ := unhide HR3
            refine ⟨?_, (unhide HS6).fence hO7 (fun g' o' e' => by simp at e'; exact e'.1.symm), a3, a4, a5, a6, a7, by simp⟩
            rw [show k + 1 + 1 = ny by have := unhide HNX; omega]
            exact hK7)
          have HJ7 := hide hK7.jb
          clear hK7 hO7 HOP HS6 HB6 HR3
          go_wp2_with fail
          refine (next_any y7 jb7 b6 ny false (unhide HJ7) hny).mono ?_
          rintro e y8 ⟨rfl, rfl⟩
          go_wp2
          go_roundw
          case rel => exact ⟨k + 1, b6, jb7, g3, 128, L2, [], layP want (natW l), ⟨by omega, by omega⟩, rfl, rfl, rfl, by have := unhide HNX; rw [show k + 1 + 1 = ny by omega], by go_num, unhide HR7⟩
          case measure => simp [intOf]; omega
        · go_roundw
          case rel => exact ⟨k + 1, b, jb, g3, 128, L2, A2, layP want (natW l), ⟨by omega, by omega⟩, rfl, rfl, rfl, by have := unhide HNX; rw [show k + 1 + 1 = ny by omega], by go_num, unhide HR3⟩
          case measure => simp [intOf]; omega
      · have hk8' : ¬ (k : Int) < 8 := by omega
        clear HL
        have HIM := hide (imageK (unhide XR).1 (unhide XR).2.2.2.1)
        go_wp2_with fail
        refine (unhide HIM).mono ?_
        rintro e y1 ⟨g1, cap1, rfl, h1, h2, hS1, hb1⟩
        have HF := hide (free_any y1 (some ⟨g1, 0, none⟩) (some ⟨g, 0, none⟩) cap1 cap L want 128 (unhide XR).2.2.2.1.symm (unhide XR).2.2.1.symm hS1 ((unhide XR).2.1.below hb1) (by decide))
        rw [freeB_true (unhide XR).2.2.2.2.1] at HF
        have HB := hide ((unhide XR).1.below hb1).bel
        clear h1 h2 hS1 hb1 HIM XR
        go_wp2_with fail
        refine (unhide HF).mono ?_
        rintro e y2 ⟨rfl, hb2⟩
        have HE := hide ((unhide HB1).trans (((unhide HB).trans (hb2.mono (unhide HB).size)).mono (unhide HB1).size))
        clear hb2 HF HB
        go_wp2
        go_ret
        exact ⟨rfl, unhide HE⟩
    · have hkn' : ¬ (k : Int) < (n : Int) := by omega
      clear HL
      have HIM := hide (imageK (unhide XR).1 (unhide XR).2.2.2.1)
      go_wp2_with fail
      refine (unhide HIM).mono ?_
      rintro e y1 ⟨g1, cap1, rfl, h1, h2, hS1, hb1⟩
      have HF := hide (free_any y1 (some ⟨g1, 0, none⟩) (some ⟨g, 0, none⟩) cap1 cap L want 128 (unhide XR).2.2.2.1.symm (unhide XR).2.2.1.symm hS1 ((unhide XR).2.1.below hb1) (by decide))
      rw [freeB_true (unhide XR).2.2.2.2.1] at HF
      have HB := hide ((unhide XR).1.below hb1).bel
      clear h1 h2 hS1 hb1 HIM XR
      go_wp2_with fail
      refine (unhide HF).mono ?_
      rintro e y2 ⟨rfl, hb2⟩
      have HE := hide ((unhide HB1).trans (((unhide HB).trans (hb2.mono (unhide HB).size)).mono (unhide HB1).size))
      clear hb2 HF HB
      go_wp2
      go_ret
      exact ⟨rfl, unhide HE⟩
end Go.Proofs.YtaepdekpdiofnaaGreatDoor
