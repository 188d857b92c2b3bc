import Derived.Test.YtaepdekpdiofnaaGreatDoorMi34
import Derived.Test.YtaepdekpdiofnaaGreatDoorMi10
import Derived.BigQuiet
namespace Go.Proofs.YtaepdekpdiofnaaGreatDoor
open Go.RowKit
theorem JK.dpost {w0 w w' : World} {b jb : Nat} {v : DV} {s s' : DSt} {nx : Nat} {lost : Bool} {X : Nat → Prop} (h1 : Dk w w0.heap.size b v s) (h2 : Jb w jb b nx lost) (h3 : ¬ Fd b v jb) (h4 : w0.heap.size ≤ jb) (h5 : Below w0.heap.size w0 w) (hs : Sane s') (h7 : ∀ x, X x → ¬ Fd b v x ∧ x ≠ jb ∧ x < w.heap.size) (hP : DPost w0.heap.size b v s' w w') : JK w0 w' b jb s' nx lost X ∧ Only (fun x => ¬ X x) w w' := by
  obtain ⟨v', k1, k2, k3⟩ := hP
  refine ⟨⟨v', k1, Blk.only h2 k2 h3, fun q => ?_, h4, DI.only h1 h5 k2, hs, fun x hx => ?_⟩, k2.widen (fun k _ q r => (h7 k r).1 q)⟩
  · rcases k3 jb q with r | r
    · exact h3 r
    · have := Blk.lt h2; omega
  · obtain ⟨a1, a2, a3⟩ := h7 x hx
    refine ⟨fun q => ?_, a2, Nat.lt_of_lt_of_le a3 k2.size⟩
    rcases k3 x q with r | r
    · exact a1 r
    · omega
theorem crashK {w0 w : World} {b jb : Nat} {s : DSt} {nx : Nat} {lost : Bool} {X : Nat → Prop} (h : JK w0 w b jb s nx lost X) (hp : s.pend.length ≤ 1000000000) (p : Option Addr) (l : List Int) (n c : Nat) (hn : n = l.length) (hl : Ints w p l) (hll : l.length ≤ 9223372036854775807) :
    Calls Tryz.prog 16 #[.pointer (some ⟨b, 0, none⟩), .slice p n c] w fun e w' => e = .returned (.int .i64 (crashE s l)) ∧ JK w0 w' b jb (crashS s l) nx lost X ∧ Only (fun x => ¬ X x) w w' := by
  subst hn
  obtain ⟨v, h1, h2, h3, h4, h5, h6, h7⟩ := h
  refine (crash_any w _ b v s h1 h5.size h6 hp p l c hl hll).mono ?_
  rintro ev w' ⟨rfl, hP⟩
  exact ⟨rfl, JK.dpost h1 h2 h3 h4 h5 (h6.crash l) h7 hP⟩
theorem armK {w0 w : World} {b jb : Nat} {s : DSt} {nx : Nat} {lost : Bool} {X : Nat → Prop} (h : JK w0 w b jb s nx lost X) (n : Int) (hn : n ≤ 9223372036854775807) :
    Calls Tryz.prog 15 #[.pointer (some ⟨b, 0, none⟩), .int .i64 n] w fun e w' => e = .returned (.int .i64 (armE s n)) ∧ JK w0 w' b jb (armS s n) nx lost X ∧ Only (fun x => ¬ X x) w w' := by
  obtain ⟨v, h1, h2, h3, h4, h5, h6, h7⟩ := h
  refine (arm_any w _ b v s h1 n).mono ?_
  rintro ev w' ⟨rfl, g1, g2⟩
  exact ⟨rfl, JK.dpost h1 h2 h3 h4 h5 (h6.arm n hn) h7 ⟨v, g1, g2, fun _ q => .inl q⟩⟩
/-- Open of a disk that died behind the head was set. -/
theorem openM {w : World} {base b : Nat} {v : DV} {L : List ByteArray} {nx : Nat} {l : List Wr1} (h : Dk w base b v (rs (midL L nx l) [])) (hg : ETy w) (hb : base ≤ w.heap.size) (hL : L.length = 128) (hl : GoodL l) (hn : nx < 4294967296) :
    Calls Tryz.prog 24 #[.pointer (some ⟨b, 0, none⟩)] w fun e w' => ∃ jb, e = .returned (.tuple #[.pointer (some ⟨jb, 0, none⟩), .bool true, .int .i64 0]) ∧ ∃ v' A', Dk w' base b v' (rs (comL L nx l) A') ∧ Only (Fd b v) w w' := by
  have hML : (midL L nx l).length = 128 := by rw [midL_len, hL]
  obtain ⟨r1, r2⟩ := read_rs (midL L nx l) [] 1 (by omega)
  rw [show ((1 : Nat) : Int) = 1 from rfl] at r1 r2
  have hh := mid_head L nx l (by omega)
  have hS : Sane (rs (midL L nx l) []) := Sane.fresh (midL L nx l) (by omega) (by omega)
  have ht : (readT (rs (midL L nx l) []) 1).size ≤ 9223372036854775807 := by rw [r2, hh, headB_size nx _ (by rw [secs16 l hl]; decide)]; decide
  refine (open_any w base b v _ h hg hb hS ht (Nat.zero_le _) (Nat.zero_le _)).mono ?_
  intro e w' hP
  rcases hP with ⟨q, _⟩ | ⟨_, n', H, ok, hn', hR, hc⟩
  · exact absurd r1 q
  · rw [r2, hh, show (((rs (midL L nx l) []).last.length : Nat) : Int) = 128 by show (((midL L nx l).length : Nat) : Int) = 128; rw [hML]; rfl] at hR
    obtain ⟨e1, e2, e3⟩ := rhp_set nx hn 128 _ _ _ _ (secs16 l hl) (homes_ok l hl) hR
    have e1' : n' = nx := by omega
    subst e1' e2 e3
    rw [redoR_mid L n' l hL hl] at hc
    rcases hc with ⟨q, _⟩ | ⟨_, q, _⟩ | ⟨_, _, q, _⟩ | ⟨_, _, _, jb, ev, v', k1, _, _, _, k5, _⟩
    · cases q
    · rw [secs16 l hl] at q; cases q
    · exact absurd rfl q
    · exact ⟨jb, ev, v', _, k1, k5⟩
theorem filled_at (l : List Wr1) (h : l.length ≤ 16) (k : Nat) (hk : k < 16) : (filled l).getD k wr0 = if k < l.length then l.getD k wr0 else fillW := by
  by_cases hkl : k < l.length
  · rw [if_pos hkl, filled, List.getD_eq_getElem?_getD, List.getElem?_append_left hkl, List.getD_eq_getElem?_getD]
  · rw [if_neg hkl, filled, List.getD_eq_getElem?_getD, List.getElem?_append_right (by omega), List.getElem?_replicate, if_pos (by omega)]
    rfl
theorem out_snoc (H : List Int) (k : Nat) (hk : k < H.length) : [1] ++ outN 4 (H.take (k + 1)) = ([1] ++ outN 4 (H.take k)) ++ outN 4 [H.getD k 0] := by
  have e : H.take (k + 1) = H.take k ++ [H.getD k 0] := by
    rw [List.take_succ_eq_append_getElem hk]
    simp [List.getD_eq_getElem?_getD, hk]
  rw [e, List.append_assoc]
  simp [outN]
/-- The fence of a list alone. -/
def Xq (q : Option Addr) (l : List Wr1) (x : Nat) : Prop := 0 < l.length ∧ ∃ o, q = some ⟨x, o, none⟩
set_option maxRecDepth 100000 in
set_option maxHeartbeats 8000000 in
theorem pages_walk (pa : Option Addr) (ca : Nat) (ra : List Wr1) (na : Nat) (hna : na = ra.length) (w : World) (hg : ETy w) (hla : Wls w pa ra) (hka : Wok ra) (hza : na ≤ 9223372036854775807) :
    Calls Tryz.prog 4 #[.slice pa na ca] w fun e w' => e = .returned (.bool true) ∧ Below w.heap.size w w' := by
  have HAW := hide (awake_any w hg)
  have HG := hide hg
  have HLA := hide (And.intro hla (And.intro hka (And.intro hza hna)))
  have HGD := hide (lstF_good ra [] GoodL.nil)
  obtain ⟨l, hl⟩ : ∃ l, lstF [] ra = l := ⟨_, rfl⟩
  rw [hl] at HGD
  replace hl := hide hl
  clear hg hla hka hna hza
  go_enter Tryz.func4, Tryz.ntmps4
  go_wp2_with fail
  refine (unhide HAW).mono ?_
  rintro e x1 ⟨rfl, hb1⟩
  have HB1 := hide hb1
  have HST := hide (started_any x1 ((unhide HG).below hb1 (unhide HG).lt))
  clear hb1 HAW
  go_wp2_with fail
  refine (unhide HST).mono ?_
  rintro e x2 ⟨b, jb, rfl, hJ2⟩
  have H2 := hide hJ2
  have HLS := hide (listed_any x2 pa ca ra na (unhide HLA).2.2.2 ((unhide HLA).1.below ((unhide HB1).trans (hJ2.bel.mono (unhide HB1).size))) (unhide HLA).2.1 (unhide HLA).2.2.1)
  clear hJ2 HST
  go_wp2_with fail
  refine (unhide HLS).mono ?_
  rintro e x3 ⟨q1, c1, rfl, hw3, hb3, hf3⟩
  rw [unhide hl] at hw3 ⊢
  obtain ⟨m1, hm1⟩ : ∃ m, l.length = m := ⟨_, rfl⟩
  rw [hm1]
  have HM1 := hide hm1
  have HK3 := hide ((unhide H2).jk.more hb3 (Xq q1 l) (fun x hx => by
    obtain ⟨h0, o, ho⟩ := hx
    obtain ⟨g', o', e', hlt, _⟩ := hw3 0 h0
    rw [ho] at e'
    simp at e'
    refine .inr ⟨hf3 x o ho, ?_⟩
    rw [e'.1]; exact hlt))
  have HW3 := hide hw3
  clear hw3 hb3 hf3 HLS H2 hm1
  go_wp2_with fail
  refine (next_any x3 jb b 1 false (unhide HK3).jb (by decide)).mono ?_
  rintro e y3 ⟨rfl, rfl⟩
  go_wp2_with fail
  refine (armK (unhide HK3) 20 (by decide)).mono ?_
  rintro e x4 ⟨rfl, hK4, hO4⟩
  rw [show armE (rs L0 A0) 20 = 0 from rfl]
  have HW4 := hide ((unhide HW3).fence0 hO4 (fun h0 g' o' e' => ⟨h0, o', e'⟩))
  obtain ⟨A', hA', hcm⟩ := commit_20 L0 A0 1 l L0_len (unhide HGD)
  have HC := hide (commitK hK4 (by decide) q1 c1 l m1 (unhide HM1).symm (unhide HW4) (Nat.zero_le _) (by show A0.length ≤ _; decide))
  rw [hcm] at HC
  have HMID := hide (And.intro (mid_head L0 1 l (by rw [L0_len]; decide)) (And.intro (fun i hi => mid_rec L0 1 l L0_len (unhide HGD).len i hi) (And.intro (mid_size L0 1 l (unhide HGD) L0_size) (And.intro ((midL_len L0 1 l).trans L0_len) (And.intro (com_head L0 1 l (by rw [L0_len]; decide)) ((comL_len L0 1 l).trans L0_len))))))
  obtain ⟨M, hM⟩ : ∃ M, midL L0 1 l = M := ⟨_, rfl⟩
  rw [hM] at HC HMID
  have HMQ := hide hM
  clear hcm hA' hK4 hO4 HK3 HW3 hM
  go_wp2_with fail
  refine (unhide HC).mono ?_
  rintro e x5 ⟨rfl, hK5, hO5⟩
  have HW5 := hide ((unhide HW4).fence0 hO5 (fun h0 g' o' e' => ⟨h0, o', e'⟩))
  have HCR := hide (crashK hK5 (Nat.zero_le _) none [] 0 0 rfl (Ints.nil _ _) (by simp))
  rw [(crash_20 M A').1, (crash_20 M A').2] at HCR
  clear hK5 hO5 HC HW4
  go_wp2_with fail
  refine (unhide HCR).mono ?_
  rintro e x6 ⟨rfl, hK6, hO6⟩
  have HW6 := hide ((unhide HW5).fence0 hO6 (fun h0 g' o' e' => ⟨h0, o', e'⟩))
  have HIM := hide (imageK hK6 (unhide HMID).2.2.2.1)
  have HB6 := hide hK6.bel
  clear hK6 hO6 HCR HW5
  go_wp2_with fail
  refine (unhide HIM).mono ?_
  rintro e x7 ⟨g7, cap7, rfl, h71, h72, hS7, hb7⟩
  have HLO := hide (load128 x7 (some ⟨g7, 0, none⟩) cap7 M (unhide HMID).2.2.2.1 (unhide HMID).2.2.1 hS7)
  have HW7 := hide ((unhide HW6).below hb7)
  have HB7 := hide ((unhide HB6).trans (hb7.mono (unhide HB6).size))
  have HS7 := hide (And.intro hS7 h72)
  have HBW7 := hide (show w.heap.size ≤ x7.heap.size from Nat.le_trans (unhide HB1).size (unhide HB7).size)
  clear h71 h72 hS7 hb7 HIM HW6 HB6
  go_wp2_with fail
  refine (unhide HLO).mono ?_
  rintro e x8 ⟨b8, v8, rfl, hD8, hb8⟩
  have HD8 := hide (And.intro hD8 hb8.size)
  have HW8 := hide ((unhide HW7).below hb8)
  have HS8 := hide ((unhide HS7).1.below hb8)
  have HB8 := hide ((unhide HB1).trans (((unhide HB7).trans (hb8.mono (unhide HB7).size)).mono (unhide HB1).size))
  have HNW := hide (newWriter_any x8)
  clear hD8 hb8 HLO HW7 HB7
  go_wp2_with fail
  refine (unhide HNW).mono ?_
  rintro e y0 ⟨rfl, hR1, hB1, hz1⟩
  have X1 := hide (TWr.start hR1 hB1)
  clear hR1 hB1 HNW hz1
  go_wp2_with fail
  refine ((unhide X1).num ((Below.refl _ y0).alloc (Nat.le_refl _) _) 1 (by decide) (by decide) [1] (fun z hz => by simp at hz; subst hz; exact fits1j 1 (by decide) (by decide)) _ 1 1 rfl (inl_new y0 1) (fun k o q => by cases q; exact .inl (Nat.le_refl _)) (by decide) 1 rfl).mono ?_
  rintro e y1 ⟨rfl, h3⟩
  rw [outN_one 1 (by decide) (by decide)] at h3
  obtain ⟨H, hH⟩ : ∃ H, secs (filled l) = H := ⟨_, rfl⟩
  have HH := hide hH
  have HH16 := hide (show H.length = 16 by rw [← hH]; exact secs16 l (unhide HGD))
  have HHF := hide (show HomesOk 128 H by rw [← hH]; exact homes_ok l (unhide HGD))
  have X2 := hide (show TWr x8 ([1] ++ outN 4 (H.take 0)) y1 from by simpa [outN] using h3)
  have HNO := hide (fun (W : World) => noughts_any W)
  clear h3 X1 hH
  go_wp2
  go_loopw [16] (fun i wr => ∃ k : Nat, k ≤ 16 ∧ i = .int .i64 (k : Int) ∧ TWr x8 ([1] ++ outN 4 (H.take k)) wr) (fun i _ => 16 - (intOf i).toNat)
  case atStart => exact ⟨0, by omega, rfl, unhide X2⟩
  case round =>
    obtain ⟨k, hk, rfl, hT⟩ := hrel
    obtain ⟨wo, rfl⟩ : ∃ wo, wo = wr := ⟨_, rfl⟩
    have XT := hide hT
    clear hT X2
    by_cases hk16 : k < 16
    · have hk' : (k : Int) < 16 := by omega
      obtain ⟨T, S, hTS⟩ : ∃ T S, (filled l).getD k wr0 = (T, S) := ⟨_, _, rfl⟩
      have HTT := hide hTS
      have hHk : H.getD k 0 = T := by rw [← unhide HH, secs_at _ k (by rw [filled_len l (unhide HGD).len]; exact hk16), hTS]
      have HSN := hide (show [1] ++ outN 4 (H.take (k + 1)) = ([1] ++ outN 4 (H.take k)) ++ outN 4 [T] from by rw [← hHk]; exact out_snoc H k (by rw [unhide HH16]; exact hk16))
      have HFT := hide (show fitsP T 4 from by
        have hlt : k < H.length := by rw [unhide HH16]; exact hk16
        have := unhide HHF (H.take k) (H[k]) (H.drop (k + 1)) (by rw [List.getElem_cons_drop, List.take_append_drop])
        rw [← hHk, show H.getD k 0 = H[k] by simp [List.getD_eq_getElem?_getD, hlt]]
        exact fits4j _ this.2.1 this.2.2)
      have HLEN := hide (show ([1] ++ outN 4 (H.take k)).length ≤ 1000 from by rw [List.length_append, outN_len, List.length_take]; simp; omega)
      obtain ⟨j, hj⟩ : ∃ j : Nat, j = 2 + k := ⟨_, rfl⟩
      have hwr : IntKind.i64.wrap (2 + (k : Int)) = (j : Int) := by rw [wrapI_eq _ (by omega) (by omega)]; omega
      have HCB := hide (show g7 < x8.heap.size ∧ x8.cell? ⟨g7, j, none⟩ = some (.string S) from by
        obtain ⟨g', o', e', h1, h2⟩ := unhide HS8 (2 + k) (by rw [(unhide HMID).2.2.2.1]; omega)
        simp at e'
        obtain ⟨rfl, rfl⟩ := e'
        rw [(unhide HMID).2.1 k hk16, hTS, Nat.zero_add] at h2
        exact ⟨h1, by rw [hj]; exact h2⟩)
      have i2 : 0 ≤ (j : Int) := by omega
      have i3 : (j : Int) < 128 := by omega
      clear hTS hHk hj
      generalize [1] ++ outN 4 (H.take k) = Tk at *
      go_wp2_with fail
      refine (unhide HNO _).mono ?_
      rintro e z1 ⟨rfl, hbz⟩
      have XT1 := hide ((unhide XT).below hbz)
      clear hbz XT
      by_cases hkl : k < m1
      · have hTk : (l.getD k wr0).1 = T := by have := unhide HTT; rw [filled_at l (unhide HGD).len k hk16, if_pos (by have := unhide HM1; omega)] at this; exact congrArg Prod.fst this
        have hSk : (l.getD k wr0).2 = S := by have := unhide HTT; rw [filled_at l (unhide HGD).len k hk16, if_pos (by have := unhide HM1; omega)] at this; exact congrArg Prod.snd this
        obtain ⟨gl, ol, rfl, hgl, q2, q3⟩ := unhide HW8 k (by have := unhide HM1; omega)
        have k1 := ((unhide XT1).bel.cell (p := ⟨gl, ol + k * 2, none⟩) hgl).trans q2
        have k2 := ((unhide XT1).bel.cell (p := ⟨gl, ol + k * 2 + 1, none⟩) hgl).trans q3
        rw [hTk] at k1
        rw [hSk] at k2
        have i1 : (k : Int) < (m1 : Int) := by omega
        clear q2 q3 hTk hSk
        go_wp2_with fail
        refine ((unhide XT1).num ((Below.refl _ z1).alloc (Nat.le_refl _) _) 4 (by decide) (by decide) [T] (fun z hz => by simp at hz; subst hz; exact unhide HFT) _ 1 1 rfl (inl_new z1 T) (fun k o q => by cases q; exact .inl (Nat.le_refl _)) (by have := unhide HLEN; show _ + 8 * 1 ≤ _; omega) 4 rfl).mono ?_
        rintro e z2 ⟨rfl, h2⟩
        have X3 := hide (show TWr x8 ([1] ++ outN 4 (H.take (k + 1))) z2 from by rw [unhide HSN]; exact h2)
        have ck : z2.cell? ⟨g7, j, none⟩ = some (.string S) := ((unhide X3).bel.cell (p := ⟨g7, j, none⟩) (unhide HCB).1).trans (unhide HCB).2
        clear h2 XT1
        go_wp2
        go_roundw
        case rel => exact ⟨k + 1, by omega, by go_num, unhide X3⟩
        case measure => simp [intOf]; omega
      · have hTk : fillW = (T, S) := by have := unhide HTT; rw [filled_at l (unhide HGD).len k hk16, if_neg (by have := unhide HM1; omega)] at this; exact this
        obtain ⟨hT18, hSz⟩ : (18 : Int) = T ∧ zero256 = S := ⟨congrArg Prod.fst hTk, congrArg Prod.snd hTk⟩
        have i1 : ¬ (k : Int) < (m1 : Int) := by omega
        rw [hSz]
        have HT18 := hide hT18
        clear hTk hSz
        subst hT18
        go_wp2_with fail
        refine ((unhide XT1).num ((Below.refl _ z1).alloc (Nat.le_refl _) _) 4 (by decide) (by decide) [18] (fun z hz => by simp at hz; subst hz; exact unhide HFT) _ 1 1 rfl (inl_new z1 18) (fun k o q => by cases q; exact .inl (Nat.le_refl _)) (by have := unhide HLEN; show _ + 8 * 1 ≤ _; omega) 4 rfl).mono ?_
        rintro e z2 ⟨rfl, h2⟩
        have X3 := hide (show TWr x8 ([1] ++ outN 4 (H.take (k + 1))) z2 from by rw [unhide HSN]; exact h2)
        have ck : z2.cell? ⟨g7, j, none⟩ = some (.string S) := ((unhide X3).bel.cell (p := ⟨g7, j, none⟩) (unhide HCB).1).trans (unhide HCB).2
        clear h2 XT1
        go_wp2
        go_roundw
        case rel => exact ⟨k + 1, by omega, by go_num, unhide X3⟩
        case measure => simp [intOf]; omega
    · have hk' : ¬ (k : Int) < 16 := by omega
      have hk16' : k = 16 := by omega
      subst hk16'
      have X4 := hide (show TWr x8 (headL H) wo from by
        have := unhide XT
        rw [List.take_of_length_le (by rw [unhide HH16]; exact Nat.le_refl _)] at this
        rw [headL, if_neg (by rw [unhide HH16]; decide)]
        exact this)
      have HMK := hide (fun (W : World) => make_ok rep_ok 2 ((1 : Nat) : Int) (strOfNums (headL H)) (fits1j 2 (by decide) (by decide)) (fits4j _ (by decide) (by decide)) (by rw [strOfNums_size]; exact headL_len H (by rw [unhide HH16]; decide)) W)
      have HMC := hide (fun (W : World) => make_ok rep_ok 2 ((1 : Nat) : Int) ⟨#[0]⟩ (fits1j 2 (by decide) (by decide)) (fits4j _ (by decide) (by decide)) (by decide) W)
      obtain ⟨bd, hbd⟩ : ∃ bd, strOfNums (headL H) = bd := ⟨_, rfl⟩
      have hz0 : strOfNums (headL []) = ⟨#[0]⟩ := by rw [headL_nil]; rfl
      rw [hbd, headB_eq 1 H bd hbd] at HMK
      rw [headB_eq 1 [] ⟨#[0]⟩ hz0] at HMC
      have HBD := hide hbd
      have HH1 := hide (show M.getD 1 ByteArray.empty = headB 1 H from by rw [(unhide HMID).1, unhide HH])
      have HC1 := hide (unhide HMID).2.2.2.2.1
      have HCL := hide (unhide HMID).2.2.2.2.2
      obtain ⟨hd, hhd⟩ : ∃ x, headB 1 H = x := ⟨_, rfl⟩
      obtain ⟨hc, hhc⟩ : ∃ x, headB 1 [] = x := ⟨_, rfl⟩
      rw [hhd] at HMK HH1
      rw [hhc] at HMC HC1
      rw [show ((1 : Nat) : Int) = 1 from rfl] at HMK HMC
      clear hbd hz0 hhd hhc XT HNO HW8 HHF
      go_wp2_with fail
      refine ((unhide X4).done).mono ?_
      rintro e z1 ⟨rfl, hb1⟩
      rw [unhide HBD]
      have X5 := hide ((unhide X4).below hb1)
      clear hb1 X4
      go_wp2_with fail
      refine (unhide HMK _).mono ?_
      rintro e z2 ⟨rfl, hb2⟩
      have X6 := hide ((unhide X5).below hb2)
      have hD6 : Dk z2 x7.heap.size b8 v8 (rs (midL L0 1 l) []) := by rw [unhide HMQ]; exact (unhide HD8).1.below (unhide X6).bel
      have HD6 := hide hD6
      have HOP := hide (openM hD6 ((unhide HG).below ((unhide HB8).trans ((unhide X6).bel.mono (unhide HB8).size)) (unhide HG).lt) (Nat.le_trans (unhide HD8).2 (unhide X6).bel.size) L0_len (unhide HGD) (by decide))
      clear hb2 X5 HMK hD6
      go_wp2_with fail
      refine (unhide HOP).mono ?_
      rintro e z3 ⟨jb9, rfl, v9, A9, hD9, hO9⟩
      have HD9 := hide hD9
      have HB9 := hide (show Below w.heap.size w z3 from by
        have q := (unhide HB8).trans ((unhide X6).bel.mono (unhide HB8).size)
        refine q.trans (hO9.below q.size (fun k hk r => ?_))
        have := ((unhide HD6).fd k r).1
        have := (unhide HBW7)
        omega)
      have c71 : z3.cell? ⟨g7, 1, none⟩ = some (.string hd) := by
        obtain ⟨g', o', e', h1, h2⟩ := ((unhide HS8).below (unhide X6).bel) 1 (by rw [(unhide HMID).2.2.2.1]; decide)
        simp at e'
        obtain ⟨rfl, rfl⟩ := e'
        rw [unhide HH1, Nat.zero_add] at h2
        have q := hO9.2 g7 h1 (fun r => by have := ((unhide HD6).fd g7 r).1; have := (unhide HS7).2; omega)
        exact (World.cell?_of_block (a := ⟨g7, 1, none⟩) q).trans h2
      have HC71 := hide (And.intro c71 (World.block_lt_of_cell? z3 _ c71))
      clear hD9 hO9 HOP c71 HD6
      go_wp2_with fail
      refine (unhide HMC _).mono ?_
      rintro e z4 ⟨rfl, hb4⟩
      have HD4 := hide ((unhide HD9).below hb4)
      have HB4 := hide ((unhide HB9).trans (hb4.mono (unhide HB9).size))
      have HC4 := hide (And.intro ((hb4.cell (p := ⟨g7, 1, none⟩) (unhide HC71).2).trans (unhide HC71).1) (Nat.lt_of_lt_of_le (unhide HC71).2 hb4.size))
      clear hb4 HMC HD9 HB9 HC71
      have HIM := hide (image_any z4 _ b8 v9 _ (unhide HD4) (by show 0 < (comL L0 1 l).length; rw [unhide HCL]; decide) (by show (comL L0 1 l).length ≤ 1024; rw [unhide HCL]; decide))
      go_wp2_with fail
      refine (unhide HIM).mono ?_
      rintro e z5 ⟨v', rfl, hr, hb5⟩
      have hr' : z5.ownsRow z4.heap.size 9 1 v' (comL L0 1 l).length (strs (comL L0 1 l)) := hr
      obtain ⟨g9, cap9, rfl, -⟩ := hr'.form (by rw [unhide HCL]; decide)
      have c91 : z5.cell? ⟨g9, 1, none⟩ = some (.string hc) := by
        rw [(own_at hr' rfl 1 (by rw [unhide HCL]; decide)).1, strs_at _ _ (by rw [unhide HCL]; decide), unhide HC1]
      have c71 := (hb5.cell (p := ⟨g7, 1, none⟩) (unhide HC4).2).trans (unhide HC4).1
      have HB5 := hide ((unhide HB4).trans (hb5.mono (unhide HB4).size))
      rw [unhide HCL]
      clear hr hr' hb5 HIM HB4 HC4 HD4
      go_wp2
      go_ret
      exact ⟨rfl, unhide HB5⟩
end Go.Proofs.YtaepdekpdiofnaaGreatDoor

namespace Go.Proofs.YtaepdekpdiofnaaGreatDoor
open Go.RowKit
def SmI (w : World) (k : Nat) (u : Value) (wr : World) : Prop := ∃ K : List Int, wr.ownsRow w.heap.size 3 1 u K.length (K.map (Value.int .i64)) ∧ (∀ x ∈ K, 0 ≤ x ∧ x < (k : Int)) ∧ K.length ≤ k ∧ Below w.heap.size w wr
def SmPost (w : World) (n : Nat) (e : Ending) (w' : World) : Prop := ∃ p c K, e = .returned (.slice p K.length c) ∧ Ints w' p K ∧ (∀ x ∈ K, 0 ≤ x ∧ x < (n : Int)) ∧ K.length ≤ n ∧ Below w.heap.size w w'
theorem ints_own {w : World} {base : Nat} {p : Option Addr} {m c : Nat} {K : List Int} (h : w.ownsRow base 3 1 (.slice p m c) K.length (K.map (Value.int .i64))) : Ints w p K := fun j hj => by
  obtain ⟨g, cap, ev, _⟩ := h.form (by omega)
  simp at ev
  obtain ⟨rfl, _⟩ := ev
  refine ⟨g, 0, rfl, (h.lt g rfl).2, ?_⟩
  rw [Nat.zero_add, (own_at h rfl j (by simpa using hj)).1]
  simp [List.getD_eq_getElem?_getD, hj]
set_option maxRecDepth 100000 in
set_option maxHeartbeats 2000000 in
theorem some_any (z : Int) (n : Nat) (hn : n ≤ 1000) (w : World) : Calls Tryz.prog 28 #[.int .i64 z, .int .i64 (n : Int)] w (SmPost w n) := by
  obtain ⟨i0, hi, hz0, hz1, hz2⟩ := info_parts infoI3
  have HI := hide (And.intro hi (And.intro hz0 (And.intro hz1 hz2)))
  clear hi hz0 hz1 hz2
  go_enter Tryz.func28, Tryz.ntmps28
  go_wp2
  go_loopw [5, 6] (fun u i wr => ∃ k : Nat, k ≤ n ∧ i = .int .i64 (k : Int) ∧ SmI w k u wr) (fun _ i _ => n - (intOf i).toNat)
  case atStart => exact ⟨0, by omega, rfl, [], World.ownsRow_nil _ _ _ _, fun x hx => (by cases hx), by simp, Below.refl _ _⟩
  case round =>
    obtain ⟨k, hk, rfl, K, hR, hK, hKl, hB⟩ := hrel
    obtain ⟨wo, rfl⟩ : ∃ wo, wo = wr := ⟨_, rfl⟩
    obtain ⟨pv, cv, rfl, hcv⟩ := row_form hR
    have HR := hide hR
    have HK := hide hK
    have HB := hide hB
    obtain ⟨m, hm⟩ : ∃ m, K.length = m := ⟨_, rfl⟩
    rw [hm] at hKl ⊢
    have HM := hide hm
    clear hR hK hB hm hcv
    by_cases hkn : k < n
    · have hkn' : (k : Int) < (n : Int) := by omega
      by_cases hbit : (bits BinOp.and IntKind.i64 (z / 2 ^ (k % 62)) 1 == 1) = true
      · have HRA := hide (show (wo.alloc (.cells #[.int .i64 (k : Int)] 3)).ownsRow w.heap.size 3 1 (.slice pv m cv) m (K.map (Value.int .i64)) from by have := owns_only (unhide HR) (Only.of_below (P := fun _ => False) ((Below.refl _ wo).alloc (Nat.le_refl _) (.cells #[.int .i64 (k : Int)] 3))) (fun _ _ q => q); rw [unhide HM] at this; exact this)
        have HXB := hide ((unhide HB).alloc (unhide HB).size (.cells #[.int .i64 (k : Int)] 3))
        go_wp2_with (refine wpList_append_own _ rfl (.tmp 18) (.tmp 20) 70 rfl w.heap.size 3 i0 (.int .i64 0) 1 8 Tryz.underlying70 (unhide HI).1 (unhide HI).2.1 (unhide HI).2.2.1 (unhide HI).2.2.2 rfl (by decide) _ m (K.map (Value.int .i64)) rfl (unhide HRA) ⟨wo.heap.size, 0, none⟩ 1 1 [.int .i64 (k : Int)] rfl rfl (fun q u hu => news_one wo 3 _ q u hu) (by simp [Value.oneCell']) (by unfold maxLen; omega) (by omega) (unhide HXB).size ?_)
        intro v5 x5 ho5 hg5 _
        have HRR := hide (show SmI w (k + 1) v5 x5 from by
          refine ⟨K ++ [(k : Int)], ?_, fun x hx => ?_, ?_, (unhide HXB).grown hg5 (unhide HXB).size (fun q hq => ((unhide HRA).lt q hq).1)⟩
          · simpa [unhide HM] using ho5
          · rcases List.mem_append.1 hx with q | q
            · have := unhide HK x q; omega
            · simp at q; omega
          · simp [unhide HM]; omega)
        clear ho5 hg5 HRA HXB
        go_wp2
        go_roundw
        case rel => exact ⟨k + 1, by omega, by go_num, unhide HRR⟩
        case measure => simp [intOf]; omega
      · have hbit' : (bits BinOp.and IntKind.i64 (z / 2 ^ (k % 62)) 1 == 1) = false := by simpa using hbit
        clear hbit
        have HRR := hide (show SmI w (k + 1) (.slice pv m cv) wo from ⟨K, by have := unhide HR; rw [unhide HM] at this ⊢; exact this, fun x hx => by have := unhide HK x hx; omega, by rw [unhide HM]; omega, unhide HB⟩)
        go_wp2
        go_roundw
        case rel => exact ⟨k + 1, by omega, by go_num, unhide HRR⟩
        case measure => simp [intOf]; omega
    · have hkn' : ¬ (k : Int) < (n : Int) := by omega
      have hkn2 : k = n := by omega
      subst hkn2
      have HE := hide (show SmPost w k (.returned (.slice pv m cv)) wo from ⟨pv, cv, K, by rw [unhide HM], ints_own (unhide HR), unhide HK, by rw [unhide HM]; exact hKl, unhide HB⟩)
      clear HR HK HB HM
      go_wp2
      go_ret
      exact unhide HE
end Go.Proofs.YtaepdekpdiofnaaGreatDoor
