import Derived.Test.YtkileaocgecckabDoorQlf
import Derived.Test.YtkileaocgecckabDoorQrg
import Derived.Test.YtkileaocgecckabDoorQlk
import Derived.Test.YtkileaocgecckabDoorQmh
namespace Go.Proofs.YtkileaocgecckabDoor
open Go.RowKit
set_option maxRecDepth 100000
theorem own_cc {w : World} {B n c : Nat} {p : Option Addr} {xs : List Value} (h : w.ownsRow B 9 1 (.slice p n c) n xs) : n ≤ c ∧ c ≤ 9223372036854775807 := by
  rcases h.2 with ⟨e1, e2⟩ | ⟨g2, cap2, cur2, e1, _, _, hn2, hc2, _⟩
  · injection e1 with _ _ e3
    omega
  · injection e1 with _ _ e3
    subst e3
    exact ⟨hn2, hc2⟩
theorem own_same {w w' : World} {g B n : Nat} {v : Value} {xs : List Value} (h : w.ownsRow B 9 1 v n xs) (hk : ∀ k, k ≠ g → w'.heap[k]? = w.heap[k]?) (hB : g + 1 ≤ B) : w'.ownsRow B 9 1 v n xs := by
  refine ⟨h.1, ?_⟩
  rcases h.2 with hn | ⟨g', cap, cur, rfl, hb, hg, rest⟩
  · exact .inl hn
  · exact .inr ⟨g', cap, cur, rfl, hb, (hk g' (by omega)).trans hg, rest⟩
theorem paL_len (l : List ByteArray) (i : Int) : (paL l i).length ≤ l.length := by
  unfold paL
  split
  · exact pt_len _ l rfl _
  · simp
theorem ck_pt (l : List ByteArray) (q i : Nat) (hq : l.length = q) (hi : i < q) : ckE (rt l) (q : Int) (i : Int) (l.getD i ⟨#[]⟩) (pt l i) = if q ≤ 4096 then 0 else 190 := by
  unfold ckE
  rw [if_pos (rt_size _)]
  by_cases h : q ≤ 4096
  · rw [if_pos h, if_pos (by omega), Int.toNat_natCast, Int.toNat_natCast]
    obtain ⟨T, h1, _, h3⟩ := up_pt _ l rfl i (by omega)
    rw [hq] at h1
    rw [h1]
    exact if_pos h3
  · rw [if_neg h, if_neg (by omega)]
set_option maxHeartbeats 16000000 in
theorem paths19 (l0 : List ByteArray) (q0 : Nat) (hq0 : l0.length = q0) (i : Int) (hi9 : I64 i) (w : World) (c : Nat) (p : Option Addr) (hS0 : SB w w.heap.size p l0) (hz0 : ∀ j, j < l0.length → (l0.getD j ⟨#[]⟩).size ≤ 140737488351232) (hK : KTab w) (hqc0 : q0 ≤ c) (hc9 : c ≤ 9223372036854775807) (hpn : p = none → c = 0) : Calls Tryd.prog 4 #[.slice p q0 c, .int .i64 i] w fun e w' => e = .returned (.bool true) ∧ Below w.heap.size w w' := by
  obtain ⟨h, hh⟩ : ∃ h, w.heap.size = h := ⟨_, rfl⟩
  rw [hh] at hS0
  have HKB := hide (show ∀ W, Below h w W → KTab W from fun W hW => hK.below hW (by rw [← hh]; exact hK.1))
  have HSO := hide (fun W (hW : Below h w W) => some19 W l0 q0 c h 5000 p hq0 (hS0.below hW) hqc0)
  obtain ⟨l, hl⟩ : ∃ z, l0.take 5000 = z := ⟨_, rfl⟩
  obtain ⟨q, hq⟩ : ∃ z, min q0 5000 = z := ⟨_, rfl⟩
  have hlq : l.length = q := by rw [← hl, ← hq, List.length_take, hq0, Nat.min_comm]
  have hz : ∀ j, j < l.length → (l.getD j ⟨#[]⟩).size ≤ 140737488351232 := fun j hj => by
    rw [← hl, List.length_take] at hj
    rw [← hl, getD_take l0 5000 j (by omega)]
    exact hz0 j (by omega)
  have hS : SB w h p l := fun j hj => by
    rw [← hl, List.length_take] at hj
    obtain ⟨g, o, e, hg, hc⟩ := hS0 j (by omega)
    exact ⟨g, o, e, hg, by rw [← hl, getD_take l0 5000 j (by omega)]; exact hc⟩
  rw [hq] at HSO
  have hq5 : q ≤ 5000 := by omega
  have hqc : q ≤ c := by omega
  have hsh : Sht l := fun j hj => by have := hz j hj; omega
  have hsh2 := unL_sht hz
  have hu := unL_len l
  rw [hlq] at hu
  have HSB := hide (show ∀ W, Below h w W → SB W h p l from fun W hW => hS.below hW)
  have HAW := hide (fun W (hW : Below h w W) => awake19 W (unhide HKB W hW))
  have HLE := hide (fun W (hW : Below h w W) => lent19 W l q c p hlq ((unhide HSB W hW).mono (by have := hW.size; omega)) (by omega) hpn)
  have HPO := hide (fun W g (hW : Below h w W) (hL : LnK W g l q (q + 8)) (hg : g < W.heap.size) => path_any l q hlq i W (g + 1) (q + 8) (some ⟨g, 0, none⟩) (hL.SB hlq) (by omega) (unhide HKB W hW) hsh (by omega) (by omega) (by omega))
  have HPR := hide (fun W (hW : Below h w W) => rPath_any l q hlq i W h c p (unhide HSB W hW) (by have := hW.size; omega) hsh (by omega) hqc hc9)
  have HPL := hide (fun W (hW : Below h w W) => path_any l q hlq i W h c p (unhide HSB W hW) (by have := hW.size; omega) (unhide HKB W hW) hsh (by omega) hqc hc9)
  have HPD := hide (fun W (hW : Below h w W) => path_any l q hlq ((q : Int) - 1 - i) W h c p (unhide HSB W hW) (by have := hW.size; omega) (unhide HKB W hW) hsh (by omega) hqc hc9)
  have HRD := hide (fun W (hW : Below h w W) => rPath_any l q hlq ((q : Int) - 1 - i) W h c p (unhide HSB W hW) (by have := hW.size; omega) hsh (by omega) hqc hc9)
  have HKE := hide (fun W g (hW : Below h w W) (hL : LnK W g l q (q + 8)) => kept19 W l g q c p h hlq hL (unhide HSB W hW) (by omega))
  have HUN := hide (fun W (hW : Below h w W) => unlike19 W l q c h p hlq (unhide HSB W hW) (by have := hW.size; omega) hz (by omega))
  have HOC := hide (fun y g c2 base p2 hL ho => over_copy y g l (unL l) q c2 base p2 hu hL ho)
  have HPX := hide (fun W g (hW : Below h w W) (hL : SB W (g + 1) (some ⟨g, 0, none⟩) (unL l)) (hg : g < W.heap.size) => path_any (unL l) q hu i W (g + 1) (q + 8) (some ⟨g, 0, none⟩) hL (by omega) (unhide HKB W hW) hsh2 (by omega) (by omega) (by omega))
  have HPU := hide (fun W c2 p2 base (hW : W.ownsRow base 9 1 (.slice p2 q c2) q ((unL l).map Value.string)) (hcc : q ≤ c2 ∧ c2 ≤ 9223372036854775807) => rPath_any (unL l) q hu i W W.heap.size c2 p2 (own_SB hu hW) (Nat.le_refl _) hsh2 (by omega) hcc.1 hcc.2)
  have HRO := hide (fun W (hW : Below h w W) => root_any l q hlq W h c p (unhide HSB W hW) (by have := hW.size; omega) (unhide HKB W hW) hsh (by omega) hqc hc9)
  have HSM := hide (fun (W : World) (L : List ByteArray) (n : Nat) p1 c1 p2 c2 (hL : L.length = n) (hn : n ≤ 5000) base1 base2 (h1 : W.ownsRow base1 9 1 (.slice p1 n c1) n (L.map Value.string)) (h2 : W.ownsRow base2 9 1 (.slice p2 n c2) n (L.map Value.string)) => same19 W L n W.heap.size W.heap.size c1 c2 p1 p2 hL (own_SB hL h1) (own_SB hL h2) (by omega))
  have HLA := paL_len l i
  have HLU := paL_len (unL l) i
  have HLD := paL_len l ((q : Int) - 1 - i)
  rw [hlq] at HLA HLD
  rw [hu] at HLU
  have HUL := hide hu
  have HB0 := hide (show Below h w w from Below.refl _ _)
  have e8 : (q : Int) ≤ (q : Int) + 8 := by omega
  by_cases hin : 0 ≤ i ∧ i < (q : Int)
  · have hE1 : paE q i = 0 := if_pos hin
    have hE2 : paE q ((q : Int) - 1 - i) = 0 := if_pos (by omega)
    have hA0 : paL l i = pt l i.toNat := if_pos (by rw [hlq]; exact hin)
    obtain ⟨i', hi'⟩ : ∃ k : Nat, i = (k : Int) := ⟨i.toNat, by omega⟩
    subst hi'
    rw [Int.toNat_natCast] at hA0
    have hck := ck_pt l q i' hlq (by omega)
    rw [hE1] at HPO HPR HPL HPX HPU
    rw [hE2] at HPD HRD
    obtain ⟨gp, op, rfl, hgp, _⟩ := hS i' (by omega)
    have hxs := hz i' (by omega)
    have HCI := hide (show ∀ W, Below h w W → W.cell? ⟨gp, op + i', none⟩ = some (.string (l.getD i' ⟨#[]⟩)) from fun W hW => by
      obtain ⟨g2, o2, e, _, hc2⟩ := unhide HSB W hW i' (by omega)
      injection e with e
      injection e with e1 e2
      subst e1 e2
      exact hc2)
    have HCK := hide (fun W pa ca base (ho : W.ownsRow base 9 1 (.slice pa (pt l i').length ca) (pt l i').length ((pt l i').map Value.string)) (hcc : (pt l i').length ≤ ca ∧ ca ≤ 9223372036854775807) (hW : Below h w W) => check_any (rt l) (q : Int) (i' : Int) (l.getD i' ⟨#[]⟩) (by omega) (pt l i') _ rfl W W.heap.size ca pa (own_SB rfl ho) (Nat.le_refl _) (unhide HKB W hW) hcc.1 hcc.2)
    obtain ⟨ck, hckk⟩ : ∃ z, ckE (rt l) (q : Int) (i' : Int) (l.getD i' ⟨#[]⟩) (pt l i') = z := ⟨_, rfl⟩
    rw [hckk] at HCK hck
    have HBIG := hide (show 4096 < q → ck = 190 from fun e => by rw [hck, if_neg (by omega)])
    have HSML := hide (show ¬ 4096 < q → ck = 0 from fun e => by rw [hck, if_pos (by omega)])
    rw [← hA0] at HCK
    obtain ⟨i2, hi2⟩ : ∃ k : Nat, (q : Int) - 1 - (i' : Int) = (k : Int) := ⟨((q : Int) - 1 - (i' : Int)).toNat, by omega⟩
    rw [hi2] at HPD HRD HLD
    have f1 : IntKind.i64.wrap ((q : Int) - 1) = (q : Int) - 1 := wrapI_eq _ (by omega) (by omega)
    have f2 : IntKind.i64.wrap ((i2 : Nat) : Int) = (i2 : Int) := wrapI_eq _ (by omega) (by omega)
    have f3 : (i' : Int) < (q : Int) := by omega
    obtain ⟨A, hA⟩ : ∃ z, paL l (i' : Int) = z := ⟨_, rfl⟩
    obtain ⟨U, hU⟩ : ∃ z, paL (unL l) (i' : Int) = z := ⟨_, rfl⟩
    obtain ⟨D, hD⟩ : ∃ z, paL l (i2 : Int) = z := ⟨_, rfl⟩
    obtain ⟨nA, hnA⟩ : ∃ z, A.length = z := ⟨_, rfl⟩
    obtain ⟨nU, hnU⟩ : ∃ z, U.length = z := ⟨_, rfl⟩
    obtain ⟨nD, hnD⟩ : ∃ z, D.length = z := ⟨_, rfl⟩
    rw [hA] at HPO HPR HPL HCK HLA
    rw [hU] at HPX HPU HLU
    rw [hD] at HPD HRD HLD
    rw [hnA] at HCK HLA
    rw [hnU] at HLU
    rw [hnD] at HLD
    have HNA := hide hnA
    have HNU := hide hnU
    have HND := hide hnD
    have HZA := hide (show nA ≤ 5000 by omega)
    have HZU := hide (show nU ≤ 5000 by omega)
    have HZD := hide (show nD ≤ 5000 by omega)
    have HST1 := hide (fun (W : World) v B (ho : W.ownsRow B 9 1 v (nA + 22) (List.replicate (nA + 22) (.string ⟨#[111, 110, 101]⟩))) => still19 W v B (nA + 22) ⟨#[111, 110, 101]⟩ ho (by omega))
    have HST2 := hide (fun (W : World) v B (ho : W.ownsRow B 9 1 v (nA + 22) (List.replicate (nA + 22) (.string ⟨#[116, 119, 111]⟩))) => still19 W v B (nA + 22) ⟨#[116, 119, 111]⟩ ho (by omega))
    have HOVA := hide (fun (W : World) pa ca {g : Nat} (hgW : g + 1 ≤ W.heap.size) (ho : W.ownsRow (g + 1) 9 1 (.slice pa nA ca) nA (A.map Value.string)) => over19 W (.slice pa nA ca) (g + 1) nA _ ⟨#[111, 110, 101]⟩ (by omega) hgW ho)
    have HOVC := hide (fun (W : World) pa ca {g : Nat} (hgW : g + 1 ≤ W.heap.size) (ho : W.ownsRow (g + 1) 9 1 (.slice pa nA ca) nA (A.map Value.string)) => over19 W (.slice pa nA ca) (g + 1) nA _ ⟨#[116, 119, 111]⟩ (by omega) hgW ho)
    generalize rt l = rr at *
    generalize l.getD i' ⟨#[]⟩ = li at *
    generalize unL l = ul at *
    have HI2 := hide hi2
    rw [hh]
    clear hS0 hS hK hz hz0 hsh hsh2 hl hq hlq hq0 hu hqc0 hpn hA hU hD hnA hnU hnD hA0 hck hckk hE1 hE2 hin HLA HLU HLD hxs hi9
    go_enter Tryd.func4, Tryd.ntmps4
    go_wp2_with fail
    refine (unhide HAW _ (unhide HB0)).mono ?_
    rintro e y1 ⟨rfl, hb⟩
    have HB1 := hide (show Below h w y1 from (unhide HB0).trans (hb.mono (by have := (unhide HB0).size; omega)))
    clear hb HB0
    go_wp2_with fail
    refine (unhide HSO _ (unhide HB1)).mono ?_
    rintro e y ⟨rfl, hy⟩
    subst y
    go_wp2_with fail
    refine (unhide HLE _ (unhide HB1)).mono ?_
    rintro e y2 ⟨rfl, HL, hb⟩
    have HB2 := hide (show Below h w y2 from (unhide HB1).trans (hb.mono (by have := (unhide HB1).size; omega)))
    obtain ⟨g, hg⟩ : ∃ z, y1.heap.size = z := ⟨_, rfl⟩
    have hgh : h ≤ g := by have := (unhide HB1).size; omega
    rw [hg] at HL
    have hgs : g < y2.heap.size := by
      obtain ⟨cur, hB, _⟩ := unhide HL
      exact hB.lt
    clear hb HB1
    go_wp2_with fail
    refine (unhide HPO _ g (unhide HB2) (unhide HL) hgs).mono ?_
    rintro e y3 ⟨v0, rfl, ho, hb⟩
    rw [unhide HNA] at ho
    obtain ⟨pa, ca, rfl, _⟩ := gr_form ho
    have HOan := hide (own_bel (ho.mono (show g + 1 ≤ y2.heap.size by omega)) (Below.refl _ _))
    have HB3 := hide (show Below h w y3 from (unhide HB2).trans (hb.mono (by have := (unhide HB2).size; omega)))
    replace HL := hide ((unhide HL).below (hb.mono (by omega)))
    replace hgs : g < y3.heap.size := by have := hb.size; omega
    clear ho hb HB2
    have HOa := HOan
    clear HOan
    go_wp2_with fail
    refine (unhide HPR _ (unhide HB3)).mono ?_
    rintro e y4 ⟨v0, rfl, ho, hb⟩
    rw [unhide HNA] at ho
    obtain ⟨pb, cb, rfl, _⟩ := gr_form ho
    have hneab : ∀ k, (Value.slice pa nA ca).ownBlock = some k → (Value.slice pb nA cb).ownBlock ≠ some k := fun k h1 h2 => by have := ((unhide HOa).lt k h1).2; have := (ho.lt k h2).1; omega
    have HObn := hide (own_bel (ho.mono (show g + 1 ≤ y3.heap.size by omega)) (Below.refl _ _))
    have HB4 := hide (show Below h w y4 from (unhide HB3).trans (hb.mono (by have := (unhide HB3).size; omega)))
    replace HOa := hide (own_bel (unhide HOa) hb)
    replace HL := hide ((unhide HL).below (hb.mono (by omega)))
    replace hgs : g < y4.heap.size := by have := hb.size; omega
    clear ho hb HB3
    have HOb := HObn
    clear HObn
    go_wp2_with fail
    refine (unhide HKE _ g (unhide HB4) (unhide HL)).mono ?_
    rintro e y5 ⟨rfl, hb⟩
    have HB5 := hide (show Below h w y5 from (unhide HB4).trans (hb.mono (by have := (unhide HB4).size; omega)))
    replace HOa := hide (own_bel (unhide HOa) hb)
    replace HOb := hide (own_bel (unhide HOb) hb)
    replace HL := hide ((unhide HL).below (hb.mono (by omega)))
    replace hgs : g < y5.heap.size := by have := hb.size; omega
    clear hb HB4
    go_wp2_with fail
    refine (unhide HUN _ (unhide HB5)).mono ?_
    rintro e y6 ⟨v0, rfl, ho, hb⟩
    rw [unhide HUL] at ho
    obtain ⟨pz, cz, rfl, _⟩ := gr_form ho
    have HB6 := hide (show Below h w y6 from (unhide HB5).trans (hb.mono (by have := (unhide HB5).size; omega)))
    replace HOa := hide (own_bel (unhide HOa) hb)
    replace HOb := hide (own_bel (unhide HOb) hb)
    replace HL := hide ((unhide HL).below (hb.mono (by omega)))
    replace hgs : g < y6.heap.size := by have := hb.size; omega
    have HQ3 := hide (unhide HPU y6 cz pz _ ho (own_cc ho))
    clear ho hb HB5
    go_wp2_with fail
    refine (unhide HQ3).mono ?_
    rintro e y7 ⟨v0, rfl, ho, hb⟩
    rw [unhide HNU] at ho
    obtain ⟨pv, cv, rfl, _⟩ := gr_form ho
    have hneav : ∀ k, (Value.slice pa nA ca).ownBlock = some k → (Value.slice pv nU cv).ownBlock ≠ some k := fun k h1 h2 => by have := ((unhide HOa).lt k h1).2; have := (ho.lt k h2).1; omega
    have hnebv : ∀ k, (Value.slice pb nA cb).ownBlock = some k → (Value.slice pv nU cv).ownBlock ≠ some k := fun k h1 h2 => by have := ((unhide HOb).lt k h1).2; have := (ho.lt k h2).1; omega
    have HOvn := hide (own_bel (ho.mono (show g + 1 ≤ y6.heap.size by omega)) (Below.refl _ _))
    have HB7 := hide (show Below h w y7 from (unhide HB6).trans (hb.mono (by have := (unhide HB6).size; omega)))
    replace HOa := hide (own_bel (unhide HOa) hb)
    replace HOb := hide (own_bel (unhide HOb) hb)
    replace HL := hide ((unhide HL).below (hb.mono (by omega)))
    replace hgs : g < y7.heap.size := by have := hb.size; omega
    clear ho hb HB6 HQ3
    have HOv := HOvn
    clear HOvn
    go_wp2_with fail
    refine (unhide HUN _ (unhide HB7)).mono ?_
    rintro e y8 ⟨v0, rfl, ho, hb⟩
    rw [unhide HUL] at ho
    obtain ⟨pw, cw, rfl, _⟩ := gr_form ho
    have HB8 := hide (show Below h w y8 from (unhide HB7).trans (hb.mono (by have := (unhide HB7).size; omega)))
    replace HOa := hide (own_bel (unhide HOa) hb)
    replace HOb := hide (own_bel (unhide HOb) hb)
    replace HOv := hide (own_bel (unhide HOv) hb)
    replace HL := hide ((unhide HL).below (hb.mono (by omega)))
    obtain ⟨x8, hcp, hsb, hbe, hke⟩ := unhide HOC y8 g cw _ pw (unhide HL) ho
    have HB9 := hide (hbe h w hgh (unhide HB8))
    have HSX := hide hsb
    have hgs8 : g < x8.heap.size := by
      have q1 := hb.size
      have q2 := (hbe g y8 (Nat.le_refl _) (Below.refl _ _)).size
      omega
    replace HOa := hide (own_same (unhide HOa) hke (Nat.le_refl _))
    replace HOb := hide (own_same (unhide HOb) hke (Nat.le_refl _))
    replace HOv := hide (own_same (unhide HOv) hke (Nat.le_refl _))
    clear ho hb hsb hbe hke HB7 HB8 HL hgs
    have hgs := hgs8
    clear hgs8
    go_wp2_with fail
    refine (unhide HPX _ g (unhide HB9) (unhide HSX) hgs).mono ?_
    rintro e y10 ⟨v0, rfl, ho, hb⟩
    rw [unhide HNU] at ho
    obtain ⟨pu, cu, rfl, _⟩ := gr_form ho
    have hneau : ∀ k, (Value.slice pa nA ca).ownBlock = some k → (Value.slice pu nU cu).ownBlock ≠ some k := fun k h1 h2 => by have := ((unhide HOa).lt k h1).2; have := (ho.lt k h2).1; omega
    have hnebu : ∀ k, (Value.slice pb nA cb).ownBlock = some k → (Value.slice pu nU cu).ownBlock ≠ some k := fun k h1 h2 => by have := ((unhide HOb).lt k h1).2; have := (ho.lt k h2).1; omega
    have hnevu : ∀ k, (Value.slice pv nU cv).ownBlock = some k → (Value.slice pu nU cu).ownBlock ≠ some k := fun k h1 h2 => by have := ((unhide HOv).lt k h1).2; have := (ho.lt k h2).1; omega
    have HOun := hide (own_bel (ho.mono (show g + 1 ≤ x8.heap.size by omega)) (Below.refl _ _))
    have HB10 := hide (show Below h w y10 from (unhide HB9).trans (hb.mono (by have := (unhide HB9).size; omega)))
    replace HOa := hide (own_bel (unhide HOa) hb)
    replace HOb := hide (own_bel (unhide HOb) hb)
    replace HOv := hide (own_bel (unhide HOv) hb)
    replace hgs : g < y10.heap.size := by have := hb.size; omega
    clear ho hb HB9 HSX hcp
    have HOu := HOun
    clear HOun
    go_wp2_with fail
    refine (unhide HSM _ A nA pa ca pb cb (unhide HNA) (unhide HZA) _ _ (unhide HOa) (unhide HOb)).mono ?_
    rintro e y11 ⟨rfl, hb⟩
    have HB11 := hide (show Below h w y11 from (unhide HB10).trans (hb.mono (by have := (unhide HB10).size; omega)))
    replace HOa := hide (own_bel (unhide HOa) hb)
    replace HOb := hide (own_bel (unhide HOb) hb)
    replace HOv := hide (own_bel (unhide HOv) hb)
    replace HOu := hide (own_bel (unhide HOu) hb)
    replace hgs : g < y11.heap.size := by have := hb.size; omega
    clear hb HB10
    go_wp2_with fail
    refine (unhide HRO _ (unhide HB11)).mono ?_
    rintro e y12 ⟨rfl, hb⟩
    have HB12 := hide (show Below h w y12 from (unhide HB11).trans (hb.mono (by have := (unhide HB11).size; omega)))
    replace HOa := hide (own_bel (unhide HOa) hb)
    replace HOb := hide (own_bel (unhide HOb) hb)
    replace HOv := hide (own_bel (unhide HOv) hb)
    replace HOu := hide (own_bel (unhide HOu) hb)
    replace hgs : g < y12.heap.size := by have := hb.size; omega
    clear hb HB11
    have hci := unhide HCI y12 (unhide HB12)
    go_wp2_with fail
    refine (unhide HCK _ pa ca _ (unhide HOa) (own_cc (unhide HOa)) (unhide HB12)).mono ?_
    rintro e y13 ⟨rfl, hb⟩
    have HB13 := hide (show Below h w y13 from (unhide HB12).trans (hb.mono (by have := (unhide HB12).size; omega)))
    replace HOa := hide (own_bel (unhide HOa) hb)
    replace HOb := hide (own_bel (unhide HOb) hb)
    replace HOv := hide (own_bel (unhide HOv) hb)
    replace HOu := hide (own_bel (unhide HOu) hb)
    replace hgs : g < y13.heap.size := by have := hb.size; omega
    clear hb HB12
    clear hci
    go_wp2_with fail
    refine (unhide HPL _ (unhide HB13)).mono ?_
    rintro e y14 ⟨v0, rfl, ho, hb⟩
    rw [unhide HNA] at ho
    obtain ⟨pc, cc, rfl, _⟩ := gr_form ho
    have hneac : ∀ k, (Value.slice pa nA ca).ownBlock = some k → (Value.slice pc nA cc).ownBlock ≠ some k := fun k h1 h2 => by have := ((unhide HOa).lt k h1).2; have := (ho.lt k h2).1; omega
    have hnebc : ∀ k, (Value.slice pb nA cb).ownBlock = some k → (Value.slice pc nA cc).ownBlock ≠ some k := fun k h1 h2 => by have := ((unhide HOb).lt k h1).2; have := (ho.lt k h2).1; omega
    have hnevc : ∀ k, (Value.slice pv nU cv).ownBlock = some k → (Value.slice pc nA cc).ownBlock ≠ some k := fun k h1 h2 => by have := ((unhide HOv).lt k h1).2; have := (ho.lt k h2).1; omega
    have hneuc : ∀ k, (Value.slice pu nU cu).ownBlock = some k → (Value.slice pc nA cc).ownBlock ≠ some k := fun k h1 h2 => by have := ((unhide HOu).lt k h1).2; have := (ho.lt k h2).1; omega
    have HOcn := hide (own_bel (ho.mono (show g + 1 ≤ y13.heap.size by omega)) (Below.refl _ _))
    have HB14 := hide (show Below h w y14 from (unhide HB13).trans (hb.mono (by have := (unhide HB13).size; omega)))
    replace HOa := hide (own_bel (unhide HOa) hb)
    replace HOb := hide (own_bel (unhide HOb) hb)
    replace HOv := hide (own_bel (unhide HOv) hb)
    replace HOu := hide (own_bel (unhide HOu) hb)
    replace hgs : g < y14.heap.size := by have := hb.size; omega
    clear ho hb HB13
    have HOc := HOcn
    clear HOcn
    go_wp2_with fail
    refine (unhide HPD _ (unhide HB14)).mono ?_
    rintro e y15 ⟨v0, rfl, ho, hb⟩
    rw [unhide HND] at ho
    obtain ⟨pd, cd, rfl, _⟩ := gr_form ho
    have hnead : ∀ k, (Value.slice pa nA ca).ownBlock = some k → (Value.slice pd nD cd).ownBlock ≠ some k := fun k h1 h2 => by have := ((unhide HOa).lt k h1).2; have := (ho.lt k h2).1; omega
    have hnebd : ∀ k, (Value.slice pb nA cb).ownBlock = some k → (Value.slice pd nD cd).ownBlock ≠ some k := fun k h1 h2 => by have := ((unhide HOb).lt k h1).2; have := (ho.lt k h2).1; omega
    have hnevd : ∀ k, (Value.slice pv nU cv).ownBlock = some k → (Value.slice pd nD cd).ownBlock ≠ some k := fun k h1 h2 => by have := ((unhide HOv).lt k h1).2; have := (ho.lt k h2).1; omega
    have hneud : ∀ k, (Value.slice pu nU cu).ownBlock = some k → (Value.slice pd nD cd).ownBlock ≠ some k := fun k h1 h2 => by have := ((unhide HOu).lt k h1).2; have := (ho.lt k h2).1; omega
    have hnecd : ∀ k, (Value.slice pc nA cc).ownBlock = some k → (Value.slice pd nD cd).ownBlock ≠ some k := fun k h1 h2 => by have := ((unhide HOc).lt k h1).2; have := (ho.lt k h2).1; omega
    have HOdn := hide (own_bel (ho.mono (show g + 1 ≤ y14.heap.size by omega)) (Below.refl _ _))
    have HB15 := hide (show Below h w y15 from (unhide HB14).trans (hb.mono (by have := (unhide HB14).size; omega)))
    replace HOa := hide (own_bel (unhide HOa) hb)
    replace HOb := hide (own_bel (unhide HOb) hb)
    replace HOv := hide (own_bel (unhide HOv) hb)
    replace HOu := hide (own_bel (unhide HOu) hb)
    replace HOc := hide (own_bel (unhide HOc) hb)
    replace hgs : g < y15.heap.size := by have := hb.size; omega
    clear ho hb HB14
    have HOd := HOdn
    clear HOdn
    go_wp2_with fail
    refine (unhide HRD _ (unhide HB15)).mono ?_
    rintro e y16 ⟨v0, rfl, ho, hb⟩
    rw [unhide HND] at ho
    obtain ⟨px, cx, rfl, _⟩ := gr_form ho
    have hneax : ∀ k, (Value.slice pa nA ca).ownBlock = some k → (Value.slice px nD cx).ownBlock ≠ some k := fun k h1 h2 => by have := ((unhide HOa).lt k h1).2; have := (ho.lt k h2).1; omega
    have hnebx : ∀ k, (Value.slice pb nA cb).ownBlock = some k → (Value.slice px nD cx).ownBlock ≠ some k := fun k h1 h2 => by have := ((unhide HOb).lt k h1).2; have := (ho.lt k h2).1; omega
    have hnevx : ∀ k, (Value.slice pv nU cv).ownBlock = some k → (Value.slice px nD cx).ownBlock ≠ some k := fun k h1 h2 => by have := ((unhide HOv).lt k h1).2; have := (ho.lt k h2).1; omega
    have hneux : ∀ k, (Value.slice pu nU cu).ownBlock = some k → (Value.slice px nD cx).ownBlock ≠ some k := fun k h1 h2 => by have := ((unhide HOu).lt k h1).2; have := (ho.lt k h2).1; omega
    have hnecx : ∀ k, (Value.slice pc nA cc).ownBlock = some k → (Value.slice px nD cx).ownBlock ≠ some k := fun k h1 h2 => by have := ((unhide HOc).lt k h1).2; have := (ho.lt k h2).1; omega
    have hnedx : ∀ k, (Value.slice pd nD cd).ownBlock = some k → (Value.slice px nD cx).ownBlock ≠ some k := fun k h1 h2 => by have := ((unhide HOd).lt k h1).2; have := (ho.lt k h2).1; omega
    have HOxn := hide (own_bel (ho.mono (show g + 1 ≤ y15.heap.size by omega)) (Below.refl _ _))
    have HB16 := hide (show Below h w y16 from (unhide HB15).trans (hb.mono (by have := (unhide HB15).size; omega)))
    replace HOa := hide (own_bel (unhide HOa) hb)
    replace HOb := hide (own_bel (unhide HOb) hb)
    replace HOv := hide (own_bel (unhide HOv) hb)
    replace HOu := hide (own_bel (unhide HOu) hb)
    replace HOc := hide (own_bel (unhide HOc) hb)
    replace HOd := hide (own_bel (unhide HOd) hb)
    replace hgs : g < y16.heap.size := by have := hb.size; omega
    clear ho hb HB15
    have HOx := HOxn
    clear HOxn
    go_wp2_with fail
    refine (unhide HSM _ D nD pd cd px cx (unhide HND) (unhide HZD) _ _ (unhide HOd) (unhide HOx)).mono ?_
    rintro e y17 ⟨rfl, hb⟩
    have HB17 := hide (show Below h w y17 from (unhide HB16).trans (hb.mono (by have := (unhide HB16).size; omega)))
    replace HOa := hide (own_bel (unhide HOa) hb)
    replace HOb := hide (own_bel (unhide HOb) hb)
    replace HOv := hide (own_bel (unhide HOv) hb)
    replace HOu := hide (own_bel (unhide HOu) hb)
    replace HOc := hide (own_bel (unhide HOc) hb)
    replace HOd := hide (own_bel (unhide HOd) hb)
    replace HOx := hide (own_bel (unhide HOx) hb)
    replace hgs : g < y17.heap.size := by have := hb.size; omega
    clear hb HB16
    go_wp2_with fail
    refine (unhide HSM _ U nU pu cu pv cv (unhide HNU) (unhide HZU) _ _ (unhide HOu) (unhide HOv)).mono ?_
    rintro e y18 ⟨rfl, hb⟩
    have HB18 := hide (show Below h w y18 from (unhide HB17).trans (hb.mono (by have := (unhide HB17).size; omega)))
    replace HOa := hide (own_bel (unhide HOa) hb)
    replace HOb := hide (own_bel (unhide HOb) hb)
    replace HOv := hide (own_bel (unhide HOv) hb)
    replace HOu := hide (own_bel (unhide HOu) hb)
    replace HOc := hide (own_bel (unhide HOc) hb)
    replace HOd := hide (own_bel (unhide HOd) hb)
    replace HOx := hide (own_bel (unhide HOx) hb)
    replace hgs : g < y18.heap.size := by have := hb.size; omega
    clear hb HB17
    clear HOd
    clear HOx
    clear HOu
    clear HOv
    go_wp2_with fail
    refine (unhide HSM _ A nA pa ca pb cb (unhide HNA) (unhide HZA) _ _ (unhide HOa) (unhide HOb)).mono ?_
    rintro e y19 ⟨rfl, hb⟩
    have HB19 := hide (show Below h w y19 from (unhide HB18).trans (hb.mono (by have := (unhide HB18).size; omega)))
    replace HOa := hide (own_bel (unhide HOa) hb)
    replace HOb := hide (own_bel (unhide HOb) hb)
    replace HOc := hide (own_bel (unhide HOc) hb)
    replace hgs : g < y19.heap.size := by have := hb.size; omega
    clear hb HB18
    go_wp2_with fail
    refine (unhide HOVA y19 pa ca (by omega) (unhide HOa)).mono ?_
    rintro e y20 ⟨v1, rfl, hov⟩
    obtain ⟨p1, c1, rfl, _⟩ := gr_form hov.1
    have HB20 := hide (show Below h w y20 from (unhide HB19).trans (hov.2.2.below (by have := (unhide HB19).size; omega) (fun k hk e => by have := ((unhide HOa).lt k e).1; omega)))
    have hne1c : ∀ k, (Value.slice p1 (nA + 22) c1).ownBlock = some k → (Value.slice pc nA cc).ownBlock ≠ some k := fun k h1 h2 => by
      rcases hov.2.1 with e | e
      · exact hneac k (by rw [← e]; exact h1) h2
      · have := e k h1
        have := ((unhide HOc).lt k h2).2
        omega
    replace HOb := hide (owns_only (unhide HOb) hov.2.2 (fun k h1 h2 => hneab k h2 h1))
    replace HOc := hide (owns_only (unhide HOc) hov.2.2 (fun k h1 h2 => hneac k h2 h1))
    have HO1 := hide hov.1
    replace hgs : g < y20.heap.size := by have := hov.2.2.size; omega
    clear hov HB19 HOa
    go_wp2_with fail
    refine (unhide HSM _ A nA pc cc pb cb (unhide HNA) (unhide HZA) _ _ (unhide HOc) (unhide HOb)).mono ?_
    rintro e y21 ⟨rfl, hb⟩
    have HB21 := hide (show Below h w y21 from (unhide HB20).trans (hb.mono (by have := (unhide HB20).size; omega)))
    replace HOb := hide (own_bel (unhide HOb) hb)
    replace HOc := hide (own_bel (unhide HOc) hb)
    replace HO1 := hide (own_bel (unhide HO1) hb)
    replace hgs : g < y21.heap.size := by have := hb.size; omega
    clear hb HB20
    clear HOb
    go_wp2_with fail
    refine (unhide HOVC y21 pc cc (by omega) (unhide HOc)).mono ?_
    rintro e y22 ⟨v2, rfl, hov⟩
    obtain ⟨p2, c2, rfl, _⟩ := gr_form hov.1
    have HB22 := hide (show Below h w y22 from (unhide HB21).trans (hov.2.2.below (by have := (unhide HB21).size; omega) (fun k hk e => by have := ((unhide HOc).lt k e).1; omega)))
    replace HO1 := hide (owns_only (unhide HO1) hov.2.2 (fun k h1 h2 => hne1c k h1 h2))
    have HO2 := hide hov.1
    clear hov HB21 HOc
    go_wp2_with fail
    refine (unhide HST1 _ _ _ (unhide HO1)).mono ?_
    rintro e y ⟨rfl, hy⟩
    subst y
    go_wp2_with fail
    refine (unhide HST2 _ _ _ (unhide HO2)).mono ?_
    rintro e y ⟨rfl, hy⟩
    subst y
    by_cases hbig : 4096 < q
    · have b1 : (4096 : Int) < (q : Int) := by omega
      obtain rfl := unhide HBIG hbig
      go_wp2
      go_ret
      exact ⟨rfl, unhide HB22⟩
    · have b1 : ¬ (4096 : Int) < (q : Int) := by omega
      obtain rfl := unhide HSML hbig
      go_wp2
      go_ret
      exact ⟨rfl, unhide HB22⟩
  · have hE1 : paE q i = 190 := if_neg hin
    have hA0 : paL l i = [] := if_neg (by rw [hlq]; exact hin)
    have hU0 : paL (unL l) i = [] := if_neg (by rw [unL_len, hlq]; exact hin)
    rw [hE1, hA0] at HPO HPR
    rw [hE1, hU0] at HPX HPU
    obtain ⟨A, hA⟩ : ∃ z, ([] : List ByteArray) = z := ⟨_, rfl⟩
    obtain ⟨U, hU⟩ : ∃ z, ([] : List ByteArray) = z := ⟨_, rfl⟩
    rw [hA] at HPO HPR
    rw [hU] at HPX HPU
    obtain ⟨nA, hnA⟩ : ∃ z, A.length = z := ⟨_, rfl⟩
    obtain ⟨nU, hnU⟩ : ∃ z, U.length = z := ⟨_, rfl⟩
    have z1 : ((nA : Int) == 0) = true := by rw [← hnA, ← hA]; rfl
    have HNA := hide hnA
    have HNU := hide hnU
    have HZA := hide (show nA ≤ 5000 by rw [← hnA, ← hA]; decide)
    have HZU := hide (show nU ≤ 5000 by rw [← hnU, ← hU]; decide)
    generalize unL l = ul at *
    rw [hh]
    clear hS0 hS hK hz hz0 hsh hsh2 hl hq hlq hq0 hu hqc0 hpn hA hU hnA hnU hA0 hU0 hE1 HLA HLU HLD HPL HPD HRD HRO hi9
    go_enter Tryd.func4, Tryd.ntmps4
    go_wp2_with fail
    refine (unhide HAW _ (unhide HB0)).mono ?_
    rintro e y1 ⟨rfl, hb⟩
    have HB1 := hide (show Below h w y1 from (unhide HB0).trans (hb.mono (by have := (unhide HB0).size; omega)))
    clear hb HB0
    go_wp2_with fail
    refine (unhide HSO _ (unhide HB1)).mono ?_
    rintro e y ⟨rfl, hy⟩
    subst y
    go_wp2_with fail
    refine (unhide HLE _ (unhide HB1)).mono ?_
    rintro e y2 ⟨rfl, HL, hb⟩
    have HB2 := hide (show Below h w y2 from (unhide HB1).trans (hb.mono (by have := (unhide HB1).size; omega)))
    obtain ⟨g, hg⟩ : ∃ z, y1.heap.size = z := ⟨_, rfl⟩
    have hgh : h ≤ g := by have := (unhide HB1).size; omega
    rw [hg] at HL
    have hgs : g < y2.heap.size := by
      obtain ⟨cur, hB, _⟩ := unhide HL
      exact hB.lt
    clear hb HB1
    go_wp2_with fail
    refine (unhide HPO _ g (unhide HB2) (unhide HL) hgs).mono ?_
    rintro e y3 ⟨v0, rfl, ho, hb⟩
    rw [unhide HNA] at ho
    obtain ⟨pa, ca, rfl, _⟩ := gr_form ho
    have HOan := hide (own_bel (ho.mono (show g + 1 ≤ y2.heap.size by omega)) (Below.refl _ _))
    have HB3 := hide (show Below h w y3 from (unhide HB2).trans (hb.mono (by have := (unhide HB2).size; omega)))
    replace HL := hide ((unhide HL).below (hb.mono (by omega)))
    replace hgs : g < y3.heap.size := by have := hb.size; omega
    clear ho hb HB2
    have HOa := HOan
    clear HOan
    go_wp2_with fail
    refine (unhide HPR _ (unhide HB3)).mono ?_
    rintro e y4 ⟨v0, rfl, ho, hb⟩
    rw [unhide HNA] at ho
    obtain ⟨pb, cb, rfl, _⟩ := gr_form ho
    have hneab : ∀ k, (Value.slice pa nA ca).ownBlock = some k → (Value.slice pb nA cb).ownBlock ≠ some k := fun k h1 h2 => by have := ((unhide HOa).lt k h1).2; have := (ho.lt k h2).1; omega
    have HObn := hide (own_bel (ho.mono (show g + 1 ≤ y3.heap.size by omega)) (Below.refl _ _))
    have HB4 := hide (show Below h w y4 from (unhide HB3).trans (hb.mono (by have := (unhide HB3).size; omega)))
    replace HOa := hide (own_bel (unhide HOa) hb)
    replace HL := hide ((unhide HL).below (hb.mono (by omega)))
    replace hgs : g < y4.heap.size := by have := hb.size; omega
    clear ho hb HB3
    have HOb := HObn
    clear HObn
    go_wp2_with fail
    refine (unhide HKE _ g (unhide HB4) (unhide HL)).mono ?_
    rintro e y5 ⟨rfl, hb⟩
    have HB5 := hide (show Below h w y5 from (unhide HB4).trans (hb.mono (by have := (unhide HB4).size; omega)))
    replace HOa := hide (own_bel (unhide HOa) hb)
    replace HOb := hide (own_bel (unhide HOb) hb)
    replace HL := hide ((unhide HL).below (hb.mono (by omega)))
    replace hgs : g < y5.heap.size := by have := hb.size; omega
    clear hb HB4
    go_wp2_with fail
    refine (unhide HUN _ (unhide HB5)).mono ?_
    rintro e y6 ⟨v0, rfl, ho, hb⟩
    rw [unhide HUL] at ho
    obtain ⟨pz, cz, rfl, _⟩ := gr_form ho
    have HB6 := hide (show Below h w y6 from (unhide HB5).trans (hb.mono (by have := (unhide HB5).size; omega)))
    replace HOa := hide (own_bel (unhide HOa) hb)
    replace HOb := hide (own_bel (unhide HOb) hb)
    replace HL := hide ((unhide HL).below (hb.mono (by omega)))
    replace hgs : g < y6.heap.size := by have := hb.size; omega
    have HQ3 := hide (unhide HPU y6 cz pz _ ho (own_cc ho))
    clear ho hb HB5
    go_wp2_with fail
    refine (unhide HQ3).mono ?_
    rintro e y7 ⟨v0, rfl, ho, hb⟩
    rw [unhide HNU] at ho
    obtain ⟨pv, cv, rfl, _⟩ := gr_form ho
    have hneav : ∀ k, (Value.slice pa nA ca).ownBlock = some k → (Value.slice pv nU cv).ownBlock ≠ some k := fun k h1 h2 => by have := ((unhide HOa).lt k h1).2; have := (ho.lt k h2).1; omega
    have hnebv : ∀ k, (Value.slice pb nA cb).ownBlock = some k → (Value.slice pv nU cv).ownBlock ≠ some k := fun k h1 h2 => by have := ((unhide HOb).lt k h1).2; have := (ho.lt k h2).1; omega
    have HOvn := hide (own_bel (ho.mono (show g + 1 ≤ y6.heap.size by omega)) (Below.refl _ _))
    have HB7 := hide (show Below h w y7 from (unhide HB6).trans (hb.mono (by have := (unhide HB6).size; omega)))
    replace HOa := hide (own_bel (unhide HOa) hb)
    replace HOb := hide (own_bel (unhide HOb) hb)
    replace HL := hide ((unhide HL).below (hb.mono (by omega)))
    replace hgs : g < y7.heap.size := by have := hb.size; omega
    clear ho hb HB6 HQ3
    have HOv := HOvn
    clear HOvn
    go_wp2_with fail
    refine (unhide HUN _ (unhide HB7)).mono ?_
    rintro e y8 ⟨v0, rfl, ho, hb⟩
    rw [unhide HUL] at ho
    obtain ⟨pw, cw, rfl, _⟩ := gr_form ho
    have HB8 := hide (show Below h w y8 from (unhide HB7).trans (hb.mono (by have := (unhide HB7).size; omega)))
    replace HOa := hide (own_bel (unhide HOa) hb)
    replace HOb := hide (own_bel (unhide HOb) hb)
    replace HOv := hide (own_bel (unhide HOv) hb)
    replace HL := hide ((unhide HL).below (hb.mono (by omega)))
    obtain ⟨x8, hcp, hsb, hbe, hke⟩ := unhide HOC y8 g cw _ pw (unhide HL) ho
    have HB9 := hide (hbe h w hgh (unhide HB8))
    have HSX := hide hsb
    have hgs8 : g < x8.heap.size := by
      have q1 := hb.size
      have q2 := (hbe g y8 (Nat.le_refl _) (Below.refl _ _)).size
      omega
    replace HOa := hide (own_same (unhide HOa) hke (Nat.le_refl _))
    replace HOb := hide (own_same (unhide HOb) hke (Nat.le_refl _))
    replace HOv := hide (own_same (unhide HOv) hke (Nat.le_refl _))
    clear ho hb hsb hbe hke HB7 HB8 HL hgs
    have hgs := hgs8
    clear hgs8
    go_wp2_with fail
    refine (unhide HPX _ g (unhide HB9) (unhide HSX) hgs).mono ?_
    rintro e y10 ⟨v0, rfl, ho, hb⟩
    rw [unhide HNU] at ho
    obtain ⟨pu, cu, rfl, _⟩ := gr_form ho
    have hneau : ∀ k, (Value.slice pa nA ca).ownBlock = some k → (Value.slice pu nU cu).ownBlock ≠ some k := fun k h1 h2 => by have := ((unhide HOa).lt k h1).2; have := (ho.lt k h2).1; omega
    have hnebu : ∀ k, (Value.slice pb nA cb).ownBlock = some k → (Value.slice pu nU cu).ownBlock ≠ some k := fun k h1 h2 => by have := ((unhide HOb).lt k h1).2; have := (ho.lt k h2).1; omega
    have hnevu : ∀ k, (Value.slice pv nU cv).ownBlock = some k → (Value.slice pu nU cu).ownBlock ≠ some k := fun k h1 h2 => by have := ((unhide HOv).lt k h1).2; have := (ho.lt k h2).1; omega
    have HOun := hide (own_bel (ho.mono (show g + 1 ≤ x8.heap.size by omega)) (Below.refl _ _))
    have HB10 := hide (show Below h w y10 from (unhide HB9).trans (hb.mono (by have := (unhide HB9).size; omega)))
    replace HOa := hide (own_bel (unhide HOa) hb)
    replace HOb := hide (own_bel (unhide HOb) hb)
    replace HOv := hide (own_bel (unhide HOv) hb)
    replace hgs : g < y10.heap.size := by have := hb.size; omega
    clear ho hb HB9 HSX hcp
    have HOu := HOun
    clear HOun
    go_wp2_with fail
    refine (unhide HSM _ A nA pa ca pb cb (unhide HNA) (unhide HZA) _ _ (unhide HOa) (unhide HOb)).mono ?_
    rintro e y11 ⟨rfl, hb⟩
    have HB11 := hide (show Below h w y11 from (unhide HB10).trans (hb.mono (by have := (unhide HB10).size; omega)))
    replace HOa := hide (own_bel (unhide HOa) hb)
    replace HOb := hide (own_bel (unhide HOb) hb)
    replace HOv := hide (own_bel (unhide HOv) hb)
    replace HOu := hide (own_bel (unhide HOu) hb)
    replace hgs : g < y11.heap.size := by have := hb.size; omega
    clear hb HB10
    go_wp2
    go_ret
    exact ⟨rfl, unhide HB11⟩
end Go.Proofs.YtkileaocgecckabDoor
