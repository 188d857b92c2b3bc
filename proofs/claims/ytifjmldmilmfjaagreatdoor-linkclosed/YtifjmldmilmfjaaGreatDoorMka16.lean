import Derived.Test.YtifjmldmilmfjaaGreatDoorMka15
import Derived.Test.YtifjmldmilmfjaaGreatDoorMka07
import Derived.Test.YtifjmldmilmfjaaGreatDoorMka01
import Derived.Test.YtifjmldmilmfjaaGreatDoorCards
import Derived.Test.YtifjmldmilmfjaaGreatDoorTie
import Derived.ProofKit
import Derived.OpenShut
import Derived.ShutString
import Derived.SizedLaws
import Derived.Deep.DeepHandedRow
import Derived.LaidLaws
import Derived.LaidHandle
import Derived.Lib.LaidTab
import Derived.Deep.Slices
import Derived.Deep.Strs
import Derived.Lib.SmallJoins
import Derived.Stop.LaidErr
import Derived.Stop.LaidTwo
namespace Go.Proofs.YtifjmldmilmfjaaGreatDoor
open Go.RowKit
set_option maxRecDepth 100000
theorem tk_shut (e : LE) (f : ByteArray) (hr : e.r = false) : e.tkE f = 211 ∧ e.tkM f = ⟨#[]⟩ ∧ e.tkN f = e := by
  have h : e.tkE f = 211 := by rw [LE.tkE, if_pos hr]
  exact ⟨h, by rw [LE.tkM, h, if_neg (by decide)], by rw [LE.tkN, h, if_neg (by decide)]⟩
theorem sn_shut (e : LE) (m : ByteArray) (hr : e.r = false) : e.snE m = 211 ∧ e.snF m = ⟨#[]⟩ ∧ e.snN m = e := by
  have h : e.snE m = 211 := by rw [LE.snE, if_pos (.inl hr)]
  exact ⟨h, by rw [LE.snF, h, if_neg (by decide)], by rw [LE.snN, h, if_neg (by decide)]⟩
theorem sn_long (e : LE) (m : ByteArray) (hr : e.r = true) (hs : e.s < 4611686018427387904) (hm : 4096 < m.size) : e.snE m = 214 ∧ e.snF m = ⟨#[]⟩ ∧ e.snN m = e := by
  have h : e.snE m = 214 := by rw [LE.snE, if_neg (by rw [hr]; simp; omega), if_pos hm]
  exact ⟨h, by rw [LE.snF, h, if_neg (by decide)], by rw [LE.snN, h, if_neg (by decide)]⟩
theorem gr_shut (e : LE) (f : ByteArray) (hr : e.c = true ∨ e.r = true) : e.grE f = 211 ∧ e.grN f = e := by
  have h : e.grE f = 211 := by rw [LE.grE, if_pos (by rcases hr with q | q <;> rw [q] <;> simp)]
  exact ⟨h, by rw [LE.grN, h, if_neg (by decide)]⟩
set_option maxHeartbeats 8000000 in
theorem closed21 (key one two : Int) (m : ByteArray) (hm : m.size ≤ 140737488351232) (w : World) (hK : KTab w) (hG : ETy w) : Calls Tryz.prog 5 #[.int .i64 key, .int .i64 one, .int .i64 two, .string m] w fun ev w' => ev = .returned (.bool true) ∧ Below w.heap.size w w' := by
  obtain ⟨h, hh⟩ : ∃ h, w.heap.size = h := ⟨_, rfl⟩
  have hvh : 1 < h := by rw [← hh]; exact hK.1
  have HKB := hide (show ∀ W, Below h w W → KTab W ∧ ETy W from fun W hW => ⟨hK.below (by rw [← hh] at hW; exact hW) hK.1, hG.below (by rw [← hh] at hW; exact hW) hG.lt⟩)
  have HKN := hide (known21 w hK hG)
  have HME := hide (fun W (hKW : KTab W) => met_any key one two W hKW)
  have HFK := hide (fun W => fl32 key W)
  have HF2 := hide (fun W => fl16 two W)
  have HNW := hide (fun W => lnew_ok (flB key 32) 1 (flB two 16) (flB_size _ _) (by decide) (flB_size _ _) W)
  have HB := hide (show Below h w w from Below.refl _ _)
  obtain ⟨C0, hC0⟩ : ∃ z, le0 (flB key 32) 1 (flB two 16) = z := ⟨_, rfl⟩
  rw [hC0] at HNW
  have hCr : C0.r = false := by rw [← hC0]; rfl
  have hCc : C0.c = false := by rw [← hC0]; rfl
  have hCq : C0.q < 4611686018427387904 := by rw [← hC0]; show 0 < 4611686018427387904; decide
  have hCk : heB C0.k C0.i C0.n = heB (flB key 32) 1 (flB two 16) := by rw [← hC0]; rfl
  rw [hh] at HKN ⊢
  by_cases hl : 4096 < m.size
  · have s1 := sn_long (meA key one two) m rfl (show (0 : Nat) < 4611686018427387904 by decide) hl
    have hA0s : (meA key one two).s = 0 := rfl
    have hA0q : (meA key one two).q = 0 := rfl
    have HSA := hide (fun W g (hE : EndM W g (meA key one two)) hKW => lsend_any g _ m (by omega) W hE hKW)
    have HCT := hide (fun W g (hE : EndM W g (meA key one two)) => lcounts_any g _ W hE)
    rw [s1.1, s1.2.1, s1.2.2] at HSA
    rw [hA0s, hA0q] at HCT
    have e1 : (m.size : Int) > 4096 := by omega
    clear s1 hA0s hA0q hC0 hCr hCc hCq hCk hK hG hl
    generalize meA key one two = A0 at *
    generalize meB key one two = B0 at *
    generalize flB key 32 = fk at *
    generalize flB two 16 = f2 at *
    go_enter Tryz.func5, Tryz.ntmps5
    go_wp2_with fail
    refine (unhide HKN).mono ?_
    rintro ev y0 ⟨rfl, hb⟩
    replace HB := hide hb
    clear hb
    go_wp2_with fail
    refine (unhide HME y0 (unhide HKB _ (unhide HB)).1).mono ?_
    rintro ev y1 ⟨g1, g2, rfl, hE1, hE2, hne, hg1, hg2, hb⟩
    have hs0 := (unhide HB).size
    replace HB := hide (show Below h w y1 from (unhide HB).trans (hb.mono (by omega)))
    have HX1 := hide hE1
    have HX2 := hide hE2
    have hgh1 : h ≤ g1 := by omega
    have hgh2 : h ≤ g2 := by omega
    clear hE1 hE2 hb hg1 hg2 hs0
    go_wp2_with fail
    refine (unhide HFK y1).mono ?_
    rintro ev y2 ⟨rfl, hb⟩
    replace HB := hide (show Below h w y2 from (unhide HB).trans (hb.mono (by have := (unhide HB).size; omega)))
    replace HX1 := hide ((unhide HX1).below hb (unhide HX1).lt)
    replace HX2 := hide ((unhide HX2).below hb (unhide HX2).lt)
    clear hb
    go_wp2_with fail
    refine (unhide HF2 y2).mono ?_
    rintro ev y3 ⟨rfl, hb⟩
    replace HB := hide (show Below h w y3 from (unhide HB).trans (hb.mono (by have := (unhide HB).size; omega)))
    replace HX1 := hide ((unhide HX1).below hb (unhide HX1).lt)
    replace HX2 := hide ((unhide HX2).below hb (unhide HX2).lt)
    clear hb
    go_wp2_with fail
    refine (unhide HNW y3).mono ?_
    rintro ev y4 ⟨g3, hg3, rfl, hE, hb⟩
    have hgh3 : h ≤ g3 := by have := (unhide HB).size; omega
    have h13 : g1 < g3 := by have := (unhide HX1).lt; omega
    have h23 : g2 < g3 := by have := (unhide HX2).lt; omega
    replace HB := hide (show Below h w y4 from (unhide HB).trans (hb.mono (by have := (unhide HB).size; omega)))
    replace HX1 := hide ((unhide HX1).below hb (unhide HX1).lt)
    replace HX2 := hide ((unhide HX2).below hb (unhide HX2).lt)
    have HX3 := hide hE
    clear hE hb hg3
    go_wp2_with fail
    refine (unhide HSA y4 g1 (unhide HX1) (unhide HKB _ (unhide HB)).1).mono ?_
    rintro ev y5 ⟨rfl, hE, hO⟩
    replace HB := hide (show Below h w y5 from (unhide HB).trans (hO.below (by have := (unhide HB).size; omega) (fun k hk q => by omega)))
    replace HX1 := hide hE
    replace HX2 := hide ((unhide HX2).only hO (by omega))
    replace HX3 := hide ((unhide HX3).only hO (by omega))
    clear hE hO
    go_wp2_with fail
    refine (unhide HCT y5 g1 (unhide HX1)).mono ?_
    rintro ev y6 ⟨rfl, hb⟩
    replace HB := hide (show Below h w y6 from (unhide HB).trans (hb.mono (by have := (unhide HB).size; omega)))
    replace HX1 := hide ((unhide HX1).below hb (unhide HX1).lt)
    replace HX2 := hide ((unhide HX2).below hb (unhide HX2).lt)
    replace HX3 := hide ((unhide HX3).below hb (unhide HX3).lt)
    clear hb
    go_wp2
    go_ret
    exact ⟨rfl, unhide HB⟩
  have hl4 : m.size ≤ 4096 := by omega
  have s1 := sn_ok (meA key one two) m rfl (show (0 : Nat) < 4611686018427387904 by decide) hl4
  have s2 := sn_ok { meA key one two with s := 1 } m rfl (show (1 : Nat) < 4611686018427387904 by decide) hl4
  have t2 := tk_new (meB key one two) 0 m rfl (by decide) hl4 rfl
  have hhk : (meB key one two).h (1 - (meB key one two).i) = (meA key one two).h (meA key one two).i ∧ (meB key one two).z (1 - (meB key one two).i) = (meA key one two).z (meA key one two).i := ⟨rfl, rfl⟩
  rw [hhk.1, hhk.2] at t2
  have s1' : (meA key one two).snE m = 0 ∧ (meA key one two).snF m = frB ((meA key one two).h (meA key one two).i) ((meA key one two).z (meA key one two).i) ((0 : Nat) : Int) m ∧ (meA key one two).snN m = { meA key one two with s := 1 } := s1
  have s2' : LE.snE { meA key one two with s := 1 } m = 0 ∧ LE.snF { meA key one two with s := 1 } m = frB ((meA key one two).h (meA key one two).i) ((meA key one two).z (meA key one two).i) ((1 : Nat) : Int) m ∧ LE.snN { meA key one two with s := 1 } m = { meA key one two with s := 2 } := s2
  have hfz := frB_size ((meA key one two).h (meA key one two).i) ((meA key one two).z (meA key one two).i) ((0 : Nat) : Int) m (by omega)
  have hfz1 := frB_size ((meA key one two).h (meA key one two).i) ((meA key one two).z (meA key one two).i) ((1 : Nat) : Int) m (by omega)
  have hfn := frB_inj ((meA key one two).h (meA key one two).i) ((meA key one two).z (meA key one two).i) 0 1 m (by decide) (by decide) hl4 (by decide)
  obtain ⟨F0, hF0⟩ : ∃ z, frB ((meA key one two).h (meA key one two).i) ((meA key one two).z (meA key one two).i) ((0 : Nat) : Int) m = z := ⟨_, rfl⟩
  obtain ⟨F1, hF1⟩ : ∃ z, frB ((meA key one two).h (meA key one two).i) ((meA key one two).z (meA key one two).i) ((1 : Nat) : Int) m = z := ⟨_, rfl⟩
  rw [hF0] at s1' t2 hfz hfn
  rw [hF1] at s2' hfz1 hfn
  obtain ⟨A1, hA1⟩ : ∃ z, ({ meA key one two with s := 1 } : LE) = z := ⟨_, rfl⟩
  obtain ⟨A2, hA2⟩ : ∃ z, ({ meA key one two with s := 2 } : LE) = z := ⟨_, rfl⟩
  obtain ⟨B1, hB1⟩ : ∃ z, ({ meB key one two with t := mkT (meB key one two).t 0, m := mkM (meB key one two).t (meB key one two).m 0, q := (meB key one two).q + 1 } : LE) = z := ⟨_, rfl⟩
  obtain ⟨B2, hB2⟩ : ∃ z, ({ B1 with r := false, c := true } : LE) = z := ⟨_, rfl⟩
  rw [hA1] at s1' s2'
  rw [hA2] at s2'
  rw [hB1] at t2
  have hB2r : B2.r = false := by rw [← hB2]
  have hB2c : B2.c = true := by rw [← hB2]
  have hB2s : B2.s = 0 := by rw [← hB2, ← hB1]; rfl
  have hB2q : B2.q = 1 := by rw [← hB2, ← hB1]; rfl
  have hA2r : A2.r = true := by rw [← hA2]; rfl
  have hA2c : A2.c = false := by rw [← hA2]; rfl
  have hA2n : A2.n.size = 16 := by rw [← hA2]; exact flB_size _ _
  have hC0n : C0.n.size = 16 := by rw [← hC0]; exact flB_size _ _
  have hB0q : (meB key one two).q < 4611686018427387904 := by show 0 < 4611686018427387904; decide
  have hB2q9 : B2.q < 4611686018427387904 := by rw [hB2q]; decide
  have HS1 := hide (fun W g (hE : EndM W g (meA key one two)) hKW => lsend_any g _ m (by omega) W hE hKW)
  rw [s1'.1, s1'.2.1, s1'.2.2] at HS1
  have HS2 := hide (fun W g (hE : EndM W g A1) hKW => lsend_any g _ m (by omega) W hE hKW)
  rw [s2'.1, s2'.2.1, s2'.2.2] at HS2
  have u1 := tk_shut C0 F0 hCr
  have HT3 := hide (fun W g (hE : EndM W g C0) hKW hGW => ltake_any g _ F0 (by omega) hCq W hE hKW hGW)
  rw [u1.1, u1.2.1, u1.2.2] at HT3
  have u2 := sn_shut C0 m hCr
  have HS3 := hide (fun W g (hE : EndM W g C0) hKW => lsend_any g _ m (by omega) W hE hKW)
  rw [u2.1, u2.2.1, u2.2.2] at HS3
  have HT2 := hide (fun W g (hE : EndM W g (meB key one two)) hKW hGW => ltake_any g _ F0 (by omega) hB0q W hE hKW hGW)
  rw [t2.1, t2.2.1, t2.2.2] at HT2
  have HCL := hide (fun W g (hE : EndM W g B1) => lclose_any g _ W hE)
  rw [hB2] at HCL
  have u3 := tk_shut B2 F1 hB2r
  have HT4 := hide (fun W g (hE : EndM W g B2) hKW hGW => ltake_any g _ F1 (by omega) hB2q9 W hE hKW hGW)
  rw [u3.1, u3.2.1, u3.2.2] at HT4
  have u4 := sn_shut B2 m hB2r
  have HS4 := hide (fun W g (hE : EndM W g B2) hKW => lsend_any g _ m (by omega) W hE hKW)
  rw [u4.1, u4.2.1, u4.2.2] at HS4
  have HCT := hide (fun W g (hE : EndM W g B2) => lcounts_any g _ W hE)
  rw [hB2s, hB2q] at HCT
  have HHA := hide (fun W g (hE : EndM W g A2) hKW => lhello_any g _ W hE hKW)
  rw [hA2c, if_neg (by decide)] at HHA
  have z1 := heB_size A2.k A2.i A2.n
  obtain ⟨l1, hl1⟩ : ∃ z, heB A2.k A2.i A2.n = z := ⟨_, rfl⟩
  rw [hl1] at HHA z1
  have u5 := gr_shut B2 l1 (.inl hB2c)
  have HGB := hide (fun W g (hE : EndM W g B2) hKW hv => lgreet_any g _ l1 (by omega) W hE hKW hv)
  rw [u5.1, u5.2] at HGB
  have HHC := hide (fun W g (hE : EndM W g C0) hKW => lhello_any g _ W hE hKW)
  rw [hCc, if_neg (by decide)] at HHC
  have z3 := heB_size C0.k C0.i C0.n
  obtain ⟨l3, hl3⟩ : ∃ z, heB C0.k C0.i C0.n = z := ⟨_, rfl⟩
  rw [hl3] at HHC z3
  have u6 := gr_shut A2 l3 (.inr hA2r)
  have HGA := hide (fun W g (hE : EndM W g A2) hKW hv => lgreet_any g _ l3 (by omega) W hE hKW hv)
  rw [u6.1, u6.2] at HGA
  have HRA := hide (fun W g (hE : EndM W g A2) => lready_any g _ W hE)
  rw [hA2r] at HRA
  have HRB := hide (fun W g (hE : EndM W g B2) => lready_any g _ W hE)
  rw [hB2r] at HRB
  have HRC := hide (fun W g (hE : EndM W g C0) => lready_any g _ W hE)
  rw [hCr] at HRC
  have HHB := hide (fun W g (hE : EndM W g B2) hKW => lhello_any g _ W hE hKW)
  rw [hB2c, if_pos rfl] at HHB
  have e1 : ¬ (m.size : Int) > 4096 := by omega
  have hf1 : (F0.size : Int) = 26 + (m.size : Int) := by omega
  have hf2 : wrap64 (26 + (m.size : Int)) = 26 + (m.size : Int) := wrap64_eq _ (by omega) (by omega)
  have hf3 : (F0.toList == F1.toList) = false := str_ne hfn
  have HF := hide (And.intro hf1 (And.intro hf2 hf3))
  clear hf1 hf2 hf3 s1 s2 t2 hhk s1' s2' hfz hfz1 hfn hF0 hF1 hA1 hA2 hB1 hB2 hB2r hB2c hB2s hB2q hA2r hA2c hA2n hC0n hB0q hB2q9 u1 u2 u3 u4 u5 u6 z1 z3 hl1 hl3 hC0 hCr hCc hCq hCk hK hG hl hl4
  generalize meA key one two = A0 at *
  generalize meB key one two = B0 at *
  generalize flB key 32 = fk at *
  generalize flB two 16 = f2 at *
  go_enter Tryz.func5, Tryz.ntmps5
  go_wp2_with fail
  refine (unhide HKN).mono ?_
  rintro ev y0 ⟨rfl, hb⟩
  replace HB := hide hb
  clear hb
  go_wp2_with fail
  refine (unhide HME y0 (unhide HKB _ (unhide HB)).1).mono ?_
  rintro ev y1 ⟨g1, g2, rfl, hE1, hE2, hne, hg1, hg2, hb⟩
  have hs0 := (unhide HB).size
  replace HB := hide (show Below h w y1 from (unhide HB).trans (hb.mono (by omega)))
  have HX1 := hide hE1
  have HX2 := hide hE2
  have hgh1 : h ≤ g1 := by omega
  have hgh2 : h ≤ g2 := by omega
  clear hE1 hE2 hb hg1 hg2 hs0
  go_wp2_with fail
  refine (unhide HFK y1).mono ?_
  rintro ev y2 ⟨rfl, hb⟩
  replace HB := hide (show Below h w y2 from (unhide HB).trans (hb.mono (by have := (unhide HB).size; omega)))
  replace HX1 := hide ((unhide HX1).below hb (unhide HX1).lt)
  replace HX2 := hide ((unhide HX2).below hb (unhide HX2).lt)
  clear hb
  go_wp2_with fail
  refine (unhide HF2 y2).mono ?_
  rintro ev y3 ⟨rfl, hb⟩
  replace HB := hide (show Below h w y3 from (unhide HB).trans (hb.mono (by have := (unhide HB).size; omega)))
  replace HX1 := hide ((unhide HX1).below hb (unhide HX1).lt)
  replace HX2 := hide ((unhide HX2).below hb (unhide HX2).lt)
  clear hb
  go_wp2_with fail
  refine (unhide HNW y3).mono ?_
  rintro ev y4 ⟨g3, hg3, rfl, hE, hb⟩
  have hgh3 : h ≤ g3 := by have := (unhide HB).size; omega
  have h13 : g1 < g3 := by have := (unhide HX1).lt; omega
  have h23 : g2 < g3 := by have := (unhide HX2).lt; omega
  replace HB := hide (show Below h w y4 from (unhide HB).trans (hb.mono (by have := (unhide HB).size; omega)))
  replace HX1 := hide ((unhide HX1).below hb (unhide HX1).lt)
  replace HX2 := hide ((unhide HX2).below hb (unhide HX2).lt)
  have HX3 := hide hE
  clear hE hb hg3
  have HE1 := hide e1
  go_wp2_with fail
  refine (unhide HS1 y4 g1 (unhide HX1) (unhide HKB _ (unhide HB)).1).mono ?_
  rintro ev y5 ⟨rfl, hE, hO⟩
  replace HB := hide (show Below h w y5 from (unhide HB).trans (hO.below (by have := (unhide HB).size; omega) (fun k hk q => by omega)))
  replace HX1 := hide hE
  replace HX2 := hide ((unhide HX2).only hO (by omega))
  replace HX3 := hide ((unhide HX3).only hO (by omega))
  clear hE hO
  clear e1
  go_wp2_with fail
  refine (unhide HS2 y5 g1 (unhide HX1) (unhide HKB _ (unhide HB)).1).mono ?_
  rintro ev y6 ⟨rfl, hE, hO⟩
  replace HB := hide (show Below h w y6 from (unhide HB).trans (hO.below (by have := (unhide HB).size; omega) (fun k hk q => by omega)))
  replace HX1 := hide hE
  replace HX2 := hide ((unhide HX2).only hO (by omega))
  replace HX3 := hide ((unhide HX3).only hO (by omega))
  clear hE hO
  go_wp2_with fail
  refine (unhide HT3 y6 g3 (unhide HX3) (unhide HKB _ (unhide HB)).1 (unhide HKB _ (unhide HB)).2).mono ?_
  rintro ev y7 ⟨rfl, hE, hO⟩
  replace HB := hide (show Below h w y7 from (unhide HB).trans (hO.below (by have := (unhide HB).size; omega) (fun k hk q => by omega)))
  replace HX1 := hide ((unhide HX1).only hO (by omega))
  replace HX2 := hide ((unhide HX2).only hO (by omega))
  replace HX3 := hide hE
  clear hE hO
  go_wp2_with fail
  refine (unhide HS3 y7 g3 (unhide HX3) (unhide HKB _ (unhide HB)).1).mono ?_
  rintro ev y8 ⟨rfl, hE, hO⟩
  replace HB := hide (show Below h w y8 from (unhide HB).trans (hO.below (by have := (unhide HB).size; omega) (fun k hk q => by omega)))
  replace HX1 := hide ((unhide HX1).only hO (by omega))
  replace HX2 := hide ((unhide HX2).only hO (by omega))
  replace HX3 := hide hE
  clear hE hO
  go_wp2_with fail
  refine (unhide HT2 y8 g2 (unhide HX2) (unhide HKB _ (unhide HB)).1 (unhide HKB _ (unhide HB)).2).mono ?_
  rintro ev y9 ⟨rfl, hE, hO⟩
  replace HB := hide (show Below h w y9 from (unhide HB).trans (hO.below (by have := (unhide HB).size; omega) (fun k hk q => by omega)))
  replace HX1 := hide ((unhide HX1).only hO (by omega))
  replace HX2 := hide hE
  replace HX3 := hide ((unhide HX3).only hO (by omega))
  clear hE hO
  go_wp2_with fail
  refine (unhide HCL y9 g2 (unhide HX2)).mono ?_
  rintro ev y10 ⟨rfl, hE, hO⟩
  replace HB := hide (show Below h w y10 from (unhide HB).trans (hO.below (by have := (unhide HB).size; omega) (fun k hk q => by omega)))
  replace HX1 := hide ((unhide HX1).only hO (by omega))
  replace HX2 := hide hE
  replace HX3 := hide ((unhide HX3).only hO (by omega))
  clear hE hO
  go_wp2_with fail
  refine (unhide HT4 y10 g2 (unhide HX2) (unhide HKB _ (unhide HB)).1 (unhide HKB _ (unhide HB)).2).mono ?_
  rintro ev y11 ⟨rfl, hE, hO⟩
  replace HB := hide (show Below h w y11 from (unhide HB).trans (hO.below (by have := (unhide HB).size; omega) (fun k hk q => by omega)))
  replace HX1 := hide ((unhide HX1).only hO (by omega))
  replace HX2 := hide hE
  replace HX3 := hide ((unhide HX3).only hO (by omega))
  clear hE hO
  go_wp2_with fail
  refine (unhide HS4 y11 g2 (unhide HX2) (unhide HKB _ (unhide HB)).1).mono ?_
  rintro ev y12 ⟨rfl, hE, hO⟩
  replace HB := hide (show Below h w y12 from (unhide HB).trans (hO.below (by have := (unhide HB).size; omega) (fun k hk q => by omega)))
  replace HX1 := hide ((unhide HX1).only hO (by omega))
  replace HX2 := hide hE
  replace HX3 := hide ((unhide HX3).only hO (by omega))
  clear hE hO
  go_wp2_with fail
  refine (unhide HCT y12 g2 (unhide HX2)).mono ?_
  rintro ev y13 ⟨rfl, hb⟩
  replace HB := hide (show Below h w y13 from (unhide HB).trans (hb.mono (by have := (unhide HB).size; omega)))
  replace HX1 := hide ((unhide HX1).below hb (unhide HX1).lt)
  replace HX2 := hide ((unhide HX2).below hb (unhide HX2).lt)
  replace HX3 := hide ((unhide HX3).below hb (unhide HX3).lt)
  clear hb
  go_wp2_with fail
  refine (unhide HHA y13 g1 (unhide HX1) (unhide HKB _ (unhide HB)).1).mono ?_
  rintro ev y14 ⟨rfl, hb⟩
  replace HB := hide (show Below h w y14 from (unhide HB).trans (hb.mono (by have := (unhide HB).size; omega)))
  replace HX1 := hide ((unhide HX1).below hb (unhide HX1).lt)
  replace HX2 := hide ((unhide HX2).below hb (unhide HX2).lt)
  replace HX3 := hide ((unhide HX3).below hb (unhide HX3).lt)
  clear hb
  go_wp2_with fail
  refine (unhide HGB y14 g2 (unhide HX2) (unhide HKB _ (unhide HB)).1 (by omega)).mono ?_
  rintro ev y15 ⟨rfl, hE, hO⟩
  replace HB := hide (show Below h w y15 from (unhide HB).trans (hO.below (by have := (unhide HB).size; omega) (fun k hk q => by omega)))
  replace HX1 := hide ((unhide HX1).only hO (by omega))
  replace HX2 := hide hE
  replace HX3 := hide ((unhide HX3).only hO (by omega))
  clear hE hO
  go_wp2_with fail
  refine (unhide HHC y15 g3 (unhide HX3) (unhide HKB _ (unhide HB)).1).mono ?_
  rintro ev y16 ⟨rfl, hb⟩
  replace HB := hide (show Below h w y16 from (unhide HB).trans (hb.mono (by have := (unhide HB).size; omega)))
  replace HX1 := hide ((unhide HX1).below hb (unhide HX1).lt)
  replace HX2 := hide ((unhide HX2).below hb (unhide HX2).lt)
  replace HX3 := hide ((unhide HX3).below hb (unhide HX3).lt)
  clear hb
  go_wp2_with fail
  refine (unhide HGA y16 g1 (unhide HX1) (unhide HKB _ (unhide HB)).1 (by omega)).mono ?_
  rintro ev y17 ⟨rfl, hE, hO⟩
  replace HB := hide (show Below h w y17 from (unhide HB).trans (hO.below (by have := (unhide HB).size; omega) (fun k hk q => by omega)))
  replace HX1 := hide hE
  replace HX2 := hide ((unhide HX2).only hO (by omega))
  replace HX3 := hide ((unhide HX3).only hO (by omega))
  clear hE hO
  have hf1 := (unhide HF).1
  have hf2 := (unhide HF).2.1
  have hf3 := (unhide HF).2.2
  go_wp2_with fail
  refine (unhide HRB y17 g2 (unhide HX2)).mono ?_
  rintro ev y18 ⟨rfl, hb⟩
  replace HB := hide (show Below h w y18 from (unhide HB).trans (hb.mono (by have := (unhide HB).size; omega)))
  replace HX1 := hide ((unhide HX1).below hb (unhide HX1).lt)
  replace HX2 := hide ((unhide HX2).below hb (unhide HX2).lt)
  replace HX3 := hide ((unhide HX3).below hb (unhide HX3).lt)
  clear hb
  go_wp2_with fail
  refine (unhide HHB y18 g2 (unhide HX2) (unhide HKB _ (unhide HB)).1).mono ?_
  rintro ev y19 ⟨rfl, hb⟩
  replace HB := hide (show Below h w y19 from (unhide HB).trans (hb.mono (by have := (unhide HB).size; omega)))
  replace HX1 := hide ((unhide HX1).below hb (unhide HX1).lt)
  replace HX2 := hide ((unhide HX2).below hb (unhide HX2).lt)
  replace HX3 := hide ((unhide HX3).below hb (unhide HX3).lt)
  clear hb
  go_wp2_with fail
  refine (unhide HRA y19 g1 (unhide HX1)).mono ?_
  rintro ev y20 ⟨rfl, hb⟩
  replace HB := hide (show Below h w y20 from (unhide HB).trans (hb.mono (by have := (unhide HB).size; omega)))
  replace HX1 := hide ((unhide HX1).below hb (unhide HX1).lt)
  replace HX2 := hide ((unhide HX2).below hb (unhide HX2).lt)
  replace HX3 := hide ((unhide HX3).below hb (unhide HX3).lt)
  clear hb
  go_wp2_with fail
  refine (unhide HRC y20 g3 (unhide HX3)).mono ?_
  rintro ev y21 ⟨rfl, hb⟩
  replace HB := hide (show Below h w y21 from (unhide HB).trans (hb.mono (by have := (unhide HB).size; omega)))
  replace HX1 := hide ((unhide HX1).below hb (unhide HX1).lt)
  replace HX2 := hide ((unhide HX2).below hb (unhide HX2).lt)
  replace HX3 := hide ((unhide HX3).below hb (unhide HX3).lt)
  clear hb
  go_wp2
  go_ret
  exact ⟨rfl, unhide HB⟩
end Go.Proofs.YtifjmldmilmfjaaGreatDoor

namespace Go.Proofs.YtifjmldmilmfjaaGreatDoor
open Go.ChangeShapes Go.WideShapes Go.ChangeAt Go.RowKit
theorem own : ownKnob Tryz.prog.godebug = none := by kernel_rfl
theorem laidOut : laidOutB Tryz.prog = true := by kernel_rfl
theorem gEt : Tryz.prog.globalNamed "errors.errorType" = some 0 := by kernel_rfl
theorem gRt : (Tryz.prog.cutTypes.find? (·.1 == "internal/reflectlite.rtype")).map (·.2) = some 187 := by kernel_rfl
theorem gOne : ((List.range 227).filter fun t => Tryz.prog.rowNamed t [101, 114, 114, 111, 114]) = [147] := by kernel_rfl
theorem gSize : Tryz.prog.types.size = 227 := by kernel_rfl
theorem gTab : Tryz.prog.globalNamed "strongbox/hash.roundWords" = some 1 := by kernel_rfl
theorem gTabType : (Tryz.prog.globals[1]?).map (·.type) = some 154 := by kernel_rfl
theorem cells54 : Tryz.prog.cellsOf 154 = 64 := by kernel_rfl
theorem cells44 : Tryz.prog.cellsOf 42 = 1 := by kernel_rfl
def laidQm : List (String × DataW Unit) := []
def laidPm : List (String × DataW Unit) := ("strongbox/hash.roundWords", Rows.laid_strongbox_hash_roundWords) :: laidQm
def laidL : List (String × DataW Unit) := ("strongbox/hash.roundWords", Rows.laid_strongbox_hash_roundWords) :: ("errors.errorType", Rows.laid_errors_errorType) :: laidQm
theorem laid_parts {W : World} (h : laidMetH Tryz.prog laidL W) : laidMet Tryz.prog laidPm W ∧ handlesMet Tryz.prog [("errors.errorType", Rows.laid_errors_errorType)] W := h
/-- What the row's list gives. -/
theorem ety_of {W : World} (h : laidMetH Tryz.prog laidL W) : ETy W := by
  obtain ⟨name, u, ty, e1, e2, e3, e4, e5⟩ := (laid_parts h).2 _ (List.mem_singleton.2 rfl)
  have en : name = [101, 114, 114, 111, 114] := (Option.some.inj e1).symm
  subst en
  obtain rfl := Option.some.inj (gRt.symm.trans e2)
  have hm : ty ∈ (List.range 227).filter fun t => Tryz.prog.rowNamed t [101, 114, 114, 111, 114] := List.mem_filter.2 ⟨List.mem_range.2 (by rw [← gSize]; exact e3), e4⟩
  rw [gOne] at hm
  obtain rfl := List.mem_singleton.1 hm
  have hh : typeHandle Tryz.prog 147 = .pointer (some ⟨2, 147, none⟩) := by kernel_rfl
  rw [hh] at e5
  have := World.var?_cell gEt e5 0
  unfold ETy
  simpa using this
set_option maxRecDepth 100000 in
theorem ktab_of {W : World} (h : laidMetH Tryz.prog laidL W) : KTab W := by
  have hT : Lib.TabIs Tryz.prog W "strongbox/hash.roundWords" .u32 kWords :=
    Lib.tabIs_of_head (rest := laidQm) gTab gTabType Tryz.underlying154 Tryz.underlying42 cells44 cells54 (laid_parts h).1
  have hc : ∀ j, j < 64 → W.cell? ⟨1, j, none⟩ = some (.int .u32 (kWords.getD j 0)) := fun j hj => hT.cell gTab j hj
  exact ⟨World.block_lt_of_cell? W _ (hc 0 (by decide)), hc⟩
/-- A world for the witness: the settled one, the variables laid. -/
noncomputable def laidWorld (os : Os) : World :=
  let w0 := World.holding Tryz.prog os ⟨#[], #[], []⟩
  { w0 with heap := (w0.heap.modify 0 fun
      | .cells _ t frozen => .cells #[.iface 187 (.agg #[.pointer (some ⟨2, 147, none⟩)])] t frozen
      | o => o).modify 1 fun
      | .cells _ t frozen => .cells (kWords.map (Value.int .u32)).toArray t frozen
      | o => o }
theorem laid_metA (os : Os) (args : Array Value) : laidMet Tryz.prog laidPm ((laidWorld os).forCall (fun _ _ => 0) ⟨#[], args, []⟩).memory :=
  laidMet_of_run' 80 (by kernel_rfl) (by kernel_rfl)
end Go.Proofs.YtifjmldmilmfjaaGreatDoor
