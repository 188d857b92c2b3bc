import Derived.Test.YtifjmldmilmfjaaGreatDoorMkb19
namespace Go.Proofs.YtifjmldmilmfjaaGreatDoor
open Go.RowKit
set_option maxRecDepth 100000
theorem sn_ok (e : LE) (m : ByteArray) (hr : e.r = true) (hs : e.s < 4611686018427387904) (hm : m.size ≤ 4096) : e.snE m = 0 ∧ e.snF m = frB (e.h e.i) (e.z e.i) (e.s : Int) m ∧ e.snN m = { e with s := e.s + 1 } := by
  have h : e.snE m = 0 := by rw [LE.snE, if_neg (by rw [hr]; simp; omega), if_neg (by omega)]
  exact ⟨h, by rw [LE.snF, if_pos h], by rw [LE.snN, if_pos h]⟩
theorem tk_new (e : LE) (n : Nat) (m : ByteArray) (hr : e.r = true) (hn : n < 9223372036854775808) (hm : m.size ≤ 4096) (ho : e.old n = false) : e.tkE (frB (e.h (1 - e.i)) (e.z (1 - e.i)) (n : Int) m) = 0 ∧ e.tkM (frB (e.h (1 - e.i)) (e.z (1 - e.i)) (n : Int) m) = m ∧ e.tkN (frB (e.h (1 - e.i)) (e.z (1 - e.i)) (n : Int) m) = { e with t := mkT e.t n, m := mkM e.t e.m n, q := e.q + 1 } := by
  obtain ⟨h1, h2, h3⟩ := frB_is (e.h (1 - e.i)) (e.z (1 - e.i)) n m hn hm
  have h : e.tkE (frB (e.h (1 - e.i)) (e.z (1 - e.i)) (n : Int) m) = 0 := by
    rw [LE.tkE, if_neg (by rw [hr]; decide), if_neg (by rw [h1]; decide), h2, Int.toNat_natCast, ho]
    rfl
  exact ⟨h, by rw [LE.tkM, if_pos h, h2, h3, hdB_twice _ _ _ (by omega)], by rw [LE.tkN, if_pos h, h2, Int.toNat_natCast]⟩
theorem tk_old (e : LE) (n : Nat) (m : ByteArray) (hr : e.r = true) (hn : n < 9223372036854775808) (hm : m.size ≤ 4096) (ho : e.old n = true) : e.tkE (frB (e.h (1 - e.i)) (e.z (1 - e.i)) (n : Int) m) = 213 ∧ e.tkM (frB (e.h (1 - e.i)) (e.z (1 - e.i)) (n : Int) m) = ⟨#[]⟩ ∧ e.tkN (frB (e.h (1 - e.i)) (e.z (1 - e.i)) (n : Int) m) = e := by
  obtain ⟨h1, h2, h3⟩ := frB_is (e.h (1 - e.i)) (e.z (1 - e.i)) n m hn hm
  have h : e.tkE (frB (e.h (1 - e.i)) (e.z (1 - e.i)) (n : Int) m) = 213 := by
    rw [LE.tkE, if_neg (by rw [hr]; decide), if_neg (by rw [h1]; decide), h2, Int.toNat_natCast, ho]
    rfl
  exact ⟨h, by rw [LE.tkM, h, if_neg (by decide)], by rw [LE.tkN, h, if_neg (by decide)]⟩
theorem tk_no (e : LE) (f : ByteArray) (hr : e.r = true) (h : isB (e.z (1 - e.i)) f = false) : e.tkE f = 212 ∧ e.tkM f = ⟨#[]⟩ ∧ e.tkN f = e := by
  have h : e.tkE f = 212 := by rw [LE.tkE, if_neg (by rw [hr]; decide), if_pos h]
  exact ⟨h, by rw [LE.tkM, h, if_neg (by decide)], by rw [LE.tkN, h, if_neg (by decide)]⟩
/-- the keys of two ends that have met -/
theorem me_keys (key one two : Int) (j : Nat) : (meB key one two).h j = (meA key one two).h j ∧ (meB key one two).z j = (meA key one two).z j := ⟨rfl, rfl⟩
theorem me0 : (meA 1 2 3).h 0 = hiB kB n0B n1B 0 ∧ (meA 1 2 3).z 0 = seB kB n0B n1B 0 ∧ (meA 1 2 3).z 1 = seB kB n0B n1B 1 := ⟨rfl, rfl, rfl⟩
set_option maxHeartbeats 4000000 in
theorem known21 (w : World) (hK : KTab w) (hG : ETy w) : Calls Tryz.prog 8 #[] w fun ev w' => ev = .returned (.bool true) ∧ Below w.heap.size w w' := by
  obtain ⟨h, hh⟩ : ∃ h, w.heap.size = h := ⟨_, rfl⟩
  have HKB := hide (show ∀ W, Below h w W → KTab W ∧ ETy W from fun W hW => ⟨hK.below (by rw [← hh] at hW; exact hW) hK.1, hG.below (by rw [← hh] at hW; exact hW) hG.lt⟩)
  have HME := hide (met_any 1 2 3 w hK)
  have hz := frB_size (hiB kB n0B n1B 0) (seB kB n0B n1B 0) 0 a9B (by decide)
  have h0 := own_no
  have hkk := me_keys 1 2 3
  have hm0 := me0
  have s1 := sn_ok (meA 1 2 3) a9B rfl (by decide) (by decide)
  have t1 := tk_new (meB 1 2 3) 0 a9B rfl (by decide) (by decide) rfl
  have t2 := tk_old { meB 1 2 3 with t := mkT 0 0, m := mkM 0 0 0, q := 1 } 0 a9B rfl (by decide) (by decide) rfl
  have t3 := tk_no { meA 1 2 3 with s := 1 } (frB (hiB kB n0B n1B 0) (seB kB n0B n1B 0) 0 a9B) rfl h0
  have e1 : frB ((meA 1 2 3).h (meA 1 2 3).i) ((meA 1 2 3).z (meA 1 2 3).i) (((meA 1 2 3).s : Nat) : Int) a9B = frB (hiB kB n0B n1B 0) (seB kB n0B n1B 0) 0 a9B := rfl
  have e2 : frB ((meB 1 2 3).h (1 - (meB 1 2 3).i)) ((meB 1 2 3).z (1 - (meB 1 2 3).i)) ((0 : Nat) : Int) a9B = frB (hiB kB n0B n1B 0) (seB kB n0B n1B 0) 0 a9B := rfl
  rw [e1] at s1
  rw [e2] at t1
  have t2' : LE.tkE { meB 1 2 3 with t := mkT 0 0, m := mkM 0 0 0, q := 1 } (frB (hiB kB n0B n1B 0) (seB kB n0B n1B 0) 0 a9B) = 213 ∧ LE.tkM { meB 1 2 3 with t := mkT 0 0, m := mkM 0 0 0, q := 1 } (frB (hiB kB n0B n1B 0) (seB kB n0B n1B 0) 0 a9B) = ⟨#[]⟩ ∧ LE.tkN { meB 1 2 3 with t := mkT 0 0, m := mkM 0 0 0, q := 1 } (frB (hiB kB n0B n1B 0) (seB kB n0B n1B 0) 0 a9B) = { meB 1 2 3 with t := mkT 0 0, m := mkM 0 0 0, q := 1 } := t2
  obtain ⟨F, hF⟩ : ∃ z, frB (hiB kB n0B n1B 0) (seB kB n0B n1B 0) 0 a9B = z := ⟨_, rfl⟩
  rw [hF] at s1 t1 t2' t3 hz
  obtain ⟨A1, hA1⟩ : ∃ z, ({ meA 1 2 3 with s := 1 } : LE) = z := ⟨_, rfl⟩
  obtain ⟨B1, hB1⟩ : ∃ z, ({ meB 1 2 3 with t := mkT 0 0, m := mkM 0 0 0, q := 1 } : LE) = z := ⟨_, rfl⟩
  have s3 : (meA 1 2 3).snN a9B = A1 := by rw [← hA1]; exact s1.2.2
  have t13 : (meB 1 2 3).tkN F = B1 := by rw [← hB1]; exact t1.2.2
  have hq0 : (meB 1 2 3).q < 4611686018427387904 := by show 0 < 4611686018427387904; decide
  have hq1 : B1.q < 4611686018427387904 := by rw [← hB1]; show 1 < 4611686018427387904; decide
  have hq2 : A1.q < 4611686018427387904 := by rw [← hA1]; show 0 < 4611686018427387904; decide
  rw [hB1] at t2'
  rw [hA1] at t3
  have hz7 : F.size = 27 := by rw [hz]; rfl
  have HSA := hide (fun W g (hE : EndM W g (meA 1 2 3)) hKW => lsend_any g _ a9B (by decide) W hE hKW)
  rw [s1.1, s1.2.1, s3] at HSA
  have HT1 := hide (fun W g (hE : EndM W g (meB 1 2 3)) hKW hGW => ltake_any g _ F (by omega) hq0 W hE hKW hGW)
  rw [t1.1, t1.2.1, t13] at HT1
  have HT2 := hide (fun W g (hE : EndM W g B1) hKW hGW => ltake_any g _ F (by omega) hq1 W hE hKW hGW)
  rw [t2'.1, t2'.2.1, t2'.2.2] at HT2
  have HT3 := hide (fun W g (hE : EndM W g A1) hKW hGW => ltake_any g _ F (by omega) hq2 W hE hKW hGW)
  rw [t3.1, t3.2.1, t3.2.2] at HT3
  have hzI : (F.size : Int) = 27 := by omega
  clear s1 t1 t2 t2' t3 e1 e2 hz h0 hkk hm0 hF hA1 hB1 s3 t13 hq0 hq1 hq2 hz7 hK hG
  rw [show a9B = (⟨#[97]⟩ : ByteArray) from rfl] at HSA HT1
  generalize meA 1 2 3 = A0 at *
  generalize meB 1 2 3 = B0 at *
  rw [hh] at HME ⊢
  go_enter Tryz.func8, Tryz.ntmps8
  go_wp2_with fail
  refine (unhide HME).mono ?_
  rintro ev y1 ⟨g1, g2, rfl, hE1, hE2, hne, hg1, hg2, hb⟩
  have HB1 := hide hb
  have HX1 := hide hE1
  have HX2 := hide hE2
  clear hE1 hE2 hb HME
  go_wp2_with fail
  refine (unhide HSA y1 g1 (unhide HX1) (unhide HKB _ (unhide HB1)).1).mono ?_
  rintro ev y2 ⟨rfl, hE, hO⟩
  have HB2 := hide (show Below h w y2 from (unhide HB1).trans (hO.below (by have := (unhide HB1).size; omega) (fun k hk q => by omega)))
  replace HX1 := hide hE
  replace HX2 := hide ((unhide HX2).only hO (fun q => hne q.symm))
  clear hE hO HB1 HSA
  go_wp2_with fail
  refine (unhide HT1 y2 g2 (unhide HX2) (unhide HKB _ (unhide HB2)).1 (unhide HKB _ (unhide HB2)).2).mono ?_
  rintro ev y3 ⟨rfl, hE, hO⟩
  have HB3 := hide (show Below h w y3 from (unhide HB2).trans (hO.below (by have := (unhide HB2).size; omega) (fun k hk q => by omega)))
  replace HX1 := hide ((unhide HX1).only hO (fun q => hne q))
  replace HX2 := hide hE
  clear hE hO HB2 HT1
  go_wp2_with fail
  refine (unhide HT2 y3 g2 (unhide HX2) (unhide HKB _ (unhide HB3)).1 (unhide HKB _ (unhide HB3)).2).mono ?_
  rintro ev y4 ⟨rfl, hE, hO⟩
  have HB4 := hide (show Below h w y4 from (unhide HB3).trans (hO.below (by have := (unhide HB3).size; omega) (fun k hk q => by omega)))
  replace HX1 := hide ((unhide HX1).only hO (fun q => hne q))
  clear hE hO HB3 HT2 HX2
  go_wp2_with fail
  refine (unhide HT3 y4 g1 (unhide HX1) (unhide HKB _ (unhide HB4)).1 (unhide HKB _ (unhide HB4)).2).mono ?_
  rintro ev y5 ⟨rfl, hE, hO⟩
  have HB5 := hide (show Below h w y5 from (unhide HB4).trans (hO.below (by have := (unhide HB4).size; omega) (fun k hk q => by omega)))
  clear hE hO HB4 HT3 HX1
  go_wp2
  go_ret
  exact ⟨rfl, unhide HB5⟩
end Go.Proofs.YtifjmldmilmfjaaGreatDoor

namespace Go.Proofs.YtifjmldmilmfjaaGreatDoor
open Go.RowKit
set_option maxRecDepth 100000
end Go.Proofs.YtifjmldmilmfjaaGreatDoor
