import Derived.Test.YtkileaocgecckabDoorQrf
import Derived.Test.YtkileaocgecckabDoorQla
import Derived.Test.YtkileaocgecckabDoorQlh
namespace Go.Proofs.YtkileaocgecckabDoor
open Go.RowKit
set_option maxRecDepth 100000
set_option maxHeartbeats 4000000 in
theorem rcheckGrown_any (a : ByteArray) (m : Int) (b : ByteArray) (n : Int) (P : List ByteArray) (q : Nat) (hq : P.length = q) (w : World) (c : Nat) (p : Option Addr) (hS : SB w w.heap.size p P) (hq9 : q ≤ 8796093022200) (hqc : q ≤ c) : Calls Tryd.prog 11 #[.string a, .int .i64 m, .string b, .int .i64 n, .slice p q c] w fun e w' => e = .returned (.int .i64 (cgE a m b n P)) ∧ Below w.heap.size w w' := by
  obtain ⟨h, hh⟩ : ∃ h, w.heap.size = h := ⟨_, rfl⟩
  rw [hh] at hS ⊢
  have HB0 := hide (show Below h w w from Below.refl _ _)
  by_cases hab : a.size = 32 ∧ b.size = 32
  case neg =>
    rw [cgE, if_neg hab]
    clear hS hq
    by_cases h1 : a.size = 32
    · have h2 : ¬ b.size = 32 := fun q => hab ⟨h1, q⟩
      have e1 : ((a.size : Int) != 32) = false := by rw [h1]; rfl
      have e2 : ((b.size : Int) != 32) = true := by simp; omega
      clear hab
      go_enter Tryd.func11, Tryd.ntmps11
      go_wp2
      go_ret
      exact ⟨rfl, unhide HB0⟩
    · have e1 : ((a.size : Int) != 32) = true := by simp; omega
      clear hab
      go_enter Tryd.func11, Tryd.ntmps11
      go_wp2
      go_ret
      exact ⟨rfl, unhide HB0⟩
  have e1 : ((a.size : Int) != 32) = false := by rw [hab.1]; rfl
  have e2 : ((b.size : Int) != 32) = false := by rw [hab.2]; rfl
  by_cases hin : 0 ≤ n ∧ n ≤ 4096 ∧ 0 ≤ m ∧ m ≤ n
  case neg =>
    rw [cgE, if_pos hab, if_neg hin]
    clear hS hq hab
    by_cases a1 : n < 0
    case' pos => skip
    case' neg =>
      by_cases a2 : 4096 < n
      case' pos => skip
      case' neg =>
        by_cases a3 : m < 0
        case' pos => skip
        case' neg =>
          have a4 : n < m := by omega
    all_goals (
      clear hin
      go_enter Tryd.func11, Tryd.ntmps11
      go_wp2
      go_ret
      exact ⟨rfl, unhide HB0⟩)
  rw [cgE, if_pos hab, if_pos hin]
  obtain ⟨g0, g9, g3, g4⟩ := hin
  obtain ⟨n', rfl⟩ : ∃ k : Nat, n = (k : Int) := ⟨n.toNat, by omega⟩
  obtain ⟨m', rfl⟩ : ∃ k : Nat, m = (k : Int) := ⟨m.toNat, by omega⟩
  rw [Int.toNat_natCast, Int.toNat_natCast]
  have a1 : ¬ (n' : Int) < 0 := by omega
  have a2 : ¬ 4096 < (n' : Int) := by omega
  have a3 : ¬ (m' : Int) < 0 := by omega
  have a4 : ¬ (n' : Int) < (m' : Int) := by omega
  have HSU := hide (fun W => rdg_any ⟨#[]⟩ (by decide) W)
  by_cases hm : m' = 0
  · subst hm
    have HFO := hide (rformed_any P q 0 hq w h c p hS hq9 (by omega))
    rw [hgB, if_pos rfl]
    by_cases hf : Fmd P 0
    case neg =>
      have hP0 : ¬ P.length = 0 := fun e => hf ⟨e, fun j hj => by omega⟩
      have HFO2 := hide ((unhide HFO).mono (fun e z hz => (show e = .returned (.bool false) ∧ z = w from ⟨(unhide hz.1).2 hf, hz.2⟩)))
      rw [decide_eq_false hP0, Bool.false_and, if_neg (by simp)]
      clear HFO hS hq hf hP0 hab
      simp only [Int.cast_ofNat_Int] at *
      go_enter Tryd.func11, Tryd.ntmps11
      go_wp2_with fail
      refine (unhide HFO2).mono ?_
      rintro e y1 ⟨rfl, hy1⟩
      subst y1
      go_wp2
      go_ret
      exact ⟨rfl, unhide HB0⟩
    have HFO2 := hide ((unhide HFO).mono (fun e z hz => (show e = .returned (.bool true) ∧ z = w from ⟨(unhide hz.1).1 hf, hz.2⟩)))
    rw [decide_eq_true hf.1, Bool.true_and]
    obtain ⟨zz, hzz⟩ : ∃ z, dg ⟨#[]⟩ = z := ⟨_, rfl⟩
    rw [hzz] at HSU ⊢
    clear HFO hS hq hf hab hzz
    simp only [Int.cast_ofNat_Int] at *
    by_cases c1 : a = zz
    · subst c1
      by_cases c2 : 0 < n'
      · rw [if_pos (by simp [c2])]
        have d2 : ((n' : Int) == 0) = false := by simp; omega
        go_enter Tryd.func11, Tryd.ntmps11
        go_wp2_with fail
        refine (unhide HFO2).mono ?_
        rintro e y1 ⟨rfl, hy1⟩
        subst y1
        go_wp2_with fail
        refine (unhide HSU _).mono ?_
        rintro e y2 ⟨rfl, hb⟩
        have HB2 := hide (show Below h w y2 from (unhide HB0).trans (hb.mono (by omega)))
        clear hb
        go_wp2
        go_ret
        exact ⟨rfl, unhide HB2⟩
      · obtain rfl : n' = 0 := by omega
        simp only [Int.cast_ofNat_Int] at *
        by_cases c3 : b = a
        · subst c3
          rw [if_pos (by simp)]
          go_enter Tryd.func11, Tryd.ntmps11
          go_wp2_with fail
          refine (unhide HFO2).mono ?_
          rintro e y1 ⟨rfl, hy1⟩
          subst y1
          go_wp2_with fail
          refine (unhide HSU _).mono ?_
          rintro e y2 ⟨rfl, hb⟩
          have HB2 := hide (show Below h w y2 from (unhide HB0).trans (hb.mono (by omega)))
          clear hb
          go_wp2
          go_ret
          exact ⟨rfl, unhide HB2⟩
        · have d3 : (b.toList == a.toList) = false := str_ne c3
          rw [if_neg (by simp [c3])]
          go_enter Tryd.func11, Tryd.ntmps11
          go_wp2_with fail
          refine (unhide HFO2).mono ?_
          rintro e y1 ⟨rfl, hy1⟩
          subst y1
          go_wp2_with fail
          refine (unhide HSU _).mono ?_
          rintro e y2 ⟨rfl, hb⟩
          have HB2 := hide (show Below h w y2 from (unhide HB0).trans (hb.mono (by omega)))
          clear hb
          go_wp2
          go_ret
          exact ⟨rfl, unhide HB2⟩
    · have d1 : (a.toList == zz.toList) = false := str_ne c1
      rw [if_neg (by simp [c1])]
      go_enter Tryd.func11, Tryd.ntmps11
      go_wp2_with fail
      refine (unhide HFO2).mono ?_
      rintro e y1 ⟨rfl, hy1⟩
      subst y1
      go_wp2_with fail
      refine (unhide HSU _).mono ?_
      rintro e y2 ⟨rfl, hb⟩
      have HB2 := hide (show Below h w y2 from (unhide HB0).trans (hb.mono (by omega)))
      clear hb
      go_wp2
      go_ret
      exact ⟨rfl, unhide HB2⟩
  have HLG := hide (rlong_any n' m' true w (by omega) (by omega) (by omega))
  have hlg := lg_le n' m' true (by omega) (by omega)
  have HFO := hide (rformed_any P q (lg m' n' true) hq w h c p hS hq9 (by omega))
  have a5 : (0 : Int) < (m' : Int) := by omega
  have a6 : ((m' : Int) == 0) = false := by simp; omega
  obtain ⟨t1, t2⟩ := cm_fmd n' m' true a P (by omega) (by omega)
  rw [hgB, if_neg hm]
  by_cases hf : Fmd P (lg m' n' true)
  case neg =>
    have HFO2 := hide ((unhide HFO).mono (fun e z hz => (show e = .returned (.bool false) ∧ z = w from ⟨(unhide hz.1).2 hf, hz.2⟩)))
    rw [t2 hf, if_neg (by simp)]
    generalize lg m' n' true = L at *
    clear HFO hS hq hf hab t1 t2
    go_enter Tryd.func11, Tryd.ntmps11
    go_wp2_with fail
    refine (unhide HLG).mono ?_
    rintro e y0 ⟨rfl, hy0⟩
    subst y0
    go_wp2_with fail
    refine (unhide HFO2).mono ?_
    rintro e y1 ⟨rfl, hy1⟩
    subst y1
    go_wp2
    go_ret
    exact ⟨rfl, unhide HB0⟩
  have HFO2 := hide ((unhide HFO).mono (fun e z hz => (show e = .returned (.bool true) ∧ z = w from ⟨(unhide hz.1).1 hf, hz.2⟩)))
  obtain ⟨⟨x, y⟩, hxy⟩ := t1 hf
  rw [hxy]
  change Calls _ _ _ _ (fun e w' => e = .returned (.int .i64 (if (decide (x = a) && decide (y = b)) = true then 0 else 192)) ∧ _)
  by_cases hmn : m' = n'
  · subst hmn
    obtain ⟨rfl, rfl⟩ : a = x ∧ a = y := by
      rw [lg_all, if_pos rfl] at hf
      obtain rfl : P = [] := List.eq_nil_of_length_eq_zero hf.1
      rw [cm_known] at hxy
      cases hxy
      exact ⟨rfl, rfl⟩
    generalize lg m' m' true = L at *
    obtain ⟨zz, hzz⟩ : ∃ z, dg ⟨#[]⟩ = z := ⟨_, rfl⟩
    rw [hzz] at HSU
    clear HFO hS hq hf t1 t2 hxy hzz hab
    by_cases c1 : a = b
    · subst c1
      rw [if_pos (by simp)]
      go_enter Tryd.func11, Tryd.ntmps11
      go_wp2_with fail
      refine (unhide HLG).mono ?_
      rintro e y0 ⟨rfl, hy0⟩
      subst y0
      go_wp2_with fail
      refine (unhide HFO2).mono ?_
      rintro e y1 ⟨rfl, hy1⟩
      subst y1
      go_wp2_with fail
      refine (unhide HSU _).mono ?_
      rintro e y2 ⟨rfl, hb⟩
      have HB2 := hide (show Below h w y2 from (unhide HB0).trans (hb.mono (by omega)))
      clear hb
      go_wp2
      go_ret
      exact ⟨rfl, unhide HB2⟩
    · have d1 : (a.toList == b.toList) = false := str_ne c1
      rw [if_neg (by simp [c1])]
      go_enter Tryd.func11, Tryd.ntmps11
      go_wp2_with fail
      refine (unhide HLG).mono ?_
      rintro e y0 ⟨rfl, hy0⟩
      subst y0
      go_wp2_with fail
      refine (unhide HFO2).mono ?_
      rintro e y1 ⟨rfl, hy1⟩
      subst y1
      go_wp2_with fail
      refine (unhide HSU _).mono ?_
      rintro e y2 ⟨rfl, hb⟩
      have HB2 := hide (show Below h w y2 from (unhide HB0).trans (hb.mono (by omega)))
      clear hb
      go_wp2
      go_ret
      exact ⟨rfl, unhide HB2⟩
  · have a7 : ((m' : Int) == (n' : Int)) = false := by simp; omega
    have HCO := hide (fun W (hW : Below h w W) => rcomes_any a hab.1 n' m' true P q hq x y hxy W h c p (by omega) (by omega) (by omega) (hS.below hW) (by have := hW.size; omega) (by have := hf.1; omega) hqc)
    generalize lg m' n' true = L at *
    obtain ⟨zz, hzz⟩ : ∃ z, dg ⟨#[]⟩ = z := ⟨_, rfl⟩
    rw [hzz] at HSU
    clear HFO hS hq hf t1 t2 hxy hzz hab
    by_cases c1 : x = a
    · subst c1
      by_cases c2 : y = b
      · subst c2
        rw [if_pos (by simp)]
        go_enter Tryd.func11, Tryd.ntmps11
        go_wp2_with fail
        refine (unhide HLG).mono ?_
        rintro e y0 ⟨rfl, hy0⟩
        subst y0
        go_wp2_with fail
        refine (unhide HFO2).mono ?_
        rintro e y1 ⟨rfl, hy1⟩
        subst y1
        go_wp2_with fail
        refine (unhide HSU _).mono ?_
        rintro e y2 ⟨rfl, hb⟩
        have HB2 := hide (show Below h w y2 from (unhide HB0).trans (hb.mono (by omega)))
        clear hb
        go_wp2_with fail
        refine (unhide HCO _ (unhide HB2)).mono ?_
        rintro e y3 ⟨rfl, hb⟩
        have HB3 := hide (show Below h w y3 from (unhide HB2).trans (hb.mono (by have := (unhide HB2).size; omega)))
        clear hb
        go_wp2
        go_ret
        exact ⟨rfl, unhide HB3⟩
      · have d2 : (y.toList == b.toList) = false := str_ne c2
        rw [if_neg (by simp [c2])]
        go_enter Tryd.func11, Tryd.ntmps11
        go_wp2_with fail
        refine (unhide HLG).mono ?_
        rintro e y0 ⟨rfl, hy0⟩
        subst y0
        go_wp2_with fail
        refine (unhide HFO2).mono ?_
        rintro e y1 ⟨rfl, hy1⟩
        subst y1
        go_wp2_with fail
        refine (unhide HSU _).mono ?_
        rintro e y2 ⟨rfl, hb⟩
        have HB2 := hide (show Below h w y2 from (unhide HB0).trans (hb.mono (by omega)))
        clear hb
        go_wp2_with fail
        refine (unhide HCO _ (unhide HB2)).mono ?_
        rintro e y3 ⟨rfl, hb⟩
        have HB3 := hide (show Below h w y3 from (unhide HB2).trans (hb.mono (by have := (unhide HB2).size; omega)))
        clear hb
        go_wp2
        go_ret
        exact ⟨rfl, unhide HB3⟩
    · have d1 : (x.toList == a.toList) = false := str_ne c1
      rw [if_neg (by simp [c1])]
      go_enter Tryd.func11, Tryd.ntmps11
      go_wp2_with fail
      refine (unhide HLG).mono ?_
      rintro e y0 ⟨rfl, hy0⟩
      subst y0
      go_wp2_with fail
      refine (unhide HFO2).mono ?_
      rintro e y1 ⟨rfl, hy1⟩
      subst y1
      go_wp2_with fail
      refine (unhide HSU _).mono ?_
      rintro e y2 ⟨rfl, hb⟩
      have HB2 := hide (show Below h w y2 from (unhide HB0).trans (hb.mono (by omega)))
      clear hb
      go_wp2_with fail
      refine (unhide HCO _ (unhide HB2)).mono ?_
      rintro e y3 ⟨rfl, hb⟩
      have HB3 := hide (show Below h w y3 from (unhide HB2).trans (hb.mono (by have := (unhide HB2).size; omega)))
      clear hb
      go_wp2
      go_ret
      exact ⟨rfl, unhide HB3⟩
set_option maxHeartbeats 2000000 in
theorem grownChecks19 (a : ByteArray) (m : Int) (b : ByteArray) (n : Int) (P : List ByteArray) (q : Nat) (hq : P.length = q) (w : World) (c : Nat) (p : Option Addr) (hS : SB w w.heap.size p P) (hK : KTab w) (hq9 : q ≤ 8796093021952) (hpn : p = none → c = 0) (hqc : q ≤ c) : Calls Tryd.prog 3 #[.string a, .int .i64 m, .string b, .int .i64 n, .slice p q c] w fun e w' => e = .returned (.bool true) ∧ Below w.heap.size w w' := by
  obtain ⟨h, hh⟩ : ∃ h, w.heap.size = h := ⟨_, rfl⟩
  rw [hh] at hS
  have HKB := hide (show ∀ W, Below h w W → KTab W from fun W hW => hK.below hW (by rw [← hh]; exact hK.1))
  have HSB := hide (show ∀ W, Below h w W → SB W h p P from fun W hW => hS.below hW)
  have HAW := hide (fun W (hW : Below h w W) => awake19 W (unhide HKB W hW))
  have HLE := hide (fun W (hW : Below h w W) => lent19 W P q c p hq ((unhide HSB W hW).mono (by have := hW.size; omega)) (by omega) hpn)
  have HCK := hide (fun W g (hW : Below h w W) (hL : LnK W g P q (q + 8)) (hg : g < W.heap.size) => checkGrown_any a m b n P q hq W (g + 1) (q + 8) (some ⟨g, 0, none⟩) (hL.SB hq) (by omega) (unhide HKB W hW) (by omega) (by omega))
  have HKE := hide (fun W g (hW : Below h w W) (hL : LnK W g P q (q + 8)) => kept19 W P g q c p h hq hL (unhide HSB W hW) (by omega))
  have HRC := hide (fun W (hW : Below h w W) => rcheckGrown_any a m b n P q hq W c p ((unhide HSB W hW).mono (by have := hW.size; omega)) (by omega) hqc)
  have HB0 := hide (show Below h w w from Below.refl _ _)
  generalize cgE a m b n P = er at *
  have e8 : (q : Int) ≤ (q : Int) + 8 := by omega
  rw [hh]
  clear hS hK hq hpn
  go_enter Tryd.func3, Tryd.ntmps3
  go_wp2_with fail
  refine (unhide HAW _ (unhide HB0)).mono ?_
  rintro e y1 ⟨rfl, hb⟩
  have HB1 := hide (show Below h w y1 from (unhide HB0).trans (hb.mono (by omega)))
  clear hb
  go_wp2_with fail
  refine (unhide HLE _ (unhide HB1)).mono ?_
  rintro e y2 ⟨rfl, HL, hb⟩
  have HB2 := hide (show Below h w y2 from (unhide HB1).trans (hb.mono (by have := (unhide HB1).size; omega)))
  obtain ⟨g, hg⟩ : ∃ z, y1.heap.size = z := ⟨_, rfl⟩
  rw [hg] at HL
  have hgs : g < y2.heap.size := by
    obtain ⟨cur, hB, _⟩ := unhide HL
    exact hB.lt
  clear hb HB1
  go_wp2_with fail
  refine (unhide HCK _ g (unhide HB2) (unhide HL) hgs).mono ?_
  rintro e y3 ⟨rfl, hb⟩
  have HB3 := hide (show Below h w y3 from (unhide HB2).trans (hb.mono (by have := (unhide HB2).size; omega)))
  have HL3 := hide ((unhide HL).below (hb.mono (by omega)))
  clear hb HB2 HL
  go_wp2_with fail
  refine (unhide HKE _ g (unhide HB3) (unhide HL3)).mono ?_
  rintro e y4 ⟨rfl, hb⟩
  have HB4 := hide (show Below h w y4 from (unhide HB3).trans (hb.mono (by have := (unhide HB3).size; omega)))
  clear hb HB3
  go_wp2_with fail
  refine (unhide HRC _ (unhide HB4)).mono ?_
  rintro e y5 ⟨rfl, hb⟩
  have HB5 := hide (show Below h w y5 from (unhide HB4).trans (hb.mono (by have := (unhide HB4).size; omega)))
  clear hb HB4
  go_wp2
  go_ret
  exact ⟨rfl, unhide HB5⟩
end Go.Proofs.YtkileaocgecckabDoor
