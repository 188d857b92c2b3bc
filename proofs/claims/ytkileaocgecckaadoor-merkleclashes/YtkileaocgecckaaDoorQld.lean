import Derived.Test.YtkileaocgecckaaDoorQmi
import Derived.Test.YtkileaocgecckaaDoorQla
import Derived.Test.YtkileaocgecckaaDoorRsu
namespace Go.Proofs.YtkileaocgecckaaDoor
open Go.RowKit
set_option maxRecDepth 100000
theorem up_sizes : ∀ (n i : Nat) (s : ByteArray) (P T : List ByteArray), up n i s P = some T → ∀ t ∈ T, t.size ≤ s.size + 66 := by
  intro n
  induction n using Nat.strongRecOn with
  | _ n ih =>
  intro i s P T h t ht
  by_cases hn : n < 2
  · rw [up, dif_pos hn] at h
    split at h
    · cases h
      rw [List.mem_singleton] at ht
      rw [ht, ByteArray.size_append, mk0_size]
      omega
    · cases h
  · by_cases hP : P = []
    · rw [hP, up_nil n i s (by omega)] at h; cases h
    · obtain ⟨Q, b, rfl⟩ := list_last P hP
      by_cases hb : b.size = 32
      · by_cases hk : i < kk n
        · rw [up_left n i s Q b (by omega) hb hk] at h
          obtain ⟨T', h', rfl⟩ := Option.map_eq_some_iff.1 h
          rcases List.mem_append.1 ht with q | q
          · exact ih _ (kk_lt n (by omega)) _ _ _ _ h' t q
          · rw [List.mem_singleton] at q
            rw [q]
            simp only [ByteArray.size_append, mk1_size, dg_size, hb]
            omega
        · rw [up_right n i s Q b (by omega) hb hk] at h
          obtain ⟨T', h', rfl⟩ := Option.map_eq_some_iff.1 h
          rcases List.mem_append.1 ht with q | q
          · exact ih _ (by have := kk_pos n; omega) _ _ _ _ h' t q
          · rw [List.mem_singleton] at q
            rw [q]
            simp only [ByteArray.size_append, mk1_size, dg_size, hb]
            omega
      · rw [up_bad n i s Q b (by omega) hb] at h; cases h
theorem getD_mem (T : List ByteArray) (k : Nat) (h : k < T.length) : T.getD k ⟨#[]⟩ ∈ T := by
  rw [List.getD_eq_getElem?_getD, List.getElem?_eq_getElem h]
  exact List.getElem_mem h
theorem chE_bad {root : ByteArray} {n i : Int} {s s' : ByteArray} {P P' : List ByteArray} (h : ¬ (ckE root n i s P = 0 ∧ ckE root n i s' P' = 0 ∧ s ≠ s')) : chE root n i s P s' P' ≠ 0 := by
  unfold chE
  by_cases h1 : ckE root n i s P = 0
  · rw [if_neg (by simpa using h1)]
    by_cases h2 : ckE root n i s' P' = 0
    · rw [if_neg (by simpa using h2)]
      by_cases h3 : s = s'
      · rw [if_pos h3]; decide
      · exact absurd ⟨h1, h2, h3⟩ h
    · rw [if_pos h2]; exact h2
  · rw [if_pos h1]; exact h1
set_option maxHeartbeats 4000000 in
theorem fooled19 (root : ByteArray) (N I0 : Int) (s s' : ByteArray) (hs : s.size ≤ 140737488351232) (hs' : s'.size ≤ 140737488351232) (P P' : List ByteArray) (q q' : Nat) (hq : P.length = q) (hq' : P'.length = q') (w : World) (c c' : Nat) (p p' : Option Addr) (hS : SB w w.heap.size p P) (hS' : SB w w.heap.size p' P') (hK : KTab w) (hqc : q ≤ c) (hc9 : c ≤ 9223372036854775807) (hqc' : q' ≤ c') (hc9' : c' ≤ 9223372036854775807) : Calls Tryd.prog 4 #[.string root, .int .i64 N, .int .i64 I0, .string s, .slice p q c, .string s', .slice p' q' c'] w fun e w' => e = .returned (.bool true) ∧ Below w.heap.size w w' := by
  obtain ⟨h, hh⟩ : ∃ h, w.heap.size = h := ⟨_, rfl⟩
  rw [hh] at hS hS'
  have HKB := hide (show ∀ W, Below h w W → KTab W from fun W hW => hK.below hW (by rw [← hh]; exact hK.1))
  have HAW := hide (fun W (hW : Below h w W) => awake19 W (unhide HKB W hW))
  have HC1 := hide (fun W (hW : Below h w W) => check_any root N I0 s (by omega) P q hq W h c p (hS.below hW) (by have := hW.size; omega) (unhide HKB W hW) hqc hc9)
  have HC2 := hide (fun W (hW : Below h w W) => check_any root N I0 s' (by omega) P' q' hq' W h c' p' (hS'.below hW) (by have := hW.size; omega) (unhide HKB W hW) hqc' hc9')
  have HCL := hide (fun W (hW : Below h w W) => Clash_any root N I0 s s' (by omega) (by omega) P P' q q' hq hq' W h c c' p p' (hS.below hW) (hS'.below hW) (by have := hW.size; omega) (unhide HKB W hW) hqc hc9 hqc' hc9')
  have HB0 := hide (show Below h w w from Below.refl _ _)
  by_cases hgo : ckE root N I0 s P = 0 ∧ ckE root N I0 s' P' = 0 ∧ s ≠ s'
  · obtain ⟨h1, h2, h3⟩ := hgo
    have hch : chE root N I0 s P s' P' = 0 := by unfold chE; rw [if_neg (by simpa using h1), if_neg (by simpa using h2), if_neg h3]
    have HCB := hide (fun (W : World) (hW : Below h w W) => (unhide HCL W hW).mono (fun e z (hz : ChQ W root N I0 s P s' P' e z) => (show Below W.heap.size W z ∧ ∃ a b, e = .returned (.tuple #[.string a, .string b, .int .i64 0]) ∧ a.size ≤ 140737488355000 ∧ b.size ≤ 140737488355000 ∧ a ≠ b ∧ dg a = dg b from by
      obtain ⟨z1, a, b, z2, _, z3⟩ := hz
      rw [hch] at z2
      obtain ⟨T, T', t1, t2, k, k1, _, k2, k3, k4⟩ := z3 hch
      have hl := (up_clash _ _ _ _ _ _ _ _ t1 t2).1
      refine ⟨z1, a, b, z2, ?_, ?_, by rw [k3, k4]; exact k2.1, by rw [k3, k4]; exact k2.2⟩
      · have := up_sizes _ _ _ _ _ t1 a (by rw [k3]; exact getD_mem T k k1)
        omega
      · have := up_sizes _ _ _ _ _ t2 b (by rw [k4]; exact getD_mem T' k (by omega))
        omega)))
    rw [h1] at HC1
    rw [h2] at HC2
    have hne : (s.toList == s'.toList) = false := str_ne h3
    clear HCL hch h1 h2 h3 hS hS' hK hq hq' hs hs'
    rw [hh]
    go_enter Tryd.func4, Tryd.ntmps4
    go_wp2_with fail
    refine (unhide HAW _ (unhide HB0)).mono ?_
    rintro e y1 ⟨rfl, hb⟩
    have HB1 := hide (show Below h w y1 from (unhide HB0).trans (hb.mono (by omega)))
    clear hb
    go_wp2_with fail
    refine (unhide HC1 _ (unhide HB1)).mono ?_
    rintro e y2 ⟨rfl, hb⟩
    have HB2 := hide (show Below h w y2 from (unhide HB1).trans (hb.mono (by have := (unhide HB1).size; omega)))
    clear hb HB1
    go_wp2_with fail
    refine (unhide HC2 _ (unhide HB2)).mono ?_
    rintro e y3 ⟨rfl, hb⟩
    have HB3 := hide (show Below h w y3 from (unhide HB2).trans (hb.mono (by have := (unhide HB2).size; omega)))
    clear hb HB2
    go_wp2_with fail
    refine (unhide HCB _ (unhide HB3)).mono ?_
    rintro e y4 ⟨hb, a, b, rfl, ha, hb9, hab, hdd⟩
    have HB4 := hide (show Below h w y4 from (unhide HB3).trans (hb.mono (by have := (unhide HB3).size; omega)))
    have HSA := hide (fun W (hW : Below h w W) => hsum_any a (by omega) W (unhide HKB W hW) _ rfl W (Below.refl _ _))
    have HSB := hide (fun W (hW : Below h w W) => hsum_any b (by omega) W (unhide HKB W hW) _ rfl W (Below.refl _ _))
    rw [← hdd] at HSB
    have HSR := hide (fun W => rsum_any a (by omega) W)
    rw [show strOfNums (sha (nums a)) = dg a from rfl] at HSR
    have hne2 : (a.toList == b.toList) = false := str_ne hab
    clear hb HB3 hab hdd
    generalize dg a = da at *
    go_wp2_with fail
    refine (unhide HSA _ (unhide HB4)).mono ?_
    rintro e y5 ⟨rfl, hb⟩
    have HB5 := hide (show Below h w y5 from (unhide HB4).trans (hb.mono (by have := (unhide HB4).size; omega)))
    clear hb HB4
    go_wp2_with fail
    refine (unhide HSB _ (unhide HB5)).mono ?_
    rintro e y6 ⟨rfl, hb⟩
    have HB6 := hide (show Below h w y6 from (unhide HB5).trans (hb.mono (by have := (unhide HB5).size; omega)))
    clear hb HB5
    go_wp2_with fail
    refine (unhide HSR _).mono ?_
    rintro e y7 ⟨rfl, hb⟩
    have HB7 := hide (show Below h w y7 from (unhide HB6).trans (hb.mono (by have := (unhide HB6).size; omega)))
    clear hb HB6
    go_wp2
    go_ret
    exact ⟨rfl, unhide HB7⟩
  · have hch := chE_bad hgo
    have HCB := hide (fun (W : World) (hW : Below h w W) => (unhide HCL W hW).mono (fun e z (hz : ChQ W root N I0 s P s' P' e z) => (show e = .returned (.tuple #[.string ⟨#[]⟩, .string ⟨#[]⟩, .int .i64 (chE root N I0 s P s' P')]) ∧ Below W.heap.size W z from by
      obtain ⟨z1, a, b, z2, z3, _⟩ := hz
      obtain ⟨rfl, rfl⟩ := z3 hch
      exact ⟨z2, z1⟩)))
    obtain ⟨er, her⟩ : ∃ z, chE root N I0 s P s' P' = z := ⟨_, rfl⟩
    rw [her] at HCB hch
    obtain ⟨e1, he1⟩ : ∃ z, ckE root N I0 s P = z := ⟨_, rfl⟩
    obtain ⟨e2, he2⟩ : ∃ z, ckE root N I0 s' P' = z := ⟨_, rfl⟩
    rw [he1, he2] at hgo
    rw [he1] at HC1
    rw [he2] at HC2
    have n1 : (er != 0) = true := by simpa using hch
    have n2 : (er == 0) = false := by simpa using hch
    clear HCL hS hS' hK hq hq' hs hs' her he1 he2 hch
    rw [hh]
    by_cases a1 : e1 = 0
    case' neg =>
      have b1 : (e1 == 0) = false := by simpa using a1
      clear hgo a1
    case' pos =>
      subst a1
      by_cases a2 : e2 = 0
      case' neg =>
        have b1 : (e2 == 0) = false := by simpa using a2
        clear hgo a2
      case' pos =>
        subst a2
        obtain rfl : s = s' := Classical.byContradiction (fun hc => hgo ⟨rfl, rfl, hc⟩)
        clear hgo
    all_goals (
      go_enter Tryd.func4, Tryd.ntmps4
      go_wp2_with fail
      refine (unhide HAW _ (unhide HB0)).mono ?_
      rintro e y1 ⟨rfl, hb⟩
      have HB1 := hide (show Below h w y1 from (unhide HB0).trans (hb.mono (by omega)))
      clear hb
      go_wp2_with fail
      refine (unhide HC1 _ (unhide HB1)).mono ?_
      rintro e y2 ⟨rfl, hb⟩
      have HB2 := hide (show Below h w y2 from (unhide HB1).trans (hb.mono (by have := (unhide HB1).size; omega)))
      clear hb HB1
      go_wp2_with fail
      refine (unhide HC2 _ (unhide HB2)).mono ?_
      rintro e y3 ⟨rfl, hb⟩
      have HB3 := hide (show Below h w y3 from (unhide HB2).trans (hb.mono (by have := (unhide HB2).size; omega)))
      clear hb HB2
      go_wp2_with fail
      refine (unhide HCB _ (unhide HB3)).mono ?_
      rintro e y4 ⟨rfl, hb⟩
      have HB4 := hide (show Below h w y4 from (unhide HB3).trans (hb.mono (by have := (unhide HB3).size; omega)))
      clear hb HB3
      go_wp2
      go_ret
      exact ⟨rfl, unhide HB4⟩)
end Go.Proofs.YtkileaocgecckaaDoor
