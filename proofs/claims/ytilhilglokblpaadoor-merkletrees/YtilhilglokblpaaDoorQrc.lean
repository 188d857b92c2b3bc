import Derived.Test.YtilhilglokblpaaDoorQra
namespace Go.Proofs.YtilhilglokblpaaDoor
open Go.RowKit
set_option maxRecDepth 100000
set_option maxHeartbeats 2000000 in
theorem rroot_any : ∀ (m : Nat) (l : List ByteArray), l.length = m → ∀ (w : World) (B c : Nat) (p : Option Addr), SB w B p l → B ≤ w.heap.size → Sht l → m ≤ 65536 → m ≤ c → c ≤ 9223372036854775807 → Calls Tryd.prog 17 #[.slice p m c] w fun e w' => e = .returned (.string (rt l)) ∧ Below w.heap.size w w' := by
  intro m
  induction m using Nat.strongRecOn with
  | _ m ih =>
  intro l hl w B c p hS hB hT hm hmc hc9
  obtain ⟨h, hh⟩ : ∃ h, w.heap.size = h := ⟨_, rfl⟩
  have HB0 := hide (show Below h w w from Below.refl _ _)
  rw [hh]
  by_cases h0 : m = 0
  · subst h0
    obtain rfl : l = [] := List.eq_nil_of_length_eq_zero hl
    have HSU := hide (fun W => rdg_any ⟨#[]⟩ (by decide) W)
    rw [← rt_nil] at HSU
    generalize rt [] = r at *
    clear hS hT ih
    go_enter Tryd.func17, Tryd.ntmps17
    go_wp2_with fail
    refine (unhide HSU _).mono ?_
    rintro e y3 ⟨rfl, hb3⟩
    have HB4 := hide (show Below h w y3 from (unhide HB0).trans (hb3.mono (by omega)))
    clear hb3
    go_wp2
    go_ret
    exact ⟨rfl, unhide HB4⟩
  obtain ⟨g, o, rfl, hgB, hce⟩ := hS 0 (by omega)
  by_cases h1 : m = 1
  · subst h1
    obtain ⟨x, rfl⟩ : ∃ x, l = [x] := List.length_eq_one_iff.1 hl
    have hxs := hT 0 (by simp)
    change x.size ≤ _ at hxs
    change w.cell? ⟨g, o, none⟩ = some (.string x) at hce
    have HLF := hide (fun W => rleaf_any x hxs W)
    rw [← rt_one] at HLF
    generalize rt [x] = r at *
    clear hS hT ih
    go_enter Tryd.func17, Tryd.ntmps17
    go_wp2_with fail
    refine (unhide HLF _).mono ?_
    rintro e y3 ⟨rfl, hb3⟩
    have HB4 := hide (show Below h w y3 from (unhide HB0).trans (hb3.mono (by omega)))
    clear hb3
    go_wp2
    go_ret
    exact ⟨rfl, unhide HB4⟩
  have k1 := kk_pos m
  have k2 := kk_lt m (by omega)
  have HF := hide (fun W => rbelow_any m (by omega) hm W)
  have HL := hide (show ∀ W, Below h w W → Calls Tryd.prog 17 #[.slice (some ⟨g, o, none⟩) (kk m) c] W fun e w' => e = .returned (.string (rt (l.take (kk m)))) ∧ Below W.heap.size W w' from fun W hW => ih (kk m) k2 (l.take (kk m)) (by rw [List.length_take]; omega) W B c _ ((hS.below (hW.mono (by omega))).take _) (by have := hW.size; omega) (hT.take _) (by omega) (by omega) hc9)
  have HR := hide (show ∀ W, Below h w W → Calls Tryd.prog 17 #[.slice (some ⟨g, o + kk m, none⟩) (m - kk m) (c - kk m)] W fun e w' => e = .returned (.string (rt (l.drop (kk m)))) ∧ Below W.heap.size W w' from fun W hW => ih (m - kk m) (by omega) (l.drop (kk m)) (by rw [List.length_drop]; omega) W B (c - kk m) _ ((hS.below (hW.mono (by omega))).drop _) (by have := hW.size; omega) (hT.drop _) (by omega) (by omega) (by omega))
  have HO := hide (fun W => rnode_any (rt (l.take (kk m))) (rt (l.drop (kk m))) (rt_size _) (rt_size _) W)
  have hrt := rt_two l (by omega)
  rw [hl] at hrt
  rw [← hrt] at HO
  generalize rt (l.take (kk m)) = ra at *
  generalize rt (l.drop (kk m)) = rb at *
  generalize rt l = rn at *
  generalize kk m = k at *
  have e1 : (k : Int) ≤ (m : Int) := by omega
  have e2 : (m : Int) ≤ (c : Int) := by omega
  have e3 : ((m : Int) == 0) = false := by simp; omega
  have e4 : ((m : Int) == 1) = false := by simp; omega
  clear hS hT hce hrt hl ih h0 h1
  go_enter Tryd.func17, Tryd.ntmps17
  go_wp2_with fail
  refine (unhide HF _).mono ?_
  rintro e y2 ⟨rfl, hy2⟩
  subst y2
  go_wp2_with fail
  refine (unhide HL _ (unhide HB0)).mono ?_
  rintro e y3 ⟨rfl, hb3⟩
  have HB4 := hide (show Below h w y3 from (unhide HB0).trans (hb3.mono (by omega)))
  clear hb3
  go_wp2_with fail
  refine (unhide HR _ (unhide HB4)).mono ?_
  rintro e y4 ⟨rfl, hb3⟩
  have HB5 := hide (show Below h w y4 from (unhide HB4).trans (hb3.mono (by have := (unhide HB4).size; omega)))
  clear hb3
  go_wp2_with fail
  refine (unhide HO _).mono ?_
  rintro e y5 ⟨rfl, hb3⟩
  have HB6 := hide (show Below h w y5 from (unhide HB5).trans (hb3.mono (by have := (unhide HB5).size; omega)))
  clear hb3
  go_wp2
  go_ret
  exact ⟨rfl, unhide HB6⟩
end Go.Proofs.YtilhilglokblpaaDoor
