import Derived.Test.YtkileaocgecckabDoorQrc
import Derived.Test.YtkileaocgecckabDoorQme
namespace Go.Proofs.YtkileaocgecckabDoor
open Go.RowKit
set_option maxRecDepth 100000
set_option maxHeartbeats 2000000 in
theorem rproof_any : ∀ (q : Nat) (l : List ByteArray), l.length = q → ∀ (i : Nat), 1 ≤ i → i ≤ q → ∀ (b : Bool) (w : World) (B c : Nat) (p : Option Addr), SB w B p l → B ≤ w.heap.size → Sht l → q ≤ 65536 → q ≤ c → c ≤ 9223372036854775807 → Calls Tryd.prog 52 #[.int .i64 (i : Int), .slice p q c, .bool b] w (LQ w (gr l i b)) := by
  intro q
  induction q using Nat.strongRecOn with
  | _ m ih =>
  intro l hl i hi1 him b w B c p hS hB hT hm hmc hc9
  obtain ⟨h, hh⟩ : ∃ h, w.heap.size = h := ⟨_, rfl⟩
  obtain ⟨g, o, rfl, hgB, hce⟩ := hS 0 (by omega)
  obtain ⟨i0, hi, hz0, hz1, hz2⟩ := info_parts gr_str
  have HI := hide (And.intro hi (And.intro hz0 (And.intro hz1 hz2)))
  clear hi hz0 hz1 hz2
  by_cases h1 : i = m
  · have e4 : ((i : Int) == (m : Int)) = true := by simp; omega
    cases b with
    | true =>
      have HE := hide (show LQ w (gr l i true) (.returned (.slice none 0 0)) w from by rw [h1, ← hl, gr_all, if_pos rfl]; exact LQ.nil)
      clear ih hS hT hl h1
      go_enter Tryd.func52, Tryd.ntmps52
      go_wp2
      go_ret
      exact unhide HE
    | false =>
      have HR := hide (rroot_any m l hl w B c _ hS hB hT hm hmc hc9)
      have HE := hide (show ∀ y, Below h w y → LQ w (gr l i false) (.returned (.slice (some ⟨y.heap.size, 0, none⟩) 1 1)) (y.alloc (.cells #[.string (rt l)] 9)) from fun y hy => by
        rw [h1, ← hl, gr_all, if_neg (by simp)]
        refine ⟨_, rfl, ⟨rfl, .inr ⟨y.heap.size, 1, #[.string (rt l)], rfl, by have := hy.size; omega, ?_, Nat.le_refl _, by unfold maxLen; omega, rfl, rfl⟩⟩, ?_⟩
        · exact Blk.new y 9 #[.string (rt l)]
        · rw [hh]; exact hy.alloc (by have := hy.size; omega) _)
      generalize rt l = r at *
      clear ih hS hT hl h1
      go_enter Tryd.func52, Tryd.ntmps52
      go_wp2_with fail
      refine (unhide HR).mono ?_
      rintro e y1 ⟨rfl, hb⟩
      have HB1 := hide (show Below h w y1 from by rw [← hh]; exact hb)
      clear hb HR
      go_wp2
      go_ret
      exact unhide HE _ (unhide HB1)
  have k1 := kk_pos m
  have k2 := kk_lt m (by omega)
  have HF := hide (fun W => rbelow_any m (by omega) hm W)
  have e4 : ((i : Int) == (m : Int)) = false := by simp; omega
  have e1 : (kk m : Int) ≤ (m : Int) := by omega
  have e2 : (m : Int) ≤ (c : Int) := by omega
  by_cases hik : i ≤ kk m
  · have e5 : (i : Int) ≤ (kk m : Int) := by omega
    have HP := hide (show Calls Tryd.prog 52 #[.int .i64 ((i : Nat) : Int), .slice (some ⟨g, o, none⟩) (kk m) c, .bool b] w (LQ w (gr (l.take (kk m)) (i) b)) from ih (kk m) (by omega) (l.take (kk m)) (by rw [List.length_take]; omega) (i) (by omega) (by omega) b w B c _ (hS.take _) hB (hT.take _) (by omega) (by omega) (by omega))
    have HR := hide (show ∀ W, Below h w W → Calls Tryd.prog 26 #[.slice (some ⟨g, o + kk m, none⟩) (m - kk m) (c - kk m)] W fun e w' => e = .returned (.string (rt (l.drop (kk m)))) ∧ Below W.heap.size W w' from fun W hW => rroot_any (m - kk m) (l.drop (kk m)) (by rw [List.length_drop]; omega) W B (c - kk m) _ ((hS.below (hW.mono (by omega))).drop _) (by have := hW.size; omega) (hT.drop _) (by omega) (by omega) (by omega))
    have hL := gr_left l i b (by omega) (by omega) (by rw [hl]; exact hik)
    have hlen := gr_len _ (l.take (kk m)) rfl (i) b (by omega) (by rw [List.length_take]; omega)
    obtain ⟨A, hA⟩ : ∃ z, gr (l.take (kk m)) (i) b = z := ⟨_, rfl⟩
    obtain ⟨r, hr⟩ : ∃ z, rt (l.drop (kk m)) = z := ⟨_, rfl⟩
    obtain ⟨na, hna⟩ : ∃ z, A.length = z := ⟨_, rfl⟩
    rw [hA] at HP
    rw [hr] at HR
    simp only [hl] at hL
    rw [hA, hr] at hL
    rw [hA, hna, List.length_take] at hlen
    have hn9 : na ≤ 65536 := by omega
    have HF9 := hide (show ∀ g5 cap5 x5, x5.ownsRow h 9 1 (.slice (some ⟨g5, 0, none⟩) (na + 1) cap5) (na + 1) (A.map Value.string ++ [.string r]) → Below h w x5 → LQ w (gr l i b) (.returned (.slice (some ⟨g5, 0, none⟩) (na + 1) cap5)) x5 from fun g5 cap5 x5 a1 a2 => ⟨_, rfl, by rw [hL, hh, List.length_append, hna, List.map_append]; exact a1, by rw [hh]; exact a2⟩)
    clear hL hA hr hlen
    clear hS hT hce hl ih
    generalize kk m = k at *
    go_enter Tryd.func52, Tryd.ntmps52
    go_wp2_with fail
    refine (unhide HF _).mono ?_
    rintro e y0 ⟨rfl, hy0⟩
    subst y0
    go_wp2_with fail
    refine (unhide HP).mono ?_
    rintro e y1 ⟨v, rfl, ho, hb⟩
    rw [hna, hh] at ho
    obtain ⟨pv, cv, rfl, _⟩ := gr_form ho
    have HO := hide ho
    have HB := hide (show Below h w y1 from by rw [← hh]; exact hb)
    clear ho hb HP
    go_wp2_with fail
    refine (unhide HR _ (unhide HB)).mono ?_
    rintro e y2 ⟨rfl, hb⟩
    have HO2 := hide ((own_bel (unhide HO) hb).alloc (.cells #[.string r] 9))
    have HB2 := hide (show Below h w y2 from (unhide HB).trans (hb.mono (by have := (unhide HB).size; omega)))
    have hs : h ≤ y2.heap.size := by have := (unhide HB2).size; omega
    clear hb HO HB
    go_wp2_with (refine wpList_append_lies _ rfl (.tmp 30) (.tmp 35) 22 rfl h 9 i0 (.string ⟨#[]⟩) 1 16 Tryd.underlying22 (unhide HI).1 (unhide HI).2.1 (unhide HI).2.2.1 (unhide HI).2.2.2 rfl (by decide) _ na _ rfl (unhide HO2) ⟨y2.heap.size, 0, none⟩ 1 1 [.string r] rfl rfl (fun q u hu => gr_new y2 9 _ q u hu) (by simp [Value.oneCell']) (by decide) (by unfold maxLen; omega) (by omega) (by simp; omega) (y2.heap.size + 1) (by simp) ?_)
    intro g5 cap5 x5 ho5 hg5 _ _
    have HN := hide (unhide HF9 g5 cap5 x5 ho5 (((unhide HB2).alloc hs _).grown hg5 (by simp; omega) (fun q hq => ((unhide HO2).lt q hq).1)))
    clear ho5 hg5 HO2 HB2
    go_wp2
    go_ret
    exact unhide HN
  · have e5 : ¬ (i : Int) ≤ (kk m : Int) := by omega
    have HP := hide (show Calls Tryd.prog 52 #[.int .i64 ((i - kk m : Nat) : Int), .slice (some ⟨g, o + kk m, none⟩) (m - kk m) (c - kk m), .bool false] w (LQ w (gr (l.drop (kk m)) (i - kk m) false)) from ih (m - kk m) (by omega) (l.drop (kk m)) (by rw [List.length_drop]; omega) (i - kk m) (by omega) (by omega) false w B (c - kk m) _ (hS.drop _) hB (hT.drop _) (by omega) (by omega) (by omega))
    have HR := hide (show ∀ W, Below h w W → Calls Tryd.prog 26 #[.slice (some ⟨g, o, none⟩) (kk m) c] W fun e w' => e = .returned (.string (rt (l.take (kk m)))) ∧ Below W.heap.size W w' from fun W hW => rroot_any (kk m) (l.take (kk m)) (by rw [List.length_take]; omega) W B c _ ((hS.below (hW.mono (by omega))).take _) (by have := hW.size; omega) (hT.take _) (by omega) (by omega) (by omega))
    have hL := gr_right l i b (by omega) (by omega) (by rw [hl]; exact hik)
    have hlen := gr_len _ (l.drop (kk m)) rfl (i - kk m) false (by omega) (by rw [List.length_drop]; omega)
    obtain ⟨A, hA⟩ : ∃ z, gr (l.drop (kk m)) (i - kk m) false = z := ⟨_, rfl⟩
    obtain ⟨r, hr⟩ : ∃ z, rt (l.take (kk m)) = z := ⟨_, rfl⟩
    obtain ⟨na, hna⟩ : ∃ z, A.length = z := ⟨_, rfl⟩
    rw [hA] at HP
    rw [hr] at HR
    simp only [hl] at hL
    rw [hA, hr] at hL
    rw [hA, hna, List.length_drop] at hlen
    have hn9 : na ≤ 65536 := by omega
    have HF9 := hide (show ∀ g5 cap5 x5, x5.ownsRow h 9 1 (.slice (some ⟨g5, 0, none⟩) (na + 1) cap5) (na + 1) (A.map Value.string ++ [.string r]) → Below h w x5 → LQ w (gr l i b) (.returned (.slice (some ⟨g5, 0, none⟩) (na + 1) cap5)) x5 from fun g5 cap5 x5 a1 a2 => ⟨_, rfl, by rw [hL, hh, List.length_append, hna, List.map_append]; exact a1, by rw [hh]; exact a2⟩)
    clear hL hA hr hlen
    have hd3 : ((i : Int) - (kk m : Int)) = ((i - kk m : Nat) : Int) := by omega
    have hd4 : IntKind.i64.wrap ((i - kk m : Nat) : Int) = ((i - kk m : Nat) : Int) := wrapI_eq _ (by omega) (by omega)
    clear hS hT hce hl ih
    generalize i - kk m = i' at *
    generalize kk m = k at *
    go_enter Tryd.func52, Tryd.ntmps52
    go_wp2_with fail
    refine (unhide HF _).mono ?_
    rintro e y0 ⟨rfl, hy0⟩
    subst y0
    go_wp2_with fail
    refine (unhide HP).mono ?_
    rintro e y1 ⟨v, rfl, ho, hb⟩
    rw [hna, hh] at ho
    obtain ⟨pv, cv, rfl, _⟩ := gr_form ho
    have HO := hide ho
    have HB := hide (show Below h w y1 from by rw [← hh]; exact hb)
    clear ho hb HP
    go_wp2_with fail
    refine (unhide HR _ (unhide HB)).mono ?_
    rintro e y2 ⟨rfl, hb⟩
    have HO2 := hide ((own_bel (unhide HO) hb).alloc (.cells #[.string r] 9))
    have HB2 := hide (show Below h w y2 from (unhide HB).trans (hb.mono (by have := (unhide HB).size; omega)))
    have hs : h ≤ y2.heap.size := by have := (unhide HB2).size; omega
    clear hb HO HB
    go_wp2_with (refine wpList_append_lies _ rfl (.tmp 44) (.tmp 49) 22 rfl h 9 i0 (.string ⟨#[]⟩) 1 16 Tryd.underlying22 (unhide HI).1 (unhide HI).2.1 (unhide HI).2.2.1 (unhide HI).2.2.2 rfl (by decide) _ na _ rfl (unhide HO2) ⟨y2.heap.size, 0, none⟩ 1 1 [.string r] rfl rfl (fun q u hu => gr_new y2 9 _ q u hu) (by simp [Value.oneCell']) (by decide) (by unfold maxLen; omega) (by omega) (by simp; omega) (y2.heap.size + 1) (by simp) ?_)
    intro g5 cap5 x5 ho5 hg5 _ _
    have HN := hide (unhide HF9 g5 cap5 x5 ho5 (((unhide HB2).alloc hs _).grown hg5 (by simp; omega) (fun q hq => ((unhide HO2).lt q hq).1)))
    clear ho5 hg5 HO2 HB2
    go_wp2
    go_ret
    exact unhide HN
set_option maxHeartbeats 1000000 in
theorem rGrown_any (l : List ByteArray) (q : Nat) (hl : l.length = q) (i : Int) (w : World) (B c : Nat) (p : Option Addr) (hS : SB w B p l) (hB : B ≤ w.heap.size) (hT : Sht l) (hm : q ≤ 65536) (hmc : q ≤ c) (hc9 : c ≤ 9223372036854775807) : Calls Tryd.prog 30 #[.slice p q c, .int .i64 i] w (LQ2 w (gwL l i) (gwE q i)) := by
  by_cases h : 1 ≤ i ∧ i ≤ (q : Int)
  · obtain ⟨h1, h2⟩ := h
    obtain ⟨n, rfl⟩ : ∃ n : Nat, i = (n : Int) := ⟨i.toNat, by omega⟩
    have HP := hide (rproof_any q l hl n (by omega) (by omega) true w B c p hS hB hT hm hmc hc9)
    have HE := hide (show ∀ v z, z.ownsRow w.heap.size 9 1 v (gr l n true).length ((gr l n true).map Value.string) → Below w.heap.size w z → LQ2 w (gwL l (n : Int)) (gwE q (n : Int)) (.returned (.tuple #[v, .int .i64 0])) z from fun v z a1 a2 => by
      rw [gwL, gwE, if_pos ⟨h1, by rw [hl]; exact h2⟩, if_pos ⟨by omega, h2⟩, Int.toNat_natCast]
      exact ⟨v, rfl, a1, a2⟩)
    have e1 : ¬ (n : Int) < 0 := by omega
    have e2 : ¬ (q : Int) < (n : Int) := by omega
    have e3 : ((n : Int) == 0) = false := by simp; omega
    clear hS hB hT hl
    go_enter Tryd.func30, Tryd.ntmps30
    go_wp2_with fail
    refine (unhide HP).mono ?_
    rintro e z ⟨v, rfl, ho, hb⟩
    have HF := hide (unhide HE v z ho hb)
    clear ho hb HE
    go_wp2
    go_ret2
    exact unhide HF
  · by_cases h0 : i = 0
    · subst h0
      have HE := hide (show LQ2 w (gwL l 0) (gwE q 0) (.returned (.tuple #[.slice none 0 0, .int .i64 0])) w from by
        rw [gwL, gwE, if_neg (by omega), if_pos (by omega)]
        exact LQ2.nil 0)
      have e2 : ¬ (q : Int) < 0 := by omega
      clear hS hB hT hl h
      go_enter Tryd.func30, Tryd.ntmps30
      go_wp2
      go_ret2
      exact unhide HE
    have HE := hide (show LQ2 w (gwL l i) (gwE q i) (.returned (.tuple #[.slice none 0 0, .int .i64 191])) w from by
      rw [gwL, gwE, if_neg (by rw [hl]; exact h), if_neg (by omega)]
      exact LQ2.nil 191)
    clear hS hB hT hl
    by_cases h1 : i < 0
    · go_enter Tryd.func30, Tryd.ntmps30
      go_wp2
      go_ret2
      exact unhide HE
    · have h2 : (q : Int) < i := by omega
      clear h
      go_enter Tryd.func30, Tryd.ntmps30
      go_wp2
      go_ret2
      exact unhide HE
end Go.Proofs.YtkileaocgecckabDoor
