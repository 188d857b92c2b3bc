import Derived.Test.YtkileaocgecckaaDoorQpt
import Derived.Test.YtkileaocgecckaaDoorQmd
import Derived.Test.YtkileaocgecckaaDoorRsu
namespace Go.Proofs.YtkileaocgecckaaDoor
open Go.RowKit
set_option maxRecDepth 100000
theorem rdg_any (t : ByteArray) (ht : t.size ≤ 140737488355200) (w : World) : Calls Tryd.prog 16 #[.string t] w fun e w' => e = .returned (.string (dg t)) ∧ Below w.heap.size w w' := rsum_any t (by omega) w
set_option maxHeartbeats 1000000 in
theorem rbelow_any (n : Nat) (h2 : 2 ≤ n) (hn : n ≤ 65536) (w : World) : Calls Tryd.prog 59 #[.int .i64 (n : Int)] w fun e w' => e = .returned (.int .i64 (kk n : Int)) ∧ w' = w := by
  obtain ⟨K, hK⟩ : ∃ z, kk n = z := ⟨_, rfl⟩
  have HK := hide hK
  rw [hK]
  clear hK
  go_enter Tryd.func59, Tryd.ntmps59
  go_wp2
  go_loopw [3] (fun i wr => ∃ k : Nat, 1 ≤ k ∧ k < n ∧ i = .int .i64 (k : Int) ∧ Hid (∃ e, k = 2 ^ e) ∧ wr = w) (fun i _ => n - (intOf i).toNat)
  case atStart => exact ⟨1, by omega, by omega, rfl, ⟨0, rfl⟩, rfl⟩
  case round =>
  obtain ⟨k, hk1, hk2, rfl, HE, hw⟩ := hrel
  subst wr
  have e0 : IntKind.i64.wrap (2 * (k : Int)) = 2 * (k : Int) := wrapI_eq _ (by omega) (by omega)
  by_cases hkn : 2 * k < n
  · have e1 : 2 * (k : Int) < (n : Int) := by omega
    have HE2 := hide (show ∃ e, 2 * k = 2 ^ e from by obtain ⟨e, he⟩ := unhide HE; exact ⟨e + 1, by rw [Nat.pow_succ]; omega⟩)
    clear HE
    go_wp2
    go_roundw
    case rel => exact ⟨2 * k, by omega, by omega, by go_num, HE2, by first | rfl | trivial⟩
    case measure => simp [intOf] <;> omega
  · have e1 : ¬ 2 * (k : Int) < (n : Int) := by omega
    have HR := hide (show k = K from by
      obtain ⟨e, he⟩ := unhide HE
      rw [← unhide HK, kk_is n e (by omega) (by rw [Nat.pow_succ]; omega), he])
    clear HE
    go_wp2
    go_ret
    exact ⟨by rw [unhide HR]; rfl, rfl⟩
theorem rleaf_any (s : ByteArray) (hs : s.size ≤ 140737488355000) (w : World) : Calls Tryd.prog 33 #[.string s] w fun e w' => e = .returned (.string (lf s)) ∧ Below w.heap.size w w' := by
  have HR := hide (rdg_any (mk0 ++ s) (by rw [ByteArray.size_append, mk0_size]; omega) w)
  rw [show dg (mk0 ++ s) = lf s from rfl] at HR
  have z0 : (⟨#[0]⟩ : ByteArray).size = 1 := rfl
  obtain ⟨u, hu⟩ : ∃ u, (⟨#[0]⟩ : ByteArray) ++ s = u := ⟨_, rfl⟩
  rw [show mk0 ++ s = u from hu] at HR
  generalize lf s = r at *
  go_enter Tryd.func33, Tryd.ntmps33
  go_wp2_with fail
  refine (unhide HR).mono ?_
  rintro e z ⟨rfl, hb⟩
  have HB := hide hb
  clear hb HR
  go_wp2
  go_ret
  exact ⟨rfl, unhide HB⟩
theorem rnode_any (a b : ByteArray) (ha : a.size = 32) (hb : b.size = 32) (w : World) : Calls Tryd.prog 58 #[.string a, .string b] w fun e w' => e = .returned (.string (ndB a b)) ∧ Below w.heap.size w w' := by
  have HR := hide (rdg_any (mk1 ++ a ++ b) (by simp only [ByteArray.size_append, mk1_size, ha, hb]; omega) w)
  rw [show dg (mk1 ++ a ++ b) = ndB a b from rfl] at HR
  have z0 : (⟨#[1]⟩ : ByteArray).size = 1 := rfl
  obtain ⟨u, hu⟩ : ∃ u, (⟨#[1]⟩ : ByteArray) ++ a = u := ⟨_, rfl⟩
  obtain ⟨v, hv⟩ : ∃ v, u ++ b = v := ⟨_, rfl⟩
  have z1 : u.size = 33 := by rw [← hu, ByteArray.size_append, ha]; rfl
  rw [show mk1 ++ a ++ b = v from by rw [← hv, ← hu]; rfl] at HR
  generalize ndB a b = r at *
  go_enter Tryd.func58, Tryd.ntmps58
  go_wp2_with fail
  refine (unhide HR).mono ?_
  rintro e z ⟨rfl, hb⟩
  have HB := hide hb
  clear hb HR
  go_wp2
  go_ret
  exact ⟨rfl, unhide HB⟩
theorem gr_boo : (Tryd.prog.info? 4).map (fun i => (i.zero, i.size, i.bytes)) = some (some (.bool false), 1, 1) := by kernel_rfl
/-- a list of sides comes out, new -/
def BQ (w : World) (L : List Bool) (e : Ending) (w' : World) : Prop := ∃ v, e = .returned v ∧ w'.ownsRow w.heap.size 4 1 v L.length (L.map Value.bool) ∧ Below w.heap.size w w'
set_option maxHeartbeats 2000000 in
theorem rsides_any : ∀ (n i : Nat) (w : World), 1 ≤ n → n ≤ 65536 → i < n → Calls Tryd.prog 55 #[.int .i64 (n : Int), .int .i64 (i : Int)] w (BQ w (sd n i)) := by
  intro n
  induction n using Nat.strongRecOn with
  | _ n ih =>
  intro i w hn1 hn hin
  obtain ⟨h, hh⟩ : ∃ h, w.heap.size = h := ⟨_, rfl⟩
  by_cases h1 : n = 1
  · have HE := hide (show BQ w (sd n i) (.returned (.slice none 0 0)) w from by rw [sd_one n i (by omega)]; exact ⟨_, rfl, ⟨rfl, .inl ⟨rfl, rfl⟩⟩, Below.refl _ _⟩)
    have e4 : ((n : Int) == 1) = true := by simp; omega
    clear ih
    go_enter Tryd.func55, Tryd.ntmps55
    go_wp2
    go_ret
    exact unhide HE
  have k1 := kk_pos n
  have k2 := kk_lt n (by omega)
  have e4 : ((n : Int) == 1) = false := by simp; omega
  have HF := hide (fun W => rbelow_any n (by omega) hn W)
  obtain ⟨i0, hi, hz0, hz1, hz2⟩ := info_parts gr_boo
  have HI := hide (And.intro hi (And.intro hz0 (And.intro hz1 hz2)))
  clear hi hz0 hz1 hz2
  by_cases hik : i < kk n
  · have e5 : (i : Int) < (kk n : Int) := by omega
    have HP := hide (ih (kk n) k2 i w k1 (by omega) hik)
    have hL := sd_left n i (by omega) hik
    have hlen := sd_len (kk n) i
    obtain ⟨A, hA⟩ : ∃ z, sd (kk n) i = z := ⟨_, rfl⟩
    obtain ⟨na, hna⟩ : ∃ z, A.length = z := ⟨_, rfl⟩
    rw [hA] at HP hL hlen
    rw [hna] at hlen
    have hn9 : na ≤ 65536 := by omega
    have HF9 := hide (show ∀ g5 cap5 x5, x5.ownsRow h 4 1 (.slice (some ⟨g5, 0, none⟩) (na + 1) cap5) (na + 1) (A.map Value.bool ++ [.bool true]) → Below h w x5 → BQ w (sd n i) (.returned (.slice (some ⟨g5, 0, none⟩) (na + 1) cap5)) x5 from fun g5 cap5 x5 a1 a2 => ⟨_, rfl, by rw [hL, hh, List.length_append, hna, List.map_append]; exact a1, by rw [hh]; exact a2⟩)
    clear hL hA hlen ih
    generalize kk n = k at *
    go_enter Tryd.func55, Tryd.ntmps55
    go_wp2_with fail
    refine (unhide HF _).mono ?_
    rintro e y0 ⟨rfl, hy0⟩
    subst y0
    go_wp2_with fail
    refine (unhide HP).mono ?_
    rintro e y1 ⟨v, rfl, ho, hb⟩
    rw [hna, hh] at ho
    obtain ⟨pv, cv, rfl, _⟩ := gr_form ho
    have HO := hide (ho.alloc (.cells #[.bool true] 4))
    have HB := hide (show Below h w y1 from by rw [← hh]; exact hb)
    have hs : h ≤ y1.heap.size := by have := (unhide HB).size; omega
    clear ho hb HP
    go_wp2_with (refine wpList_append_lies _ rfl (.tmp 18) (.tmp 19) 81 rfl h 4 i0 (.bool false) 1 1 Tryd.underlying81 (unhide HI).1 (unhide HI).2.1 (unhide HI).2.2.1 (unhide HI).2.2.2 rfl (by decide) _ na _ rfl (unhide HO) ⟨y1.heap.size, 0, none⟩ 1 1 [.bool true] rfl rfl (fun q u hu => gr_new y1 4 _ q u hu) (by simp [Value.oneCell']) (by decide) (by unfold maxLen; omega) (by omega) (by simp; omega) (y1.heap.size + 1) (by simp) ?_)
    intro g5 cap5 x5 ho5 hg5 _ _
    have HN := hide (unhide HF9 g5 cap5 x5 ho5 (((unhide HB).alloc hs _).grown hg5 (by simp; omega) (fun q hq => ((unhide HO).lt q hq).1)))
    clear ho5 hg5 HO HB
    go_wp2
    go_ret
    exact unhide HN
  · have e5 : ¬ (i : Int) < (kk n : Int) := by omega
    have HP := hide (ih (n - kk n) (by omega) (i - kk n) w (by omega) (by omega) (by omega))
    have hL := sd_right n i (by omega) hik
    have hlen := sd_len (n - kk n) (i - kk n)
    have hd1 : ((n : Int) - (kk n : Int)) = ((n - kk n : Nat) : Int) := by omega
    have hd2 : IntKind.i64.wrap ((n - kk n : Nat) : Int) = ((n - kk n : Nat) : Int) := wrapI_eq _ (by omega) (by omega)
    have hd3 : ((i : Int) - (kk n : Int)) = ((i - kk n : Nat) : Int) := by omega
    have hd4 : IntKind.i64.wrap ((i - kk n : Nat) : Int) = ((i - kk n : Nat) : Int) := wrapI_eq _ (by omega) (by omega)
    obtain ⟨A, hA⟩ : ∃ z, sd (n - kk n) (i - kk n) = z := ⟨_, rfl⟩
    obtain ⟨na, hna⟩ : ∃ z, A.length = z := ⟨_, rfl⟩
    rw [hA] at HP hL hlen
    rw [hna] at hlen
    have hn9 : na ≤ 65536 := by omega
    have HF9 := hide (show ∀ g5 cap5 x5, x5.ownsRow h 4 1 (.slice (some ⟨g5, 0, none⟩) (na + 1) cap5) (na + 1) (A.map Value.bool ++ [.bool false]) → Below h w x5 → BQ w (sd n i) (.returned (.slice (some ⟨g5, 0, none⟩) (na + 1) cap5)) x5 from fun g5 cap5 x5 a1 a2 => ⟨_, rfl, by rw [hL, hh, List.length_append, hna, List.map_append]; exact a1, by rw [hh]; exact a2⟩)
    clear hL hA hlen ih
    generalize n - kk n = n' at *
    generalize i - kk n = i' at *
    generalize kk n = k at *
    go_enter Tryd.func55, Tryd.ntmps55
    go_wp2_with fail
    refine (unhide HF _).mono ?_
    rintro e y0 ⟨rfl, hy0⟩
    subst y0
    go_wp2_with fail
    refine (unhide HP).mono ?_
    rintro e y1 ⟨v, rfl, ho, hb⟩
    rw [hna, hh] at ho
    obtain ⟨pv, cv, rfl, _⟩ := gr_form ho
    have HO := hide (ho.alloc (.cells #[.bool false] 4))
    have HB := hide (show Below h w y1 from by rw [← hh]; exact hb)
    have hs : h ≤ y1.heap.size := by have := (unhide HB).size; omega
    clear ho hb HP
    go_wp2_with (refine wpList_append_lies _ rfl (.tmp 28) (.tmp 29) 81 rfl h 4 i0 (.bool false) 1 1 Tryd.underlying81 (unhide HI).1 (unhide HI).2.1 (unhide HI).2.2.1 (unhide HI).2.2.2 rfl (by decide) _ na _ rfl (unhide HO) ⟨y1.heap.size, 0, none⟩ 1 1 [.bool false] rfl rfl (fun q u hu => gr_new y1 4 _ q u hu) (by simp [Value.oneCell']) (by decide) (by unfold maxLen; omega) (by omega) (by simp; omega) (y1.heap.size + 1) (by simp) ?_)
    intro g5 cap5 x5 ho5 hg5 _ _
    have HN := hide (unhide HF9 g5 cap5 x5 ho5 (((unhide HB).alloc hs _).grown hg5 (by simp; omega) (fun q hq => ((unhide HO).lt q hq).1)))
    clear ho5 hg5 HO HB
    go_wp2
    go_ret
    exact unhide HN
set_option maxHeartbeats 1000000 in
theorem rformed_any (P : List ByteArray) (q n : Nat) (hq : P.length = q) (w : World) (B c : Nat) (p : Option Addr) (hS : SB w B p P) (hq9 : q ≤ 8796093022200) (_hn : n ≤ 65536) : Calls Tryd.prog 56 #[.slice p q c, .int .i64 (n : Int)] w fun e w' => Hid ((Fmd P n → e = .returned (.bool true)) ∧ (¬ Fmd P n → e = .returned (.bool false))) ∧ w' = w := by
  have HS := hide hS
  have HQ := hide hq
  by_cases h1 : q = n
  case neg =>
    have HF := hide (show ¬ Fmd P n from fun hf => h1 (by rw [← hf.1]; exact hq.symm))
    have e1 : ((q : Int) != (n : Int)) = true := by simp; omega
    clear hS hq
    go_enter Tryd.func56, Tryd.ntmps56
    go_wp2
    go_ret
    exact ⟨⟨fun hf => absurd hf (unhide HF), fun _ => rfl⟩, rfl⟩
  have e1 : ((q : Int) != (n : Int)) = false := by simp; omega
  have HN := hide h1
  clear hS hq h1
  go_enter Tryd.func56, Tryd.ntmps56
  go_wp2
  go_loopw [5] (fun i wr => ∃ k : Nat, k ≤ q ∧ i = .int .i64 (k : Int) ∧ Hid (∀ j, j < k → (P.getD j ⟨#[]⟩).size = 32) ∧ wr = w) (fun i _ => q - (intOf i).toNat)
  case atStart => exact ⟨0, by omega, rfl, fun j hj => absurd hj (by omega), rfl⟩
  case round =>
  obtain ⟨k, hk, rfl, HJ, hw⟩ := hrel
  subst wr
  by_cases hkq : k < q
  · have e2 : (k : Int) < (q : Int) := by omega
    obtain ⟨g, o, rfl, _, hc⟩ := unhide HS k (by rw [unhide HQ]; exact hkq)
    obtain ⟨t, ht⟩ : ∃ z, P.getD k ⟨#[]⟩ = z := ⟨_, rfl⟩
    rw [ht] at hc
    by_cases ht9 : t.size = 32
    · have e3 : ((t.size : Int) != 32) = false := by rw [ht9]; rfl
      have HJ2 := hide (show ∀ j, j < k + 1 → (P.getD j ⟨#[]⟩).size = 32 from fun j hj => by
        by_cases e : j = k
        · rw [e, ht]; exact ht9
        · exact unhide HJ j (by omega))
      clear HJ ht ht9
      go_wp2
      go_roundw
      case rel => exact ⟨k + 1, by omega, by go_num, HJ2, by first | rfl | trivial⟩
      case measure => simp [intOf] <;> omega
    · have e3 : ((t.size : Int) != 32) = true := by simp; omega
      have HF := hide (show ¬ Fmd P n from fun hf => ht9 (by rw [← ht]; exact hf.2 k (by rw [unhide HQ]; exact hkq)))
      clear HJ ht ht9
      go_wp2
      go_ret
      exact ⟨⟨fun hf => absurd hf (unhide HF), fun _ => rfl⟩, rfl⟩
  · have e2 : ¬ (k : Int) < (q : Int) := by omega
    have HF := hide (show Fmd P n from ⟨by rw [unhide HQ]; exact unhide HN, fun j hj => unhide HJ j (by rw [unhide HQ] at hj; omega)⟩)
    clear HJ
    go_wp2
    go_ret
    exact ⟨⟨fun _ => rfl, fun hf => absurd (unhide HF) hf⟩, rfl⟩
end Go.Proofs.YtkileaocgecckaaDoor
