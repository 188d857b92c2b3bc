import Derived.Test.YtilhilglokblpaaDoorQtu
import Derived.Test.YtilhilglokblpaaDoorQmn
import Derived.Test.YtilhilglokblpaaDoorQmh
import Derived.Test.YtilhilglokblpaaDoorQla
namespace Go.Proofs.YtilhilglokblpaaDoor
open Go.RowKit
set_option maxRecDepth 100000
theorem some19T (w : World) (l : List ByteArray) (q c B : Nat) (m : Nat) (p : Option Addr) (hq : l.length = q) (hS : SB w B p l) (hqc : q ≤ c) : Calls Tryd.prog 6 #[.slice p q c, .int .i64 (m : Int)] w fun e w' => e = .returned (.slice p (min q m) c) ∧ w' = w := by
  by_cases h : m < q
  · obtain ⟨g, o, rfl, _, _⟩ := hS 0 (by omega)
    rw [Nat.min_eq_right (by omega)]
    have e1 : (m : Int) < (q : Int) := by omega
    have e2 : (m : Int) ≤ (c : Int) := by omega
    clear hS hq
    go_enter Tryd.func6, Tryd.ntmps6
    go_wp2
    go_ret
    exact ⟨rfl, rfl⟩
  · rw [Nat.min_eq_left (by omega)]
    have e1 : ¬ (m : Int) < (q : Int) := by omega
    clear hS hq
    go_enter Tryd.func6, Tryd.ntmps6
    go_wp2
    go_ret
    exact ⟨rfl, rfl⟩
set_option maxRecDepth 100000
theorem own_ccT {w : World} {B n c : Nat} {p : Option Addr} {xs : List Value} (h : w.ownsRow B 9 1 (.slice p n c) n xs) : n ≤ c ∧ c ≤ 9223372036854775807 := by
  rcases h.2 with ⟨e1, e2⟩ | ⟨g2, cap2, cur2, e1, _, _, hn2, hc2, _⟩
  · injection e1 with _ _ e3
    omega
  · injection e1 with _ _ e3
    subst e3
    exact ⟨hn2, hc2⟩
theorem paL_lenT (l : List ByteArray) (i : Int) : (paL l i).length ≤ l.length := by
  unfold paL
  split
  · exact pt_len _ l rfl _
  · simp
theorem ck_ptT (l : List ByteArray) (q i : Nat) (hq : l.length = q) (hi : i < q) : ckE (rt l) (q : Int) (i : Int) (l.getD i ⟨#[]⟩) (pt l i) = if q ≤ 4096 then 0 else 190 := by
  unfold ckE
  rw [if_pos (rt_size _)]
  by_cases h : q ≤ 4096
  · rw [if_pos h, if_pos (by omega), Int.toNat_natCast, Int.toNat_natCast]
    obtain ⟨T, h1, _, h3⟩ := up_pt _ l rfl i (by omega)
    rw [hq] at h1
    rw [h1]
    exact if_pos h3
  · rw [if_neg h, if_neg (by omega)]
set_option maxRecDepth 100000
theorem gwL_lenT (l : List ByteArray) (i : Int) : (gwL l i).length ≤ l.length := by
  unfold gwL
  split
  · exact gr_len _ l rfl _ _ (by omega) (by omega)
  · simp
theorem cg_grT (l : List ByteArray) (q i : Nat) (hq : l.length = q) (hi : i ≤ q) : cgE (rt (l.take i)) (i : Int) (rt l) (q : Int) (gwL l (i : Int)) = if q ≤ 4096 then 0 else 191 := by
  unfold cgE
  rw [if_pos ⟨rt_size _, rt_size _⟩]
  by_cases h : q ≤ 4096
  · rw [if_pos h, if_pos (by omega), Int.toNat_natCast, Int.toNat_natCast]
    refine if_pos ?_
    unfold hgB
    by_cases h0 : i = 0
    · subst h0
      have e1 : gwL l ((0 : Nat) : Int) = [] := if_neg (by omega)
      rw [if_pos rfl, e1, List.take_zero, rt_nil]
      by_cases h1 : q = 0
      · have : l = [] := List.eq_nil_of_length_eq_zero (by omega)
        rw [this, rt_nil]
        simp
      · have : 0 < q := by omega
        simp [this]
    · have e1 : gwL l (i : Int) = gr l i true := by
        rw [gwL, if_pos (by omega), Int.toNat_natCast]
      rw [if_neg h0, e1, ← hq, cm_gr _ l rfl i true _ (by omega) (by omega) (fun _ => rfl)]
      simp
  · rw [if_neg h, if_neg (by omega)]
end Go.Proofs.YtilhilglokblpaaDoor
