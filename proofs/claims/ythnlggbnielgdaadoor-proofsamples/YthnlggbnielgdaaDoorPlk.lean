import Derived.Test.YthnlggbnielgdaaDoorPlj
import Derived.Test.YthnlggbnielgdaaDoorPld
import Derived.BigQuiet
namespace Go.Proofs.YthnlggbnielgdaaDoor
open Go.RowKit Go.Conc
set_option maxRecDepth 100000
theorem nums_extract (s : ByteArray) (a b : Nat) : nums (s.extract a b) = ((nums s).take b).drop a := by
  simp [nums, ByteArray.data_extract, List.map_take, List.map_drop, List.drop_take]
theorem nums_inj {a b : ByteArray} (h : nums a = nums b) : a = b := by rw [← strOfNums_nums a, h, strOfNums_nums]
theorem smp_step (s : ByteArray) (l : List Int) (j : Nat) (hj : j < s.size) : strOfNums (smL s (l ++ [(j : Int)])) = strOfNums (smL s l) ++ s.extract j (j + 1) := by
  apply nums_inj
  rw [nums_append, nums_strOfNums _ (bytes_smL _), nums_strOfNums _ (bytes_smL _)]
  have e : nums (s.extract j (j + 1)) = [(nums s).getD j 0] := by
    have hj2 : j < (nums s).length := by rw [nums_len]; exact hj
    rw [nums_extract, List.drop_take, List.drop_eq_getElem_cons hj2, show j + 1 - j = 1 by omega, List.take_succ_cons, List.take_zero, List.getD_eq_getElem?_getD, List.getElem?_eq_getElem hj2]
    rfl
  rw [e]
  simp [smL]
set_option maxHeartbeats 1000000 in
theorem rsampleOf_any {w : World} (s : ByteArray) (l : List Int) (ao : Option Addr) (cap : Nat) (h : Ils w ao l) (hl : l.length ≤ 17592186044416) (hok : okS s l) :
    Calls Tryd.prog 42 #[.string s, .slice ao l.length cap] w fun e w' => e = .returned (.string (strOfNums (smL s l))) ∧ Below w.heap.size w w' := by
  have HH := hide h
  have HOK := hide hok
  clear h hok
  go_enter Tryd.func42, Tryd.ntmps42
  go_wp2
  go_loopw [5, 6] (fun v i wr => ∃ k : Nat, k ≤ l.length ∧ i = .int .i64 (k : Int) ∧ v = .string (strOfNums (smL s (l.take k))) ∧ Below w.heap.size w wr) (fun _ i _ => l.length - (intOf i).toNat)
  case atStart => exact ⟨0, by omega, rfl, rfl, Below.refl _ _⟩
  case round =>
    obtain ⟨k, hk, rfl, rfl, hlo⟩ := hrel
    obtain ⟨wo, rfl⟩ : ∃ wo, wo = wr := ⟨_, rfl⟩
    by_cases hlt : k < l.length
    · obtain ⟨g, o, rfl, hgw, hcw⟩ := unhide HH k hlt
      have hcr : wo.cell? ⟨g, o + k, none⟩ = some (.int .i64 (l.getD k 0)) := only_cell (P := fun _ => False) (Only.of_below hlo) (fun q => q) hcw
      have hmem : l.getD k 0 ∈ l := by
        rw [List.getD_eq_getElem?_getD, List.getElem?_eq_getElem hlt, Option.getD_some]
        exact List.getElem_mem hlt
      have htk : l.take (k + 1) = l.take k ++ [l.getD k 0] := by
        rw [List.take_add_one, List.getElem?_eq_getElem hlt]
        simp [hlt]
      have hb := (unhide HOK).2 _ hmem
      have hs := (unhide HOK).1
      obtain ⟨p, hp⟩ : ∃ p, l.getD k 0 = p := ⟨_, rfl⟩
      rw [hp] at hcr hmem htk hb
      obtain ⟨b1, b2⟩ := hb
      obtain ⟨j, hj⟩ : ∃ j : Nat, p = (j : Int) := ⟨p.toNat, by omega⟩
      subst hj
      have i1 : (k : Int) < (l.length : Int) := by omega
      have i2 : 0 ≤ (k : Int) := by omega
      have w1 : IntKind.i64.wrap ((j : Int) + 1) = (j : Int) + 1 := wrapI_eq _ (by omega) (by omega)
      have b3 : 0 ≤ (j : Int) + 1 := by omega
      have b4 : (j : Int) + 1 ≤ (s.size : Int) := by omega
      have b5 : (j : Int) ≤ (j : Int) + 1 := by omega
      have hsz : (strOfNums (smL s (l.take k))).size = k := by rw [strOfNums_size]; simp [smL]; omega
      have HLO := hide hlo
      have HTK := hide htk
      obtain ⟨t, ht⟩ : ∃ t, strOfNums (smL s (l.take k)) = t := ⟨_, rfl⟩
      rw [ht] at hsz ⊢
      have HT := hide ht
      clear hlo htk hmem hcw hgw hp ht
      go_wp2_with fail
      go_quiet (fail)
      go_wp2
      go_roundw
      case rel =>
        refine ⟨k + 1, by omega, by go_num, ?_, below_drewN (unhide HLO) _⟩
        rw [unhide HTK, smp_step s _ j (by omega), unhide HT]
      case measure => simp [intOf]; omega
    · have hk' : k = l.length := by omega
      subst hk'
      rw [List.take_of_length_le (Nat.le_refl _)]
      have i1 : ¬ ((l.length : Int) < (l.length : Int)) := by omega
      have HLO := hide hlo
      clear hlo hlt
      go_wp2
      go_ret
      exact ⟨rfl, unhide HLO⟩
set_option maxHeartbeats 1000000 in
theorem rsampled_any {w : World} (s : ByteArray) (l : List Int) (ao : Option Addr) (cap : Nat) (h : Ils w ao l) (hl : l.length ≤ 17592186044416) :
    Calls Tryd.prog 22 #[.string s, .slice ao l.length cap] w fun e w' => e = .returned (.tuple #[.string (smS s l), .int .i64 (smE s l)]) ∧ Below w.heap.size w w' := by
  by_cases hs : s.size = 256
  · have i0 : (s.size : Int) = 256 := by omega
    have HH := hide h
    have HS := hide hs
    clear h hs
    go_enter Tryd.func22, Tryd.ntmps22
    go_wp2
    go_loopw [6] (fun i wr => wr = w ∧ ∃ k : Nat, k ≤ l.length ∧ i = .int .i64 (k : Int) ∧ (∀ p, p ∈ l.take k → 0 ≤ p ∧ p < 256)) (fun i _ => l.length - (intOf i).toNat)
    case atStart => exact ⟨rfl, 0, by omega, rfl, by simp⟩
    case round =>
      obtain ⟨rfl, k, hk, rfl, hok⟩ := hrel
      by_cases hlt : k < l.length
      · obtain ⟨g, o, rfl, hgw, hcr⟩ := unhide HH k hlt
        have hmem : l.getD k 0 ∈ l := by
          rw [List.getD_eq_getElem?_getD, List.getElem?_eq_getElem hlt, Option.getD_some]
          exact List.getElem_mem hlt
        have htk : l.take (k + 1) = l.take k ++ [l.getD k 0] := by
          rw [List.take_add_one, List.getElem?_eq_getElem hlt]
          simp [hlt]
        obtain ⟨p, hp⟩ : ∃ p, l.getD k 0 = p := ⟨_, rfl⟩
        rw [hp] at hcr hmem htk
        have i1 : (k : Int) < (l.length : Int) := by omega
        have i2 : 0 ≤ (k : Int) := by omega
        have HTK := hide htk
        have HOK := hide hok
        clear htk hok hp hgw
        by_cases hb : 0 ≤ p ∧ p < 256
        · obtain ⟨b1, b2⟩ := hb
          have q2 : p ≤ 255 := by omega
          have d1 : decide (p < 0) = false := decide_eq_false (by omega)
          have d2 : decide (255 < p) = false := decide_eq_false (by omega)
          clear hmem
          go_wp2
          go_roundw
          case rel =>
            refine ⟨trivial, k + 1, by omega, by go_num, ?_⟩
            rw [unhide HTK]
            intro x hx
            rcases List.mem_append.1 hx with hx | hx
            · exact unhide HOK x hx
            · rw [List.mem_singleton] at hx
              subst hx
              exact ⟨b1, b2⟩
          case measure => simp [intOf]; omega
        · have hno : ¬ okS s l := fun q => hb (q.2 p hmem)
          have HE := hide (show smE s l = 132 by unfold smE; rw [if_neg hno])
          have HSS := hide (show smS s l = ⟨#[]⟩ by unfold smS; rw [if_neg hno])
          clear hno hmem
          by_cases q1 : p < 0
          · clear hb
            go_wp2
            go_ret2
            exact ⟨by rw [unhide HE, unhide HSS]; rfl, Below.refl _ _⟩
          · have q2 : 255 < p := by omega
            have q3 : 0 ≤ p := by omega
            clear hb q1
            go_wp2
            go_ret2
            exact ⟨by rw [unhide HE, unhide HSS]; rfl, Below.refl _ _⟩
      · have hk' : k = l.length := by omega
        subst hk'
        rw [List.take_of_length_le (Nat.le_refl _)] at hok
        have hy : okS s l := ⟨unhide HS, hok⟩
        have HE := hide (show smE s l = 0 by unfold smE; rw [if_pos hy])
        have HSS := hide (show smS s l = strOfNums (smL s l) by unfold smS; rw [if_pos hy])
        have HC := hide (rsampleOf_any s l ao cap (unhide HH) hl hy)
        have i1 : ¬ ((l.length : Int) < (l.length : Int)) := by omega
        clear hok hy hlt HH
        go_wp2_with (go_at_call 42; refine (unhide HC).mono ?_; rintro e z ⟨rfl, hz⟩; have HZ := hide hz; clear hz)
        go_ret2
        exact ⟨by rw [unhide HE, unhide HSS]; rfl, unhide HZ⟩
  · have i0 : ¬ ((s.size : Int) = 256) := by omega
    have HE := hide (show smE s l = 132 by unfold smE; rw [if_neg (fun q => hs q.1)])
    have HS := hide (show smS s l = ⟨#[]⟩ by unfold smS; rw [if_neg (fun q => hs q.1)])
    clear hs h hl
    go_enter Tryd.func22, Tryd.ntmps22
    go_wp2
    go_ret2
    exact ⟨by rw [unhide HE, unhide HS]; rfl, Below.refl _ _⟩
end Go.Proofs.YthnlggbnielgdaaDoor
