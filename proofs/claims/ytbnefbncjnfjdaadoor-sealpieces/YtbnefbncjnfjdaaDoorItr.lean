import Derived.RangeFuncNested
import Derived.RangeFuncBound
import Derived.RangeFuncCalls
import Derived.RangeFuncLeaves
import Derived.Shelf.Abstract
import Derived.Shelf.RegionOpen
import Derived.WalkKit
import Derived.OwnWalkIn
import Derived.TacticsInMore
import Derived.LoopNIn
import Derived.LoopIn
import Derived.Test.YtbnefbncjnfjdaaDoorStr
namespace Go.Proofs.YtbnefbncjnfjdaaDoor
open Go.RowKit Go.Shelf
attribute [local go_sem] Oper.semAt_some
/-- What a round keeps: whatever lay below s, and the block of the key. -/
def Kp (Bk s : Nat) (W W' : World) : Prop := Below s W W' ∧ W'.heap[Bk]? = W.heap[Bk]?
theorem kp_t {Bk s : Nat} {A B C : World} (h : Kp Bk s A B) (k : Kp Bk s B C) : Kp Bk s A C := ⟨h.1.trans k.1, k.2.trans h.2⟩
theorem grown_below {w w' : World} (h : Below w.heap.size w w') (row : Option Nat) : w.grownBy w' row := ⟨h.os, h.tape, h.output, h.size, fun k hk _ => h.block k hk⟩
theorem wpAnyIn_takeD {F : Fence} {n : Nat} {P : Program} {ops : Array Oper} {Q : Exit → Act → World → Prop} {md : Region.Mode} (i : Nat) (d : Option Tmp) (v : Value) {oi : Oper} {fuel : Nat} {listed : Array Bool} {a : Act} {w : World} (hro : F.round = none) (hi : ops[i]? = some oi) (hd : oi.dst = d)
    (hs : Region.noSelect ops = true) (hf : Region.free md ops listed i = true) (hr : (Region.ready md ops listed).contains i = true)
    (hQ : ∀ c a w, Q (.panic c) (a.put d v) w → Q (.panic c) a w) (hy : YieldsFenced P ops oi v a)
    (h : wpAnyIn F n P md ops Q fuel (listed.setIfInBounds i true) (a.put d v) w) : wpAnyIn F n P md ops Q (fuel + 1) listed a w := by
  subst hd
  exact wpAnyIn_take hro hi hs hf hr hQ hy h
set_option maxRecDepth 100000 in
set_option maxHeartbeats 1000000 in
theorem sums1_in (n l Bf Bk s first : Nat) (key : ByteArray) (hkz : key.size ≤ 64) (hf : first ≤ 2048) (hs : 0 < s) (J Jx : List Nat → World → Prop) (W : World) (hJa : AbidesFrom W.heap.size J)
    (hY : ∀ pre x W1, J pre W1 → pre.length < 2048 → YieldAt Fence.wide (n - 1) Tryd.prog l #[.string (pieceB key x)] W1 fun e W' =>
      (e = .returned (.bool true) ∧ J (pre ++ [x]) W' ∧ Kp Bk s W1 W') ∨ (e = .returned (.bool false) ∧ Jx (pre ++ [x]) W'))
    (hcf : W.cell? ⟨Bf, 0, none⟩ = some (.int .i64 (first : Int))) (hck : W.cell? ⟨Bk, 0, none⟩ = some (.string key)) (hBk : Bk < W.heap.size) (hK : KTab W) (h0 : J [] W) :
    CallsIn Fence.wide n Tryd.prog 55 #[.func (.yield l) #[] #[], .pointer (some ⟨Bf, 0, none⟩), .pointer (some ⟨Bk, 0, none⟩)] W fun e W' => (∃ v, e = .returned v) ∧
      ((∃ xs, xs = List.range' first (2048 - first) ∧ J xs W') ∨ (∃ pre, (∃ k, pre = List.range' first k) ∧ Jx pre W')) := by
  have HK := hide hK
  clear hK
  refine callsIn_of_wp Tryd.func55 rfl trivial ?_ rfl
  simp only [Tryd.ntmps55, List.size_toArray, List.length_cons, List.length_nil, Nat.reduceAdd, Nat.reduceSub, Array.replicate_succ, Array.replicate_zero, List.push_toArray, List.append_toArray, List.nil_append, List.cons_append]
  gi_wp2
  gi_loopw [4] (fun i wr => ∃ k m : Nat, m = first + k ∧ m ≤ 2048 ∧ i = .int .i64 (m : Int) ∧ J (List.range' first k) wr ∧ wr.cell? ⟨Bk, 0, none⟩ = some (.string key) ∧ Bk < wr.heap.size ∧ Hid (KTab wr)) (fun i _ => 2048 - (intOf i).toNat)
  case atStart => exact ⟨0, first, by omega, by omega, rfl, h0, hck, hBk, HK⟩
  case round =>
    obtain ⟨k, m, hmk, hm, rfl, hJ, hck2, hBk2, HK2⟩ := hrel
    by_cases hlt : m < 2048
    · have hlt2 : (m : Int) < 2048 := by omega
      have hckd : wr.drew.cell? ⟨Bk, 0, none⟩ = some (.string key) := hck2
      have nb : nums (strOfNums (numB (m : Int) 8)) = numB (m : Int) 8 := nums_strOfNums _ (numB_bytes _ _)
      have nz : (strOfNums (numB (m : Int) 8)).size = 8 := by rw [← nums_len, nb, numB_len]
      have NB := hide nb
      have HMK := hide hmk
      clear nb hmk
      gi_wp2
      refine wpIn_region_any (by kernel_rfl) ?_
      change wpAnyIn _ _ _ _ _ _ _ _ _ wr.drew
      refine wpAnyIn_takeD 0 (some 10) (.func (.yield l) #[] #[]) rfl rfl rfl (by kernel_rfl) (by kernel_rfl) (by kernel_rfl) (fun _ _ _ h => h) ⟨Or.inl ⟨by rfl, fun w => by go_simp⟩, fun _ => rfl⟩ ?_
      simp only [Act.put, List.setIfInBounds_toArray, List.set_cons_zero, List.set_cons_succ]
      refine wpAnyIn_takeD 2 (some 12) (.int .i64 (m : Int)) rfl rfl rfl (by kernel_rfl) (by kernel_rfl) (by kernel_rfl) (fun _ _ _ h => h) ⟨Or.inl ⟨by rfl, fun w => by go_simp⟩, fun _ => rfl⟩ ?_
      simp only [Act.put, List.setIfInBounds_toArray, List.set_cons_zero, List.set_cons_succ]
      refine wpAnyIn_ready (rs := [1, 3]) (by kernel_rfl) (by simp) ?_
      refine AllReadyIn.cons rfl (fun K hK => ?opLoad) (AllReadyIn.cons rfl (fun K hK => ?opCall) AllReadyIn.nil)
      case' opLoad =>
        simp only [List.getElem_toArray, List.getElem_cons_succ, List.getElem_cons_zero]
        go_simp
        refine hK _ _ ?_
        clear hK K
        refine wpAnyIn_ready (rs := [3]) (by kernel_rfl) (by simp) ?_
        refine AllReadyIn.cons rfl (fun K hK => ?opA) AllReadyIn.nil
        simp only [List.getElem_toArray, List.getElem_cons_succ, List.getElem_cons_zero]
        go_simp
        refine ⟨trivial, (fun h => by cases h), ?_⟩
        refine (callsIn_wide.2 (number_any (m : Int) 8 (by omega) (by omega) (by omega) wr.drew)).mono ?_
        rintro e w1 ⟨rfl, hb1⟩
        refine hK _ _ ?_
        clear hK K
      case' opCall =>
        simp only [List.getElem_toArray, List.getElem_cons_succ, List.getElem_cons_zero]
        go_simp
        refine ⟨trivial, (fun h => by cases h), ?_⟩
        refine (callsIn_wide.2 (number_any (m : Int) 8 (by omega) (by omega) (by omega) wr.drew)).mono ?_
        rintro e w1 ⟨rfl, hb1⟩
        have hck3 : w1.cell? ⟨Bk, 0, none⟩ = some (.string key) := (hb1.cell (p := ⟨Bk, 0, none⟩) hBk2).trans hck2
        refine hK _ _ ?_
        clear hK K
        refine wpAnyIn_ready (rs := [1]) (by kernel_rfl) (by simp) ?_
        refine AllReadyIn.cons rfl (fun K hK => ?opB) AllReadyIn.nil
        simp only [List.getElem_toArray, List.getElem_cons_succ, List.getElem_cons_zero]
        go_simp
        refine hK _ _ ?_
        clear hK K hck3
      all_goals
        have hadd : ¬ 9223372036854775807 < key.size + 8 := by omega
        have hnk : nums (key ++ strOfNums (numB (m : Int) 8)) = nums key ++ numB (m : Int) 8 := by rw [nums_app, unhide NB]
        have hsz : (key ++ strOfNums (numB (m : Int) 8)).size < 2305843009213693952 := by rw [ByteArray.size_append, nz]; omega
        have HB1 := hide ((Below.refl wr.heap.size wr).drew.trans hb1)
        have HSZ := hide hsz
        have HNK := hide hnk
        clear hb1 hsz hnk
        refine wpAnyIn_ready (rs := [4]) (by kernel_rfl) (by simp) ?_
        refine AllReadyIn.cons rfl (fun K hK => ?_) AllReadyIn.nil
        simp only [List.getElem_toArray, List.getElem_cons_succ, List.getElem_cons_zero]
        go_simp
        refine hK _ _ ?_
        clear hK K
        refine wpAnyIn_ready (rs := [5]) (by kernel_rfl) (by simp) ?_
        refine AllReadyIn.cons rfl (fun K hK => ?_) AllReadyIn.nil
        simp only [List.getElem_toArray, List.getElem_cons_succ, List.getElem_cons_zero]
        go_simp
        refine ⟨trivial, (fun h => by cases h), ?_⟩
        refine (callsIn_wide.2 (sum_any (key ++ strOfNums (numB (m : Int) 8)) w1 ((unhide HK2).below (unhide HB1) (unhide HK2).1) (unhide HSZ))).mono ?_
        rintro e w2 ⟨rfl, hb2⟩
        have hB2 := (unhide HB1).trans (hb2.mono (unhide HB1).size)
        obtain ⟨fn, tmps, assign, body, hy, hR⟩ := hY (List.range' first k) m w2 (hJa _ _ _ none hJ (grown_below hB2 none) (by simp)) (by rw [List.length_range']; have := unhide HMK; omega)
        have hpc : strOfNums (sha (nums (key ++ strOfNums (numB (m : Int) 8)))) = pieceB key m := by rw [unhide HNK]; rfl
        have HB2 := hide hB2
        rw [hpc]
        refine hK _ _ ?_
        clear hK K hpc hB2 hb2 HNK HSZ
        refine wpAnyIn_ready (rs := [6]) (by kernel_rfl) (by simp) ?_
        refine AllReadyIn.cons rfl (fun K hK => ?_) AllReadyIn.nil
        simp only [List.getElem_toArray, List.getElem_cons_succ, List.getElem_cons_zero]
        go_simp
        refine ⟨(fun h => by cases h), hR.mono ?_⟩
        rintro e W3 (⟨rfl, hJ3, hk3⟩ | ⟨rfl, hJx3⟩)
        · refine hK _ _ ?_
          clear hK K hR hy
          refine wpAnyIn_ready (rs := [7]) (by kernel_rfl) (by simp) ?_
          refine AllReadyIn.cons rfl (fun K hK => ?_) AllReadyIn.nil
          simp only [List.getElem_toArray, List.getElem_cons_succ, List.getElem_cons_zero]
          go_simp
          refine hK _ _ ?_
          clear hK K
          refine wpAnyIn_done (by kernel_rfl) ?_ _
          have hcell : W3.cell? ⟨Bk, 0, none⟩ = some (.string key) := (World.cell?_of_block (w := w2) hk3.2).trans (((unhide HB2).cell (p := ⟨Bk, 0, none⟩) hBk2).trans hck2)
          have hsz3 : Bk < W3.heap.size := Nat.lt_of_lt_of_le hBk2 (Nat.le_trans (unhide HB2).size hk3.1.size)
          have HK3 := hide (((unhide HK2).below (unhide HB2) (unhide HK2).1).below hk3.1 hs)
          clear hck2
          gi_wp2
          go_roundw
          case rel => exact ⟨k + 1, m + 1, by rw [unhide HMK]; omega, by omega, by go_num, by rw [List.range'_concat, Nat.one_mul, ← unhide HMK]; exact hJ3, hcell, hsz3, HK3⟩
          case measure => simp [intOf]; omega
        · refine hK _ _ ?_
          clear hK K hR hy
          refine wpAnyIn_ready (rs := [7]) (by kernel_rfl) (by simp) ?_
          refine AllReadyIn.cons rfl (fun K hK => ?_) AllReadyIn.nil
          simp only [List.getElem_toArray, List.getElem_cons_succ, List.getElem_cons_zero]
          go_simp
          refine hK _ _ ?_
          clear hK K
          refine wpAnyIn_done (by kernel_rfl) ?_ _
          gi_wp2
          refine bodyPost_ret (results_none rfl _ _ _) rfl ?_
          exact ⟨⟨_, rfl⟩, .inr ⟨_, ⟨k + 1, by rw [List.range'_concat, Nat.one_mul, ← unhide HMK]⟩, hJx3⟩⟩
    · have hge : ¬ (m : Int) < 2048 := by omega
      have ek := hide (show k = 2048 - first by omega)
      clear hmk
      gi_wp2
      go_end0
      exact ⟨⟨_, rfl⟩, .inl (by rw [← unhide ek]; exact hJ)⟩
end Go.Proofs.YtbnefbncjnfjdaaDoor
