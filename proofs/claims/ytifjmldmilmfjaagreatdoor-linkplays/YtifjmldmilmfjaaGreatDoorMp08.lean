import Derived.RangeFuncNested
import Derived.RangeFuncBound
import Derived.RangeFuncCalls
import Derived.RangeFuncLeaves
import Derived.Shelf.Abstract
import Derived.Shelf.RegionOpen
import Derived.WalkKit
import Derived.OwnWalkIn
import Derived.TacticsInMore
import Derived.LoopNIn
import Derived.LoopIn
import Derived.Test.YtifjmldmilmfjaaGreatDoorMp07
import Derived.Lib.AppendStr
import Derived.StillTailTactics
namespace Go.Proofs.YtifjmldmilmfjaaGreatDoor
open Go.RowKit Go.Shelf
attribute [local go_sem] Oper.semAt_some
/-- What a round keeps: whatever lay below s, and the block of the key. -/
def Kp (Bk s : Nat) (W W' : World) : Prop := Below s W W' ∧ W'.heap[Bk]? = W.heap[Bk]?
theorem kp_t {Bk s : Nat} {A B C : World} (h : Kp Bk s A B) (k : Kp Bk s B C) : Kp Bk s A C := ⟨h.1.trans k.1, k.2.trans h.2⟩
theorem grown_below {w w' : World} (h : Below w.heap.size w w') (row : Option Nat) : w.grownBy w' row := ⟨h.os, h.tape, h.output, h.size, fun k hk _ => h.block k hk⟩
theorem wpAnyIn_takeD {F : Fence} {n : Nat} {P : Program} {ops : Array Oper} {Q : Exit → Act → World → Prop} {md : Region.Mode} (i : Nat) (d : Option Tmp) (v : Value) {oi : Oper} {fuel : Nat} {listed : Array Bool} {a : Act} {w : World} (hro : F.round = none) (hi : ops[i]? = some oi) (hd : oi.dst = d)
    (hs : Region.noSelect ops = true) (hf : Region.free md ops listed i = true) (hr : (Region.ready md ops listed).contains i = true)
    (hQ : ∀ c a w, Q (.panic c) (a.put d v) w → Q (.panic c) a w) (hy : YieldsFenced P ops oi v a)
    (h : wpAnyIn F n P md ops Q fuel (listed.setIfInBounds i true) (a.put d v) w) : wpAnyIn F n P md ops Q (fuel + 1) listed a w := by
  subst hd
  exact wpAnyIn_take hro hi hs hf hr hQ hy h
set_option maxRecDepth 100000 in
set_option maxHeartbeats 1000000 in
theorem sums1_in (n l Bf Bk s first : Nat) (key : ByteArray) (hkz : key.size ≤ 64) (hf : first ≤ 2048) (hs : 1 < s) (J Jx : List Nat → World → Prop) (W : World) (hJa : AbidesFrom W.heap.size J)
    (hY : ∀ pre x W1, J pre W1 → pre.length < 2048 → YieldAt Fence.wide (n - 1) Tryz.prog l #[.string (pieceB key x)] W1 fun e W' =>
      (e = .returned (.bool true) ∧ J (pre ++ [x]) W' ∧ Kp Bk s W1 W') ∨ (e = .returned (.bool false) ∧ Jx (pre ++ [x]) W'))
    (hcf : W.cell? ⟨Bf, 0, none⟩ = some (.int .i64 (first : Int))) (hck : W.cell? ⟨Bk, 0, none⟩ = some (.string key)) (hBk : Bk < W.heap.size) (hK : KTab W) (h0 : J [] W) :
    CallsIn Fence.wide n Tryz.prog 120 #[.func (.yield l) #[] #[], .pointer (some ⟨Bf, 0, none⟩), .pointer (some ⟨Bk, 0, none⟩)] W fun e W' => (∃ v, e = .returned v) ∧
      ((∃ xs, xs = List.range' first (2048 - first) ∧ J xs W') ∨ (∃ pre, (∃ k, pre = List.range' first k) ∧ Jx pre W')) := by
  have HK := hide hK
  clear hK
  refine callsIn_of_wp Tryz.func120 rfl trivial ?_ rfl
  simp only [Tryz.ntmps120, List.size_toArray, List.length_cons, List.length_nil, Nat.reduceAdd, Nat.reduceSub, Array.replicate_succ, Array.replicate_zero, List.push_toArray, List.append_toArray, List.nil_append, List.cons_append]
  gi_wp2
  gi_loopw [4] (fun i wr => ∃ k m : Nat, m = first + k ∧ m ≤ 2048 ∧ i = .int .i64 (m : Int) ∧ J (List.range' first k) wr ∧ wr.cell? ⟨Bk, 0, none⟩ = some (.string key) ∧ Bk < wr.heap.size ∧ Hid (KTab wr)) (fun i _ => 2048 - (intOf i).toNat)
  case atStart => exact ⟨0, first, by omega, by omega, rfl, h0, hck, hBk, HK⟩
  case round =>
    obtain ⟨k, m, hmk, hm, rfl, hJ, hck2, hBk2, HK2⟩ := hrel
    by_cases hlt : m < 2048
    · have hlt2 : (m : Int) < 2048 := by omega
      have hckd : wr.drew.cell? ⟨Bk, 0, none⟩ = some (.string key) := hck2
      have nb : nums (strOfNums (numB (m : Int) 8)) = numB (m : Int) 8 := nums_strOfNums _ (numB_bytes _ _)
      have nz : (strOfNums (numB (m : Int) 8)).size = 8 := by rw [← nums_len, nb, numB_len]
      have NB := hide nb
      have HMK := hide hmk
      clear nb hmk
      gi_wp2
      refine wpIn_region_any (by kernel_rfl) ?_
      change wpAnyIn _ _ _ _ _ _ _ _ _ wr.drew
      refine wpAnyIn_takeD 0 (some 10) (.func (.yield l) #[] #[]) rfl rfl rfl (by kernel_rfl) (by kernel_rfl) (by kernel_rfl) (fun _ _ _ h => h) ⟨Or.inl ⟨by rfl, fun w => by go_simp⟩, fun _ => rfl⟩ ?_
      simp only [Act.put, List.setIfInBounds_toArray, List.set_cons_zero, List.set_cons_succ]
      refine wpAnyIn_takeD 2 (some 12) (.int .i64 (m : Int)) rfl rfl rfl (by kernel_rfl) (by kernel_rfl) (by kernel_rfl) (fun _ _ _ h => h) ⟨Or.inl ⟨by rfl, fun w => by go_simp⟩, fun _ => rfl⟩ ?_
      simp only [Act.put, List.setIfInBounds_toArray, List.set_cons_zero, List.set_cons_succ]
      refine wpAnyIn_ready (rs := [1, 3]) (by kernel_rfl) (by simp) ?_
      refine AllReadyIn.cons rfl (fun K hK => ?opLoad) (AllReadyIn.cons rfl (fun K hK => ?opCall) AllReadyIn.nil)
      case' opLoad =>
        simp only [List.getElem_toArray, List.getElem_cons_succ, List.getElem_cons_zero]
        go_simp
        refine hK _ _ ?_
        clear hK K
        refine wpAnyIn_ready (rs := [3]) (by kernel_rfl) (by simp) ?_
        refine AllReadyIn.cons rfl (fun K hK => ?opA) AllReadyIn.nil
        simp only [List.getElem_toArray, List.getElem_cons_succ, List.getElem_cons_zero]
        go_simp
        refine ⟨trivial, (fun h => by cases h), ?_⟩
        refine (callsIn_wide.2 (snum_any (m : Int) 8 (by omega) (by omega) (by omega) wr.drew)).mono ?_
        rintro e w1 ⟨rfl, hb1⟩
        refine hK _ _ ?_
        clear hK K
      case' opCall =>
        simp only [List.getElem_toArray, List.getElem_cons_succ, List.getElem_cons_zero]
        go_simp
        refine ⟨trivial, (fun h => by cases h), ?_⟩
        refine (callsIn_wide.2 (snum_any (m : Int) 8 (by omega) (by omega) (by omega) wr.drew)).mono ?_
        rintro e w1 ⟨rfl, hb1⟩
        have hck3 : w1.cell? ⟨Bk, 0, none⟩ = some (.string key) := (hb1.cell (p := ⟨Bk, 0, none⟩) hBk2).trans hck2
        refine hK _ _ ?_
        clear hK K
        refine wpAnyIn_ready (rs := [1]) (by kernel_rfl) (by simp) ?_
        refine AllReadyIn.cons rfl (fun K hK => ?opB) AllReadyIn.nil
        simp only [List.getElem_toArray, List.getElem_cons_succ, List.getElem_cons_zero]
        go_simp
        refine hK _ _ ?_
        clear hK K hck3
      all_goals
        have hadd : ¬ 9223372036854775807 < key.size + 8 := by omega
        have hnk : nums (key ++ strOfNums (numB (m : Int) 8)) = nums key ++ numB (m : Int) 8 := by rw [nums_app, unhide NB]
        have hsz : (key ++ strOfNums (numB (m : Int) 8)).size < 2305843009213693952 := by rw [ByteArray.size_append, nz]; omega
        have HB1 := hide ((Below.refl wr.heap.size wr).drew.trans hb1)
        have HSZ := hide hsz
        have HNK := hide hnk
        clear hb1 hsz hnk
        refine wpAnyIn_ready (rs := [4]) (by kernel_rfl) (by simp) ?_
        refine AllReadyIn.cons rfl (fun K hK => ?_) AllReadyIn.nil
        simp only [List.getElem_toArray, List.getElem_cons_succ, List.getElem_cons_zero]
        go_simp
        refine hK _ _ ?_
        clear hK K
        refine wpAnyIn_ready (rs := [5]) (by kernel_rfl) (by simp) ?_
        refine AllReadyIn.cons rfl (fun K hK => ?_) AllReadyIn.nil
        simp only [List.getElem_toArray, List.getElem_cons_succ, List.getElem_cons_zero]
        go_simp
        refine ⟨trivial, (fun h => by cases h), ?_⟩
        refine (callsIn_wide.2 (sum_any (key ++ strOfNums (numB (m : Int) 8)) w1 ((unhide HK2).below (unhide HB1) (unhide HK2).1) (unhide HSZ))).mono ?_
        rintro e w2 ⟨rfl, hb2⟩
        have hB2 := (unhide HB1).trans (hb2.mono (unhide HB1).size)
        obtain ⟨fn, tmps, assign, body, hy, hR⟩ := hY (List.range' first k) m w2 (hJa _ _ _ none hJ (grown_below hB2 none) (by simp)) (by rw [List.length_range']; have := unhide HMK; omega)
        have hpc : strOfNums (sha (nums (key ++ strOfNums (numB (m : Int) 8)))) = pieceB key m := by rw [unhide HNK]; rfl
        have HB2 := hide hB2
        rw [hpc]
        refine hK _ _ ?_
        clear hK K hpc hB2 hb2 HNK HSZ
        refine wpAnyIn_ready (rs := [6]) (by kernel_rfl) (by simp) ?_
        refine AllReadyIn.cons rfl (fun K hK => ?_) AllReadyIn.nil
        simp only [List.getElem_toArray, List.getElem_cons_succ, List.getElem_cons_zero]
        go_simp
        refine ⟨(fun h => by cases h), hR.mono ?_⟩
        rintro e W3 (⟨rfl, hJ3, hk3⟩ | ⟨rfl, hJx3⟩)
        · refine hK _ _ ?_
          clear hK K hR hy
          refine wpAnyIn_ready (rs := [7]) (by kernel_rfl) (by simp) ?_
          refine AllReadyIn.cons rfl (fun K hK => ?_) AllReadyIn.nil
          simp only [List.getElem_toArray, List.getElem_cons_succ, List.getElem_cons_zero]
          go_simp
          refine hK _ _ ?_
          clear hK K
          refine wpAnyIn_done (by kernel_rfl) ?_ _
          have hcell : W3.cell? ⟨Bk, 0, none⟩ = some (.string key) := (World.cell?_of_block (w := w2) hk3.2).trans (((unhide HB2).cell (p := ⟨Bk, 0, none⟩) hBk2).trans hck2)
          have hsz3 : Bk < W3.heap.size := Nat.lt_of_lt_of_le hBk2 (Nat.le_trans (unhide HB2).size hk3.1.size)
          have HK3 := hide (((unhide HK2).below (unhide HB2) (unhide HK2).1).below hk3.1 hs)
          clear hck2
          gi_wp2
          go_roundw
          case rel => exact ⟨k + 1, m + 1, by rw [unhide HMK]; omega, by omega, by go_num, by rw [List.range'_concat, Nat.one_mul, ← unhide HMK]; exact hJ3, hcell, hsz3, HK3⟩
          case measure => simp [intOf]; omega
        · refine hK _ _ ?_
          clear hK K hR hy
          refine wpAnyIn_ready (rs := [7]) (by kernel_rfl) (by simp) ?_
          refine AllReadyIn.cons rfl (fun K hK => ?_) AllReadyIn.nil
          simp only [List.getElem_toArray, List.getElem_cons_succ, List.getElem_cons_zero]
          go_simp
          refine hK _ _ ?_
          clear hK K
          refine wpAnyIn_done (by kernel_rfl) ?_ _
          gi_wp2
          refine bodyPost_ret (results_none rfl _ _ _) rfl ?_
          exact ⟨⟨_, rfl⟩, .inr ⟨_, ⟨k + 1, by rw [List.range'_concat, Nat.one_mul, ← unhide HMK]⟩, hJx3⟩⟩
    · have hge : ¬ (m : Int) < 2048 := by omega
      have ek := hide (show k = 2048 - first by omega)
      clear hmk
      gi_wp2
      go_end0
      exact ⟨⟨_, rfl⟩, .inl (by rw [← unhide ek]; exact hJ)⟩
end Go.Proofs.YtifjmldmilmfjaaGreatDoor

namespace Go.Proofs.YtifjmldmilmfjaaGreatDoor
open Go.RowKit Go.Shelf
attribute [local go_sem] Oper.semAt_some
theorem kp_b {Bk s : Nat} {w : World} (hs : s ≤ w.heap.size) (hB : Bk < w.heap.size) (W : World) (l : Nat) (o o' : Obj) (hl : w.heap.size ≤ l) (h : W.heap[l]? = some o) (_ : o.isCells = false) (_ : o.isWalk = false) : Kp Bk s W (W.putObj l o') :=
  ⟨belowK_b hs W l o o' hl h (by assumption) (by assumption), World.putObj_heap_other (by omega)⟩
theorem sums_stops (n Bf Bk s first : Nat) (key : ByteArray) (hkz : key.size ≤ 64) (hf : first ≤ 2048) (hs : 1 < s) (w : World)
    (hBf : Bf < w.heap.size) (hBk : Bk < w.heap.size) (hcf : w.cell? ⟨Bf, 0, none⟩ = some (.int .i64 (first : Int))) (hck : w.cell? ⟨Bk, 0, none⟩ = some (.string key)) (hK : KTab w) :
    SeqStopsK Fence.wide n Tryz.prog 120 #[.pointer (some ⟨Bf, 0, none⟩), .pointer (some ⟨Bk, 0, none⟩)] (fun i : Nat => #[.string (pieceB key i)]) (Kp Bk s) (fun xs => xs = List.range' first (2048 - first)) (fun pre => ∃ k, pre = List.range' first k) 2048 w := fun l J Jx W hW hJa _ hY h0 =>
  sums1_in n l Bf Bk s first key hkz hf hs J Jx W hJa hY ((hW.cell (p := ⟨Bf, 0, none⟩) hBf).trans hcf) ((hW.cell (p := ⟨Bk, 0, none⟩) hBk).trans hck) (Nat.lt_of_lt_of_le hBk hW.size) (hK.below hW hK.1) h0
set_option maxHeartbeats 400000 in
theorem sums_any (key : ByteArray) (first : Int) (w : World) :
    Calls Tryz.prog 116 #[.string key, .int .i64 first] w fun e w' => e = .returned (.func (.func 120) #[] #[.pointer (some ⟨w.heap.size + 1, 0, none⟩), .pointer (some ⟨w.heap.size, 0, none⟩)]) ∧
      w' = (w.alloc (.cells #[.string key] 9)).alloc (.cells #[.int .i64 first] 3) := by
  go_enter Tryz.func116, Tryz.ntmps116
  go_wp2
  go_ret
  exact ⟨rfl, rfl⟩
end Go.Proofs.YtifjmldmilmfjaaGreatDoor

namespace Go.Proofs.YtifjmldmilmfjaaGreatDoor
open Go.RowKit Go.Shelf
theorem wpListIn_append_str {F : Fence} {n : Nat} {ops : Array Oper} {rest : List Oper} {op : Oper} {a : Act} {w : World} {Q : Exit → Act → World → Prop} (hgd : op.guard = none) (d x : Operand) (hop : op.op = Op.call { callee := Callee.builtin Builtin.append, args := #[d, x], argTypes := #[86, 9] })
    (b sLen sCap : Nat) (t : ByteArray) (hd : a.eval d = .slice (some ⟨b, 0, none⟩) sLen sCap) (hx : a.eval x = .string t) (hroom : sLen + t.size ≤ sCap) (ht : w.there b sLen t.size)
    (h : ∀ w', w' = w.setCells b sLen ((nums t).map (Value.int .u8)) → wpListIn F n Tryz.prog ops Q rest (a.put op.dst (.slice (some ⟨b, 0, none⟩) (sLen + t.size) sCap)) w') : wpListIn F n Tryz.prog ops Q (op :: rest) a w := by
  refine wpListIn_plain hgd fun K hK => ?_
  have hrun := run_append_str w b sLen sCap t hroom ht op.type
  unfold Oper.wpIn
  refine ⟨?_, ?_⟩
  · simp [Oper.about, hop, resolve, Target.leads, Sem.run_pure]
  · rw [Oper.semAt_plain F _ _ (by rw [hop]; intro c hc'; cases hc')]
    simp [execOp, hop, resolve, invoke, builtin, hd, hx, hrun, Result.andThen]
    exact hK _ _ (h _ rfl)
/-- Between two rounds: the end's box, the given bytes' box, their row. -/
def GInv (w : World) (key : List Int) (r n : Nat) (pre : List Nat) (W : World) : Prop :=
  Boxed W w.heap.size 3 (.int .i64 ((r : Int) + (n : Int))) ∧ Boxed W (w.heap.size + 1 + 1) 86 (.slice (some ⟨w.heap.size + 1, 0, none⟩) (32 * pre.length) (r + n + 32)) ∧
  Arr W (w.heap.size + 1) 0 .u8 (pieces key pre ++ List.replicate (r + n + 32 - 32 * pre.length) 0) ∧ Below w.heap.size w W
theorem GInv.below {w : World} {key : List Int} {r n : Nat} {pre : List Nat} {W W' : World} (h : GInv w key r n pre W) (hb : Below (w.heap.size + 1 + 1 + 1) W W') : GInv w key r n pre W' :=
  ⟨(hb.block _ (by omega)).trans h.1, (hb.block _ (by omega)).trans h.2.1, h.2.2.1.below hb (by omega), h.2.2.2.trans (hb.mono (by omega))⟩
theorem GInv.own {w : World} {key : List Int} {r n : Nat} {pre : List Nat} {W W' : World} {B : Nat} {row : Option Nat} (h : GInv w key r n pre W) (hB : w.heap.size + 1 + 1 + 1 ≤ B) (hg : W.grownBy W' row) (hr : ∀ k, row = some k → B ≤ k) : GInv w key r n pre W' :=
  h.below ⟨hg.os, hg.tape, hg.output, hg.size, fun k hk => hg.block k (by have := h.2.1.lt; omega) (fun e => by have := hr k e.symm; omega)⟩
theorem GInv.add {w : World} {key : List Int} {r n : Nat} {pre : List Nat} {W : World} (h : GInv w key r n pre W) (hr : 32 * pre.length ≤ r + n) (x : Nat) (t : ByteArray) (ht : nums t = pieceP key x) :
    GInv w key r n (pre ++ [x]) ((W.setCells (w.heap.size + 1) (32 * pre.length) ((nums t).map (Value.int .u8))).setCell ⟨w.heap.size + 1 + 1, 0, none⟩ (.slice (some ⟨w.heap.size + 1, 0, none⟩) (32 * pre.length + 32) (r + n + 32))) := by
  have hp := pieces_len key pre
  have ht32 : (nums t).length = 32 := by rw [ht, pieceP_len]
  have hl : (pieces key pre ++ List.replicate (r + n + 32 - 32 * pre.length) (0 : Int)).length = r + n + 32 := by rw [List.length_append, hp, List.length_replicate]; omega
  have T := Touch.setCells ((nums t).map (Value.int .u8)) (32 * pre.length) (Touch.refl (w.heap.size + 1) W)
  have hlt := h.2.1.lt
  refine ⟨?_, ?_, ?_, ?_⟩
  · have h1 : Boxed (W.setCells (w.heap.size + 1) (32 * pre.length) ((nums t).map (Value.int .u8))) w.heap.size 3 (.int .i64 ((r : Int) + (n : Int))) := (T.1.block _ (by omega)).trans h.1
    exact h1.other (by omega) _
  · have h1 : Boxed (W.setCells (w.heap.size + 1) (32 * pre.length) ((nums t).map (Value.int .u8))) (w.heap.size + 1 + 1) 86 (.slice (some ⟨w.heap.size + 1, 0, none⟩) (32 * pre.length) (r + n + 32)) := (T.2 _ (by omega) hlt).trans h.2.1
    have h2 := h1.set (.slice (some ⟨w.heap.size + 1, 0, none⟩) (32 * pre.length + 32) (r + n + 32))
    rw [List.length_append, List.length_singleton, Nat.mul_add, Nat.mul_one]
    exact h2
  · have h1 := h.2.2.1.mid (32 * pre.length) (nums t) (by rw [hl, ht32]; omega)
    rw [Nat.zero_add, List.take_append_of_le_length (by omega), List.take_of_length_le (by omega), ht32, ← hp, ← List.drop_drop, List.drop_left, List.drop_replicate, ht, ← pieces_snoc] at h1
    rw [List.length_append, List.length_singleton, Nat.mul_add, Nat.mul_one, ht, ← hp]
    rw [hp, show r + n + 32 - 32 * pre.length - 32 = r + n + 32 - (32 * pre.length + 32) by omega, ← hp] at h1
    exact h1.other _ _ (.inl (by simp))
  · exact (below_setCells (by omega) _ _ h.2.2.2).setCell (p := ⟨w.heap.size + 1 + 1, 0, none⟩) (by simp; omega) _
end Go.Proofs.YtifjmldmilmfjaaGreatDoor

namespace Go.Proofs.YtifjmldmilmfjaaGreatDoor
open Go.RowKit Go.Shelf
attribute [local go_sem] Oper.semAt_some
def PartPost (w : World) (key : List Int) (f n : Nat) (e : Ending) (w' : World) : Prop :=
  ∃ b o, w.heap.size ≤ b ∧ b < w'.heap.size ∧ e = .returned (.slice (some ⟨b, o, none⟩) n n) ∧ Arr w' b o .u8 (partP key f n) ∧ Below w.heap.size w w'
theorem part_out {f q r n k : Nat} {key : List Int} {b z : Nat} {W W' : World} (hf : f = 32 * q + r) (hr : r < 32) (h : Arr W b 0 .u8 (pieces key (List.range' q k) ++ List.replicate z 0)) (hk : r + n ≤ 32 * k) {B : Nat} (hb : Below B W W') (hB : b < B) : Arr W' b r .u8 (partP key f n) := by
  have h1 : Arr W b 0 .u8 (pieces key (List.range' (f / 32) k)) := by
    rw [show f / 32 = q by omega]
    intro j hj
    have h2 := h j (by rw [List.length_append]; omega)
    rw [List.getD_eq_getElem?_getD, List.getElem?_append_left hj, ← List.getD_eq_getElem?_getD] at h2
    exact h2
  have h2 := h1.cutPart (n := n) (by omega)
  rw [show f % 32 = r by omega] at h2
  exact h2.below hb hB
set_option maxRecDepth 100000 in
set_option maxHeartbeats 1000000 in
theorem part_in (key : ByteArray) (q r n : Nat) (hkz : key.size ≤ 64) (hr : r < 32) (hfn : 32 * q + r + n ≤ 65536) (w : World) (hK : KTab w) :
    CallsIn Fence.wide 6 Tryz.prog 107 #[.string key, .int .i64 ((32 * q + r : Nat) : Int), .int .i64 (n : Int)] w (PartPost w (nums key) (32 * q + r) n) := by
  obtain ⟨f, hf⟩ : ∃ f, f = 32 * q + r := ⟨_, rfl⟩
  rw [← hf]
  have hmod : Int.tmod (f : Int) 32 = (r : Int) := by rw [Int.tmod_eq_emod_of_nonneg (by omega)]; omega
  have hdiv : Int.tdiv (f : Int) 32 = (q : Int) := by rw [Int.tdiv_eq_ediv_of_nonneg (by omega)]; omega
  have hq : q ≤ 2048 := by omega
  have hnn : n ≤ 65536 := by omega
  have hmk := fun W => run_make_u8 0 (r + n + 32) (by omega) (by omega) W
  simp only [Int.natCast_add, Int.cast_ofNat_Int] at hmk
  have HK := hide hK
  have HF := hide hf
  have HFN := hide hfn
  clear hK hf hfn
  refine callsIn_of_wp_marks Tryz.func107 rfl trivial ?_ rfl
  simp only [Tryz.ntmps107, List.size_toArray, List.length_cons, List.length_nil, Nat.reduceAdd, Nat.reduceSub, Array.replicate_succ, Array.replicate_zero, List.push_toArray, List.append_toArray, List.nil_append, List.cons_append]
  gi_wp2_with fail
  refine ⟨trivial, (callsIn_wide.2 (sums_any key q _)).mono ?_⟩
  rintro e w' ⟨rfl, rfl⟩
  clear hmk
  gi_wp2_with fail
  have bE := Boxed.new w 3 (.int .i64 ((r : Int) + (n : Int)))
  have aR := arr_new (w.alloc (Obj.cells #[Value.int IntKind.i64 ((r : Int) + (n : Int))] 3)) .u8 (List.replicate (r + n + 32) 0) 5 (Array.replicate (r + n + 32) (Value.int IntKind.u8 0)) (by simp)
  have bG := Boxed.new ((w.alloc (Obj.cells #[Value.int IntKind.i64 ((r : Int) + (n : Int))] 3)).alloc (Obj.cells (Array.replicate (r + n + 32) (Value.int IntKind.u8 0)) 5)) 86 (.slice (some ⟨w.heap.size + 1, 0, none⟩) 0 (r + n + 32))
  have bK := Boxed.new (((w.alloc (Obj.cells #[Value.int IntKind.i64 ((r : Int) + (n : Int))] 3)).alloc (Obj.cells (Array.replicate (r + n + 32) (Value.int IntKind.u8 0)) 5)).alloc (Obj.cells #[.slice (some ⟨w.heap.size + 1, 0, none⟩) 0 (r + n + 32)] 86)) 9 (.string key)
  have bF := Boxed.new ((((w.alloc (Obj.cells #[Value.int IntKind.i64 ((r : Int) + (n : Int))] 3)).alloc (Obj.cells (Array.replicate (r + n + 32) (Value.int IntKind.u8 0)) 5)).alloc (Obj.cells #[.slice (some ⟨w.heap.size + 1, 0, none⟩) 0 (r + n + 32)] 86)).alloc (Obj.cells #[.string key] 9)) 3 (.int .i64 (q : Int))
  have aR2 := (((aR.alloc (by simp) (Obj.cells #[.slice (some ⟨w.heap.size + 1, 0, none⟩) 0 (r + n + 32)] 86)).alloc (by simp) (Obj.cells #[.string key] 9)).alloc (by simp) (Obj.cells #[Value.int IntKind.i64 (q : Int)] 3))
  have bE2 := ((((bE.alloc (Obj.cells (Array.replicate (r + n + 32) (Value.int IntKind.u8 0)) 5)).alloc (Obj.cells #[.slice (some ⟨w.heap.size + 1, 0, none⟩) 0 (r + n + 32)] 86)).alloc (Obj.cells #[.string key] 9)).alloc (Obj.cells #[Value.int IntKind.i64 (q : Int)] 3))
  have bG2 := ((bG.alloc (Obj.cells #[.string key] 9)).alloc (Obj.cells #[Value.int IntKind.i64 (q : Int)] 3))
  have bK2 := (bK.alloc (Obj.cells #[Value.int IntKind.i64 (q : Int)] 3))
  have hB5 : Below w.heap.size w (((((w.alloc (Obj.cells #[Value.int IntKind.i64 ((r : Int) + (n : Int))] 3)).alloc (Obj.cells (Array.replicate (r + n + 32) (Value.int IntKind.u8 0)) 5)).alloc (Obj.cells #[.slice (some ⟨w.heap.size + 1, 0, none⟩) 0 (r + n + 32)] 86)).alloc (Obj.cells #[.string key] 9)).alloc (Obj.cells #[Value.int IntKind.i64 (q : Int)] 3)) :=
    (((((Below.refl _ w).alloc (Nat.le_refl _) _).alloc (by simp) _).alloc (by simp; omega) _).alloc (by simp; omega) _).alloc (by simp; omega) _
  simp only [World.size_alloc] at bG bK bF aR2 bE2 bG2 bK2
  have h5 : (((((w.alloc (Obj.cells #[Value.int IntKind.i64 ((r : Int) + (n : Int))] 3)).alloc (Obj.cells (Array.replicate (r + n + 32) (Value.int IntKind.u8 0)) 5)).alloc (Obj.cells #[.slice (some ⟨w.heap.size + 1, 0, none⟩) 0 (r + n + 32)] 86)).alloc (Obj.cells #[.string key] 9)).alloc (Obj.cells #[Value.int IntKind.i64 (q : Int)] 3)).heap.size = w.heap.size + 5 := by simp
  obtain ⟨W5, hW5⟩ : ∃ W5, (((((w.alloc (Obj.cells #[Value.int IntKind.i64 ((r : Int) + (n : Int))] 3)).alloc (Obj.cells (Array.replicate (r + n + 32) (Value.int IntKind.u8 0)) 5)).alloc (Obj.cells #[.slice (some ⟨w.heap.size + 1, 0, none⟩) 0 (r + n + 32)] 86)).alloc (Obj.cells #[.string key] 9)).alloc (Obj.cells #[Value.int IntKind.i64 (q : Int)] 3)) = W5 := ⟨_, rfl⟩
  rw [hW5] at bE2 aR2 bG2 bK2 bF hB5 h5 ⊢
  have hG0 : GInv w (nums key) r n [] W5 := ⟨bE2, bG2, by simpa [pieces] using aR2, hB5⟩
  clear bE aR bG bK hW5 bE2 bG2 aR2
  have hK5 : KTab W5 := (unhide HK).below hB5 (unhide HK).1
  refine wpIn_rangeFunc_ownG rfl (by omega) (gf := 120) (lb := #[.pointer (some ⟨w.heap.size + 1 + 1 + 1 + 1, 0, none⟩), .pointer (some ⟨w.heap.size + 1 + 1 + 1, 0, none⟩)]) rfl trivial (enters_of Tryz.func120 (by kernel_rfl) rfl)
    (sums_stops 5 (w.heap.size + 1 + 1 + 1 + 1) (w.heap.size + 1 + 1 + 1) w.heap.size q key hkz hq (unhide HK).1 W5 (by omega) (by omega) bF.cell bK2.cell hK5) kp_t (kp_b (by omega) (by omega)) (Below.refl _ _) (fun _ => rfl)
    (fun pre W => GInv w (nums key) r n pre W ∧ (pre = [] ∨ 32 * pre.length < r + n) ∧ W5.heap.size ≤ W.heap.size)
    (fun c pre W => c = .exit 0 ∧ GInv w (nums key) r n pre W ∧ r + n ≤ 32 * pre.length)
    (fun _ _ _ _ hs hg hr => ⟨hs.1.own (B := W5.heap.size) (by omega) hg (fun k e => (hr k e).1), hs.2.1, Nat.le_trans hs.2.2 hg.size⟩)
    (fun _ _ _ _ _ hs hg hr => ⟨hs.1, hs.2.1.own (B := W5.heap.size) (by omega) hg (fun k e => (hr k e).1), hs.2.2⟩)
    ⟨hG0, .inl rfl, Nat.le_refl _⟩
    (fun x => { tmps := #[.string key, .int .i64 (f : Int), .int .i64 (n : Int), undef, undef, undef, .slice none 0 0, .int .i64 (r : Int), .pointer (some ⟨w.heap.size, 0, none⟩), .pointer (some ⟨w.heap.size + 1 + 1, 0, none⟩), .string (pieceB key x), .int .i64 (f : Int), .int .i64 (r : Int), .int .i64 (r : Int), .int .i64 (n : Int), .int .i64 ((r : Int) + (n : Int)), .int .i64 ((r : Int) + (n : Int)), .int .i64 ((r : Int) + (n : Int) + 32),
      .slice (some ⟨w.heap.size + 1, 0, none⟩) 0 (r + n + 32), .string key, .int .i64 (f : Int), .int .i64 (q : Int), .func (.func 120) #[] #[.pointer (some ⟨w.heap.size + 1 + 1 + 1 + 1, 0, none⟩), .pointer (some ⟨w.heap.size + 1 + 1 + 1, 0, none⟩)], .string (pieceB key x), undef, undef, undef, undef, undef, undef, undef, undef, undef, undef, undef, undef], defers := [] }) ?assign ?body ?done ?stop
  case assign =>
    intro l x W K hK
    gi_wp2
    exact hK
  case body =>
    rintro l pre x W ⟨hG, hpre, hWs⟩ _
    have hlen : 32 * pre.length ≤ r + n := by
      rcases hpre with rfl | h
      · simp
      · omega
    have c1 := hG.1.cell
    have c2 := hG.2.1.cell
    have f2 := hG.2.1.frozen
    have hp := pieces_len (nums key) pre
    have hth : W.there (w.heap.size + 1) (32 * pre.length) (pieceB key x).size := by
      rw [pieceB_size]
      intro j hj
      have hl : 32 * pre.length + j < (pieces (nums key) pre ++ List.replicate (r + n + 32 - 32 * pre.length) (0 : Int)).length := by rw [List.length_append, hp, List.length_replicate]; omega
      have h1 := hG.2.2.1.get (32 * pre.length + j) hl
      have h2 := hG.2.2.1.free (32 * pre.length + j) hl
      rw [Nat.zero_add] at h1 h2
      exact ⟨by rw [h1]; rfl, h2⟩
    have hps := pieceB_size key x
    have HAD := hide (hG.add hlen x (pieceB key x) (nums_pieceB key x))
    have T := Touch.setCells ((nums (pieceB key x)).map (Value.int .u8)) (32 * pre.length) (Touch.refl (w.heap.size + 1) W)
    have hlt := hG.2.1.lt
    have c1b := (T.cell (c := w.heap.size) (by omega) (by omega) 0).trans c1
    have c2b := (T.cell (c := w.heap.size + 1 + 1) (by omega) hlt 0).trans c2
    have f2b := (T.frozen (c := w.heap.size + 1 + 1) (by omega) hlt 0).trans f2
    have hKF : KeepsFrom W5.heap.size W ((W.setCells (w.heap.size + 1) (32 * pre.length) ((nums (pieceB key x)).map (Value.int .u8))).setCell ⟨w.heap.size + 1 + 1, 0, none⟩ (.slice (some ⟨w.heap.size + 1, 0, none⟩) (32 * pre.length + 32) (r + n + 32))) :=
      ⟨by simp; exact T.1.size, fun k o hB hk _ => by rw [Below.heap_setCell _ _ _ _ (by simp; omega), T.2 k (by omega) (Array.getElem?_eq_some_iff.1 hk).1]; exact hk⟩
    have hKp : Kp (w.heap.size + 1 + 1 + 1) w.heap.size W ((W.setCells (w.heap.size + 1) (32 * pre.length) ((nums (pieceB key x)).map (Value.int .u8))).setCell ⟨w.heap.size + 1 + 1, 0, none⟩ (.slice (some ⟨w.heap.size + 1, 0, none⟩) (32 * pre.length + 32) (r + n + 32))) :=
      ⟨(T.1.mono (by omega)).setCell (p := ⟨w.heap.size + 1 + 1, 0, none⟩) (by simp; omega) _, by rw [Below.heap_setCell _ _ _ _ (by simp), T.2 _ (by omega) (by omega)]⟩
    obtain ⟨t, ht⟩ : ∃ t, t = pieceB key x := ⟨_, rfl⟩
    obtain ⟨m, hm⟩ : ∃ m, m = 32 * pre.length := ⟨_, rfl⟩
    have HM := hide hm
    have hml : m ≤ r + n := by omega
    rw [← ht, ← hm] at hKF hKp hth c1b c2b f2b
    rw [← hm] at c2
    rw [← ht] at hps ⊢
    have HKF := hide hKF
    have HKP := hide hKp
    rw [← ht, ← hm] at HAD
    clear T hKF hKp hG hpre hlen hp hm ht
    gi_wp2_with (gi_at_builtin; refine wpListIn_append_str rfl (.tmp 24) (.tmp 25) rfl (w.heap.size + 1) m (r + n + 32) t rfl rfl (by omega) hth ?_; rintro w1 rfl; rw [hps])
    · exact ⟨unhide HKF, rfl, unhide HAD, by have := unhide HM; simp; omega⟩
    · exact ⟨unhide HKF, unhide HKP, unhide HAD, .inr (by have := unhide HM; simp; omega), Nat.le_trans hWs (unhide HKF).size⟩
  case done =>
    rintro D xs W hD rfl ⟨hG, hpre, hWs⟩ hK
    have hfn := unhide HFN
    have hkk : r + n ≤ 32 * (2048 - q) := by omega
    have c1 := hG.1.cell
    have c2 := hG.2.1.cell
    have HA := hide (hG.2.2.1)
    have HB := hide hG.2.2.2
    obtain ⟨m, hm⟩ : ∃ m, m = 32 * (List.range' q (2048 - q)).length := ⟨_, rfl⟩
    rw [← hm] at c2
    have HLT := hide hG.2.1.lt
    clear hG hpre hm hfn
    gi_wp2
    · have h0 : n = 0 := by omega
      refine ⟨by simp, .inl ⟨_, _, rfl, run_takeDeferred hK, ?_⟩⟩
      refine ⟨_, results_tmp rfl _ _ _, w.heap.size + 1, 0, by omega, ?_, by rw [h0]; rfl, ?_, (unhide HB).trans (belowK_b (w := W5) (by omega) W D _ _ hD hK rfl rfl)⟩
      · have := unhide HLT
        simp [World.putObj]
        omega
      · rw [h0]
        intro j hj
        simp [partP] at hj
    · refine ⟨by simp, .inl ⟨_, _, rfl, run_takeDeferred hK, ?_⟩⟩
      refine ⟨_, results_tmp rfl _ _ _, w.heap.size + 1, r, by omega, ?_, rfl, ?_, (unhide HB).trans (belowK_b (w := W5) (by omega) W D _ _ hD hK rfl rfl)⟩
      · have := unhide HLT
        simp [World.putObj]
        omega
      · exact part_out (unhide HF) hr (unhide HA) hkk (belowK_b (n₀ := w.heap.size + 1 + 1) (w := W5) (by omega) W D _ _ hD hK rfl rfl) (by omega)
  case stop =>
    rintro D c pre W hD ⟨k, rfl⟩ ⟨rfl, hG, hkk⟩ hK
    rw [List.length_range'] at hkk
    have c1 := hG.1.cell
    have c2 := hG.2.1.cell
    have HA := hide (hG.2.2.1)
    have HB := hide hG.2.2.2
    obtain ⟨m, hm⟩ : ∃ m, m = 32 * (List.range' q k).length := ⟨_, rfl⟩
    rw [← hm] at c2
    have HLT := hide hG.2.1.lt
    clear hG hm
    gi_wp2
    · have h0 : n = 0 := by omega
      refine ⟨by simp, .inl ⟨_, _, rfl, run_takeDeferred hK, ?_⟩⟩
      refine ⟨_, results_tmp rfl _ _ _, w.heap.size + 1, 0, by omega, ?_, by rw [h0]; rfl, ?_, (unhide HB).trans (belowK_b (w := W5) (by omega) W D _ _ hD hK rfl rfl)⟩
      · have := unhide HLT
        simp [World.putObj]
        omega
      · rw [h0]
        intro j hj
        simp [partP] at hj
    · refine ⟨by simp, .inl ⟨_, _, rfl, run_takeDeferred hK, ?_⟩⟩
      refine ⟨_, results_tmp rfl _ _ _, w.heap.size + 1, r, by omega, ?_, rfl, ?_, (unhide HB).trans (belowK_b (w := W5) (by omega) W D _ _ hD hK rfl rfl)⟩
      · have := unhide HLT
        simp [World.putObj]
        omega
      · exact part_out (unhide HF) hr (unhide HA) hkk (belowK_b (n₀ := w.heap.size + 1 + 1) (w := W5) (by omega) W D _ _ hD hK rfl rfl) (by omega)
theorem part_any (key : ByteArray) (f n : Nat) (hkz : key.size ≤ 64) (hfn : f + n ≤ 65536) (w : World) (hK : KTab w) :
    Calls Tryz.prog 107 #[.string key, .int .i64 (f : Int), .int .i64 (n : Int)] w (PartPost w (nums key) f n) := by
  have h := callsIn_wide.1 (part_in key (f / 32) (f % 32) n hkz (by omega) (by omega) w hK)
  rw [show 32 * (f / 32) + f % 32 = f by omega] at h
  exact h
end Go.Proofs.YtifjmldmilmfjaaGreatDoor

namespace Go.Proofs.YtifjmldmilmfjaaGreatDoor
open Go.RowKit
set_option maxHeartbeats 400000 in
theorem isKey_any (s : ByteArray) (w : World) : Calls Tryz.prog 106 #[.string s] w fun e w' => e = .returned (.bool (decide (s.size = 32))) ∧ w' = w := by
  by_cases h : s.size = 32
  · have h1 : ((s.size : Int) == 32) = true := by simp; omega
    go_enter Tryz.func106, Tryz.ntmps106
    go_wp2
    go_ret
    exact ⟨by simp [h], rfl⟩
  · have h1 : ((s.size : Int) == 32) = false := by simp; omega
    go_enter Tryz.func106, Tryz.ntmps106
    go_wp2
    go_ret
    exact ⟨by simp [h], rfl⟩
theorem xor8_comm (x y : Int) (hx : 0 ≤ x ∧ x < 256) (hy : 0 ≤ y ∧ y < 256) : bits .xor .u8 x y = bits .xor .u8 y x := by
  obtain ⟨X, rfl⟩ := Int.eq_ofNat_of_zero_le hx.1
  obtain ⟨Y, rfl⟩ := Int.eq_ofNat_of_zero_le hy.1
  rw [u8_xor_nat X Y (by omega) (by omega), u8_xor_nat Y X (by omega) (by omega), Nat.xor_comm]
/-- A row of bytes of the call's own, turned place by place. -/
def LInv (w : World) (b o : Nat) (L : List Int) (wr : World) : Prop := Arr wr b o .u8 L ∧ Below w.heap.size w wr ∧ w.heap.size ≤ b
theorem LInv.put {w : World} {b o : Nat} {L L' : List Int} {wr : World} (h : LInv w b o L wr) (t : Nat) (ht : t < L.length) (v : Int) (e : L.set t v = L') : LInv w b o L' (wr.setCell ⟨b, o + t, none⟩ (.int .u8 v)) := by
  subst e
  exact ⟨h.1.set t ht v, h.2.1.setCell (p := ⟨b, o + t, none⟩) h.2.2 _, h.2.2⟩
set_option maxRecDepth 100000 in
set_option maxHeartbeats 1000000 in
theorem laidOn_any (key : ByteArray) (f : Nat) (s : ByteArray) (hkz : key.size ≤ 64) (hfn : f + s.size ≤ 65536) (w : World) (hK : KTab w) :
    Calls Tryz.prog 94 #[.string key, .int .i64 (f : Int), .string s] w fun e w' => e = .returned (.string (strOfNums (laidP (nums s) (partP (nums key) f s.size)))) ∧ Below w.heap.size w w' := by
  have HK := hide hK
  have hsl := nums_len s
  have hL := laidP_len (nums s) (partP (nums key) f s.size)
  have hPl := partP_len (nums key) f s.size
  have hPb := partP_bytes (nums key) f s.size
  have hLg := fun t => laidP_getD (nums s) (partP (nums key) f s.size) t
  have HCALL := hide (part_any key f s.size hkz hfn w hK)
  obtain ⟨P, hP⟩ : ∃ P, P = partP (nums key) f s.size := ⟨_, rfl⟩
  rw [← hP] at hL hPl hLg hPb ⊢
  obtain ⟨Lx, hLx⟩ : ∃ Lx, Lx = laidP (nums s) P := ⟨_, rfl⟩
  rw [← hLx] at hL hLg ⊢
  rw [hsl] at hL hLg
  have HP := hide hP
  clear hK hP hLx
  go_enter Tryz.func94, Tryz.ntmps94
  go_wp2_with fail
  refine (unhide HCALL).mono ?_
  rintro e w1 ⟨b, o, hb, hb1, rfl, hA, hB⟩
  rw [← unhide HP] at hA
  have h0 : LInv w b o (Lx.take 0 ++ P.drop 0) w1 := ⟨by simpa using hA, hB, hb⟩
  have H0 := hide h0
  clear hA hB h0 HCALL HP
  go_wp2
  go_loopw [16] (fun i wr => ∃ t : Nat, t ≤ s.size ∧ i = .int .i64 (t : Int) ∧ Hid (LInv w b o (Lx.take t ++ P.drop t) wr)) (fun i _ => s.size - (intOf i).toNat)
  case atStart => exact ⟨0, by omega, rfl, H0⟩
  case round =>
    obtain ⟨t, ht, rfl, HI⟩ := hrel
    by_cases htl : t < s.size
    · have hI := unhide HI
      have hlen : (Lx.take t ++ P.drop t).length = s.size := by simp [hL, hPl]; omega
      have c1 := hI.1.get t (by omega)
      have f1 := hI.1.free t (by omega)
      rw [getD_take_drop _ _ _ (by omega)] at c1
      have hix := index_str s t htl
      have hv := hLg t htl
      rw [xor8_comm _ _ (nums_bytes s t) (hPb t)] at hv
      have HE := hide (take_set Lx P t _ (by omega) (by omega) hv.symm)
      have HLEN := hide hlen
      have HV := hide hv
      clear hI hlen hv hLg hL hPl hsl
      generalize (nums s).getD t 0 = x at *
      generalize P.getD t 0 = y at *
      have i0 : 0 ≤ (t : Int) := by omega
      have i1 : (t : Int) < (s.size : Int) := by omega
      go_wp2
      go_still_tail 9, (by kernel_rfl)
      change wpList _ _ _ _ _ wr.drew
      go_wp2
      go_roundw
      case rel =>
        have h := (unhide HI).put t (by rw [unhide HLEN]; omega) _ (unhide HE)
        exact ⟨t + 1, by omega, by go_num, ⟨h.1.drew, h.2.1.drew, h.2.2⟩⟩
      case measure => simp [intOf]; omega
    · have e64 : t = s.size := by omega
      have hI := unhide HI
      rw [List.take_of_length_le (by omega), List.drop_of_length_le (by omega), List.append_nil] at hI
      have hcv := run_convert_bytes_arg (P := Tryz.prog) wr 86 5 Tryz.underlying86 Tryz.underlying5 b o s.size s.size Lx (by omega) (fun i hi => hI.1.get i (by omega)) 9 Tryz.underlying9
      have HB := hide hI.2.1
      clear hI HI H0 hLg hPb
      go_wp2
      go_ret
      exact ⟨rfl, unhide HB⟩
end Go.Proofs.YtifjmldmilmfjaaGreatDoor
