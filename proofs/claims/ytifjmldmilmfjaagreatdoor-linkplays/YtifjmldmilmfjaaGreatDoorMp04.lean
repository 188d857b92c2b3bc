import Derived.Test.YtifjmldmilmfjaaGreatDoorMp00
import Derived.Test.YtifjmldmilmfjaaGreatDoorMp03
import Derived.Deep.RegionLaw
import Derived.StillTailTactics
import Derived.Deep.RegionHeld3
namespace Go.Proofs.YtifjmldmilmfjaaGreatDoor
open Go.RowKit
def pad64 (k : List Int) : List Int := k ++ List.replicate (64 - k.length) 0
def xb (m x : Int) : Int := bits .xor .u8 x m
def laidK (k : List Int) (m : Int) : List Int := (pad64 k).map (xb m)
theorem pad64_len (k : List Int) (h : k.length ≤ 64) : (pad64 k).length = 64 := by simp [pad64]; omega
theorem laidK_bytes (k : List Int) (m : Int) : Bytes (laidK k m) := by
  intro j
  simp only [laidK, List.getD_eq_getElem?_getD, List.getElem?_map]
  cases (pad64 k)[j]? with
  | none => simp
  | some x => exact bits_u8 .xor x m
theorem Arr.mid {w : World} {b o : Nat} {k : IntKind} {q : List Int} (h : Arr w b o k q) (i : Nat) (l' : List Int) (hi : i + l'.length ≤ q.length) :
    Arr (w.setCells b (o + i) (l'.map (Value.int k))) b o k (q.take i ++ l' ++ q.drop (i + l'.length)) := by
  intro j hj
  have hjl : j < q.length := by simp at hj; omega
  refine ⟨?_, by rw [World.frozen?_setCells]; exact (h j hjl).2⟩
  rw [getD_mid _ _ _ _ (by omega)]
  by_cases h1 : j < i
  · rw [World.cell?_setCells_out b _ (o + i) w ⟨b, o + j, none⟩ (by intro _ _; left; simp; omega), (h j hjl).1, if_pos h1]
  · by_cases h2 : j < i + l'.length
    · obtain ⟨m, rfl⟩ : ∃ m, j = i + m := ⟨j - i, by omega⟩
      have hr := World.rangeAt_setCells_same w b (o + i) (l'.map (Value.int k)) (by
        intro x hx
        have hx' : i + x < q.length := by (simp at hx; omega)
        rw [Nat.add_assoc]; exact h.there (i + x) hx')
      have hm : m < l'.length := by omega
      have := hr m (.int k (l'.getD m 0)) (by simp [hm])
      rw [Nat.add_assoc] at this
      rw [this, if_neg h1, if_pos h2, Nat.add_sub_cancel_left]
    · rw [World.cell?_setCells_out b _ (o + i) w ⟨b, o + j, none⟩ (by intro _ _; right; simp; omega), (h j hjl).1, if_neg h1, if_neg h2]
theorem wpList_copy_str {ops : Array Oper} {rest : List Oper} {op : Oper} {a : Act} {w : World} {Q : Exit → Act → World → Prop} (hgd : op.guard = none) (d x : Operand) (hop : op.op = Op.call { callee := Callee.builtin Builtin.copy, args := #[d, x], argTypes := #[86, 9] })
    (b o dLen dCap : Nat) (t : ByteArray) (hd : a.eval d = .slice (some ⟨b, o, none⟩) dLen dCap) (hx : a.eval x = .string t) (m : Nat) (hm : m = min t.size dLen) (ht : w.there b o m)
    (h : ∀ w', w' = w.setCells b o (((nums t).take m).map (Value.int .u8)) → wpList Tryz.prog ops Q rest (a.put op.dst (.int .i64 m)) w') : wpList Tryz.prog ops Q (op :: rest) a w := by
  refine wpList_plain hgd fun K hK => ?_
  have hrun := run_copy_str w b o dLen dCap m t hm ht op.type
  unfold Oper.wp
  simp only [execOp, hop]
  simp [resolve, invoke, builtin, hd, hx, hrun, Result.andThen]
  exact hK _ _ (h _ (by rw [List.map_take]))
theorem key_start (w W1 : World) (k : List Int) (hk : k.length ≤ 64) (c : Array Value) (hc : c = ((List.replicate 64 (0 : Int)).map (Value.int .u8)).toArray) (hW : W1 = (w.alloc (Obj.cells c 160)).setCells w.heap.size 0 (k.map (Value.int .u8))) : KeyInv w (pad64 k) W1 := by
  subst hW
  have ha := arr_new w .u8 (List.replicate 64 0) 160 c hc
  refine ⟨?_, below_setCells (Nat.le_refl _) _ _ ((Below.refl _ _).alloc (Nat.le_refl _) _), by rw [size_setCells]; simp⟩
  have hm := ha.mid 0 k (by simp; omega)
  have e : (List.replicate 64 (0 : Int)).take 0 ++ k ++ (List.replicate 64 (0 : Int)).drop (0 + k.length) = pad64 k := by simp only [List.take_zero, List.nil_append, Nat.zero_add, List.drop_replicate, pad64]
  rw [e] at hm
  simpa using hm
set_option maxRecDepth 100000 in
set_option maxHeartbeats 400000 in
theorem keyed_any (k : ByteArray) (m : Int) (hk : k.size ≤ 64) (w : World) (hK : KTab w) :
    Calls Tryz.prog 87 #[.string k, .int .u8 m] w fun e w' => ∃ b, w.heap.size ≤ b ∧ b < w'.heap.size ∧ e = .returned (.pointer (some ⟨b, 0, none⟩)) ∧ Hs w' b (laidK (nums k) m) ∧ Below w.heap.size w w' := by
  have hkl : (nums k).length ≤ 64 := by rw [nums_len]; exact hk
  have HT := hide (fun j hj => (arr_new w .u8 (List.replicate 64 0) 160 _ rfl).there j (by simp; omega) : (w.alloc (Obj.cells ((List.replicate 64 (0 : Int)).map (Value.int .u8)).toArray 160)).there w.heap.size 0 k.size)
  have HK := hide hK
  clear hK
  go_enter Tryz.func87, Tryz.ntmps87
  go_wp2_with (refine wpList_copy_str rfl (.tmp 8) (.tmp 9) rfl w.heap.size 0 64 64 k rfl rfl k.size (by omega) (unhide HT) ?_; intro W1 hW1; have HW1 := hide hW1; clear hW1)
  have hI1 : KeyInv w (pad64 (nums k)) W1 := by
    have e2 : (nums k).take k.size = nums k := List.take_of_length_le (by rw [nums_len]; omega)
    have := unhide HW1
    rw [e2] at this
    exact key_start w W1 (nums k) hkl _ rfl this
  have HI1 := hide hI1
  have hpl := pad64_len (nums k) hkl
  clear hI1 HW1 HT
  go_loopw [11] (fun i wr => ∃ t : Nat, t ≤ 64 ∧ i = .int .i64 t ∧ KeyInv w ((laidK (nums k) m).take t ++ (pad64 (nums k)).drop t) wr) (fun i _ => 64 - (intOf i).toNat)
  case atStart => exact ⟨0, by omega, rfl, by simpa using unhide HI1⟩
  case round =>
    clear HI1
    obtain ⟨t, ht, rfl, hI⟩ := hrel
    have hll : (laidK (nums k) m).length = 64 := by simp [laidK, hpl]
    by_cases htl : t < 64
    · have c1 := hI.1.get0 t (by simp [hll, hpl]; omega)
      have f1 := hI.1.free0 t (by simp [hll, hpl]; omega)
      rw [getD_take_drop _ _ _ (by omega)] at c1
      have hv : (laidK (nums k) m).getD t 0 = bits .xor .u8 ((pad64 (nums k)).getD t 0) m := by
        have : t < (pad64 (nums k)).length := by omega
        simp [laidK, xb, this]
      have HE := hide (take_set (laidK (nums k) m) (pad64 (nums k)) t _ (by omega) (by omega) hv.symm)
      have HLL := hide (show t < ((laidK (nums k) m).take t ++ (pad64 (nums k)).drop t).length by simp [hll, hpl]; omega)
      obtain ⟨z, hz⟩ : ∃ z, z = (pad64 (nums k)).getD t 0 := ⟨_, rfl⟩
      rw [← hz] at c1 HE
      have HI := hide hI
      clear hI hz hv hll hpl
      go_wp2
      go_roundw
      case rel => exact ⟨t + 1, by omega, by go_num, (unhide HI).put t (unhide HLL) _ (unhide HE)⟩
      case measure => simp [intOf]; omega
    · have e64 : t = 64 := by omega
      rw [e64, List.take_of_length_le (by omega), List.drop_of_length_le (by omega), List.append_nil] at hI
      have HI := hide hI
      clear hI e64
      go_wp2_with fail
      refine (hs_new_any wr).mono ?_
      rintro e w1 ⟨rfl, h1, hb1, hs1⟩
      have hA := (unhide HI).1.below hb1 (unhide HI).2.2
      have hcv := run_convert_bytes_arg (P := Tryz.prog) w1 86 5 Tryz.underlying86 Tryz.underlying5 w.heap.size 0 64 64 (laidK (nums k) m) hll (fun i hi => hA.get i (by omega)) 9 Tryz.underlying9
      have H1 := hide h1
      have HB1 := hide hb1
      have HS1 := hide hs1
      clear h1 hb1 hs1 hA
      go_wp2_with fail
      have hbw : Below w.heap.size w w1 := (unhide HI).2.1.trans ((unhide HB1).mono (Nat.le_of_lt (unhide HI).2.2))
      refine (hs_write_any w1 wr.heap.size [] (strOfNums (laidK (nums k) m)) (unhide H1) (Nat.lt_trans (unhide HK).1 (unhide HI).2.2) (by rw [unhide HS1]; omega) ((unhide HK).below hbw (unhide HK).1) (by rw [strOfNums_size, hll]; simp)).mono ?_
      rintro e w2 ⟨rfl, h2, ht2⟩
      rw [nums_strOfNums _ (laidK_bytes _ _), List.nil_append] at h2
      have H2 := hide h2
      have HT2 := hide ht2
      have HBW := hide hbw
      clear h2 ht2 hbw
      go_wp2_with fail
      go_ret
      exact ⟨wr.heap.size, Nat.le_of_lt (unhide HI).2.2, Nat.lt_of_lt_of_le (by rw [unhide HS1]; omega) (unhide HT2).1.size, rfl, unhide H2, (unhide HBW).trans ((unhide HT2).1.mono (Nat.le_of_lt (unhide HI).2.2))⟩
end Go.Proofs.YtifjmldmilmfjaaGreatDoor

namespace Go.Proofs.YtifjmldmilmfjaaGreatDoor
open Go.RowKit
end Go.Proofs.YtifjmldmilmfjaaGreatDoor

namespace Go.Proofs.YtifjmldmilmfjaaGreatDoor
open Go.RowKit
set_option maxHeartbeats 400000 in
theorem right_any (x n : Int) (w : World) (h0 : 0 ≤ n) (h1 : n ≤ 32) :
    Calls Tryz.prog 113 #[.int .u32 x, .int .i64 n] w fun e w' => e = .returned (.int .u32 (rotr x n)) ∧ ∃ m, w' = w.drewN m := by
  go_enter Tryz.func113, Tryz.ntmps113
  go_wp2
  go_quiet (fail)
  go_wp2
  go_ret
  exact ⟨rfl, _, rfl⟩
set_option maxRecDepth 100000 in
set_option maxHeartbeats 400000 in
theorem starts_any (w : World) :
    Calls Tryz.prog 98 #[] w fun e w' => e = .returned (.agg (start8.vals.map (Value.int .u32)).toArray) ∧ Below w.heap.size w w' := by
  go_enter Tryz.func98, Tryz.ntmps98
  go_wp2
  have hld := run_loadVar_mid (P := Tryz.prog) (w.alloc (Obj.cells (start8.vals.map (Value.int .u32)).toArray 152)) w.heap.size 0 152 _ _ (arr_new w .u32 start8.vals 152 _ rfl).range Tryz.underlying152 rfl (by rw [size152]; rfl)
  refine bodyPost_ret (v := .agg (start8.vals.map (Value.int .u32)).toArray) ?_ rfl ⟨rfl, (Below.refl _ _).alloc (Nat.le_refl _) _⟩
  exact results_cell rfl _ _ _ ⟨w.heap.size, 0, none⟩ rfl _ hld
end Go.Proofs.YtifjmldmilmfjaaGreatDoor
