import Derived.Test.YtifjmldmilmfjaaGreatDoorMa00
import Derived.Test.YtifjmldmilmfjaaGreatDoorMa03
import Derived.Deep.RegionLaw
import Derived.StillTailTactics
import Derived.Deep.RegionHeld3
import Derived.Test.YtifjmldmilmfjaaGreatDoorMa01
import Derived.ArgAppend
import Derived.Laws.IdiomStrings
import Derived.Lib.AppendStr
import Derived.BigQuiet
namespace Go.Proofs.YtifjmldmilmfjaaGreatDoor
open Go.RowKit
def pad64 (k : List Int) : List Int := k ++ List.replicate (64 - k.length) 0
def xb (m x : Int) : Int := bits .xor .u8 x m
def laidK (k : List Int) (m : Int) : List Int := (pad64 k).map (xb m)
theorem pad64_len (k : List Int) (h : k.length ≤ 64) : (pad64 k).length = 64 := by simp [pad64]; omega
theorem laidK_bytes (k : List Int) (m : Int) : Bytes (laidK k m) := by
  intro j
  simp only [laidK, List.getD_eq_getElem?_getD, List.getElem?_map]
  cases (pad64 k)[j]? with
  | none => simp
  | some x => exact bits_u8 .xor x m
theorem Arr.mid {w : World} {b o : Nat} {k : IntKind} {q : List Int} (h : Arr w b o k q) (i : Nat) (l' : List Int) (hi : i + l'.length ≤ q.length) :
    Arr (w.setCells b (o + i) (l'.map (Value.int k))) b o k (q.take i ++ l' ++ q.drop (i + l'.length)) := by
  intro j hj
  have hjl : j < q.length := by simp at hj; omega
  refine ⟨?_, by rw [World.frozen?_setCells]; exact (h j hjl).2⟩
  rw [getD_mid _ _ _ _ (by omega)]
  by_cases h1 : j < i
  · rw [World.cell?_setCells_out b _ (o + i) w ⟨b, o + j, none⟩ (by intro _ _; left; simp; omega), (h j hjl).1, if_pos h1]
  · by_cases h2 : j < i + l'.length
    · obtain ⟨m, rfl⟩ : ∃ m, j = i + m := ⟨j - i, by omega⟩
      have hr := World.rangeAt_setCells_same w b (o + i) (l'.map (Value.int k)) (by
        intro x hx
        have hx' : i + x < q.length := by (simp at hx; omega)
        rw [Nat.add_assoc]; exact h.there (i + x) hx')
      have hm : m < l'.length := by omega
      have := hr m (.int k (l'.getD m 0)) (by simp [hm])
      rw [Nat.add_assoc] at this
      rw [this, if_neg h1, if_pos h2, Nat.add_sub_cancel_left]
    · rw [World.cell?_setCells_out b _ (o + i) w ⟨b, o + j, none⟩ (by intro _ _; right; simp; omega), (h j hjl).1, if_neg h1, if_neg h2]
theorem wpList_copy_str {ops : Array Oper} {rest : List Oper} {op : Oper} {a : Act} {w : World} {Q : Exit → Act → World → Prop} (hgd : op.guard = none) (d x : Operand) (hop : op.op = Op.call { callee := Callee.builtin Builtin.copy, args := #[d, x], argTypes := #[86, 9] })
    (b o dLen dCap : Nat) (t : ByteArray) (hd : a.eval d = .slice (some ⟨b, o, none⟩) dLen dCap) (hx : a.eval x = .string t) (m : Nat) (hm : m = min t.size dLen) (ht : w.there b o m)
    (h : ∀ w', w' = w.setCells b o (((nums t).take m).map (Value.int .u8)) → wpList Tryz.prog ops Q rest (a.put op.dst (.int .i64 m)) w') : wpList Tryz.prog ops Q (op :: rest) a w := by
  refine wpList_plain hgd fun K hK => ?_
  have hrun := run_copy_str w b o dLen dCap m t hm ht op.type
  unfold Oper.wp
  simp only [execOp, hop]
  simp [resolve, invoke, builtin, hd, hx, hrun, Result.andThen]
  exact hK _ _ (h _ (by rw [List.map_take]))
theorem key_start (w W1 : World) (k : List Int) (hk : k.length ≤ 64) (c : Array Value) (hc : c = ((List.replicate 64 (0 : Int)).map (Value.int .u8)).toArray) (hW : W1 = (w.alloc (Obj.cells c 160)).setCells w.heap.size 0 (k.map (Value.int .u8))) : KeyInv w (pad64 k) W1 := by
  subst hW
  have ha := arr_new w .u8 (List.replicate 64 0) 160 c hc
  refine ⟨?_, below_setCells (Nat.le_refl _) _ _ ((Below.refl _ _).alloc (Nat.le_refl _) _), by rw [size_setCells]; simp⟩
  have hm := ha.mid 0 k (by simp; omega)
  have e : (List.replicate 64 (0 : Int)).take 0 ++ k ++ (List.replicate 64 (0 : Int)).drop (0 + k.length) = pad64 k := by simp only [List.take_zero, List.nil_append, Nat.zero_add, List.drop_replicate, pad64]
  rw [e] at hm
  simpa using hm
set_option maxRecDepth 100000 in
set_option maxHeartbeats 400000 in
theorem keyed_any (k : ByteArray) (m : Int) (hk : k.size ≤ 64) (w : World) (hK : KTab w) :
    Calls Tryz.prog 87 #[.string k, .int .u8 m] w fun e w' => ∃ b, w.heap.size ≤ b ∧ b < w'.heap.size ∧ e = .returned (.pointer (some ⟨b, 0, none⟩)) ∧ Hs w' b (laidK (nums k) m) ∧ Below w.heap.size w w' := by
  have hkl : (nums k).length ≤ 64 := by rw [nums_len]; exact hk
  have HT := hide (fun j hj => (arr_new w .u8 (List.replicate 64 0) 160 _ rfl).there j (by simp; omega) : (w.alloc (Obj.cells ((List.replicate 64 (0 : Int)).map (Value.int .u8)).toArray 160)).there w.heap.size 0 k.size)
  have HK := hide hK
  clear hK
  go_enter Tryz.func87, Tryz.ntmps87
  go_wp2_with (refine wpList_copy_str rfl (.tmp 8) (.tmp 9) rfl w.heap.size 0 64 64 k rfl rfl k.size (by omega) (unhide HT) ?_; intro W1 hW1; have HW1 := hide hW1; clear hW1)
  have hI1 : KeyInv w (pad64 (nums k)) W1 := by
    have e2 : (nums k).take k.size = nums k := List.take_of_length_le (by rw [nums_len]; omega)
    have := unhide HW1
    rw [e2] at this
    exact key_start w W1 (nums k) hkl _ rfl this
  have HI1 := hide hI1
  have hpl := pad64_len (nums k) hkl
  clear hI1 HW1 HT
  go_loopw [11] (fun i wr => ∃ t : Nat, t ≤ 64 ∧ i = .int .i64 t ∧ KeyInv w ((laidK (nums k) m).take t ++ (pad64 (nums k)).drop t) wr) (fun i _ => 64 - (intOf i).toNat)
  case atStart => exact ⟨0, by omega, rfl, by simpa using unhide HI1⟩
  case round =>
    clear HI1
    obtain ⟨t, ht, rfl, hI⟩ := hrel
    have hll : (laidK (nums k) m).length = 64 := by simp [laidK, hpl]
    by_cases htl : t < 64
    · have c1 := hI.1.get0 t (by simp [hll, hpl]; omega)
      have f1 := hI.1.free0 t (by simp [hll, hpl]; omega)
      rw [getD_take_drop _ _ _ (by omega)] at c1
      have hv : (laidK (nums k) m).getD t 0 = bits .xor .u8 ((pad64 (nums k)).getD t 0) m := by
        have : t < (pad64 (nums k)).length := by omega
        simp [laidK, xb, this]
      have HE := hide (take_set (laidK (nums k) m) (pad64 (nums k)) t _ (by omega) (by omega) hv.symm)
      have HLL := hide (show t < ((laidK (nums k) m).take t ++ (pad64 (nums k)).drop t).length by simp [hll, hpl]; omega)
      obtain ⟨z, hz⟩ : ∃ z, z = (pad64 (nums k)).getD t 0 := ⟨_, rfl⟩
      rw [← hz] at c1 HE
      have HI := hide hI
      clear hI hz hv hll hpl
      go_wp2
      go_roundw
      case rel => exact ⟨t + 1, by omega, by go_num, (unhide HI).put t (unhide HLL) _ (unhide HE)⟩
      case measure => simp [intOf]; omega
    · have e64 : t = 64 := by omega
      rw [e64, List.take_of_length_le (by omega), List.drop_of_length_le (by omega), List.append_nil] at hI
      have HI := hide hI
      clear hI e64
      go_wp2_with fail
      refine (hs_new_any wr).mono ?_
      rintro e w1 ⟨rfl, h1, hb1, hs1⟩
      have hA := (unhide HI).1.below hb1 (unhide HI).2.2
      have hcv := run_convert_bytes_arg (P := Tryz.prog) w1 86 5 Tryz.underlying86 Tryz.underlying5 w.heap.size 0 64 64 (laidK (nums k) m) hll (fun i hi => hA.get i (by omega)) 9 Tryz.underlying9
      have H1 := hide h1
      have HB1 := hide hb1
      have HS1 := hide hs1
      clear h1 hb1 hs1 hA
      go_wp2_with fail
      have hbw : Below w.heap.size w w1 := (unhide HI).2.1.trans ((unhide HB1).mono (Nat.le_of_lt (unhide HI).2.2))
      refine (hs_write_any w1 wr.heap.size [] (strOfNums (laidK (nums k) m)) (unhide H1) (Nat.lt_trans (unhide HK).1 (unhide HI).2.2) (by rw [unhide HS1]; omega) ((unhide HK).below hbw (unhide HK).1) (by rw [strOfNums_size, hll]; simp)).mono ?_
      rintro e w2 ⟨rfl, h2, ht2⟩
      rw [nums_strOfNums _ (laidK_bytes _ _), List.nil_append] at h2
      have H2 := hide h2
      have HT2 := hide ht2
      have HBW := hide hbw
      clear h2 ht2 hbw
      go_wp2_with fail
      go_ret
      exact ⟨wr.heap.size, Nat.le_of_lt (unhide HI).2.2, Nat.lt_of_lt_of_le (by rw [unhide HS1]; omega) (unhide HT2).1.size, rfl, unhide H2, (unhide HBW).trans ((unhide HT2).1.mono (Nat.le_of_lt (unhide HI).2.2))⟩
end Go.Proofs.YtifjmldmilmfjaaGreatDoor

namespace Go.Proofs.YtifjmldmilmfjaaGreatDoor
open Go.RowKit
end Go.Proofs.YtifjmldmilmfjaaGreatDoor

namespace Go.Proofs.YtifjmldmilmfjaaGreatDoor
open Go.RowKit
end Go.Proofs.YtifjmldmilmfjaaGreatDoor

namespace Go.Proofs.YtifjmldmilmfjaaGreatDoor
open Go.RowKit
end Go.Proofs.YtifjmldmilmfjaaGreatDoor

namespace Go.Proofs.YtifjmldmilmfjaaGreatDoor
open Go.RowKit
end Go.Proofs.YtifjmldmilmfjaaGreatDoor

namespace Go.Proofs.YtifjmldmilmfjaaGreatDoor
open Go.RowKit
end Go.Proofs.YtifjmldmilmfjaaGreatDoor

namespace Go.Proofs.YtifjmldmilmfjaaGreatDoor
open Go.RowKit
end Go.Proofs.YtifjmldmilmfjaaGreatDoor

namespace Go.Proofs.YtifjmldmilmfjaaGreatDoor
open Go.RowKit
def macP (k s : List Int) : List Int := sha (laidK (if 64 < k.length then sha k else k) 92 ++ sha (laidK (if 64 < k.length then sha k else k) 54 ++ s))
theorem laidK_len (k : List Int) (m : Int) (h : k.length ≤ 64) : (laidK k m).length = 64 := by simp [laidK, pad64_len k h]
theorem out_bytes (s : H8) : Bytes (outBytes s) := by
  intro j
  by_cases hj : j < 32
  · obtain ⟨i, k, hi, hk, rfl⟩ : ∃ i k, i < 8 ∧ k < 4 ∧ j = 4 * i + k := ⟨j / 4, j % 4, by omega, by omega, by omega⟩
    rw [out_at s i k hi hk]
    exact ⟨Int.emod_nonneg _ (by decide), Int.emod_lt_of_pos _ (by decide)⟩
  · rw [List.getD_eq_getElem?_getD, List.getElem?_eq_none (by rw [out_len]; omega)]; simp
theorem sha_bytes (l : List Int) : Bytes (sha l) := out_bytes _
theorem mac_len (k s : List Int) : (macP k s).length = 32 := sha_len _
theorem mac_bytes (k s : List Int) : Bytes (macP k s) := sha_bytes _
set_option maxRecDepth 100000 in
set_option maxHeartbeats 400000 in
theorem mac_any (k s : ByteArray) (hk : k.size < 2305843009213693952) (hs : s.size + 64 < 2305843009213693952) (w : World) (hK : KTab w) :
    Calls Tryz.prog 65 #[.string k, .string s] w fun e w' => e = .returned (.string (strOfNums (macP (nums k) (nums s)))) ∧ Below w.heap.size w w' := by
  have HK := hide hK
  clear hK
  by_cases h64 : 64 < k.size
  · have hp : macP (nums k) (nums s) = sha (laidK (sha (nums k)) 92 ++ sha (laidK (sha (nums k)) 54 ++ nums s)) := by rw [macP, nums_len, if_pos h64]
    have HP := hide hp
    clear hp
    go_enter Tryz.func65, Tryz.ntmps65
    go_wp2_with fail
    refine (sum_any k w (unhide HK) hk).mono ?_
    rintro e w0 ⟨rfl, hb0⟩
    have hk0 : (strOfNums (sha (nums k))).size ≤ 64 := by rw [strOfNums_size, sha_len]; omega
    have hnk : nums (strOfNums (sha (nums k))) = sha (nums k) := nums_strOfNums _ (sha_bytes _)
    rw [← hnk] at HP
    generalize strOfNums (sha (nums k)) = k0 at *
    have HK0 := hide ((unhide HK).below hb0 (unhide HK).1)
    have HB0 := hide hb0
    clear hb0 hnk
    go_wp2_with fail

    refine (keyed_any k0 54 hk0 w0 (unhide HK0)).mono ?_
    rintro e w1 ⟨b1, hb1a, hb1b, rfl, h1, hB1⟩
    have H1 := hide h1
    have HB1 := hide hB1
    have hK1 := hide ((unhide HK0).below hB1 (unhide HK0).1)
    clear h1 hB1
    go_wp2_with fail
    refine (hs_write_any w1 b1 _ s (unhide H1) (Nat.lt_of_lt_of_le (unhide HK0).1 hb1a) hb1b (unhide hK1) (by rw [laidK_len _ _ (by rw [nums_len]; exact hk0)]; omega)).mono ?_
    rintro e w2 ⟨rfl, h2, ht2⟩
    have H2 := hide h2
    have HT2 := hide ht2
    have hK2 := hide ((unhide hK1).touch ht2 (Nat.lt_of_lt_of_le (unhide HK0).1 hb1a))
    have hs2 : b1 < w2.heap.size := Nat.lt_of_lt_of_le hb1b ht2.1.size
    clear h2 ht2
    go_wp2_with fail
    refine (keyed_any k0 92 hk0 w2 (unhide hK2)).mono ?_
    rintro e w3 ⟨b3, hb3a, hb3b, rfl, h3, hB3⟩
    have H2' := hide ((unhide H2).below hB3 hs2)
    have H3 := hide h3
    have HB3 := hide hB3
    have hK3 := hide ((unhide hK2).below hB3 (unhide hK2).1)
    have hs3 : b1 < w3.heap.size := Nat.lt_of_lt_of_le hs2 hB3.size
    clear h3 hB3
    go_wp2_with fail
    refine (msum_any w3 b1 _ (unhide H2') hs3 (unhide hK3) (by rw [List.length_append, laidK_len _ _ (by rw [nums_len]; exact hk0), nums_len]; omega)).mono ?_
    rintro e w4 ⟨rfl, hB4⟩
    have H3' := hide ((unhide H3).below hB4 hb3b)
    have HB4 := hide hB4
    have hK4 := hide ((unhide hK3).below hB4 (unhide hK3).1)
    have hs4 : b3 < w4.heap.size := Nat.lt_of_lt_of_le hb3b hB4.size
    clear hB4
    go_wp2_with fail
    refine (hs_write_any w4 b3 _ _ (unhide H3') (Nat.lt_of_lt_of_le (unhide hK2).1 hb3a) hs4 (unhide hK4) (by rw [laidK_len _ _ (by rw [nums_len]; exact hk0), strOfNums_size, sha_len]; omega)).mono ?_
    rintro e w5 ⟨rfl, h5, ht5⟩
    rw [nums_strOfNums _ (sha_bytes _)] at h5
    have H5 := hide h5
    have HT5 := hide ht5
    have hK5 := hide ((unhide hK4).touch ht5 (Nat.lt_of_lt_of_le (unhide hK2).1 hb3a))
    have hs5 : b3 < w5.heap.size := Nat.lt_of_lt_of_le hs4 ht5.1.size
    clear h5 ht5
    go_wp2_with fail
    refine (msum_any w5 b3 _ (unhide H5) hs5 (unhide hK5) (by rw [List.length_append, laidK_len _ _ (by rw [nums_len]; exact hk0), sha_len]; omega)).mono ?_
    rintro e w6 ⟨rfl, hB6⟩
    have hz12 : Below w0.heap.size w0 w2 := (unhide HB1).trans ((unhide HT2).1.mono hb1a)
    have hz3 := hz12.trans ((unhide HB3).mono hz12.size)
    have hz4 := hz3.trans ((unhide HB4).mono hz3.size)
    have hz5 := hz4.trans ((unhide HT5).1.mono (Nat.le_trans hz12.size hb3a))
    have hz6 := hide (hz5.trans (hB6.mono hz5.size))
    clear hB6 hz12 hz3 hz4 hz5
    go_wp2_with fail
    go_ret
    exact ⟨by rw [unhide HP]; rfl, (unhide HB0).trans ((unhide hz6).mono (unhide HB0).size)⟩
  · have hp : macP (nums k) (nums s) = sha (laidK (nums k) 92 ++ sha (laidK (nums k) 54 ++ nums s)) := by rw [macP, nums_len, if_neg h64]
    have HP := hide hp
    have hk0 : k.size ≤ 64 := by omega
    clear hp
    go_enter Tryz.func65, Tryz.ntmps65
    go_wp2_with fail

    refine (keyed_any k 54 hk0 w (unhide HK)).mono ?_
    rintro e w1 ⟨b1, hb1a, hb1b, rfl, h1, hB1⟩
    have H1 := hide h1
    have HB1 := hide hB1
    have hK1 := hide ((unhide HK).below hB1 (unhide HK).1)
    clear h1 hB1
    go_wp2_with fail
    refine (hs_write_any w1 b1 _ s (unhide H1) (Nat.lt_of_lt_of_le (unhide HK).1 hb1a) hb1b (unhide hK1) (by rw [laidK_len _ _ (by rw [nums_len]; exact hk0)]; omega)).mono ?_
    rintro e w2 ⟨rfl, h2, ht2⟩
    have H2 := hide h2
    have HT2 := hide ht2
    have hK2 := hide ((unhide hK1).touch ht2 (Nat.lt_of_lt_of_le (unhide HK).1 hb1a))
    have hs2 : b1 < w2.heap.size := Nat.lt_of_lt_of_le hb1b ht2.1.size
    clear h2 ht2
    go_wp2_with fail
    refine (keyed_any k 92 hk0 w2 (unhide hK2)).mono ?_
    rintro e w3 ⟨b3, hb3a, hb3b, rfl, h3, hB3⟩
    have H2' := hide ((unhide H2).below hB3 hs2)
    have H3 := hide h3
    have HB3 := hide hB3
    have hK3 := hide ((unhide hK2).below hB3 (unhide hK2).1)
    have hs3 : b1 < w3.heap.size := Nat.lt_of_lt_of_le hs2 hB3.size
    clear h3 hB3
    go_wp2_with fail
    refine (msum_any w3 b1 _ (unhide H2') hs3 (unhide hK3) (by rw [List.length_append, laidK_len _ _ (by rw [nums_len]; exact hk0), nums_len]; omega)).mono ?_
    rintro e w4 ⟨rfl, hB4⟩
    have H3' := hide ((unhide H3).below hB4 hb3b)
    have HB4 := hide hB4
    have hK4 := hide ((unhide hK3).below hB4 (unhide hK3).1)
    have hs4 : b3 < w4.heap.size := Nat.lt_of_lt_of_le hb3b hB4.size
    clear hB4
    go_wp2_with fail
    refine (hs_write_any w4 b3 _ _ (unhide H3') (Nat.lt_of_lt_of_le (unhide hK2).1 hb3a) hs4 (unhide hK4) (by rw [laidK_len _ _ (by rw [nums_len]; exact hk0), strOfNums_size, sha_len]; omega)).mono ?_
    rintro e w5 ⟨rfl, h5, ht5⟩
    rw [nums_strOfNums _ (sha_bytes _)] at h5
    have H5 := hide h5
    have HT5 := hide ht5
    have hK5 := hide ((unhide hK4).touch ht5 (Nat.lt_of_lt_of_le (unhide hK2).1 hb3a))
    have hs5 : b3 < w5.heap.size := Nat.lt_of_lt_of_le hs4 ht5.1.size
    clear h5 ht5
    go_wp2_with fail
    refine (msum_any w5 b3 _ (unhide H5) hs5 (unhide hK5) (by rw [List.length_append, laidK_len _ _ (by rw [nums_len]; exact hk0), sha_len]; omega)).mono ?_
    rintro e w6 ⟨rfl, hB6⟩
    have hz12 : Below w.heap.size w w2 := (unhide HB1).trans ((unhide HT2).1.mono hb1a)
    have hz3 := hz12.trans ((unhide HB3).mono hz12.size)
    have hz4 := hz3.trans ((unhide HB4).mono hz3.size)
    have hz5 := hz4.trans ((unhide HT5).1.mono (Nat.le_trans hz12.size hb3a))
    have hz6 := hide (hz5.trans (hB6.mono hz5.size))
    clear hB6 hz12 hz3 hz4 hz5
    go_wp2_with fail
    go_ret
    exact ⟨by rw [unhide HP]; rfl, unhide hz6⟩
end Go.Proofs.YtifjmldmilmfjaaGreatDoor

namespace Go.Proofs.YtifjmldmilmfjaaGreatDoor
open Go.RowKit
end Go.Proofs.YtifjmldmilmfjaaGreatDoor

namespace Go.Proofs.YtifjmldmilmfjaaGreatDoor
open Go.RowKit
end Go.Proofs.YtifjmldmilmfjaaGreatDoor

namespace Go.Proofs.YtifjmldmilmfjaaGreatDoor
open Go.RowKit
end Go.Proofs.YtifjmldmilmfjaaGreatDoor

namespace Go.Proofs.YtifjmldmilmfjaaGreatDoor
open Go.RowKit
/-- The i-th 32 bytes. -/
def tP (key info : List Int) : Nat → List Int
  | 0 => []
  | i + 1 => macP key (tP key info i ++ info ++ [((i : Int) + 1) % 256])
/-- The first k of them, one behind the other. -/
def outP (key info : List Int) : Nat → List Int
  | 0 => []
  | k + 1 => outP key info k ++ tP key info (k + 1)
theorem outP_len (key info : List Int) : ∀ k, (outP key info k).length = 32 * k
  | 0 => rfl
  | k + 1 => by rw [outP, List.length_append, outP_len key info k, tP, mac_len]; omega
theorem tP_bytes (key info : List Int) : ∀ i, Bytes (tP key info i)
  | 0 => by intro j; simp [tP]
  | _ + 1 => mac_bytes _ _
theorem tP_len_le (key info : List Int) : ∀ i, (tP key info i).length ≤ 32
  | 0 => by simp [tP]
  | _ + 1 => by rw [tP, mac_len]; omega
theorem nums_append (a b : ByteArray) : nums (a ++ b) = nums a ++ nums b := by simp [nums, ByteArray.data_append]
theorem run_append_str (w : World) (b sLen sCap : Nat) (s : ByteArray) (hroom : sLen + s.size ≤ sCap) (ht : w.there b sLen s.size) (ty : TypeId) :
    (Builtin.append_ #[86, 9] ty #[.slice (some ⟨b, 0, none⟩) sLen sCap, .string s]).run Tryz.prog w = .ok (.slice (some ⟨b, 0, none⟩) (sLen + s.size) sCap) (w.setCells b sLen ((nums s).map (Value.int .u8))) := by
  obtain ⟨i0, hi, hz0, hz1, hz2⟩ := info_parts info5
  have hf := Lib.run_firstCells_string (P := Tryz.prog) w 1 s
  have hsc : Lib.strCells s = (nums s).map (Value.int .u8) := by simp [Lib.strCells, nums, Function.comp_def]
  have hl : ((nums s).map (Value.int .u8)).length = s.size := by rw [List.length_map, nums_len]
  have hst := run_storeCells_cells (P := Tryz.prog) b sLen ((nums s).map (Value.int .u8)) 0 w (by rw [hl]; intro j hj; simpa using (ht j hj).1) (by rw [hl]; intro j hj; simpa using (ht j hj).2) (by
    intro v hv
    obtain ⟨x, _, rfl⟩ := List.mem_map.1 hv
    rfl)
  simp only [Nat.add_zero] at hst
  rw [hsc] at hf
  have ha : (⟨b, 0, none⟩ : Addr).add sLen = ⟨b, sLen, none⟩ := by rw [Addr.add_mid, Nat.zero_add]
  simp [Builtin.append_, run_underlying Tryz.underlying86, run_underlying Tryz.underlying9, sizeOf, typeInfo, hi, hz1, Builtin.lenOf, hroom, hf, ha, hst]
theorem wpList_append_str {ops : Array Oper} {rest : List Oper} {op : Oper} {a : Act} {w : World} {Q : Exit → Act → World → Prop} (hgd : op.guard = none) (d x : Operand) (hop : op.op = Op.call { callee := Callee.builtin Builtin.append, args := #[d, x], argTypes := #[86, 9] })
    (b sLen sCap : Nat) (t : ByteArray) (hd : a.eval d = .slice (some ⟨b, 0, none⟩) sLen sCap) (hx : a.eval x = .string t) (hroom : sLen + t.size ≤ sCap) (ht : w.there b sLen t.size)
    (h : ∀ w', w' = w.setCells b sLen ((nums t).map (Value.int .u8)) → wpList Tryz.prog ops Q rest (a.put op.dst (.slice (some ⟨b, 0, none⟩) (sLen + t.size) sCap)) w') : wpList Tryz.prog ops Q (op :: rest) a w := by
  refine wpList_plain hgd fun K hK => ?_
  have hrun := run_append_str w b sLen sCap t hroom ht op.type
  unfold Oper.wp
  simp only [execOp, hop]
  simp [resolve, invoke, builtin, hd, hx, hrun, Result.andThen]
  exact hK _ _ (h _ rfl)
theorem KeyInv.alloc_below {w : World} {l : List Int} {wr w1 : World} (h : KeyInv w l wr) (o : Obj) (hb : Below (wr.alloc o).heap.size (wr.alloc o) w1) : KeyInv w l w1 := by
  have hs := hb.size
  have h2 := h.2.2
  rw [World.size_alloc] at hs
  exact ⟨(h.1.alloc h2 o).below hb (by rw [World.size_alloc]; omega), (h.2.1.alloc (by omega) o).trans (hb.mono (by rw [World.size_alloc]; omega)), by omega⟩
theorem drv_put {w w1 W2 : World} {A T : List Int} {mt : ByteArray} {k n : Nat} (h : KeyInv w (A ++ List.replicate (n + 32 - 32 * k) 0) w1) (hA : A.length = 32 * k) (hmt : nums mt = T) (hms : mt.size = 32) (hr : 32 * k < n)
    (hW : W2 = w1.setCells w.heap.size (32 * k) ((nums mt).map (Value.int .u8))) {A' : List Int} (hA' : A' = A ++ T) : KeyInv w (A' ++ List.replicate (n + 32 - 32 * (k + 1)) 0) W2 := by
  subst hW hA' hmt
  refine ⟨?_, below_setCells (Nat.le_refl _) _ _ h.2.1, by rw [size_setCells]; exact h.2.2⟩
  have hl : (nums mt).length = 32 := by rw [nums_len, hms]
  have hm := h.1.mid (32 * k) (nums mt) (by rw [List.length_append, hA, List.length_replicate, hl]; omega)
  have e : (A ++ List.replicate (n + 32 - 32 * k) (0 : Int)).take (32 * k) ++ nums mt ++ (A ++ List.replicate (n + 32 - 32 * k) (0 : Int)).drop (32 * k + (nums mt).length) = A ++ nums mt ++ List.replicate (n + 32 - 32 * (k + 1)) 0 := by
    rw [List.take_append_of_le_length (by omega), List.take_of_length_le (by omega), hl, List.drop_append, List.drop_of_length_le (by omega), List.nil_append, List.drop_replicate, hA]
    congr 2
    omega
  rw [e, Nat.zero_add] at hm
  exact hm
set_option maxHeartbeats 400000 in
theorem derive_long (key info : ByteArray) (n : Int) (h : 8160 < n) (w : World) :
    Calls Tryz.prog 57 #[.string key, .string info, .int .i64 n] w fun e w' => e = .returned (.tuple #[.string ⟨#[]⟩, .int .i64 10]) ∧ w' = w := by
  go_enter Tryz.func57, Tryz.ntmps57
  go_wp2
  go_ret2
  exact ⟨rfl, rfl⟩
set_option maxRecDepth 100000 in
set_option maxHeartbeats 400000 in
theorem derive_any (key info : ByteArray) (n : Nat) (hn : n ≤ 8160) (hk : key.size < 2305843009213693952) (hi : info.size + 200 < 2305843009213693952) (w : World) (hK : KTab w) :
    Calls Tryz.prog 57 #[.string key, .string info, .int .i64 (n : Int)] w fun e w' => e = .returned (.tuple #[.string (strOfNums ((outP (nums key) (nums info) ((n + 31) / 32)).take n)), .int .i64 0]) ∧ Below w.heap.size w w' := by
  have HK := hide hK
  clear hK
  have hmk := fun W => run_make_u8 0 (n + 32) (by omega) (by omega) W
  simp only [Int.natCast_add, Int.cast_ofNat_Int] at hmk
  go_enter Tryz.func57, Tryz.ntmps57
  go_wp2
  clear hmk
  go_loopw [8, 9, 10] (fun v l i wr => ∃ k : Nat, 32 * k < n + 32 ∧ i = .int .i64 ((k : Int) + 1) ∧ v = .slice (some ⟨w.heap.size, 0, none⟩) (32 * k) (n + 32) ∧ l = .string (strOfNums (tP (nums key) (nums info) k)) ∧ KeyInv w (outP (nums key) (nums info) k ++ List.replicate (n + 32 - 32 * k) 0) wr) (fun _ _ i _ => n + 32 - 32 * (intOf i).toNat)
  case atStart => exact ⟨0, by omega, rfl, rfl, rfl, by
    have h : KeyInv w (List.replicate (n + 32) 0) (w.alloc (Obj.cells (Array.replicate (n + 32) (Value.int .u8 0)) 5)) := ⟨arr_new w .u8 (List.replicate (n + 32) 0) 5 _ (by simp), (Below.refl _ _).alloc (Nat.le_refl _) _, by simp⟩
    simpa [outP] using h⟩
  case round =>
    obtain ⟨k, hk2, rfl, rfl, rfl, hI⟩ := hrel
    by_cases hlt : 32 * k < n
    · have hcv := fun W : World => run_convert_bytes_arg (P := Tryz.prog) (W.alloc (Obj.cells #[.int .u8 ((k : Int) + 1)] 5)) 86 5 Tryz.underlying86 Tryz.underlying5 W.heap.size 0 1 1 [(k : Int) + 1] rfl (fun i hi => by
        have : i = 0 := by omega
        subst this
        simp) 9 Tryz.underlying9
      have htl := tP_len_le (nums key) (nums info) k
      have hts : (strOfNums (tP (nums key) (nums info) k)).size ≤ 32 := by rw [strOfNums_size]; exact htl
      have hns := nums_strOfNums _ (tP_bytes (nums key) (nums info) k)
      obtain ⟨lt, hlt2⟩ : ∃ lt, lt = strOfNums (tP (nums key) (nums info) k) := ⟨_, rfl⟩
      rw [← hlt2] at hts hns
      rw [← hlt2]
      have HNS := hide hns
      have HI := hide hI
      have hs1 : (lt ++ info).size = lt.size + info.size := ByteArray.size_append
      have hs2 : (strOfNums [(k : Int) + 1]).size = 1 := by rw [strOfNums_size]; rfl
      have hnb : nums (strOfNums [(k : Int) + 1]) = [((k : Int) + 1) % 256] := by
        rw [nums_strOfNums _ (bytes_one _ (by omega) (by omega)), Int.emod_eq_of_lt (by omega) (by omega)]
      obtain ⟨bt, hbt⟩ : ∃ bt, bt = strOfNums [(k : Int) + 1] := ⟨_, rfl⟩
      rw [← hbt] at hs2 hnb
      simp only [← hbt] at hcv
      have hs3 : (lt ++ info).size + bt.size ≤ 9223372036854775807 := by omega
      have hs4 : lt.size + info.size ≤ 9223372036854775807 := by omega
      have hall : nums (lt ++ info ++ bt) = tP (nums key) (nums info) k ++ nums info ++ [((k : Int) + 1) % 256] := by rw [nums_append, nums_append, unhide HNS, hnb]
      have hsall : (lt ++ info ++ bt).size + 64 < 2305843009213693952 := by rw [ByteArray.size_append]; omega
      have HMA := hide (fun W (hW : KTab W) => mac_any key (lt ++ info ++ bt) hk hsall W hW)
      rw [hall] at HMA
      have hkw := hide ((unhide HK).below ((unhide HI).2.1.alloc (Nat.le_of_lt (unhide HI).2.2) (Obj.cells #[.int .u8 ((k : Int) + 1)] 5)) (unhide HK).1)
      have HS1 := hide hs1
      clear hlt2 hns hI htl hnb hbt hall hsall
      go_wp2_with fail
      refine (unhide HMA _ (unhide hkw)).mono ?_
      rintro e w1 ⟨rfl, hb1⟩
      change Below (wr.alloc (Obj.cells #[.int .u8 ((k : Int) + 1)] 5)).heap.size _ w1 at hb1
      have hI1 : KeyInv w (outP (nums key) (nums info) k ++ List.replicate (n + 32 - 32 * k) 0) w1 := (unhide HI).alloc_below _ hb1
      have htn : tP (nums key) (nums info) (k + 1) = macP (nums key) (tP (nums key) (nums info) k ++ nums info ++ [((k : Int) + 1) % 256]) := rfl
      rw [← htn]
      have hmt : nums (strOfNums (tP (nums key) (nums info) (k + 1))) = tP (nums key) (nums info) (k + 1) := nums_strOfNums _ (tP_bytes _ _ _)
      have hms : (strOfNums (tP (nums key) (nums info) (k + 1))).size = 32 := by rw [strOfNums_size, tP, mac_len]
      obtain ⟨mt, hmt2⟩ : ∃ mt, mt = strOfNums (tP (nums key) (nums info) (k + 1)) := ⟨_, rfl⟩
      rw [← hmt2] at hmt hms
      rw [← hmt2]
      have hol := outP_len (nums key) (nums info) k
      have hroom : 32 * k + mt.size ≤ n + 32 := by omega
      have HTH : Hid (w1.there w.heap.size (32 * k) mt.size) := by
        intro j hj
        have := hI1.1.there (32 * k + j) (by rw [List.length_append, hol, List.length_replicate]; omega)
        rw [Nat.zero_add] at this
        exact this
      have HI1 := hide hI1
      have HMT := hide hmt
      have HMT2 := hide hmt2
      have HOL := hide hol
      have HMS := hide hms
      clear hb1 hI1 htn hmt hmt2 hol HMA hkw HI hcv hs1 hs2 hs3 hs4 HS1 HNS
      go_wp2_with (refine wpList_append_str rfl (.tmp 34) (.tmp 35) rfl w.heap.size (32 * k) (n + 32) mt rfl rfl hroom (unhide HTH) ?_; intro W2 hW2; have HW2 := hide hW2; clear hW2)
      go_roundw
      case rel => exact ⟨k + 1, by omega, congrArg (Value.int .i64) (by omega), rfl, by rw [unhide HMT2], drv_put (unhide HI1) (unhide HOL) (unhide HMT) (unhide HMS) (by omega) (unhide HW2) rfl⟩
      case measure => simp [intOf]; omega
    · have hlen := outP_len (nums key) (nums info) k
      have hek : (n + 31) / 32 = k := by omega
      have hI2 : KeyInv w (outP (nums key) (nums info) k ++ List.replicate (n + 32 - 32 * k) 0) wr := hI
      have hcv := run_convert_bytes_arg (P := Tryz.prog) wr 86 5 Tryz.underlying86 Tryz.underlying5 w.heap.size 0 n (n + 32) ((outP (nums key) (nums info) k).take n) (by rw [List.length_take]; omega) (fun i hi => by
        have := hI2.1.get i (by rw [List.length_append]; omega)
        rw [this]
        simp [List.getElem?_append, hi, show i < (outP (nums key) (nums info) k).length by omega]) 9 Tryz.underlying9
      have HE := hide hek
      have HB := hide hI.2.1
      clear hI hI2 hlen hek
      go_wp2
      go_ret2
      exact ⟨by rw [unhide HE]; rfl, unhide HB⟩
end Go.Proofs.YtifjmldmilmfjaaGreatDoor

namespace Go.Proofs.YtifjmldmilmfjaaGreatDoor
open Go.RowKit
theorem outP_bytes (key info : List Int) : ∀ k, Bytes (outP key info k)
  | 0 => by intro j; simp [outP]
  | k + 1 => bytes_append (outP_bytes key info k) (tP_bytes key info (k + 1))
end Go.Proofs.YtifjmldmilmfjaaGreatDoor

namespace Go.Proofs.YtifjmldmilmfjaaGreatDoor
open Go.RowKit
theorem acc_zero (a x y : Int) (ha : 0 ≤ a ∧ a < 256) (hx : 0 ≤ x ∧ x < 256) (hy : 0 ≤ y ∧ y < 256) : bits .or .u8 a (bits .xor .u8 x y) = 0 ↔ a = 0 ∧ x = y := by
  obtain ⟨A, rfl⟩ := Int.eq_ofNat_of_zero_le ha.1
  obtain ⟨X, rfl⟩ := Int.eq_ofNat_of_zero_le hx.1
  obtain ⟨Y, rfl⟩ := Int.eq_ofNat_of_zero_le hy.1
  have hb : X ^^^ Y < 256 := Nat.xor_lt_two_pow (n := 8) (by omega) (by omega)
  rw [u8_xor_nat X Y (by omega) (by omega), u8_or_nat A _ (by omega) hb]
  have h1 : A ||| (X ^^^ Y) = 0 ↔ A = 0 ∧ X = Y := by
    rw [Nat.or_eq_zero_iff]
    refine and_congr_right fun _ => ⟨fun h => Nat.eq_of_testBit_eq fun i => ?_, fun h => by rw [h, Nat.xor_self]⟩
    have := congrArg (·.testBit i) h
    simpa using this
  omega
theorem take_eq (l m : List Int) (k : Nat) (hl : k < l.length) (hm : k < m.length) : l.take (k + 1) = m.take (k + 1) ↔ l.take k = m.take k ∧ l.getD k 0 = m.getD k 0 := by
  rw [List.take_succ_eq_append_getElem hl, List.take_succ_eq_append_getElem hm, List.getD_eq_getElem?_getD, List.getD_eq_getElem?_getD, List.getElem?_eq_getElem hl, List.getElem?_eq_getElem hm]
  constructor
  · intro h
    have := List.append_inj h (by simp; omega)
    simpa using this
  · rintro ⟨h1, h2⟩
    simp at h2
    rw [h1, h2]
theorem nums_inj {s t : ByteArray} (h : nums s = nums t) : s = t := by
  rw [← strOfNums_nums s, ← strOfNums_nums t, h]
set_option maxRecDepth 100000 in
set_option maxHeartbeats 400000 in
theorem same_any (s t : ByteArray) (hs : s.size ≤ 140737488355328) (w : World) :
    Calls Tryz.prog 46 #[.string s, .string t] w fun e w' => e = .returned (.bool (decide (s = t))) ∧ Below w.heap.size w w' := by
  by_cases hsz : s.size = t.size
  · have hsz2 : ((s.size : Int) != (t.size : Int)) = false := by simp [hsz]
    go_enter Tryz.func46, Tryz.ntmps46
    go_wp2
    go_loopw [5, 14] (fun v i wr => ∃ (k : Nat) (a : Int), k ≤ s.size ∧ i = .int .i64 (k : Int) ∧ v = .int .u8 a ∧ 0 ≤ a ∧ a < 256 ∧ (a = 0 ↔ (nums s).take k = (nums t).take k) ∧ Below w.heap.size w wr) (fun _ i _ => s.size - (intOf i).toNat)
    case atStart => exact ⟨0, 0, by omega, rfl, rfl, by omega, by omega, by simp, Below.refl _ _⟩
    case round =>
      obtain ⟨k, a, hk, rfl, rfl, ha0, ha1, hiff, hb⟩ := hrel
      have HB := hide hb
      clear hb
      by_cases hlt : k < s.size
      · have i1 := index_str s k hlt
        have i2 := index_str t k (by omega)
        have b1 := nums_bytes s k
        have b2 := nums_bytes t k
        have HIF := hide (take_eq (nums s) (nums t) k (by rw [nums_len]; omega) (by rw [nums_len]; omega))
        generalize (nums s).getD k 0 = x at *
        generalize (nums t).getD k 0 = y at *
        have HAC := hide (acc_zero a x y ⟨ha0, ha1⟩ b1 b2)
        have HU := hide (bits_u8 .or a (bits .xor .u8 x y))
        have HII := hide hiff
        clear hiff
        go_wp2
        go_quiet (fail)
        go_wp2
        go_roundw
        case rel => exact ⟨k + 1, _, by omega, by go_num, rfl, (unhide HU).1, (unhide HU).2, by rw [unhide HAC, unhide HIF, unhide HII], below_drewN (unhide HB) _⟩
        case measure => simp [intOf]; omega
      · have ek : k = s.size := by omega
        have hst : a = 0 ↔ s = t := by
          rw [hiff, ek, List.take_of_length_le (by rw [nums_len]; omega), List.take_of_length_le (by rw [nums_len]; omega)]
          exact ⟨nums_inj, fun h => by rw [h]⟩
        have HST := hide hst
        clear hst hiff ek
        go_wp2
        go_ret
        refine ⟨?_, unhide HB⟩
        have := unhide HST
        by_cases h : s = t <;> simp [h] at this ⊢ <;> exact this
  · have hsz2 : ((s.size : Int) != (t.size : Int)) = true := by simp; omega
    have hne : ¬ s = t := fun h => hsz (by rw [h])
    go_enter Tryz.func46, Tryz.ntmps46
    go_wp2
    go_ret
    exact ⟨by simp [hne], Below.refl _ _⟩
end Go.Proofs.YtifjmldmilmfjaaGreatDoor

namespace Go.Proofs.YtifjmldmilmfjaaGreatDoor
open Go.RowKit
/-- A number by so many bytes, the highest first. -/
def numB (v : Int) (size : Nat) : List Int := (List.range size).map (fun i => v / 2 ^ (8 * (size - 1 - i)) % 256)
theorem numB_len (v : Int) (size : Nat) : (numB v size).length = size := by simp [numB]
theorem numB_bytes (v : Int) (size : Nat) : Bytes (numB v size) := by
  intro j
  by_cases h : j < size
  · have : (numB v size).getD j 0 = v / 2 ^ (8 * (size - 1 - j)) % 256 := by simp [numB, h]
    rw [this]
    omega
  · have : (numB v size).getD j 0 = 0 := by simp [numB, h]
    rw [this]
    omega
theorem numB_drop (v : Int) (size m : Nat) (h : m < size) : (numB v size).drop m = (v / 2 ^ (8 * (size - 1 - m)) % 256) :: (numB v size).drop (m + 1) := by
  have hl : m < (numB v size).length := by rw [numB_len]; exact h
  rw [List.drop_eq_getElem_cons hl]
  congr 1
  simp [numB]
theorem num_step (v : Int) (size m k : Nat) (hm : m + 1 + k = size) (x : Int) (hx : x = v / 2 ^ (8 * k) % 256) : (List.replicate (m + 1) (0 : Int) ++ (numB v size).drop (m + 1)).set m x = List.replicate m 0 ++ (numB v size).drop m := by
  rw [numB_drop v size m (by omega), hx, show size - 1 - m = k by omega, List.set_append, if_pos (by simp), List.replicate_succ', List.set_append, if_neg (by simp)]
  simp
theorem shr_step (v : Int) (k : Nat) : v / 2 ^ (8 * k) / 256 = v / 2 ^ (8 * (k + 1)) := by
  rw [Int.ediv_ediv_of_nonneg (by exact Int.pow_nonneg (by omega)), show 8 * (k + 1) = 8 * k + 8 by omega, Int.pow_add]
  rfl
set_option maxRecDepth 100000 in
set_option maxHeartbeats 400000 in
theorem snum_any (v : Int) (size : Nat) (h0 : 0 ≤ v) (_h1 : v ≤ 9223372036854775807) (hs : size ≤ 8) (w : World) :
    Calls Tryz.prog 121 #[.int .i64 v, .int .i64 (size : Int)] w fun e w' => e = .returned (.string (strOfNums (numB v size))) ∧ Below w.heap.size w w' := by
  have hmk := fun W => run_make_u8 size size (by omega) (by omega) W
  go_enter Tryz.func121, Tryz.ntmps121
  go_wp2
  clear hmk
  go_loopw [0, 6] (fun u i wr => ∃ (k m : Nat), m + k = size ∧ u = .int .i64 (v / 2 ^ (8 * k)) ∧ i = .int .i64 ((m : Int) - 1) ∧ KeyInv w (List.replicate m 0 ++ (numB v size).drop m) wr) (fun _ i _ => ((intOf i) + 1).toNat)
  case atStart =>
    have h : KeyInv w (List.replicate size 0) (w.alloc (Obj.cells (Array.replicate size (Value.int .u8 0)) 5)) := ⟨arr_new w .u8 (List.replicate size 0) 5 _ (by simp), (Below.refl _ _).alloc (Nat.le_refl _) _, by simp⟩
    refine ⟨0, size, by omega, by simp, by go_num, ?_⟩
    rw [List.drop_of_length_le (by rw [numB_len]; exact Nat.le_refl _), List.append_nil]
    exact h
  case round =>
    obtain ⟨k, m, hmk, rfl, rfl, hI⟩ := hrel
    cases m with
    | zero =>
      rw [List.replicate_zero, List.nil_append, List.drop_zero] at hI
      have hcv := run_convert_bytes_arg (P := Tryz.prog) wr 86 5 Tryz.underlying86 Tryz.underlying5 w.heap.size 0 size size (numB v size) (numB_len v size) (fun i hi => hI.1.get i (by rw [numB_len]; omega)) 9 Tryz.underlying9
      have HB := hide hI.2.1
      clear hI
      go_wp2
      go_ret
      exact ⟨rfl, unhide HB⟩
    | succ m =>
      have hv0 : 0 ≤ v / 2 ^ (8 * k) := Int.ediv_nonneg h0 (Int.pow_nonneg (by omega))
      have hv1 : v / 2 ^ (8 * k) ≤ v := Int.ediv_le_self _ h0
      have hlen : (List.replicate (m + 1) (0 : Int) ++ (numB v size).drop (m + 1)).length = size := by simp [numB_len]; omega
      have c1 := hI.1.get0 m (by omega)
      have f1 := hI.1.free0 m (by omega)
      have HN := hide (num_step v size m k (by omega) _ rfl)
      have HS := hide (shr_step v k)
      have HI := hide hI
      have hm : m < size := by omega
      generalize (List.replicate (m + 1) (0 : Int) ++ (numB v size).drop (m + 1)).getD m 0 = y at *
      generalize v / 2 ^ (8 * k) = u at *
      have hmi : ((m + 1 : Nat) : Int) - 1 = (m : Int) := by omega
      rw [hmi]
      clear hI hmi
      go_wp2
      go_roundw
      case rel => exact ⟨k + 1, m, by omega, by rw [← unhide HS], by go_num, (unhide HI).put m (by omega) _ (unhide HN)⟩
      case measure => simp [intOf]
end Go.Proofs.YtifjmldmilmfjaaGreatDoor
