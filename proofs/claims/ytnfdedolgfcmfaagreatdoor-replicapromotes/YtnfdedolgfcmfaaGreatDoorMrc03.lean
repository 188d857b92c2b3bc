import Derived.Test.YtnfdedolgfcmfaaGreatDoorMrc00
import Derived.Laws.BytesArg
import Derived.Test.YtnfdedolgfcmfaaGreatDoorMrc02
import Derived.StillTailTactics
import Derived.Deep.RegionHeld3
import Derived.Deep.RegionLaw
namespace Go.Proofs.YtnfdedolgfcmfaaGreatDoor
open Go.RowKit
theorem out_at (s : H8) (i k : Nat) (hi : i < 8) (hk : k < 4) : (outBytes s).getD (4 * i + k) 0 = s.vals.getD i 0 / 2 ^ (24 - 8 * k) % 256 := by
  rcases (show i = 0 ∨ i = 1 ∨ i = 2 ∨ i = 3 ∨ i = 4 ∨ i = 5 ∨ i = 6 ∨ i = 7 by omega) with rfl | rfl | rfl | rfl | rfl | rfl | rfl | rfl <;>
    rcases (show k = 0 ∨ k = 1 ∨ k = 2 ∨ k = 3 by omega) with rfl | rfl | rfl | rfl <;> simp [outBytes, out4, H8.vals]
theorem out_len (s : H8) : (outBytes s).length = 32 := by simp [outBytes, out4]
theorem index_words (s : H8) (t : Nat) (ht : t < 8) (w : World) : (Instr.index 243 (Value.agg (s.vals.map (Value.int .u32)).toArray) (Value.int .i64 t)).run Tryz.prog w = .ok (.int .u32 (s.vals.getD t 0)) w := by
  rcases (show t = 0 ∨ t = 1 ∨ t = 2 ∨ t = 3 ∨ t = 4 ∨ t = 5 ∨ t = 6 ∨ t = 7 by omega) with rfl | rfl | rfl | rfl | rfl | rfl | rfl | rfl <;> kernel_rfl
def DigInv (w : World) (l : List Int) (wr : World) : Prop := Arr wr (w.heap.size + 1) 0 .u8 l ∧ Below w.heap.size w wr
theorem DigInv.put {w : World} {l l' : List Int} {wr : World} (h : DigInv w l wr) (t : Nat) (ht : t < l.length) (v : Int) (e : l.set t v = l') : DigInv w l' (wr.setCell ⟨w.heap.size + 1, t, none⟩ (.int .u8 v)) := by
  subst e
  exact ⟨h.1.set0 t ht v, h.2.setCell (by simp) _⟩
set_option maxRecDepth 100000 in
set_option maxHeartbeats 400000 in
theorem digest_any (s : H8) (w : World) :
    Calls Tryz.prog 187 #[.agg (s.vals.map (Value.int .u32)).toArray] w fun e w' => e = .returned (.string (strOfNums (outBytes s))) ∧ Below w.heap.size w w' := by
  have HR := hide (fun C => by
    have := ((arr_new w .u32 s.vals 243 _ rfl).alloc (by simp) C).range
    simpa using this : ∀ C, ((w.alloc (Obj.cells (s.vals.map (Value.int .u32)).toArray 243)).alloc C).rangeAt w.heap.size 0 (s.vals.map (Value.int .u32)))
  have HS := hide (⟨by simpa using arr_new (w.alloc (Obj.cells (s.vals.map (Value.int .u32)).toArray 243)) .u8 (List.replicate 32 0) 159 _ rfl, ((Below.refl _ _).alloc (Nat.le_refl _) _).alloc (by simp) _⟩ :
    DigInv w (List.replicate 32 0) ((w.alloc (Obj.cells (s.vals.map (Value.int .u32)).toArray 243)).alloc (Obj.cells ((List.replicate 32 (0 : Int)).map (Value.int .u8)).toArray 159)))
  go_enter Tryz.func187, Tryz.ntmps187
  go_wp2_with (refine wpList_load_mid rfl 243 (.tmp 1) rfl w.heap.size 0 rfl _ _ (unhide HR _) Tryz.underlying243 rfl (by rw [size243]; simp [H8.vals]) ?_)
  clear HR
  go_loopw [8] (fun i wr => ∃ t : Nat, t ≤ 8 ∧ i = .int .i64 t ∧ DigInv w ((outBytes s).take (4 * t) ++ (List.replicate 32 0).drop (4 * t)) wr) (fun i _ => 8 - (intOf i).toNat)
  case atStart => exact ⟨0, by omega, rfl, unhide HS⟩
  case round =>
    clear HS
    obtain ⟨t, ht, rfl, hI⟩ := hrel
    by_cases htl : t < 8
    · have HI := hide hI
      clear hI
      have hv := index_words s t htl
      obtain ⟨v, hvv⟩ : ∃ v, v = s.vals.getD t 0 := ⟨_, rfl⟩
      rw [← hvv] at hv
      have HV := hide hvv
      clear hvv
      obtain ⟨wo, rfl⟩ : ∃ wo : World, wo = wr := ⟨_, rfl⟩
      go_wp2
      go_loopw [12] (fun i wr => ∃ k : Nat, k ≤ 4 ∧ i = .int .i64 k ∧ DigInv w ((outBytes s).take (4 * t + k) ++ (List.replicate 32 0).drop (4 * t + k)) wr) (fun i _ => 4 - (intOf i).toNat)
      case atStart => exact ⟨0, by omega, rfl, unhide HI⟩
      case round =>
        clear hv HI
        obtain ⟨k, hk, rfl, hI⟩ := hrel
        by_cases hkl : k < 4
        · have hlo := out_len s
          have hll : ((outBytes s).take (4 * t + k) ++ (List.replicate 32 (0 : Int)).drop (4 * t + k)).length = 32 := by simp [hlo]; omega
          have c1 := hI.1.get0 (4 * t + k) (by omega)
          have f1 := hI.1.free0 (4 * t + k) (by omega)
          obtain ⟨z, hz⟩ : ∃ z, z = ((outBytes s).take (4 * t + k) ++ (List.replicate 32 (0 : Int)).drop (4 * t + k)).getD (4 * t + k) 0 := ⟨_, rfl⟩
          rw [← hz] at c1
          have HE := hide (take_set (outBytes s) (List.replicate 32 0) (4 * t + k) _ (by omega) (by simp; omega) rfl)
          rw [out_at s t k htl hkl, ← unhide HV] at HE
          have HI2 := hide hI
          have HL := hide hll
          have HP := hide (show ((24 : Int) - 8 * (k : Int)).toNat = 24 - 8 * k by omega)
          clear hz hI hll hlo
          go_wp2
          go_roundw
          case rel => exact ⟨k + 1, by omega, by go_num, (unhide HI2).put (4 * t + k) (by rw [unhide HL]; omega) _ (unhide HE)⟩
          case measure => simp [intOf]; omega
        · have e4 : k = 4 := by omega
          rw [e4, show 4 * t + 4 = 4 * (t + 1) by omega] at hI
          have HI2 := hide hI
          clear hI e4
          go_wp2
          go_roundw
          case rel => exact ⟨t + 1, by omega, by go_num, unhide HI2⟩
          case measure => simp [intOf]; omega
    · have e8 : t = 8 := by omega
      rw [e8] at hI
      have hfin : (outBytes s).take (4 * 8) ++ (List.replicate 32 (0 : Int)).drop (4 * 8) = outBytes s := by
        rw [List.take_of_length_le (by rw [out_len]; omega)]; simp
      rw [hfin] at hI
      have hcv := run_convert_bytes_arg (P := Tryz.prog) wr 122 5 Tryz.underlying122 Tryz.underlying5 (w.heap.size + 1) 0 32 32 (outBytes s) (out_len s) (fun i hi => hI.1.get i (by rw [out_len]; exact hi)) 9 Tryz.underlying9
      have HB := hide hI.2
      clear hI e8 hfin
      go_wp2
      go_ret
      exact ⟨rfl, unhide HB⟩
end Go.Proofs.YtnfdedolgfcmfaaGreatDoor

namespace Go.Proofs.YtnfdedolgfcmfaaGreatDoor
open Go.RowKit
theorem comps_pre (s : H8) (l m : List Int) : ∀ k, 64 * k ≤ l.length → comps s (l ++ m) k = comps s l k
  | 0, _ => rfl
  | k + 1, h => by
    rw [comps, comps, comps_pre s l m k (by omega)]
    congr 1
    rw [List.drop_append_of_le_length (by omega), List.take_append_of_le_length (by simp; omega)]
/-- At block b lies a Hasher that has taken l. -/
def Hs (w : World) (b : Nat) (l : List Int) : Prop :=
  ∃ q : List Int, q.length = 64 ∧ Bytes q ∧ HAt w b (comps start8 l (l.length / 64)) q l.length ∧ q.take (l.length % 64) = l.drop (64 * (l.length / 64))
theorem Hs.touch {w w' : World} {b c : Nat} {l : List Int} (h : Hs w c l) (ht : Touch b w w') (hc : c ≠ b) (hs : c < w.heap.size) : Hs w' c l := by
  obtain ⟨q, h1, h2, h3, h4⟩ := h
  exact ⟨q, h1, h2, ⟨h3.1.touch ht hc hs, h3.2.1.touch ht hc hs, h3.2.2.touch ht hc hs⟩, h4⟩
theorem Hs.below {w w' : World} {B b : Nat} {l : List Int} (h : Hs w b l) (hb : Below B w w') (hB : b < B) : Hs w' b l := by
  obtain ⟨q, h1, h2, h3, h4⟩ := h
  exact ⟨q, h1, h2, h3.below hb hB, h4⟩
theorem KTab.touch {w w' : World} {b : Nat} (h : KTab w) (ht : Touch b w w') (hb : 2 < b) : KTab w' := h.below ht.1 hb
theorem zeroV274 : ∀ w, (zeroValue 274).run Tryz.prog w = .ok (.agg #[.int .u32 0, .int .u32 0, .int .u32 0, .int .u32 0, .int .u32 0, .int .u32 0, .int .u32 0, .int .u32 0, .int .u8 0, .int .u8 0, .int .u8 0, .int .u8 0, .int .u8 0, .int .u8 0, .int .u8 0, .int .u8 0, .int .u8 0, .int .u8 0, .int .u8 0, .int .u8 0, .int .u8 0, .int .u8 0, .int .u8 0, .int .u8 0, .int .u8 0, .int .u8 0, .int .u8 0, .int .u8 0, .int .u8 0, .int .u8 0, .int .u8 0, .int .u8 0, .int .u8 0, .int .u8 0, .int .u8 0, .int .u8 0, .int .u8 0, .int .u8 0, .int .u8 0, .int .u8 0, .int .u8 0, .int .u8 0, .int .u8 0, .int .u8 0, .int .u8 0, .int .u8 0, .int .u8 0, .int .u8 0, .int .u8 0, .int .u8 0, .int .u8 0, .int .u8 0, .int .u8 0, .int .u8 0, .int .u8 0, .int .u8 0, .int .u8 0, .int .u8 0, .int .u8 0, .int .u8 0, .int .u8 0, .int .u8 0, .int .u8 0, .int .u8 0, .int .u8 0, .int .u8 0, .int .u8 0, .int .u8 0, .int .u8 0, .int .u8 0, .int .u8 0, .int .u8 0, .int .i64 0]) w := (zero_of_info (P := Tryz.prog) (t := 274) (v := .agg #[.int .u32 0, .int .u32 0, .int .u32 0, .int .u32 0, .int .u32 0, .int .u32 0, .int .u32 0, .int .u32 0, .int .u8 0, .int .u8 0, .int .u8 0, .int .u8 0, .int .u8 0, .int .u8 0, .int .u8 0, .int .u8 0, .int .u8 0, .int .u8 0, .int .u8 0, .int .u8 0, .int .u8 0, .int .u8 0, .int .u8 0, .int .u8 0, .int .u8 0, .int .u8 0, .int .u8 0, .int .u8 0, .int .u8 0, .int .u8 0, .int .u8 0, .int .u8 0, .int .u8 0, .int .u8 0, .int .u8 0, .int .u8 0, .int .u8 0, .int .u8 0, .int .u8 0, .int .u8 0, .int .u8 0, .int .u8 0, .int .u8 0, .int .u8 0, .int .u8 0, .int .u8 0, .int .u8 0, .int .u8 0, .int .u8 0, .int .u8 0, .int .u8 0, .int .u8 0, .int .u8 0, .int .u8 0, .int .u8 0, .int .u8 0, .int .u8 0, .int .u8 0, .int .u8 0, .int .u8 0, .int .u8 0, .int .u8 0, .int .u8 0, .int .u8 0, .int .u8 0, .int .u8 0, .int .u8 0, .int .u8 0, .int .u8 0, .int .u8 0, .int .u8 0, .int .u8 0, .int .i64 0]) (n := 73) (by kernel_rfl)).1
set_option maxRecDepth 100000 in
set_option maxHeartbeats 400000 in
theorem hs_new_any (w : World) :
    Calls Tryz.prog 168 #[] w fun e w' => e = .returned (.pointer (some ⟨w.heap.size, 0, none⟩)) ∧ Hs w' w.heap.size [] ∧ Below w.heap.size w w' ∧ w'.heap.size = w.heap.size + 1 := by
  have hs : Hs (w.alloc (Obj.cells (hCells start8 (List.replicate 64 0) 0).toArray 274)) w.heap.size [] :=
    ⟨List.replicate 64 0, by simp, bytes_zeros _, hat_new w start8 (List.replicate 64 0) 0 (by simp) 274, by simp⟩
  have HS := hide hs
  clear hs
  have hz := zeroV274
  go_enter Tryz.func168, Tryz.ntmps168
  go_wp2
  go_ret
  exact ⟨rfl, unhide HS, (Below.refl _ _).alloc (Nat.le_refl _) _, by simp⟩
end Go.Proofs.YtnfdedolgfcmfaaGreatDoor

namespace Go.Proofs.YtnfdedolgfcmfaaGreatDoor
open Go.RowKit
theorem padded_eq (l : List Int) : padded l = l ++ ([128] ++ List.replicate ((119 - l.length % 64) % 64) 0 ++ lenB l.length) := by
  simp [padded, lenB]
theorem sha_fin (l : List Int) : sha l = outBytes (fin (comps start8 l (l.length / 64)) (l.drop (64 * (l.length / 64))) l.length) := by
  unfold sha
  congr 1
  obtain ⟨n, hn⟩ : ∃ n, n = l.length := ⟨_, rfl⟩
  obtain ⟨r, hr⟩ : ∃ r, r = l.drop (64 * (n / 64)) := ⟨_, rfl⟩
  have hrl : r.length = n % 64 := by rw [hr, List.length_drop, ← hn]; omega
  rw [padded_eq, ← hn, ← hr]
  by_cases h56 : 56 < n % 64 + 1
  · have e1 : (119 - n % 64) % 64 = 119 - n % 64 := by omega
    have hlen : (l ++ ([128] ++ List.replicate ((119 - n % 64) % 64) 0 ++ lenB n)).length / 64 = n / 64 + 2 := by
      simp only [List.length_append, List.length_cons, List.length_nil, List.length_replicate, lenB_len, e1, ← hn]; omega
    have hm : ([128] ++ List.replicate ((119 - n % 64) % 64) (0 : Int) ++ lenB n).length = 128 - n % 64 := by
      simp only [List.length_append, List.length_cons, List.length_nil, List.length_replicate, lenB_len, e1]; omega
    have hsplit : [128] ++ List.replicate ((119 - n % 64) % 64) (0 : Int) ++ lenB n = ([128] ++ List.replicate (63 - n % 64) 0) ++ (List.replicate 56 0 ++ lenB n) := by
      rw [e1, show 119 - n % 64 = 63 - n % 64 + 56 by omega, ← List.replicate_append_replicate]
      simp
    have hx : (r ++ ([128] ++ List.replicate (63 - n % 64) (0 : Int))).length = 64 := by
      simp only [List.length_append, List.length_cons, List.length_nil, List.length_replicate, hrl]; omega
    rw [hlen, fin, if_pos (by omega), comps, comps, comps_pre _ _ _ _ (by omega)]
    have d1 : (l ++ ([128] ++ List.replicate ((119 - n % 64) % 64) 0 ++ lenB n)).drop (64 * (n / 64)) = (r ++ ([128] ++ List.replicate (63 - n % 64) (0 : Int))) ++ (List.replicate 56 0 ++ lenB n) := by
      rw [List.drop_append_of_le_length (by omega), ← hr, hsplit, List.append_assoc r]
    have d2 : (l ++ ([128] ++ List.replicate ((119 - n % 64) % 64) 0 ++ lenB n)).drop (64 * (n / 64 + 1)) = List.replicate 56 0 ++ lenB n := by
      rw [show 64 * (n / 64 + 1) = 64 * (n / 64) + 64 by omega, ← List.drop_drop, d1, List.drop_append_of_le_length (by omega), List.drop_of_length_le (by omega), List.nil_append]
    rw [d1, d2, List.take_append_of_le_length (by omega), List.take_of_length_le (by omega), List.take_of_length_le (by simp [lenB_len]), hrl, List.append_assoc r]
  · have e1 : (119 - n % 64) % 64 = 55 - n % 64 := by omega
    have hlen : (l ++ ([128] ++ List.replicate ((119 - n % 64) % 64) 0 ++ lenB n)).length / 64 = n / 64 + 1 := by
      simp only [List.length_append, List.length_cons, List.length_nil, List.length_replicate, lenB_len, e1, ← hn]; omega
    rw [hlen, fin, if_neg (by omega), comps, comps_pre _ _ _ _ (by omega), List.drop_append_of_le_length (by omega), ← hr, e1, hrl]
    rw [List.take_of_length_le (by simp only [List.length_append, List.length_cons, List.length_nil, List.length_replicate, lenB_len, hrl]; omega)]
    simp
theorem sha_len (l : List Int) : (sha l).length = 32 := out_len _
theorem HAt.range {w : World} {b : Nat} {s : H8} {q : List Int} {n : Nat} (h : HAt w b s q n) (hq : q.length = 64) : w.rangeAt b 0 (hCells s q n) := by
  intro j v hv
  have h8 : (s.vals.map (Value.int .u32)).length = 8 := by simp [H8.vals]
  have h64 : (q.map (Value.int .u8)).length = 64 := by simp [hq]
  unfold hCells at hv
  rw [List.append_assoc] at hv
  by_cases h1 : j < 8
  · rw [List.getElem?_append_left (by omega)] at hv
    exact h.1.range j v hv
  · rw [List.getElem?_append_right (by omega), h8] at hv
    by_cases h2 : j < 72
    · rw [List.getElem?_append_left (by omega)] at hv
      have := h.2.1.range (j - 8) v hv
      rwa [show 0 + j = 8 + (j - 8) by omega]
    · rw [List.getElem?_append_right (by omega), h64] at hv
      obtain ⟨hj, e⟩ := List.getElem?_eq_some_iff.1 hv
      simp at hj
      have hj72 : j = 72 := by omega
      subst hj72
      simp at hv
      rw [← hv]
      simpa using cell72 h
end Go.Proofs.YtnfdedolgfcmfaaGreatDoor

namespace Go.Proofs.YtnfdedolgfcmfaaGreatDoor
open Go.RowKit
theorem wpAnyH_takeD {P : Program} {ops : Array Oper} {Q : Exit → Act → World → Prop} {md : Region.Mode} {S : World → Prop} (i : Nat) (d : Option Tmp) (v : Value) {oi : Oper} {fuel : Nat} {listed : Array Bool} {a : Act} {w : World} (hi : ops[i]? = some oi) (hd : oi.dst = d)
    (hs : Region.noSelect ops = true) (hf : Region.free md ops listed i = true) (hr : (Region.ready md ops listed).contains i = true)
    (hQ : ∀ c a w, Q (.panic c) (a.put d v) w → Q (.panic c) a w) (hy : YieldsIf P ops S oi v a) (hS : S w)
    (h : wpAnyH P md ops Q S fuel (listed.setIfInBounds i true) (a.put d v) w) : wpAnyH P md ops Q S (fuel + 1) listed a w := by
  subst hd
  exact wpAnyH_take hi hs hf hr hQ hy hS h
end Go.Proofs.YtnfdedolgfcmfaaGreatDoor

namespace Go.Proofs.YtnfdedolgfcmfaaGreatDoor
open Go.RowKit
theorem run_copy_str (w : World) (b o dLen dCap m : Nat) (t : ByteArray) (hm : m = min t.size dLen) (ht : w.there b o m) (ty : TypeId) :
    (Builtin.copy_ #[122, 9] ty #[.slice (some ⟨b, o, none⟩) dLen dCap, .string t]).run Tryz.prog w = .ok (.int .i64 m) (w.setCells b o (((nums t).take m).map (Value.int .u8))) := by
  have hmin : Nat.min t.size dLen = m := hm.symm
  have hz : ∀ w, (Go.sizeOf 5).run Tryz.prog w = .ok 1 w := fun w => by kernel_rfl
  have hml : m ≤ t.size := by omega
  have hle : (((nums t).take m).map (Value.int .u8)).length = m := by rw [List.length_map, List.length_take, nums_len]; omega
  have hst := run_storeCells_cells (P := Tryz.prog) b o (((nums t).take m).map (Value.int .u8)) 0 w (by rw [hle]; intro j hj; simpa using (ht j hj).1) (by rw [hle]; intro j hj; simpa using (ht j hj).2) (by
    intro v hv
    obtain ⟨x, _, rfl⟩ := List.mem_map.1 hv
    rfl)
  have he : List.take m (List.map (fun b : UInt8 => Value.int .u8 (b.toNat : Int)) t.data.toList) = ((nums t).take m).map (Value.int .u8) := by
    simp [nums, List.map_take, Function.comp_def]
  simp only [Nat.add_zero] at hst
  simp [Builtin.copy_, run_underlying Tryz.underlying122, Builtin.lenOf, Builtin.firstCells, hz, hmin]
  rw [he, hst, List.map_take]
  rfl
theorem getD_mid (q l : List Int) (i j : Nat) (hi : i + l.length ≤ q.length) : (q.take i ++ l ++ q.drop (i + l.length)).getD j 0 = if j < i then q.getD j 0 else if j < i + l.length then l.getD (j - i) 0 else q.getD j 0 := by
  have hm : min i q.length = i := by omega
  simp only [List.getD_eq_getElem?_getD, List.getElem?_append, List.length_append, List.length_take, hm]
  by_cases h1 : j < i
  · rw [if_pos (by omega), if_pos h1, if_pos h1, List.getElem?_take, if_pos h1]
  · by_cases h2 : j < i + l.length
    · rw [if_pos h2, if_neg h1, if_neg h1, if_pos h2]
    · rw [if_neg h2, if_neg h1, if_neg h2, List.getElem?_drop]
      congr 2
      omega
theorem HAt.putMid {w : World} {b : Nat} {s : H8} {q : List Int} {n : Nat} (h : HAt w b s q n) (hq : q.length = 64) (i : Nat) (l' : List Int) (hi : i + l'.length ≤ 64) :
    HAt (w.setCells b (8 + i) (l'.map (Value.int .u8))) b s (q.take i ++ l' ++ q.drop (i + l'.length)) n := by
  refine ⟨h.1.setCells_apart _ _ _ (.inr (.inl (by simp [H8.vals]))), ?_, h.2.2.setCells_apart _ _ _ (.inr (.inr (by simp; omega)))⟩
  intro j hj
  have hjl : j < q.length := by simp at hj; omega
  refine ⟨?_, by rw [World.frozen?_setCells]; exact (h.2.1 j hjl).2⟩
  rw [getD_mid _ _ _ _ (by omega)]
  by_cases h1 : j < i
  · rw [World.cell?_setCells_out b _ (8 + i) w ⟨b, 8 + j, none⟩ (by intro _ _; left; simp; omega), (h.2.1 j hjl).1, if_pos h1]
  · by_cases h2 : j < i + l'.length
    · obtain ⟨m, rfl⟩ : ∃ m, j = i + m := ⟨j - i, by omega⟩
      have hr := World.rangeAt_setCells_same w b (8 + i) (l'.map (Value.int .u8)) (by
        intro x hx
        have hx' : i + x < q.length := by (simp at hx; omega)
        rw [Nat.add_assoc]; exact h.2.1.there (i + x) hx')
      have hm : m < l'.length := by omega
      have := hr m (.int .u8 (l'.getD m 0)) (by simp [hm])
      rw [Nat.add_assoc] at this
      rw [this, if_neg h1, if_pos h2, Nat.add_sub_cancel_left]
    · rw [World.cell?_setCells_out b _ (8 + i) w ⟨b, 8 + j, none⟩ (by intro _ _; right; simp; omega), (h.2.1 j hjl).1, if_neg h1, if_neg h2]
theorem HAt.putCount {w : World} {b : Nat} {s : H8} {q : List Int} {n : Nat} (h : HAt w b s q n) (hq : q.length = 64) (n' : Nat) : HAt (w.setCell ⟨b, 72, none⟩ (.int .i64 (n' : Int))) b s q n' := by
  refine ⟨h.1.other _ _ (.inr (.inr (by simp [H8.vals]))), h.2.1.other _ _ (.inr (.inr (by simp; omega))), ?_⟩
  have := h.2.2.set 0 (by simp) (n' : Int)
  simpa using this
theorem hs_full {l' : List Int} {t' : ByteArray} {q : List Int} {m n : Nat} (hn : l'.length = n) (hm : ((nums t').take m).length = m) (hq : q.take (n % 64) = l'.drop (64 * (n / 64))) (hf : n % 64 + m = 64) (hq64 : q.length = 64) :
    comps start8 (l' ++ (nums t').take m) ((n + m) / 64) = comp (comps start8 l' (n / 64)) (q.take (n % 64) ++ (nums t').take m ++ q.drop (n % 64 + m)) ∧ (n + m) % 64 = 0 ∧ (l' ++ (nums t').take m).length = n + m := by
  have hl : (l' ++ (nums t').take m).length = n + m := by rw [List.length_append, hm, hn]
  have h1 : n = 64 * (n / 64) + n % 64 := by omega
  have h2 : (n + m) / 64 = n / 64 + 1 := by omega
  refine ⟨?_, by omega, hl⟩
  rw [h2, comps, comps_pre start8 l' _ (n / 64) (by omega)]
  congr 1
  rw [List.drop_append_of_le_length (by omega), ← hq]
  have h3 : (q.take (n % 64)).length = n % 64 := by rw [hq, List.length_drop]; omega
  rw [List.take_of_length_le (by rw [List.length_append, h3, hm]; omega)]
  have h6 : q.drop (n % 64 + m) = [] := List.drop_of_length_le (by omega)
  rw [h6, List.append_nil]
theorem hs_of_full {W : World} {b n m : Nat} {l'' q1 : List Int} {s2 : H8} (hA : HAt W b s2 q1 (n + m)) (hq : q1.length = 64) (hb : Bytes q1) (hc : comps start8 l'' ((n + m) / 64) = s2) (h0 : (n + m) % 64 = 0) (hl : l''.length = n + m) : Hs W b l'' := by
  refine ⟨q1, hq, hb, by rw [hl, hc]; exact hA, ?_⟩
  rw [hl, h0, List.take_zero, List.drop_of_length_le (by omega)]
theorem hnums_extract (t : ByteArray) (m : Nat) : nums (t.extract m t.size) = (nums t).drop m := by
  have h := nums_len t
  unfold nums at *
  simp only [ByteArray.data_extract, Array.toList_extract, List.extract_eq_take_drop, List.map_take, List.map_drop]
  exact List.take_of_length_le (by rw [List.length_drop, h]; omega)
theorem hs_part {W : World} {b : Nat} {l' : List Int} {t' : ByteArray} {q : List Int} {m n : Nat} (hn : l'.length = n) (hm : ((nums t').take m).length = m) (hq : q.take (n % 64) = l'.drop (64 * (n / 64))) (hf : n % 64 + m < 64) (hq64 : q.length = 64)
    (hA : HAt W b (comps start8 l' (n / 64)) (q.take (n % 64) ++ (nums t').take m ++ q.drop (n % 64 + m)) (n + m)) (hl1 : (q.take (n % 64) ++ (nums t').take m ++ q.drop (n % 64 + m)).length = 64) (hb : Bytes (q.take (n % 64) ++ (nums t').take m ++ q.drop (n % 64 + m))) : Hs W b (l' ++ (nums t').take m) := by
  have hl : (l' ++ (nums t').take m).length = n + m := by rw [List.length_append, hm, hn]
  have h2 : (n + m) / 64 = n / 64 := by omega
  have h5 : (n + m) % 64 = n % 64 + m := by omega
  have h3 : (q.take (n % 64)).length = n % 64 := by rw [List.length_take]; omega
  refine ⟨_, hl1, hb, by rw [hl, h2, comps_pre start8 l' _ (n / 64) (by omega)]; exact hA, ?_⟩
  rw [hl, h5, h2, List.take_append_of_le_length (by rw [List.length_append, h3, hm]; omega), List.take_of_length_le (by rw [List.length_append, h3, hm]; omega), hq, List.drop_append_of_le_length (by omega)]
set_option maxRecDepth 100000 in
set_option maxHeartbeats 400000 in
theorem hs_write_any (w : World) (b : Nat) (l : List Int) (t : ByteArray) (h : Hs w b l) (hb0 : 2 < b) (hbs : b < w.heap.size) (hK : KTab w) (hn : l.length + t.size < 2305843009213693952) :
    Calls Tryz.prog 169 #[.pointer (some ⟨b, 0, none⟩), .string t] w fun e w' => e = .returned (.tuple #[]) ∧ Hs w' b (l ++ nums t) ∧ Touch b w w' := by
  have H0 := hide h
  have HK := hide hK
  clear h hK
  go_enter Tryz.func169, Tryz.ntmps169
  go_wp2
  go_loopw [1] (fun v wr => ∃ t' : ByteArray, v = .string t' ∧ ∃ l', Hs wr b l' ∧ l' ++ nums t' = l ++ nums t ∧ Touch b w wr) (fun v _ => match v with | .string t' => t'.size | _ => 0)
  case atStart => exact ⟨t, rfl, l, unhide H0, rfl, Touch.refl _ _⟩
  case round =>
    obtain ⟨t', rfl, l', hI, hl, hT⟩ := hrel
    have hlen : l'.length + t'.size = l.length + t.size := by
      have := congrArg List.length hl
      simpa [nums_len] using this
    by_cases h0 : 0 < t'.size
    · obtain ⟨q, hq, hqb, hA, hqt⟩ := hI
      have hr : l'.length % 64 < 64 := Nat.mod_lt _ (by decide)
      obtain ⟨off, ln, e1, e2, hsl⟩ := slice_piece b (l'.length % 64) (by omega)
      have hoff := e2 (by omega)
      obtain ⟨m, hm⟩ : ∃ m, m = min t'.size ln := ⟨_, rfl⟩
      have hlm : ((nums t').take m).length = m := by rw [List.length_take, nums_len]; omega
      obtain ⟨W1, hcp, hA1, hT1⟩ : ∃ W1, (∀ ty, (Builtin.copy_ #[122, 9] ty #[.slice (some ⟨b, off, none⟩) ln ln, .string t']).run Tryz.prog wr = .ok (.int .i64 m) W1) ∧
          HAt W1 b (comps start8 l' (l'.length / 64)) (q.take (l'.length % 64) ++ (nums t').take m ++ q.drop (l'.length % 64 + m)) l'.length ∧ Touch b w W1 := by
        refine ⟨_, fun ty => run_copy_str wr b off ln ln m t' hm (by rw [hoff]; intro j hj; rw [Nat.add_assoc]; exact hA.2.1.there (l'.length % 64 + j) (by omega)) ty, ?_, hT.setCells _ _⟩
        have := hA.putMid hq (l'.length % 64) ((nums t').take m) (by omega)
        rw [hlm] at this
        rw [hoff]; exact this
      have hsl' : ∀ W : World, (Instr.sliceAt 272 (.pointer (some ⟨b, 8, none⟩)) (some (.int .i64 ((l'.length : Int) % 64))) none none).run Tryz.prog W = .ok (.slice (some ⟨b, off, none⟩) ln ln) W := fun W => by simpa using hsl W
      have c72 := cell72 hA
      have c72' := cell72 hA1
      have f72 : W1.frozen? ⟨b, 72, none⟩ = false := by simpa using hA1.2.2.free 0 (by simp)
      have hmt : m ≤ t'.size := by omega
      have hm64 : l'.length % 64 + m ≤ 64 := by omega
      have hm0 : 0 < m := by omega
      have HA1 := hide hA1
      have HT1 := hide hT1
      have HL := hide hl
      have HM := hide hm
      have HLM := hide hlm
      have HQT := hide hqt
      have HQB := hide hqb
      clear hA hA1 hT1 hl hm hlm hsl e1 e2 hoff H0 hqt hqb hT
      have hlt : l'.length < 2305843009213693952 := by omega
      have hsz : t'.size < 2305843009213693952 := by omega
      generalize hnn : l'.length = n at *
      have HN := hide hnn
      clear hnn hlen
      by_cases hfull : n % 64 + m = 64
      · go_wp2
        have hq1 : (q.take (n % 64) ++ (nums t').take m ++ q.drop (n % 64 + m)).length = 64 := by
          have := unhide HLM
          simp only [List.length_append, this, List.length_take, List.length_drop]; omega
        have hA2 : HAt (W1.setCell ⟨b, 72, none⟩ (.int .i64 ((n : Int) + (m : Int)))) b (comps start8 l' (n / 64)) (q.take (n % 64) ++ (nums t').take m ++ q.drop (n % 64 + m)) (n + m) := by
          have := (unhide HA1).putCount hq1 (n + m)
          simpa using this
        have hT2 := (unhide HT1).setCell 72 (.int .i64 ((n : Int) + (m : Int)))
        generalize W1.setCell ⟨b, 72, none⟩ (.int .i64 ((n : Int) + (m : Int))) = W2 at *
        have hby1 : Bytes (q.take (n % 64) ++ (nums t').take m ++ q.drop (n % 64 + m)) := bytes_append (bytes_append (bytes_take (unhide HQB) _) (bytes_take (nums_bytes _) _)) (bytes_drop (unhide HQB) _)
        have HX := hide (hs_full (l' := l') (t' := t') (q := q) (m := m) (n := n) (unhide HN) (unhide HLM) (unhide HQT) hfull hq)
        clear HA1 HT1 HQB HQT c72 c72' f72 hcp hsl'
        generalize q.take (n % 64) ++ (nums t').take m ++ q.drop (n % 64 + m) = q1 at *
        generalize comps start8 l' (n / 64) = s at *
        have hbs2 : b < W2.drew.heap.size := Nat.lt_of_lt_of_le hbs hT2.1.size
        have HK2 : Hid (KTab W2.drew) := (unhide HK).touch hT2.drew hb0
        have hA2 : HAt W2.drew b s q1 (n + m) := hA2.drew
        have r8 := hA2.2.1.range
        have r45 := hide hA2.1.range
        have HA2 := hide hA2
        have HT2 := hide hT2
        have HBY := hide hby1
        clear hA2 hT2 hby1
        refine wp_region_held_drew (S := fun w' => w'.rangeAt b 8 (q1.map (Value.int .u8))) (by kernel_rfl) r8 ?_
        intro hS
        refine wpAnyH_takeD 0 (some 38) (Value.pointer (some ⟨b, 0, none⟩)) rfl rfl (by kernel_rfl) (by kernel_rfl) (by kernel_rfl) (fun _ _ _ h => h) (Or.inl ⟨by rfl, fun w hSw => by go_simp⟩) hS ?_
        simp only [Act.put, List.setIfInBounds_toArray, List.set_cons_zero, List.set_cons_succ]
        refine wpAnyH_takeD 1 (some 39) (Value.pointer (some ⟨b, 0, none⟩)) rfl rfl (by kernel_rfl) (by kernel_rfl) (by kernel_rfl) (fun _ _ _ h => h) (Or.inl ⟨by rfl, fun w hSw => by go_simp⟩) hS ?_
        simp only [Act.put, List.setIfInBounds_toArray, List.set_cons_zero, List.set_cons_succ]
        refine wpAnyH_takeD 2 (some 40) (Value.pointer (some ⟨b, 0, none⟩)) rfl rfl (by kernel_rfl) (by kernel_rfl) (by kernel_rfl) (fun _ _ _ h => h) (Or.inl ⟨by rfl, fun w hSw => by go_simp⟩) hS ?_
        simp only [Act.put, List.setIfInBounds_toArray, List.set_cons_zero, List.set_cons_succ]
        refine wpAnyH_takeD 3 (some 41) (Value.pointer (some ⟨b, 0, none⟩)) rfl rfl (by kernel_rfl) (by kernel_rfl) (by kernel_rfl) (fun _ _ _ h => h) (Or.inl ⟨by rfl, fun w hSw => by go_simp⟩) hS ?_
        simp only [Act.put, List.setIfInBounds_toArray, List.set_cons_zero, List.set_cons_succ]
        refine wpAnyH_takeD 5 (some 43) (Value.pointer (some ⟨b, 0, none⟩)) rfl rfl (by kernel_rfl) (by kernel_rfl) (by kernel_rfl) (fun _ _ _ h => h) (Or.inl ⟨by rfl, fun w hSw => by go_simp⟩) hS ?_
        simp only [Act.put, List.setIfInBounds_toArray, List.set_cons_zero, List.set_cons_succ]
        refine wpAnyH_takeD 6 (some 44) (Value.pointer (some ⟨b, 0, none⟩)) rfl rfl (by kernel_rfl) (by kernel_rfl) (by kernel_rfl) (fun _ _ _ h => h) (Or.inl ⟨by rfl, fun w hSw => by go_simp⟩) hS ?_
        simp only [Act.put, List.setIfInBounds_toArray, List.set_cons_zero, List.set_cons_succ]
        refine wpAnyH_takeD 7 (some 45) (Value.pointer (some ⟨b, 8, none⟩)) rfl rfl (by kernel_rfl) (by kernel_rfl) (by kernel_rfl) (fun _ _ _ h => h) (Or.inl ⟨by rfl, fun w hSw => by go_simp⟩) hS ?_
        simp only [Act.put, List.setIfInBounds_toArray, List.set_cons_zero, List.set_cons_succ]
        refine wpAnyH_takeD 8 (some 46) (.agg (q1.map (Value.int .u8)).toArray) rfl rfl (by kernel_rfl) (by kernel_rfl) (by kernel_rfl) (fun _ _ _ h => h) (yieldsIf_load_mid (by rfl) 272 (.tmp 45) rfl b 8 rfl _ _ (fun w h => h) Tryz.underlying272 rfl (by rw [size272, List.length_map, hq1])) hS ?_
        simp only [Act.put, List.setIfInBounds_toArray, List.set_cons_zero, List.set_cons_succ]
        refine wpAnyH_ready (rs := [4]) (by kernel_rfl) (by simp) ?_
        refine AllReadyH.cons rfl (fun K hK => ?_) AllReadyH.nil
        rw [if_pos (by rfl)]
        refine wp_load_mid 243 (.tmp 41) rfl b 0 rfl _ _ (unhide r45) Tryz.underlying243 rfl (by rw [size243]; simp [H8.vals]) ?_
        refine hK.out (Act.put _ (some 42) _) _ hS (fun hS => ?_)
        simp only [Act.put, List.setIfInBounds_toArray, List.set_cons_zero, List.set_cons_succ]
        clear hK K
        refine wpAnyH_ready (rs := [9]) (by kernel_rfl) (by simp) ?_
        refine AllReadyH.cons rfl (fun K hK => ?_) AllReadyH.nil
        simp only [List.getElem_toArray, List.getElem_cons_succ, List.getElem_cons_zero]
        go_simp
        refine (mixed_any s q1 hq1 (unhide HBY) W2.drew (unhide HK2)).mono ?_
        rintro e w3 ⟨rfl, hb3⟩
        have hA3 := (unhide HA2).below hb3 hbs2
        have hT3 := (unhide HT2).drew.trans (Touch.of_below hb3 (Nat.le_of_lt hbs2))
        have h3 := hide hA3.1.there
        have HA3 := hide (hA3.putWords (s' := comp s q1))
        have HT3 := hide (hT3.setCells ((comp s q1).vals.map (Value.int .u32)) 0)
        have HS3 := hide (World.rangeAt_setCells_apart hA3.2.1.range b 0 ((comp s q1).vals.map (Value.int .u32)) (.inr (.inr (by simp [H8.vals]))))
        refine hK.out _ _ hA3.2.1.range (fun hS => ?_)
        clear hK K hA3 hT3 HA2 HT2 hb3 r45 r8
        refine wpAnyH_takeD 10 (some 48) (Value.pointer (some ⟨b, 0, none⟩)) rfl rfl (by kernel_rfl) (by kernel_rfl) (by kernel_rfl) (fun _ _ _ h => h) (Or.inl ⟨by rfl, fun w hSw => by go_simp⟩) hS ?_
        simp only [Act.put, List.setIfInBounds_toArray, List.set_cons_zero, List.set_cons_succ]
        refine wpAnyH_takeD 11 (some 49) (Value.pointer (some ⟨b, 0, none⟩)) rfl rfl (by kernel_rfl) (by kernel_rfl) (by kernel_rfl) (fun _ _ _ h => h) (Or.inl ⟨by rfl, fun w hSw => by go_simp⟩) hS ?_
        simp only [Act.put, List.setIfInBounds_toArray, List.set_cons_zero, List.set_cons_succ]
        refine wpAnyH_ready (rs := [12]) (by kernel_rfl) (by simp) ?_
        refine AllReadyH.cons rfl (fun K hK => ?_) AllReadyH.nil
        rw [if_pos (by rfl)]
        refine wp_store_mid 243 (.tmp 49) (.tmp 47) rfl b 0 _ rfl rfl (by simpa [H8.vals] using unhide h3) (by rw [size243]; simp [H8.vals]) (one_ints _ _) ?_
        refine hK.out (Act.put _ none _) _ (unhide HS3) (fun hS => ?_)
        clear hK K hS
        refine wpAnyH_done (by kernel_rfl) ?_ _
        simp only [Act.put]
        go_wp2
        go_roundw
        case rel => exact ⟨_, rfl, l' ++ (nums t').take m, hs_of_full (unhide HA3) hq1 (unhide HBY) (unhide HX).1 (unhide HX).2.1 (unhide HX).2.2, by rw [hnums_extract, List.append_assoc, List.take_append_drop]; exact unhide HL, unhide HT3⟩
        case measure => simp; omega
      · have hq1 : (q.take (n % 64) ++ (nums t').take m ++ q.drop (n % 64 + m)).length = 64 := by
          have := unhide HLM
          simp only [List.length_append, this, List.length_take, List.length_drop]; omega
        have hA2 : HAt (W1.setCell ⟨b, 72, none⟩ (.int .i64 ((n : Int) + (m : Int)))) b (comps start8 l' (n / 64)) (q.take (n % 64) ++ (nums t').take m ++ q.drop (n % 64 + m)) (n + m) := by
          have := (unhide HA1).putCount hq1 (n + m)
          simpa using this
        have hT2 := (unhide HT1).setCell 72 (.int .i64 ((n : Int) + (m : Int)))
        have hby1 : Bytes (q.take (n % 64) ++ (nums t').take m ++ q.drop (n % 64 + m)) := bytes_append (bytes_append (bytes_take (unhide HQB) _) (bytes_take (nums_bytes _) _)) (bytes_drop (unhide HQB) _)
        have HH := hide (hs_part (unhide HN) (unhide HLM) (unhide HQT) (by omega) hq hA2 hq1 hby1)
        have HT2 := hide hT2
        clear hA2 hT2 hby1 HA1 HT1 HQB HQT
        go_wp2
        go_roundw
        case rel => exact ⟨_, rfl, l' ++ (nums t').take m, unhide HH, by rw [hnums_extract, List.append_assoc, List.take_append_drop]; exact unhide HL, unhide HT2⟩
        case measure => simp; omega
    · have hz : t'.size = 0 := by omega
      have hnil : nums t' = [] := List.eq_nil_of_length_eq_zero (by rw [nums_len, hz])
      rw [hnil, List.append_nil] at hl
      subst hl
      have HI := hide hI
      have HT := hide hT
      clear hI hT H0 hnil hlen
      go_wp2
      go_end0
      exact ⟨rfl, unhide HI, unhide HT⟩
end Go.Proofs.YtnfdedolgfcmfaaGreatDoor

namespace Go.Proofs.YtnfdedolgfcmfaaGreatDoor
open Go.RowKit
set_option maxRecDepth 100000 in
set_option maxHeartbeats 400000 in
theorem msum_any (w : World) (b : Nat) (l : List Int) (h : Hs w b l) (_hbs : b < w.heap.size) (hK : KTab w) (hn : l.length < 2305843009213693952) :
    Calls Tryz.prog 170 #[.pointer (some ⟨b, 0, none⟩)] w fun e w' => e = .returned (.string (strOfNums (sha l))) ∧ Below w.heap.size w w' := by
  obtain ⟨q, hq, hqb, hA, hqt⟩ := h
  have hsha := sha_fin l
  rw [← hqt] at hsha
  rw [hsha]
  clear hsha
  have HR := hide (hA.range hq)
  have HK := hide hK
  have HQ := hide hqb
  have hcl : (hCells (comps start8 l (l.length / 64)) q l.length).length = 73 := by simp [hCells, H8.vals, hq]
  clear hA hK hqb hqt
  generalize comps start8 l (l.length / 64) = s at *
  generalize l.length = n at *
  go_enter Tryz.func170, Tryz.ntmps170
  go_wp2_with (first
    | (refine wpList_load_mid rfl 274 (.tmp 8) rfl b 0 rfl _ _ (unhide HR) Tryz.underlying274 rfl (by rw [size274, hcl]) ?_)
    | (go_at_call 188; refine (hfilled_any s q n hq (unhide HQ) hn _ (unhide HK)).mono ?_; rintro e w1 ⟨rfl, hb1⟩)
    | (go_at_call 187; refine (digest_any _ _).mono ?_; rintro e w2 ⟨rfl, hb2⟩))
  go_ret
  exact ⟨rfl, hb1.trans (hb2.mono hb1.size)⟩
set_option maxRecDepth 100000 in
set_option maxHeartbeats 400000 in
theorem sum_any (t : ByteArray) (w : World) (hK : KTab w) (hn : t.size < 2305843009213693952) :
    Calls Tryz.prog 141 #[.string t] w fun e w' => e = .returned (.string (strOfNums (sha (nums t)))) ∧ Below w.heap.size w w' := by
  have HK := hide hK
  clear hK
  go_enter Tryz.func141, Tryz.ntmps141
  go_wp2_with fail
  refine (hs_new_any w).mono ?_
  rintro e w1 ⟨rfl, h1, hb1, hs1⟩
  have H1 := hide h1
  have HB1 := hide hb1
  have HS1 := hide hs1
  clear h1 hb1 hs1
  go_wp2_with fail
  refine (hs_write_any w1 w.heap.size [] t (unhide H1) (unhide HK).1 (by rw [unhide HS1]; omega) ((unhide HK).below (unhide HB1) (unhide HK).1) (by simpa using hn)).mono ?_
  rintro e w2 ⟨rfl, h2, ht2⟩
  have H2 := hide h2
  have HT2 := hide ht2
  clear h2 ht2
  go_wp2_with fail
  refine (msum_any w2 w.heap.size (nums t) (by simpa using unhide H2) (Nat.lt_of_lt_of_le (by rw [unhide HS1]; omega) (unhide HT2).1.size) (((unhide HK).below (unhide HB1) (unhide HK).1).touch (unhide HT2) (unhide HK).1) (by rw [nums_len]; exact hn)).mono ?_
  rintro e w3 ⟨rfl, hb3⟩
  go_wp2_with fail
  go_ret
  exact ⟨rfl, ((unhide HB1).trans (unhide HT2).1).trans (hb3.mono (Nat.le_trans (unhide HB1).size (unhide HT2).1.size))⟩
end Go.Proofs.YtnfdedolgfcmfaaGreatDoor

namespace Go.Proofs.YtnfdedolgfcmfaaGreatDoor
open Go.RowKit
set_option maxRecDepth 100000
/-- the digest of a text -/
noncomputable def dg (t : ByteArray) : ByteArray := strOfNums (sha (nums t))
theorem sizeN (l : List Int) : (strOfNums l).size = l.length := by simp [strOfNums, ByteArray.size]
theorem dg_size (t : ByteArray) : (dg t).size = 32 := by rw [dg, sizeN, sha_len]
def mk0 : ByteArray := ⟨#[0]⟩
def mk1 : ByteArray := ⟨#[1]⟩
theorem mk0_size : mk0.size = 1 := rfl
theorem mk1_size : mk1.size = 1 := rfl
noncomputable def lf (s : ByteArray) : ByteArray := dg (mk0 ++ s)
noncomputable def ndB (a b : ByteArray) : ByteArray := dg (mk1 ++ a ++ b)
theorem lf_size (s : ByteArray) : (lf s).size = 32 := dg_size _
theorem ndB_size (a b : ByteArray) : (ndB a b).size = 32 := dg_size _
/-- the greatest power of two below n -/
def kk (n : Nat) : Nat := 2 ^ Nat.log2 (n - 1)
theorem kk_pos (n : Nat) : 1 ≤ kk n := Nat.one_le_two_pow
theorem kk_lt (n : Nat) (h : 2 ≤ n) : kk n < n := by
  have := Nat.log2_self_le (n := n - 1) (by omega)
  unfold kk
  omega
/-- the root of some leaves -/
noncomputable def rt (l : List ByteArray) : ByteArray :=
  if _h : l.length < 2 then (match l with | [] => dg ⟨#[]⟩ | x :: _ => lf x)
  else ndB (rt (l.take (kk l.length))) (rt (l.drop (kk l.length)))
termination_by l.length
decreasing_by
  · have := kk_lt l.length (by omega); rw [List.length_take]; omega
  · have := kk_pos l.length; rw [List.length_drop]; omega
theorem rt_nil : rt [] = dg ⟨#[]⟩ := by rw [rt]; simp
theorem rt_one (x : ByteArray) : rt [x] = lf x := by rw [rt]; simp
theorem rt_two (l : List ByteArray) (h : 2 ≤ l.length) : rt l = ndB (rt (l.take (kk l.length))) (rt (l.drop (kk l.length))) := by
  rw [rt]
  rw [dif_neg (by omega)]
theorem rt_size (l : List ByteArray) : (rt l).size = 32 := by
  by_cases h : 2 ≤ l.length
  · rw [rt_two l h]; exact ndB_size _ _
  · match l, h with
    | [], _ => rw [rt_nil]; exact dg_size _
    | [x], _ => rw [rt_one]; exact lf_size _
    | x :: y :: l, h => exact absurd (by simp) h
/-- the path of the i-th -/
noncomputable def pt (l : List ByteArray) (i : Nat) : List ByteArray :=
  if _h : l.length < 2 then []
  else if i < kk l.length then pt (l.take (kk l.length)) i ++ [rt (l.drop (kk l.length))] else pt (l.drop (kk l.length)) (i - kk l.length) ++ [rt (l.take (kk l.length))]
termination_by l.length
decreasing_by
  · have := kk_lt l.length (by omega); rw [List.length_take]; omega
  · have := kk_pos l.length; rw [List.length_drop]; omega
/-- the texts that are digested from the leaf up, if the path has the form of one -/
noncomputable def up (n i : Nat) (s : ByteArray) (P : List ByteArray) : Option (List ByteArray) :=
  if _h : n < 2 then (if P = [] then some [mk0 ++ s] else none)
  else match P.getLast? with
    | none => none
    | some b => if b.size = 32 then
        (if i < kk n then (up (kk n) i s P.dropLast).map (fun T => T ++ [mk1 ++ dg (T.getLastD ⟨#[]⟩) ++ b])
         else (up (n - kk n) (i - kk n) s P.dropLast).map (fun T => T ++ [mk1 ++ b ++ dg (T.getLastD ⟨#[]⟩)]))
      else none
termination_by n
decreasing_by
  · have := kk_lt n (by omega); omega
  · have := kk_pos n; omega
end Go.Proofs.YtnfdedolgfcmfaaGreatDoor

namespace Go.Proofs.YtnfdedolgfcmfaaGreatDoor
open Go.RowKit
def xb (m x : Int) : Int := bits .xor .u8 x m
end Go.Proofs.YtnfdedolgfcmfaaGreatDoor

namespace Go.Proofs.YtnfdedolgfcmfaaGreatDoor
open Go.RowKit
end Go.Proofs.YtnfdedolgfcmfaaGreatDoor
