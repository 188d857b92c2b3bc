import Derived.Test.YtifjmldmilmfjaaGreatDoorMp06
import Derived.Lib.AppendStr
import Derived.BigQuiet
import Derived.Test.YtifjmldmilmfjaaGreatDoorMp04
import Derived.Test.YtifjmldmilmfjaaGreatDoorMp00
namespace Go.Proofs.YtifjmldmilmfjaaGreatDoor
open Go.RowKit
/-- The i-th 32 bytes. -/
def tP (key info : List Int) : Nat → List Int
  | 0 => []
  | i + 1 => macP key (tP key info i ++ info ++ [((i : Int) + 1) % 256])
/-- The first k of them, one behind the other. -/
def outP (key info : List Int) : Nat → List Int
  | 0 => []
  | k + 1 => outP key info k ++ tP key info (k + 1)
theorem outP_len (key info : List Int) : ∀ k, (outP key info k).length = 32 * k
  | 0 => rfl
  | k + 1 => by rw [outP, List.length_append, outP_len key info k, tP, mac_len]; omega
theorem tP_bytes (key info : List Int) : ∀ i, Bytes (tP key info i)
  | 0 => by intro j; simp [tP]
  | _ + 1 => mac_bytes _ _
theorem tP_len_le (key info : List Int) : ∀ i, (tP key info i).length ≤ 32
  | 0 => by simp [tP]
  | _ + 1 => by rw [tP, mac_len]; omega
theorem nums_append (a b : ByteArray) : nums (a ++ b) = nums a ++ nums b := by simp [nums, ByteArray.data_append]
theorem run_append_str (w : World) (b sLen sCap : Nat) (s : ByteArray) (hroom : sLen + s.size ≤ sCap) (ht : w.there b sLen s.size) (ty : TypeId) :
    (Builtin.append_ #[86, 9] ty #[.slice (some ⟨b, 0, none⟩) sLen sCap, .string s]).run Tryz.prog w = .ok (.slice (some ⟨b, 0, none⟩) (sLen + s.size) sCap) (w.setCells b sLen ((nums s).map (Value.int .u8))) := by
  obtain ⟨i0, hi, hz0, hz1, hz2⟩ := info_parts info5
  have hf := Lib.run_firstCells_string (P := Tryz.prog) w 1 s
  have hsc : Lib.strCells s = (nums s).map (Value.int .u8) := by simp [Lib.strCells, nums, Function.comp_def]
  have hl : ((nums s).map (Value.int .u8)).length = s.size := by rw [List.length_map, nums_len]
  have hst := run_storeCells_cells (P := Tryz.prog) b sLen ((nums s).map (Value.int .u8)) 0 w (by rw [hl]; intro j hj; simpa using (ht j hj).1) (by rw [hl]; intro j hj; simpa using (ht j hj).2) (by
    intro v hv
    obtain ⟨x, _, rfl⟩ := List.mem_map.1 hv
    rfl)
  simp only [Nat.add_zero] at hst
  rw [hsc] at hf
  have ha : (⟨b, 0, none⟩ : Addr).add sLen = ⟨b, sLen, none⟩ := by rw [Addr.add_mid, Nat.zero_add]
  simp [Builtin.append_, run_underlying Tryz.underlying86, run_underlying Tryz.underlying9, sizeOf, typeInfo, hi, hz1, Builtin.lenOf, hroom, hf, ha, hst]
theorem wpList_append_str {ops : Array Oper} {rest : List Oper} {op : Oper} {a : Act} {w : World} {Q : Exit → Act → World → Prop} (hgd : op.guard = none) (d x : Operand) (hop : op.op = Op.call { callee := Callee.builtin Builtin.append, args := #[d, x], argTypes := #[86, 9] })
    (b sLen sCap : Nat) (t : ByteArray) (hd : a.eval d = .slice (some ⟨b, 0, none⟩) sLen sCap) (hx : a.eval x = .string t) (hroom : sLen + t.size ≤ sCap) (ht : w.there b sLen t.size)
    (h : ∀ w', w' = w.setCells b sLen ((nums t).map (Value.int .u8)) → wpList Tryz.prog ops Q rest (a.put op.dst (.slice (some ⟨b, 0, none⟩) (sLen + t.size) sCap)) w') : wpList Tryz.prog ops Q (op :: rest) a w := by
  refine wpList_plain hgd fun K hK => ?_
  have hrun := run_append_str w b sLen sCap t hroom ht op.type
  unfold Oper.wp
  simp only [execOp, hop]
  simp [resolve, invoke, builtin, hd, hx, hrun, Result.andThen]
  exact hK _ _ (h _ rfl)
theorem KeyInv.alloc_below {w : World} {l : List Int} {wr w1 : World} (h : KeyInv w l wr) (o : Obj) (hb : Below (wr.alloc o).heap.size (wr.alloc o) w1) : KeyInv w l w1 := by
  have hs := hb.size
  have h2 := h.2.2
  rw [World.size_alloc] at hs
  exact ⟨(h.1.alloc h2 o).below hb (by rw [World.size_alloc]; omega), (h.2.1.alloc (by omega) o).trans (hb.mono (by rw [World.size_alloc]; omega)), by omega⟩
theorem drv_put {w w1 W2 : World} {A T : List Int} {mt : ByteArray} {k n : Nat} (h : KeyInv w (A ++ List.replicate (n + 32 - 32 * k) 0) w1) (hA : A.length = 32 * k) (hmt : nums mt = T) (hms : mt.size = 32) (hr : 32 * k < n)
    (hW : W2 = w1.setCells w.heap.size (32 * k) ((nums mt).map (Value.int .u8))) {A' : List Int} (hA' : A' = A ++ T) : KeyInv w (A' ++ List.replicate (n + 32 - 32 * (k + 1)) 0) W2 := by
  subst hW hA' hmt
  refine ⟨?_, below_setCells (Nat.le_refl _) _ _ h.2.1, by rw [size_setCells]; exact h.2.2⟩
  have hl : (nums mt).length = 32 := by rw [nums_len, hms]
  have hm := h.1.mid (32 * k) (nums mt) (by rw [List.length_append, hA, List.length_replicate, hl]; omega)
  have e : (A ++ List.replicate (n + 32 - 32 * k) (0 : Int)).take (32 * k) ++ nums mt ++ (A ++ List.replicate (n + 32 - 32 * k) (0 : Int)).drop (32 * k + (nums mt).length) = A ++ nums mt ++ List.replicate (n + 32 - 32 * (k + 1)) 0 := by
    rw [List.take_append_of_le_length (by omega), List.take_of_length_le (by omega), hl, List.drop_append, List.drop_of_length_le (by omega), List.nil_append, List.drop_replicate, hA]
    congr 2
    omega
  rw [e, Nat.zero_add] at hm
  exact hm
set_option maxHeartbeats 400000 in
theorem derive_long (key info : ByteArray) (n : Int) (h : 8160 < n) (w : World) :
    Calls Tryz.prog 57 #[.string key, .string info, .int .i64 n] w fun e w' => e = .returned (.tuple #[.string ⟨#[]⟩, .int .i64 10]) ∧ w' = w := by
  go_enter Tryz.func57, Tryz.ntmps57
  go_wp2
  go_ret2
  exact ⟨rfl, rfl⟩
set_option maxRecDepth 100000 in
set_option maxHeartbeats 400000 in
theorem derive_any (key info : ByteArray) (n : Nat) (hn : n ≤ 8160) (hk : key.size < 2305843009213693952) (hi : info.size + 200 < 2305843009213693952) (w : World) (hK : KTab w) :
    Calls Tryz.prog 57 #[.string key, .string info, .int .i64 (n : Int)] w fun e w' => e = .returned (.tuple #[.string (strOfNums ((outP (nums key) (nums info) ((n + 31) / 32)).take n)), .int .i64 0]) ∧ Below w.heap.size w w' := by
  have HK := hide hK
  clear hK
  have hmk := fun W => run_make_u8 0 (n + 32) (by omega) (by omega) W
  simp only [Int.natCast_add, Int.cast_ofNat_Int] at hmk
  go_enter Tryz.func57, Tryz.ntmps57
  go_wp2
  clear hmk
  go_loopw [8, 9, 10] (fun v l i wr => ∃ k : Nat, 32 * k < n + 32 ∧ i = .int .i64 ((k : Int) + 1) ∧ v = .slice (some ⟨w.heap.size, 0, none⟩) (32 * k) (n + 32) ∧ l = .string (strOfNums (tP (nums key) (nums info) k)) ∧ KeyInv w (outP (nums key) (nums info) k ++ List.replicate (n + 32 - 32 * k) 0) wr) (fun _ _ i _ => n + 32 - 32 * (intOf i).toNat)
  case atStart => exact ⟨0, by omega, rfl, rfl, rfl, by
    have h : KeyInv w (List.replicate (n + 32) 0) (w.alloc (Obj.cells (Array.replicate (n + 32) (Value.int .u8 0)) 5)) := ⟨arr_new w .u8 (List.replicate (n + 32) 0) 5 _ (by simp), (Below.refl _ _).alloc (Nat.le_refl _) _, by simp⟩
    simpa [outP] using h⟩
  case round =>
    obtain ⟨k, hk2, rfl, rfl, rfl, hI⟩ := hrel
    by_cases hlt : 32 * k < n
    · have hcv := fun W : World => run_convert_bytes_arg (P := Tryz.prog) (W.alloc (Obj.cells #[.int .u8 ((k : Int) + 1)] 5)) 86 5 Tryz.underlying86 Tryz.underlying5 W.heap.size 0 1 1 [(k : Int) + 1] rfl (fun i hi => by
        have : i = 0 := by omega
        subst this
        simp) 9 Tryz.underlying9
      have htl := tP_len_le (nums key) (nums info) k
      have hts : (strOfNums (tP (nums key) (nums info) k)).size ≤ 32 := by rw [strOfNums_size]; exact htl
      have hns := nums_strOfNums _ (tP_bytes (nums key) (nums info) k)
      obtain ⟨lt, hlt2⟩ : ∃ lt, lt = strOfNums (tP (nums key) (nums info) k) := ⟨_, rfl⟩
      rw [← hlt2] at hts hns
      rw [← hlt2]
      have HNS := hide hns
      have HI := hide hI
      have hs1 : (lt ++ info).size = lt.size + info.size := ByteArray.size_append
      have hs2 : (strOfNums [(k : Int) + 1]).size = 1 := by rw [strOfNums_size]; rfl
      have hnb : nums (strOfNums [(k : Int) + 1]) = [((k : Int) + 1) % 256] := by
        rw [nums_strOfNums _ (bytes_one _ (by omega) (by omega)), Int.emod_eq_of_lt (by omega) (by omega)]
      obtain ⟨bt, hbt⟩ : ∃ bt, bt = strOfNums [(k : Int) + 1] := ⟨_, rfl⟩
      rw [← hbt] at hs2 hnb
      simp only [← hbt] at hcv
      have hs3 : (lt ++ info).size + bt.size ≤ 9223372036854775807 := by omega
      have hs4 : lt.size + info.size ≤ 9223372036854775807 := by omega
      have hall : nums (lt ++ info ++ bt) = tP (nums key) (nums info) k ++ nums info ++ [((k : Int) + 1) % 256] := by rw [nums_append, nums_append, unhide HNS, hnb]
      have hsall : (lt ++ info ++ bt).size + 64 < 2305843009213693952 := by rw [ByteArray.size_append]; omega
      have HMA := hide (fun W (hW : KTab W) => mac_any key (lt ++ info ++ bt) hk hsall W hW)
      rw [hall] at HMA
      have hkw := hide ((unhide HK).below ((unhide HI).2.1.alloc (Nat.le_of_lt (unhide HI).2.2) (Obj.cells #[.int .u8 ((k : Int) + 1)] 5)) (unhide HK).1)
      have HS1 := hide hs1
      clear hlt2 hns hI htl hnb hbt hall hsall
      go_wp2_with fail
      refine (unhide HMA _ (unhide hkw)).mono ?_
      rintro e w1 ⟨rfl, hb1⟩
      change Below (wr.alloc (Obj.cells #[.int .u8 ((k : Int) + 1)] 5)).heap.size _ w1 at hb1
      have hI1 : KeyInv w (outP (nums key) (nums info) k ++ List.replicate (n + 32 - 32 * k) 0) w1 := (unhide HI).alloc_below _ hb1
      have htn : tP (nums key) (nums info) (k + 1) = macP (nums key) (tP (nums key) (nums info) k ++ nums info ++ [((k : Int) + 1) % 256]) := rfl
      rw [← htn]
      have hmt : nums (strOfNums (tP (nums key) (nums info) (k + 1))) = tP (nums key) (nums info) (k + 1) := nums_strOfNums _ (tP_bytes _ _ _)
      have hms : (strOfNums (tP (nums key) (nums info) (k + 1))).size = 32 := by rw [strOfNums_size, tP, mac_len]
      obtain ⟨mt, hmt2⟩ : ∃ mt, mt = strOfNums (tP (nums key) (nums info) (k + 1)) := ⟨_, rfl⟩
      rw [← hmt2] at hmt hms
      rw [← hmt2]
      have hol := outP_len (nums key) (nums info) k
      have hroom : 32 * k + mt.size ≤ n + 32 := by omega
      have HTH : Hid (w1.there w.heap.size (32 * k) mt.size) := by
        intro j hj
        have := hI1.1.there (32 * k + j) (by rw [List.length_append, hol, List.length_replicate]; omega)
        rw [Nat.zero_add] at this
        exact this
      have HI1 := hide hI1
      have HMT := hide hmt
      have HMT2 := hide hmt2
      have HOL := hide hol
      have HMS := hide hms
      clear hb1 hI1 htn hmt hmt2 hol HMA hkw HI hcv hs1 hs2 hs3 hs4 HS1 HNS
      go_wp2_with (refine wpList_append_str rfl (.tmp 34) (.tmp 35) rfl w.heap.size (32 * k) (n + 32) mt rfl rfl hroom (unhide HTH) ?_; intro W2 hW2; have HW2 := hide hW2; clear hW2)
      go_roundw
      case rel => exact ⟨k + 1, by omega, congrArg (Value.int .i64) (by omega), rfl, by rw [unhide HMT2], drv_put (unhide HI1) (unhide HOL) (unhide HMT) (unhide HMS) (by omega) (unhide HW2) rfl⟩
      case measure => simp [intOf]; omega
    · have hlen := outP_len (nums key) (nums info) k
      have hek : (n + 31) / 32 = k := by omega
      have hI2 : KeyInv w (outP (nums key) (nums info) k ++ List.replicate (n + 32 - 32 * k) 0) wr := hI
      have hcv := run_convert_bytes_arg (P := Tryz.prog) wr 86 5 Tryz.underlying86 Tryz.underlying5 w.heap.size 0 n (n + 32) ((outP (nums key) (nums info) k).take n) (by rw [List.length_take]; omega) (fun i hi => by
        have := hI2.1.get i (by rw [List.length_append]; omega)
        rw [this]
        simp [List.getElem?_append, hi, show i < (outP (nums key) (nums info) k).length by omega]) 9 Tryz.underlying9
      have HE := hide hek
      have HB := hide hI.2.1
      clear hI hI2 hlen hek
      go_wp2
      go_ret2
      exact ⟨by rw [unhide HE]; rfl, unhide HB⟩
end Go.Proofs.YtifjmldmilmfjaaGreatDoor

namespace Go.Proofs.YtifjmldmilmfjaaGreatDoor
open Go.RowKit
theorem outP_bytes (key info : List Int) : ∀ k, Bytes (outP key info k)
  | 0 => by intro j; simp [outP]
  | k + 1 => bytes_append (outP_bytes key info k) (tP_bytes key info (k + 1))
theorem nums_pre (t : ByteArray) (n : Nat) : nums (t.extract 0 n) = (nums t).take n := by
  unfold nums
  simp only [ByteArray.data_extract, Array.toList_extract, List.extract_eq_take_drop, List.map_take, List.drop_zero, Nat.sub_zero]
theorem str_pre (L : List Int) (hL : Bytes L) (n : Nat) : (strOfNums L).extract 0 n = strOfNums (L.take n) := by
  rw [← strOfNums_nums ((strOfNums L).extract 0 n), nums_pre, nums_strOfNums _ hL]
set_option maxHeartbeats 400000 in
theorem rderive_long (key info : ByteArray) (n : Int) (h : 8160 < n) (w : World) :
    Calls Tryz.prog 81 #[.string key, .string info, .int .i64 n] w fun e w' => e = .returned (.tuple #[.string ⟨#[]⟩, .int .i64 10]) ∧ w' = w := by
  go_enter Tryz.func81, Tryz.ntmps81
  go_wp2
  go_ret2
  exact ⟨rfl, rfl⟩
set_option maxRecDepth 100000 in
set_option maxHeartbeats 400000 in
theorem rderive_any (key info : ByteArray) (n : Nat) (hn : n ≤ 8160) (hk : key.size + 100 ≤ 140737488355328) (hi : info.size + 200 ≤ 140737488355328) (w : World) :
    Calls Tryz.prog 81 #[.string key, .string info, .int .i64 (n : Int)] w fun e w' => e = .returned (.tuple #[.string (strOfNums ((outP (nums key) (nums info) ((n + 31) / 32)).take n)), .int .i64 0]) ∧ Below w.heap.size w w' := by
  go_enter Tryz.func81, Tryz.ntmps81
  go_wp2
  go_loopw [8, 9, 10] (fun v l i wr => ∃ k : Nat, 32 * k < n + 32 ∧ i = .int .i64 ((k : Int) + 1) ∧ v = .string (strOfNums (outP (nums key) (nums info) k)) ∧ l = .string (strOfNums (tP (nums key) (nums info) k)) ∧ Below w.heap.size w wr) (fun _ _ i _ => n + 32 - 32 * (intOf i).toNat)
  case atStart => exact ⟨0, by omega, rfl, rfl, rfl, Below.refl _ _⟩
  case round =>
    obtain ⟨k, hk2, rfl, rfl, rfl, hB⟩ := hrel
    have hol : (strOfNums (outP (nums key) (nums info) k)).size = 32 * k := by rw [strOfNums_size, outP_len]
    by_cases hlt : 32 * k < n
    · have hcv := fun W : World => run_convert_bytes_arg (P := Tryz.prog) (W.alloc (Obj.cells #[.int .u8 ((k : Int) + 1)] 5)) 86 5 Tryz.underlying86 Tryz.underlying5 W.heap.size 0 1 1 [(k : Int) + 1] rfl (fun i hi => by
        have : i = 0 := by omega
        subst this
        simp) 9 Tryz.underlying9
      have hts : (strOfNums (tP (nums key) (nums info) k)).size ≤ 32 := by rw [strOfNums_size]; exact tP_len_le _ _ k
      have hns := nums_strOfNums _ (tP_bytes (nums key) (nums info) k)
      have hno := nums_strOfNums _ (outP_bytes (nums key) (nums info) k)
      obtain ⟨lt, hlt2⟩ : ∃ lt, lt = strOfNums (tP (nums key) (nums info) k) := ⟨_, rfl⟩
      obtain ⟨ot, hot⟩ : ∃ ot, ot = strOfNums (outP (nums key) (nums info) k) := ⟨_, rfl⟩
      rw [← hlt2] at hts hns
      rw [← hot] at hol hno
      rw [← hlt2, ← hot]
      have hs1 : (lt ++ info).size = lt.size + info.size := ByteArray.size_append
      have hs2 : (strOfNums [(k : Int) + 1]).size = 1 := by rw [strOfNums_size]; rfl
      have hnb : nums (strOfNums [(k : Int) + 1]) = [((k : Int) + 1) % 256] := by
        rw [nums_strOfNums _ (bytes_one _ (by omega) (by omega)), Int.emod_eq_of_lt (by omega) (by omega)]
      obtain ⟨bt, hbt⟩ : ∃ bt, bt = strOfNums [(k : Int) + 1] := ⟨_, rfl⟩
      rw [← hbt] at hs2 hnb
      simp only [← hbt] at hcv
      have hs3 : (lt ++ info).size + bt.size ≤ 9223372036854775807 := by omega
      have hs4 : lt.size + info.size ≤ 9223372036854775807 := by omega
      have hall : nums (lt ++ info ++ bt) = tP (nums key) (nums info) k ++ nums info ++ [((k : Int) + 1) % 256] := by rw [nums_append, nums_append, hns, hnb]
      have hsall : (lt ++ info ++ bt).size + 164 ≤ 140737488355328 := by rw [ByteArray.size_append]; omega
      have HMA := hide (fun W => rmac_any key (lt ++ info ++ bt) hk hsall W)
      rw [hall] at HMA
      have htn : tP (nums key) (nums info) (k + 1) = macP (nums key) (tP (nums key) (nums info) k ++ nums info ++ [((k : Int) + 1) % 256]) := rfl
      rw [← htn] at HMA
      have HMT2 := hide (show strOfNums (tP (nums key) (nums info) (k + 1)) = strOfNums (tP (nums key) (nums info) (k + 1)) from rfl)
      have hms : (strOfNums (tP (nums key) (nums info) (k + 1))).size = 32 := by rw [strOfNums_size, tP, mac_len]
      have HOUT : Hid (ot ++ strOfNums (tP (nums key) (nums info) (k + 1)) = strOfNums (outP (nums key) (nums info) (k + 1))) := by
        have h : ot ++ strOfNums (tP (nums key) (nums info) (k + 1)) = strOfNums (outP (nums key) (nums info) (k + 1)) := by
          rw [← strOfNums_nums (ot ++ strOfNums (tP (nums key) (nums info) (k + 1))), nums_append, hno, nums_strOfNums _ (tP_bytes _ _ _), outP]
        exact h
      obtain ⟨mt, hmt⟩ : ∃ mt, mt = strOfNums (tP (nums key) (nums info) (k + 1)) := ⟨_, rfl⟩
      rw [← hmt] at hms HOUT HMA
      have HMT := hide hmt
      have HB := hide hB
      clear hlt2 hot hns hno hnb hbt hall hsall htn hmt hB HMT2
      go_wp2_with fail
      refine (unhide HMA _).mono ?_
      rintro e w1 ⟨rfl, hb1⟩
      change Below (wr.alloc (Obj.cells #[.int .u8 ((k : Int) + 1)] 5)).heap.size _ w1 at hb1
      have hb0 := (unhide HB).alloc (unhide HB).size (Obj.cells #[.int .u8 ((k : Int) + 1)] 5)
      have HB1 := hide (hb0.trans (hb1.mono hb0.size))
      clear hb1 hb0 HB HMA hcv hs1 hs3 hs4
      have hs5 : ot.size + mt.size ≤ 9223372036854775807 := by omega
      go_wp2
      go_roundw
      case rel => exact ⟨k + 1, by omega, congrArg (Value.int .i64) (by omega), by rw [unhide HOUT], by rw [unhide HMT], unhide HB1⟩
      case measure => simp [intOf]; omega
    · have hek : (n + 31) / 32 = k := by omega
      have HP := hide (str_pre _ (outP_bytes (nums key) (nums info) k) n)
      have HE := hide hek
      have HB := hide hB
      generalize hot : strOfNums (outP (nums key) (nums info) k) = ot at *
      clear hB hek hot
      go_wp2
      go_ret2
      exact ⟨by rw [unhide HE, ← unhide HP]; rfl, unhide HB⟩
end Go.Proofs.YtifjmldmilmfjaaGreatDoor

namespace Go.Proofs.YtifjmldmilmfjaaGreatDoor
open Go.RowKit
theorem acc_zero (a x y : Int) (ha : 0 ≤ a ∧ a < 256) (hx : 0 ≤ x ∧ x < 256) (hy : 0 ≤ y ∧ y < 256) : bits .or .u8 a (bits .xor .u8 x y) = 0 ↔ a = 0 ∧ x = y := by
  obtain ⟨A, rfl⟩ := Int.eq_ofNat_of_zero_le ha.1
  obtain ⟨X, rfl⟩ := Int.eq_ofNat_of_zero_le hx.1
  obtain ⟨Y, rfl⟩ := Int.eq_ofNat_of_zero_le hy.1
  have hb : X ^^^ Y < 256 := Nat.xor_lt_two_pow (n := 8) (by omega) (by omega)
  rw [u8_xor_nat X Y (by omega) (by omega), u8_or_nat A _ (by omega) hb]
  have h1 : A ||| (X ^^^ Y) = 0 ↔ A = 0 ∧ X = Y := by
    rw [Nat.or_eq_zero_iff]
    refine and_congr_right fun _ => ⟨fun h => Nat.eq_of_testBit_eq fun i => ?_, fun h => by rw [h, Nat.xor_self]⟩
    have := congrArg (·.testBit i) h
    simpa using this
  omega
theorem take_eq (l m : List Int) (k : Nat) (hl : k < l.length) (hm : k < m.length) : l.take (k + 1) = m.take (k + 1) ↔ l.take k = m.take k ∧ l.getD k 0 = m.getD k 0 := by
  rw [List.take_succ_eq_append_getElem hl, List.take_succ_eq_append_getElem hm, List.getD_eq_getElem?_getD, List.getD_eq_getElem?_getD, List.getElem?_eq_getElem hl, List.getElem?_eq_getElem hm]
  constructor
  · intro h
    have := List.append_inj h (by simp; omega)
    simpa using this
  · rintro ⟨h1, h2⟩
    simp at h2
    rw [h1, h2]
theorem nums_inj {s t : ByteArray} (h : nums s = nums t) : s = t := by
  rw [← strOfNums_nums s, ← strOfNums_nums t, h]
set_option maxRecDepth 100000 in
set_option maxHeartbeats 400000 in
theorem same_any (s t : ByteArray) (hs : s.size ≤ 140737488355328) (w : World) :
    Calls Tryz.prog 46 #[.string s, .string t] w fun e w' => e = .returned (.bool (decide (s = t))) ∧ Below w.heap.size w w' := by
  by_cases hsz : s.size = t.size
  · have hsz2 : ((s.size : Int) != (t.size : Int)) = false := by simp [hsz]
    go_enter Tryz.func46, Tryz.ntmps46
    go_wp2
    go_loopw [5, 14] (fun v i wr => ∃ (k : Nat) (a : Int), k ≤ s.size ∧ i = .int .i64 (k : Int) ∧ v = .int .u8 a ∧ 0 ≤ a ∧ a < 256 ∧ (a = 0 ↔ (nums s).take k = (nums t).take k) ∧ Below w.heap.size w wr) (fun _ i _ => s.size - (intOf i).toNat)
    case atStart => exact ⟨0, 0, by omega, rfl, rfl, by omega, by omega, by simp, Below.refl _ _⟩
    case round =>
      obtain ⟨k, a, hk, rfl, rfl, ha0, ha1, hiff, hb⟩ := hrel
      have HB := hide hb
      clear hb
      by_cases hlt : k < s.size
      · have i1 := index_str s k hlt
        have i2 := index_str t k (by omega)
        have b1 := nums_bytes s k
        have b2 := nums_bytes t k
        have HIF := hide (take_eq (nums s) (nums t) k (by rw [nums_len]; omega) (by rw [nums_len]; omega))
        generalize (nums s).getD k 0 = x at *
        generalize (nums t).getD k 0 = y at *
        have HAC := hide (acc_zero a x y ⟨ha0, ha1⟩ b1 b2)
        have HU := hide (bits_u8 .or a (bits .xor .u8 x y))
        have HII := hide hiff
        clear hiff
        go_wp2
        go_quiet (fail)
        go_wp2
        go_roundw
        case rel => exact ⟨k + 1, _, by omega, by go_num, rfl, (unhide HU).1, (unhide HU).2, by rw [unhide HAC, unhide HIF, unhide HII], below_drewN (unhide HB) _⟩
        case measure => simp [intOf]; omega
      · have ek : k = s.size := by omega
        have hst : a = 0 ↔ s = t := by
          rw [hiff, ek, List.take_of_length_le (by rw [nums_len]; omega), List.take_of_length_le (by rw [nums_len]; omega)]
          exact ⟨nums_inj, fun h => by rw [h]⟩
        have HST := hide hst
        clear hst hiff ek
        go_wp2
        go_ret
        refine ⟨?_, unhide HB⟩
        have := unhide HST
        by_cases h : s = t <;> simp [h] at this ⊢ <;> exact this
  · have hsz2 : ((s.size : Int) != (t.size : Int)) = true := by simp; omega
    have hne : ¬ s = t := fun h => hsz (by rw [h])
    go_enter Tryz.func46, Tryz.ntmps46
    go_wp2
    go_ret
    exact ⟨by simp [hne], Below.refl _ _⟩
end Go.Proofs.YtifjmldmilmfjaaGreatDoor

namespace Go.Proofs.YtifjmldmilmfjaaGreatDoor
open Go.RowKit
/-- A number by so many bytes, the highest first. -/
def numB (v : Int) (size : Nat) : List Int := (List.range size).map (fun i => v / 2 ^ (8 * (size - 1 - i)) % 256)
theorem numB_len (v : Int) (size : Nat) : (numB v size).length = size := by simp [numB]
theorem numB_bytes (v : Int) (size : Nat) : Bytes (numB v size) := by
  intro j
  by_cases h : j < size
  · have : (numB v size).getD j 0 = v / 2 ^ (8 * (size - 1 - j)) % 256 := by simp [numB, h]
    rw [this]
    omega
  · have : (numB v size).getD j 0 = 0 := by simp [numB, h]
    rw [this]
    omega
theorem numB_drop (v : Int) (size m : Nat) (h : m < size) : (numB v size).drop m = (v / 2 ^ (8 * (size - 1 - m)) % 256) :: (numB v size).drop (m + 1) := by
  have hl : m < (numB v size).length := by rw [numB_len]; exact h
  rw [List.drop_eq_getElem_cons hl]
  congr 1
  simp [numB]
theorem num_step (v : Int) (size m k : Nat) (hm : m + 1 + k = size) (x : Int) (hx : x = v / 2 ^ (8 * k) % 256) : (List.replicate (m + 1) (0 : Int) ++ (numB v size).drop (m + 1)).set m x = List.replicate m 0 ++ (numB v size).drop m := by
  rw [numB_drop v size m (by omega), hx, show size - 1 - m = k by omega, List.set_append, if_pos (by simp), List.replicate_succ', List.set_append, if_neg (by simp)]
  simp
theorem shr_step (v : Int) (k : Nat) : v / 2 ^ (8 * k) / 256 = v / 2 ^ (8 * (k + 1)) := by
  rw [Int.ediv_ediv_of_nonneg (by exact Int.pow_nonneg (by omega)), show 8 * (k + 1) = 8 * k + 8 by omega, Int.pow_add]
  rfl
set_option maxRecDepth 100000 in
set_option maxHeartbeats 400000 in
theorem snum_any (v : Int) (size : Nat) (h0 : 0 ≤ v) (_h1 : v ≤ 9223372036854775807) (hs : size ≤ 8) (w : World) :
    Calls Tryz.prog 121 #[.int .i64 v, .int .i64 (size : Int)] w fun e w' => e = .returned (.string (strOfNums (numB v size))) ∧ Below w.heap.size w w' := by
  have hmk := fun W => run_make_u8 size size (by omega) (by omega) W
  go_enter Tryz.func121, Tryz.ntmps121
  go_wp2
  clear hmk
  go_loopw [0, 6] (fun u i wr => ∃ (k m : Nat), m + k = size ∧ u = .int .i64 (v / 2 ^ (8 * k)) ∧ i = .int .i64 ((m : Int) - 1) ∧ KeyInv w (List.replicate m 0 ++ (numB v size).drop m) wr) (fun _ i _ => ((intOf i) + 1).toNat)
  case atStart =>
    have h : KeyInv w (List.replicate size 0) (w.alloc (Obj.cells (Array.replicate size (Value.int .u8 0)) 5)) := ⟨arr_new w .u8 (List.replicate size 0) 5 _ (by simp), (Below.refl _ _).alloc (Nat.le_refl _) _, by simp⟩
    refine ⟨0, size, by omega, by simp, by go_num, ?_⟩
    rw [List.drop_of_length_le (by rw [numB_len]; exact Nat.le_refl _), List.append_nil]
    exact h
  case round =>
    obtain ⟨k, m, hmk, rfl, rfl, hI⟩ := hrel
    cases m with
    | zero =>
      rw [List.replicate_zero, List.nil_append, List.drop_zero] at hI
      have hcv := run_convert_bytes_arg (P := Tryz.prog) wr 86 5 Tryz.underlying86 Tryz.underlying5 w.heap.size 0 size size (numB v size) (numB_len v size) (fun i hi => hI.1.get i (by rw [numB_len]; omega)) 9 Tryz.underlying9
      have HB := hide hI.2.1
      clear hI
      go_wp2
      go_ret
      exact ⟨rfl, unhide HB⟩
    | succ m =>
      have hv0 : 0 ≤ v / 2 ^ (8 * k) := Int.ediv_nonneg h0 (Int.pow_nonneg (by omega))
      have hv1 : v / 2 ^ (8 * k) ≤ v := Int.ediv_le_self _ h0
      have hlen : (List.replicate (m + 1) (0 : Int) ++ (numB v size).drop (m + 1)).length = size := by simp [numB_len]; omega
      have c1 := hI.1.get0 m (by omega)
      have f1 := hI.1.free0 m (by omega)
      have HN := hide (num_step v size m k (by omega) _ rfl)
      have HS := hide (shr_step v k)
      have HI := hide hI
      have hm : m < size := by omega
      generalize (List.replicate (m + 1) (0 : Int) ++ (numB v size).drop (m + 1)).getD m 0 = y at *
      generalize v / 2 ^ (8 * k) = u at *
      have hmi : ((m + 1 : Nat) : Int) - 1 = (m : Int) := by omega
      rw [hmi]
      clear hI hmi
      go_wp2
      go_roundw
      case rel => exact ⟨k + 1, m, by omega, by rw [← unhide HS], by go_num, (unhide HI).put m (by omega) _ (unhide HN)⟩
      case measure => simp [intOf]
set_option maxRecDepth 100000 in
set_option maxHeartbeats 400000 in
theorem rnumber_any (v : Int) (size : Nat) (h0 : 0 ≤ v) (h1 : v ≤ 9223372036854775807) (hs : size ≤ 8) (w : World) :
    Calls Tryz.prog 112 #[.int .i64 v, .int .i64 (size : Int)] w fun e w' => e = .returned (.string (strOfNums (numB v size))) ∧ Below w.heap.size w w' := by
  have hmk := fun W => run_make_u8 size size (by omega) (by omega) W
  go_enter Tryz.func112, Tryz.ntmps112
  go_wp2
  clear hmk
  go_loopw [0, 6] (fun u i wr => ∃ (k m : Nat), m + k = size ∧ u = .int .i64 (v / 2 ^ (8 * k)) ∧ i = .int .i64 ((m : Int) - 1) ∧ KeyInv w (List.replicate m 0 ++ (numB v size).drop m) wr) (fun _ i _ => ((intOf i) + 1).toNat)
  case atStart =>
    have h : KeyInv w (List.replicate size 0) (w.alloc (Obj.cells (Array.replicate size (Value.int .u8 0)) 5)) := ⟨arr_new w .u8 (List.replicate size 0) 5 _ (by simp), (Below.refl _ _).alloc (Nat.le_refl _) _, by simp⟩
    refine ⟨0, size, by omega, by simp, by go_num, ?_⟩
    rw [List.drop_of_length_le (by rw [numB_len]; exact Nat.le_refl _), List.append_nil]
    exact h
  case round =>
    obtain ⟨k, m, hmk, rfl, rfl, hI⟩ := hrel
    cases m with
    | zero =>
      rw [List.replicate_zero, List.nil_append, List.drop_zero] at hI
      have hcv := run_convert_bytes_arg (P := Tryz.prog) wr 86 5 Tryz.underlying86 Tryz.underlying5 w.heap.size 0 size size (numB v size) (numB_len v size) (fun i hi => hI.1.get i (by rw [numB_len]; omega)) 9 Tryz.underlying9
      have HB := hide hI.2.1
      clear hI
      go_wp2
      go_ret
      exact ⟨rfl, unhide HB⟩
    | succ m =>
      have hv0 : 0 ≤ v / 2 ^ (8 * k) := Int.ediv_nonneg h0 (Int.pow_nonneg (by omega))
      have hv1 : v / 2 ^ (8 * k) ≤ v := Int.ediv_le_self _ h0
      have hlen : (List.replicate (m + 1) (0 : Int) ++ (numB v size).drop (m + 1)).length = size := by simp [numB_len]; omega
      have c1 := hI.1.get0 m (by omega)
      have f1 := hI.1.free0 m (by omega)
      have HN := hide (num_step v size m k (by omega) _ rfl)
      have HS := hide (shr_step v k)
      have HI := hide hI
      have hm : m < size := by omega
      generalize (List.replicate (m + 1) (0 : Int) ++ (numB v size).drop (m + 1)).getD m 0 = y at *
      generalize v / 2 ^ (8 * k) = u at *
      have hmi : ((m + 1 : Nat) : Int) - 1 = (m : Int) := by omega
      rw [hmi]
      clear hI hmi
      have e1 : Int.tmod u 256 = u % 256 := Int.tmod_eq_emod_of_nonneg hv0
      have e2 : Int.tdiv u 256 = u / 256 := Int.tdiv_eq_ediv_of_nonneg hv0
      go_wp2
      go_roundw
      case rel => exact ⟨k + 1, m, by omega, by rw [← unhide HS], by go_num, (unhide HI).put m (by omega) _ (unhide HN)⟩
      case measure => simp [intOf]
end Go.Proofs.YtifjmldmilmfjaaGreatDoor

namespace Go.Proofs.YtifjmldmilmfjaaGreatDoor
open Go.RowKit
/-- A stream's piece number i. -/
def pieceP (key : List Int) (i : Nat) : List Int := sha (key ++ numB (i : Int) 8)
theorem pieceP_len (key : List Int) (i : Nat) : (pieceP key i).length = 32 := sha_len _
theorem pieceP_bytes (key : List Int) (i : Nat) : Bytes (pieceP key i) := sha_bytes _
def pieceB (key : ByteArray) (i : Nat) : ByteArray := strOfNums (pieceP (nums key) i)
theorem nums_pieceB (key : ByteArray) (i : Nat) : nums (pieceB key i) = pieceP (nums key) i := nums_strOfNums _ (pieceP_bytes _ _)
theorem pieceB_size (key : ByteArray) (i : Nat) : (pieceB key i).size = 32 := by rw [← nums_len, nums_pieceB, pieceP_len]
/-- A stream's byte number j; a part of a stream. -/
def sbyte (key : List Int) (j : Nat) : Int := (pieceP key (j / 32)).getD (j % 32) 0
def partP (key : List Int) (f n : Nat) : List Int := (List.range n).map (fun j => sbyte key (f + j))
theorem partP_len (key : List Int) (f n : Nat) : (partP key f n).length = n := by simp [partP]
theorem sbyte_byte (key : List Int) (j : Nat) : 0 ≤ sbyte key j ∧ sbyte key j < 256 := pieceP_bytes key (j / 32) (j % 32)
theorem partP_getD (key : List Int) (f n j : Nat) (h : j < n) : (partP key f n).getD j 0 = sbyte key (f + j) := by simp [partP, h]
theorem partP_bytes (key : List Int) (f n : Nat) : Bytes (partP key f n) := by
  intro j
  by_cases h : j < n
  · rw [partP_getD _ _ _ _ h]
    exact sbyte_byte _ _
  · have : (partP key f n).getD j 0 = 0 := by simp [partP, h]
    rw [this]
    omega
theorem partP_snoc (key : List Int) (f n : Nat) : partP key f (n + 1) = partP key f n ++ [sbyte key (f + n)] := by simp [partP, List.range_succ]
/-- Pieces, one behind the other. -/
def pieces (key : List Int) (l : List Nat) : List Int := l.flatMap (pieceP key)
theorem pieces_len (key : List Int) (l : List Nat) : (pieces key l).length = 32 * l.length := by
  induction l with
  | nil => rfl
  | cons x l ih => simp [pieces, pieceP_len] at *; omega
theorem pieces_snoc (key : List Int) (l : List Nat) (x : Nat) : pieces key (l ++ [x]) = pieces key l ++ pieceP key x := by simp [pieces]
theorem pieces_getD (key : List Int) (first : Nat) : ∀ (k j : Nat), j < 32 * k → (pieces key (List.range' first k)).getD j 0 = sbyte key (32 * first + j) := by
  intro k
  induction k generalizing first with
  | zero => intro j h; omega
  | succ k ih =>
    intro j h
    have e : pieces key (List.range' first (k + 1)) = pieceP key first ++ pieces key (List.range' (first + 1) k) := by simp [pieces, List.range'_succ]
    rw [e]
    by_cases hj : j < 32
    · rw [List.getD_eq_getElem?_getD, List.getElem?_append_left (by rw [pieceP_len]; exact hj), ← List.getD_eq_getElem?_getD, sbyte, show (32 * first + j) / 32 = first by omega, show (32 * first + j) % 32 = j by omega]
    · rw [List.getD_eq_getElem?_getD, List.getElem?_append_right (by rw [pieceP_len]; omega), ← List.getD_eq_getElem?_getD, pieceP_len, ih (first + 1) (j - 32) (by omega)]
      congr 1
      omega
/-- Out of a row of pieces: the part. -/
theorem Arr.cutPart {w : World} {b : Nat} {key : List Int} {f n k : Nat} (h : Arr w b 0 .u8 (pieces key (List.range' (f / 32) k))) (hk : f % 32 + n ≤ 32 * k) : Arr w b (f % 32) .u8 (partP key f n) := by
  intro j hj
  rw [partP_len] at hj
  have hl : f % 32 + j < (pieces key (List.range' (f / 32) k)).length := by rw [pieces_len, List.length_range']; omega
  have h1 := h.get (f % 32 + j) hl
  have h2 := h.free (f % 32 + j) hl
  rw [Nat.zero_add] at h1 h2
  rw [pieces_getD _ _ _ _ (by omega), show 32 * (f / 32) + (f % 32 + j) = f + j by omega] at h1
  rw [partP_getD _ _ _ _ hj]
  exact ⟨h1, h2⟩
/-- Texts laid on one another. -/
def laidP (a b : List Int) : List Int := (List.range a.length).map (fun j => bits .xor .u8 (a.getD j 0) (b.getD j 0))
theorem laidP_len (a b : List Int) : (laidP a b).length = a.length := by simp [laidP]
theorem laidP_getD (a b : List Int) (j : Nat) (h : j < a.length) : (laidP a b).getD j 0 = bits .xor .u8 (a.getD j 0) (b.getD j 0) := by simp [laidP, h]
theorem laidP_bytes (a b : List Int) : Bytes (laidP a b) := by
  intro j
  by_cases h : j < a.length
  · rw [laidP_getD _ _ _ h]
    exact bits_u8 .xor _ _
  · have : (laidP a b).getD j 0 = 0 := by simp [laidP, h]
    rw [this]
    omega
end Go.Proofs.YtifjmldmilmfjaaGreatDoor
