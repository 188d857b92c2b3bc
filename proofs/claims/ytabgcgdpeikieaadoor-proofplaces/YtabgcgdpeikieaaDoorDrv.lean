import Derived.Test.YtabgcgdpeikieaaDoorMac
import Derived.Test.YtabgcgdpeikieaaDoorHex
import Derived.Lib.AppendStr
namespace Go.Proofs.YtabgcgdpeikieaaDoor
open Go.RowKit
/-- The i-th 32 bytes. -/
def tP (key info : List Int) : Nat → List Int
  | 0 => []
  | i + 1 => macP key (tP key info i ++ info ++ [((i : Int) + 1) % 256])
/-- The first k of them, one behind the other. -/
def outP (key info : List Int) : Nat → List Int
  | 0 => []
  | k + 1 => outP key info k ++ tP key info (k + 1)
theorem outP_len (key info : List Int) : ∀ k, (outP key info k).length = 32 * k
  | 0 => rfl
  | k + 1 => by rw [outP, List.length_append, outP_len key info k, tP, mac_len]; omega
theorem tP_bytes (key info : List Int) : ∀ i, Bytes (tP key info i)
  | 0 => by intro j; simp [tP]
  | _ + 1 => mac_bytes _ _
theorem tP_len_le (key info : List Int) : ∀ i, (tP key info i).length ≤ 32
  | 0 => by simp [tP]
  | _ + 1 => by rw [tP, mac_len]; omega
theorem nums_append (a b : ByteArray) : nums (a ++ b) = nums a ++ nums b := by simp [nums, ByteArray.data_append]
theorem run_append_str (w : World) (b sLen sCap : Nat) (s : ByteArray) (hroom : sLen + s.size ≤ sCap) (ht : w.there b sLen s.size) (ty : TypeId) :
    (Builtin.append_ #[47, 9] ty #[.slice (some ⟨b, 0, none⟩) sLen sCap, .string s]).run Tryd.prog w = .ok (.slice (some ⟨b, 0, none⟩) (sLen + s.size) sCap) (w.setCells b sLen ((nums s).map (Value.int .u8))) := by
  obtain ⟨i0, hi, hz0, hz1, hz2⟩ := info_parts info5
  have hf := Lib.run_firstCells_string (P := Tryd.prog) w 1 s
  have hsc : Lib.strCells s = (nums s).map (Value.int .u8) := by simp [Lib.strCells, nums, Function.comp_def]
  have hl : ((nums s).map (Value.int .u8)).length = s.size := by rw [List.length_map, nums_len]
  have hst := run_storeCells_cells (P := Tryd.prog) b sLen ((nums s).map (Value.int .u8)) 0 w (by rw [hl]; intro j hj; simpa using (ht j hj).1) (by rw [hl]; intro j hj; simpa using (ht j hj).2) (by
    intro v hv
    obtain ⟨x, _, rfl⟩ := List.mem_map.1 hv
    rfl)
  simp only [Nat.add_zero] at hst
  rw [hsc] at hf
  have ha : (⟨b, 0, none⟩ : Addr).add sLen = ⟨b, sLen, none⟩ := by rw [Addr.add_mid, Nat.zero_add]
  simp [Builtin.append_, run_underlying Tryd.underlying47, run_underlying Tryd.underlying9, sizeOf, typeInfo, hi, hz1, Builtin.lenOf, hroom, hf, ha, hst]
theorem wpList_append_str {ops : Array Oper} {rest : List Oper} {op : Oper} {a : Act} {w : World} {Q : Exit → Act → World → Prop} (hgd : op.guard = none) (d x : Operand) (hop : op.op = Op.call { callee := Callee.builtin Builtin.append, args := #[d, x], argTypes := #[47, 9] })
    (b sLen sCap : Nat) (t : ByteArray) (hd : a.eval d = .slice (some ⟨b, 0, none⟩) sLen sCap) (hx : a.eval x = .string t) (hroom : sLen + t.size ≤ sCap) (ht : w.there b sLen t.size)
    (h : ∀ w', w' = w.setCells b sLen ((nums t).map (Value.int .u8)) → wpList Tryd.prog ops Q rest (a.put op.dst (.slice (some ⟨b, 0, none⟩) (sLen + t.size) sCap)) w') : wpList Tryd.prog ops Q (op :: rest) a w := by
  refine wpList_plain hgd fun K hK => ?_
  have hrun := run_append_str w b sLen sCap t hroom ht op.type
  unfold Oper.wp
  simp only [execOp, hop]
  simp [resolve, invoke, builtin, hd, hx, hrun, Result.andThen]
  exact hK _ _ (h _ rfl)
theorem KeyInv.alloc_below {w : World} {l : List Int} {wr w1 : World} (h : KeyInv w l wr) (o : Obj) (hb : Below (wr.alloc o).heap.size (wr.alloc o) w1) : KeyInv w l w1 := by
  have hs := hb.size
  have h2 := h.2.2
  rw [World.size_alloc] at hs
  exact ⟨(h.1.alloc h2 o).below hb (by rw [World.size_alloc]; omega), (h.2.1.alloc (by omega) o).trans (hb.mono (by rw [World.size_alloc]; omega)), by omega⟩
theorem drv_put {w w1 W2 : World} {A T : List Int} {mt : ByteArray} {k n : Nat} (h : KeyInv w (A ++ List.replicate (n + 32 - 32 * k) 0) w1) (hA : A.length = 32 * k) (hmt : nums mt = T) (hms : mt.size = 32) (hr : 32 * k < n)
    (hW : W2 = w1.setCells w.heap.size (32 * k) ((nums mt).map (Value.int .u8))) {A' : List Int} (hA' : A' = A ++ T) : KeyInv w (A' ++ List.replicate (n + 32 - 32 * (k + 1)) 0) W2 := by
  subst hW hA' hmt
  refine ⟨?_, below_setCells (Nat.le_refl _) _ _ h.2.1, by rw [size_setCells]; exact h.2.2⟩
  have hl : (nums mt).length = 32 := by rw [nums_len, hms]
  have hm := h.1.mid (32 * k) (nums mt) (by rw [List.length_append, hA, List.length_replicate, hl]; omega)
  have e : (A ++ List.replicate (n + 32 - 32 * k) (0 : Int)).take (32 * k) ++ nums mt ++ (A ++ List.replicate (n + 32 - 32 * k) (0 : Int)).drop (32 * k + (nums mt).length) = A ++ nums mt ++ List.replicate (n + 32 - 32 * (k + 1)) 0 := by
    rw [List.take_append_of_le_length (by omega), List.take_of_length_le (by omega), hl, List.drop_append, List.drop_of_length_le (by omega), List.nil_append, List.drop_replicate, hA]
    congr 2
    omega
  rw [e, Nat.zero_add] at hm
  exact hm
set_option maxHeartbeats 400000 in
theorem derive_neg (key info : ByteArray) (n : Int) (h : n < 0) (w : World) :
    Calls Tryd.prog 50 #[.string key, .string info, .int .i64 n] w fun e w' => e = .returned (.tuple #[.string ⟨#[]⟩, .int .i64 1]) ∧ w' = w := by
  go_enter Tryd.func50, Tryd.ntmps50
  go_wp2
  go_ret2
  exact ⟨rfl, rfl⟩
set_option maxHeartbeats 400000 in
theorem derive_long (key info : ByteArray) (n : Int) (h : 8160 < n) (w : World) :
    Calls Tryd.prog 50 #[.string key, .string info, .int .i64 n] w fun e w' => e = .returned (.tuple #[.string ⟨#[]⟩, .int .i64 10]) ∧ w' = w := by
  go_enter Tryd.func50, Tryd.ntmps50
  go_wp2
  go_ret2
  exact ⟨rfl, rfl⟩
set_option maxRecDepth 100000 in
set_option maxHeartbeats 400000 in
theorem derive_any (key info : ByteArray) (n : Nat) (hn : n ≤ 8160) (hk : key.size < 2305843009213693952) (hi : info.size + 200 < 2305843009213693952) (w : World) (hK : KTab w) :
    Calls Tryd.prog 50 #[.string key, .string info, .int .i64 (n : Int)] w fun e w' => e = .returned (.tuple #[.string (strOfNums ((outP (nums key) (nums info) ((n + 31) / 32)).take n)), .int .i64 0]) ∧ Below w.heap.size w w' := by
  have HK := hide hK
  clear hK
  have hmk := fun W => run_make_u8 0 (n + 32) (by omega) (by omega) W
  simp only [Int.natCast_add, Int.cast_ofNat_Int] at hmk
  go_enter Tryd.func50, Tryd.ntmps50
  go_wp2
  clear hmk
  go_loopw [8, 9, 10] (fun v l i wr => ∃ k : Nat, 32 * k < n + 32 ∧ i = .int .i64 ((k : Int) + 1) ∧ v = .slice (some ⟨w.heap.size, 0, none⟩) (32 * k) (n + 32) ∧ l = .string (strOfNums (tP (nums key) (nums info) k)) ∧ KeyInv w (outP (nums key) (nums info) k ++ List.replicate (n + 32 - 32 * k) 0) wr) (fun _ _ i _ => n + 32 - 32 * (intOf i).toNat)
  case atStart => exact ⟨0, by omega, rfl, rfl, rfl, by
    have h : KeyInv w (List.replicate (n + 32) 0) (w.alloc (Obj.cells (Array.replicate (n + 32) (Value.int .u8 0)) 5)) := ⟨arr_new w .u8 (List.replicate (n + 32) 0) 5 _ (by simp), (Below.refl _ _).alloc (Nat.le_refl _) _, by simp⟩
    simpa [outP] using h⟩
  case round =>
    obtain ⟨k, hk2, rfl, rfl, rfl, hI⟩ := hrel
    by_cases hlt : 32 * k < n
    · have hcv := fun W : World => run_convert_bytes_arg (P := Tryd.prog) (W.alloc (Obj.cells #[.int .u8 ((k : Int) + 1)] 5)) 47 5 Tryd.underlying47 Tryd.underlying5 W.heap.size 0 1 1 [(k : Int) + 1] rfl (fun i hi => by
        have : i = 0 := by omega
        subst this
        simp) 9 Tryd.underlying9
      have htl := tP_len_le (nums key) (nums info) k
      have hts : (strOfNums (tP (nums key) (nums info) k)).size ≤ 32 := by rw [strOfNums_size]; exact htl
      have hns := nums_strOfNums _ (tP_bytes (nums key) (nums info) k)
      obtain ⟨lt, hlt2⟩ : ∃ lt, lt = strOfNums (tP (nums key) (nums info) k) := ⟨_, rfl⟩
      rw [← hlt2] at hts hns
      rw [← hlt2]
      have HNS := hide hns
      have HI := hide hI
      have hs1 : (lt ++ info).size = lt.size + info.size := ByteArray.size_append
      have hs2 : (strOfNums [(k : Int) + 1]).size = 1 := by rw [strOfNums_size]; rfl
      have hnb : nums (strOfNums [(k : Int) + 1]) = [((k : Int) + 1) % 256] := by
        rw [nums_strOfNums _ (bytes_one _ (by omega) (by omega)), Int.emod_eq_of_lt (by omega) (by omega)]
      obtain ⟨bt, hbt⟩ : ∃ bt, bt = strOfNums [(k : Int) + 1] := ⟨_, rfl⟩
      rw [← hbt] at hs2 hnb
      simp only [← hbt] at hcv
      have hs3 : (lt ++ info).size + bt.size ≤ 9223372036854775807 := by omega
      have hs4 : lt.size + info.size ≤ 9223372036854775807 := by omega
      have hall : nums (lt ++ info ++ bt) = tP (nums key) (nums info) k ++ nums info ++ [((k : Int) + 1) % 256] := by rw [nums_append, nums_append, unhide HNS, hnb]
      have hsall : (lt ++ info ++ bt).size + 64 < 2305843009213693952 := by rw [ByteArray.size_append]; omega
      have HMA := hide (fun W (hW : KTab W) => mac_any key (lt ++ info ++ bt) hk hsall W hW)
      rw [hall] at HMA
      have hkw := hide ((unhide HK).below ((unhide HI).2.1.alloc (Nat.le_of_lt (unhide HI).2.2) (Obj.cells #[.int .u8 ((k : Int) + 1)] 5)) (unhide HK).1)
      have HS1 := hide hs1
      clear hlt2 hns hI htl hnb hbt hall hsall
      go_wp2_with fail
      refine (unhide HMA _ (unhide hkw)).mono ?_
      rintro e w1 ⟨rfl, hb1⟩
      change Below (wr.alloc (Obj.cells #[.int .u8 ((k : Int) + 1)] 5)).heap.size _ w1 at hb1
      have hI1 : KeyInv w (outP (nums key) (nums info) k ++ List.replicate (n + 32 - 32 * k) 0) w1 := (unhide HI).alloc_below _ hb1
      have htn : tP (nums key) (nums info) (k + 1) = macP (nums key) (tP (nums key) (nums info) k ++ nums info ++ [((k : Int) + 1) % 256]) := rfl
      rw [← htn]
      have hmt : nums (strOfNums (tP (nums key) (nums info) (k + 1))) = tP (nums key) (nums info) (k + 1) := nums_strOfNums _ (tP_bytes _ _ _)
      have hms : (strOfNums (tP (nums key) (nums info) (k + 1))).size = 32 := by rw [strOfNums_size, tP, mac_len]
      obtain ⟨mt, hmt2⟩ : ∃ mt, mt = strOfNums (tP (nums key) (nums info) (k + 1)) := ⟨_, rfl⟩
      rw [← hmt2] at hmt hms
      rw [← hmt2]
      have hol := outP_len (nums key) (nums info) k
      have hroom : 32 * k + mt.size ≤ n + 32 := by omega
      have HTH : Hid (w1.there w.heap.size (32 * k) mt.size) := by
        intro j hj
        have := hI1.1.there (32 * k + j) (by rw [List.length_append, hol, List.length_replicate]; omega)
        rw [Nat.zero_add] at this
        exact this
      have HI1 := hide hI1
      have HMT := hide hmt
      have HMT2 := hide hmt2
      have HOL := hide hol
      have HMS := hide hms
      clear hb1 hI1 htn hmt hmt2 hol HMA hkw HI hcv hs1 hs2 hs3 hs4 HS1 HNS
      go_wp2_with (refine wpList_append_str rfl (.tmp 34) (.tmp 35) rfl w.heap.size (32 * k) (n + 32) mt rfl rfl hroom (unhide HTH) ?_; intro W2 hW2; have HW2 := hide hW2; clear hW2)
      go_roundw
      case rel => exact ⟨k + 1, by omega, congrArg (Value.int .i64) (by omega), rfl, by rw [unhide HMT2], drv_put (unhide HI1) (unhide HOL) (unhide HMT) (unhide HMS) (by omega) (unhide HW2) rfl⟩
      case measure => simp [intOf]; omega
    · have hlen := outP_len (nums key) (nums info) k
      have hek : (n + 31) / 32 = k := by omega
      have hI2 : KeyInv w (outP (nums key) (nums info) k ++ List.replicate (n + 32 - 32 * k) 0) wr := hI
      have hcv := run_convert_bytes_arg (P := Tryd.prog) wr 47 5 Tryd.underlying47 Tryd.underlying5 w.heap.size 0 n (n + 32) ((outP (nums key) (nums info) k).take n) (by rw [List.length_take]; omega) (fun i hi => by
        have := hI2.1.get i (by rw [List.length_append]; omega)
        rw [this]
        simp [List.getElem?_append, hi, show i < (outP (nums key) (nums info) k).length by omega]) 9 Tryd.underlying9
      have HE := hide hek
      have HB := hide hI.2.1
      clear hI hI2 hlen hek
      go_wp2
      go_ret2
      exact ⟨by rw [unhide HE]; rfl, unhide HB⟩
end Go.Proofs.YtabgcgdpeikieaaDoor
