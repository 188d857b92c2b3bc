import Derived.Test.YtnkaooafenakdaaGreatDoorMr10
import Derived.Test.YtnkaooafenakdaaGreatDoorMr22
namespace Go.Proofs.YtnkaooafenakdaaGreatDoor
open Go.RowKit
theorem numB_snoc (n x : Int) (k : Nat) (h0 : 0 ≤ x) (h1 : x < 256) : numB (256 * n + x) (k + 1) = numB n k ++ [x] := by
  unfold numB
  rw [List.range_succ, List.map_append]
  congr 1
  · refine List.map_congr_left fun i hi => ?_
    have hik : i < k := List.mem_range.1 hi
    rw [show 8 * (k + 1 - 1 - i) = 8 + 8 * (k - 1 - i) by omega, Int.pow_add, ← Int.ediv_ediv_of_nonneg (by decide)]
    have : (256 * n + x) / 2 ^ 8 = n := by
      have e : (2 : Int) ^ 8 = 256 := by decide
      rw [e]
      omega
    rw [this]
  · simp
    omega
end Go.Proofs.YtnkaooafenakdaaGreatDoor

namespace Go.Proofs.YtnkaooafenakdaaGreatDoor
open Go.RowKit
theorem numB_cons (v : Int) (i : Nat) : numB v (i + 1) = (v / 2 ^ (8 * i) % 256) :: numB v i := by
  apply List.ext_getElem?
  intro j
  cases j with
  | zero => simp [numB]
  | succ j =>
    by_cases h : j < i
    · simp [numB, h]
      rw [show i - (j + 1) = i - 1 - j by omega]
    · simp [numB, h]
theorem strOfNums_app (a b : List Int) : strOfNums (a ++ b) = strOfNums a ++ strOfNums b := by
  simp only [strOfNums, List.map_append]
  apply ByteArray.ext
  simp
theorem strOfNums_size (l : List Int) : (strOfNums l).size = l.length := by simp [strOfNums, ByteArray.size]
/-- One byte as a text. -/
theorem run_one (w : World) (x : Int) (T : TypeId) : (convert 97 9 (.slice (some ⟨w.heap.size, 0, none⟩) 1 1)).run Tryz.prog (w.alloc (Obj.cells #[.int .u8 x] T)) = .ok (.string (strOfNums [x])) (w.alloc (Obj.cells #[.int .u8 x] T)) := by
  have hA := arr_new w .u8 [x] T #[.int .u8 x] rfl
  exact run_convert_bytes_arg (P := Tryz.prog) (w.alloc (Obj.cells #[.int .u8 x] T)) 97 5 Tryz.underlying97 Tryz.underlying5 w.heap.size 0 1 1 [x] rfl (fun i hi => hA.get i (by simpa using hi)) 9 Tryz.underlying9
set_option maxRecDepth 100000 in
set_option maxHeartbeats 1000000 in
theorem rbytes_any (n : Nat) (k : Nat) (hn : n ≤ 9223372036854775807) (hk : k ≤ 8) (w : World) :
    Calls Tryz.prog 163 #[.int .i64 (n : Int), .int .i64 (k : Int)] w fun e w' => e = .returned (.string (strOfNums (numB (n : Int) k))) ∧ Below w.heap.size w w' := by
  have HB := hide (Below.refl w.heap.size w)
  go_enter Tryz.func163, Tryz.ntmps163
  go_wp2
  go_loopw [0, 5, 6] (fun u s i wr => ∃ j m : Nat, j ≤ k ∧ (m : Int) = (n : Int) / 2 ^ (8 * j) ∧ u = .int .i64 (m : Int) ∧ i = .int .i64 (j : Int) ∧ s = .string (strOfNums (numB (n : Int) j)) ∧ Below w.heap.size w wr) (fun _ _ i _ => k - (intOf i).toNat)
  case atStart => exact ⟨0, n, by omega, by simp, rfl, rfl, rfl, unhide HB⟩
  case round =>
    obtain ⟨j, m, hj, hm, rfl, rfl, rfl, hBe⟩ := hrel
    obtain ⟨wo, rfl⟩ : ∃ wo, wo = wr := ⟨_, rfl⟩
    have HBE := hide hBe
    clear hBe HB
    have hml : m ≤ n := by
      have : (n : Int) / 2 ^ (8 * j) ≤ (n : Int) := Int.ediv_le_self _ (by omega)
      omega
    by_cases hjk : j < k
    · have hr : ((m : Int)).tmod 256 = ((m % 256 : Nat) : Int) := rfl
      obtain ⟨R, hR⟩ : ∃ R, m % 256 = R := ⟨_, rfl⟩
      obtain ⟨Q, hQ⟩ : ∃ Q, m / 256 = Q := ⟨_, rfl⟩
      have hq : ((m : Int)).tdiv 256 = (Q : Int) := by rw [← hQ]; rfl
      rw [hR] at hr
      have hR8 : R < 256 := by omega
      have hw8 : IntKind.u8.wrap (R : Int) = (R : Int) := by rw [IntKind.wrap_u8']; omega
      have hcv := run_one wo (R : Int) 5
      have hsz : (strOfNums (numB (n : Int) j)).size = j := by rw [strOfNums_size, numB_len]
      have hs1 : (strOfNums [(R : Int)]).size = 1 := rfl
      have HN := hide (show strOfNums [(R : Int)] ++ strOfNums (numB (n : Int) j) = strOfNums (numB (n : Int) (j + 1)) by
        rw [← strOfNums_app, numB_cons, ← hm, ← hR]
        have : ((m % 256 : Nat) : Int) = (m : Int) % 256 := by omega
        rw [this]
        rfl)
      have HQ := hide (show (Q : Int) = (n : Int) / 2 ^ (8 * (j + 1)) by
        rw [show 8 * (j + 1) = 8 * j + 8 by omega, Int.pow_add, ← Int.ediv_ediv_of_nonneg (by exact Int.pow_nonneg (by omega)), ← hm]
        have : (2 : Int) ^ 8 = 256 := by decide
        rw [this]
        omega)
      have hQl : Q ≤ m := by omega
      clear hR hQ hm
      generalize strOfNums (numB (n : Int) j) = S at *
      generalize strOfNums [(R : Int)] = S1 at *
      have y1 : ¬ 9223372036854775807 < S1.size + S.size := by omega
      have y2 : ¬ 9223372036854775807 < 1 + j := by omega
      go_wp2
      go_roundw
      case rel => exact ⟨j + 1, Q, by omega, unhide HQ, by go_num, by go_num, by rw [unhide HN], (unhide HBE).alloc (by have := (unhide HBE).size; omega) _⟩
      case measure => simp [intOf]; omega
    · have hjk' : j = k := by omega
      subst hjk'
      go_wp2
      go_ret
      exact ⟨rfl, unhide HBE⟩
end Go.Proofs.YtnkaooafenakdaaGreatDoor

namespace Go.Proofs.YtnkaooafenakdaaGreatDoor
open Go.RowKit
theorem be_numBt : ∀ (k : Nat) (n : Int), 0 ≤ n → n / 2 ^ (8 * k) = 0 → beN (numB n k) = n
  | 0, n, h0, h => by
    have : n = 0 := by simpa using h
    subst this
    rfl
  | k + 1, n, h0, h => by
    have e : n = 256 * (n / 256) + n % 256 := by omega
    have hq : n / 256 / 2 ^ (8 * k) = 0 := by
      rw [show 8 * (k + 1) = 8 + 8 * k by omega, Int.pow_add, ← Int.ediv_ediv_of_nonneg (by decide)] at h
      exact h
    conv => lhs; rw [e]
    rw [numB_snoc _ _ _ (by omega) (by omega), beN_snoc, be_numBt k (n / 256) (by omega) hq]
    omega
theorem dg_fwd : ∀ (f i m D : Nat) (rest : List Int), (digN D).length ≤ f → (0 < i → 0 < D) → dgA f i m (digN D ++ rest) = (0, m + D * 128 ^ i, i + (digN D).length)
  | 0, i, m, D, rest, h, _ => by
    by_cases hD : D < 128
    · rw [digN_small D hD] at h; simp at h
    · rw [digN_big D hD] at h; simp at h
  | f + 1, i, m, D, rest, h, hi => by
    by_cases hD : D < 128
    · rw [digN_small D hD]
      show dgA (f + 1) i m ((D : Int) :: rest) = _
      rw [dgA, if_neg (fun q => by have := hi q.2; omega), if_pos (by omega)]
      simp
    · rw [digN_big D hD] at h ⊢
      have ih := dg_fwd f (i + 1) (m + (D % 128) * 128 ^ i) (D / 128) rest (by simp at h; omega) (fun _ => by omega)
      show dgA (f + 1) i m (((D % 128 + 128 : Nat) : Int) :: (digN (D / 128) ++ rest)) = _
      rw [dgA, if_neg (fun q => by omega), if_neg (by omega)]
      have e1 : ((((D % 128 + 128 : Nat) : Int)).toNat - 128) = D % 128 := by omega
      rw [e1, ih]
      have e2 : m + D % 128 * 128 ^ i + D / 128 * 128 ^ (i + 1) = m + D * 128 ^ i := by
        have hD2 : D = D % 128 + 128 * (D / 128) := by omega
        rw [Nat.pow_succ]
        generalize 128 ^ i = P
        generalize D % 128 = R at *
        generalize D / 128 = Q at *
        subst hD2
        rw [Nat.add_mul, Nat.mul_comm P 128, ← Nat.mul_assoc, Nat.mul_comm Q 128, Nat.add_assoc]
      rw [e2]
      simp
      omega
theorem ext_right (a b : ByteArray) : (a ++ b).extract a.size (a ++ b).size = b := by
  apply nums_inj
  rw [nums_tail, nums_app, ← nums_len a, List.drop_left]
theorem ext_left (a b : ByteArray) : (a ++ b).extract 0 a.size = a := by
  apply nums_inj
  rw [nums_extract, nums_app, ← nums_len a, List.take_left, List.drop_zero]
theorem ext_mid (a b c : ByteArray) : (a ++ b ++ c).extract a.size (a ++ b).size = b := by
  apply nums_inj
  rw [nums_extract, nums_app, ← nums_len (a ++ b), List.take_left, nums_app, ← nums_len a, List.drop_left]
/-- What is left behind a call that took n. -/
theorem rd_num (n : Int) (k : Nat) (rest : List Int) (hb : Bytes (numB n k ++ rest)) (h1 : 1 ≤ k) (h8 : k ≤ 8) (hf : fitsP n k) (hn : n ≤ 9223372036854775807) :
    numE (k : Int) (strOfNums (numB n k ++ rest)) = 0 ∧ numV (k : Int) (strOfNums (numB n k ++ rest)) = n ∧ rRest (strOfNums (numB n k ++ rest)) 0 k = strOfNums rest := by
  have ht : (nums (strOfNums (numB n k ++ rest))).take ((k : Int).toNat) = numB n k := by
    rw [nums_strOfNums _ hb, Int.toNat_natCast]
    have := numB_len n k
    rw [List.take_append_of_le_length (by omega), List.take_of_length_le (by omega)]
  have hE : numE (k : Int) (strOfNums (numB n k ++ rest)) = 0 := by
    rw [numE, if_neg (by omega), if_neg (by rw [strOfNums_size, List.length_append, numB_len]; omega), ht, be_numBt k n hf.1 hf.2, if_neg (by omega)]
  refine ⟨hE, by rw [numV, if_pos hE, ht, be_numBt k n hf.1 hf.2], ?_⟩
  rw [rRest, if_pos rfl, strOfNums_app]
  have := ext_right (strOfNums (numB n k)) (strOfNums rest)
  rw [strOfNums_size, numB_len] at this
  exact this
theorem rd_var (D : Nat) (rest : List Int) (hb : Bytes (digN D ++ rest)) (hD : D ≤ 9223372036854775807) :
    varE (strOfNums (digN D ++ rest)) = 0 ∧ varV (strOfNums (digN D ++ rest)) = D ∧ varC (strOfNums (digN D ++ rest)) = (digN D).length ∧ rRest (strOfNums (digN D ++ rest)) 0 (digN D).length = strOfNums rest := by
  have hp : varP (nums (strOfNums (digN D ++ rest))) = (0, D, (digN D).length) := by
    rw [nums_strOfNums _ hb, varP, dg_fwd 9 0 0 D rest (digN_nine D hD).2 (fun q => by omega)]
    simp
  have hE : varE (strOfNums (digN D ++ rest)) = 0 := by rw [varE, hp]
  refine ⟨hE, by rw [varV, if_pos hE, hp], by rw [varC, hp], ?_⟩
  rw [rRest, if_pos rfl, strOfNums_app]
  have := ext_right (strOfNums (digN D)) (strOfNums rest)
  rw [strOfNums_size] at this
  exact this
theorem rd_raw (T : ByteArray) (rest : List Int) : rawE (T.size : Int) (strOfNums (nums T ++ rest)) = 0 ∧ rawV (T.size : Int) (strOfNums (nums T ++ rest)) = T ∧ rRest (strOfNums (nums T ++ rest)) 0 T.size = strOfNums rest := by
  rw [strOfNums_app, strOfNums_nums]
  have hE : rawE (T.size : Int) (T ++ strOfNums rest) = 0 := by rw [rawE, if_neg (by omega), if_neg (by rw [ByteArray.size_append]; omega)]
  refine ⟨hE, ?_, ?_⟩
  · rw [rawV, if_pos hE, Int.toNat_natCast]; exact ext_left _ _
  · rw [rRest, if_pos rfl]; exact ext_right _ _
theorem rd_text (T : ByteArray) (rest : List Int) (hb : Bytes ((digN T.size ++ nums T) ++ rest)) (hT : T.size ≤ 300) :
    textE 300 (strOfNums ((digN T.size ++ nums T) ++ rest)) = 0 ∧ textV 300 (strOfNums ((digN T.size ++ nums T) ++ rest)) = T ∧ rRest (strOfNums ((digN T.size ++ nums T) ++ rest)) 0 (varC (strOfNums ((digN T.size ++ nums T) ++ rest)) + varV (strOfNums ((digN T.size ++ nums T) ++ rest))) = strOfNums rest := by
  rw [List.append_assoc] at hb ⊢
  obtain ⟨h1, h2, h3, h4⟩ := rd_var T.size (nums T ++ rest) hb (by omega)
  have hE : textE 300 (strOfNums (digN T.size ++ (nums T ++ rest))) = 0 := by
    rw [textE, if_neg (by decide), if_neg (fun q => q h1), h2, if_neg (by omega), h3, if_neg (by rw [strOfNums_size, List.length_append, List.length_append, nums_len]; omega)]
  have hr : strOfNums (digN T.size ++ (nums T ++ rest)) = strOfNums (digN T.size) ++ T ++ strOfNums rest := by
    rw [strOfNums_app, strOfNums_app, strOfNums_nums, ByteArray.append_assoc]
  have hsz : (strOfNums (digN T.size) ++ T).size = (digN T.size).length + T.size := by rw [ByteArray.size_append, strOfNums_size]
  refine ⟨hE, ?_, ?_⟩
  · rw [textV, if_pos hE, h3, h2, hr, ← hsz, ← strOfNums_size (digN T.size)]
    exact ext_mid _ _ _
  · rw [h3, h2, hr, rRest, if_pos rfl, ← hsz]
    exact ext_right _ _
end Go.Proofs.YtnkaooafenakdaaGreatDoor

namespace Go.Proofs.YtnkaooafenakdaaGreatDoor
open Go.RowKit
theorem shr_step (v : Int) (k : Nat) : v / 2 ^ (8 * k) / 256 = v / 2 ^ (8 * (k + 1)) := by
  rw [Int.ediv_ediv_of_nonneg (by exact Int.pow_nonneg (by omega)), show 8 * (k + 1) = 8 * k + 8 by omega, Int.pow_add]
  rfl
theorem be_numB_take (v : Int) (k : Nat) (h : fitsP v k) : ∀ j, j ≤ k → beN ((numB v k).take j) = v / 2 ^ (8 * (k - j)) := by
  intro j
  induction j with
  | zero =>
    intro _
    rw [List.take_zero, beN_nil, Nat.sub_zero]
    exact h.2.symm
  | succ j ih =>
    intro hj
    rw [numB_take v k j (by omega), beN_snoc, ih (by omega), show k - j = (k - 1 - j) + 1 by omega, ← shr_step, show k - (j + 1) = k - 1 - j by omega]
    generalize v / 2 ^ (8 * (k - 1 - j)) = q
    omega
theorem be_numB (v : Int) (k : Nat) (h : fitsP v k) : beN (numB v k) = v := by
  have := be_numB_take v k h k (Nat.le_refl _)
  rw [numB_all, Nat.sub_self] at this
  simpa using this
theorem size_tail (s : ByteArray) (a : Nat) : (s.extract a s.size).size = s.size - a := by simp
theorem getD_drop0 (l : List Int) (i : Nat) : beN ((l.drop i).take 1) = l.getD i 0 := by
  by_cases h : i < l.length
  · rw [List.drop_eq_getElem_cons h, List.getD_eq_getElem?_getD, List.getElem?_eq_getElem h]
    exact be_one _ _
  · rw [List.drop_eq_nil_of_le (by omega), List.getD_eq_getElem?_getD, List.getElem?_eq_none (by omega)]
    rfl
set_option maxRecDepth 100000 in
theorem numE_ok (k : Nat) (r : ByteArray) (h1 : 1 ≤ k) (h7 : k ≤ 7) (h : k ≤ r.size) : numE (k : Int) r = 0 := by
  have hb := be_bound (nums r) (nums_bytes r) k
  have hp : (256 : Int) ^ k ≤ 256 ^ 7 := by
    have h1 : (256 : Nat) ^ k ≤ 256 ^ 7 := Nat.pow_le_pow_right (by decide) h7
    exact_mod_cast h1
  have h77 : (256 : Int) ^ 7 = 72057594037927936 := by decide
  rw [numE, if_neg (by omega), if_neg (by omega), Int.toNat_natCast, if_neg (by omega)]
theorem ps1_eq (s : ByteArray) (h : 2 ≤ s.size) : ps1 s = ⟨s.extract 2 s.size, 2, 0⟩ := by
  have hE : rawE 2 s = 0 := by rw [rawE, if_neg (by omega), if_neg (by omega)]
  rw [ps1, stepR, if_pos rfl, hE, rRest, if_pos rfl, rTak, if_pos rfl]
  rfl
theorem ps2_eq (s : ByteArray) (h : 3 ≤ s.size) : pkd s = (nums s).getD 2 0 ∧ ps2 s = ⟨s.extract 3 s.size, 3, 0⟩ := by
  have hE : numE 1 (s.extract 2 s.size) = 0 := numE_ok 1 _ (by omega) (by omega) (by rw [size_tail]; omega)
  refine ⟨?_, ?_⟩
  · rw [pkd, ps1_eq s (by omega), if_pos rfl, numV, if_pos hE, nums_tail]
    exact getD_drop0 _ _
  · rw [ps2, ps1_eq s (by omega), stepR, if_pos rfl, hE, rRest, if_pos rfl, rTak, if_pos rfl, extract_tail]
    rfl
theorem ps3_eq (s : ByteArray) (h : 4 ≤ s.size) : pln s = (nums s).getD 3 0 ∧ ps3 s = ⟨s.extract 4 s.size, 4, 0⟩ := by
  have hE : numE 1 (s.extract 3 s.size) = 0 := numE_ok 1 _ (by omega) (by omega) (by rw [size_tail]; omega)
  refine ⟨?_, ?_⟩
  · rw [pln, (ps2_eq s (by omega)).2, if_pos rfl, numV, if_pos hE, nums_tail]
    exact getD_drop0 _ _
  · rw [ps3, (ps2_eq s (by omega)).2, stepR, if_pos rfl, hE, rRest, if_pos rfl, rTak, if_pos rfl, extract_tail]
    rfl
theorem ps4_eq (s : ByteArray) (h : 8 ≤ s.size) : pnm s = beN (((nums s).drop 4).take 4) ∧ ps4 s = ⟨s.extract 8 s.size, 8, 0⟩ := by
  have hE : numE 4 (s.extract 4 s.size) = 0 := numE_ok 4 _ (by omega) (by omega) (by rw [size_tail]; omega)
  refine ⟨?_, ?_⟩
  · rw [pnm, (ps3_eq s (by omega)).2, if_pos rfl, numV, if_pos hE, nums_tail]
    rfl
  · rw [ps4, (ps3_eq s (by omega)).2, stepR, if_pos rfl, hE, rRest, if_pos rfl, rTak, if_pos rfl, extract_tail]
    rfl
theorem pbd_eq (s : ByteArray) (n : Nat) (h : 8 + n ≤ s.size) (hn : (nums s).getD 3 0 = (n : Int)) : pbd s = s.extract 8 (8 + n) := by
  have hE : rawE (n : Int) (s.extract 8 s.size) = 0 := by rw [rawE, if_neg (by omega), if_neg (by rw [size_tail]; omega)]
  rw [pbd, (ps4_eq s (by omega)).2, if_pos rfl, (ps3_eq s (by omega)).1, hn, rawV, if_pos hE, Int.toNat_natCast, extract_mid]
/-- The letters and numbers at the front of a page. -/
theorem page_front (kind number : Int) (body : List Int) (hk : fitsP kind 1) (hb : body.length ≤ 244) : makeL kind number body = [83, 66, kind, (body.length : Int)] ++ (numB number 4 ++ (body ++ (List.replicate (244 - body.length) 0 ++ le4 (chkN (pageL kind number body))))) := by
  obtain ⟨h1, h2⟩ := (fits1 kind).1 hk
  rw [makeL]
  conv => lhs; arg 1; rw [pageL]
  rw [numB1 kind h1 h2, numB1 (body.length : Int) (by omega) (by omega)]
  simp
theorem page_parts (kind number : Int) (body : ByteArray) (hk : fitsP kind 1) (hn : fitsP number 4) (hb : body.size ≤ 244) (s : ByteArray) (hs : nums s = makeL kind number (nums body)) :
    s.size = 256 ∧ (nums s).getD 2 0 = kind ∧ (nums s).getD 3 0 = (body.size : Int) ∧ beN (((nums s).drop 4).take 4) = number ∧ s.extract 8 (8 + body.size) = body := by
  have hl : (nums body).length ≤ 244 := by rw [nums_len]; exact hb
  have hsz : s.size = 256 := by rw [← nums_len, hs]; exact makeL_len _ _ _ hl
  have hf := page_front kind number (nums body) hk hl
  rw [nums_len] at hf
  refine ⟨hsz, ?_, ?_, ?_, ?_⟩
  · rw [hs, hf]; rfl
  · rw [hs, hf]; rfl
  · rw [hs, hf]
    have e1 : ([83, 66, kind, (body.size : Int)] ++ (numB number 4 ++ (nums body ++ (List.replicate (244 - body.size) 0 ++ le4 (chkN (pageL kind number (nums body))))))).drop 4 = numB number 4 ++ (nums body ++ (List.replicate (244 - body.size) 0 ++ le4 (chkN (pageL kind number (nums body))))) := rfl
    rw [e1, List.take_append_of_le_length (by rw [numB_len]; exact Nat.le_refl _), numB_all, be_numB number 4 hn]
  · apply nums_inj
    rw [nums_extract, List.drop_take, hs, hf]
    have e1 : ([83, 66, kind, (body.size : Int)] ++ (numB number 4 ++ (nums body ++ (List.replicate (244 - body.size) 0 ++ le4 (chkN (pageL kind number (nums body))))))).drop 8 = nums body ++ (List.replicate (244 - body.size) 0 ++ le4 (chkN (pageL kind number (nums body)))) := by
      rw [show (8 : Nat) = 4 + 4 from rfl, ← List.drop_drop]
      have e2 : ([83, 66, kind, (body.size : Int)] ++ (numB number 4 ++ (nums body ++ (List.replicate (244 - body.size) 0 ++ le4 (chkN (pageL kind number (nums body))))))).drop 4 = numB number 4 ++ (nums body ++ (List.replicate (244 - body.size) 0 ++ le4 (chkN (pageL kind number (nums body))))) := rfl
      rw [e2]
      have h4 : (numB number 4).length = 4 := numB_len _ _
      conv => lhs; arg 1; rw [← h4]
      rw [List.drop_left]
    rw [e1, show 8 + body.size - 8 = (nums body).length by rw [nums_len]; omega, List.take_left]
/-- A made page is read as itself. -/
theorem make_parse (kind number : Int) (body : ByteArray) (hE : errM kind number body.size = 0) : prOk (makeB kind number body) ∧ pkd (makeB kind number body) = kind ∧ pnm (makeB kind number body) = number ∧ pbd (makeB kind number body) = body := by
  have hm : makeB kind number body = strOfNums (makeL kind number (nums body)) := by rw [makeB, if_pos hE]
  have hf : fitsP kind 1 ∧ fitsP number 4 ∧ body.size ≤ 244 := by
    unfold errM at hE
    split at hE
    · cases hE
    · rename_i h1
      split at hE
      · cases hE
      · simp at h1
        exact ⟨h1.1, h1.2, by omega⟩
  have hn : nums (makeB kind number body) = makeL kind number (nums body) := by rw [hm]; exact nums_strOfNums _ (makeL_bytes _ _ _ (nums_bytes _))
  obtain ⟨p1, p2, p3, p4, p5⟩ := page_parts kind number body hf.1 hf.2.1 hf.2.2 _ hn
  have k1 : pkd (makeB kind number body) = kind := by rw [(ps2_eq _ (by omega)).1, p2]
  have k2 : pnm (makeB kind number body) = number := by rw [(ps4_eq _ (by omega)).1, p4]
  have k3 : pbd (makeB kind number body) = body := by rw [pbd_eq _ body.size (by omega) p3, p5]
  exact ⟨⟨by rw [k1, k2, k3]; exact hE, by rw [k1, k2, k3]⟩, k1, k2, k3⟩
theorem errM_zero {kind number : Int} {n : Nat} (hE : errM kind number n = 0) : fitsP kind 1 ∧ fitsP number 4 ∧ n ≤ 244 := by
  unfold errM at hE
  split at hE
  · cases hE
  · rename_i h1
    split at hE
    · cases hE
    · simp at h1
      exact ⟨h1.1, h1.2, by omega⟩
theorem prOk_size (s : ByteArray) (h : prOk s) : s.size = 256 ∧ (nums s).getD 3 0 ≤ 244 := by
  obtain ⟨hf1, hf2, hf3⟩ := errM_zero h.1
  have hm : s = strOfNums (makeL (pkd s) (pnm s) (nums (pbd s))) := by
    have := h.2
    rw [makeB, if_pos h.1] at this
    exact this.symm
  have hn : nums s = makeL (pkd s) (pnm s) (nums (pbd s)) := by
    have := congrArg nums hm
    rwa [nums_strOfNums _ (makeL_bytes _ _ _ (nums_bytes _))] at this
  obtain ⟨p1, _, p3, _, _⟩ := page_parts (pkd s) (pnm s) (pbd s) hf1 hf2 hf3 s hn
  exact ⟨p1, by rw [p3]; omega⟩
end Go.Proofs.YtnkaooafenakdaaGreatDoor
