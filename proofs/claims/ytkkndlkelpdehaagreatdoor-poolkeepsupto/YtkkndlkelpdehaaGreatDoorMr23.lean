import Derived.Test.YtkkndlkelpdehaaGreatDoorMr07
import Derived.Test.YtkkndlkelpdehaaGreatDoorMr16
import Derived.Test.YtkkndlkelpdehaaGreatDoorMr20
import Derived.Test.YtkkndlkelpdehaaGreatDoorMr22
namespace Go.Proofs.YtkkndlkelpdehaaGreatDoor
open Go.RowKit
theorem numB_snoc (n x : Int) (k : Nat) (h0 : 0 ≤ x) (h1 : x < 256) : numB (256 * n + x) (k + 1) = numB n k ++ [x] := by
  unfold numB
  rw [List.range_succ, List.map_append]
  congr 1
  · refine List.map_congr_left fun i hi => ?_
    have hik : i < k := List.mem_range.1 hi
    rw [show 8 * (k + 1 - 1 - i) = 8 + 8 * (k - 1 - i) by omega, Int.pow_add, ← Int.ediv_ediv_of_nonneg (by decide)]
    have : (256 * n + x) / 2 ^ 8 = n := by
      have e : (2 : Int) ^ 8 = 256 := by decide
      rw [e]
      omega
    rw [this]
  · simp
    omega
end Go.Proofs.YtkkndlkelpdehaaGreatDoor

namespace Go.Proofs.YtkkndlkelpdehaaGreatDoor
open Go.RowKit
theorem numB_cons (v : Int) (i : Nat) : numB v (i + 1) = (v / 2 ^ (8 * i) % 256) :: numB v i := by
  apply List.ext_getElem?
  intro j
  cases j with
  | zero => simp [numB]
  | succ j =>
    by_cases h : j < i
    · simp [numB, h]
      rw [show i - (j + 1) = i - 1 - j by omega]
    · simp [numB, h]
theorem strOfNums_app (a b : List Int) : strOfNums (a ++ b) = strOfNums a ++ strOfNums b := by
  simp only [strOfNums, List.map_append]
  apply ByteArray.ext
  simp
theorem strOfNums_size (l : List Int) : (strOfNums l).size = l.length := by simp [strOfNums, ByteArray.size]
/-- One byte as a text. -/
theorem run_one (w : World) (x : Int) (T : TypeId) : (convert 59 9 (.slice (some ⟨w.heap.size, 0, none⟩) 1 1)).run Tryz.prog (w.alloc (Obj.cells #[.int .u8 x] T)) = .ok (.string (strOfNums [x])) (w.alloc (Obj.cells #[.int .u8 x] T)) := by
  have hA := arr_new w .u8 [x] T #[.int .u8 x] rfl
  exact run_convert_bytes_arg (P := Tryz.prog) (w.alloc (Obj.cells #[.int .u8 x] T)) 59 5 Tryz.underlying59 Tryz.underlying5 w.heap.size 0 1 1 [x] rfl (fun i hi => hA.get i (by simpa using hi)) 9 Tryz.underlying9
end Go.Proofs.YtkkndlkelpdehaaGreatDoor

namespace Go.Proofs.YtkkndlkelpdehaaGreatDoor
open Go.RowKit
theorem be_numBt : ∀ (k : Nat) (n : Int), 0 ≤ n → n / 2 ^ (8 * k) = 0 → beN (numB n k) = n
  | 0, n, h0, h => by
    have : n = 0 := by simpa using h
    subst this
    rfl
  | k + 1, n, h0, h => by
    have e : n = 256 * (n / 256) + n % 256 := by omega
    have hq : n / 256 / 2 ^ (8 * k) = 0 := by
      rw [show 8 * (k + 1) = 8 + 8 * k by omega, Int.pow_add, ← Int.ediv_ediv_of_nonneg (by decide)] at h
      exact h
    conv => lhs; rw [e]
    rw [numB_snoc _ _ _ (by omega) (by omega), beN_snoc, be_numBt k (n / 256) (by omega) hq]
    omega
theorem dg_fwd : ∀ (f i m D : Nat) (rest : List Int), (digN D).length ≤ f → (0 < i → 0 < D) → dgA f i m (digN D ++ rest) = (0, m + D * 128 ^ i, i + (digN D).length)
  | 0, i, m, D, rest, h, _ => by
    by_cases hD : D < 128
    · rw [digN_small D hD] at h; simp at h
    · rw [digN_big D hD] at h; simp at h
  | f + 1, i, m, D, rest, h, hi => by
    by_cases hD : D < 128
    · rw [digN_small D hD]
      show dgA (f + 1) i m ((D : Int) :: rest) = _
      rw [dgA, if_neg (fun q => by have := hi q.2; omega), if_pos (by omega)]
      simp
    · rw [digN_big D hD] at h ⊢
      have ih := dg_fwd f (i + 1) (m + (D % 128) * 128 ^ i) (D / 128) rest (by simp at h; omega) (fun _ => by omega)
      show dgA (f + 1) i m (((D % 128 + 128 : Nat) : Int) :: (digN (D / 128) ++ rest)) = _
      rw [dgA, if_neg (fun q => by omega), if_neg (by omega)]
      have e1 : ((((D % 128 + 128 : Nat) : Int)).toNat - 128) = D % 128 := by omega
      rw [e1, ih]
      have e2 : m + D % 128 * 128 ^ i + D / 128 * 128 ^ (i + 1) = m + D * 128 ^ i := by
        have hD2 : D = D % 128 + 128 * (D / 128) := by omega
        rw [Nat.pow_succ]
        generalize 128 ^ i = P
        generalize D % 128 = R at *
        generalize D / 128 = Q at *
        subst hD2
        rw [Nat.add_mul, Nat.mul_comm P 128, ← Nat.mul_assoc, Nat.mul_comm Q 128, Nat.add_assoc]
      rw [e2]
      simp
      omega
theorem ext_right (a b : ByteArray) : (a ++ b).extract a.size (a ++ b).size = b := by
  apply nums_inj
  rw [nums_tail, nums_app, ← nums_len a, List.drop_left]
theorem ext_left (a b : ByteArray) : (a ++ b).extract 0 a.size = a := by
  apply nums_inj
  rw [nums_extract, nums_app, ← nums_len a, List.take_left, List.drop_zero]
theorem ext_mid (a b c : ByteArray) : (a ++ b ++ c).extract a.size (a ++ b).size = b := by
  apply nums_inj
  rw [nums_extract, nums_app, ← nums_len (a ++ b), List.take_left, nums_app, ← nums_len a, List.drop_left]
/-- What is left behind a call that took n. -/
theorem rd_num (n : Int) (k : Nat) (rest : List Int) (hb : Bytes (numB n k ++ rest)) (h1 : 1 ≤ k) (h8 : k ≤ 8) (hf : fitsP n k) (hn : n ≤ 9223372036854775807) :
    numE (k : Int) (strOfNums (numB n k ++ rest)) = 0 ∧ numV (k : Int) (strOfNums (numB n k ++ rest)) = n ∧ rRest (strOfNums (numB n k ++ rest)) 0 k = strOfNums rest := by
  have ht : (nums (strOfNums (numB n k ++ rest))).take ((k : Int).toNat) = numB n k := by
    rw [nums_strOfNums _ hb, Int.toNat_natCast]
    have := numB_len n k
    rw [List.take_append_of_le_length (by omega), List.take_of_length_le (by omega)]
  have hE : numE (k : Int) (strOfNums (numB n k ++ rest)) = 0 := by
    rw [numE, if_neg (by omega), if_neg (by rw [strOfNums_size, List.length_append, numB_len]; omega), ht, be_numBt k n hf.1 hf.2, if_neg (by omega)]
  refine ⟨hE, by rw [numV, if_pos hE, ht, be_numBt k n hf.1 hf.2], ?_⟩
  rw [rRest, if_pos rfl, strOfNums_app]
  have := ext_right (strOfNums (numB n k)) (strOfNums rest)
  rw [strOfNums_size, numB_len] at this
  exact this
theorem rd_var (D : Nat) (rest : List Int) (hb : Bytes (digN D ++ rest)) (hD : D ≤ 9223372036854775807) :
    varE (strOfNums (digN D ++ rest)) = 0 ∧ varV (strOfNums (digN D ++ rest)) = D ∧ varC (strOfNums (digN D ++ rest)) = (digN D).length ∧ rRest (strOfNums (digN D ++ rest)) 0 (digN D).length = strOfNums rest := by
  have hp : varP (nums (strOfNums (digN D ++ rest))) = (0, D, (digN D).length) := by
    rw [nums_strOfNums _ hb, varP, dg_fwd 9 0 0 D rest (digN_nine D hD).2 (fun q => by omega)]
    simp
  have hE : varE (strOfNums (digN D ++ rest)) = 0 := by rw [varE, hp]
  refine ⟨hE, by rw [varV, if_pos hE, hp], by rw [varC, hp], ?_⟩
  rw [rRest, if_pos rfl, strOfNums_app]
  have := ext_right (strOfNums (digN D)) (strOfNums rest)
  rw [strOfNums_size] at this
  exact this
theorem rd_raw (T : ByteArray) (rest : List Int) : rawE (T.size : Int) (strOfNums (nums T ++ rest)) = 0 ∧ rawV (T.size : Int) (strOfNums (nums T ++ rest)) = T ∧ rRest (strOfNums (nums T ++ rest)) 0 T.size = strOfNums rest := by
  rw [strOfNums_app, strOfNums_nums]
  have hE : rawE (T.size : Int) (T ++ strOfNums rest) = 0 := by rw [rawE, if_neg (by omega), if_neg (by rw [ByteArray.size_append]; omega)]
  refine ⟨hE, ?_, ?_⟩
  · rw [rawV, if_pos hE, Int.toNat_natCast]; exact ext_left _ _
  · rw [rRest, if_pos rfl]; exact ext_right _ _
theorem rd_text (T : ByteArray) (rest : List Int) (hb : Bytes ((digN T.size ++ nums T) ++ rest)) (hT : T.size ≤ 300) :
    textE 300 (strOfNums ((digN T.size ++ nums T) ++ rest)) = 0 ∧ textV 300 (strOfNums ((digN T.size ++ nums T) ++ rest)) = T ∧ rRest (strOfNums ((digN T.size ++ nums T) ++ rest)) 0 (varC (strOfNums ((digN T.size ++ nums T) ++ rest)) + varV (strOfNums ((digN T.size ++ nums T) ++ rest))) = strOfNums rest := by
  rw [List.append_assoc] at hb ⊢
  obtain ⟨h1, h2, h3, h4⟩ := rd_var T.size (nums T ++ rest) hb (by omega)
  have hE : textE 300 (strOfNums (digN T.size ++ (nums T ++ rest))) = 0 := by
    rw [textE, if_neg (by decide), if_neg (fun q => q h1), h2, if_neg (by omega), h3, if_neg (by rw [strOfNums_size, List.length_append, List.length_append, nums_len]; omega)]
  have hr : strOfNums (digN T.size ++ (nums T ++ rest)) = strOfNums (digN T.size) ++ T ++ strOfNums rest := by
    rw [strOfNums_app, strOfNums_app, strOfNums_nums, ByteArray.append_assoc]
  have hsz : (strOfNums (digN T.size) ++ T).size = (digN T.size).length + T.size := by rw [ByteArray.size_append, strOfNums_size]
  refine ⟨hE, ?_, ?_⟩
  · rw [textV, if_pos hE, h3, h2, hr, ← hsz, ← strOfNums_size (digN T.size)]
    exact ext_mid _ _ _
  · rw [h3, h2, hr, rRest, if_pos rfl, ← hsz]
    exact ext_right _ _
end Go.Proofs.YtkkndlkelpdehaaGreatDoor

namespace Go.Proofs.YtkkndlkelpdehaaGreatDoor
open Go.RowKit
theorem shr_step (v : Int) (k : Nat) : v / 2 ^ (8 * k) / 256 = v / 2 ^ (8 * (k + 1)) := by
  rw [Int.ediv_ediv_of_nonneg (by exact Int.pow_nonneg (by omega)), show 8 * (k + 1) = 8 * k + 8 by omega, Int.pow_add]
  rfl
theorem be_numB_take (v : Int) (k : Nat) (h : fitsP v k) : ∀ j, j ≤ k → beN ((numB v k).take j) = v / 2 ^ (8 * (k - j)) := by
  intro j
  induction j with
  | zero =>
    intro _
    rw [List.take_zero, beN_nil, Nat.sub_zero]
    exact h.2.symm
  | succ j ih =>
    intro hj
    rw [numB_take v k j (by omega), beN_snoc, ih (by omega), show k - j = (k - 1 - j) + 1 by omega, ← shr_step, show k - (j + 1) = k - 1 - j by omega]
    generalize v / 2 ^ (8 * (k - 1 - j)) = q
    omega
theorem be_numB (v : Int) (k : Nat) (h : fitsP v k) : beN (numB v k) = v := by
  have := be_numB_take v k h k (Nat.le_refl _)
  rw [numB_all, Nat.sub_self] at this
  simpa using this
theorem size_tail (s : ByteArray) (a : Nat) : (s.extract a s.size).size = s.size - a := by simp
theorem getD_drop0 (l : List Int) (i : Nat) : beN ((l.drop i).take 1) = l.getD i 0 := by
  by_cases h : i < l.length
  · rw [List.drop_eq_getElem_cons h, List.getD_eq_getElem?_getD, List.getElem?_eq_getElem h]
    exact be_one _ _
  · rw [List.drop_eq_nil_of_le (by omega), List.getD_eq_getElem?_getD, List.getElem?_eq_none (by omega)]
    rfl
set_option maxRecDepth 100000 in
theorem numE_ok (k : Nat) (r : ByteArray) (h1 : 1 ≤ k) (h7 : k ≤ 7) (h : k ≤ r.size) : numE (k : Int) r = 0 := by
  have hb := be_bound (nums r) (nums_bytes r) k
  have hp : (256 : Int) ^ k ≤ 256 ^ 7 := by
    have h1 : (256 : Nat) ^ k ≤ 256 ^ 7 := Nat.pow_le_pow_right (by decide) h7
    exact_mod_cast h1
  have h77 : (256 : Int) ^ 7 = 72057594037927936 := by decide
  rw [numE, if_neg (by omega), if_neg (by omega), Int.toNat_natCast, if_neg (by omega)]
theorem ps1_eq (s : ByteArray) (h : 2 ≤ s.size) : ps1 s = ⟨s.extract 2 s.size, 2, 0⟩ := by
  have hE : rawE 2 s = 0 := by rw [rawE, if_neg (by omega), if_neg (by omega)]
  rw [ps1, stepR, if_pos rfl, hE, rRest, if_pos rfl, rTak, if_pos rfl]
  rfl
theorem ps2_eq (s : ByteArray) (h : 3 ≤ s.size) : pkd s = (nums s).getD 2 0 ∧ ps2 s = ⟨s.extract 3 s.size, 3, 0⟩ := by
  have hE : numE 1 (s.extract 2 s.size) = 0 := numE_ok 1 _ (by omega) (by omega) (by rw [size_tail]; omega)
  refine ⟨?_, ?_⟩
  · rw [pkd, ps1_eq s (by omega), if_pos rfl, numV, if_pos hE, nums_tail]
    exact getD_drop0 _ _
  · rw [ps2, ps1_eq s (by omega), stepR, if_pos rfl, hE, rRest, if_pos rfl, rTak, if_pos rfl, extract_tail]
    rfl
theorem ps3_eq (s : ByteArray) (h : 4 ≤ s.size) : pln s = (nums s).getD 3 0 ∧ ps3 s = ⟨s.extract 4 s.size, 4, 0⟩ := by
  have hE : numE 1 (s.extract 3 s.size) = 0 := numE_ok 1 _ (by omega) (by omega) (by rw [size_tail]; omega)
  refine ⟨?_, ?_⟩
  · rw [pln, (ps2_eq s (by omega)).2, if_pos rfl, numV, if_pos hE, nums_tail]
    exact getD_drop0 _ _
  · rw [ps3, (ps2_eq s (by omega)).2, stepR, if_pos rfl, hE, rRest, if_pos rfl, rTak, if_pos rfl, extract_tail]
    rfl
theorem ps4_eq (s : ByteArray) (h : 8 ≤ s.size) : pnm s = beN (((nums s).drop 4).take 4) ∧ ps4 s = ⟨s.extract 8 s.size, 8, 0⟩ := by
  have hE : numE 4 (s.extract 4 s.size) = 0 := numE_ok 4 _ (by omega) (by omega) (by rw [size_tail]; omega)
  refine ⟨?_, ?_⟩
  · rw [pnm, (ps3_eq s (by omega)).2, if_pos rfl, numV, if_pos hE, nums_tail]
    rfl
  · rw [ps4, (ps3_eq s (by omega)).2, stepR, if_pos rfl, hE, rRest, if_pos rfl, rTak, if_pos rfl, extract_tail]
    rfl
theorem pbd_eq (s : ByteArray) (n : Nat) (h : 8 + n ≤ s.size) (hn : (nums s).getD 3 0 = (n : Int)) : pbd s = s.extract 8 (8 + n) := by
  have hE : rawE (n : Int) (s.extract 8 s.size) = 0 := by rw [rawE, if_neg (by omega), if_neg (by rw [size_tail]; omega)]
  rw [pbd, (ps4_eq s (by omega)).2, if_pos rfl, (ps3_eq s (by omega)).1, hn, rawV, if_pos hE, Int.toNat_natCast, extract_mid]
/-- The letters and numbers at the front of a page. -/
theorem page_front (kind number : Int) (body : List Int) (hk : fitsP kind 1) (hb : body.length ≤ 244) : makeL kind number body = [83, 66, kind, (body.length : Int)] ++ (numB number 4 ++ (body ++ (List.replicate (244 - body.length) 0 ++ le4 (chkN (pageL kind number body))))) := by
  obtain ⟨h1, h2⟩ := (fits1 kind).1 hk
  rw [makeL]
  conv => lhs; arg 1; rw [pageL]
  rw [numB1 kind h1 h2, numB1 (body.length : Int) (by omega) (by omega)]
  simp
theorem page_parts (kind number : Int) (body : ByteArray) (hk : fitsP kind 1) (hn : fitsP number 4) (hb : body.size ≤ 244) (s : ByteArray) (hs : nums s = makeL kind number (nums body)) :
    s.size = 256 ∧ (nums s).getD 2 0 = kind ∧ (nums s).getD 3 0 = (body.size : Int) ∧ beN (((nums s).drop 4).take 4) = number ∧ s.extract 8 (8 + body.size) = body := by
  have hl : (nums body).length ≤ 244 := by rw [nums_len]; exact hb
  have hsz : s.size = 256 := by rw [← nums_len, hs]; exact makeL_len _ _ _ hl
  have hf := page_front kind number (nums body) hk hl
  rw [nums_len] at hf
  refine ⟨hsz, ?_, ?_, ?_, ?_⟩
  · rw [hs, hf]; rfl
  · rw [hs, hf]; rfl
  · rw [hs, hf]
    have e1 : ([83, 66, kind, (body.size : Int)] ++ (numB number 4 ++ (nums body ++ (List.replicate (244 - body.size) 0 ++ le4 (chkN (pageL kind number (nums body))))))).drop 4 = numB number 4 ++ (nums body ++ (List.replicate (244 - body.size) 0 ++ le4 (chkN (pageL kind number (nums body))))) := rfl
    rw [e1, List.take_append_of_le_length (by rw [numB_len]; exact Nat.le_refl _), numB_all, be_numB number 4 hn]
  · apply nums_inj
    rw [nums_extract, List.drop_take, hs, hf]
    have e1 : ([83, 66, kind, (body.size : Int)] ++ (numB number 4 ++ (nums body ++ (List.replicate (244 - body.size) 0 ++ le4 (chkN (pageL kind number (nums body))))))).drop 8 = nums body ++ (List.replicate (244 - body.size) 0 ++ le4 (chkN (pageL kind number (nums body)))) := by
      rw [show (8 : Nat) = 4 + 4 from rfl, ← List.drop_drop]
      have e2 : ([83, 66, kind, (body.size : Int)] ++ (numB number 4 ++ (nums body ++ (List.replicate (244 - body.size) 0 ++ le4 (chkN (pageL kind number (nums body))))))).drop 4 = numB number 4 ++ (nums body ++ (List.replicate (244 - body.size) 0 ++ le4 (chkN (pageL kind number (nums body))))) := rfl
      rw [e2]
      have h4 : (numB number 4).length = 4 := numB_len _ _
      conv => lhs; arg 1; rw [← h4]
      rw [List.drop_left]
    rw [e1, show 8 + body.size - 8 = (nums body).length by rw [nums_len]; omega, List.take_left]
/-- A made page is read as itself. -/
theorem make_parse (kind number : Int) (body : ByteArray) (hE : errM kind number body.size = 0) : prOk (makeB kind number body) ∧ pkd (makeB kind number body) = kind ∧ pnm (makeB kind number body) = number ∧ pbd (makeB kind number body) = body := by
  have hm : makeB kind number body = strOfNums (makeL kind number (nums body)) := by rw [makeB, if_pos hE]
  have hf : fitsP kind 1 ∧ fitsP number 4 ∧ body.size ≤ 244 := by
    unfold errM at hE
    split at hE
    · cases hE
    · rename_i h1
      split at hE
      · cases hE
      · simp at h1
        exact ⟨h1.1, h1.2, by omega⟩
  have hn : nums (makeB kind number body) = makeL kind number (nums body) := by rw [hm]; exact nums_strOfNums _ (makeL_bytes _ _ _ (nums_bytes _))
  obtain ⟨p1, p2, p3, p4, p5⟩ := page_parts kind number body hf.1 hf.2.1 hf.2.2 _ hn
  have k1 : pkd (makeB kind number body) = kind := by rw [(ps2_eq _ (by omega)).1, p2]
  have k2 : pnm (makeB kind number body) = number := by rw [(ps4_eq _ (by omega)).1, p4]
  have k3 : pbd (makeB kind number body) = body := by rw [pbd_eq _ body.size (by omega) p3, p5]
  exact ⟨⟨by rw [k1, k2, k3]; exact hE, by rw [k1, k2, k3]⟩, k1, k2, k3⟩
theorem errM_zero {kind number : Int} {n : Nat} (hE : errM kind number n = 0) : fitsP kind 1 ∧ fitsP number 4 ∧ n ≤ 244 := by
  unfold errM at hE
  split at hE
  · cases hE
  · rename_i h1
    split at hE
    · cases hE
    · simp at h1
      exact ⟨h1.1, h1.2, by omega⟩
theorem prOk_size (s : ByteArray) (h : prOk s) : s.size = 256 ∧ (nums s).getD 3 0 ≤ 244 := by
  obtain ⟨hf1, hf2, hf3⟩ := errM_zero h.1
  have hm : s = strOfNums (makeL (pkd s) (pnm s) (nums (pbd s))) := by
    have := h.2
    rw [makeB, if_pos h.1] at this
    exact this.symm
  have hn : nums s = makeL (pkd s) (pnm s) (nums (pbd s)) := by
    have := congrArg nums hm
    rwa [nums_strOfNums _ (makeL_bytes _ _ _ (nums_bytes _))] at this
  obtain ⟨p1, _, p3, _, _⟩ := page_parts (pkd s) (pnm s) (pbd s) hf1 hf2 hf3 s hn
  exact ⟨p1, by rw [p3]; omega⟩
end Go.Proofs.YtkkndlkelpdehaaGreatDoor

namespace Go.Proofs.YtkkndlkelpdehaaGreatDoor
open Go.RowKit
/-- A disk that lives, with nothing pending. -/
def rs (L : List ByteArray) (A : List (Nat × Nat)) : DSt := ⟨L, L, [], A, 0, false⟩
def natW (l : List Wr1) : List (Nat × ByteArray) := l.map fun x => (x.1.toNat, x.2)
def actW (l : List Wr1) : List (Nat × Nat) := l.map fun x => (0, x.1.toNat)
def OkW (N : Nat) (l : List Wr1) : Prop := ∀ x ∈ l, 0 ≤ x.1 ∧ x.1 < (N : Int) ∧ x.2.size = 256
theorem lay_alive (l : List Wr1) : ∀ (s : DSt), Alive s → OkW s.last.length l → layR s l = (0, ⟨layP s.last (s.pend ++ natW l), layP s.now (natW l), [], s.acts ++ actW l ++ [(1, 0)], 0, false⟩) := by
  induction l with
  | nil =>
    intro s h _
    obtain ⟨a1, a2⟩ := flushA h
    rw [layR, a1, a2, h.1, h.2]
    simp [natW, actW, layP]
  | cons x r ih =>
    intro s h hk
    obtain ⟨x1, x2⟩ := x
    obtain ⟨k1, k2, k3⟩ := hk (x1, x2) (by simp)
    obtain ⟨j, hj⟩ : ∃ j : Nat, x1 = (j : Int) := ⟨x1.toNat, by omega⟩
    subst hj
    obtain ⟨a1, a2⟩ := writeA h j (by omega) x2 k3
    rw [layR, if_pos a1, a2]
    refine (ih { s with now := s.now.set j x2, pend := s.pend ++ [(j, x2)], acts := s.acts ++ [(0, j)] } ⟨h.1, h.2⟩ (fun y hy => hk y (by simp [hy]))).trans ?_
    simp [natW, actW, layP]
theorem lay_rs (L : List ByteArray) (A : List (Nat × Nat)) (l : List Wr1) (h : OkW L.length l) : layR (rs L A) l = (0, rs (layP L (natW l)) (A ++ actW l ++ [(1, 0)])) := by
  rw [lay_alive l (rs L A) ⟨rfl, rfl⟩ h]
  rfl
theorem fill_ok (l : List Wr1) (h : GoodL l) : OkW 128 (filled l) := fun x hx => by
  rcases List.mem_append.1 hx with hx | hx
  · have := h.free x hx
    exact ⟨by omega, by omega, h.size x hx⟩
  · have := List.eq_of_mem_replicate hx
    subst this
    exact ⟨by decide, by decide, zero256_size⟩
theorem rec_ok (l : List Wr1) (h : GoodL l) : OkW 128 (recL (filled l)) := fun x hx => by
  obtain ⟨i, hi, rfl⟩ := List.mem_map.1 hx
  have hi : i < (filled l).length := List.mem_range.1 hi
  have h16 := filled_len l h.len
  have := fill_ok l h ((filled l).getD i wr0) (by rw [getD_of hi]; exact List.getElem_mem hi)
  refine ⟨?_, ?_, this.2.2⟩
  · show (0 : Int) ≤ ((2 + i : Nat) : Int); omega
  · show ((2 + i : Nat) : Int) < 128; omega
theorem secs16 (l : List Wr1) (h : GoodL l) : (secs (filled l)).length = 16 := by simp [secs, filled_len l h.len]
theorem head_ok (N : Nat) (hN : 1 < N) (n : Nat) (H : List Int) (hH : H.length ≤ 60) : OkW N [(1, headB n H)] := fun x hx => by
  simp at hx
  subst hx
  exact ⟨by show (0 : Int) ≤ 1; decide, by show (1 : Int) < (N : Int); omega, headB_size n H hH⟩
/-- What a commit leaves on a disk that lives. -/
def comL (L : List ByteArray) (nx : Nat) (l : List Wr1) : List ByteArray := layP (layP (layP (layP L (natW (recL (filled l)))) [(1, headB nx (secs (filled l)))]) (natW (filled l))) [(1, headB nx [])]
def comA (l : List Wr1) : List (Nat × Nat) := actW (recL (filled l)) ++ [(1, 0)] ++ ([(0, 1)] ++ [(1, 0)]) ++ (actW (filled l) ++ [(1, 0)]) ++ ([(0, 1)] ++ [(1, 0)])
theorem comL_len (L : List ByteArray) (nx : Nat) (l : List Wr1) : (comL L nx l).length = L.length := by simp only [comL, layP_len]
theorem commit_rs (L : List ByteArray) (A : List (Nat × Nat)) (nx : Nat) (l : List Wr1) (hL : L.length = 128) (h : GoodL l) : commitR (rs L A) nx false l = ⟨0, rs (comL L nx l) (A ++ comA l), (nx + 1) % 4294967296, false⟩ := by
  have hr : refE l ((rs L A).last.length : Int) = 0 := by
    show refE l (L.length : Int) = 0
    rw [hL]
    exact h.ref
  have e1 := lay_rs L A (recL (filled l)) (by rw [hL]; exact rec_ok l h)
  have e2 := lay_rs (layP L (natW (recL (filled l)))) (A ++ actW (recL (filled l)) ++ [(1, 0)]) [(1, headB nx (secs (filled l)))] (head_ok _ (by rw [layP_len, hL]; decide) nx _ (by rw [secs16 l h]; decide))
  have e3 := lay_rs (layP (layP L (natW (recL (filled l)))) (natW [(1, headB nx (secs (filled l)))])) ((A ++ actW (recL (filled l)) ++ [(1, 0)]) ++ actW [(1, headB nx (secs (filled l)))] ++ [(1, 0)]) (filled l) (by rw [layP_len, layP_len, hL]; exact fill_ok l h)
  have e4 := lay_rs (layP (layP (layP L (natW (recL (filled l)))) (natW [(1, headB nx (secs (filled l)))])) (natW (filled l))) (((A ++ actW (recL (filled l)) ++ [(1, 0)]) ++ actW [(1, headB nx (secs (filled l)))] ++ [(1, 0)]) ++ actW (filled l) ++ [(1, 0)]) [(1, headB nx [])] (head_ok _ (by rw [layP_len, layP_len, layP_len, hL]; decide) nx _ (by simp))
  have hR : runsR (rs L A) (runsOf nx l) = (0, rs (comL L nx l) (A ++ comA l)) := by
    rw [runsOf, runsR, e1, if_pos rfl, runsR]
    simp only
    rw [e2, if_pos rfl, runsR]
    simp only
    rw [e3, if_pos rfl, runsR]
    simp only
    rw [e4, if_pos rfl, runsR]
    simp only [comL, comA]
    congr 2
    simp only [List.append_assoc]
    rfl
  rw [commitR, hr, if_neg (by simp), if_neg (by decide), hR, if_pos rfl]
theorem headB_make (n : Nat) (H : List Int) (hn : n < 4294967296) (hH : H.length ≤ 60) : errM 2 (n : Int) (strOfNums (headL H)).size = 0 ∧ headB n H = makeB 2 (n : Int) (strOfNums (headL H)) := by
  have hl := headL_len H hH
  have hE : errM 2 (n : Int) (strOfNums (headL H)).size = 0 := by
    rw [errM, if_neg, if_neg (by rw [strOfNums_size]; omega)]
    rintro (q | q)
    · exact q (fits1j 2 (by decide) (by decide))
    · exact q (fits4j _ (by omega) (by omega))
  refine ⟨hE, ?_⟩
  rw [makeB, if_pos hE, nums_strOfNums _ (headL_bytes H)]
  rfl
theorem rd_one (n : Int) (k : Nat) (rest : List Int) (t : Int) (hb : Bytes (numB n k ++ rest)) (h1 : 1 ≤ k) (h8 : k ≤ 8) (hf : fitsP n k) (hn : n ≤ 9223372036854775807) : rdV ⟨strOfNums (numB n k ++ rest), t, 0⟩ (k : Int) = n ∧ rdS ⟨strOfNums (numB n k ++ rest), t, 0⟩ (k : Int) = ⟨strOfNums rest, t + (k : Int), 0⟩ := by
  obtain ⟨e1, e2, e3⟩ := rd_num n k rest hb h1 h8 hf hn
  refine ⟨by rw [rdV, if_pos rfl, e2], ?_⟩
  rw [rdS, stepR, if_pos rfl, e1, Int.toNat_natCast, e3]
  congr 1
theorem done_nil : doneE (strOfNums []) 0 = 0 := by
  unfold doneE
  rw [if_neg]
  rw [strOfNums_size]
  simp
theorem rhp_clear (n : Nat) (hn : n < 4294967296) (size n' : Int) (H : List Int) (ok : Bool) (h : RHP (headB n []) size n' H ok) : n' = (n : Int) ∧ H = [] ∧ ok = true := by
  obtain ⟨hE, hM⟩ := headB_make n [] hn (by simp)
  obtain ⟨p1, p2, p3, p4⟩ := make_parse 2 (n : Int) (strOfNums (headL [])) hE
  rw [← hM] at p1 p2 p3 p4
  have hb1 : numB 0 1 = [0] := num1 0 (by decide) (by decide)
  obtain ⟨v1, v2⟩ := rd_one 0 1 [] 0 (by rw [hb1]; exact bytes_of (fun x hx => by simp at hx; omega)) (by decide) (by decide) (fits1j 0 (by decide) (by decide)) (by decide)
  have er : rs0 (headB n []) = ⟨strOfNums (numB 0 1 ++ []), 0, 0⟩ := by rw [rs0, p4, headL_nil, hb1]; rfl
  rw [← er] at v1 v2
  rcases h with ⟨q, _⟩ | ⟨_, hn', h⟩
  · exact absurd ⟨p1, p2⟩ q
  · rcases h with ⟨q, _⟩ | ⟨_, rfl, q⟩
    · rw [show ((1 : Nat) : Int) = 1 from rfl] at v1
      rw [v1] at q
      cases q
    · refine ⟨hn'.trans p3, rfl, ?_⟩
      rw [show ((1 : Nat) : Int) = 1 from rfl] at v1 v2
      rw [q, v2, v1]
      simp [done_nil]
/-- Homes that may be. -/
def HomesOk (size : Int) (H : List Int) : Prop := ∀ a z r, H = a ++ z :: r → ¬ badP size a z ∧ 0 ≤ z ∧ z < 4294967296
theorem homes_valid (size : Int) (H : List Int) (hH : HomesOk size H) : ∀ (k : Nat) (acc rest : List Int) (t : Int), acc ++ rest = H → rest.length = k → homesF size k ⟨strOfNums (outN 4 rest), t, 0⟩ acc = (⟨strOfNums [], t + ((4 * k : Nat) : Int), 0⟩, H)
  | 0, acc, rest, t, h1, h2 => by
    have : rest = [] := List.eq_nil_of_length_eq_zero h2
    subst this
    rw [homesF, List.append_nil] at *
    rw [h1]
    simp [outN]
  | k + 1, acc, z :: r, t, h1, h2 => by
    obtain ⟨g1, g2, g3⟩ := hH acc z r h1.symm
    have hr : outN 4 (z :: r) = numB z 4 ++ outN 4 r := rfl
    obtain ⟨v1, v2⟩ := rd_one z 4 (outN 4 r) t (by
      rw [← hr]
      exact bytes_of (fun x hx => by
        obtain ⟨n, _, h⟩ := List.mem_flatMap.1 hx
        exact numB_memb n 4 x h)) (by decide) (by decide) (fits4j z g2 g3) (by omega)
    rw [show ((4 : Nat) : Int) = 4 from rfl] at v1 v2
    rw [homesF, hr, v1, v2, if_neg g1, homes_valid size H hH k (acc ++ [z]) r (t + 4) (by rw [List.append_assoc]; exact h1) (by simpa using h2)]
    congr 2
    omega
theorem rhp_set (n : Nat) (hn : n < 4294967296) (size n' : Int) (H0 H : List Int) (ok : Bool) (h16 : H0.length = 16) (hH : HomesOk size H0) (h : RHP (headB n H0) size n' H ok) : n' = (n : Int) ∧ H = H0 ∧ ok = true := by
  obtain ⟨hE, hM⟩ := headB_make n H0 hn (by omega)
  obtain ⟨p1, p2, p3, p4⟩ := make_parse 2 (n : Int) (strOfNums (headL H0)) hE
  rw [← hM] at p1 p2 p3 p4
  have hb1 : numB 1 1 = [1] := num1 1 (by decide) (by decide)
  have hhl : headL H0 = numB 1 1 ++ outN 4 H0 := by rw [hb1, headL, if_neg (by omega)]
  obtain ⟨v1, v2⟩ := rd_one 1 1 (outN 4 H0) 0 (by rw [← hhl]; exact headL_bytes H0) (by decide) (by decide) (fits1j 1 (by decide) (by decide)) (by decide)
  have er : rs0 (headB n H0) = ⟨strOfNums (numB 1 1 ++ outN 4 H0), 0, 0⟩ := by rw [rs0, p4, hhl]
  rw [← er, show ((1 : Nat) : Int) = 1 from rfl] at v1 v2
  have hv := homes_valid size H0 hH 16 [] H0 (0 + 1) rfl h16
  rcases h with ⟨q, _⟩ | ⟨_, hn', h⟩
  · exact absurd ⟨p1, p2⟩ q
  · rcases h with ⟨_, q1, q2⟩ | ⟨q, _⟩
    · rw [v2, hv] at q1 q2
      refine ⟨hn'.trans p3, q1, ?_⟩
      rw [q2, q1]
      simp [done_nil, h16]
    · exact absurd v1 q
end Go.Proofs.YtkkndlkelpdehaaGreatDoor
