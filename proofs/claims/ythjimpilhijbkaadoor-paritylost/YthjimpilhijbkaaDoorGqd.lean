import Derived.Test.YthjimpilhijbkaaDoorGqc
namespace Go.Proofs.YthjimpilhijbkaaDoor
open Go.RowKit
set_option maxRecDepth 100000
theorem nums_ext (b : ByteArray) (i j : Nat) : nums (b.extract i j) = ((nums b).drop i).take (j - i) := by
  unfold nums
  rw [← List.map_drop, ← List.map_take]
  congr 1
  show (b.extract i j).data.toList = _
  rw [ByteArray.data_extract, Array.toList_extract, List.extract_eq_take_drop]
theorem nums_inj {a b : ByteArray} (h : nums a = nums b) : a = b := by rw [← strOfNums_nums a, h, strOfNums_nums]
/-- what is cut into pieces of one size is those pieces, one after another -/
theorem cat_cut (L : List Int) (l : Nat) : ∀ k, ((List.range k).map (fun i => (L.drop (i * l)).take l)).flatten = L.take (k * l)
  | 0 => by simp
  | k + 1 => by
    rw [List.range_succ, List.map_append, List.flatten_append, cat_cut L l k, Nat.succ_mul, List.take_add]
    simp
theorem cat_spD (s : ByteArray) (n : Nat) (hn : 1 ≤ n) : catB (spD s n) = stB s n := by
  apply nums_inj
  rw [catB_nums]
  unfold spD
  rw [List.map_map]
  have e : (List.range n).map (nums ∘ fun i => (stB s n).extract (i * stN s.size n) (i * stN s.size n + stN s.size n)) = (List.range n).map (fun i => ((nums (stB s n)).drop (i * stN s.size n)).take (stN s.size n)) := by
    refine List.map_congr_left (fun i _ => ?_)
    show nums _ = _
    rw [nums_ext, Nat.add_sub_cancel_left]
  rw [e, cat_cut, List.take_of_length_le]
  rw [nums_len, stB_size s n hn]
  exact Nat.le_refl _
theorem Part.str {s : ByteArray} {n m : Nat} {LL : List ByteArray} (h : Part s n m LL) (ht : n ≤ (thr LL (n + m)).length) {len : Nat} {y : Nat → Nat → G} (hf : Fits LL (n + m) n len y) : strT n len y LL = stB s n := by
  rw [← cat_spD s n h.n1]
  unfold strT
  congr 1
  apply List.ext_getElem
  · simp [spD_len]
  · intro i h1 h2
    rw [spD_len] at h2
    have e := h.fil ht hf i (by omega)
    rw [List.getElem_map, List.getElem_range, e, spL_lt s n m i h2, List.getD_eq_getElem?_getD, List.getElem?_eq_getElem (by rw [spD_len]; exact h2)]
    rfl
theorem st_nums (s : ByteArray) (n : Nat) (hs : s.size ≤ 60000) : nums (stB s n) = hd4 s.size ++ nums s ++ List.replicate (stZ s.size n) 0 := by
  have hz : Bytes (List.replicate (stZ s.size n) 0) := fun j => by
    by_cases h : j < stZ s.size n
    · simp [h]
    · rw [List.getD_eq_getElem?_getD, List.getElem?_eq_none (by simpa using h)]; decide
  unfold stB
  rw [nums_app, nums_app, nums_strOfNums _ (hd4_bytes s.size (by omega)), nums_strOfNums _ hz]
theorem st_byN (s : ByteArray) (n j : Nat) (hs : s.size ≤ 60000) (hj : j < 4) : byN (stB s n) j = ((hd4 s.size).getD j 0).toNat := by
  unfold byN
  rw [st_nums s n hs, List.append_assoc, List.getD_eq_getElem?_getD, List.getElem?_append_left (by simpa [hd4] using hj), ← List.getD_eq_getElem?_getD]
theorem st_txV (s : ByteArray) (n : Nat) (hs : s.size ≤ 60000) : txV (stB s n) = s.size := by
  show ((((0 * 256 + byN (stB s n) 0) * 256 + byN (stB s n) 1) * 256) + byN (stB s n) 2) * 256 + byN (stB s n) 3 = s.size
  rw [st_byN s n 0 hs (by decide), st_byN s n 1 hs (by decide), st_byN s n 2 hs (by decide), st_byN s n 3 hs (by decide)]
  show ((((0 * 256 + ((s.size : Int) / 16777216).toNat) * 256 + ((s.size : Int) / 65536).toNat) * 256) + ((s.size : Int) / 256 % 256).toNat) * 256 + ((s.size : Int) % 256).toNat = s.size
  omega
theorem st_ok (s : ByteArray) (n : Nat) (hn : 1 ≤ n) (hs : s.size ≤ 60000) : txOk (stB s n) n ∧ txT (stB s n) = s := by
  have hv := st_txV s n hs
  have hz := stB_size s n hn
  have hl := stN_le s.size n hn
  refine ⟨⟨by omega, by omega, by rw [hv]; exact hz, fun j h1 h2 => ?_⟩, ?_⟩
  · rw [hv] at h1
    unfold byN
    rw [st_nums s n hs, List.getD_eq_getElem?_getD, List.getElem?_append_right (by rw [List.length_append, nums_len]; exact h1)]
    by_cases q : j - (hd4 s.size ++ nums s).length < stZ s.size n
    · rw [List.getElem?_replicate, if_pos q]; rfl
    · rw [List.getElem?_eq_none (by rw [List.length_replicate]; omega)]; rfl
  · unfold txT
    rw [hv]
    apply nums_inj
    rw [nums_ext, st_nums s n hs, Nat.add_sub_cancel_left, List.append_assoc]
    show ((hd4 s.size ++ _).drop (hd4 s.size).length).take _ = _
    rw [List.drop_left, ← nums_len s, List.take_left]
theorem Part.less {s : ByteArray} {n m : Nat} {LL : List ByteArray} (h : Part s n m LL) (x : Nat) (hx : x < n + m) : Part s n m (LL.set x ⟨#[]⟩) := by
  refine ⟨h.n1, h.n2, h.m8, h.sz6, by rw [List.length_set]; exact h.len, fun j hj => ?_⟩
  rw [getD_set LL x j _ (by rw [h.len]; exact hx)]
  by_cases q : j = x
  · rw [if_pos q]; exact .inr rfl
  · rw [if_neg q]; exact h.at' j hj
theorem Part.all {s : ByteArray} {n m : Nat} (hn1 : 1 ≤ n) (hn2 : n ≤ 16) (hm : m ≤ 8) (hs : s.size ≤ 60000) : Part s n m (spL s n m) := ⟨hn1, hn2, hm, hs, by simp [spL, spD_len], fun _ _ => .inl rfl⟩
theorem Part.all_thr (s : ByteArray) (n m : Nat) (hn1 : 1 ≤ n) : (thr (spL s n m) (n + m)).length = n + m := by
  unfold thr
  rw [List.filter_eq_self.2 (fun j hj => by
    have h1 := spL_size s n m j hn1 (List.mem_range.1 hj)
    have h2 := stN_pos s.size n hn1
    refine decide_eq_true (fun q => ?_)
    unfold Go.Proofs.YthjimpilhijbkaaDoor.sz at q
    omega), List.length_range]
/-- a text with one byte of it spoilt -/
def spo (X : ByteArray) (y v : Nat) : ByteArray := strOfNums ((nums X).set y (((byN X y ^^^ v : Nat) : Int)))
theorem spo_bytes (X : ByteArray) (y v : Nat) (hv : v < 256) : Bytes ((nums X).set y (((byN X y ^^^ v : Nat) : Int))) := by
  intro j
  have h1 := nums_bytes X j
  have h2 := xor_lt8 (byN_lt X y) hv
  rw [List.getD_eq_getElem?_getD, List.getElem?_set]
  by_cases q : y = j
  · rw [if_pos q]
    by_cases q2 : y < (nums X).length
    · rw [if_pos q2]
      show 0 ≤ (((byN X y ^^^ v : Nat) : Int)) ∧ (((byN X y ^^^ v : Nat) : Int)) < 256
      omega
    · rw [if_neg q2]; decide
  · rw [if_neg q, ← List.getD_eq_getElem?_getD]; exact h1
theorem spo_size (X : ByteArray) (y v : Nat) : (spo X y v).size = X.size := by
  unfold spo
  rw [strOfNums_size, List.length_set, nums_len]
theorem spo_ne (X : ByteArray) (y v : Nat) (hy : y < X.size) (hv : v < 256) (hv1 : 1 ≤ v) : gB (spo X y v) y ≠ gB X y := by
  intro e
  have h1 := byN_lt X y
  have h2 := xor_lt8 h1 hv
  have e2 : (nums (spo X y v)).getD y 0 = (nums X).getD y 0 := by rw [← gB_v, e, gB_v]
  unfold spo at e2
  rw [nums_strOfNums _ (spo_bytes X y v hv), List.getD_eq_getElem?_getD, List.getElem?_set, if_pos rfl, if_pos (by rw [nums_len]; exact hy), ← byN_v] at e2
  have e3 : byN X y ^^^ v = byN X y := by
    have : (((byN X y ^^^ v : Nat) : Int)) = ((byN X y : Nat) : Int) := e2
    omega
  have e4 : v = 0 := by
    have h5 : byN X y ^^^ (byN X y ^^^ v) = byN X y ^^^ byN X y := by rw [e3]
    rw [← Nat.xor_assoc, Nat.xor_self, Nat.zero_xor] at h5
    exact h5
  omega
theorem Part.szb {s : ByteArray} {n m : Nat} {LL : List ByteArray} (h : Part s n m LL) (j : Nat) : Go.Proofs.YthjimpilhijbkaaDoor.sz LL j ≤ 9223372036854775807 := by
  by_cases hj : j < n + m
  · by_cases hs : Go.Proofs.YthjimpilhijbkaaDoor.sz LL j = 0
    · omega
    · have h1 := (h.sz hj hs).1
      have h2 := stN_big s.size n h.n1 h.sz6
      omega
  · unfold Go.Proofs.YthjimpilhijbkaaDoor.sz
    rw [List.getD_eq_getElem?_getD, List.getElem?_eq_none (by rw [h.len]; omega)]
    decide
end Go.Proofs.YthjimpilhijbkaaDoor
