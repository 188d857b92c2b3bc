import Derived.Test.YtolblldpdgfkmaaDoorGqb
import Derived.Test.YtolblldpdgfkmaaDoorMza
import Derived.Test.YtolblldpdgfkmaaDoorGpp
import Derived.BigQuiet
import Derived.Test.YtolblldpdgfkmaaDoorGly
import Derived.Test.YtolblldpdgfkmaaDoorGla
import Derived.Test.YtolblldpdgfkmaaDoorGlx
namespace Go.Proofs.YtolblldpdgfkmaaDoor
open Go.RowKit
set_option maxRecDepth 100000
theorem getD_set (L : List ByteArray) (x j : Nat) (X : ByteArray) (hx : x < L.length) : (L.set x X).getD j ByteArray.empty = if j = x then X else L.getD j ByteArray.empty := by
  rw [List.getD_eq_getElem?_getD, List.getD_eq_getElem?_getD, List.getElem?_set]
  by_cases q : x = j
  · rw [if_pos q, if_pos q.symm, if_pos hx]; rfl
  · rw [if_neg q, if_neg (fun e => q e.symm)]
theorem sz_set (L : List ByteArray) (x j : Nat) (X : ByteArray) (hx : x < L.length) : sz (L.set x X) j = if j = x then X.size else sz L j := by
  unfold sz
  rw [getD_set L x j X hx]
  by_cases q : j = x
  · rw [if_pos q, if_pos q]
  · rw [if_neg q, if_neg q]
theorem thr_congr {L M : List ByteArray} {k : Nat} (h : ∀ j, j < k → (sz L j = 0 ↔ sz M j = 0)) : thr L k = thr M k := by
  unfold thr
  refine List.filter_congr (fun j hj => ?_)
  have := h j (List.mem_range.1 hj)
  by_cases q : sz L j = 0
  · rw [decide_eq_false (fun e => e q), decide_eq_false (fun e => e (this.1 q))]
  · rw [decide_eq_true (show sz L j ≠ 0 from q), decide_eq_true (show sz M j ≠ 0 from fun e => q (this.2 e))]
/-- one that was there is there no more -/
theorem thr_less (L : List ByteArray) (x : Nat) (hx : x < L.length) (hs : sz L x ≠ 0) : ∀ d, (thr (L.set x ⟨#[]⟩) (x + 1 + d)).length + 1 = (thr L (x + 1 + d)).length
  | 0 => by
    have e1 : thr (L.set x ⟨#[]⟩) x = thr L x := thr_congr (fun j hj => by rw [sz_set L x j _ hx, if_neg (by omega)])
    have e2 : sz (L.set x ⟨#[]⟩) x = 0 := by rw [sz_set L x x _ hx, if_pos rfl]; rfl
    show (thr (L.set x ⟨#[]⟩) (x + 1)).length + 1 = (thr L (x + 1)).length
    rw [thr_succ, thr_succ, if_neg (by rw [e2]; decide), if_pos hs, e1, List.length_append]
    rfl
  | d + 1 => by
    have ih := thr_less L x hx hs d
    have e : sz (L.set x ⟨#[]⟩) (x + 1 + d) = sz L (x + 1 + d) := by rw [sz_set L x _ _ hx, if_neg (by omega)]
    show (thr (L.set x ⟨#[]⟩) (x + 1 + d + 1)).length + 1 = (thr L (x + 1 + d + 1)).length
    rw [thr_succ, thr_succ, e]
    by_cases q : sz L (x + 1 + d) ≠ 0
    · rw [if_pos q, if_pos q, List.length_append, List.length_append]
      show _ + 1 + 1 = _ + 1
      omega
    · rw [if_neg q, if_neg q]; exact ih
theorem thr_less' (L : List ByteArray) (N x : Nat) (hN : L.length = N) (hx : x < N) (hs : sz L x ≠ 0) : (thr (L.set x ⟨#[]⟩) N).length + 1 = (thr L N).length := by
  have := thr_less L x (by omega) hs (N - (x + 1))
  rw [show x + 1 + (N - (x + 1)) = N by omega] at this
  exact this
theorem thr_lt (L : List ByteArray) (N : Nat) : (thr L N).Pairwise (· < ·) := by
  unfold thr
  exact (List.pairwise_lt_range (n := N)).filter _
theorem thr_get (L : List ByteArray) (N i : Nat) (hi : i < (thr L N).length) : (thr L N).getD i 0 = (thr L N)[i] := by
  rw [List.getD_eq_getElem?_getD, List.getElem?_eq_getElem hi]; rfl
theorem thr_mono (L : List ByteArray) (N i j : Nat) (hij : i < j) (hj : j < (thr L N).length) : (thr L N).getD i 0 < (thr L N).getD j 0 := by
  rw [thr_get L N i (by omega), thr_get L N j hj]
  exact List.pairwise_iff_getElem.1 (thr_lt L N) i j (by omega) hj hij
theorem thr_in (L : List ByteArray) (N k : Nat) (hk : k < N) (hs : sz L k ≠ 0) : ∃ i, i < (thr L N).length ∧ (thr L N).getD i 0 = k := by
  have hm : k ∈ thr L N := by
    unfold thr
    exact List.mem_filter.2 ⟨List.mem_range.2 hk, by simpa using hs⟩
  obtain ⟨i, hi, e⟩ := List.getElem_of_mem hm
  exact ⟨i, hi, by rw [thr_get L N i hi, e]⟩
/-- the elements of the shards of data -/
def datG (s : ByteArray) (n q i : Nat) : G := gB ((spD s n).getD i ByteArray.empty) q
theorem gB_str (len : Nat) (F : Nat → G) (q : Nat) (hq : q < len) : gB (strOfNums (gL len F)) q = F q := by
  unfold gB
  rw [nums_strOfNums _ (gL_bytes len F), gL_get F hq]
  exact G.ext' (by show ((F q).v : Int).toNat % 256 = (F q).v; have := (F q).h; omega)
theorem txt_gB (X : ByteArray) (len : Nat) (hX : X.size = len) : strOfNums (gL len (gB X)) = X := by
  have e : gL len (gB X) = nums X := by
    apply List.ext_getElem
    · rw [gL_len, nums_len, hX]
    · intro i h1 h2
      rw [gL_len] at h1
      have h3 := gL_get (gB X) h1
      rw [gB_v] at h3
      rw [List.getD_eq_getElem?_getD, List.getElem?_eq_getElem (by rw [gL_len]; exact h1), List.getD_eq_getElem?_getD, List.getElem?_eq_getElem h2] at h3
      simpa using h3
  rw [e, strOfNums_nums]
theorem spL_lt (s : ByteArray) (n m k : Nat) (h : k < n) : (spL s n m).getD k ByteArray.empty = (spD s n).getD k ByteArray.empty := by
  unfold spL
  rw [List.getD_eq_getElem?_getD, List.getElem?_append_left (by rw [spD_len]; exact h), ← List.getD_eq_getElem?_getD]
theorem spL_ge (s : ByteArray) (n m k : Nat) (h : ¬ k < n) (hk : k < n + m) : (spL s n m).getD k ByteArray.empty = shT n k (stN s.size n) (spD s n) := by
  unfold spL
  rw [List.getD_eq_getElem?_getD, List.getElem?_append_right (by rw [spD_len]; omega), spD_len, List.getElem?_map, List.getElem?_range (by omega)]
  show shT n (n + (k - n)) _ _ = _
  rw [show n + (k - n) = k by omega]
theorem spL_size (s : ByteArray) (n m k : Nat) (hn : 1 ≤ n) (hk : k < n + m) : ((spL s n m).getD k ByteArray.empty).size = stN s.size n := by
  by_cases h : k < n
  · rw [spL_lt s n m k h]; exact spD_size s n hn k h
  · rw [spL_ge s n m k h hk]
    unfold shT
    rw [strOfNums_size, gL_len]
theorem spl_say (s : ByteArray) (n m k q : Nat) (hk : k < n + m) (hq : q < stN s.size n) : rK n (datG s n q) (wt n k) = gB ((spL s n m).getD k ByteArray.empty) q := by
  by_cases h : k < n
  · rw [rK_unit n k _ h, spL_lt s n m k h]; rfl
  · rw [spL_ge s n m k h hk]
    unfold shT
    rw [gB_str _ _ q hq]
    rfl
/-- LL has of the shards l what is not lost -/
structure Part (s : ByteArray) (n m : Nat) (LL : List ByteArray) : Prop where
  n1 : 1 ≤ n
  n2 : n ≤ 16
  m8 : m ≤ 8
  sz6 : s.size ≤ 60000
  len : LL.length = n + m
  at' : ∀ j, j < n + m → LL.getD j ByteArray.empty = (spL s n m).getD j ByteArray.empty ∨ LL.getD j ByteArray.empty = ⟨#[]⟩
theorem Part.sz {s : ByteArray} {n m : Nat} {LL : List ByteArray} (h : Part s n m LL) {j : Nat} (hj : j < n + m) (hs : sz LL j ≠ 0) : sz LL j = stN s.size n ∧ LL.getD j ByteArray.empty = (spL s n m).getD j ByteArray.empty := by
  rcases h.at' j hj with q | q
  · refine ⟨?_, q⟩
    unfold Go.Proofs.YtolblldpdgfkmaaDoor.sz
    rw [q]
    exact spL_size s n m j h.n1 hj
  · unfold Go.Proofs.YtolblldpdgfkmaaDoor.sz at hs
    rw [q] at hs
    exact absurd rfl hs
theorem stN_big (z d : Nat) (hd : 1 ≤ d) (hz : z ≤ 60000) : stN z d ≤ 60004 := by
  have h3 : (4 + z + d - 1) / d ≤ 60004 := by
    refine Nat.le_of_lt_succ ((Nat.div_lt_iff_lt_mul (by omega)).2 ?_)
    have h5 : 60004 * 1 ≤ 60004 * d := Nat.mul_le_mul_left _ hd
    show 4 + z + d - 1 < (60004 + 1) * d
    have h4 : (60004 + 1) * d = 60004 * d + d := by omega
    omega
  exact h3
theorem Part.frm {s : ByteArray} {n m : Nat} {LL : List ByteArray} (h : Part s n m LL) : frm LL (n + m) := ⟨stN s.size n, stN_big _ _ h.n1 h.sz6, fun _ hj hs => (h.sz hj hs).1⟩
/-- What the data are, where the first ones have the bytes of the shards. -/
theorem uniq {s : ByteArray} {n m : Nat} (hn2 : n ≤ 16) (hm : m ≤ 8) (f : Nat → Nat) (hf : ∀ r, r < n → f r < n + m) (hd : ∀ r t, r < n → t < n → f r = f t → r = t) (q : Nat) (hq : q < stN s.size n) (y : Nat → G) (hy : ∀ r, r < n → rK n y (wt n (f r)) = gB ((spL s n m).getD (f r) ByteArray.empty) q) : ∀ k, k < n + m → rK n y (wt n k) = gB ((spL s n m).getD k ByteArray.empty) q := by
  have e := rows_same hn2 f (fun r hr => by have := hf r hr; omega) hd y (datG s n q) (fun r hr => by rw [hy r hr, spl_say s n m (f r) q (hf r hr) hq])
  intro k hk
  rw [← spl_say s n m k q hk hq]
  unfold rK
  exact sm_congr (fun j hj => by rw [e j (List.mem_range.1 hj)])
theorem Part.say {s : ByteArray} {n m : Nat} {LL : List ByteArray} (h : Part s n m LL) (ht : n ≤ (thr LL (n + m)).length) {len : Nat} {y : Nat → Nat → G} (hf : Fits LL (n + m) n len y) : len = stN s.size n ∧ ∀ k, k < n + m → sayT n len k y = (spL s n m).getD k ByteArray.empty := by
  have get : ∀ r, r < n → (thr LL (n + m)).getD r 0 < n + m ∧ Go.Proofs.YtolblldpdgfkmaaDoor.sz LL ((thr LL (n + m)).getD r 0) ≠ 0 := fun r hr => by
    rw [thr_get LL (n + m) r (by omega)]
    exact thr_mem LL (n + m) _ (List.getElem_mem _)
  have hl : len = stN s.size n := by
    have h1 := hf.1 0 (by have := h.n1; omega)
    have h2 := get 0 (by have := h.n1; omega)
    rw [← h1]
    exact (h.sz h2.1 h2.2).1
  refine ⟨hl, fun k hk => ?_⟩
  have hfst := thr_fst LL (n + m) n m rfl h.n1 h.n2 h.m8 ht
  unfold sayT
  rw [show gL len (fun q => rK n (y q) (wt n k)) = gL len (gB ((spL s n m).getD k ByteArray.empty)) from gL_congr (fun q hq => uniq h.n2 h.m8 (fun r => (thr LL (n + m)).getD r 0) (fun r hr => (get r hr).1) hfst.inj q (by omega) (y q) (fun r hr => by
    rw [hf.2 q hq r hr, (h.sz (get r hr).1 (get r hr).2).2]) k hk)]
  exact txt_gB _ _ (by rw [spL_size s n m k h.n1 hk, hl])
theorem Part.fil {s : ByteArray} {n m : Nat} {LL : List ByteArray} (h : Part s n m LL) (ht : n ≤ (thr LL (n + m)).length) {len : Nat} {y : Nat → Nat → G} (hf : Fits LL (n + m) n len y) : ∀ k, k < n + m → filT n len y LL k = (spL s n m).getD k ByteArray.empty := by
  intro k hk
  unfold filT
  by_cases q : Go.Proofs.YtolblldpdgfkmaaDoor.sz LL k = 0
  · rw [if_pos q]; exact (h.say ht hf).2 k hk
  · rw [if_neg q]; exact (h.sz hk q).2
/-- One that is there becomes another one: that is told, just if more than enough are there. -/
theorem Part.told {s : ByteArray} {n m : Nat} {LL : List ByteArray} (h : Part s n m LL) (ht : n ≤ (thr LL (n + m)).length) (x : Nat) (hx : x < n + m) (hxs : Go.Proofs.YtolblldpdgfkmaaDoor.sz LL x ≠ 0) (X : ByteArray) (hX : X.size = stN s.size n) (q0 : Nat) (hq0 : q0 < stN s.size n) (hXq : gB X q0 ≠ gB ((spL s n m).getD x ByteArray.empty) q0) {len : Nat} {y : Nat → Nat → G} (hf : Fits (LL.set x X) (n + m) n len y) : (∃ k, (thr (LL.set x X) (n + m)).getD (n - 1) 0 < k ∧ k < n + m ∧ Go.Proofs.YtolblldpdgfkmaaDoor.sz (LL.set x X) k ≠ 0 ∧ (LL.set x X).getD k ByteArray.empty ≠ sayT n len k y) ↔ n < (thr LL (n + m)).length := by
  have hxl : x < LL.length := by rw [h.len]; exact hx
  have hp := stN_pos s.size n h.n1
  have hT : thr (LL.set x X) (n + m) = thr LL (n + m) := thr_congr (fun j hj => by
    rw [sz_set LL x j X hxl]
    by_cases q : j = x
    · rw [if_pos q, q]
      exact ⟨fun e => by omega, fun e => absurd e hxs⟩
    · rw [if_neg q])
  have n1 := h.n1
  rw [hT]
  unfold Fits at hf
  rw [hT] at hf
  obtain ⟨T, hTT⟩ : ∃ T, thr LL (n + m) = T := ⟨_, rfl⟩
  have get : ∀ r, r < T.length → T.getD r 0 < n + m ∧ Go.Proofs.YtolblldpdgfkmaaDoor.sz LL (T.getD r 0) ≠ 0 := fun r hr => by
    rw [← hTT] at hr ⊢
    rw [thr_get LL (n + m) r hr]
    exact thr_mem LL (n + m) _ (List.getElem_mem _)
  have mono : ∀ i j, i < j → j < T.length → T.getD i 0 < T.getD j 0 := fun i j h1 h2 => by
    rw [← hTT] at h2 ⊢
    exact thr_mono LL (n + m) i j h1 h2
  have inn : ∀ k, k < n + m → Go.Proofs.YtolblldpdgfkmaaDoor.sz LL k ≠ 0 → ∃ i, i < T.length ∧ T.getD i 0 = k := fun k h1 h2 => by
    rw [← hTT]
    exact thr_in LL (n + m) k h1 h2
  have hfst := thr_fst LL (n + m) n m rfl h.n1 h.n2 h.m8 ht
  rw [hTT] at hf ht hfst ⊢
  have hl : len = stN s.size n := by
    have h1 := hf.1 0 (by omega)
    have h2 := get 0 (by omega)
    rw [sz_set LL x _ X hxl] at h1
    by_cases q : T.getD 0 0 = x
    · rw [if_pos q] at h1; omega
    · rw [if_neg q] at h1; rw [← h1]; exact (h.sz h2.1 h2.2).1
  have szs : ∀ k, k < n + m → Go.Proofs.YtolblldpdgfkmaaDoor.sz (LL.set x X) k ≠ 0 → Go.Proofs.YtolblldpdgfkmaaDoor.sz LL k ≠ 0 := fun k _ hs => by
    rw [sz_set LL x k X hxl] at hs
    by_cases q : k = x
    · rw [q]; exact hxs
    · rw [if_neg q] at hs; exact hs
  have row : ∀ q, q < len → ∀ r, r < n → T.getD r 0 ≠ x → rK n (y q) (wt n (T.getD r 0)) = gB ((spL s n m).getD (T.getD r 0) ByteArray.empty) q := fun q hq r hr hne => by
    rw [hf.2 q hq r hr, getD_set LL x _ X hxl, if_neg hne]
    have h2 := get r (by omega)
    rw [(h.sz h2.1 h2.2).2]
  constructor
  · rintro ⟨k, h1, h2, h3, _⟩
    obtain ⟨i, hi, e⟩ := inn k h2 (szs k h2 h3)
    refine Classical.byContradiction (fun hc => ?_)
    have hi2 : i < n := by omega
    by_cases q : i = n - 1
    · rw [q] at e; omega
    · have := mono i (n - 1) (by omega) (by omega)
      omega
  · intro hc
    obtain ⟨ix, hix, ex⟩ := inn x hx hxs
    by_cases hin : ix < n
    case neg =>
      -- all the first ones are right
      have hne : ∀ r, r < n → T.getD r 0 ≠ x := fun r hr e => by
        have := mono r ix (by omega) hix
        omega
      refine ⟨x, ?_, hx, ?_, ?_⟩
      · rw [← ex]; exact mono (n - 1) ix (by omega) hix
      · rw [sz_set LL x x X hxl, if_pos rfl]; omega
      · rw [getD_set LL x x X hxl, if_pos rfl]
        intro e
        refine hXq ?_
        rw [e]
        unfold sayT
        rw [gB_str _ _ q0 (by omega)]
        exact uniq h.n2 h.m8 (fun r => T.getD r 0) (fun r hr => (get r (by omega)).1) hfst.inj q0 hq0 (y q0) (fun r hr => row q0 (by omega) r hr (hne r hr)) x hx
    case pos =>
      obtain ⟨k0, hk0⟩ : ∃ k, T.getD n 0 = k := ⟨_, rfl⟩
      have hg0 := get n (by omega)
      rw [hk0] at hg0
      have hk0x : k0 ≠ x := fun e => by
        have := mono ix n hin (by omega)
        omega
      refine ⟨k0, by rw [← hk0]; exact mono (n - 1) n (by omega) (by omega), hg0.1, ?_, ?_⟩
      · rw [sz_set LL x k0 X hxl, if_neg hk0x]; exact hg0.2
      · rw [getD_set LL x k0 X hxl, if_neg hk0x, (h.sz hg0.1 hg0.2).2]
        intro e
        have hsay : rK n (y q0) (wt n k0) = gB ((spL s n m).getD k0 ByteArray.empty) q0 := by
          rw [e]
          unfold sayT
          rw [gB_str _ _ q0 (by omega)]
        have hrows := uniq (s := s) (m := m) h.n2 h.m8 (fun r => if r = ix then k0 else T.getD r 0) (fun r hr => by
          by_cases q : r = ix
          · simp only [if_pos q]; exact hg0.1
          · simp only [if_neg q]; exact (get r (by omega)).1) (fun r t hr ht2 he => by
          by_cases q1 : r = ix
          · by_cases q2 : t = ix
            · rw [q1, q2]
            · simp only [if_pos q1, if_neg q2] at he
              have := mono t n ht2 (by omega)
              omega
          · by_cases q2 : t = ix
            · simp only [if_neg q1, if_pos q2] at he
              have := mono r n hr (by omega)
              omega
            · simp only [if_neg q1, if_neg q2] at he
              exact hfst.inj r t hr ht2 he) q0 hq0 (y q0) (fun r hr => by
          by_cases q : r = ix
          · simp only [if_pos q]; exact hsay
          · simp only [if_neg q]
            exact row q0 (by omega) r hr (fun e2 => q (hfst.inj r ix hr hin (by show T.getD r 0 = T.getD ix 0; rw [e2, ex])))) x hx
        refine hXq ?_
        rw [← hrows]
        have h9 := hf.2 q0 (by omega) ix hin
        rw [ex, getD_set LL x x X hxl, if_pos rfl] at h9
        exact h9.symm
end Go.Proofs.YtolblldpdgfkmaaDoor
namespace Go.Proofs.YtolblldpdgfkmaaDoor
open Go.RowKit
set_option maxRecDepth 100000
theorem nums_ext (b : ByteArray) (i j : Nat) : nums (b.extract i j) = ((nums b).drop i).take (j - i) := by
  unfold nums
  rw [← List.map_drop, ← List.map_take]
  congr 1
  show (b.extract i j).data.toList = _
  rw [ByteArray.data_extract, Array.toList_extract, List.extract_eq_take_drop]
theorem nums_inj {a b : ByteArray} (h : nums a = nums b) : a = b := by rw [← strOfNums_nums a, h, strOfNums_nums]
/-- what is cut into pieces of one size is those pieces, one after another -/
theorem cat_cut (L : List Int) (l : Nat) : ∀ k, ((List.range k).map (fun i => (L.drop (i * l)).take l)).flatten = L.take (k * l)
  | 0 => by simp
  | k + 1 => by
    rw [List.range_succ, List.map_append, List.flatten_append, cat_cut L l k, Nat.succ_mul, List.take_add]
    simp
theorem cat_spD (s : ByteArray) (n : Nat) (hn : 1 ≤ n) : catB (spD s n) = stB s n := by
  apply nums_inj
  rw [catB_nums]
  unfold spD
  rw [List.map_map]
  have e : (List.range n).map (nums ∘ fun i => (stB s n).extract (i * stN s.size n) (i * stN s.size n + stN s.size n)) = (List.range n).map (fun i => ((nums (stB s n)).drop (i * stN s.size n)).take (stN s.size n)) := by
    refine List.map_congr_left (fun i _ => ?_)
    show nums _ = _
    rw [nums_ext, Nat.add_sub_cancel_left]
  rw [e, cat_cut, List.take_of_length_le]
  rw [nums_len, stB_size s n hn]
  exact Nat.le_refl _
theorem Part.str {s : ByteArray} {n m : Nat} {LL : List ByteArray} (h : Part s n m LL) (ht : n ≤ (thr LL (n + m)).length) {len : Nat} {y : Nat → Nat → G} (hf : Fits LL (n + m) n len y) : strT n len y LL = stB s n := by
  rw [← cat_spD s n h.n1]
  unfold strT
  congr 1
  apply List.ext_getElem
  · simp [spD_len]
  · intro i h1 h2
    rw [spD_len] at h2
    have e := h.fil ht hf i (by omega)
    rw [List.getElem_map, List.getElem_range, e, spL_lt s n m i h2, List.getD_eq_getElem?_getD, List.getElem?_eq_getElem (by rw [spD_len]; exact h2)]
    rfl
theorem st_nums (s : ByteArray) (n : Nat) (hs : s.size ≤ 60000) : nums (stB s n) = hd4 s.size ++ nums s ++ List.replicate (stZ s.size n) 0 := by
  have hz : Bytes (List.replicate (stZ s.size n) 0) := fun j => by
    by_cases h : j < stZ s.size n
    · simp [h]
    · rw [List.getD_eq_getElem?_getD, List.getElem?_eq_none (by simpa using h)]; decide
  unfold stB
  rw [nums_app, nums_app, nums_strOfNums _ (hd4_bytes s.size (by omega)), nums_strOfNums _ hz]
theorem st_byN (s : ByteArray) (n j : Nat) (hs : s.size ≤ 60000) (hj : j < 4) : byN (stB s n) j = ((hd4 s.size).getD j 0).toNat := by
  unfold byN
  rw [st_nums s n hs, List.append_assoc, List.getD_eq_getElem?_getD, List.getElem?_append_left (by simpa [hd4] using hj), ← List.getD_eq_getElem?_getD]
theorem st_txV (s : ByteArray) (n : Nat) (hs : s.size ≤ 60000) : txV (stB s n) = s.size := by
  show ((((0 * 256 + byN (stB s n) 0) * 256 + byN (stB s n) 1) * 256) + byN (stB s n) 2) * 256 + byN (stB s n) 3 = s.size
  rw [st_byN s n 0 hs (by decide), st_byN s n 1 hs (by decide), st_byN s n 2 hs (by decide), st_byN s n 3 hs (by decide)]
  show ((((0 * 256 + ((s.size : Int) / 16777216).toNat) * 256 + ((s.size : Int) / 65536).toNat) * 256) + ((s.size : Int) / 256 % 256).toNat) * 256 + ((s.size : Int) % 256).toNat = s.size
  omega
theorem st_ok (s : ByteArray) (n : Nat) (hn : 1 ≤ n) (hs : s.size ≤ 60000) : txOk (stB s n) n ∧ txT (stB s n) = s := by
  have hv := st_txV s n hs
  have hz := stB_size s n hn
  have hl := stN_le s.size n hn
  refine ⟨⟨by omega, by omega, by rw [hv]; exact hz, fun j h1 h2 => ?_⟩, ?_⟩
  · rw [hv] at h1
    unfold byN
    rw [st_nums s n hs, List.getD_eq_getElem?_getD, List.getElem?_append_right (by rw [List.length_append, nums_len]; exact h1)]
    by_cases q : j - (hd4 s.size ++ nums s).length < stZ s.size n
    · rw [List.getElem?_replicate, if_pos q]; rfl
    · rw [List.getElem?_eq_none (by rw [List.length_replicate]; omega)]; rfl
  · unfold txT
    rw [hv]
    apply nums_inj
    rw [nums_ext, st_nums s n hs, Nat.add_sub_cancel_left, List.append_assoc]
    show ((hd4 s.size ++ _).drop (hd4 s.size).length).take _ = _
    rw [List.drop_left, ← nums_len s, List.take_left]
theorem Part.less {s : ByteArray} {n m : Nat} {LL : List ByteArray} (h : Part s n m LL) (x : Nat) (hx : x < n + m) : Part s n m (LL.set x ⟨#[]⟩) := by
  refine ⟨h.n1, h.n2, h.m8, h.sz6, by rw [List.length_set]; exact h.len, fun j hj => ?_⟩
  rw [getD_set LL x j _ (by rw [h.len]; exact hx)]
  by_cases q : j = x
  · rw [if_pos q]; exact .inr rfl
  · rw [if_neg q]; exact h.at' j hj
theorem Part.all {s : ByteArray} {n m : Nat} (hn1 : 1 ≤ n) (hn2 : n ≤ 16) (hm : m ≤ 8) (hs : s.size ≤ 60000) : Part s n m (spL s n m) := ⟨hn1, hn2, hm, hs, by simp [spL, spD_len], fun _ _ => .inl rfl⟩
theorem Part.all_thr (s : ByteArray) (n m : Nat) (hn1 : 1 ≤ n) : (thr (spL s n m) (n + m)).length = n + m := by
  unfold thr
  rw [List.filter_eq_self.2 (fun j hj => by
    have h1 := spL_size s n m j hn1 (List.mem_range.1 hj)
    have h2 := stN_pos s.size n hn1
    refine decide_eq_true (fun q => ?_)
    unfold Go.Proofs.YtolblldpdgfkmaaDoor.sz at q
    omega), List.length_range]
/-- a text with one byte of it spoilt -/
def spo (X : ByteArray) (y v : Nat) : ByteArray := strOfNums ((nums X).set y (((byN X y ^^^ v : Nat) : Int)))
theorem spo_bytes (X : ByteArray) (y v : Nat) (hv : v < 256) : Bytes ((nums X).set y (((byN X y ^^^ v : Nat) : Int))) := by
  intro j
  have h1 := nums_bytes X j
  have h2 := xor_lt8 (byN_lt X y) hv
  rw [List.getD_eq_getElem?_getD, List.getElem?_set]
  by_cases q : y = j
  · rw [if_pos q]
    by_cases q2 : y < (nums X).length
    · rw [if_pos q2]
      show 0 ≤ (((byN X y ^^^ v : Nat) : Int)) ∧ (((byN X y ^^^ v : Nat) : Int)) < 256
      omega
    · rw [if_neg q2]; decide
  · rw [if_neg q, ← List.getD_eq_getElem?_getD]; exact h1
theorem spo_size (X : ByteArray) (y v : Nat) : (spo X y v).size = X.size := by
  unfold spo
  rw [strOfNums_size, List.length_set, nums_len]
theorem spo_ne (X : ByteArray) (y v : Nat) (hy : y < X.size) (hv : v < 256) (hv1 : 1 ≤ v) : gB (spo X y v) y ≠ gB X y := by
  intro e
  have h1 := byN_lt X y
  have h2 := xor_lt8 h1 hv
  have e2 : (nums (spo X y v)).getD y 0 = (nums X).getD y 0 := by rw [← gB_v, e, gB_v]
  unfold spo at e2
  rw [nums_strOfNums _ (spo_bytes X y v hv), List.getD_eq_getElem?_getD, List.getElem?_set, if_pos rfl, if_pos (by rw [nums_len]; exact hy), ← byN_v] at e2
  have e3 : byN X y ^^^ v = byN X y := by
    have : (((byN X y ^^^ v : Nat) : Int)) = ((byN X y : Nat) : Int) := e2
    omega
  have e4 : v = 0 := by
    have h5 : byN X y ^^^ (byN X y ^^^ v) = byN X y ^^^ byN X y := by rw [e3]
    rw [← Nat.xor_assoc, Nat.xor_self, Nat.zero_xor] at h5
    exact h5
  omega
theorem Part.szb {s : ByteArray} {n m : Nat} {LL : List ByteArray} (h : Part s n m LL) (j : Nat) : Go.Proofs.YtolblldpdgfkmaaDoor.sz LL j ≤ 9223372036854775807 := by
  by_cases hj : j < n + m
  · by_cases hs : Go.Proofs.YtolblldpdgfkmaaDoor.sz LL j = 0
    · omega
    · have h1 := (h.sz hj hs).1
      have h2 := stN_big s.size n h.n1 h.sz6
      omega
  · unfold Go.Proofs.YtolblldpdgfkmaaDoor.sz
    rw [List.getD_eq_getElem?_getD, List.getElem?_eq_none (by rw [h.len]; omega)]
    decide
end Go.Proofs.YtolblldpdgfkmaaDoor
namespace Go.Proofs.YtolblldpdgfkmaaDoor
open Go.RowKit
set_option maxRecDepth 100000
/-- the shards of data, as the first ones say -/
def sdL (n len : Nat) (y : Nat → Nat → G) : List ByteArray := (List.range n).map (fun i => strOfNums (gL len (fun q => y q i)))
theorem sdL_len (n len : Nat) (y : Nat → Nat → G) : (sdL n len y).length = n := by simp [sdL]
theorem sdL_at {n : Nat} (len : Nat) (y : Nat → Nat → G) {i : Nat} (hi : i < n) : (sdL n len y).getD i ByteArray.empty = strOfNums (gL len (fun q => y q i)) := by
  unfold sdL
  rw [List.getD_eq_getElem?_getD, List.getElem?_map, List.getElem?_range hi]
  rfl
theorem str_len (len : Nat) (F : Nat → G) : (strOfNums (gL len F)).size = len := by
  rw [strOfNums_size, gL_len]
def sayL (n len : Nat) (y : Nat → Nat → G) (k : Nat) : List ByteArray := (List.range k).map (fun j => sayT n len j y)
theorem sayL_at {n len : Nat} {y : Nat → Nat → G} {k i : Nat} (hi : i < k) : (sayL n len y k).getD i ByteArray.empty = sayT n len i y := by
  unfold sayL
  rw [List.getD_eq_getElem?_getD, List.getElem?_map, List.getElem?_range hi]
  rfl
theorem say_all (n m len : Nat) (y : Nat → Nat → G) : sdL n len y ++ (List.range m).map (fun j => shT n (n + j) len (sdL n len y)) = sayL n len y (n + m) := by
  unfold sayL
  rw [List.range_add, List.map_append, List.map_map]
  congr 1
  · unfold sdL
    refine List.map_congr_left (fun i hi => ?_)
    unfold sayT
    congr 1
    exact gL_congr (fun q _ => (rK_unit n i (y q) (List.mem_range.1 hi)).symm)
  · refine List.map_congr_left (fun j _ => ?_)
    show shT n (n + j) len (sdL n len y) = sayT n len (n + j) y
    unfold shT sayT
    congr 1
    refine gL_congr (fun q hq => ?_)
    unfold shF rK
    refine sm_congr (fun i hi => ?_)
    rw [sdL_at len y (List.mem_range.1 hi), gB_str len _ q hq]
theorem take_thr (l : List Nat) (n : Nat) (h : n ≤ l.length) : (l.take n).map (fun (j : Nat) => (j : Int)) = (List.range n).map (fun r => ((l.getD r 0 : Nat) : Int)) := by
  apply List.ext_getElem
  · simp; omega
  · intro i h1 h2
    simp at h1 h2
    simp [List.getD_eq_getElem?_getD, List.getElem?_eq_getElem (show i < l.length by omega)]
theorem thr_mem2 {L : List ByteArray} {N r : Nat} (hr : r < (thr L N).length) : (thr L N).getD r 0 < N ∧ sz L ((thr L N).getD r 0) ≠ 0 := by
  have h : (thr L N).getD r 0 ∈ thr L N := by
    rw [List.getD_eq_getElem?_getD, List.getElem?_eq_getElem hr]
    exact List.getElem_mem hr
  unfold thr at h ⊢
  have h2 := List.mem_filter.1 h
  exact ⟨List.mem_range.1 h2.1, of_decide_eq_true h2.2⟩
def SaiQ (L : List ByteArray) (N n : Nat) (w : World) (e : Ending) (w' : World) : Prop := Below w.heap.size w w' ∧ (¬ frm L N → e = .returned (.tuple #[.slice none 0 0, .int .i64 181])) ∧ (frm L N → (thr L N).length < n → e = .returned (.tuple #[.slice none 0 0, .int .i64 182])) ∧ (frm L N → n ≤ (thr L N).length → ∃ len y p c, 1 ≤ len ∧ len ≤ 60004 ∧ Fits L N n len y ∧ e = .returned (.tuple #[.slice p N c, .int .i64 0]) ∧ w'.ownsRow w.heap.size 9 1 (.slice p N c) N ((sayL n len y N).map Value.string))
theorem rsaid_bad (w : World) (N c : Nat) (p : Option Addr) (n m : Int) (h : cntB n m = false ∨ (N : Int) ≠ n + m) (hn : -100 ≤ n + m ∧ n + m ≤ 100 ∨ cntB n m = false) : Calls Tryd.prog 22 #[.slice p N c, .int .i64 n, .int .i64 m] w fun e w' => e = .returned (.tuple #[.slice none 0 0, .int .i64 180]) ∧ w' = w := by
  have HF := hide (rfirst_bad w N c p n m h hn)
  clear h hn
  go_enter Tryd.func22, Tryd.ntmps22
  go_wp2_with fail
  refine (unhide HF).mono ?_
  rintro e w1 ⟨rfl, hw⟩
  subst w1
  go_wp2
  go_ret2
  exact ⟨rfl, rfl⟩
set_option maxHeartbeats 8000000 in
theorem rsaid_any (w : World) (L : List ByteArray) (N n m B c : Nat) (p : Option Addr) (hN : L.length = N) (hNm : N = n + m) (hn1 : 1 ≤ n) (hn2 : n ≤ 16) (hm : m ≤ 8) (hL : GTx w B p L) (hB : B ≤ w.heap.size) (hsb : ∀ j, sz L j ≤ 9223372036854775807) : Calls Tryd.prog 22 #[.slice p N c, .int .i64 (n : Int), .int .i64 (m : Int)] w (SaiQ L N n w) := by
  have HF := hide (rfirst_any w L N n m B c p hN hNm hn1 hn2 hm hL hB hsb)
  have HL := hide (And.intro hN (And.intro hNm (And.intro hL hB)))
  have hN24 : N ≤ 24 := by omega
  clear hN hNm hL hB hsb
  go_enter Tryd.func22, Tryd.ntmps22
  go_wp2_with fail
  refine (unhide HF).mono ?_
  rintro e w1 ⟨hb, h1, h2, h3⟩
  have HB := hide hb
  have hbs := hb.size
  clear hb HF
  by_cases hf : frm L N
  case neg =>
    obtain rfl := h1 hf
    have HE := hide (show SaiQ L N n w (.returned (.tuple #[.slice none 0 0, .int .i64 181])) w1 from ⟨unhide HB, fun _ => rfl, fun q => absurd q hf, fun q => absurd q hf⟩)
    clear hf h1 h2 h3
    go_wp2
    go_ret2
    exact unhide HE
  by_cases ht : (thr L N).length < n
  · obtain rfl := h2 hf ht
    have HE := hide (show SaiQ L N n w (.returned (.tuple #[.slice none 0 0, .int .i64 182])) w1 from ⟨unhide HB, fun q => absurd hf q, fun _ _ => rfl, fun _ q => by omega⟩)
    clear hf h1 h2 h3 ht
    go_wp2
    go_ret2
    exact unhide HE
  obtain ⟨pf, cf, rfl, hgf⟩ := h3 hf (by omega)
  have hfst := thr_fst L N n m (unhide HL).2.1 hn1 hn2 hm (by omega)
  obtain ⟨y, hy⟩ := fits_ex hfst
  obtain ⟨len, hlen, hszl⟩ := id hf
  have hfit : ∀ r, r < n → sz L ((thr L N).getD r 0) = len := fun r hr => by
    have h9 := thr_mem2 (L := L) (N := N) (r := r) (by omega)
    exact hszl _ h9.1 h9.2
  have hl1 : 1 ≤ len := by
    have h9 := thr_mem2 (L := L) (N := N) (r := 0) (by omega)
    have h8 := hfit 0 (by omega)
    omega
  rw [take_thr _ n (by omega)] at hgf
  have HFO := hide (rfound_any w1 L w1.heap.size N n c cf len p pf (fun r => (thr L N).getD r 0) y (unhide HL).1 hfst (fun r hr => (thr_mem2 (by omega)).1) hl1 hlen hfit (gtx_up ((unhide HL).2.2.1.below ((unhide HB).mono (unhide HL).2.2.2)) (Nat.le_trans (unhide HL).2.2.2 hbs)) hgf (Nat.le_refl _) (fun q _ r hr => hy q r hr))
  have HQ := hide (show ∀ W p5 c5, W.ownsRow w1.heap.size 9 1 (.slice p5 N c5) N ((sayL n len y N).map Value.string) → Below w1.heap.size w1 W → SaiQ L N n w (.returned (.tuple #[.slice p5 N c5, .int .i64 0])) W from fun W p5 c5 ho hb => ⟨(unhide HB).trans (hb.mono hbs), fun q => absurd hf q, fun _ q => absurd q ht, fun _ _ => ⟨len, y, p5, c5, hl1, hlen, ⟨hfit, fun q _ r hr => hy q r hr⟩, rfl, gr_mono ho hbs⟩⟩)
  have HSA := hide (say_all n m len y)
  rw [← (unhide HL).2.1] at HSA
  have HD1 := hide (And.intro (sdL_len n len y) (fun i (hi : i < n) => show ((sdL n len y).getD i ByteArray.empty).size = len from by rw [sdL_at len y hi, str_len]))
  change Hid (Calls _ _ _ _ (fun e w' => ∃ x, e = .returned x ∧ w'.ownsRow w1.heap.size 9 1 x n ((sdL n len y).map Value.string) ∧ Below w1.heap.size w1 w')) at HFO
  obtain ⟨D, hD⟩ : ∃ q, sdL n len y = q := ⟨_, rfl⟩
  rw [hD] at HFO HSA HD1
  obtain ⟨i0, hi, hz0, hz1, hz2⟩ := info_parts gr_str
  have HI := hide (And.intro hi (And.intro hz0 (And.intro hz1 hz2)))
  clear hi hz0 hz1 hz2 h1 h2 h3 hf ht hfst hy hfit hszl hgf hD
  go_wp2_with fail
  refine (unhide HFO).mono ?_
  rintro e wi ⟨x, rfl, ho, hb⟩
  clear HFO
  obtain ⟨pw0, cw, rfl, _⟩ := gr_form ho
  obtain ⟨gl, rfl, _, _, hgl3, hgl4⟩ := gr_cell ho 0 (by omega)
  have HLD := hide (And.intro ho hb)
  have hsz := hb.size
  have hgl5 : gl < wi.heap.size := hgl4
  have HE0 := hide (show (wi.alloc (.cells #[] 9)).ownsRow wi.heap.size 9 1 (.slice (some ⟨wi.heap.size, 0, none⟩) 0 0) 0 [] from ⟨rfl, .inr ⟨wi.heap.size, 0, #[], rfl, Nat.le_refl _, Blk.new wi 9 #[], Nat.le_refl _, by unfold maxLen; omega, rfl, rfl⟩⟩)
  have HSRC := hide (show ∀ (j : Nat) u, (D.map Value.string)[j]? = some u → (wi.alloc (.cells #[] 9)).cell? ((⟨gl, 0, none⟩ : Addr).add j) = some u from fun j u hu => by
    obtain ⟨gx, ex, h1, _, _, _⟩ := gr_cell ho j (by
      have := (List.getElem?_eq_some_iff.1 hu).1
      rw [List.length_map, (unhide HD1).1] at this
      exact this)
    obtain rfl : gx = gl := by injection ex with e; injection e with e; exact e.symm
    rw [Addr.add_mid, Nat.zero_add, World.cell?_alloc_lt _ _ _ hgl4, h1, hu])
  clear ho hb hgl4
  go_wp2_with (refine wpList_append_own _ rfl (.tmp 28) (.tmp 29) 22 rfl wi.heap.size 9 i0 (.string ⟨#[]⟩) 1 16 Tryd.underlying22 (unhide HI).1 (unhide HI).2.1 (unhide HI).2.2.1 (unhide HI).2.2.2 rfl (by decide) _ 0 [] rfl (unhide HE0) ⟨gl, 0, none⟩ n cw (D.map Value.string) rfl (by rw [List.length_map, (unhide HD1).1]; omega) (unhide HSRC) (by simp [Value.oneCell']) (by unfold maxLen; omega) (by omega) (by simp) ?_)
  intro v2 w2 ho2 hg2 _
  have ho2' : w2.ownsRow wi.heap.size 9 1 v2 n (D.map Value.string) := by simpa using ho2
  have hb2 : Below wi.heap.size wi w2 := ((Below.refl _ wi).alloc (Nat.le_refl _) _).grown hg2 (by simp) (fun q hq => by
    have := ((unhide HE0).lt q hq).1
    exact this)
  obtain ⟨p2, c2, rfl, _⟩ := gr_form ho2'
  have HX2 := hide (show w2.ownsRow wi.heap.size 9 1 (.slice p2 n c2) (n + 0) ((D ++ (List.range 0).map (fun j => shT n (n + j) len D)).map Value.string) ∧ Below wi.heap.size wi w2 from ⟨by simpa using ho2', hb2⟩)
  clear ho2 hg2 ho2' hb2 HE0 HSRC
  go_wp2
  go_loopw [11, 12] (fun u x wr => ∃ t : Nat, t ≤ m ∧ x = .int .i64 ((n + t : Nat) : Int) ∧ wr.ownsRow wi.heap.size 9 1 u (n + t) ((D ++ (List.range t).map (fun j => shT n (n + j) len D)).map Value.string) ∧ Below wi.heap.size wi wr) (fun _ x _ => n + m - (intOf x).toNat)
  case atStart => exact ⟨0, by omega, rfl, (unhide HX2).1, (unhide HX2).2⟩
  case round =>
  obtain ⟨t, ht, rfl, ho, hb⟩ := hrel
  obtain ⟨wj, rfl⟩ : ∃ q, q = wr := ⟨_, rfl⟩
  obtain ⟨pw, cx, rfl, hcx⟩ := gr_form ho
  clear HX2
  by_cases htr : t < m
  case pos =>
    have htr' : ((n + t : Nat) : Int) < (n : Int) + (m : Int) := by omega
    have HSH := hide (rshard_any wj D wi.heap.size n (n + t) len cw (some ⟨gl, 0, none⟩) (unhide HD1).1 hn1 hn2 (by omega) (by omega) (unhide HD1).2 ((own_gtx (unhide HD1).1 (unhide HLD).1).below hb) hb.size)
    have HO := hide (And.intro ho hb)
    have hsj := hb.size
    obtain ⟨kt, hkt⟩ : ∃ q, n + t = q := ⟨_, rfl⟩
    obtain ⟨X, hX⟩ : ∃ q, shT n (n + t) len D = q := ⟨_, rfl⟩
    rw [hX] at HSH
    rw [hkt] at HSH HO htr' ⊢
    have HKT := hide (And.intro hkt hX)
    have hkt3 : kt ≤ 24 := by omega
    clear ho hb hcx hkt hX
    go_wp2_with fail
    refine (unhide HSH).mono ?_
    rintro e y1 ⟨rfl, hy1⟩
    have HA := hide (show (y1.alloc (.cells #[.string X] 9)).ownsRow wi.heap.size 9 1 (.slice pw kt cx) kt ((D ++ (List.range t).map (fun j => shT n (n + j) len D)).map Value.string) from (owns_only (unhide HO).1 (Only.of_below (P := fun _ => False) hy1) (fun _ _ q => q)).alloc _)
    have HB2 := hide (show Below wi.heap.size wi y1 from (unhide HO).2.trans (hy1.mono hsj))
    have hsy := (unhide HB2).size
    clear hy1 HO HSH
    go_wp2_with (refine wpList_append_lies _ rfl (.tmp 42) (.tmp 44) 22 rfl wi.heap.size 9 i0 (.string ⟨#[]⟩) 1 16 Tryd.underlying22 (unhide HI).1 (unhide HI).2.1 (unhide HI).2.2.1 (unhide HI).2.2.2 rfl (by decide) _ kt _ rfl (unhide HA) ⟨y1.heap.size, 0, none⟩ 1 1 [.string X] rfl rfl (fun q u hu => gr_new y1 9 _ q u hu) (by simp [Value.oneCell']) (by decide) (by unfold maxLen; omega) (by omega) (by simp; omega) (y1.heap.size + 1) (by simp) ?_)
    intro g5 cap5 x5 ho5 hg5 _ _
    have HN := hide (show x5.ownsRow wi.heap.size 9 1 (.slice (some ⟨g5, 0, none⟩) (kt + 1) cap5) (n + (t + 1)) ((D ++ (List.range (t + 1)).map (fun j => shT n (n + j) len D)).map Value.string) ∧ Below wi.heap.size wi x5 from ⟨by
      rw [List.range_succ, List.map_append (l₂ := [t]), List.map_singleton, (unhide HKT).2, ← List.append_assoc, List.map_append (l₂ := [X]), List.map_singleton, ← Nat.add_assoc, (unhide HKT).1, List.map_append, List.map_map, List.append_assoc]
      exact ho5, ((unhide HB2).alloc (unhide HB2).size _).grown hg5 (by simp; omega) (fun q hq => ((unhide HA).lt q hq).1)⟩)
    clear ho5 hg5 HA HB2
    have hkt4 : kt = n + t := (unhide HKT).1.symm
    go_wp2
    go_roundw
    case rel => exact ⟨t + 1, by omega, by go_num, (unhide HN).1, (unhide HN).2⟩
    case measure => simp [intOf]; omega
  obtain rfl : t = m := by omega
  have htr' : ¬ ((n + t : Nat) : Int) < (n : Int) + (t : Int) := by omega
  have HF := hide (show wj.ownsRow w1.heap.size 9 1 (.slice pw (n + t) cx) (n + t) ((sayL n len y N).map Value.string) ∧ Below w1.heap.size w1 wj from by
    refine ⟨?_, (unhide HLD).2.trans (hb.mono hsz)⟩
    rw [← unhide HSA]
    exact gr_mono ho hsz)
  clear ho hb hcx
  go_wp2
  go_ret2
  have hfin := unhide HF
  have hNm := (unhide HL).2.1
  rw [← hNm] at hfin ⊢
  exact unhide HQ _ _ _ hfin.1 hfin.2
end Go.Proofs.YtolblldpdgfkmaaDoor
namespace Go.Proofs.YtolblldpdgfkmaaDoor
open Go.RowKit
set_option maxRecDepth 100000
theorem emp_nil : (⟨#[]⟩ : ByteArray).toList = [] := by first | simp | decide +kernel | (unfold ByteArray.toList; unfold ByteArray.toList.loop; rfl)
theorem emp_no {S : ByteArray} (h : S.size ≠ 0) : S.toList.isEmpty = false ∧ (S.toList == (⟨#[]⟩ : ByteArray).toList) = false := by
  have h1 : (S.toList == (⟨#[]⟩ : ByteArray).toList) = false := str_ne (fun e => h (by rw [e]; rfl))
  refine ⟨?_, h1⟩
  rw [emp_nil] at h1
  cases q : S.toList with
  | nil => rw [q] at h1; cases h1
  | cons _ _ => rfl
theorem emp_yes {S : ByteArray} (h : S.size = 0) : S.toList.isEmpty = true ∧ (S.toList == (⟨#[]⟩ : ByteArray).toList) = true := by
  have h1 : S = ⟨#[]⟩ := by
    apply nums_inj
    rw [List.eq_nil_of_length_eq_zero (show (nums S).length = 0 by rw [nums_len]; exact h)]
    rfl
  subst h1
  rw [emp_nil]
  decide
/-- The first ones are as they say. -/
theorem first_say {L : List ByteArray} {N n len : Nat} {y : Nat → Nat → G} (hf : Fits L N n len y) {r : Nat} (hr : r < n) : L.getD ((thr L N).getD r 0) ByteArray.empty = sayT n len ((thr L N).getD r 0) y := by
  unfold sayT
  rw [gL_congr (fun q hq => hf.2 q hq r hr)]
  exact (txt_gB _ len (hf.1 r hr)).symm
theorem thr_first {L : List ByteArray} {N n k : Nat} (hn1 : 1 ≤ n) (hk : k < N) (hs : sz L k ≠ 0) (hle : k ≤ (thr L N).getD (n - 1) 0) : ∃ r, r < n ∧ (thr L N).getD r 0 = k := by
  obtain ⟨i, hi, e⟩ := thr_in L N k hk hs
  by_cases h : i < n
  · exact ⟨i, h, e⟩
  · have := thr_mono L N (n - 1) i (by omega) hi
    omega
theorem wrong_iff {L : List ByteArray} {N n len : Nat} {y : Nat → Nat → G} (hf : Fits L N n len y) (hn1 : 1 ≤ n) : (∃ k, k < N ∧ sz L k ≠ 0 ∧ L.getD k ByteArray.empty ≠ sayT n len k y) ↔ ∃ k, (thr L N).getD (n - 1) 0 < k ∧ k < N ∧ sz L k ≠ 0 ∧ L.getD k ByteArray.empty ≠ sayT n len k y := by
  constructor
  · rintro ⟨k, h1, h2, h3⟩
    refine ⟨k, ?_, h1, h2, h3⟩
    by_cases h : (thr L N).getD (n - 1) 0 < k
    · exact h
    · obtain ⟨r, hr, e⟩ := thr_first hn1 h1 h2 (by omega)
      exact absurd (by rw [← e]; exact first_say hf hr) h3
  · rintro ⟨k, _, h⟩
    exact ⟨k, h⟩
theorem mix_step (L Y : List ByteArray) (K k : Nat) (S : ByteArray) (hS : L.getD k ByteArray.empty = S) (hs : S.size ≠ 0) : ((List.range K).map (fun j => Value.string (if j < k ∧ sz L j ≠ 0 then L.getD j ByteArray.empty else Y.getD j ByteArray.empty))).set k (.string S) = ((List.range K).map (fun j => Value.string (if j < (k + 1) ∧ sz L j ≠ 0 then L.getD j ByteArray.empty else Y.getD j ByteArray.empty))) := by
  apply List.ext_getElem
  · simp
  · intro i h1 h2
    simp only [List.getElem_set, List.getElem_map, List.getElem_range]
    by_cases e : k = i
    · subst e
      rw [if_pos rfl, if_pos ⟨by omega, by unfold sz; rw [hS]; exact hs⟩, hS]
    · rw [if_neg e]
      by_cases h : i < k ∧ sz L i ≠ 0
      · rw [if_pos h, if_pos ⟨by omega, h.2⟩]
      · rw [if_neg h, if_neg (fun q => h ⟨by omega, q.2⟩)]
theorem mix_same (L Y : List ByteArray) (K k : Nat) (hs : sz L k = 0) : ((List.range K).map (fun j => Value.string (if j < k ∧ sz L j ≠ 0 then L.getD j ByteArray.empty else Y.getD j ByteArray.empty))) = ((List.range K).map (fun j => Value.string (if j < (k + 1) ∧ sz L j ≠ 0 then L.getD j ByteArray.empty else Y.getD j ByteArray.empty))) := by
  refine List.map_congr_left (fun i _ => ?_)
  by_cases h : i < k ∧ sz L i ≠ 0
  · rw [if_pos h, if_pos ⟨by omega, h.2⟩]
  · rw [if_neg h, if_neg (fun q => h ⟨by
      by_cases e : i = k
      · exact absurd hs (by rw [← e]; exact q.2)
      · omega, q.2⟩)]
set_option maxHeartbeats 4000000 in
theorem rreb_any (w : World) (L : List ByteArray) (N n m B c : Nat) (p : Option Addr) (hN : L.length = N) (hNm : N = n + m) (hn1 : 1 ≤ n) (hn2 : n ≤ 16) (hm : m ≤ 8) (hL : GTx w B p L) (hB : B ≤ w.heap.size) (hsb : ∀ j, sz L j ≤ 9223372036854775807) : Calls Tryd.prog 10 #[.slice p N c, .int .i64 (n : Int), .int .i64 (m : Int)] w (RebQ L N n w) := by
  have HF := hide (rsaid_any w L N n m B c p hN hNm hn1 hn2 hm hL hB hsb)
  obtain ⟨gl, ol, rfl, hgl, _⟩ := hL 0 (by omega)
  have HL := hide (show ∀ wz j, Below w.heap.size w wz → j < N → wz.cell? ⟨gl, ol + j, none⟩ = some (.string (L.getD j ByteArray.empty)) from fun wz j h hj => by
    obtain ⟨g2, o2, e2, hg2, hc2⟩ := hL j (by omega)
    obtain ⟨rfl, rfl⟩ : gl = g2 ∧ ol = o2 := by injection e2 with e2; injection e2 with e3 e4; exact ⟨e3, e4⟩
    exact (h.cell (p := ⟨gl, ol + j, none⟩) (by show gl < w.heap.size; omega)).trans hc2)
  have HSB := hide hsb
  have hN24 : N ≤ 24 := by omega
  clear hN hL hB hsb hNm
  go_enter Tryd.func10, Tryd.ntmps10
  go_wp2_with fail
  refine (unhide HF).mono ?_
  intro e w1 hsq
  have HU : ∃ (K : Nat) (p5 : Option Addr) (c5 : Nat) (E : Int) (Y : List ByteArray), e = .returned (.tuple #[.slice p5 K c5, .int .i64 E]) ∧ w1.ownsRow w.heap.size 9 1 (.slice p5 K c5) K (Y.map Value.string) ∧ Y.length = K ∧ K ≤ N ∧ (∀ W, Below w.heap.size w W → W.ownsRow w.heap.size 9 1 (.slice p5 K c5) K ((List.range K).map (fun j => Value.string (if j < K ∧ sz L j ≠ 0 then L.getD j ByteArray.empty else Y.getD j ByteArray.empty))) → RebQ L N n w (.returned (.tuple #[.slice p5 K c5, .int .i64 E])) W) := by
    obtain ⟨_, h1, h2, h3⟩ := hsq
    by_cases hf : frm L N
    case neg => exact ⟨0, none, 0, 181, [], h1 hf, World.ownsRow_nil _ _ _ _, rfl, Nat.zero_le _, fun W hb _ => ⟨hb, fun _ => rfl, fun q => absurd q hf, fun q => absurd q hf⟩⟩
    by_cases ht : (thr L N).length < n
    · exact ⟨0, none, 0, 182, [], h2 hf ht, World.ownsRow_nil _ _ _ _, rfl, Nat.zero_le _, fun W hb _ => ⟨hb, fun q => absurd hf q, fun _ _ => rfl, fun _ q => absurd ht (by omega)⟩⟩
    obtain ⟨len, y, p5, c5, hl1, hl2, hfit, he, ho⟩ := h3 hf (by omega)
    refine ⟨N, p5, c5, 0, sayL n len y N, he, ho, by simp [sayL], Nat.le_refl _, fun W hb hW => ⟨hb, fun q => absurd hf q, fun _ q => absurd q ht, fun _ _ => ⟨len, y, p5, c5, hl2, hfit, rfl, ?_⟩⟩⟩
    have e1 : filL n len y L N = ((List.range N).map (fun j => Value.string (if j < N ∧ sz L j ≠ 0 then L.getD j ByteArray.empty else (sayL n len y N).getD j ByteArray.empty))) := by
      unfold filL
      refine List.map_congr_left (fun j hj => ?_)
      have hj' := List.mem_range.1 hj
      rw [sayL_at hj']
      unfold filT
      by_cases h : sz L j = 0
      · rw [if_pos h, if_neg (fun q => q.2 h)]
      · rw [if_neg h, if_pos ⟨hj', h⟩]
    rw [e1]
    exact hW
  have hb := hsq.1
  clear hsq HF
  obtain ⟨K, p5, c5, E, Y, rfl, ho, hYK, hKN, hfin⟩ := HU
  have hbs := hb.size
  have HFIN := hide hfin
  have HX := hide (show w1.ownsRow w.heap.size 9 1 (.slice p5 K c5) K ((List.range K).map (fun j => Value.string (if j < 0 ∧ sz L j ≠ 0 then L.getD j ByteArray.empty else Y.getD j ByteArray.empty))) ∧ Below w.heap.size w w1 from ⟨by
    have e1 : ((List.range K).map (fun j => Value.string (if j < 0 ∧ sz L j ≠ 0 then L.getD j ByteArray.empty else Y.getD j ByteArray.empty))) = Y.map Value.string := by
      apply List.ext_getElem
      · simp [hYK]
      · intro i h1 h2
        have hi : i < Y.length := by simpa using h2
        simp [List.getD_eq_getElem?_getD, List.getElem?_eq_getElem hi]
    rw [e1]
    exact ho, hb⟩)
  clear hb ho hfin hYK
  go_wp2
  go_loopw [10] (fun i wr => ∃ k : Nat, k ≤ K ∧ i = .int .i64 (k : Int) ∧ Hid (wr.ownsRow w.heap.size 9 1 (.slice p5 K c5) K ((List.range K).map (fun j => Value.string (if j < k ∧ sz L j ≠ 0 then L.getD j ByteArray.empty else Y.getD j ByteArray.empty))) ∧ Below w.heap.size w wr)) (fun i _ => K - (intOf i).toNat)
  case atStart => exact ⟨0, by omega, rfl, HX⟩
  case round =>
  obtain ⟨k, hk, rfl, HR⟩ := hrel
  obtain ⟨wi, rfl⟩ : ∃ q, q = wr := ⟨_, rfl⟩
  clear HX
  by_cases hkn : k < K
  case neg =>
    obtain rfl : k = K := by omega
    have hkn' : ¬ (k : Int) < (k : Int) := by omega
    have HE := hide (unhide HFIN wi (unhide HR).2 (unhide HR).1)
    clear HFIN HR
    go_wp2
    go_ret2
    exact unhide HE
  have hkn' : (k : Int) < (K : Int) := by omega
  have hkN' : (k : Int) < (N : Int) := by omega
  have hk0 : (0 : Int) ≤ (k : Int) := by omega
  have hcl := unhide HL wi k (unhide HR).2 (by omega)
  obtain ⟨g5, rfl, hcx, hfx, _, _⟩ := gr_cell (unhide HR).1 k hkn
  rw [List.getElem?_map, List.getElem?_range hkn] at hcx
  simp only [Option.map_some] at hcx
  obtain ⟨S, hS⟩ : ∃ q, L.getD k ByteArray.empty = q := ⟨_, rfl⟩
  rw [hS] at hcl
  by_cases hs : S.size = 0
  case pos =>
    obtain ⟨hem1, hem2⟩ := emp_yes hs
    have HN := hide (show wi.ownsRow w.heap.size 9 1 (.slice (some ⟨g5, 0, none⟩) K c5) K ((List.range K).map (fun j => Value.string (if j < (k + 1) ∧ sz L j ≠ 0 then L.getD j ByteArray.empty else Y.getD j ByteArray.empty))) ∧ Below w.heap.size w wi from ⟨by rw [← mix_same L Y K k (by unfold sz; rw [hS]; exact hs)]; exact (unhide HR).1, (unhide HR).2⟩)
    clear HFIN HR hcx hfx
    go_wp2
    go_roundw
    case rel => exact ⟨k + 1, by omega, by go_num, HN⟩
    case measure => simp [intOf] <;> omega
  obtain ⟨hem1, hem2⟩ := emp_no hs
  have hst := (unhide HR).1.stored k (.string S)
  rw [mix_step L Y K k S hS hs] at hst
  have HN := hide (show (wi.setCell ⟨g5, k, none⟩ (.string S)).ownsRow w.heap.size 9 1 (.slice (some ⟨g5, 0, none⟩) K c5) K ((List.range K).map (fun j => Value.string (if j < (k + 1) ∧ sz L j ≠ 0 then L.getD j ByteArray.empty else Y.getD j ByteArray.empty))) ∧ Below w.heap.size w (wi.setCell ⟨g5, k, none⟩ (.string S)) from ⟨hst.1, (unhide HR).2.setCell (p := ⟨g5, k, none⟩) (((unhide HR).1.lt g5 rfl).1) _⟩)
  obtain ⟨xv, hxv⟩ : ∃ q, (Value.string (if k < k ∧ sz L k ≠ 0 then L.getD k ByteArray.empty else Y.getD k ByteArray.empty)) = q := ⟨_, rfl⟩
  rw [hxv] at hcx
  clear HFIN HR hst hxv
  go_wp2
  go_roundw
  case rel => exact ⟨k + 1, by omega, by go_num, HN⟩
  case measure => simp [intOf] <;> omega
theorem more_iff (L Y : List ByteArray) (k : Nat) : (∃ j, j < k + 1 ∧ sz L j ≠ 0 ∧ L.getD j ByteArray.empty ≠ Y.getD j ByteArray.empty) ↔ (∃ j, j < k ∧ sz L j ≠ 0 ∧ L.getD j ByteArray.empty ≠ Y.getD j ByteArray.empty) ∨ (sz L k ≠ 0 ∧ L.getD k ByteArray.empty ≠ Y.getD k ByteArray.empty) := by
  constructor
  · rintro ⟨j, h1, h2, h3⟩
    by_cases e : j = k
    · subst e; exact .inr ⟨h2, h3⟩
    · exact .inl ⟨j, by omega, h2, h3⟩
  · rintro (⟨j, h1, h⟩ | h)
    · exact ⟨j, by omega, h⟩
    · exact ⟨k, by omega, h⟩
set_option maxHeartbeats 8000000 in
theorem rwrong_any (w : World) (L : List ByteArray) (N n m B c : Nat) (p : Option Addr) (hN : L.length = N) (hNm : N = n + m) (hn1 : 1 ≤ n) (hn2 : n ≤ 16) (hm : m ≤ 8) (hL : GTx w B p L) (hB : B ≤ w.heap.size) (hsb : ∀ j, sz L j ≤ 9223372036854775807) : Calls Tryd.prog 14 #[.slice p N c, .int .i64 (n : Int), .int .i64 (m : Int)] w (WrQ L N n w) := by
  have HF := hide (rsaid_any w L N n m B c p hN hNm hn1 hn2 hm hL hB hsb)
  obtain ⟨gl, ol, rfl, hgl, _⟩ := hL 0 (by omega)
  have HL := hide (show ∀ wz j, Below w.heap.size w wz → j < N → wz.cell? ⟨gl, ol + j, none⟩ = some (.string (L.getD j ByteArray.empty)) from fun wz j h hj => by
    obtain ⟨g2, o2, e2, hg2, hc2⟩ := hL j (by omega)
    obtain ⟨rfl, rfl⟩ : gl = g2 ∧ ol = o2 := by injection e2 with e2; injection e2 with e3 e4; exact ⟨e3, e4⟩
    exact (h.cell (p := ⟨gl, ol + j, none⟩) (by show gl < w.heap.size; omega)).trans hc2)
  have HSB := hide hsb
  have hN24 : N ≤ 24 := by omega
  clear hN hL hB hsb hNm
  go_enter Tryd.func14, Tryd.ntmps14
  go_wp2_with fail
  refine (unhide HF).mono ?_
  intro e w1 hsq
  have HU : ∃ (K : Nat) (p5 : Option Addr) (c5 : Nat) (E : Int) (Y : List ByteArray), e = .returned (.tuple #[.slice p5 K c5, .int .i64 E]) ∧ w1.ownsRow w.heap.size 9 1 (.slice p5 K c5) K (Y.map Value.string) ∧ Y.length = K ∧ K ≤ N ∧ (∀ W b, Below w.heap.size w W → (b = true ↔ ∃ j, j < K ∧ sz L j ≠ 0 ∧ L.getD j ByteArray.empty ≠ Y.getD j ByteArray.empty) → WrQ L N n w (.returned (.tuple #[.bool b, .int .i64 E])) W) := by
    obtain ⟨_, h1, h2, h3⟩ := hsq
    by_cases hf : frm L N
    case neg => exact ⟨0, none, 0, 181, [], h1 hf, World.ownsRow_nil _ _ _ _, rfl, Nat.zero_le _, fun W b hb hq => by
      obtain rfl : b = false := by
        cases b with
        | false => rfl
        | true => obtain ⟨j, hj, _⟩ := hq.1 rfl; exact absurd hj (by omega)
      exact ⟨hb, fun _ => rfl, fun q => absurd q hf, fun q => absurd q hf⟩⟩
    by_cases ht : (thr L N).length < n
    · exact ⟨0, none, 0, 182, [], h2 hf ht, World.ownsRow_nil _ _ _ _, rfl, Nat.zero_le _, fun W b hb hq => by
      obtain rfl : b = false := by
        cases b with
        | false => rfl
        | true => obtain ⟨j, hj, _⟩ := hq.1 rfl; exact absurd hj (by omega)
      exact ⟨hb, fun q => absurd hf q, fun _ _ => rfl, fun _ q => absurd ht (by omega)⟩⟩
    obtain ⟨len, y, p5, c5, hl1, hl2, hfit, he, ho⟩ := h3 hf (by omega)
    refine ⟨N, p5, c5, 0, sayL n len y N, he, ho, by simp [sayL], Nat.le_refl _, fun W b hb hq => ⟨hb, fun q => absurd hf q, fun _ q => absurd q ht, fun _ _ => ⟨len, y, b, hl2, hfit, rfl, ?_⟩⟩⟩
    rw [hq, ← wrong_iff hfit hn1]
    constructor
    · rintro ⟨j, hj, h2, h3⟩
      exact ⟨j, hj, h2, by rw [sayL_at hj] at h3; exact h3⟩
    · rintro ⟨j, hj, h2, h3⟩
      exact ⟨j, hj, h2, by rw [sayL_at hj]; exact h3⟩
  have hb := hsq.1
  clear hsq HF
  obtain ⟨K, p5, c5, E, Y, rfl, ho, hYK, hKN, hfin⟩ := HU
  have hbs := hb.size
  have HFIN := hide hfin
  have HO := hide (And.intro ho hb)
  have HYK := hide hYK
  clear hb ho hfin hYK
  go_wp2
  go_loopw [10, 11] (fun u i wr => ∃ (k : Nat) (b : Bool), k ≤ K ∧ i = .int .i64 (k : Int) ∧ u = .bool b ∧ Hid (Below w1.heap.size w1 wr ∧ (b = true ↔ ∃ j, j < k ∧ sz L j ≠ 0 ∧ L.getD j ByteArray.empty ≠ Y.getD j ByteArray.empty))) (fun _ i _ => K - (intOf i).toNat)
  case atStart => exact ⟨0, false, by omega, rfl, rfl, hide ⟨Below.refl _ _, ⟨fun q => (by cases q), fun ⟨j, hj, _⟩ => absurd hj (by omega)⟩⟩⟩
  case round =>
  obtain ⟨k, b, hk, rfl, rfl, HR⟩ := hrel
  obtain ⟨wi, rfl⟩ : ∃ q, q = wr := ⟨_, rfl⟩
  have HBW := hide (show Below w.heap.size w wi from (unhide HO).2.trans ((unhide HR).1.mono hbs))
  by_cases hkn : k < K
  case neg =>
    obtain rfl : k = K := by omega
    have hkn' : ¬ (k : Int) < (k : Int) := by omega
    have HE := hide (unhide HFIN wi b (unhide HBW) (unhide HR).2)
    clear HFIN HR
    go_wp2
    go_ret2
    exact unhide HE
  have hkn' : (k : Int) < (K : Int) := by omega
  have hkN' : (k : Int) < (N : Int) := by omega
  have hk0 : (0 : Int) ≤ (k : Int) := by omega
  have hcl := unhide HL wi k (unhide HBW) (by omega)
  obtain ⟨g5, rfl, hcx0, _, _, hg5⟩ := gr_cell (unhide HO).1 k hkn
  have hcx := ((unhide HR).1.cell (p := ⟨g5, k, none⟩) hg5).trans hcx0
  rw [List.getElem?_map, List.getElem?_eq_getElem (by rw [unhide HYK]; exact hkn), show Y[k]'(by rw [unhide HYK]; exact hkn) = Y.getD k ByteArray.empty from by rw [List.getD_eq_getElem?_getD, List.getElem?_eq_getElem (by rw [unhide HYK]; exact hkn)]; rfl] at hcx
  simp only [Option.map_some] at hcx
  have HMI := hide (more_iff L Y k)
  have HSZ := hide (show sz L k = (L.getD k ByteArray.empty).size from rfl)
  obtain ⟨S, hS⟩ : ∃ q, L.getD k ByteArray.empty = q := ⟨_, rfl⟩
  obtain ⟨X, hX⟩ : ∃ q, Y.getD k ByteArray.empty = q := ⟨_, rfl⟩
  rw [hS] at hcl HMI HSZ
  rw [hX] at hcx HMI
  have HRB := hide (unhide HR).1
  have HRI := hide (unhide HR).2
  clear HFIN HR hcx0 hS hX
  cases b with
  | true =>
      have HN := hide (show Below w1.heap.size w1 wi.drew ∧ (∃ j, j < k + 1 ∧ sz L j ≠ 0 ∧ L.getD j ByteArray.empty ≠ Y.getD j ByteArray.empty) from ⟨(unhide HRB).drew, (unhide HMI).2 (.inl ((unhide HRI).1 rfl))⟩)
      go_wp2_with fail
      refine wp_region_held_drew (S := fun W => W.cell? ⟨gl, ol + k, none⟩ = some (.string S) ∧ W.cell? ⟨g5, k, none⟩ = some (.string X)) (by kernel_rfl) ⟨hcl, hcx⟩ ?_
      intro hS
      refine wpAnyH_takeD 0 (some 25) (.bool true) rfl rfl (by kernel_rfl) (by kernel_rfl) (by kernel_rfl) (fun _ _ _ h => h) (Or.inl ⟨by rfl, fun w hSw => by obtain ⟨q1, q2⟩ := hSw; go_simp⟩) hS ?_
      simp only [Act.put, List.setIfInBounds_toArray, List.set_cons_zero, List.set_cons_succ]
      refine wpAnyH_takeD 1 (some 26) (.bool true) rfl rfl (by kernel_rfl) (by kernel_rfl) (by kernel_rfl) (fun _ _ _ h => h) (Or.inl ⟨by rfl, fun w hSw => by obtain ⟨q1, q2⟩ := hSw; go_simp⟩) hS ?_
      simp only [Act.put, List.setIfInBounds_toArray, List.set_cons_zero, List.set_cons_succ]
      refine wpAnyH_takeD 2 (some 27) undef rfl rfl (by kernel_rfl) (by kernel_rfl) (by kernel_rfl) (fun _ _ _ h => h) (Or.inr ⟨by rfl, rfl⟩) hS ?_
      simp only [Act.put, List.setIfInBounds_toArray, List.set_cons_zero, List.set_cons_succ]
      refine wpAnyH_takeD 3 (some 28) undef rfl rfl (by kernel_rfl) (by kernel_rfl) (by kernel_rfl) (fun _ _ _ h => h) (Or.inr ⟨by rfl, rfl⟩) hS ?_
      simp only [Act.put, List.setIfInBounds_toArray, List.set_cons_zero, List.set_cons_succ]
      refine wpAnyH_takeD 4 (some 29) undef rfl rfl (by kernel_rfl) (by kernel_rfl) (by kernel_rfl) (fun _ _ _ h => h) (Or.inr ⟨by rfl, rfl⟩) hS ?_
      simp only [Act.put, List.setIfInBounds_toArray, List.set_cons_zero, List.set_cons_succ]
      refine wpAnyH_takeD 5 (some 30) undef rfl rfl (by kernel_rfl) (by kernel_rfl) (by kernel_rfl) (fun _ _ _ h => h) (Or.inr ⟨by rfl, rfl⟩) hS ?_
      simp only [Act.put, List.setIfInBounds_toArray, List.set_cons_zero, List.set_cons_succ]
      refine wpAnyH_takeD 6 (some 31) undef rfl rfl (by kernel_rfl) (by kernel_rfl) (by kernel_rfl) (fun _ _ _ h => h) (Or.inr ⟨by rfl, rfl⟩) hS ?_
      simp only [Act.put, List.setIfInBounds_toArray, List.set_cons_zero, List.set_cons_succ]
      refine wpAnyH_takeD 7 (some 32) undef rfl rfl (by kernel_rfl) (by kernel_rfl) (by kernel_rfl) (fun _ _ _ h => h) (Or.inr ⟨by rfl, rfl⟩) hS ?_
      simp only [Act.put, List.setIfInBounds_toArray, List.set_cons_zero, List.set_cons_succ]
      refine wpAnyH_takeD 8 (some 33) undef rfl rfl (by kernel_rfl) (by kernel_rfl) (by kernel_rfl) (fun _ _ _ h => h) (Or.inr ⟨by rfl, rfl⟩) hS ?_
      simp only [Act.put, List.setIfInBounds_toArray, List.set_cons_zero, List.set_cons_succ]
      refine wpAnyH_takeD 9 (some 34) undef rfl rfl (by kernel_rfl) (by kernel_rfl) (by kernel_rfl) (fun _ _ _ h => h) (Or.inr ⟨by rfl, rfl⟩) hS ?_
      simp only [Act.put, List.setIfInBounds_toArray, List.set_cons_zero, List.set_cons_succ]
      refine wpAnyH_takeD 10 (some 35) undef rfl rfl (by kernel_rfl) (by kernel_rfl) (by kernel_rfl) (fun _ _ _ h => h) (Or.inr ⟨by rfl, rfl⟩) hS ?_
      simp only [Act.put, List.setIfInBounds_toArray, List.set_cons_zero, List.set_cons_succ]
      refine wpAnyH_takeD 11 (some 36) undef rfl rfl (by kernel_rfl) (by kernel_rfl) (by kernel_rfl) (fun _ _ _ h => h) (Or.inr ⟨by rfl, rfl⟩) hS ?_
      simp only [Act.put, List.setIfInBounds_toArray, List.set_cons_zero, List.set_cons_succ]
      refine wpAnyH_takeD 12 (some 37) undef rfl rfl (by kernel_rfl) (by kernel_rfl) (by kernel_rfl) (fun _ _ _ h => h) (Or.inr ⟨by rfl, rfl⟩) hS ?_
      simp only [Act.put, List.setIfInBounds_toArray, List.set_cons_zero, List.set_cons_succ]
      refine wpAnyH_takeD 13 (some 38) undef rfl rfl (by kernel_rfl) (by kernel_rfl) (by kernel_rfl) (fun _ _ _ h => h) (Or.inr ⟨by rfl, rfl⟩) hS ?_
      simp only [Act.put, List.setIfInBounds_toArray, List.set_cons_zero, List.set_cons_succ]
      refine wpAnyH_takeD 14 (some 39) undef rfl rfl (by kernel_rfl) (by kernel_rfl) (by kernel_rfl) (fun _ _ _ h => h) (Or.inr ⟨by rfl, rfl⟩) hS ?_
      simp only [Act.put, List.setIfInBounds_toArray, List.set_cons_zero, List.set_cons_succ]
      refine wpAnyH_takeD 15 (some 40) undef rfl rfl (by kernel_rfl) (by kernel_rfl) (by kernel_rfl) (fun _ _ _ h => h) (Or.inr ⟨by rfl, rfl⟩) hS ?_
      simp only [Act.put, List.setIfInBounds_toArray, List.set_cons_zero, List.set_cons_succ]
      refine wpAnyH_takeD 16 (some 41) undef rfl rfl (by kernel_rfl) (by kernel_rfl) (by kernel_rfl) (fun _ _ _ h => h) (Or.inr ⟨by rfl, rfl⟩) hS ?_
      simp only [Act.put, List.setIfInBounds_toArray, List.set_cons_zero, List.set_cons_succ]
      refine wpAnyH_takeD 17 (some 42) undef rfl rfl (by kernel_rfl) (by kernel_rfl) (by kernel_rfl) (fun _ _ _ h => h) (Or.inr ⟨by rfl, rfl⟩) hS ?_
      simp only [Act.put, List.setIfInBounds_toArray, List.set_cons_zero, List.set_cons_succ]
      refine wpAnyH_takeD 18 (some 43) (.bool true) rfl rfl (by kernel_rfl) (by kernel_rfl) (by kernel_rfl) (fun _ _ _ h => h) (Or.inl ⟨by rfl, fun w hSw => by obtain ⟨q1, q2⟩ := hSw; go_simp⟩) hS ?_
      simp only [Act.put, List.setIfInBounds_toArray, List.set_cons_zero, List.set_cons_succ]
      refine wpAnyH_takeD 19 (some 10) (.bool true) rfl rfl (by kernel_rfl) (by kernel_rfl) (by kernel_rfl) (fun _ _ _ h => h) (Or.inl ⟨by rfl, fun w hSw => by obtain ⟨q1, q2⟩ := hSw; go_simp⟩) hS ?_
      simp only [Act.put, List.setIfInBounds_toArray, List.set_cons_zero, List.set_cons_succ]
      refine wpAnyH_done (by kernel_rfl) ?_ _
      clear hcl hcx
      go_wp2
      go_roundw
      case rel => exact ⟨k + 1, true, by omega, by go_num, rfl, hide ⟨(unhide HN).1, ⟨fun _ => (unhide HN).2, fun _ => rfl⟩⟩⟩
      case measure => simp [intOf] <;> omega
  | false =>
    have HNO := hide (show ¬ ∃ j, j < k ∧ sz L j ≠ 0 ∧ L.getD j ByteArray.empty ≠ Y.getD j ByteArray.empty from fun q => by have := (unhide HRI).2 q; cases this)
    by_cases hs : S.size = 0
    · obtain ⟨hem1, hem2⟩ := emp_yes hs
      have HN := hide (show Below w1.heap.size w1 wi.drew ∧ (false = true ↔ ∃ j, j < k + 1 ∧ sz L j ≠ 0 ∧ L.getD j ByteArray.empty ≠ Y.getD j ByteArray.empty) from ⟨(unhide HRB).drew, ⟨fun q => by (cases q), fun q => by
        rcases (unhide HMI).1 q with q | q
        · exact absurd q (unhide HNO)
        · exact absurd (by rw [unhide HSZ]; exact hs) q.1⟩⟩)
      go_wp2_with fail
      refine wp_region_held_drew (S := fun W => W.cell? ⟨gl, ol + k, none⟩ = some (.string S) ∧ W.cell? ⟨g5, k, none⟩ = some (.string X)) (by kernel_rfl) ⟨hcl, hcx⟩ ?_
      intro hS
      refine wpAnyH_takeD 0 (some 25) (.bool false) rfl rfl (by kernel_rfl) (by kernel_rfl) (by kernel_rfl) (fun _ _ _ h => h) (Or.inl ⟨by rfl, fun w hSw => by obtain ⟨q1, q2⟩ := hSw; go_simp⟩) hS ?_
      simp only [Act.put, List.setIfInBounds_toArray, List.set_cons_zero, List.set_cons_succ]
      refine wpAnyH_takeD 1 (some 26) (.bool false) rfl rfl (by kernel_rfl) (by kernel_rfl) (by kernel_rfl) (fun _ _ _ h => h) (Or.inl ⟨by rfl, fun w hSw => by obtain ⟨q1, q2⟩ := hSw; go_simp⟩) hS ?_
      simp only [Act.put, List.setIfInBounds_toArray, List.set_cons_zero, List.set_cons_succ]
      refine wpAnyH_takeD 2 (some 27) (.slice (some ⟨gl, ol, none⟩) N c) rfl rfl (by kernel_rfl) (by kernel_rfl) (by kernel_rfl) (fun _ _ _ h => h) (Or.inl ⟨by rfl, fun w hSw => by obtain ⟨q1, q2⟩ := hSw; go_simp⟩) hS ?_
      simp only [Act.put, List.setIfInBounds_toArray, List.set_cons_zero, List.set_cons_succ]
      refine wpAnyH_takeD 3 (some 28) (.int .i64 (k : Int)) rfl rfl (by kernel_rfl) (by kernel_rfl) (by kernel_rfl) (fun _ _ _ h => h) (Or.inl ⟨by rfl, fun w hSw => by obtain ⟨q1, q2⟩ := hSw; go_simp⟩) hS ?_
      simp only [Act.put, List.setIfInBounds_toArray, List.set_cons_zero, List.set_cons_succ]
      refine wpAnyH_takeD 4 (some 29) (.pointer (some ⟨gl, ol + k, none⟩)) rfl rfl (by kernel_rfl) (by kernel_rfl) (by kernel_rfl) (fun _ _ _ h => h) (Or.inl ⟨by rfl, fun w hSw => by obtain ⟨q1, q2⟩ := hSw; go_simp⟩) hS ?_
      simp only [Act.put, List.setIfInBounds_toArray, List.set_cons_zero, List.set_cons_succ]
      refine wpAnyH_takeD 5 (some 30) (.string S) rfl rfl (by kernel_rfl) (by kernel_rfl) (by kernel_rfl) (fun _ _ _ h => h) (Or.inl ⟨by rfl, fun w hSw => by obtain ⟨q1, q2⟩ := hSw; go_simp⟩) hS ?_
      simp only [Act.put, List.setIfInBounds_toArray, List.set_cons_zero, List.set_cons_succ]
      refine wpAnyH_takeD 6 (some 31) (.bool false) rfl rfl (by kernel_rfl) (by kernel_rfl) (by kernel_rfl) (fun _ _ _ h => h) (Or.inl ⟨by rfl, fun w hSw => by obtain ⟨q1, q2⟩ := hSw; go_simp⟩) hS ?_
      simp only [Act.put, List.setIfInBounds_toArray, List.set_cons_zero, List.set_cons_succ]
      refine wpAnyH_takeD 7 (some 32) (.bool false) rfl rfl (by kernel_rfl) (by kernel_rfl) (by kernel_rfl) (fun _ _ _ h => h) (Or.inl ⟨by rfl, fun w hSw => by obtain ⟨q1, q2⟩ := hSw; go_simp⟩) hS ?_
      simp only [Act.put, List.setIfInBounds_toArray, List.set_cons_zero, List.set_cons_succ]
      refine wpAnyH_takeD 8 (some 33) undef rfl rfl (by kernel_rfl) (by kernel_rfl) (by kernel_rfl) (fun _ _ _ h => h) (Or.inr ⟨by rfl, rfl⟩) hS ?_
      simp only [Act.put, List.setIfInBounds_toArray, List.set_cons_zero, List.set_cons_succ]
      refine wpAnyH_takeD 9 (some 34) undef rfl rfl (by kernel_rfl) (by kernel_rfl) (by kernel_rfl) (fun _ _ _ h => h) (Or.inr ⟨by rfl, rfl⟩) hS ?_
      simp only [Act.put, List.setIfInBounds_toArray, List.set_cons_zero, List.set_cons_succ]
      refine wpAnyH_takeD 10 (some 35) undef rfl rfl (by kernel_rfl) (by kernel_rfl) (by kernel_rfl) (fun _ _ _ h => h) (Or.inr ⟨by rfl, rfl⟩) hS ?_
      simp only [Act.put, List.setIfInBounds_toArray, List.set_cons_zero, List.set_cons_succ]
      refine wpAnyH_takeD 11 (some 36) undef rfl rfl (by kernel_rfl) (by kernel_rfl) (by kernel_rfl) (fun _ _ _ h => h) (Or.inr ⟨by rfl, rfl⟩) hS ?_
      simp only [Act.put, List.setIfInBounds_toArray, List.set_cons_zero, List.set_cons_succ]
      refine wpAnyH_takeD 12 (some 37) undef rfl rfl (by kernel_rfl) (by kernel_rfl) (by kernel_rfl) (fun _ _ _ h => h) (Or.inr ⟨by rfl, rfl⟩) hS ?_
      simp only [Act.put, List.setIfInBounds_toArray, List.set_cons_zero, List.set_cons_succ]
      refine wpAnyH_takeD 13 (some 38) undef rfl rfl (by kernel_rfl) (by kernel_rfl) (by kernel_rfl) (fun _ _ _ h => h) (Or.inr ⟨by rfl, rfl⟩) hS ?_
      simp only [Act.put, List.setIfInBounds_toArray, List.set_cons_zero, List.set_cons_succ]
      refine wpAnyH_takeD 14 (some 39) undef rfl rfl (by kernel_rfl) (by kernel_rfl) (by kernel_rfl) (fun _ _ _ h => h) (Or.inr ⟨by rfl, rfl⟩) hS ?_
      simp only [Act.put, List.setIfInBounds_toArray, List.set_cons_zero, List.set_cons_succ]
      refine wpAnyH_takeD 15 (some 40) undef rfl rfl (by kernel_rfl) (by kernel_rfl) (by kernel_rfl) (fun _ _ _ h => h) (Or.inr ⟨by rfl, rfl⟩) hS ?_
      simp only [Act.put, List.setIfInBounds_toArray, List.set_cons_zero, List.set_cons_succ]
      refine wpAnyH_takeD 16 (some 41) undef rfl rfl (by kernel_rfl) (by kernel_rfl) (by kernel_rfl) (fun _ _ _ h => h) (Or.inr ⟨by rfl, rfl⟩) hS ?_
      simp only [Act.put, List.setIfInBounds_toArray, List.set_cons_zero, List.set_cons_succ]
      refine wpAnyH_takeD 17 (some 42) (.bool false) rfl rfl (by kernel_rfl) (by kernel_rfl) (by kernel_rfl) (fun _ _ _ h => h) (Or.inl ⟨by rfl, fun w hSw => by obtain ⟨q1, q2⟩ := hSw; go_simp⟩) hS ?_
      simp only [Act.put, List.setIfInBounds_toArray, List.set_cons_zero, List.set_cons_succ]
      refine wpAnyH_takeD 18 (some 43) (.bool false) rfl rfl (by kernel_rfl) (by kernel_rfl) (by kernel_rfl) (fun _ _ _ h => h) (Or.inl ⟨by rfl, fun w hSw => by obtain ⟨q1, q2⟩ := hSw; go_simp⟩) hS ?_
      simp only [Act.put, List.setIfInBounds_toArray, List.set_cons_zero, List.set_cons_succ]
      refine wpAnyH_takeD 19 (some 10) (.bool false) rfl rfl (by kernel_rfl) (by kernel_rfl) (by kernel_rfl) (fun _ _ _ h => h) (Or.inl ⟨by rfl, fun w hSw => by obtain ⟨q1, q2⟩ := hSw; go_simp⟩) hS ?_
      simp only [Act.put, List.setIfInBounds_toArray, List.set_cons_zero, List.set_cons_succ]
      refine wpAnyH_done (by kernel_rfl) ?_ _
      clear hcl hcx
      go_wp2
      go_roundw
      case rel => exact ⟨k + 1, false, by omega, by go_num, rfl, HN⟩
      case measure => simp [intOf] <;> omega
    obtain ⟨hem1, hem2⟩ := emp_no hs
    by_cases hsx : X = S
    · have hsx2 : (X.toList == S.toList) = true := by rw [hsx]; simp
      have HN := hide (show Below w1.heap.size w1 wi.drew ∧ (false = true ↔ ∃ j, j < k + 1 ∧ sz L j ≠ 0 ∧ L.getD j ByteArray.empty ≠ Y.getD j ByteArray.empty) from ⟨(unhide HRB).drew, ⟨fun q => by (cases q), fun q => by
        rcases (unhide HMI).1 q with q | q
        · exact absurd q (unhide HNO)
        · exact absurd hsx.symm q.2⟩⟩)
      go_wp2_with fail
      refine wp_region_held_drew (S := fun W => W.cell? ⟨gl, ol + k, none⟩ = some (.string S) ∧ W.cell? ⟨g5, k, none⟩ = some (.string X)) (by kernel_rfl) ⟨hcl, hcx⟩ ?_
      intro hS
      refine wpAnyH_takeD 0 (some 25) (.bool false) rfl rfl (by kernel_rfl) (by kernel_rfl) (by kernel_rfl) (fun _ _ _ h => h) (Or.inl ⟨by rfl, fun w hSw => by obtain ⟨q1, q2⟩ := hSw; go_simp⟩) hS ?_
      simp only [Act.put, List.setIfInBounds_toArray, List.set_cons_zero, List.set_cons_succ]
      refine wpAnyH_takeD 1 (some 26) (.bool false) rfl rfl (by kernel_rfl) (by kernel_rfl) (by kernel_rfl) (fun _ _ _ h => h) (Or.inl ⟨by rfl, fun w hSw => by obtain ⟨q1, q2⟩ := hSw; go_simp⟩) hS ?_
      simp only [Act.put, List.setIfInBounds_toArray, List.set_cons_zero, List.set_cons_succ]
      refine wpAnyH_takeD 2 (some 27) (.slice (some ⟨gl, ol, none⟩) N c) rfl rfl (by kernel_rfl) (by kernel_rfl) (by kernel_rfl) (fun _ _ _ h => h) (Or.inl ⟨by rfl, fun w hSw => by obtain ⟨q1, q2⟩ := hSw; go_simp⟩) hS ?_
      simp only [Act.put, List.setIfInBounds_toArray, List.set_cons_zero, List.set_cons_succ]
      refine wpAnyH_takeD 3 (some 28) (.int .i64 (k : Int)) rfl rfl (by kernel_rfl) (by kernel_rfl) (by kernel_rfl) (fun _ _ _ h => h) (Or.inl ⟨by rfl, fun w hSw => by obtain ⟨q1, q2⟩ := hSw; go_simp⟩) hS ?_
      simp only [Act.put, List.setIfInBounds_toArray, List.set_cons_zero, List.set_cons_succ]
      refine wpAnyH_takeD 4 (some 29) (.pointer (some ⟨gl, ol + k, none⟩)) rfl rfl (by kernel_rfl) (by kernel_rfl) (by kernel_rfl) (fun _ _ _ h => h) (Or.inl ⟨by rfl, fun w hSw => by obtain ⟨q1, q2⟩ := hSw; go_simp⟩) hS ?_
      simp only [Act.put, List.setIfInBounds_toArray, List.set_cons_zero, List.set_cons_succ]
      refine wpAnyH_takeD 5 (some 30) (.string S) rfl rfl (by kernel_rfl) (by kernel_rfl) (by kernel_rfl) (fun _ _ _ h => h) (Or.inl ⟨by rfl, fun w hSw => by obtain ⟨q1, q2⟩ := hSw; go_simp⟩) hS ?_
      simp only [Act.put, List.setIfInBounds_toArray, List.set_cons_zero, List.set_cons_succ]
      refine wpAnyH_takeD 6 (some 31) (.bool true) rfl rfl (by kernel_rfl) (by kernel_rfl) (by kernel_rfl) (fun _ _ _ h => h) (Or.inl ⟨by rfl, fun w hSw => by obtain ⟨q1, q2⟩ := hSw; go_simp⟩) hS ?_
      simp only [Act.put, List.setIfInBounds_toArray, List.set_cons_zero, List.set_cons_succ]
      refine wpAnyH_takeD 7 (some 32) (.bool true) rfl rfl (by kernel_rfl) (by kernel_rfl) (by kernel_rfl) (fun _ _ _ h => h) (Or.inl ⟨by rfl, fun w hSw => by obtain ⟨q1, q2⟩ := hSw; go_simp⟩) hS ?_
      simp only [Act.put, List.setIfInBounds_toArray, List.set_cons_zero, List.set_cons_succ]
      refine wpAnyH_takeD 8 (some 33) (.slice (some ⟨g5, 0, none⟩) K c5) rfl rfl (by kernel_rfl) (by kernel_rfl) (by kernel_rfl) (fun _ _ _ h => h) (Or.inl ⟨by rfl, fun w hSw => by obtain ⟨q1, q2⟩ := hSw; go_simp⟩) hS ?_
      simp only [Act.put, List.setIfInBounds_toArray, List.set_cons_zero, List.set_cons_succ]
      refine wpAnyH_takeD 9 (some 34) (.int .i64 (k : Int)) rfl rfl (by kernel_rfl) (by kernel_rfl) (by kernel_rfl) (fun _ _ _ h => h) (Or.inl ⟨by rfl, fun w hSw => by obtain ⟨q1, q2⟩ := hSw; go_simp⟩) hS ?_
      simp only [Act.put, List.setIfInBounds_toArray, List.set_cons_zero, List.set_cons_succ]
      refine wpAnyH_takeD 10 (some 35) (.pointer (some ⟨g5, k, none⟩)) rfl rfl (by kernel_rfl) (by kernel_rfl) (by kernel_rfl) (fun _ _ _ h => h) (Or.inl ⟨by rfl, fun w hSw => by obtain ⟨q1, q2⟩ := hSw; go_simp⟩) hS ?_
      simp only [Act.put, List.setIfInBounds_toArray, List.set_cons_zero, List.set_cons_succ]
      refine wpAnyH_takeD 11 (some 36) (.string X) rfl rfl (by kernel_rfl) (by kernel_rfl) (by kernel_rfl) (fun _ _ _ h => h) (Or.inl ⟨by rfl, fun w hSw => by obtain ⟨q1, q2⟩ := hSw; go_simp⟩) hS ?_
      simp only [Act.put, List.setIfInBounds_toArray, List.set_cons_zero, List.set_cons_succ]
      refine wpAnyH_takeD 12 (some 37) (.slice (some ⟨gl, ol, none⟩) N c) rfl rfl (by kernel_rfl) (by kernel_rfl) (by kernel_rfl) (fun _ _ _ h => h) (Or.inl ⟨by rfl, fun w hSw => by obtain ⟨q1, q2⟩ := hSw; go_simp⟩) hS ?_
      simp only [Act.put, List.setIfInBounds_toArray, List.set_cons_zero, List.set_cons_succ]
      refine wpAnyH_takeD 13 (some 38) (.int .i64 (k : Int)) rfl rfl (by kernel_rfl) (by kernel_rfl) (by kernel_rfl) (fun _ _ _ h => h) (Or.inl ⟨by rfl, fun w hSw => by obtain ⟨q1, q2⟩ := hSw; go_simp⟩) hS ?_
      simp only [Act.put, List.setIfInBounds_toArray, List.set_cons_zero, List.set_cons_succ]
      refine wpAnyH_takeD 14 (some 39) (.pointer (some ⟨gl, ol + k, none⟩)) rfl rfl (by kernel_rfl) (by kernel_rfl) (by kernel_rfl) (fun _ _ _ h => h) (Or.inl ⟨by rfl, fun w hSw => by obtain ⟨q1, q2⟩ := hSw; go_simp⟩) hS ?_
      simp only [Act.put, List.setIfInBounds_toArray, List.set_cons_zero, List.set_cons_succ]
      refine wpAnyH_takeD 15 (some 40) (.string S) rfl rfl (by kernel_rfl) (by kernel_rfl) (by kernel_rfl) (fun _ _ _ h => h) (Or.inl ⟨by rfl, fun w hSw => by obtain ⟨q1, q2⟩ := hSw; go_simp⟩) hS ?_
      simp only [Act.put, List.setIfInBounds_toArray, List.set_cons_zero, List.set_cons_succ]
      refine wpAnyH_takeD 16 (some 41) (.bool false) rfl rfl (by kernel_rfl) (by kernel_rfl) (by kernel_rfl) (fun _ _ _ h => h) (Or.inl ⟨by rfl, fun w hSw => by obtain ⟨q1, q2⟩ := hSw; go_simp⟩) hS ?_
      simp only [Act.put, List.setIfInBounds_toArray, List.set_cons_zero, List.set_cons_succ]
      refine wpAnyH_takeD 17 (some 42) (.bool false) rfl rfl (by kernel_rfl) (by kernel_rfl) (by kernel_rfl) (fun _ _ _ h => h) (Or.inl ⟨by rfl, fun w hSw => by obtain ⟨q1, q2⟩ := hSw; go_simp⟩) hS ?_
      simp only [Act.put, List.setIfInBounds_toArray, List.set_cons_zero, List.set_cons_succ]
      refine wpAnyH_takeD 18 (some 43) (.bool false) rfl rfl (by kernel_rfl) (by kernel_rfl) (by kernel_rfl) (fun _ _ _ h => h) (Or.inl ⟨by rfl, fun w hSw => by obtain ⟨q1, q2⟩ := hSw; go_simp⟩) hS ?_
      simp only [Act.put, List.setIfInBounds_toArray, List.set_cons_zero, List.set_cons_succ]
      refine wpAnyH_takeD 19 (some 10) (.bool false) rfl rfl (by kernel_rfl) (by kernel_rfl) (by kernel_rfl) (fun _ _ _ h => h) (Or.inl ⟨by rfl, fun w hSw => by obtain ⟨q1, q2⟩ := hSw; go_simp⟩) hS ?_
      simp only [Act.put, List.setIfInBounds_toArray, List.set_cons_zero, List.set_cons_succ]
      refine wpAnyH_done (by kernel_rfl) ?_ _
      clear hcl hcx
      go_wp2
      go_roundw
      case rel => exact ⟨k + 1, false, by omega, by go_num, rfl, HN⟩
      case measure => simp [intOf] <;> omega
    · have hsx2 : (X.toList == S.toList) = false := str_ne hsx
      have HN := hide (show Below w1.heap.size w1 wi.drew ∧ (∃ j, j < k + 1 ∧ sz L j ≠ 0 ∧ L.getD j ByteArray.empty ≠ Y.getD j ByteArray.empty) from ⟨(unhide HRB).drew, (unhide HMI).2 (.inr ⟨by rw [unhide HSZ]; exact hs, fun q => hsx q.symm⟩)⟩)
      go_wp2_with fail
      refine wp_region_held_drew (S := fun W => W.cell? ⟨gl, ol + k, none⟩ = some (.string S) ∧ W.cell? ⟨g5, k, none⟩ = some (.string X)) (by kernel_rfl) ⟨hcl, hcx⟩ ?_
      intro hS
      refine wpAnyH_takeD 0 (some 25) (.bool false) rfl rfl (by kernel_rfl) (by kernel_rfl) (by kernel_rfl) (fun _ _ _ h => h) (Or.inl ⟨by rfl, fun w hSw => by obtain ⟨q1, q2⟩ := hSw; go_simp⟩) hS ?_
      simp only [Act.put, List.setIfInBounds_toArray, List.set_cons_zero, List.set_cons_succ]
      refine wpAnyH_takeD 1 (some 26) (.bool false) rfl rfl (by kernel_rfl) (by kernel_rfl) (by kernel_rfl) (fun _ _ _ h => h) (Or.inl ⟨by rfl, fun w hSw => by obtain ⟨q1, q2⟩ := hSw; go_simp⟩) hS ?_
      simp only [Act.put, List.setIfInBounds_toArray, List.set_cons_zero, List.set_cons_succ]
      refine wpAnyH_takeD 2 (some 27) (.slice (some ⟨gl, ol, none⟩) N c) rfl rfl (by kernel_rfl) (by kernel_rfl) (by kernel_rfl) (fun _ _ _ h => h) (Or.inl ⟨by rfl, fun w hSw => by obtain ⟨q1, q2⟩ := hSw; go_simp⟩) hS ?_
      simp only [Act.put, List.setIfInBounds_toArray, List.set_cons_zero, List.set_cons_succ]
      refine wpAnyH_takeD 3 (some 28) (.int .i64 (k : Int)) rfl rfl (by kernel_rfl) (by kernel_rfl) (by kernel_rfl) (fun _ _ _ h => h) (Or.inl ⟨by rfl, fun w hSw => by obtain ⟨q1, q2⟩ := hSw; go_simp⟩) hS ?_
      simp only [Act.put, List.setIfInBounds_toArray, List.set_cons_zero, List.set_cons_succ]
      refine wpAnyH_takeD 4 (some 29) (.pointer (some ⟨gl, ol + k, none⟩)) rfl rfl (by kernel_rfl) (by kernel_rfl) (by kernel_rfl) (fun _ _ _ h => h) (Or.inl ⟨by rfl, fun w hSw => by obtain ⟨q1, q2⟩ := hSw; go_simp⟩) hS ?_
      simp only [Act.put, List.setIfInBounds_toArray, List.set_cons_zero, List.set_cons_succ]
      refine wpAnyH_takeD 5 (some 30) (.string S) rfl rfl (by kernel_rfl) (by kernel_rfl) (by kernel_rfl) (fun _ _ _ h => h) (Or.inl ⟨by rfl, fun w hSw => by obtain ⟨q1, q2⟩ := hSw; go_simp⟩) hS ?_
      simp only [Act.put, List.setIfInBounds_toArray, List.set_cons_zero, List.set_cons_succ]
      refine wpAnyH_takeD 6 (some 31) (.bool true) rfl rfl (by kernel_rfl) (by kernel_rfl) (by kernel_rfl) (fun _ _ _ h => h) (Or.inl ⟨by rfl, fun w hSw => by obtain ⟨q1, q2⟩ := hSw; go_simp⟩) hS ?_
      simp only [Act.put, List.setIfInBounds_toArray, List.set_cons_zero, List.set_cons_succ]
      refine wpAnyH_takeD 7 (some 32) (.bool true) rfl rfl (by kernel_rfl) (by kernel_rfl) (by kernel_rfl) (fun _ _ _ h => h) (Or.inl ⟨by rfl, fun w hSw => by obtain ⟨q1, q2⟩ := hSw; go_simp⟩) hS ?_
      simp only [Act.put, List.setIfInBounds_toArray, List.set_cons_zero, List.set_cons_succ]
      refine wpAnyH_takeD 8 (some 33) (.slice (some ⟨g5, 0, none⟩) K c5) rfl rfl (by kernel_rfl) (by kernel_rfl) (by kernel_rfl) (fun _ _ _ h => h) (Or.inl ⟨by rfl, fun w hSw => by obtain ⟨q1, q2⟩ := hSw; go_simp⟩) hS ?_
      simp only [Act.put, List.setIfInBounds_toArray, List.set_cons_zero, List.set_cons_succ]
      refine wpAnyH_takeD 9 (some 34) (.int .i64 (k : Int)) rfl rfl (by kernel_rfl) (by kernel_rfl) (by kernel_rfl) (fun _ _ _ h => h) (Or.inl ⟨by rfl, fun w hSw => by obtain ⟨q1, q2⟩ := hSw; go_simp⟩) hS ?_
      simp only [Act.put, List.setIfInBounds_toArray, List.set_cons_zero, List.set_cons_succ]
      refine wpAnyH_takeD 10 (some 35) (.pointer (some ⟨g5, k, none⟩)) rfl rfl (by kernel_rfl) (by kernel_rfl) (by kernel_rfl) (fun _ _ _ h => h) (Or.inl ⟨by rfl, fun w hSw => by obtain ⟨q1, q2⟩ := hSw; go_simp⟩) hS ?_
      simp only [Act.put, List.setIfInBounds_toArray, List.set_cons_zero, List.set_cons_succ]
      refine wpAnyH_takeD 11 (some 36) (.string X) rfl rfl (by kernel_rfl) (by kernel_rfl) (by kernel_rfl) (fun _ _ _ h => h) (Or.inl ⟨by rfl, fun w hSw => by obtain ⟨q1, q2⟩ := hSw; go_simp⟩) hS ?_
      simp only [Act.put, List.setIfInBounds_toArray, List.set_cons_zero, List.set_cons_succ]
      refine wpAnyH_takeD 12 (some 37) (.slice (some ⟨gl, ol, none⟩) N c) rfl rfl (by kernel_rfl) (by kernel_rfl) (by kernel_rfl) (fun _ _ _ h => h) (Or.inl ⟨by rfl, fun w hSw => by obtain ⟨q1, q2⟩ := hSw; go_simp⟩) hS ?_
      simp only [Act.put, List.setIfInBounds_toArray, List.set_cons_zero, List.set_cons_succ]
      refine wpAnyH_takeD 13 (some 38) (.int .i64 (k : Int)) rfl rfl (by kernel_rfl) (by kernel_rfl) (by kernel_rfl) (fun _ _ _ h => h) (Or.inl ⟨by rfl, fun w hSw => by obtain ⟨q1, q2⟩ := hSw; go_simp⟩) hS ?_
      simp only [Act.put, List.setIfInBounds_toArray, List.set_cons_zero, List.set_cons_succ]
      refine wpAnyH_takeD 14 (some 39) (.pointer (some ⟨gl, ol + k, none⟩)) rfl rfl (by kernel_rfl) (by kernel_rfl) (by kernel_rfl) (fun _ _ _ h => h) (Or.inl ⟨by rfl, fun w hSw => by obtain ⟨q1, q2⟩ := hSw; go_simp⟩) hS ?_
      simp only [Act.put, List.setIfInBounds_toArray, List.set_cons_zero, List.set_cons_succ]
      refine wpAnyH_takeD 15 (some 40) (.string S) rfl rfl (by kernel_rfl) (by kernel_rfl) (by kernel_rfl) (fun _ _ _ h => h) (Or.inl ⟨by rfl, fun w hSw => by obtain ⟨q1, q2⟩ := hSw; go_simp⟩) hS ?_
      simp only [Act.put, List.setIfInBounds_toArray, List.set_cons_zero, List.set_cons_succ]
      refine wpAnyH_takeD 16 (some 41) (.bool true) rfl rfl (by kernel_rfl) (by kernel_rfl) (by kernel_rfl) (fun _ _ _ h => h) (Or.inl ⟨by rfl, fun w hSw => by obtain ⟨q1, q2⟩ := hSw; go_simp⟩) hS ?_
      simp only [Act.put, List.setIfInBounds_toArray, List.set_cons_zero, List.set_cons_succ]
      refine wpAnyH_takeD 17 (some 42) (.bool true) rfl rfl (by kernel_rfl) (by kernel_rfl) (by kernel_rfl) (fun _ _ _ h => h) (Or.inl ⟨by rfl, fun w hSw => by obtain ⟨q1, q2⟩ := hSw; go_simp⟩) hS ?_
      simp only [Act.put, List.setIfInBounds_toArray, List.set_cons_zero, List.set_cons_succ]
      refine wpAnyH_takeD 18 (some 43) (.bool true) rfl rfl (by kernel_rfl) (by kernel_rfl) (by kernel_rfl) (fun _ _ _ h => h) (Or.inl ⟨by rfl, fun w hSw => by obtain ⟨q1, q2⟩ := hSw; go_simp⟩) hS ?_
      simp only [Act.put, List.setIfInBounds_toArray, List.set_cons_zero, List.set_cons_succ]
      refine wpAnyH_takeD 19 (some 10) (.bool true) rfl rfl (by kernel_rfl) (by kernel_rfl) (by kernel_rfl) (fun _ _ _ h => h) (Or.inl ⟨by rfl, fun w hSw => by obtain ⟨q1, q2⟩ := hSw; go_simp⟩) hS ?_
      simp only [Act.put, List.setIfInBounds_toArray, List.set_cons_zero, List.set_cons_succ]
      refine wpAnyH_done (by kernel_rfl) ?_ _
      clear hcl hcx
      go_wp2
      go_roundw
      case rel => exact ⟨k + 1, true, by omega, by go_num, rfl, hide ⟨(unhide HN).1, ⟨fun _ => (unhide HN).2, fun _ => rfl⟩⟩⟩
      case measure => simp [intOf] <;> omega
theorem rreb_bad (w : World) (N c : Nat) (p : Option Addr) (n m : Int) (h : cntB n m = false ∨ (N : Int) ≠ n + m) (hn : -100 ≤ n + m ∧ n + m ≤ 100 ∨ cntB n m = false) : Calls Tryd.prog 10 #[.slice p N c, .int .i64 n, .int .i64 m] w fun e w' => e = .returned (.tuple #[.slice none 0 0, .int .i64 180]) ∧ Below w.heap.size w w' := by
  have HF := hide (rsaid_bad w N c p n m h hn)
  clear h hn
  go_enter Tryd.func10, Tryd.ntmps10
  go_wp2_with fail
  refine (unhide HF).mono ?_
  rintro e w1 ⟨rfl, hw⟩
  subst w1
  go_wp2
  go_loopw [10] (fun i wr => i = .int .i64 0 ∧ Hid (Below w.heap.size w wr)) (fun _ _ => 0)
  case atStart => exact ⟨rfl, hide (Below.refl _ _)⟩
  case round =>
  obtain ⟨rfl, HR⟩ := hrel
  go_wp2
  go_ret2
  exact ⟨rfl, unhide HR⟩
theorem rwrong_bad (w : World) (N c : Nat) (p : Option Addr) (n m : Int) (h : cntB n m = false ∨ (N : Int) ≠ n + m) (hn : -100 ≤ n + m ∧ n + m ≤ 100 ∨ cntB n m = false) : Calls Tryd.prog 14 #[.slice p N c, .int .i64 n, .int .i64 m] w fun e w' => e = .returned (.tuple #[.bool false, .int .i64 180]) ∧ Below w.heap.size w w' := by
  have HF := hide (rsaid_bad w N c p n m h hn)
  clear h hn
  go_enter Tryd.func14, Tryd.ntmps14
  go_wp2_with fail
  refine (unhide HF).mono ?_
  rintro e w1 ⟨rfl, hw⟩
  subst w1
  go_wp2
  go_loopw [10, 11] (fun u i wr => u = .bool false ∧ i = .int .i64 0 ∧ Hid (Below w.heap.size w wr)) (fun _ _ _ => 0)
  case atStart => exact ⟨rfl, rfl, hide (Below.refl _ _)⟩
  case round =>
  obtain ⟨rfl, rfl, HR⟩ := hrel
  go_wp2
  go_ret2
  exact ⟨rfl, unhide HR⟩
end Go.Proofs.YtolblldpdgfkmaaDoor
namespace Go.Proofs.YtolblldpdgfkmaaDoor
open Go.RowKit
set_option maxRecDepth 100000
theorem ge_nums {X : ByteArray} (h : 4 ≤ X.size) : 4 ≤ (nums X).length := by rw [nums_len]; exact h
/-- the stream that is one is the stream of its text -/
theorem st_back (b : ByteArray) (d : Nat) (hd : 1 ≤ d) (h : txOk b d) : stB (txT b) d = b := by
  obtain ⟨h4, hv, hz, h0⟩ := h
  have hle := stN_le (txV b) d hd
  have hts : (txT b).size = txV b := by
    unfold txT
    rw [ByteArray.size_extract]
    omega
  apply nums_inj
  rw [st_nums (txT b) d (by omega), hts]
  have hnt : nums (txT b) = ((nums b).drop 4).take (txV b) := by
    unfold txT
    rw [nums_ext, Nat.add_sub_cancel_left]
  have hlb : (nums b).length = b.size := nums_len b
  have hzz : stZ (txV b) d = d * stN (txV b) d - (4 + txV b) := rfl
  have hV : txV b = ((((0 * 256 + byN b 0) * 256 + byN b 1) * 256) + byN b 2) * 256 + byN b 3 := rfl
  have b0 := byN_lt b 0
  have b1 := byN_lt b 1
  have b2 := byN_lt b 2
  have b3 := byN_lt b 3
  have hb : ∀ i, (hi : i < (nums b).length) → (nums b)[i] = (byN b i : Int) := fun i hi => by
    rw [byN_v, List.getD_eq_getElem?_getD, List.getElem?_eq_getElem hi]
    rfl
  have hh : (hd4 (txV b)).length = 4 := rfl
  have e1 : hd4 (txV b) = (nums b).take 4 := by
    apply List.ext_getElem
    · rw [hh, List.length_take, hlb]
      omega
    · intro i h1 h2
      rw [hh] at h1
      rw [List.getElem_take, hb]
      match i, h1 with
      | 0, _ => show ((txV b : Nat) : Int) / 16777216 = _; omega
      | 1, _ => show ((txV b : Nat) : Int) / 65536 = _; omega
      | 2, _ => show ((txV b : Nat) : Int) / 256 % 256 = _; omega
      | 3, _ => show ((txV b : Nat) : Int) % 256 = _; omega
  have e2 : List.replicate (stZ (txV b) d) (0 : Int) = (nums b).drop (4 + txV b) := by
    apply List.ext_getElem
    · rw [List.length_replicate, List.length_drop, hlb, hzz, hz]
    · intro i h1 h2
      rw [List.length_drop, hlb] at h2
      rw [List.getElem_replicate, List.getElem_drop, hb, h0 _ (by omega) (by omega)]
      rfl
  rw [e1, e2, hnt, List.append_assoc, ← List.drop_drop, List.take_append_drop, List.take_append_drop]
theorem st_iff (b : ByteArray) (d : Nat) (hd : 1 ≤ d) (hv : txV b ≤ 60000) (h4 : 4 + txV b ≤ b.size) : stB (txT b) d = b ↔ txOk b d := by
  have hts : (txT b).size = txV b := by
    unfold txT
    rw [ByteArray.size_extract]
    omega
  constructor
  · intro h
    have := (st_ok (txT b) d hd (by omega)).1
    rw [h] at this
    exact this
  · exact st_back b d hd
theorem thr_ge (L : List ByteArray) (N : Nat) : ∀ r, r < (thr L N).length → r ≤ (thr L N).getD r 0
  | 0, _ => Nat.zero_le _
  | r + 1, h => by
    have h1 := thr_ge L N r (by omega)
    have h2 := thr_mono L N r (r + 1) (by omega) h
    omega
/-- the shards of data that are there are among the first ones -/
theorem str_say {L : List ByteArray} {N n len : Nat} {y : Nat → Nat → G} (hf : Fits L N n len y) (hnN : n ≤ N) : strT n len y L = catB ((List.range n).map (fun i => sayT n len i y)) := by
  unfold strT
  congr 1
  refine List.map_congr_left (fun i hi => ?_)
  have hi' := List.mem_range.1 hi
  unfold filT
  by_cases h : sz L i = 0
  · rw [if_pos h]
  · rw [if_neg h]
    obtain ⟨r, hr, e⟩ := thr_in L N i (by omega) h
    have := thr_ge L N r hr
    rw [← e]
    exact first_say hf (by omega)
theorem cat_snoc (X : List ByteArray) (S : ByteArray) : catB (X ++ [S]) = catB X ++ S := by
  apply nums_inj
  rw [catB_nums, nums_app, catB_nums]
  simp
def catS (n len : Nat) (y : Nat → Nat → G) (k : Nat) : ByteArray := catB ((List.range k).map (fun i => sayT n len i y))
theorem catS_succ (n len : Nat) (y : Nat → Nat → G) (k : Nat) : catS n len y (k + 1) = catS n len y k ++ sayT n len k y := by
  unfold catS
  rw [List.range_succ, List.map_append, List.map_singleton, cat_snoc]
theorem say_size (n len k : Nat) (y : Nat → Nat → G) : (sayT n len k y).size = len := by
  unfold sayT
  rw [strOfNums_size, gL_len]
theorem catS_size (n len : Nat) (y : Nat → Nat → G) (k : Nat) : (catS n len y k).size = k * len := by
  unfold catS
  rw [catB_size _ len (fun x hx => by
    obtain ⟨i, _, rfl⟩ := List.mem_map.1 hx
    exact say_size n len i y)]
  simp
theorem rjoin_bad (w : World) (N c : Nat) (p : Option Addr) (n m : Int) (h : cntB n m = false ∨ (N : Int) ≠ n + m) (hn : -100 ≤ n + m ∧ n + m ≤ 100 ∨ cntB n m = false) : Calls Tryd.prog 7 #[.slice p N c, .int .i64 n, .int .i64 m] w fun e w' => e = .returned (.tuple #[.string ⟨#[]⟩, .int .i64 180]) ∧ Below w.heap.size w w' := by
  have HF := hide (rsaid_bad w N c p n m h hn)
  clear h hn
  go_enter Tryd.func7, Tryd.ntmps7
  go_wp2_with fail
  refine (unhide HF).mono ?_
  rintro e w1 ⟨rfl, hw⟩
  subst w1
  go_wp2
  go_ret2
  exact ⟨rfl, Below.refl _ _⟩
set_option maxHeartbeats 8000000 in
theorem rjoin_any (w : World) (L : List ByteArray) (N n m B c : Nat) (p : Option Addr) (hN : L.length = N) (hNm : N = n + m) (hn1 : 1 ≤ n) (hn2 : n ≤ 16) (hm : m ≤ 8) (hL : GTx w B p L) (hB : B ≤ w.heap.size) (hsb : ∀ j, sz L j ≤ 9223372036854775807) : Calls Tryd.prog 7 #[.slice p N c, .int .i64 (n : Int), .int .i64 (m : Int)] w (JoQ L N n w) := by
  have HF := hide (rsaid_any w L N n m B c p hN hNm hn1 hn2 hm hL hB hsb)
  have hnN : n ≤ N := by omega
  clear hN hL hB hsb hNm
  go_enter Tryd.func7, Tryd.ntmps7
  go_wp2_with fail
  refine (unhide HF).mono ?_
  rintro e w1 ⟨hb, h1, h2, h3⟩
  have HB := hide hb
  have hbs := hb.size
  clear hb HF
  by_cases hf : frm L N
  case neg =>
    obtain rfl := h1 hf
    have HE := hide (show JoQ L N n w (.returned (.tuple #[.string ⟨#[]⟩, .int .i64 181])) w1 from ⟨unhide HB, fun _ => rfl, fun q => absurd q hf, fun q => absurd q hf⟩)
    clear hf h1 h2 h3
    go_wp2
    go_ret2
    exact unhide HE
  by_cases ht : (thr L N).length < n
  · obtain rfl := h2 hf ht
    have HE := hide (show JoQ L N n w (.returned (.tuple #[.string ⟨#[]⟩, .int .i64 182])) w1 from ⟨unhide HB, fun q => absurd hf q, fun _ _ => rfl, fun _ q => by omega⟩)
    clear hf h1 h2 h3 ht
    go_wp2
    go_ret2
    exact unhide HE
  obtain ⟨len, y, p5, c5, hl1, hl2, hfit, rfl, ho⟩ := h3 hf (by omega)
  have hss := str_say hfit hnN
  have HOK := hide (show ∀ W, Below w1.heap.size w1 W → txOk (catS n len y n) n → JoQ L N n w (.returned (.tuple #[.string (txT (catS n len y n)), .int .i64 0])) W from fun W hW q => ⟨(unhide HB).trans (hW.mono hbs), fun z => absurd hf z, fun _ z => absurd z ht, fun _ _ => ⟨len, y, hl2, hfit, fun _ => by rw [hss]; rfl, fun z => absurd (by rw [hss]; exact q) z⟩⟩)
  have HNO := hide (show ∀ W, Below w1.heap.size w1 W → ¬ txOk (catS n len y n) n → JoQ L N n w (.returned (.tuple #[.string ⟨#[]⟩, .int .i64 181])) W from fun W hW q => ⟨(unhide HB).trans (hW.mono hbs), fun z => absurd hf z, fun _ z => absurd z ht, fun _ _ => ⟨len, y, hl2, hfit, fun z => absurd (by rw [hss] at z; exact z) q, fun _ => rfl⟩⟩)
  have HO := hide ho
  have HSA := hide (fun (k : Nat) (hk : k < N) => sayL_at (n := n) (len := len) (y := y) hk)
  have HSL := hide (show (sayL n len y N).length = N from by simp [sayL])
  obtain ⟨Y, hY⟩ : ∃ q, sayL n len y N = q := ⟨_, rfl⟩
  have HCS := hide (show ∀ k, k < n → catS n len y (k + 1) = catS n len y k ++ Y.getD k ByteArray.empty from fun k hk => by rw [catS_succ, ← hY, sayL_at (by omega)])
  have HYS := hide (show ∀ k, k < n → (Y.getD k ByteArray.empty).size = len from fun k hk => by rw [← hY, sayL_at (by omega), say_size])
  have HCZ := hide (show ∀ k, (catS n len y k).size = k * len from fun k => catS_size n len y k)
  have HC0 := hide (show catS n len y 0 = ⟨#[]⟩ from rfl)
  rw [hY] at HO HSL
  obtain ⟨CS, hCS⟩ : ∃ q, catS n len y = q := ⟨_, rfl⟩
  rw [hCS] at HOK HNO HCS HCZ HC0
  clear hCS hY HSA h1 h2 h3 hf ht hfit ho hss
  go_wp2
  go_loopw [10, 11] (fun u i wr => ∃ k : Nat, k ≤ n ∧ i = .int .i64 (k : Int) ∧ u = .string (CS k) ∧ wr = w1) (fun _ i _ => n - (intOf i).toNat)
  case atStart => exact ⟨0, by omega, rfl, by rw [unhide HC0], rfl⟩
  case round =>
  obtain ⟨k, hk, rfl, rfl, hw⟩ := hrel
  subst wr
  by_cases hkn : k < n
  case pos =>
    have hkn' : (k : Int) < (n : Int) := by omega
    have hkN' : (k : Int) < (N : Int) := by omega
    have hk0 : (0 : Int) ≤ (k : Int) := by omega
    obtain ⟨g5, rfl, hcx, _, _, _⟩ := gr_cell (unhide HO) k (by omega)
    rw [List.getElem?_map, List.getElem?_eq_getElem (by rw [unhide HSL]; omega), show Y[k]'(by rw [unhide HSL]; omega) = Y.getD k ByteArray.empty from by rw [List.getD_eq_getElem?_getD, List.getElem?_eq_getElem (by rw [unhide HSL]; omega)]; rfl] at hcx
    simp only [Option.map_some] at hcx
    have HN := hide (unhide HCS k hkn)
    have hs1 := unhide HCZ k
    have hs2 := unhide HYS k hkn
    have hm1 : k * len ≤ 16 * 60004 := Nat.mul_le_mul (by omega) hl2
    obtain ⟨X, hX⟩ : ∃ q, Y.getD k ByteArray.empty = q := ⟨_, rfl⟩
    obtain ⟨C, hC⟩ : ∃ q, CS k = q := ⟨_, rfl⟩
    rw [hX] at hcx HN hs2
    rw [hC] at HN hs1 ⊢
    have hs3 : ¬ 9223372036854775807 < C.size + X.size := by omega
    clear hX hC hs1 hs2
    go_wp2
    go_roundw
    case rel => exact ⟨k + 1, by omega, by go_num, by rw [unhide HN], by first | rfl | trivial⟩
    case measure => simp [intOf] <;> omega
  obtain rfl : k = n := by omega
  have hkn' : ¬ (k : Int) < (k : Int) := by omega
  have hbz := unhide HCZ k
  have hm1 : k * len ≤ 16 * 60004 := Nat.mul_le_mul hn2 hl2
  obtain ⟨b, hbq⟩ : ∃ q, CS k = q := ⟨_, rfl⟩
  rw [hbq] at HOK HNO hbz ⊢
  rw [← hbz] at hm1
  clear hbq HCS HYS HCZ HC0 HO HSL hbz
  by_cases h4 : b.size < 4
  · have h4' : (b.size : Int) < 4 := by omega
    have HE := hide (unhide HNO w1 (Below.refl _ _) (fun q => by have := q.1; omega))
    clear HOK HNO
    go_wp2
    go_ret2
    exact unhide HE
  have h4' : ¬ (b.size : Int) < 4 := by omega
  go_wp2
  go_loopw [12, 13] (fun u i wr => ∃ k : Nat, k ≤ 4 ∧ i = .int .i64 (k : Int) ∧ u = .int .i64 (tld b k : Int) ∧ wr = w1) (fun _ i _ => 4 - (intOf i).toNat)
  case atStart => exact ⟨0, by omega, rfl, rfl, rfl⟩
  case round =>
  obtain ⟨q, hq, rfl, rfl, hw⟩ := hrel
  subst wr
  by_cases hq4 : q < 4
  case pos =>
    have hq4' : (q : Int) < 4 := by omega
    have hqz : (q : Int) < (b.size : Int) := by omega
    have hq0 : (0 : Int) ≤ (q : Int) := by omega
    have hix := index_str b q (by omega)
    rw [← byN_v] at hix
    have hbl := byN_lt b q
    have htl : tld b q < 16777216 := by
      have := tld_lt b q
      have h3 : 256 ^ q ≤ 256 ^ 3 := Nat.pow_le_pow_right (by decide) (by omega)
      have h5 : 256 ^ 3 = 16777216 := by decide
      omega
    have HS := hide (show tld b (q + 1) = tld b q * 256 + byN b q from rfl)
    obtain ⟨t, ht⟩ : ∃ z, tld b q = z := ⟨_, rfl⟩
    obtain ⟨x, hx⟩ : ∃ z, byN b q = z := ⟨_, rfl⟩
    rw [ht] at HS htl ⊢
    rw [hx] at HS hbl hix
    clear ht hx HOK HNO
    have HS2 := hide (show (256 * (t : Int) + (x : Int)) = ((tld b (q + 1) : Nat) : Int) from by rw [unhide HS]; omega)
    have HW1 := hide (show wrap64 (256 * (t : Int)) = 256 * (t : Int) from wrap64_eq _ (by omega) (by omega))
    have HW2 := hide (show wrap64 (256 * (t : Int) + (x : Int)) = 256 * (t : Int) + (x : Int) from wrap64_eq _ (by omega) (by omega))
    have HW3 := hide (show IntKind.wrap .i64 (x : Int) = (x : Int) from wrapI_eq _ (by omega) (by omega))
    have hw1 := unhide HW1
    have hw2 := unhide HW2
    have hw3 := unhide HW3
    clear htl hbl hm1 HW1 HW2 HW3
    go_wp2
    go_roundw
    case rel => exact ⟨q + 1, by omega, by go_num, by rw [hw2, unhide HS2], by first | rfl | trivial⟩
    case measure => simp [intOf] <;> omega
  obtain rfl : q = 4 := by omega
  have hV : tld b 4 = txV b := rfl
  rw [hV]
  have hSI := hide (fun (h : txV b ≤ 60000) (h2 : 4 + txV b ≤ b.size) => st_iff b k hn1 h h2)
  have HTX := hide (show txT b = b.extract 4 (4 + txV b) from rfl)
  have HBD := hide (show txOk b k → txV b ≤ 60000 ∧ 4 + txV b ≤ b.size from fun q => ⟨q.2.1, by
    have := stN_le (txV b) k hn1
    have := q.2.2.1
    omega⟩)
  have hVb : txV b < 4294967296 := by
    have := tld_lt b 4
    rw [hV] at this
    have h5 : 256 ^ 4 = 4294967296 := by decide
    omega
  clear hV
  obtain ⟨v, hv⟩ : ∃ q, txV b = q := ⟨_, rfl⟩
  rw [hv] at hSI HTX HBD hVb ⊢
  clear hv
  have hq4' : ¬ ((4 : Nat) : Int) < 4 := by omega
  have hwz : wrap64 ((b.size : Int) - 4) = (b.size : Int) - 4 := wrap64_eq _ (by omega) (by omega)
  by_cases hv6 : 60000 < v
  · have hv6' : (60000 : Int) < (v : Int) := by omega
    have HE := hide (unhide HNO w1 (Below.refl _ _) (fun q => by have := (unhide HBD q).1; omega))
    clear HOK HNO hSI HTX HBD
    go_wp2
    go_ret2
    exact unhide HE
  have hv6' : ¬ (60000 : Int) < (v : Int) := by omega
  by_cases hvb : b.size < 4 + v
  · have hvb' : (b.size : Int) - 4 < (v : Int) := by omega
    have HE := hide (unhide HNO w1 (Below.refl _ _) (fun q => by have := (unhide HBD q).2; omega))
    clear HOK HNO hSI HTX HBD
    go_wp2
    go_ret2
    exact unhide HE
  have hvb' : ¬ (b.size : Int) - 4 < (v : Int) := by omega
  have hw4 : wrap64 (4 + (v : Int)) = 4 + (v : Int) := wrap64_eq _ (by omega) (by omega)
  have hsl := slice_str b 4 v (by omega)
  have hsl2 : ∀ W : World, (Instr.slice 9 (.string b) (some (.int .i64 4)) (some (.int .i64 (4 + (v : Int)))) none).run Tryd.prog W = .ok (.string (b.extract 4 (4 + v))) W := fun W => hsl W
  have HXS := hide (show (b.extract 4 (4 + v)).size ≤ 70000 from by rw [ByteArray.size_extract]; omega)
  have hSJ := hide (unhide hSI (by omega) (by omega))
  obtain ⟨X, hX⟩ : ∃ q, b.extract 4 (4 + v) = q := ⟨_, rfl⟩
  rw [hX] at hsl2 HXS HTX
  rw [unhide HTX] at HOK hSJ
  have HST := hide (fun W => rstream_any W X k hn1 hn2 (unhide HXS))
  clear hX hSI HBD hsl
  go_wp2_with fail
  refine (unhide HST _).mono ?_
  rintro e w2 ⟨rfl, hb2⟩
  have HB2 := hide hb2
  have HJ := hide (unhide hSJ)
  obtain ⟨Z, hZ⟩ : ∃ q, stB X k = q := ⟨_, rfl⟩
  rw [hZ] at HJ ⊢
  clear hb2 HST hSJ hZ
  by_cases hzb : Z = b
  · have hz1 : (Z.toList == b.toList) = true := by rw [hzb]; simp
    have HE := hide (unhide HOK w2 (unhide HB2) ((unhide HJ).1 hzb))
    clear HOK HNO HJ
    go_wp2
    go_ret2
    exact unhide HE
  · have hz1 : (Z.toList == b.toList) = false := str_ne hzb
    have HE := hide (unhide HNO w2 (unhide HB2) (fun q => hzb ((unhide HJ).2 q)))
    clear HOK HNO HJ
    go_wp2
    go_ret2
    exact unhide HE
end Go.Proofs.YtolblldpdgfkmaaDoor
namespace Go.Proofs.YtolblldpdgfkmaaDoor
open Go.RowKit
set_option maxRecDepth 100000
theorem pjoin_bad (w : World) (N c : Nat) (p : Option Addr) (n m : Int) (h : cntB n m = false ∨ (N : Int) ≠ n + m) (hn : -100 ≤ n + m ∧ n + m ≤ 100 ∨ cntB n m = false) : Calls Tryd.prog 6 #[.slice p N c, .int .i64 n, .int .i64 m] w fun e w' => e = .returned (.tuple #[.string ⟨#[]⟩, .int .i64 180]) ∧ Below w.heap.size w w' := by
  have HF := hide (pfirst_bad w N c p n m h hn)
  clear h hn
  go_enter Tryd.func6, Tryd.ntmps6
  go_wp2_with fail
  refine (unhide HF).mono ?_
  rintro e w1 ⟨rfl, hb⟩
  have HB := hide hb
  have hbs := hb.size
  clear hb HF
  unfold aggE
  go_wp2
  go_ret2
  exact ⟨rfl, (unhide HB).alloc hbs _⟩
theorem pwrong_bad (w : World) (N c : Nat) (p : Option Addr) (n m : Int) (h : cntB n m = false ∨ (N : Int) ≠ n + m) (hn : -100 ≤ n + m ∧ n + m ≤ 100 ∨ cntB n m = false) : Calls Tryd.prog 13 #[.slice p N c, .int .i64 n, .int .i64 m] w fun e w' => e = .returned (.tuple #[.bool false, .int .i64 180]) ∧ Below w.heap.size w w' := by
  have HF := hide (pfirst_bad w N c p n m h hn)
  clear h hn
  go_enter Tryd.func13, Tryd.ntmps13
  go_wp2_with fail
  refine (unhide HF).mono ?_
  rintro e w1 ⟨rfl, hb⟩
  have HB := hide hb
  have hbs := hb.size
  clear hb HF
  unfold aggE
  go_wp2
  go_ret2
  exact ⟨rfl, (unhide HB).alloc hbs _⟩
def tilB : ByteArray := ⟨#[126]⟩
/-- What a lent list holds: the texts, and four marks behind them. -/
def lentT (l : List ByteArray) : List ByteArray := l ++ List.replicate 4 tilB
theorem lentT_lt (l : List ByteArray) (k : Nat) (h : k < l.length) : (lentT l).getD k ByteArray.empty = l.getD k ByteArray.empty := by
  simp [lentT, List.getD_eq_getElem?_getD, List.getElem?_append_left h]
theorem lentT_ge (l : List ByteArray) (k : Nat) (h : ¬ k < l.length) (h2 : k < l.length + 4) : (lentT l).getD k ByteArray.empty = tilB := by
  rw [lentT, List.getD_eq_getElem?_getD, List.getElem?_append_right (by omega), List.getElem?_replicate, if_pos (by omega)]
  rfl
theorem strs_at (l : List ByteArray) (j : Nat) (u : Value) (h : (l.map Value.string)[j]? = some u) : j < l.length ∧ u = .string (l.getD j ByteArray.empty) := by
  rw [List.getElem?_map] at h
  by_cases hj : j < l.length
  · rw [List.getElem?_eq_getElem hj] at h
    refine ⟨hj, ?_⟩
    rw [List.getD_eq_getElem?_getD, List.getElem?_eq_getElem hj]
    simpa using h.symm
  · rw [List.getElem?_eq_none (by omega)] at h
    cases h
theorem strs_get (l : List ByteArray) (j : Nat) (h : j < l.length) : (l.map Value.string)[j]? = some (.string (l.getD j ByteArray.empty)) := by
  rw [List.getElem?_map, List.getElem?_eq_getElem h, List.getD_eq_getElem?_getD, List.getElem?_eq_getElem h]
  rfl
set_option maxHeartbeats 1000000 in
theorem lentT_any (w : World) (l : List ByteArray) (a : Addr) (c : Nat) (hl : GTx w w.heap.size (some a) l) (hll : l.length ≤ 8796093022100) :
    Calls Tryd.prog 5 #[.slice (some a) l.length c] w fun e w' => ∃ g cap, e = .returned (.slice (some ⟨g, 0, none⟩) l.length cap) ∧ l.length + 4 ≤ cap ∧ w'.ownsRow w.heap.size 9 1 (.slice (some ⟨g, 0, none⟩) (l.length + 4) cap) (l.length + 4) ((lentT l).map Value.string) ∧ Below w.heap.size w w' := by
  have en := fun w' => Lib.run_eql_slice_nil (P := Tryd.prog) w' 22 9 (some a) l.length c 0 0 Tryd.underlying22
  have hpn : (some a).isNone = false := rfl
  rw [hpn] at en
  have HL := hide hl
  obtain ⟨i0, hi0, hz0, hz1, hz2⟩ := info_parts gr_str
  have HI := hide (And.intro hi0 (And.intro hz0 (And.intro hz1 hz2)))
  clear hl hpn hi0 hz0 hz1 hz2
  go_enter Tryd.func5, Tryd.ntmps5
  go_wp2_with (refine wpList_append_own _ rfl (.const (.slice none 0 0)) (.tmp 5) 22 rfl w.heap.size 9 i0 (.string ⟨#[]⟩) 1 16 Tryd.underlying22 (unhide HI).1 (unhide HI).2.1 (unhide HI).2.2.1 (unhide HI).2.2.2 rfl (by decide) _ 0 [] rfl (World.ownsRow_nil _ _ _ _) a l.length c (l.map Value.string) rfl (by simp) (fun j u hu => by
      obtain ⟨hj, rfl⟩ := strs_at l j u hu
      obtain ⟨g1, o1, e, _, hc⟩ := unhide HL j hj
      cases e
      rw [Addr.add_mid]
      exact hc) (by simp [Value.oneCell']) (by unfold maxLen; omega) (by omega) (Nat.le_refl _) ?_)
  intro v' w1 ho hg _
  have hb1 : Below w.heap.size w w1 := (Below.refl _ w).grown hg (Nat.le_refl _) (fun q hq => by cases hq)
  have ho1 : w1.ownsRow w.heap.size 9 1 v' l.length (l.map Value.string) := by simpa using ho
  have hsz := hb1.size
  have HA := hide (owns_only ho1 (Only.of_below (P := fun _ => False) ((Below.refl _ w1).alloc (Nat.le_refl _) (.cells #[.string tilB, .string tilB, .string tilB, .string tilB] 9))) (fun _ _ q => q))
  have HB := hide hb1
  clear ho hg ho1 hb1
  go_wp2_with (refine wpList_append_lies _ rfl (.tmp 6) (.tmp 7) 22 rfl w.heap.size 9 i0 (.string ⟨#[]⟩) 1 16 Tryd.underlying22 (unhide HI).1 (unhide HI).2.1 (unhide HI).2.2.1 (unhide HI).2.2.2 rfl (by decide) _ l.length (l.map Value.string) rfl (unhide HA) ⟨w1.heap.size, 0, none⟩ 4 4 ((List.replicate 4 tilB).map Value.string) rfl rfl (fun q u hu => news_arr w1 9 _ q u hu) (by simp [Value.oneCell']) (by decide) (by unfold maxLen; omega) (by omega) (by simp; omega) _ rfl ?_)
  intro g5 cap5 w5 ho hg hor hlt
  have hc5 : l.length + 4 ≤ cap5 := by
    obtain ⟨p5, c5, e5, h5⟩ := gr_form ho
    cases e5
    exact h5
  have hb5 : Below w.heap.size w w5 := ((unhide HB).alloc (unhide HB).size _).grown hg (by simp; omega) (fun q hq => ((unhide HA).lt q hq).1)
  have ho5 : w5.ownsRow w.heap.size 9 1 (.slice (some ⟨g5, 0, none⟩) (l.length + 4) cap5) (l.length + 4) ((lentT l).map Value.string) := by
    have e : (lentT l).map Value.string = l.map Value.string ++ (List.replicate 4 tilB).map Value.string := by simp [lentT]
    rw [e]
    exact ho
  have X5 := hide (And.intro ho5 hb5)
  have b1 : (l.length : Int) ≤ (cap5 : Int) := by omega
  clear ho hg hor hlt hb5 ho5
  go_wp2
  go_ret
  exact ⟨g5, cap5, rfl, hc5, (unhide X5).1, (unhide X5).2⟩
set_option maxHeartbeats 1000000 in
theorem asT_any (w : World) (base g cap : Nat) (l : List ByteArray) (p : Option Addr) (c : Nat) (hl : GTx w w.heap.size p l) (hll : l.length ≤ 8796093022100) (hn : p ≠ none) (hcap : l.length + 4 ≤ cap)
    (hr : w.ownsRow base 9 1 (.slice (some ⟨g, 0, none⟩) (l.length + 4) cap) (l.length + 4) ((lentT l).map Value.string)) :
    Calls Tryd.prog 8 #[.slice (some ⟨g, 0, none⟩) l.length cap, .slice p l.length c] w fun e w' => e = .returned (.bool true) ∧ w' = w := by
  have en := fun w' => Lib.run_eql_slice_nil (P := Tryd.prog) w' 22 9 p l.length c 0 0 Tryd.underlying22
  have hpn : p.isNone = false := by cases p with
    | none => exact absurd rfl hn
    | some a => rfl
  rw [hpn] at en
  have HL := hide hl
  have HR := hide hr
  clear hl hn hpn hr
  go_enter Tryd.func8, Tryd.ntmps8
  have b1 : (l.length : Int) + 4 ≤ (cap : Int) := by omega
  have b2 : IntKind.wrap .i64 ((l.length : Int) + 4) = (l.length : Int) + 4 := wrapI_eq _ (by omega) (by omega)
  go_wp2
  clear en b1 b2
  go_loopw [6, 7] (fun i _ wr => ∃ k : Nat, k ≤ l.length + 4 ∧ i = .int .i64 (k : Int) ∧ wr = w) (fun i _ _ => l.length + 4 - (intOf i).toNat)
  case atStart => exact ⟨0, by omega, rfl, rfl⟩
  case round =>
    obtain ⟨k, hk, rfl, hw⟩ := hrel
    subst wr
    by_cases hkl : k < l.length + 4
    · have hc : w.cell? ⟨g, k, none⟩ = some (.string ((lentT l).getD k ByteArray.empty)) := by rw [(own_at (unhide HR) rfl k hkl).1]; exact strs_get (lentT l) k (by simp [lentT]; omega)
      have i0 : 0 ≤ (k : Int) := by omega
      have i1 : (k : Int) < ((l.length + 4 : Nat) : Int) := by omega
      by_cases hk2 : k < l.length
      · obtain ⟨gl, ol, rfl, hgl, hcl⟩ := unhide HL k hk2
        have i2 : (k : Int) < (l.length : Int) := by omega
        rw [lentT_lt l k hk2] at hc
        obtain ⟨z, hz⟩ : ∃ q, l.getD k ByteArray.empty = q := ⟨_, rfl⟩
        rw [hz] at hc hcl
        have hzz : (z.toList == z.toList) = true := by simp
        clear hz
        go_wp2
        go_roundw
        case rel => exact ⟨k + 1, by omega, by go_num, by first | rfl | trivial⟩
        case measure => simp [intOf] <;> omega
      · rw [lentT_ge l k hk2 hkl] at hc
        have hzz : ((⟨#[126]⟩ : ByteArray).toList == (⟨#[126]⟩ : ByteArray).toList) = true := by simp
        change w.cell? ⟨g, k, none⟩ = some (.string ⟨#[126]⟩) at hc
        have i2 : (l.length : Int) ≤ (k : Int) := by omega
        go_wp2
        go_roundw
        case rel => exact ⟨k + 1, by omega, by go_num, by first | rfl | trivial⟩
        case measure => simp [intOf] <;> omega
    · go_wp2
      go_ret
      exact ⟨rfl, rfl⟩
theorem asT_nil (w : World) : Calls Tryd.prog 8 #[.slice none 0 0, .slice none 0 0] w fun e w' => e = .returned (.bool true) ∧ w' = w := by
  have en := fun w' => Lib.run_eql_slice_nil (P := Tryd.prog) w' 22 9 none 0 0 0 0 Tryd.underlying22
  rw [show (none : Option Addr).isNone = true from rfl] at en
  go_enter Tryd.func8, Tryd.ntmps8
  go_wp2
  go_ret
  exact ⟨rfl, rfl⟩
theorem lentT_nil (w : World) : Calls Tryd.prog 5 #[.slice none 0 0] w fun e w' => e = .returned (.slice none 0 0) ∧ w' = w := by
  have en := fun w' => Lib.run_eql_slice_nil (P := Tryd.prog) w' 22 9 none 0 0 0 0 Tryd.underlying22
  rw [show (none : Option Addr).isNone = true from rfl] at en
  go_enter Tryd.func5, Tryd.ntmps5
  go_wp2
  go_ret
  exact ⟨rfl, rfl⟩
/-- What texts makes of a list: nil, or a row of its own with four marks behind. -/
def LnT (base : Nat) (w : World) (l : List ByteArray) (p : Option Addr) (x : Value) : Prop := (p = none ∧ l.length = 0 ∧ x = .slice none 0 0) ∨ (p ≠ none ∧ ∃ g c, x = .slice (some ⟨g, 0, none⟩) l.length c ∧ l.length + 4 ≤ c ∧ w.ownsRow base 9 1 (.slice (some ⟨g, 0, none⟩) (l.length + 4) c) (l.length + 4) ((lentT l).map Value.string))
theorem LnT.below {base : Nat} {w w' : World} {l : List ByteArray} {p : Option Addr} {x : Value} {B : Nat} (h : LnT base w l p x) (hb : Below B w w') (hx : ∀ k, x.ownBlock = some k → k < B) : LnT base w' l p x := by
  rcases h with h | ⟨h1, g, c, rfl, h3, h4⟩
  · exact .inl h
  · refine .inr ⟨h1, g, c, rfl, h3, owns_only h4 (P := fun k => B ≤ k) ⟨hb.mono (Nat.zero_le _), fun k hk hp => hb.block k (by omega)⟩ (fun k hk q => ?_)⟩
    have := hx k hk
    omega
theorem LnT.lt {base : Nat} {w : World} {l : List ByteArray} {p : Option Addr} {x : Value} (h : LnT base w l p x) (k : Nat) (hk : x.ownBlock = some k) : base ≤ k ∧ k < w.heap.size := by
  rcases h with ⟨_, _, rfl⟩ | ⟨h1, g, c, rfl, h3, h4⟩
  · cases hk
  · exact h4.lt k hk
theorem LnT.form {base : Nat} {w : World} {l : List ByteArray} {p : Option Addr} {x : Value} (h : LnT base w l p x) : ∃ q c, x = .slice q l.length c ∧ l.length ≤ c ∧ GTx w w.heap.size q l := by
  rcases h with ⟨_, h2, rfl⟩ | ⟨h1, g, c, rfl, h3, h4⟩
  · exact ⟨none, 0, by rw [h2], by omega, fun j hj => absurd hj (by omega)⟩
  · refine ⟨some ⟨g, 0, none⟩, c, rfl, by omega, fun j hj => ?_⟩
    obtain ⟨g', e, hc, _, _, hlt⟩ := gr_cell h4 j (by omega)
    obtain rfl : g = g' := by injection e with e; injection e
    refine ⟨g, 0, rfl, hlt, ?_⟩
    rw [Nat.zero_add, hc, ← lentT_lt l j hj]
    exact strs_get (lentT l) j (by simp [lentT]; omega)
theorem texts_lent (w : World) (l : List ByteArray) (p : Option Addr) (n c : Nat) (hn : l.length = n) (hl : GTx w w.heap.size p l) (h0 : p = none → n = 0 ∧ c = 0) (hll : n ≤ 8796093022100) : Calls Tryd.prog 5 #[.slice p n c] w fun e w' => ∃ x, e = .returned x ∧ LnT w.heap.size w' l p x ∧ Below w.heap.size w w' := by
  cases p with
  | none =>
    obtain ⟨h1, h2⟩ := h0 rfl
    subst h1 h2
    exact (lentT_nil w).mono (fun e w' h => ⟨_, h.1, .inl ⟨rfl, hn, rfl⟩, by rw [h.2]; exact Below.refl _ _⟩)
  | some a =>
    subst hn
    exact (lentT_any w l a c hl hll).mono (fun e w' h => by
      obtain ⟨g, cap, he, hc, ho, hb⟩ := h
      exact ⟨_, he, .inr ⟨by simp, g, cap, rfl, hc, ho⟩, hb⟩)
theorem texts_as (w : World) (base : Nat) (l : List ByteArray) (p q : Option Addr) (n c cx : Nat) (hn : l.length = n) (hl : GTx w w.heap.size p l) (h0 : p = none → n = 0 ∧ c = 0) (hll : n ≤ 8796093022100) (hx : LnT base w l p (.slice q n cx)) : Calls Tryd.prog 8 #[.slice q n cx, .slice p n c] w fun e w' => e = .returned (.bool true) ∧ w' = w := by
  rcases hx with ⟨rfl, h2, h3⟩ | ⟨h1, g, c', h3, h4, h5⟩
  · injection h3 with e1 e2 e3
    obtain ⟨h6, h7⟩ := h0 rfl
    subst e1 e2 e3 h7
    exact asT_nil w
  · injection h3 with e1 e2 e3
    subst e1 e3 hn
    exact asT_any w base g cx l p c hl hll h1 h4 h5
end Go.Proofs.YtolblldpdgfkmaaDoor
namespace Go.Proofs.YtolblldpdgfkmaaDoor
open Go.RowKit
set_option maxRecDepth 100000
theorem fit_eq {L : List ByteArray} {N n len len' : Nat} {y y' : Nat → Nat → G} (hfst : Fst n (fun r => (thr L N).getD r 0)) (h : Fits L N n len y) (h' : Fits L N n len' y') (k : Nat) : sayT n len k y = sayT n len' k y' := by
  have hl : len = len' := by rw [← h.1 0 hfst.n1, ← h'.1 0 hfst.n1]
  subst hl
  unfold sayT
  congr 1
  refine gL_congr (fun q hq => ?_)
  have hy := rows_same hfst.n2 _ hfst.lt hfst.inj (y q) (y' q) (fun r hr => by rw [h.2 q hq r hr, h'.2 q hq r hr])
  unfold rK
  exact sm_congr (fun j hj => by rw [hy j (List.mem_range.1 hj)])
theorem fits_get {L : List ByteArray} {N n : Nat} (hf : frm L N) (ht : n ≤ (thr L N).length) (hfst : Fst n (fun r => (thr L N).getD r 0)) : ∃ len y, Fits L N n len y := by
  obtain ⟨y, hy⟩ := fits_ex hfst
  obtain ⟨len, _, hszl⟩ := hf
  exact ⟨len, y, fun r hr => by
    have h9 := thr_mem2 (L := L) (N := N) (r := r) (by omega)
    exact hszl _ h9.1 h9.2, fun q _ r hr => hy q r hr⟩
theorem str_eq {L : List ByteArray} {N n len len' : Nat} {y y' : Nat → Nat → G} (hfst : Fst n (fun r => (thr L N).getD r 0)) (hnN : n ≤ N) (h : Fits L N n len y) (h' : Fits L N n len' y') : strT n len y L = strT n len' y' L := by
  rw [str_say h hnN, str_say h' hnN]
  congr 1
  exact List.map_congr_left (fun i _ => fit_eq hfst h h' i)
theorem fil_eq {L : List ByteArray} {N n len len' : Nat} {y y' : Nat → Nat → G} (hfst : Fst n (fun r => (thr L N).getD r 0)) (h : Fits L N n len y) (h' : Fits L N n len' y') (j : Nat) : filT n len y L j = filT n len' y' L j := by
  unfold filT
  rw [fit_eq hfst h h' j]
set_option maxHeartbeats 2000000 in
/-- What each of the calls answers, whoever is asked, the program or the document. -/
theorem ans18 (l : List ByteArray) (N : Nat) (x1 x2 : Int) (hN : l.length = N) (hsb : ∀ j, sz l j ≤ 9223372036854775807) : ∃ (S : ByteArray) (EJ : Int) (K : Nat) (LL : List ByteArray) (ER : Int) (b : Bool) (EW : Int), LL.length = K ∧ K ≤ 24 ∧ ∀ (w : World) (B c : Nat) (p : Option Addr), GTx w B p l → B ≤ w.heap.size →
    (N ≤ c → Calls Tryd.prog 6 #[.slice p N c, .int .i64 x1, .int .i64 x2] w (fun e w' => e = .returned (.tuple #[.string S, .int .i64 EJ]) ∧ Below w.heap.size w w')) ∧ Calls Tryd.prog 7 #[.slice p N c, .int .i64 x1, .int .i64 x2] w (fun e w' => e = .returned (.tuple #[.string S, .int .i64 EJ]) ∧ Below w.heap.size w w') ∧ Calls Tryd.prog 9 #[.slice p N c, .int .i64 x1, .int .i64 x2] w (fun e w' => ∃ p5 c5, e = .returned (.tuple #[.slice p5 K c5, .int .i64 ER]) ∧ w'.ownsRow w.heap.size 9 1 (.slice p5 K c5) K (LL.map Value.string) ∧ Below w.heap.size w w') ∧ Calls Tryd.prog 10 #[.slice p N c, .int .i64 x1, .int .i64 x2] w (fun e w' => ∃ p5 c5, e = .returned (.tuple #[.slice p5 K c5, .int .i64 ER]) ∧ w'.ownsRow w.heap.size 9 1 (.slice p5 K c5) K (LL.map Value.string) ∧ Below w.heap.size w w') ∧ Calls Tryd.prog 13 #[.slice p N c, .int .i64 x1, .int .i64 x2] w (fun e w' => e = .returned (.tuple #[.bool b, .int .i64 EW]) ∧ Below w.heap.size w w') ∧ Calls Tryd.prog 14 #[.slice p N c, .int .i64 x1, .int .i64 x2] w (fun e w' => e = .returned (.tuple #[.bool b, .int .i64 EW]) ∧ Below w.heap.size w w') := by
  by_cases hbad : cntB x1 x2 = false ∨ (N : Int) ≠ x1 + x2
  · have hn : -100 ≤ x1 + x2 ∧ x1 + x2 ≤ 100 ∨ cntB x1 x2 = false := by
      cases hc : cntB x1 x2 with
      | false => exact .inr rfl
      | true =>
        obtain ⟨h1, h2, h3, h4⟩ := of_decide_eq_true hc
        exact .inl ⟨by omega, by omega⟩
    exact ⟨⟨#[]⟩, 180, 0, [], 180, false, 180, rfl, Nat.zero_le _, fun w B c p _ _ => ⟨fun _ => pjoin_bad w N c p x1 x2 hbad hn, rjoin_bad w N c p x1 x2 hbad hn,
      (preb_bad w N c p x1 x2 hbad hn).mono (fun e w' h => ⟨none, 0, h.1, World.ownsRow_nil _ _ _ _, h.2⟩), (rreb_bad w N c p x1 x2 hbad hn).mono (fun e w' h => ⟨none, 0, h.1, World.ownsRow_nil _ _ _ _, h.2⟩), pwrong_bad w N c p x1 x2 hbad hn, rwrong_bad w N c p x1 x2 hbad hn⟩⟩
  have hc : cntB x1 x2 = true := by
    cases hc : cntB x1 x2 with
    | false => exact absurd (.inl hc) hbad
    | true => rfl
  have hNe : (N : Int) = x1 + x2 := by
    by_cases e : (N : Int) = x1 + x2
    · exact e
    · exact absurd (.inr e) hbad
  obtain ⟨h1, h2, h3, h4⟩ := of_decide_eq_true hc
  obtain ⟨n, rfl⟩ := Int.eq_ofNat_of_zero_le (show 0 ≤ x1 by omega)
  obtain ⟨m, rfl⟩ := Int.eq_ofNat_of_zero_le h3
  have hn1 : 1 ≤ n := by omega
  have hn2 : n ≤ 16 := by omega
  have hm : m ≤ 8 := by omega
  have hNm : N = n + m := by omega
  have c1 := fun (w : World) (B c : Nat) (p : Option Addr) (hG : GTx w B p l) (hB : B ≤ w.heap.size) (hNc : N ≤ c) => pjoin_any w l N n m B c p hN hNm hn1 hn2 hm hG hB hsb hNc
  have c2 := fun (w : World) (B c : Nat) (p : Option Addr) (hG : GTx w B p l) (hB : B ≤ w.heap.size) => rjoin_any w l N n m B c p hN hNm hn1 hn2 hm hG hB hsb
  have c3 := fun (w : World) (B c : Nat) (p : Option Addr) (hG : GTx w B p l) (hB : B ≤ w.heap.size) => preb_any w l N n m B c p hN hNm hn1 hn2 hm hG hB hsb
  have c4 := fun (w : World) (B c : Nat) (p : Option Addr) (hG : GTx w B p l) (hB : B ≤ w.heap.size) => rreb_any w l N n m B c p hN hNm hn1 hn2 hm hG hB hsb
  have c5 := fun (w : World) (B c : Nat) (p : Option Addr) (hG : GTx w B p l) (hB : B ≤ w.heap.size) => pwrong_any w l N n m B c p hN hNm hn1 hn2 hm hG hB hsb
  have c6 := fun (w : World) (B c : Nat) (p : Option Addr) (hG : GTx w B p l) (hB : B ≤ w.heap.size) => rwrong_any w l N n m B c p hN hNm hn1 hn2 hm hG hB hsb
  by_cases hf : frm l N
  case neg => exact ⟨⟨#[]⟩, 181, 0, [], 181, false, 181, rfl, Nat.zero_le _, fun w B c p hG hB => ⟨fun hNc => (c1 w B c p hG hB hNc).mono (fun e w' h => ⟨h.2.1 hf, h.1⟩), (c2 w B c p hG hB).mono (fun e w' h => ⟨h.2.1 hf, h.1⟩),
      (c3 w B c p hG hB).mono (fun e w' h => ⟨none, 0, h.2.1 hf, World.ownsRow_nil _ _ _ _, h.1⟩), (c4 w B c p hG hB).mono (fun e w' h => ⟨none, 0, h.2.1 hf, World.ownsRow_nil _ _ _ _, h.1⟩), (c5 w B c p hG hB).mono (fun e w' h => ⟨h.2.1 hf, h.1⟩), (c6 w B c p hG hB).mono (fun e w' h => ⟨h.2.1 hf, h.1⟩)⟩⟩
  by_cases ht : (thr l N).length < n
  · exact ⟨⟨#[]⟩, 182, 0, [], 182, false, 182, rfl, Nat.zero_le _, fun w B c p hG hB => ⟨fun hNc => (c1 w B c p hG hB hNc).mono (fun e w' h => ⟨h.2.2.1 hf ht, h.1⟩), (c2 w B c p hG hB).mono (fun e w' h => ⟨h.2.2.1 hf ht, h.1⟩),
      (c3 w B c p hG hB).mono (fun e w' h => ⟨none, 0, h.2.2.1 hf ht, World.ownsRow_nil _ _ _ _, h.1⟩), (c4 w B c p hG hB).mono (fun e w' h => ⟨none, 0, h.2.2.1 hf ht, World.ownsRow_nil _ _ _ _, h.1⟩), (c5 w B c p hG hB).mono (fun e w' h => ⟨h.2.2.1 hf ht, h.1⟩), (c6 w B c p hG hB).mono (fun e w' h => ⟨h.2.2.1 hf ht, h.1⟩)⟩⟩
  have ht' : n ≤ (thr l N).length := by omega
  have hfst := thr_fst l N n m hNm hn1 hn2 hm ht'
  obtain ⟨len0, y0, hfit0⟩ := fits_get hf ht' hfst
  have jo : ∃ (S : ByteArray) (EJ : Int), ∀ w e w', JoQ l N n w e w' → e = .returned (.tuple #[.string S, .int .i64 EJ]) ∧ Below w.heap.size w w' := by
    by_cases hok : txOk (strT n len0 y0 l) n
    · refine ⟨txT (strT n len0 y0 l), 0, fun w e w' h => ⟨?_, h.1⟩⟩
      obtain ⟨len, y, _, hfit, ha, _⟩ := h.2.2.2 hf ht'
      rw [str_eq hfst (by omega) hfit hfit0] at ha
      exact ha hok
    · refine ⟨⟨#[]⟩, 181, fun w e w' h => ⟨?_, h.1⟩⟩
      obtain ⟨len, y, _, hfit, _, ha⟩ := h.2.2.2 hf ht'
      rw [str_eq hfst (by omega) hfit hfit0] at ha
      exact ha hok
  have wr : ∃ (b : Bool), ∀ w e w', WrQ l N n w e w' → e = .returned (.tuple #[.bool b, .int .i64 0]) ∧ Below w.heap.size w w' := by
    have key : ∀ (b b' : Bool) (X : Prop), (b = true ↔ X) → (b' = true ↔ X) → b = b' := fun b b' X h1 h2 => by
      cases b with
      | false =>
        cases b' with
        | false => rfl
        | true => exact absurd (h1.2 (h2.1 rfl)) (by decide)
      | true =>
        cases b' with
        | false => exact absurd (h2.2 (h1.1 rfl)) (by decide)
        | true => rfl
    have ex : ∃ b : Bool, b = true ↔ ∃ k, (thr l N).getD (n - 1) 0 < k ∧ k < N ∧ sz l k ≠ 0 ∧ l.getD k ByteArray.empty ≠ sayT n len0 k y0 := by
      by_cases hw : ∃ k, (thr l N).getD (n - 1) 0 < k ∧ k < N ∧ sz l k ≠ 0 ∧ l.getD k ByteArray.empty ≠ sayT n len0 k y0
      · exact ⟨true, fun _ => hw, fun _ => rfl⟩
      · exact ⟨false, fun q => (by cases q), fun q => absurd q hw⟩
    obtain ⟨b, hb⟩ := ex
    refine ⟨b, fun w e w' h => ⟨?_, h.1⟩⟩
    obtain ⟨len, y, b', _, hfit, ha, hb'⟩ := h.2.2.2 hf ht'
    rw [ha]
    have : b' = b := by
      refine key b' b _ hb' ⟨fun q => ?_, fun q => ?_⟩
      · obtain ⟨k, a1, a2, a3, a4⟩ := hb.1 q
        exact ⟨k, a1, a2, a3, by rw [fit_eq hfst hfit hfit0]; exact a4⟩
      · obtain ⟨k, a1, a2, a3, a4⟩ := q
        exact hb.2 ⟨k, a1, a2, a3, by rw [fit_eq hfst hfit hfit0] at a4; exact a4⟩
    rw [this]
  have re : ∀ w e w', RebQ l N n w e w' → ∃ p5 c5, e = .returned (.tuple #[.slice p5 N c5, .int .i64 0]) ∧ w'.ownsRow w.heap.size 9 1 (.slice p5 N c5) N (((List.range N).map (fun j => filT n len0 y0 l j)).map Value.string) ∧ Below w.heap.size w w' := fun w e w' h => by
    obtain ⟨len, y, p5, c5, _, hfit, ha, ho⟩ := h.2.2.2 hf ht'
    refine ⟨p5, c5, ha, ?_, h.1⟩
    have e1 : filL n len y l N = ((List.range N).map (fun j => filT n len0 y0 l j)).map Value.string := by
      unfold filL
      rw [List.map_map]
      exact List.map_congr_left (fun j _ => by rw [fil_eq hfst hfit hfit0 j]; rfl)
    rw [← e1]
    exact ho
  obtain ⟨S, EJ, hj⟩ := jo
  obtain ⟨b, hw⟩ := wr
  exact ⟨S, EJ, N, (List.range N).map (fun j => filT n len0 y0 l j), 0, b, 0, by simp, by omega, fun w B c p hG hB => ⟨fun hNc => (c1 w B c p hG hB hNc).mono (fun e w' h => hj w e w' h), (c2 w B c p hG hB).mono (fun e w' h => hj w e w' h),
    (c3 w B c p hG hB).mono (fun e w' h => re w e w' h), (c4 w B c p hG hB).mono (fun e w' h => re w e w' h), (c5 w B c p hG hB).mono (fun e w' h => hw w e w' h), (c6 w B c p hG hB).mono (fun e w' h => hw w e w' h)⟩⟩
set_option maxHeartbeats 16000000 in
theorem shards18 (l : List ByteArray) (p : Option Addr) (c N : Nat) (x1 x2 : Int) (W : World) (hN : l.length = N) (hl : GTx W W.heap.size p l) (h0 : p = none → N = 0 ∧ c = 0) (hNb : N ≤ 8796093022100) (hsb : ∀ j, sz l j ≤ 9223372036854775807) : Calls Tryd.prog 3 #[.slice p N c, .int .i64 x1, .int .i64 x2] W fun e w' => e = .returned (.bool true) ∧ Below W.heap.size W w' := by
  obtain ⟨S, EJ, K, LL, ER, b, EW, hLL, hK24, hA⟩ := ans18 l N x1 x2 hN hsb
  have HA := hide hA
  have HK := hide (known18 W)
  have HG := hide (show ∀ w, Below W.heap.size W w → GTx w W.heap.size p l from fun w hb => hl.below hb)
  have HLT := hide (fun (w : World) (hb : Below W.heap.size W w) => texts_lent w l p N c hN (gtx_up (hl.below hb) hb.size) h0 hNb)
  have HAS := hide (fun (w : World) (base cx : Nat) (q : Option Addr) (hb : Below W.heap.size W w) (hx : LnT base w l p (.slice q N cx)) => texts_as w base l p q N c cx hN (gtx_up (hl.below hb) hb.size) h0 hNb hx)
  have HN := hide hN
  have HLL := hide hLL
  clear hA hl h0 hNb hsb hN hLL
  go_enter Tryd.func3, Tryd.ntmps3
  go_wp2_with fail
  refine (unhide HK).mono ?_
  rintro e w1 ⟨rfl, hb1⟩
  have HB1 := hide hb1
  have hs1 := hb1.size
  have HC := hide (unhide HLT w1 hb1)
  clear hb1 HK HLT
  go_wp2_with fail
  refine (unhide HC).mono ?_
  rintro e w2 ⟨x, rfl, hx, hb2⟩
  obtain ⟨q, cq, rfl, hcq, hgq⟩ := hx.form
  rw [unhide HN] at hx hcq ⊢
  have hs2 := hb2.size
  have hqb : ∀ k, (Value.slice q N cq).ownBlock = some k → k < w2.heap.size := fun k hk => (hx.lt k hk).2
  have HX := hide (show ∀ w, Below w2.heap.size w2 w → LnT w1.heap.size w l p (.slice q N cq) from fun w h => hx.below h hqb)
  have HGQ := hide (show ∀ w, Below w2.heap.size w2 w → GTx w w2.heap.size q l from fun w h => hgq.below h)
  have HB2 := hide (show Below W.heap.size W w2 from (unhide HB1).trans (hb2.mono hs1))
  have HUP := hide (show ∀ w, Below w2.heap.size w2 w → Below W.heap.size W w from fun w h => (unhide HB2).trans (h.mono (by omega)))
  have HC2 := hide ((unhide HA w2 w2.heap.size cq q (unhide HGQ w2 (Below.refl _ _)) (Nat.le_refl _)).1 hcq)
  clear hx hgq hqb hb2 HC hcq
  go_wp2_with fail
  refine (unhide HC2).mono ?_
  rintro e w3 ⟨rfl, hb3⟩
  have HB3 := hide hb3
  have hs3 := hb3.size
  have HC3 := hide ((unhide HA w3 W.heap.size c p (unhide HG w3 (unhide HUP w3 hb3)) (by omega)).2.1)
  clear hb3 HC2
  go_wp2_with fail
  refine (unhide HC3).mono ?_
  rintro e w4 ⟨rfl, hb4⟩
  have HB4 := hide (show Below w2.heap.size w2 w4 from (unhide HB3).trans (hb4.mono hs3))
  have hs4 := hb4.size
  have HC4 := hide (unhide HAS w4 w1.heap.size cq q (unhide HUP w4 (unhide HB4)) (unhide HX w4 (unhide HB4)))
  clear hb4 HC3 HB3
  go_wp2_with fail
  refine (unhide HC4).mono ?_
  rintro e wz ⟨rfl, hwz⟩
  subst wz
  have HC5 := hide ((unhide HA w4 w2.heap.size cq q (unhide HGQ w4 (unhide HB4)) (by omega)).2.2.1)
  clear HC4
  go_wp2_with fail
  refine (unhide HC5).mono ?_
  rintro e w5 ⟨p5, c5, rfl, ho5, hb5⟩
  have HO5 := hide (And.intro ho5 hb5)
  have hs5 := hb5.size
  have HB5 := hide (show Below w2.heap.size w2 w5 from (unhide HB4).trans (hb5.mono (by omega)))
  have HC6 := hide ((unhide HA w5 w2.heap.size cq q (unhide HGQ w5 (unhide HB5)) (by omega)).2.2.1)
  have HRL := hide (unhide HO5).1
  clear ho5 hb5 HC5
  go_wp2_with fail
  refine (unhide HC6).mono ?_
  rintro e w6 ⟨p6, c6, rfl, ho6, hb6⟩
  have HO6 := hide (And.intro ho6 hb6)
  have hs6 := hb6.size
  have HB6 := hide (show Below w2.heap.size w2 w6 from (unhide HB5).trans (hb6.mono (by omega)))
  have HC7 := hide ((unhide HA w6 W.heap.size c p (unhide HG w6 (unhide HUP w6 (unhide HB6))) (by omega)).2.2.2.1)
  clear ho6 hb6 HC6
  go_wp2_with fail
  refine (unhide HC7).mono ?_
  rintro e w7 ⟨p7, c7, rfl, ho7, hb7⟩
  have HO7 := hide (And.intro ho7 hb7)
  have hs7 := hb7.size
  clear ho7 hb7 HC7
  have HR5 := hide (show ∀ w, Below w7.heap.size w7 w → w.ownsRow w4.heap.size 9 1 (.slice p5 K c5) K (LL.map Value.string) from fun w h => owns_only (owns_only (unhide HO5).1 (Only.of_below (P := fun _ => False) ((unhide HO6).2.trans ((unhide HO7).2.mono hs6))) (fun _ _ q => q)) (Only.of_below (P := fun _ => False) h) (fun _ _ q => q))
  have HR6 := hide (show ∀ w, Below w7.heap.size w7 w → w.ownsRow w5.heap.size 9 1 (.slice p6 K c6) K (LL.map Value.string) from fun w h => owns_only (owns_only (unhide HO6).1 (Only.of_below (P := fun _ => False) (unhide HO7).2) (fun _ _ q => q)) (Only.of_below (P := fun _ => False) h) (fun _ _ q => q))
  have HR7 := hide (show ∀ w, Below w7.heap.size w7 w → w.ownsRow w6.heap.size 9 1 (.slice p7 K c7) K (LL.map Value.string) from fun w h => owns_only (unhide HO7).1 (Only.of_below (P := fun _ => False) h) (fun _ _ q => q))
  have HB7 := hide (show Below w4.heap.size w4 w7 from ((unhide HO5).2.trans ((unhide HO6).2.mono (by omega))).trans ((unhide HO7).2.mono (by omega)))
  have HST := hide (fun (w : World) (h : Below w7.heap.size w7 w) => texts18_any w p5 p7 c5 c7 LL LL K K (unhide HLL).symm (unhide HLL).symm (by omega) (own_gtx (unhide HLL) (unhide HR5 w h)) (own_gtx (unhide HLL) (unhide HR7 w h)))
  have HSU := hide (fun (w : World) (h : Below w7.heap.size w7 w) => texts18_any w p6 p7 c6 c7 LL LL K K (unhide HLL).symm (unhide HLL).symm (by omega) (own_gtx (unhide HLL) (unhide HR6 w h)) (own_gtx (unhide HLL) (unhide HR7 w h)))
  rw [dec_true (rfl : LL = LL)] at HST HSU
  have HC8 := hide (unhide HST w7 (Below.refl _ _))
  clear HO5 HO6 HO7 HST
  go_wp2_with fail
  refine (unhide HC8).mono ?_
  rintro e w8 ⟨rfl, hb8⟩
  have HB8 := hide hb8
  have hs8 := hb8.size
  have HC9 := hide (unhide HSU w8 hb8)
  clear hb8 HC8 HSU
  go_wp2_with fail
  refine (unhide HC9).mono ?_
  rintro e w9 ⟨rfl, hb9⟩
  have HB9 := hide (show Below w7.heap.size w7 w9 from (unhide HB8).trans (hb9.mono hs8))
  have hs9 := hb9.size
  clear hb9 HC9 HB8
  have HOW := hide (show Calls Tryd.prog 12 #[.slice (some ⟨w9.heap.size, 0, none⟩) 2 2] (w9.alloc (.cells #[.slice p5 K c5, .slice p6 K c6] 22)) fun e w' => e = .returned (.bool true) ∧ Below w4.heap.size w4 w' from by
    have hal : Below w9.heap.size w9 (w9.alloc (.cells #[.slice p5 K c5, .slice p6 K c6] 22)) := (Below.refl _ _).alloc (Nat.le_refl _) _
    have r5 := (unhide HR5 w9 (unhide HB9)).alloc (.cells #[.slice p5 K c5, .slice p6 K c6] 22)
    have r6 := (unhide HR6 w9 (unhide HB9)).alloc (.cells #[.slice p5 K c5, .slice p6 K c6] 22)
    have lt5 : ∀ z, (Value.slice p5 K c5).ownBlock = some z → z < w5.heap.size := fun z hz => ((unhide HRL).lt z hz).2
    refine (owned18 _ w4.heap.size 2 w9.heap.size 2 (fun i => if i = 0 then .slice p5 K c5 else .slice p6 K c6) (fun _ => LL.map Value.string) (fun _ => K) (by omega) (by simp; omega) ⟨⟨rfl, .inr ⟨w9.heap.size, 2, #[.slice p5 K c5, .slice p6 K c6], rfl, by omega, Blk.new w9 22 _, Nat.le_refl _, by unfold maxLen; omega, rfl, rfl⟩⟩, fun i hi => ?_, fun i j hi hj hij z hz => ?_⟩ (fun _ _ => by rw [List.length_map, unhide HLL]) (fun _ => hK24)).mono (fun e w' h => ⟨h.1, (unhide HB7).trans ((((unhide HB9).mono (by omega)).trans (hal.mono (by omega))).trans h.2)⟩)
    · rw [List.length_map, unhide HLL]
      by_cases e : i = 0
      · rw [if_pos e]; exact r5
      · rw [if_neg e]; exact gr_mono r6 (by omega)
    · have l6 : ∀ z, (Value.slice p6 K c6).ownBlock = some z → w5.heap.size ≤ z := fun z hz => (r6.lt z hz).1
      replace hz : (if i = 0 then Value.slice p5 K c5 else .slice p6 K c6).ownBlock = some z := hz
      show (if j = 0 then Value.slice p5 K c5 else .slice p6 K c6).ownBlock ≠ some z
      intro hz2
      by_cases e : i = 0
      · rw [if_pos e] at hz
        rw [if_neg (by omega)] at hz2
        have := lt5 z hz
        have := l6 z hz2
        omega
      · rw [if_neg e] at hz
        rw [if_pos (by omega)] at hz2
        have := lt5 z hz2
        have := l6 z hz
        omega)
  clear HR5 HR6 HR7 HRL HB7 HB9
  go_wp2_with fail
  refine (unhide HOW).mono ?_
  rintro e w10 ⟨rfl, hb10⟩
  have HB10 := hide (show Below w2.heap.size w2 w10 from (unhide HB4).trans (hb10.mono (by omega)))
  have hs10 := hb10.size
  have HC11 := hide (unhide HAS w10 w1.heap.size cq q (unhide HUP w10 (unhide HB10)) (unhide HX w10 (unhide HB10)))
  clear hb10 HOW
  go_wp2_with fail
  refine (unhide HC11).mono ?_
  rintro e wz ⟨rfl, hwz⟩
  subst wz
  have HC12 := hide ((unhide HA w10 w2.heap.size cq q (unhide HGQ w10 (unhide HB10)) (by omega)).2.2.2.2.1)
  clear HC11
  go_wp2_with fail
  refine (unhide HC12).mono ?_
  rintro e w11 ⟨rfl, hb11⟩
  have HB11 := hide (show Below w2.heap.size w2 w11 from (unhide HB10).trans (hb11.mono (by omega)))
  have hs11 := hb11.size
  have HC13 := hide ((unhide HA w11 w2.heap.size cq q (unhide HGQ w11 (unhide HB11)) (by omega)).2.2.2.2.1)
  clear hb11 HC12
  go_wp2_with fail
  refine (unhide HC13).mono ?_
  rintro e w12 ⟨rfl, hb12⟩
  have HB12 := hide (show Below w2.heap.size w2 w12 from (unhide HB11).trans (hb12.mono (by omega)))
  have hs12 := hb12.size
  have HC14 := hide ((unhide HA w12 W.heap.size c p (unhide HG w12 (unhide HUP w12 (unhide HB12))) (by omega)).2.2.2.2.2)
  clear hb12 HC13
  go_wp2_with fail
  refine (unhide HC14).mono ?_
  rintro e w13 ⟨rfl, hb13⟩
  have HB13 := hide (show Below w2.heap.size w2 w13 from (unhide HB12).trans (hb13.mono (by omega)))
  have HC15 := hide (unhide HAS w13 w1.heap.size cq q (unhide HUP w13 (unhide HB13)) (unhide HX w13 (unhide HB13)))
  clear hb13 HC14
  go_wp2_with fail
  refine (unhide HC15).mono ?_
  rintro e wz ⟨rfl, hwz⟩
  subst wz
  have HF := hide (unhide HUP w13 (unhide HB13))
  have hss : (S.toList == S.toList) = true := by simp
  have hej : (EJ == EJ) = true := by simp
  have her : (ER == ER) = true := by simp
  have hew : (EW == EW) = true := by simp
  have hbb : (b == b) = true := by simp
  clear HC15 HB13 HB12 HB11 HB10 HB4 HB2 HB1 HA HAS HX HGQ HUP HG HLL HN hs1 hs2 hs3 hs4 hs5 hs6 hs7 hs8 hs9 hs10 hs11 hs12 hK24
  go_wp2
  go_ret
  exact ⟨rfl, unhide HF⟩
end Go.Proofs.YtolblldpdgfkmaaDoor
