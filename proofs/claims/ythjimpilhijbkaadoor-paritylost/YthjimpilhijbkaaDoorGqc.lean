import Derived.Test.YthjimpilhijbkaaDoorGqb
namespace Go.Proofs.YthjimpilhijbkaaDoor
open Go.RowKit
set_option maxRecDepth 100000
theorem getD_set (L : List ByteArray) (x j : Nat) (X : ByteArray) (hx : x < L.length) : (L.set x X).getD j ByteArray.empty = if j = x then X else L.getD j ByteArray.empty := by
  rw [List.getD_eq_getElem?_getD, List.getD_eq_getElem?_getD, List.getElem?_set]
  by_cases q : x = j
  · rw [if_pos q, if_pos q.symm, if_pos hx]; rfl
  · rw [if_neg q, if_neg (fun e => q e.symm)]
theorem sz_set (L : List ByteArray) (x j : Nat) (X : ByteArray) (hx : x < L.length) : sz (L.set x X) j = if j = x then X.size else sz L j := by
  unfold sz
  rw [getD_set L x j X hx]
  by_cases q : j = x
  · rw [if_pos q, if_pos q]
  · rw [if_neg q, if_neg q]
theorem thr_congr {L M : List ByteArray} {k : Nat} (h : ∀ j, j < k → (sz L j = 0 ↔ sz M j = 0)) : thr L k = thr M k := by
  unfold thr
  refine List.filter_congr (fun j hj => ?_)
  have := h j (List.mem_range.1 hj)
  by_cases q : sz L j = 0
  · rw [decide_eq_false (fun e => e q), decide_eq_false (fun e => e (this.1 q))]
  · rw [decide_eq_true (show sz L j ≠ 0 from q), decide_eq_true (show sz M j ≠ 0 from fun e => q (this.2 e))]
/-- one that was there is there no more -/
theorem thr_less (L : List ByteArray) (x : Nat) (hx : x < L.length) (hs : sz L x ≠ 0) : ∀ d, (thr (L.set x ⟨#[]⟩) (x + 1 + d)).length + 1 = (thr L (x + 1 + d)).length
  | 0 => by
    have e1 : thr (L.set x ⟨#[]⟩) x = thr L x := thr_congr (fun j hj => by rw [sz_set L x j _ hx, if_neg (by omega)])
    have e2 : sz (L.set x ⟨#[]⟩) x = 0 := by rw [sz_set L x x _ hx, if_pos rfl]; rfl
    show (thr (L.set x ⟨#[]⟩) (x + 1)).length + 1 = (thr L (x + 1)).length
    rw [thr_succ, thr_succ, if_neg (by rw [e2]; decide), if_pos hs, e1, List.length_append]
    rfl
  | d + 1 => by
    have ih := thr_less L x hx hs d
    have e : sz (L.set x ⟨#[]⟩) (x + 1 + d) = sz L (x + 1 + d) := by rw [sz_set L x _ _ hx, if_neg (by omega)]
    show (thr (L.set x ⟨#[]⟩) (x + 1 + d + 1)).length + 1 = (thr L (x + 1 + d + 1)).length
    rw [thr_succ, thr_succ, e]
    by_cases q : sz L (x + 1 + d) ≠ 0
    · rw [if_pos q, if_pos q, List.length_append, List.length_append]
      show _ + 1 + 1 = _ + 1
      omega
    · rw [if_neg q, if_neg q]; exact ih
theorem thr_less' (L : List ByteArray) (N x : Nat) (hN : L.length = N) (hx : x < N) (hs : sz L x ≠ 0) : (thr (L.set x ⟨#[]⟩) N).length + 1 = (thr L N).length := by
  have := thr_less L x (by omega) hs (N - (x + 1))
  rw [show x + 1 + (N - (x + 1)) = N by omega] at this
  exact this
theorem thr_lt (L : List ByteArray) (N : Nat) : (thr L N).Pairwise (· < ·) := by
  unfold thr
  exact (List.pairwise_lt_range (n := N)).filter _
theorem thr_get (L : List ByteArray) (N i : Nat) (hi : i < (thr L N).length) : (thr L N).getD i 0 = (thr L N)[i] := by
  rw [List.getD_eq_getElem?_getD, List.getElem?_eq_getElem hi]; rfl
theorem thr_mono (L : List ByteArray) (N i j : Nat) (hij : i < j) (hj : j < (thr L N).length) : (thr L N).getD i 0 < (thr L N).getD j 0 := by
  rw [thr_get L N i (by omega), thr_get L N j hj]
  exact List.pairwise_iff_getElem.1 (thr_lt L N) i j (by omega) hj hij
theorem thr_in (L : List ByteArray) (N k : Nat) (hk : k < N) (hs : sz L k ≠ 0) : ∃ i, i < (thr L N).length ∧ (thr L N).getD i 0 = k := by
  have hm : k ∈ thr L N := by
    unfold thr
    exact List.mem_filter.2 ⟨List.mem_range.2 hk, by simpa using hs⟩
  obtain ⟨i, hi, e⟩ := List.getElem_of_mem hm
  exact ⟨i, hi, by rw [thr_get L N i hi, e]⟩
/-- the elements of the shards of data -/
def datG (s : ByteArray) (n q i : Nat) : G := gB ((spD s n).getD i ByteArray.empty) q
theorem gB_str (len : Nat) (F : Nat → G) (q : Nat) (hq : q < len) : gB (strOfNums (gL len F)) q = F q := by
  unfold gB
  rw [nums_strOfNums _ (gL_bytes len F), gL_get F hq]
  exact G.ext' (by show ((F q).v : Int).toNat % 256 = (F q).v; have := (F q).h; omega)
theorem txt_gB (X : ByteArray) (len : Nat) (hX : X.size = len) : strOfNums (gL len (gB X)) = X := by
  have e : gL len (gB X) = nums X := by
    apply List.ext_getElem
    · rw [gL_len, nums_len, hX]
    · intro i h1 h2
      rw [gL_len] at h1
      have h3 := gL_get (gB X) h1
      rw [gB_v] at h3
      rw [List.getD_eq_getElem?_getD, List.getElem?_eq_getElem (by rw [gL_len]; exact h1), List.getD_eq_getElem?_getD, List.getElem?_eq_getElem h2] at h3
      simpa using h3
  rw [e, strOfNums_nums]
theorem spL_lt (s : ByteArray) (n m k : Nat) (h : k < n) : (spL s n m).getD k ByteArray.empty = (spD s n).getD k ByteArray.empty := by
  unfold spL
  rw [List.getD_eq_getElem?_getD, List.getElem?_append_left (by rw [spD_len]; exact h), ← List.getD_eq_getElem?_getD]
theorem spL_ge (s : ByteArray) (n m k : Nat) (h : ¬ k < n) (hk : k < n + m) : (spL s n m).getD k ByteArray.empty = shT n k (stN s.size n) (spD s n) := by
  unfold spL
  rw [List.getD_eq_getElem?_getD, List.getElem?_append_right (by rw [spD_len]; omega), spD_len, List.getElem?_map, List.getElem?_range (by omega)]
  show shT n (n + (k - n)) _ _ = _
  rw [show n + (k - n) = k by omega]
theorem spL_size (s : ByteArray) (n m k : Nat) (hn : 1 ≤ n) (hk : k < n + m) : ((spL s n m).getD k ByteArray.empty).size = stN s.size n := by
  by_cases h : k < n
  · rw [spL_lt s n m k h]; exact spD_size s n hn k h
  · rw [spL_ge s n m k h hk]
    unfold shT
    rw [strOfNums_size, gL_len]
theorem spl_say (s : ByteArray) (n m k q : Nat) (hk : k < n + m) (hq : q < stN s.size n) : rK n (datG s n q) (wt n k) = gB ((spL s n m).getD k ByteArray.empty) q := by
  by_cases h : k < n
  · rw [rK_unit n k _ h, spL_lt s n m k h]; rfl
  · rw [spL_ge s n m k h hk]
    unfold shT
    rw [gB_str _ _ q hq]
    rfl
/-- LL has of the shards l what is not lost -/
structure Part (s : ByteArray) (n m : Nat) (LL : List ByteArray) : Prop where
  n1 : 1 ≤ n
  n2 : n ≤ 16
  m8 : m ≤ 8
  sz6 : s.size ≤ 60000
  len : LL.length = n + m
  at' : ∀ j, j < n + m → LL.getD j ByteArray.empty = (spL s n m).getD j ByteArray.empty ∨ LL.getD j ByteArray.empty = ⟨#[]⟩
theorem Part.sz {s : ByteArray} {n m : Nat} {LL : List ByteArray} (h : Part s n m LL) {j : Nat} (hj : j < n + m) (hs : sz LL j ≠ 0) : sz LL j = stN s.size n ∧ LL.getD j ByteArray.empty = (spL s n m).getD j ByteArray.empty := by
  rcases h.at' j hj with q | q
  · refine ⟨?_, q⟩
    unfold Go.Proofs.YthjimpilhijbkaaDoor.sz
    rw [q]
    exact spL_size s n m j h.n1 hj
  · unfold Go.Proofs.YthjimpilhijbkaaDoor.sz at hs
    rw [q] at hs
    exact absurd rfl hs
theorem stN_big (z d : Nat) (hd : 1 ≤ d) (hz : z ≤ 60000) : stN z d ≤ 60004 := by
  have h3 : (4 + z + d - 1) / d ≤ 60004 := by
    refine Nat.le_of_lt_succ ((Nat.div_lt_iff_lt_mul (by omega)).2 ?_)
    have h5 : 60004 * 1 ≤ 60004 * d := Nat.mul_le_mul_left _ hd
    show 4 + z + d - 1 < (60004 + 1) * d
    have h4 : (60004 + 1) * d = 60004 * d + d := by omega
    omega
  exact h3
theorem Part.frm {s : ByteArray} {n m : Nat} {LL : List ByteArray} (h : Part s n m LL) : frm LL (n + m) := ⟨stN s.size n, stN_big _ _ h.n1 h.sz6, fun _ hj hs => (h.sz hj hs).1⟩
/-- What the data are, where the first ones have the bytes of the shards. -/
theorem uniq {s : ByteArray} {n m : Nat} (hn2 : n ≤ 16) (hm : m ≤ 8) (f : Nat → Nat) (hf : ∀ r, r < n → f r < n + m) (hd : ∀ r t, r < n → t < n → f r = f t → r = t) (q : Nat) (hq : q < stN s.size n) (y : Nat → G) (hy : ∀ r, r < n → rK n y (wt n (f r)) = gB ((spL s n m).getD (f r) ByteArray.empty) q) : ∀ k, k < n + m → rK n y (wt n k) = gB ((spL s n m).getD k ByteArray.empty) q := by
  have e := rows_same hn2 f (fun r hr => by have := hf r hr; omega) hd y (datG s n q) (fun r hr => by rw [hy r hr, spl_say s n m (f r) q (hf r hr) hq])
  intro k hk
  rw [← spl_say s n m k q hk hq]
  unfold rK
  exact sm_congr (fun j hj => by rw [e j (List.mem_range.1 hj)])
theorem Part.say {s : ByteArray} {n m : Nat} {LL : List ByteArray} (h : Part s n m LL) (ht : n ≤ (thr LL (n + m)).length) {len : Nat} {y : Nat → Nat → G} (hf : Fits LL (n + m) n len y) : len = stN s.size n ∧ ∀ k, k < n + m → sayT n len k y = (spL s n m).getD k ByteArray.empty := by
  have get : ∀ r, r < n → (thr LL (n + m)).getD r 0 < n + m ∧ Go.Proofs.YthjimpilhijbkaaDoor.sz LL ((thr LL (n + m)).getD r 0) ≠ 0 := fun r hr => by
    rw [thr_get LL (n + m) r (by omega)]
    exact thr_mem LL (n + m) _ (List.getElem_mem _)
  have hl : len = stN s.size n := by
    have h1 := hf.1 0 (by have := h.n1; omega)
    have h2 := get 0 (by have := h.n1; omega)
    rw [← h1]
    exact (h.sz h2.1 h2.2).1
  refine ⟨hl, fun k hk => ?_⟩
  have hfst := thr_fst LL (n + m) n m rfl h.n1 h.n2 h.m8 ht
  unfold sayT
  rw [show gL len (fun q => rK n (y q) (wt n k)) = gL len (gB ((spL s n m).getD k ByteArray.empty)) from gL_congr (fun q hq => uniq h.n2 h.m8 (fun r => (thr LL (n + m)).getD r 0) (fun r hr => (get r hr).1) hfst.inj q (by omega) (y q) (fun r hr => by
    rw [hf.2 q hq r hr, (h.sz (get r hr).1 (get r hr).2).2]) k hk)]
  exact txt_gB _ _ (by rw [spL_size s n m k h.n1 hk, hl])
theorem Part.fil {s : ByteArray} {n m : Nat} {LL : List ByteArray} (h : Part s n m LL) (ht : n ≤ (thr LL (n + m)).length) {len : Nat} {y : Nat → Nat → G} (hf : Fits LL (n + m) n len y) : ∀ k, k < n + m → filT n len y LL k = (spL s n m).getD k ByteArray.empty := by
  intro k hk
  unfold filT
  by_cases q : Go.Proofs.YthjimpilhijbkaaDoor.sz LL k = 0
  · rw [if_pos q]; exact (h.say ht hf).2 k hk
  · rw [if_neg q]; exact (h.sz hk q).2
/-- One that is there becomes another one: that is told, just if more than enough are there. -/
theorem Part.told {s : ByteArray} {n m : Nat} {LL : List ByteArray} (h : Part s n m LL) (ht : n ≤ (thr LL (n + m)).length) (x : Nat) (hx : x < n + m) (hxs : Go.Proofs.YthjimpilhijbkaaDoor.sz LL x ≠ 0) (X : ByteArray) (hX : X.size = stN s.size n) (q0 : Nat) (hq0 : q0 < stN s.size n) (hXq : gB X q0 ≠ gB ((spL s n m).getD x ByteArray.empty) q0) {len : Nat} {y : Nat → Nat → G} (hf : Fits (LL.set x X) (n + m) n len y) : (∃ k, (thr (LL.set x X) (n + m)).getD (n - 1) 0 < k ∧ k < n + m ∧ Go.Proofs.YthjimpilhijbkaaDoor.sz (LL.set x X) k ≠ 0 ∧ (LL.set x X).getD k ByteArray.empty ≠ sayT n len k y) ↔ n < (thr LL (n + m)).length := by
  have hxl : x < LL.length := by rw [h.len]; exact hx
  have hp := stN_pos s.size n h.n1
  have hT : thr (LL.set x X) (n + m) = thr LL (n + m) := thr_congr (fun j hj => by
    rw [sz_set LL x j X hxl]
    by_cases q : j = x
    · rw [if_pos q, q]
      exact ⟨fun e => by omega, fun e => absurd e hxs⟩
    · rw [if_neg q])
  have n1 := h.n1
  rw [hT]
  unfold Fits at hf
  rw [hT] at hf
  obtain ⟨T, hTT⟩ : ∃ T, thr LL (n + m) = T := ⟨_, rfl⟩
  have get : ∀ r, r < T.length → T.getD r 0 < n + m ∧ Go.Proofs.YthjimpilhijbkaaDoor.sz LL (T.getD r 0) ≠ 0 := fun r hr => by
    rw [← hTT] at hr ⊢
    rw [thr_get LL (n + m) r hr]
    exact thr_mem LL (n + m) _ (List.getElem_mem _)
  have mono : ∀ i j, i < j → j < T.length → T.getD i 0 < T.getD j 0 := fun i j h1 h2 => by
    rw [← hTT] at h2 ⊢
    exact thr_mono LL (n + m) i j h1 h2
  have inn : ∀ k, k < n + m → Go.Proofs.YthjimpilhijbkaaDoor.sz LL k ≠ 0 → ∃ i, i < T.length ∧ T.getD i 0 = k := fun k h1 h2 => by
    rw [← hTT]
    exact thr_in LL (n + m) k h1 h2
  have hfst := thr_fst LL (n + m) n m rfl h.n1 h.n2 h.m8 ht
  rw [hTT] at hf ht hfst ⊢
  have hl : len = stN s.size n := by
    have h1 := hf.1 0 (by omega)
    have h2 := get 0 (by omega)
    rw [sz_set LL x _ X hxl] at h1
    by_cases q : T.getD 0 0 = x
    · rw [if_pos q] at h1; omega
    · rw [if_neg q] at h1; rw [← h1]; exact (h.sz h2.1 h2.2).1
  have szs : ∀ k, k < n + m → Go.Proofs.YthjimpilhijbkaaDoor.sz (LL.set x X) k ≠ 0 → Go.Proofs.YthjimpilhijbkaaDoor.sz LL k ≠ 0 := fun k _ hs => by
    rw [sz_set LL x k X hxl] at hs
    by_cases q : k = x
    · rw [q]; exact hxs
    · rw [if_neg q] at hs; exact hs
  have row : ∀ q, q < len → ∀ r, r < n → T.getD r 0 ≠ x → rK n (y q) (wt n (T.getD r 0)) = gB ((spL s n m).getD (T.getD r 0) ByteArray.empty) q := fun q hq r hr hne => by
    rw [hf.2 q hq r hr, getD_set LL x _ X hxl, if_neg hne]
    have h2 := get r (by omega)
    rw [(h.sz h2.1 h2.2).2]
  constructor
  · rintro ⟨k, h1, h2, h3, _⟩
    obtain ⟨i, hi, e⟩ := inn k h2 (szs k h2 h3)
    refine Classical.byContradiction (fun hc => ?_)
    have hi2 : i < n := by omega
    by_cases q : i = n - 1
    · rw [q] at e; omega
    · have := mono i (n - 1) (by omega) (by omega)
      omega
  · intro hc
    obtain ⟨ix, hix, ex⟩ := inn x hx hxs
    by_cases hin : ix < n
    case neg =>
      -- all the first ones are right
      have hne : ∀ r, r < n → T.getD r 0 ≠ x := fun r hr e => by
        have := mono r ix (by omega) hix
        omega
      refine ⟨x, ?_, hx, ?_, ?_⟩
      · rw [← ex]; exact mono (n - 1) ix (by omega) hix
      · rw [sz_set LL x x X hxl, if_pos rfl]; omega
      · rw [getD_set LL x x X hxl, if_pos rfl]
        intro e
        refine hXq ?_
        rw [e]
        unfold sayT
        rw [gB_str _ _ q0 (by omega)]
        exact uniq h.n2 h.m8 (fun r => T.getD r 0) (fun r hr => (get r (by omega)).1) hfst.inj q0 hq0 (y q0) (fun r hr => row q0 (by omega) r hr (hne r hr)) x hx
    case pos =>
      obtain ⟨k0, hk0⟩ : ∃ k, T.getD n 0 = k := ⟨_, rfl⟩
      have hg0 := get n (by omega)
      rw [hk0] at hg0
      have hk0x : k0 ≠ x := fun e => by
        have := mono ix n hin (by omega)
        omega
      refine ⟨k0, by rw [← hk0]; exact mono (n - 1) n (by omega) (by omega), hg0.1, ?_, ?_⟩
      · rw [sz_set LL x k0 X hxl, if_neg hk0x]; exact hg0.2
      · rw [getD_set LL x k0 X hxl, if_neg hk0x, (h.sz hg0.1 hg0.2).2]
        intro e
        have hsay : rK n (y q0) (wt n k0) = gB ((spL s n m).getD k0 ByteArray.empty) q0 := by
          rw [e]
          unfold sayT
          rw [gB_str _ _ q0 (by omega)]
        have hrows := uniq (s := s) (m := m) h.n2 h.m8 (fun r => if r = ix then k0 else T.getD r 0) (fun r hr => by
          by_cases q : r = ix
          · simp only [if_pos q]; exact hg0.1
          · simp only [if_neg q]; exact (get r (by omega)).1) (fun r t hr ht2 he => by
          by_cases q1 : r = ix
          · by_cases q2 : t = ix
            · rw [q1, q2]
            · simp only [if_pos q1, if_neg q2] at he
              have := mono t n ht2 (by omega)
              omega
          · by_cases q2 : t = ix
            · simp only [if_neg q1, if_pos q2] at he
              have := mono r n hr (by omega)
              omega
            · simp only [if_neg q1, if_neg q2] at he
              exact hfst.inj r t hr ht2 he) q0 hq0 (y q0) (fun r hr => by
          by_cases q : r = ix
          · simp only [if_pos q]; exact hsay
          · simp only [if_neg q]
            exact row q0 (by omega) r hr (fun e2 => q (hfst.inj r ix hr hin (by show T.getD r 0 = T.getD ix 0; rw [e2, ex])))) x hx
        refine hXq ?_
        rw [← hrows]
        have h9 := hf.2 q0 (by omega) ix hin
        rw [ex, getD_set LL x x X hxl, if_pos rfl] at h9
        exact h9.symm
end Go.Proofs.YthjimpilhijbkaaDoor
