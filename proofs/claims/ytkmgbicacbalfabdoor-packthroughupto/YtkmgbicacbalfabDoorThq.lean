import Derived.Test.YtkmgbicacbalfabDoorThp
import Derived.Test.YtkmgbicacbalfabDoorGd
import Derived.Test.YtkmgbicacbalfabDoorLwh
import Derived.Test.YtkmgbicacbalfabDoorWok
namespace Go.Proofs.YtkmgbicacbalfabDoor
open Go.RowKit
/-- A step with arguments that may be. -/
structure GoodP (K N : Nat) (L : List Int) (T : ByteArray) : Prop where
  k1 : 1 ≤ K
  k4 : K ≤ 4
  n1 : 1 ≤ N
  n8 : N ≤ 8
  len : L.length ≤ 6
  pos : ∀ z ∈ L, 0 ≤ z ∧ z ≤ 9223372036854775807
  fit : K = 1 → ∀ z ∈ L, fitsP z N
  txt : T.size ≤ 300
theorem gL_len (K N : Nat) (Z : Nat → Int) (n : Nat) : (gL K N Z n).length = n := by simp [gL]
theorem gS_size (t : ByteArray) : (gS t).size ≤ 300 := by
  unfold gS
  split
  · simp; omega
  · omega
theorem good_p (kd nn : Int) (Z : Nat → Int) (t : ByteArray) (n : Nat) (hn : n ≤ 6) : GoodP (1 + pickP kd 4) (1 + pickP nn 8) (gL (1 + pickP kd 4) (1 + pickP nn 8) Z n) (gS t) := by
  have h1 := pickP_lt kd 4 (by decide)
  have h2 := pickP_lt nn 8 (by decide)
  obtain ⟨K, hK⟩ : ∃ K, 1 + pickP kd 4 = K := ⟨_, rfl⟩
  obtain ⟨N, hN⟩ : ∃ N, 1 + pickP nn 8 = N := ⟨_, rfl⟩
  rw [hK, hN]
  have hz : ∀ z ∈ gL K N Z n, ∃ i, z = ((gn K N (Z i) : Nat) : Int) := fun z hz => by
    unfold gL at hz
    obtain ⟨i, _, e⟩ := List.mem_map.1 hz
    exact ⟨i, e.symm⟩
  have hg : ∀ x, gn K N x < 9223372036854775807 := fun x => by
    have := pickP_lt x 9223372036854775807 (by decide)
    unfold gn
    split
    · exact Nat.lt_of_le_of_lt (Nat.mod_le _ _) this
    · exact this
  refine ⟨by omega, by omega, by omega, by omega, by rw [gL_len]; exact hn, fun z h => ?_, fun h1 z h => ?_, gS_size t⟩
  · obtain ⟨i, rfl⟩ := hz z h
    have := hg (Z i)
    omega
  · obtain ⟨i, rfl⟩ := hz z h
    refine ⟨by omega, ?_⟩
    by_cases h8 : N < 8
    · have e : gn K N (Z i) = pickP (Z i) 9223372036854775807 % 256 ^ N := by rw [gn, if_pos ⟨h1, h8⟩]
      have hl : gn K N (Z i) < 256 ^ N := by rw [e]; exact Nat.mod_lt _ (Nat.pow_pos (by decide))
      have ep : (2 : Int) ^ (8 * N) = ((256 ^ N : Nat) : Int) := by
        rw [Int.pow_mul]
        have : (2 : Int) ^ 8 = 256 := by decide
        rw [this, Int.natCast_pow]
        rfl
      rw [ep]
      exact Int.ediv_eq_zero_of_lt (by omega) (by omega)
    · obtain rfl : N = 8 := by omega
      have := hg (Z i)
      have ep : (2 : Int) ^ (8 * 8) = 18446744073709551616 := by decide
      rw [ep]
      omega
/-- What a step lays down. -/
def gOut (K N : Nat) (L : List Int) (T : ByteArray) : List Int := if K = 1 then outN N L else if K = 2 then digN (L.getD 0 0).toNat else if K = 3 then nums T else digN T.size ++ nums T
theorem GoodP.hd {K N : Nat} {L : List Int} {T : ByteArray} (h : GoodP K N L T) : 0 ≤ L.getD 0 0 ∧ L.getD 0 0 ≤ 9223372036854775807 := by
  by_cases h0 : 0 < L.length
  · have : L.getD 0 0 ∈ L := by
      rw [List.getD_eq_getElem?_getD, List.getElem?_eq_getElem h0]
      exact List.getElem_mem h0
    exact h.pos _ this
  · rw [List.getD_eq_getElem?_getD, List.getElem?_eq_none (by omega)]
    exact ⟨by decide, by decide⟩
theorem GoodP.out_len {K N : Nat} {L : List Int} {T : ByteArray} (h : GoodP K N L T) : (gOut K N L T).length ≤ 309 := by
  have h6 := h.len
  have h8 := h.n8
  have ht := h.txt
  have hd := h.hd
  unfold gOut
  split
  · rw [outN_len]
    have : N * L.length ≤ 8 * 6 := Nat.mul_le_mul h8 h6
    omega
  · split
    · have := (digN_nine (L.getD 0 0).toNat (by omega)).2
      omega
    · split
      · rw [nums_len]; omega
      · rw [List.length_append, nums_len]
        have := (digN_nine T.size (by omega)).2
        omega
theorem digN_bytes : ∀ (k n : Nat), n < 128 ^ (k + 1) → ∀ x ∈ digN n, 0 ≤ x ∧ x < 256
  | 0, n, h, x, hx => by
    rw [digN_small n (by simpa using h)] at hx
    simp at hx
    have : n < 128 := by simpa using h
    omega
  | k + 1, n, h, x, hx => by
    by_cases hn : n < 128
    · rw [digN_small n hn] at hx
      simp at hx
      omega
    · rw [digN_big n hn] at hx
      rcases List.mem_cons.1 hx with rfl | hx
      · omega
      · exact digN_bytes k (n / 128) (by rw [Nat.div_lt_iff_lt_mul (by decide)]; rw [Nat.pow_succ] at h; exact h) x hx
theorem nums_mem (t : ByteArray) : ∀ x ∈ nums t, 0 ≤ x ∧ x < 256 := fun x hx => by
  obtain ⟨j, hj, e⟩ := List.getElem_of_mem hx
  have := nums_bytes t j
  rw [List.getD_eq_getElem?_getD, List.getElem?_eq_getElem hj, e] at this
  simpa using this
theorem numB_mem (v : Int) (k : Nat) : ∀ x ∈ numB v k, 0 ≤ x ∧ x < 256 := fun x hx => by
  obtain ⟨j, hj, e⟩ := List.getElem_of_mem hx
  have := numB_bytes v k j
  rw [List.getD_eq_getElem?_getD, List.getElem?_eq_getElem hj, e] at this
  simpa using this
def Bym (l : List Int) : Prop := ∀ x ∈ l, 0 ≤ x ∧ x < 256
theorem Bym.bytes {l : List Int} (h : Bym l) : Bytes l := by
  intro j
  rw [List.getD_eq_getElem?_getD]
  cases e : l[j]? with
  | none => simp
  | some x => exact h x (List.mem_of_getElem? e)
theorem Bym.app {a b : List Int} (ha : Bym a) (hb : Bym b) : Bym (a ++ b) := fun x hx => (List.mem_append.1 hx).elim (ha x) (hb x)
theorem outN_mem (k : Nat) (L : List Int) : Bym (outN k L) := fun x hx => by
  unfold outN at hx
  obtain ⟨n, _, h⟩ := List.mem_flatMap.1 hx
  exact numB_mem n k x h
theorem GoodP.out_mem {K N : Nat} {L : List Int} {T : ByteArray} (h : GoodP K N L T) : Bym (gOut K N L T) := by
  have hp : (128 : Nat) ^ (8 + 1) = 9223372036854775808 := by decide
  have hd := h.hd
  have ht := h.txt
  unfold gOut
  split
  · exact outN_mem _ _
  · split
    · exact digN_bytes 8 _ (by omega)
    · split
      · exact nums_mem T
      · exact Bym.app (digN_bytes 8 _ (by omega)) (nums_mem T)
/-- The outputs of the first n steps; of those from the i-th on. -/
def outP (f : Nat → List Int) (n : Nat) : List Int := (List.range n).flatMap f
def outR (f : Nat → List Int) (n i : Nat) : List Int := (List.range' i (n - i)).flatMap f
theorem outP_succ (f : Nat → List Int) (n : Nat) : outP f (n + 1) = outP f n ++ f n := by simp [outP, List.range_succ]
theorem outR_step (f : Nat → List Int) (n i : Nat) (h : i < n) : outR f n i = f i ++ outR f n (i + 1) := by
  unfold outR
  rw [show n - i = (n - (i + 1)) + 1 by omega, List.range'_succ, List.flatMap_cons]
theorem outR_all (f : Nat → List Int) (n : Nat) : outR f n 0 = outP f n := by
  unfold outR outP
  rw [Nat.sub_zero, List.range_eq_range']
theorem outR_end (f : Nat → List Int) (n : Nat) : outR f n n = [] := by simp [outR]
theorem outP_len (f : Nat → List Int) (C : Nat) : ∀ n, (∀ i, i < n → (f i).length ≤ C) → (outP f n).length ≤ C * n
  | 0, _ => by simp [outP]
  | n + 1, h => by
    rw [outP_succ, List.length_append, Nat.mul_succ]
    have := outP_len f C n (fun i hi => h i (by omega))
    have := h n (by omega)
    omega
theorem outR_mem (f : Nat → List Int) (n i : Nat) (h : ∀ j, j < n → Bym (f j)) : Bym (outR f n i) := fun x hx => by
  unfold outR at hx
  obtain ⟨j, hj, q⟩ := List.mem_flatMap.1 hx
  rw [List.mem_range'_1] at hj
  exact h j (by omega) x q
/-- A row of numbers as a list that may be handed in. -/
theorem row_inl {w : World} {base : Nat} {v : Value} {L : List Int} (h : w.ownsRow base 3 1 v L.length (L.map (Value.int .i64))) : ∃ p c, v = .slice p L.length c ∧ Inl w p L ∧ ∀ k o, p = some ⟨k, o, none⟩ → base ≤ k := by
  rcases h.2 with ⟨h1, h2⟩ | ⟨g, cap, cur, h1, hb, hg, hn, hc, hs, hx⟩
  · refine ⟨none, 0, by rw [h1, h2], .inl (List.eq_nil_of_length_eq_zero h2), fun k o q => by cases q⟩
  · have hB : Blk w g cur 3 := hg
    refine ⟨some ⟨g, 0, none⟩, cap, h1, .inr ⟨g, 0, rfl, hB.lt, fun j hj => ?_⟩, fun k o q => by cases q; exact hb⟩
    have e : cur.toList[j]? = (cur.toList.take (L.length * 1))[j]? := by rw [List.getElem?_take, if_pos (by omega)]
    rw [Nat.zero_add, hB.cell j, ← Array.getElem?_toList, e, hx, List.getElem?_map, getD_at L j hj]
    rfl
end Go.Proofs.YtkmgbicacbalfabDoor
