import Derived.Test.YtokaomlhnmbajaaDoorUnh
namespace Go.Proofs.YtokaomlhnmbajaaDoor
open Go.RowKit
theorem sgn_hexd (v : Int) (h0 : 0 ≤ v) (h1 : v < 16) : sgn (hexd v) = v := by
  unfold hexd
  split
  · unfold sgn; rw [if_pos (by omega)]; omega
  · unfold sgn; rw [if_neg (by omega), if_pos (by omega)]; omega
theorem hexd_sgn (x : Int) (h : 0 ≤ sgn x) : hexd (sgn x) = x := by
  rcases sgn_cases x h with ⟨h1, h2, h3⟩ | ⟨h1, h2, h3⟩
  · rw [h3, hexd, if_pos (by omega)]; omega
  · rw [h3, hexd, if_neg (by omega)]; omega
theorem hexd_eq (k : Nat) (hk : k < 16) (x : Int) : (hexd k = x) ↔ sgn x = k := by
  constructor
  · intro h; rw [← h, sgn_hexd _ (by omega) (by omega)]
  · intro h; rw [← h]; exact hexd_sgn x (by omega)
theorem hexP_at (l : List Int) : ∀ j, j < l.length → (hexP l).getD (2 * j) 0 = hexd (l.getD j 0 / 16) ∧ (hexP l).getD (2 * j + 1) 0 = hexd (l.getD j 0 % 16) := by
  induction l with
  | nil => intro j hj; simp at hj
  | cons x l ih =>
    intro j hj
    have e : hexP (x :: l) = hexd (x / 16) :: hexd (x % 16) :: hexP l := by simp [hexP]
    rw [e]
    cases j with
    | zero => simp
    | succ j =>
      have := ih j (by simpa using hj)
      rw [show 2 * (j + 1) = 2 * j + 1 + 1 by omega, show 2 * j + 1 + 1 + 1 = (2 * j + 1) + 1 + 1 by omega]
      simpa using this
theorem okHex_hexP (l : List Int) (hl : Bytes l) : okHex (hexP l) := by
  refine ⟨by rw [hexP_len]; omega, fun j hj => ?_⟩
  rw [hexP_len] at hj
  have h := hexP_at l (j / 2) (by omega)
  have hb := hl (j / 2)
  rcases (show j % 2 = 0 ∨ j % 2 = 1 by omega) with e | e
  · rw [show j = 2 * (j / 2) by omega, h.1, sgn_hexd _ (by omega) (by omega)]; omega
  · rw [show j = 2 * (j / 2) + 1 by omega, h.2, sgn_hexd _ (by omega) (by omega)]; omega
theorem decd_hexP (l : List Int) (hl : Bytes l) : decd (hexP l) l.length = l := by
  apply List.ext_getElem?
  intro j
  by_cases hj : j < l.length
  · have h := hexP_at l j hj
    have hb := hl j
    simp only [decd, List.getElem?_map, List.getElem?_range hj, Option.map_some, vald, h.1, h.2]
    rw [sgn_hexd _ (by omega) (by omega), sgn_hexd _ (by omega) (by omega), List.getElem?_eq_getElem hj]
    rw [List.getD_eq_getElem?_getD, List.getElem?_eq_getElem hj]
    simp
    omega
  · rw [List.getElem?_eq_none (by rw [decd_len]; omega), List.getElem?_eq_none (by omega)]
theorem hexP_decd (l : List Int) (h : ∀ j, j < l.length → 0 ≤ sgn (l.getD j 0)) : ∀ k, 2 * k ≤ l.length → hexP (decd l k) = l.take (2 * k)
  | 0, _ => by simp [decd, hexP]
  | k + 1, hk => by
    have h1 := h (2 * k) (by omega)
    have h2 := h (2 * k + 1) (by omega)
    have b1 := sgn_bd (l.getD (2 * k) 0)
    have b2 := sgn_bd (l.getD (2 * k + 1) 0)
    rw [decd_succ, hexP_snoc, hexP_decd l h k (by omega), vald, show (16 * sgn (l.getD (2 * k) 0) + sgn (l.getD (2 * k + 1) 0)) / 16 = sgn (l.getD (2 * k) 0) by omega,
      show (16 * sgn (l.getD (2 * k) 0) + sgn (l.getD (2 * k + 1) 0)) % 16 = sgn (l.getD (2 * k + 1) 0) by omega, hexd_sgn _ h1, hexd_sgn _ h2]
    rw [show 2 * (k + 1) = 2 * k + 1 + 1 by omega, List.take_succ_eq_append_getElem (by omega), List.take_succ_eq_append_getElem (by omega), List.append_assoc]
    congr 1
    rw [List.getD_eq_getElem?_getD, List.getD_eq_getElem?_getD, List.getElem?_eq_getElem (show 2 * k < l.length by omega), List.getElem?_eq_getElem (show 2 * k + 1 < l.length by omega)]
    rfl
theorem index_sign64 (x : Nat) (hx : x < 16) (w : World) : (Instr.index 9 (.string ⟨#[48, 49, 50, 51, 52, 53, 54, 55, 56, 57, 97, 98, 99, 100, 101, 102]⟩) (.int .i64 (x : Int))).run Tryd.prog w = .ok (.int .u8 (hexd x)) w := by
  rcases (show x = 0 ∨ x = 1 ∨ x = 2 ∨ x = 3 ∨ x = 4 ∨ x = 5 ∨ x = 6 ∨ x = 7 ∨ x = 8 ∨ x = 9 ∨ x = 10 ∨ x = 11 ∨ x = 12 ∨ x = 13 ∨ x = 14 ∨ x = 15 by omega) with rfl | rfl | rfl | rfl | rfl | rfl | rfl | rfl | rfl | rfl | rfl | rfl | rfl | rfl | rfl | rfl <;> kernel_rfl
theorem rhex_put {w : World} {A : List Int} {c k : Nat} {wr : World} (h : KeyInv w (A ++ List.replicate (c - 2 * k) 0) wr) (hA : A.length = 2 * k) (hr : 2 * k + 2 ≤ c) (a b : Int) :
    KeyInv w (A ++ [a, b] ++ List.replicate (c - 2 * (k + 1)) 0) ((wr.setCell ⟨w.heap.size, 2 * k, none⟩ (.int .u8 a)).setCell ⟨w.heap.size, 2 * k + 1, none⟩ (.int .u8 b)) := by
  have hl : (A ++ List.replicate (c - 2 * k) (0 : Int)).length = c := by simp [hA]; omega
  have h1 := h.put (2 * k) (by omega) a rfl
  have h2 := h1.put (2 * k + 1) (by simp [hA]; omega) b rfl
  have e : ((A ++ List.replicate (c - 2 * k) (0 : Int)).set (2 * k) a).set (2 * k + 1) b = A ++ [a, b] ++ List.replicate (c - 2 * (k + 1)) 0 := by
    obtain ⟨m, hm⟩ : ∃ m, c - 2 * k = m + 2 := ⟨c - 2 * k - 2, by omega⟩
    rw [hm, show c - 2 * (k + 1) = m by omega, List.set_append, if_neg (by omega), List.set_append, if_neg (by omega), hA, Nat.sub_self, Nat.add_sub_cancel_left, List.replicate_succ, List.replicate_succ]
    simp
  rw [e] at h2
  exact h2
set_option maxRecDepth 100000 in
set_option maxHeartbeats 400000 in
theorem rhex_any (t : ByteArray) (ht : t.size ≤ 140737488355328) (w : World) :
    Calls Tryd.prog 13 #[.string t] w fun e w' => e = .returned (.string (strOfNums (hexP (nums t)))) ∧ Below w.heap.size w w' := by
  have hmk := fun W => run_make_u8 (2 * t.size) (2 * t.size) (by omega) (by omega) W
  simp only [Int.natCast_mul, Int.cast_ofNat_Int] at hmk
  go_enter Tryd.func13, Tryd.ntmps13
  go_wp2
  clear hmk
  go_loopw [5] (fun i wr => ∃ k : Nat, k ≤ t.size ∧ i = .int .i64 k ∧ KeyInv w (hexP ((nums t).take k) ++ List.replicate (2 * t.size - 2 * k) 0) wr) (fun i _ => t.size - (intOf i).toNat)
  case atStart => exact ⟨0, by omega, rfl, by
    have h : KeyInv w (List.replicate (2 * t.size) 0) (w.alloc (Obj.cells (Array.replicate (2 * t.size) (Value.int .u8 0)) 5)) := ⟨arr_new w .u8 (List.replicate (2 * t.size) 0) 5 _ (by simp), (Below.refl _ _).alloc (Nat.le_refl _) _, by simp⟩
    simpa [hexP] using h⟩
  case round =>
    obtain ⟨k, hk, rfl, hI⟩ := hrel
    have htk : ((nums t).take k).length = k := by rw [List.length_take, nums_len]; omega
    by_cases hlt : k < t.size
    · have hix := index_str t k hlt
      have hbx := nums_bytes t k
      have hts : (nums t).take (k + 1) = (nums t).take k ++ [(nums t).getD k 0] := by
        rw [List.take_succ_eq_append_getElem (by rw [nums_len]; exact hlt)]
        congr 2
        rw [List.getD_eq_getElem?_getD, List.getElem?_eq_getElem (by rw [nums_len]; exact hlt)]
        rfl
      obtain ⟨x, hx⟩ : ∃ x, x = (nums t).getD k 0 := ⟨_, rfl⟩
      rw [← hx] at hix hbx hts
      have hsn := hexP_snoc ((nums t).take k) x
      rw [← hts] at hsn
      have h1 := fun W => index_sign (x / 16).toNat (by omega) W
      rw [show (((x / 16).toNat : Nat) : Int) = x / 16 by omega] at h1
      have h2 := fun W => index_sign (x % 16).toNat (by omega) W
      rw [show (((x % 16).toNat : Nat) : Int) = x % 16 by omega] at h2
      have hlen : (hexP ((nums t).take k) ++ List.replicate (2 * t.size - 2 * k) (0 : Int)).length = 2 * t.size := by rw [List.length_append, hexP_len, htk, List.length_replicate]; omega
      have hroom : 2 * k + 2 ≤ 2 * t.size := by omega
      have c1 := hI.1.get0 (2 * k) (by omega)
      have f1 := hI.1.free0 (2 * k) (by omega)
      have c2 := hI.1.get0 (2 * k + 1) (by omega)
      have f2 := hI.1.free0 (2 * k + 1) (by omega)
      obtain ⟨y1, hy1⟩ : ∃ y, y = (hexP ((nums t).take k) ++ List.replicate (2 * t.size - 2 * k) (0 : Int)).getD (2 * k) 0 := ⟨_, rfl⟩
      obtain ⟨y2, hy2⟩ : ∃ y, y = (hexP ((nums t).take k) ++ List.replicate (2 * t.size - 2 * k) (0 : Int)).getD (2 * k + 1) 0 := ⟨_, rfl⟩
      rw [← hy1] at c1
      rw [← hy2] at c2
      have HS := hide hsn
      have HI := hide hI
      have HTK := hide htk
      clear hsn hI hx hts htk hlen hy1 hy2
      go_wp2
      go_roundw
      case rel => exact ⟨k + 1, by omega, by go_num, by rw [unhide HS]; exact rhex_put (unhide HI) (by rw [hexP_len, unhide HTK]) hroom _ _⟩
      case measure => simp [intOf]; omega
    · have ek : k = t.size := by omega
      have hI2 : KeyInv w (hexP (nums t)) wr := by
        have e1 : (nums t).take k = nums t := List.take_of_length_le (by rw [nums_len]; omega)
        rw [e1, ek, Nat.sub_self, List.replicate_zero, List.append_nil] at hI
        exact hI
      have hlen : (hexP (nums t)).length = 2 * t.size := by rw [hexP_len, nums_len]
      have hcv := run_convert_bytes_arg (P := Tryd.prog) wr 39 5 Tryd.underlying39 Tryd.underlying5 w.heap.size 0 (2 * t.size) (2 * t.size) (hexP (nums t)) hlen (fun i hi => hI2.1.get i (by omega)) 9 Tryd.underlying9
      have HB := hide hI2.2.1
      clear hI hI2 htk ek hlen
      go_wp2
      go_ret
      exact ⟨rfl, unhide HB⟩
end Go.Proofs.YtokaomlhnmbajaaDoor
