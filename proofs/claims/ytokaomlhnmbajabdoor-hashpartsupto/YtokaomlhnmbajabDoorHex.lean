import Derived.Test.YtokaomlhnmbajabDoorKey
import Derived.Deep.RegionLaw
namespace Go.Proofs.YtokaomlhnmbajabDoor
open Go.RowKit
def hexd (x : Int) : Int := if x < 10 then 48 + x else 87 + x
def hexP (l : List Int) : List Int := l.flatMap (fun x => [hexd (x / 16), hexd (x % 16)])
theorem hexP_len (l : List Int) : (hexP l).length = 2 * l.length := by
  induction l with
  | nil => rfl
  | cons x l ih => simp [hexP] at *; omega
theorem hexP_snoc (l : List Int) (x : Int) : hexP (l ++ [x]) = hexP l ++ [hexd (x / 16), hexd (x % 16)] := by simp [hexP]
theorem hexP_bytes (l : List Int) (hl : Bytes l) : Bytes (hexP l) := by
  induction l with
  | nil => intro j; simp [hexP]
  | cons x l ih =>
    have hx := hl 0
    simp at hx
    have h1 : Bytes [hexd (x / 16), hexd (x % 16)] := by
      intro j
      match j with
      | 0 => simp [hexd]; split <;> omega
      | 1 => simp [hexd]; split <;> omega
      | j + 2 => simp
    have h2 : Bytes l := by
      intro j
      simpa using hl (j + 1)
    have : hexP (x :: l) = [hexd (x / 16), hexd (x % 16)] ++ hexP l := by simp [hexP]
    rw [this]
    exact bytes_append h1 (ih h2)
theorem index_str (t : ByteArray) (i : Nat) (hi : i < t.size) (w : World) : (Instr.index 9 (.string t) (.int .i64 (i : Int))).run Tryd.prog w = .ok (.int .u8 ((nums t).getD i 0)) w := by
  have h1 : (nums t).getD i 0 = ((t[i]'hi).toNat : Int) := by
    have hl : i < t.data.toList.length := by simpa using hi
    simp only [nums, List.getD_eq_getElem?_getD, List.getElem?_map]
    rw [List.getElem?_eq_getElem hl]
    simp
    rfl
  have h2 : t[i]? = some (t[i]'hi) := by simp [hi]
  rw [h1]
  simp only [Instr.index, asIntOf, Sem.run_bind, Sem.run_pure, Result.andThen_ok, run_underlying Tryd.underlying9]
  have h0 : (0 : Int) ≤ (i : Int) := by omega
  simp [h2]
theorem index_sign (x : Nat) (hx : x < 16) (w : World) : (Instr.index 9 (.string ⟨#[48, 49, 50, 51, 52, 53, 54, 55, 56, 57, 97, 98, 99, 100, 101, 102]⟩) (.int .u8 (x : Int))).run Tryd.prog w = .ok (.int .u8 (hexd x)) w := by
  rcases (show x = 0 ∨ x = 1 ∨ x = 2 ∨ x = 3 ∨ x = 4 ∨ x = 5 ∨ x = 6 ∨ x = 7 ∨ x = 8 ∨ x = 9 ∨ x = 10 ∨ x = 11 ∨ x = 12 ∨ x = 13 ∨ x = 14 ∨ x = 15 by omega) with rfl | rfl | rfl | rfl | rfl | rfl | rfl | rfl | rfl | rfl | rfl | rfl | rfl | rfl | rfl | rfl <;> kernel_rfl
theorem and15 (x : Int) (h0 : 0 ≤ x) (h1 : x < 256) : bits .and .u8 x 15 = x % 16 := by
  obtain ⟨X, rfl⟩ := Int.eq_ofNat_of_zero_le h0
  have := u8_and_nat X 15 (by omega) (by omega)
  rw [show ((15 : Nat) : Int) = 15 by rfl] at this
  rw [this, show (15 : Nat) = 2 ^ 4 - 1 by rfl, Nat.and_two_pow_sub_one_eq_mod]
  omega
theorem info5 : (Tryd.prog.info? 5).map (fun i => (i.zero, i.size, i.bytes)) = some (some (.int .u8 0), 1, 1) := by kernel_rfl
theorem run_make_u8 (l c : Nat) (hlc : l ≤ c) (hc : c ≤ 281474976710656) (w : World) : (Instr.makeSlice 47 (.int .i64 (l : Int)) (.int .i64 (c : Int))).run Tryd.prog w = .ok (.slice (some ⟨w.heap.size, 0, none⟩) l c) (w.alloc (.cells ((List.replicate c (0 : Int)).map (Value.int .u8)).toArray 5)) := by
  obtain ⟨i0, hi, hz0, hz1, hz2⟩ := info_parts info5
  have := run_make (P := Tryd.prog) w 47 5 i0 (.int .u8 0) Tryd.underlying47 hi hz0 .i64 .i64 (l : Int) (c : Int) (by omega) (by omega) (by rw [hz2]; omega) (by omega)
  rw [this, hz1]
  simp only [Int.toNat_natCast, Nat.mul_one]
  congr 3
  apply Array.ext
  · simp [size_madeCells]
  · intro j h1 h2
    simp [madeCells, Value.cells, Nat.mod_one]
theorem hex_put {w : World} {A : List Int} {c k : Nat} {wr : World} (h : KeyInv w (A ++ List.replicate (c - 2 * k) 0) wr) (hA : A.length = 2 * k) (hr : 2 * k + 2 ≤ c) (a b : Int) :
    KeyInv w (A ++ [a, b] ++ List.replicate (c - 2 * (k + 1)) 0) ((((wr.setCell ⟨w.heap.size, 2 * k, none⟩ (.int .u8 a)).setCell ⟨w.heap.size, 2 * k + 1, none⟩ (.int .u8 b)).alloc (Obj.cells #[.int .u8 a, .int .u8 b] 5)).drew) := by
  have hl : (A ++ List.replicate (c - 2 * k) (0 : Int)).length = c := by simp [hA]; omega
  have h1 := h.put (2 * k) (by omega) a rfl
  have h2 := h1.put (2 * k + 1) (by simp [hA]; omega) b rfl
  have e : ((A ++ List.replicate (c - 2 * k) (0 : Int)).set (2 * k) a).set (2 * k + 1) b = A ++ [a, b] ++ List.replicate (c - 2 * (k + 1)) 0 := by
    obtain ⟨m, hm⟩ : ∃ m, c - 2 * k = m + 2 := ⟨c - 2 * k - 2, by omega⟩
    rw [hm, show c - 2 * (k + 1) = m by omega, List.set_append, if_neg (by omega), List.set_append, if_neg (by omega), hA, Nat.sub_self, Nat.add_sub_cancel_left, List.replicate_succ, List.replicate_succ]
    simp
  rw [e] at h2
  exact ⟨(h2.1.alloc h2.2.2 _).drew, (h2.2.1.alloc (Nat.le_of_lt h2.2.2) _).drew, by simp; have := h.2.2; omega⟩
set_option maxRecDepth 100000 in
set_option maxHeartbeats 400000 in
theorem hex_any (t : ByteArray) (ht : t.size ≤ 140737488355328) (w : World) :
    Calls Tryd.prog 16 #[.string t] w fun e w' => e = .returned (.string (strOfNums (hexP (nums t)))) ∧ Below w.heap.size w w' := by
  have hmk := fun W => run_make_u8 0 (2 * t.size) (by omega) (by omega) W
  simp only [Int.natCast_mul, Int.cast_ofNat_Int] at hmk
  go_enter Tryd.func16, Tryd.ntmps16
  go_wp2
  clear hmk
  go_loopw [3, 11] (fun v i wr => ∃ k : Nat, k ≤ t.size ∧ i = .int .i64 k ∧ v = .slice (some ⟨w.heap.size, 0, none⟩) (2 * k) (2 * t.size) ∧ KeyInv w (hexP ((nums t).take k) ++ List.replicate (2 * t.size - 2 * k) 0) wr) (fun _ i _ => t.size - (intOf i).toNat)
  case atStart => exact ⟨0, by omega, rfl, rfl, by
    have h : KeyInv w (List.replicate (2 * t.size) 0) (w.alloc (Obj.cells (Array.replicate (2 * t.size) (Value.int .u8 0)) 5)) := ⟨arr_new w .u8 (List.replicate (2 * t.size) 0) 5 _ (by simp), (Below.refl _ _).alloc (Nat.le_refl _) _, by simp⟩
    simpa [hexP] using h⟩
  case round =>
    obtain ⟨k, hk, rfl, rfl, hI⟩ := hrel
    have htk : ((nums t).take k).length = k := by rw [List.length_take, nums_len]; omega
    by_cases hlt : k < t.size
    · have hix := index_str t k hlt
      have hbx := nums_bytes t k
      have hts : (nums t).take (k + 1) = (nums t).take k ++ [(nums t).getD k 0] := by
        rw [List.take_succ_eq_append_getElem (by rw [nums_len]; exact hlt)]
        congr 2
        rw [List.getD_eq_getElem?_getD, List.getElem?_eq_getElem (by rw [nums_len]; exact hlt)]
        rfl
      obtain ⟨x, hx⟩ : ∃ x, x = (nums t).getD k 0 := ⟨_, rfl⟩
      rw [← hx] at hix hbx hts
      have hsn := hexP_snoc ((nums t).take k) x
      rw [← hts] at hsn
      have h1 := fun W => index_sign (x / 16).toNat (by omega) W
      rw [show (((x / 16).toNat : Nat) : Int) = x / 16 by omega] at h1
      have h2 := fun W => index_sign (x % 16).toNat (by omega) W
      rw [show (((x % 16).toNat : Nat) : Int) = x % 16 by omega, ← and15 x hbx.1 hbx.2] at h2
      have hlen : (hexP ((nums t).take k) ++ List.replicate (2 * t.size - 2 * k) (0 : Int)).length = 2 * t.size := by rw [List.length_append, hexP_len, htk, List.length_replicate]; omega
      have hroom : 2 * k + 2 ≤ 2 * t.size := by omega
      have c1 := hI.1.get0 (2 * k) (by omega)
      have f1 := hI.1.free0 (2 * k) (by omega)
      have c2 := hI.1.get0 (2 * k + 1) (by omega)
      have f2 := hI.1.free0 (2 * k + 1) (by omega)
      obtain ⟨y1, hy1⟩ : ∃ y, y = (hexP ((nums t).take k) ++ List.replicate (2 * t.size - 2 * k) (0 : Int)).getD (2 * k) 0 := ⟨_, rfl⟩
      obtain ⟨y2, hy2⟩ : ∃ y, y = (hexP ((nums t).take k) ++ List.replicate (2 * t.size - 2 * k) (0 : Int)).getD (2 * k + 1) 0 := ⟨_, rfl⟩
      rw [← hy1] at c1
      rw [← hy2] at c2
      have hBs := hI.2.2
      have HS := hide hsn
      have HI := hide hI
      have HTK := hide htk
      have HBX := hide (and15 x hbx.1 hbx.2)
      have HL := hide hlen
      clear hsn hI hx hts htk hlen hy1 hy2
      go_wp2
      go_region
      all_goals go_wp2
      all_goals
        go_roundw
        case rel => exact ⟨k + 1, by omega, by go_num, rfl, by rw [unhide HS]; exact hex_put (unhide HI) (by rw [hexP_len, unhide HTK]) hroom _ _⟩
        case measure => simp [intOf]; omega
    · have ek : k = t.size := by omega
      have hI2 : KeyInv w (hexP (nums t)) wr := by
        have e1 : (nums t).take k = nums t := List.take_of_length_le (by rw [nums_len]; omega)
        rw [e1, ek, Nat.sub_self, List.replicate_zero, List.append_nil] at hI
        exact hI
      have hlen : (hexP (nums t)).length = 2 * k := by rw [hexP_len, nums_len, ek]
      have hcv := run_convert_bytes_arg (P := Tryd.prog) wr 47 5 Tryd.underlying47 Tryd.underlying5 w.heap.size 0 (2 * k) (2 * t.size) (hexP (nums t)) hlen (fun i hi => hI2.1.get i (by omega)) 9 Tryd.underlying9
      have HB := hide hI2.2.1
      clear hI hI2 htk ek hlen
      go_wp2
      go_ret
      exact ⟨rfl, unhide HB⟩
end Go.Proofs.YtokaomlhnmbajabDoor
