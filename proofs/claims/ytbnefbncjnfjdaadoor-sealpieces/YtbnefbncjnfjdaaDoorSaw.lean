import Derived.Test.YtbnefbncjnfjdaaDoorSsl
namespace Go.Proofs.YtbnefbncjnfjdaaDoor
open Go.RowKit
theorem partP_piece (key : List Int) (i : Nat) : partP key (32 * i) 32 = pieceP key i := by
  have hl : (pieceP key i).length = 32 := pieceP_len key i
  apply List.ext_getElem?
  intro j
  by_cases hj : j < 32
  · have h1 := partP_getD key (32 * i) 32 j hj
    rw [List.getD_eq_getElem?_getD, List.getElem?_eq_getElem (by rw [partP_len]; exact hj)] at h1
    rw [List.getElem?_eq_getElem (by rw [partP_len]; exact hj), List.getElem?_eq_getElem (by omega)]
    have h2 : sbyte key (32 * i + j) = (pieceP key i).getD j 0 := by rw [sbyte, show (32 * i + j) / 32 = i by omega, show (32 * i + j) % 32 = j by omega]
    rw [List.getD_eq_getElem?_getD, List.getElem?_eq_getElem (by omega)] at h2
    simp only [Option.getD_some] at h1 h2
    rw [h1, h2]
  · rw [List.getElem?_eq_none (by rw [partP_len]; omega), List.getElem?_eq_none (by omega)]
theorem xor8_twice (x y : Int) (hx : 0 ≤ x ∧ x < 256) (hy : 0 ≤ y ∧ y < 256) : bits .xor .u8 (bits .xor .u8 x y) y = x := by
  obtain ⟨X, rfl⟩ := Int.eq_ofNat_of_zero_le hx.1
  obtain ⟨Y, rfl⟩ := Int.eq_ofNat_of_zero_le hy.1
  have hb : X ^^^ Y < 256 := Nat.xor_lt_two_pow (n := 8) (by omega) (by omega)
  rw [u8_xor_nat X Y (by omega) (by omega), u8_xor_nat (X ^^^ Y) Y hb (by omega), Nat.xor_assoc, Nat.xor_self, Nat.xor_zero]
theorem laid_laid (a b : List Int) (ha : Bytes a) (hb : Bytes b) : laidP (laidP a b) b = a := by
  have hl : (laidP (laidP a b) b).length = a.length := by rw [laidP_len, laidP_len]
  apply List.ext_getElem?
  intro j
  by_cases hj : j < a.length
  · have h1 := laidP_getD (laidP a b) b j (by rw [laidP_len]; exact hj)
    rw [laidP_getD a b j hj, xor8_twice _ _ (ha j) (hb j)] at h1
    rw [List.getD_eq_getElem?_getD, List.getElem?_eq_getElem (by omega), List.getD_eq_getElem?_getD, List.getElem?_eq_getElem hj] at h1
    simp only [Option.getD_some] at h1
    rw [List.getElem?_eq_getElem (by omega), List.getElem?_eq_getElem hj, h1]
  · rw [List.getElem?_eq_none (by omega), List.getElem?_eq_none (by omega)]
theorem xorB_twice (key : ByteArray) (f : Int) (s : ByteArray) (h : errP key f s.size = 0) : (xorB key f s).size = s.size ∧ xorB key f (xorB key f s) = s := by
  have h1 : xorB key f s = strOfNums (laidP (nums s) (partP (nums key) f.toNat s.size)) := by rw [xorB, if_pos h]
  have h2 : nums (xorB key f s) = laidP (nums s) (partP (nums key) f.toNat s.size) := by rw [h1]; exact nums_strOfNums _ (laidP_bytes _ _)
  have h3 : (xorB key f s).size = s.size := by rw [← nums_len, h2, laidP_len, nums_len]
  refine ⟨h3, ?_⟩
  rw [xorB, h3, if_pos h, h2, laid_laid _ _ (nums_bytes s) (partP_bytes _ _ _), strOfNums_nums]
def zeroB (n : Nat) : ByteArray := strOfNums (List.replicate n 0)
theorem zeros_bytes (n : Nat) : Bytes (List.replicate n 0) := by
  intro j
  rw [List.getD_eq_getElem?_getD, List.getElem?_replicate]
  split <;> simp
theorem nums_zeroB (n : Nat) : nums (zeroB n) = List.replicate n 0 := nums_strOfNums _ (zeros_bytes n)
theorem zeroB_size (n : Nat) : (zeroB n).size = n := by rw [← nums_len, nums_zeroB, List.length_replicate]
theorem first_piece : streamB (zeroB 32) 0 32 = shaB (zeroB 40) := by
  have h : errP (zeroB 32) 0 32 = 0 := errP_zero.2 ⟨zeroB_size 32, by omega, by omega, by omega⟩
  have hp := partP_piece (nums (zeroB 32)) 0
  rw [streamB, if_pos h, shaB]
  have e : partP (nums (zeroB 32)) (Int.toNat 0) (Int.toNat 32) = sha (nums (zeroB 40)) := by
    rw [show Int.toNat 0 = 32 * 0 from rfl, show Int.toNat 32 = 32 from rfl, hp, pieceP, nums_zeroB, nums_zeroB]
    rfl
  rw [e]
theorem shaB_size (s : ByteArray) : (shaB s).size = 32 := by rw [← nums_len, shaB, nums_strOfNums _ (sha_bytes _), sha_len]
theorem conv_zeros (W : World) (n : Nat) : (convert 37 9 (.slice (some ⟨W.heap.size, 0, none⟩) n n)).run Tryd.prog (W.alloc (Obj.cells (Array.replicate n (Value.int .u8 0)) 5)) = .ok (.string (zeroB n)) (W.alloc (Obj.cells (Array.replicate n (Value.int .u8 0)) 5)) :=
  run_convert_bytes_arg (P := Tryd.prog) _ 37 5 Tryd.underlying37 Tryd.underlying5 W.heap.size 0 n n (List.replicate n 0) (by simp) (fun i hi => (arr_new W .u8 (List.replicate n 0) 5 _ (by simp)).get i (by simpa using hi)) 9 Tryd.underlying9
theorem make_zeros (W : World) (n : Nat) (hn : n ≤ 281474976710656) : (Instr.makeSlice 37 (.int .i64 (n : Int)) (.int .i64 (n : Int))).run Tryd.prog W = .ok (.slice (some ⟨W.heap.size, 0, none⟩) n n) (W.alloc (Obj.cells (Array.replicate n (Value.int .u8 0)) 5)) := by
  rw [run_make_u8 n n (Nat.le_refl _) hn W]
  simp
set_option maxRecDepth 100000 in
set_option maxHeartbeats 1000000 in
theorem awake_any (w : World) (hK : KTab w) : Calls Tryd.prog 9 #[] w fun e w' => e = .returned (.bool true) ∧ Below w.heap.size w w' := by
  have hmk := fun W => make_zeros W 32 (by omega)
  have hcv := fun W => conv_zeros W 32
  have hmk2 := fun W => make_zeros W 40 (by omega)
  have hcv2 := fun W => conv_zeros W 40
  simp only [Int.cast_ofNat_Int] at hmk hmk2
  have hE : errP (zeroB 32) 0 32 = 0 := errP_zero.2 ⟨zeroB_size 32, by omega, by omega, by omega⟩
  have hE3 : errP (zeroB 32) 10 ((ByteArray.mk #[97, 98, 99]).size : Int) = 0 := errP_zero.2 ⟨zeroB_size 32, by omega, by decide, by decide⟩
  obtain ⟨hx1, hx2⟩ := xorB_twice (zeroB 32) 10 ⟨#[97, 98, 99]⟩ hE3
  have HS := hide (fun W (hW : KTab W) => stream_any (zeroB 32) 0 32 ⟨by omega, by omega⟩ ⟨by omega, by omega⟩ W hW)
  rw [hE, first_piece] at HS
  have HX1 := hide (fun W (hW : KTab W) => xor_any (zeroB 32) 10 ⟨#[97, 98, 99]⟩ ⟨by omega, by omega⟩ (by decide) W hW)
  rw [hE3] at HX1
  have HX2 := hide (fun W (hW : KTab W) => xor_any (zeroB 32) 10 (xorB (zeroB 32) 10 ⟨#[97, 98, 99]⟩) ⟨by omega, by omega⟩ (by rw [hx1]; decide) W hW)
  rw [hx1, hE3, hx2] at HX2
  have HH := hide (fun W (hW : KTab W) => sum_any (zeroB 40) W hW (by rw [zeroB_size]; omega))
  change Hid (∀ W, KTab W → Calls Tryd.prog 18 #[.string (zeroB 40)] W fun e w' => e = .returned (.string (shaB (zeroB 40))) ∧ Below W.heap.size W w') at HH
  have hsz := shaB_size (zeroB 40)
  have HK := hide hK
  clear hK hE hE3 hx1 hx2
  generalize shaB (zeroB 40) = h40 at *
  generalize xorB (zeroB 32) 10 ⟨#[97, 98, 99]⟩ = x at *
  generalize zeroB 32 = z at *
  generalize zeroB 40 = z40 at *
  go_enter Tryd.func9, Tryd.ntmps9
  go_wp2_with fail
  have B1 := hide (((Below.refl _ w).alloc (Nat.le_refl _) (Obj.cells (Array.replicate 32 (Value.int .u8 0)) 5)))
  refine (unhide HS _ ((unhide HK).below (unhide B1) (unhide HK).1)).mono ?_
  rintro e w1 ⟨rfl, hB⟩
  have B2 := hide ((unhide B1).trans (hB.mono (unhide B1).size))
  clear hB B1 HS hmk hcv
  go_wp2_with fail
  refine (unhide HX1 _ ((unhide HK).below (unhide B2) (unhide HK).1)).mono ?_
  rintro e w2 ⟨rfl, hB⟩
  have B3 := hide ((unhide B2).trans (hB.mono (unhide B2).size))
  clear hB B2 HX1
  go_wp2_with fail
  refine (unhide HX2 _ ((unhide HK).below (unhide B3) (unhide HK).1)).mono ?_
  rintro e w3 ⟨rfl, hB⟩
  have B4 := hide ((unhide B3).trans (hB.mono (unhide B3).size))
  clear hB B3 HX2
  go_wp2_with fail
  have B5 := hide ((unhide B4).alloc (unhide B4).size (Obj.cells (Array.replicate 40 (Value.int .u8 0)) 5))
  refine (unhide HH _ ((unhide HK).below (unhide B5) (unhide HK).1)).mono ?_
  rintro e w4 ⟨rfl, hB⟩
  have B6 := hide ((unhide B5).trans (hB.mono (unhide B5).size))
  clear hB B4 B5 HH hmk2 hcv2
  go_wp2
  go_ret
  exact ⟨rfl, unhide B6⟩
end Go.Proofs.YtbnefbncjnfjdaaDoor
