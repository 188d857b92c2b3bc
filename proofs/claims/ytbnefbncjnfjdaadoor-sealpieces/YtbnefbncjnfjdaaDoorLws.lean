import Derived.Test.YtbnefbncjnfjdaaDoorLwb
import Derived.Test.YtbnefbncjnfjdaaDoorSdg
namespace Go.Proofs.YtbnefbncjnfjdaaDoor
open Go.RowKit
theorem str_ne {s t : ByteArray} (h : ¬ s = t) : (s.toList == t.toList) = false := by
  rw [ByteArray.toList_eq, ByteArray.toList_eq]
  simp
  exact fun h2 => h (Go.WideShapes.bytes_inj (by rw [h2]))
theorem conv_one (W : World) (a : Int) : (convert 37 9 (.slice (some ⟨W.heap.size, 0, none⟩) 1 1)).run Tryd.prog (W.alloc (Obj.cells #[.int .u8 a] 5)) = .ok (.string (strOfNums [a])) (W.alloc (Obj.cells #[.int .u8 a] 5)) :=
  run_convert_bytes_arg (P := Tryd.prog) _ 37 5 Tryd.underlying37 Tryd.underlying5 W.heap.size 0 1 1 [a] rfl (fun i hi => (arr_new W .u8 [a] 5 _ rfl).get i (by simpa using hi)) 9 Tryd.underlying9
theorem num_small (a : Nat) (ha : a < 8) : numB (a : Int) 8 = [0, 0, 0, 0, 0, 0, 0, (a : Int)] := by
  rcases (show a = 0 ∨ a = 1 ∨ a = 2 ∨ a = 3 ∨ a = 4 ∨ a = 5 ∨ a = 6 ∨ a = 7 by omega) with rfl | rfl | rfl | rfl | rfl | rfl | rfl | rfl <;> rfl
def z7 : ByteArray := ⟨#[0, 0, 0, 0, 0, 0, 0]⟩
theorem z7_eq : z7 = ⟨#[0, 0, 0, 0, 0, 0, 0]⟩ := rfl
theorem nums_z7 : nums z7 = [0, 0, 0, 0, 0, 0, 0] := rfl
theorem one_byte (a : Nat) (ha : a < 8) : nums (strOfNums [(a : Int)]) = [(a : Int)] := by
  refine nums_strOfNums _ (fun j => ?_)
  match j with
  | 0 => simp; omega
  | j + 1 => simp
theorem piece_small (k : ByteArray) (a : Nat) (ha : a < 8) : shaB (k ++ z7 ++ strOfNums [(a : Int)]) = pieceB k a := by
  rw [shaB, pieceB, pieceP, nums_app, nums_app, one_byte a ha, nums_z7, num_small a ha, List.append_assoc]
  rfl
theorem chunk_byte (k p : ByteArray) (hp : p.size = 256) (a i : Nat) (ha : a < 8) (hi : i < 32) : (nums (laidB k 0 p)).getD (32 * a + i) 0 = bits .xor .u8 ((nums p).getD (32 * a + i) 0) ((nums (pieceB k a)).getD i 0) := by
  rw [nums_laidB, laidP_getD _ _ _ (by rw [nums_len, hp]; omega), hp, partP_getD _ _ _ _ (by omega), nums_pieceB, sbyte, Nat.zero_add, show (32 * a + i) / 32 = a by omega, show (32 * a + i) % 32 = i by omega]
set_option maxRecDepth 100000 in
set_option maxHeartbeats 2000000 in
theorem shared_walk (domain plain other : ByteArray) (turned : Int) (sd : domain.size ≤ 140737488351232) (sp : plain.size ≤ 140737488351232) (so : other.size ≤ 140737488351232) (ht : I64 turned) (w : World) (hK : KTab w) :
    Calls Tryd.prog 4 #[.string domain, .string plain, .string other, .int .i64 turned] w fun e w' => e = .returned (.bool true) ∧ Below w.heap.size w w' := by
  have zd := shapB_size domain 32
  have zp := shapB_size plain 256
  have zo := shapB_size other 32
  have ha := pickP_lt turned 8 (by omega)
  have H0 := hide (fun W (hW : KTab W) => awake_any W hW)
  have H1 := hide (fun W => shaped_any domain 32 (by omega) (by omega) W)
  have H2 := hide (fun W => shaped_any plain 256 (by omega) (by omega) W)
  have HO := hide (fun W => shaped_any other 32 (by omega) (by omega) W)
  have HP := hide (fun W => pick2_below turned 8 (by omega) ht W)
  generalize shapB domain 32 = d at *
  generalize shapB plain 256 = p at *
  generalize shapB other 32 = o at *
  generalize pickP turned 8 = a at *
  obtain ⟨he, hk, hc, hz, _, _⟩ := open_sealed d p zd zp
  have zk : (macB d p).size = 32 := macB_size d p
  have H3 := hide (fun W (hW : KTab W) => seal_any d p W hW)
  have H5 := hide (fun W (hW : KTab W) => blockKey_any d p W hW)
  have H6 := hide (fun W (hW : KTab W) => digest2_any (chunkB d p) W hW)
  rw [he, hk, hc] at H3
  rw [he, hk] at H5
  rw [show digB (chunkB d p) = shaB (chunkB d p) by rw [digB, if_pos hz], show errD (chunkB d p) = 0 by rw [errD, if_pos hz], hc] at H6
  have H7 := hide (fun W (hW : KTab W) => mac_any d p (by omega) (by omega) W hW)
  change Hid (∀ W, KTab W → Calls Tryd.prog 17 #[.string d, .string p] W fun e w' => e = .returned (.string (macB d p)) ∧ Below W.heap.size W w') at H7
  have hcz : (laidB (macB d p) 0 p).size = 256 := by rw [laidB_size, zp]
  have H8 := hide (fun W (hW : KTab W) => sum_any (laidB (macB d p) 0 p) W hW (by omega))
  change Hid (∀ W, KTab W → Calls Tryd.prog 18 #[.string (laidB (macB d p) 0 p)] W fun e w' => e = .returned (.string (shaB (laidB (macB d p) 0 p))) ∧ Below W.heap.size W w') at H8
  have hz1 : (strOfNums [(a : Int)]).size = 1 := by rw [← nums_len, one_byte a ha]; rfl
  have hkz : (macB d p ++ z7).size = 39 := by rw [ByteArray.size_append, zk]; rfl
  have H9 := hide (fun W (hW : KTab W) => sum_any (macB d p ++ z7 ++ strOfNums [(a : Int)]) W hW (by rw [ByteArray.size_append, hkz, hz1]; omega))
  change Hid (∀ W, KTab W → Calls Tryd.prog 18 #[.string (macB d p ++ z7 ++ strOfNums [(a : Int)])] W fun e w' => e = .returned (.string (shaB (macB d p ++ z7 ++ strOfNums [(a : Int)]))) ∧ Below W.heap.size W w') at H9
  rw [piece_small _ a ha] at H9
  have CB := hide (fun i (hi : i < 32) => chunk_byte (macB d p) p zp a i ha hi)
  have zpc := pieceB_size (macB d p) a
  have H10 := hide (fun W (hW : KTab W) => open_any o (macB d p) (laidB (macB d p) 0 p) W hW)
  have H11 := hide (fun W (hW : KTab W) => mac_any o p (by omega) (by omega) W hW)
  change Hid (∀ W, KTab W → Calls Tryd.prog 17 #[.string o, .string p] W fun e w' => e = .returned (.string (macB o p)) ∧ Below W.heap.size W w') at H11
  have HOP : (macB o p = macB d p ∧ errO o (macB d p) (laidB (macB d p) 0 p) = 0 ∧ openB o (macB d p) (laidB (macB d p) 0 p) = p) ∨ (¬ macB o p = macB d p ∧ errO o (macB d p) (laidB (macB d p) 0 p) = 22 ∧ openB o (macB d p) (laidB (macB d p) 0 p) = ⟨#[]⟩) := by
    by_cases h : macB o p = macB d p
    · have e := errO_0 (d := o) (k := macB d p) (c := laidB (macB d p) 0 p) zo zk hcz (by rw [laidB_twice]; exact h)
      exact .inl ⟨h, e, by rw [openB_yes e, laidB_twice]⟩
    · have e := errO_22 (d := o) (k := macB d p) (c := laidB (macB d p) 0 p) zo zk hcz (by rw [laidB_twice]; exact h)
      exact .inr ⟨h, e, openB_no (by omega)⟩
  have HK := hide hK
  have B0 := hide (Below.refl w.heap.size w)
  have w1 : IntKind.u8.wrap (a : Int) = (a : Int) := by rw [IntKind.wrap_u8']; omega
  have hcv := fun W => conv_one W (a : Int)
  clear hK sd sp so ht he hk hc hz
  generalize errO o (macB d p) (laidB (macB d p) 0 p) = eo at *
  generalize openB o (macB d p) (laidB (macB d p) 0 p) = po at *
  generalize pieceB (macB d p) a = pc at *
  generalize shaB (laidB (macB d p) 0 p) = dg at *
  generalize laidB (macB d p) 0 p = c at *
  generalize macB d p = k at *
  generalize macB o p = mo at *
  generalize strOfNums [(a : Int)] = ob at *
  rw [z7_eq] at H9 hkz
  go_enter Tryd.func4, Tryd.ntmps4
  go_wp2_with fail
  refine (unhide H0 _ ((unhide HK).below (unhide B0) (unhide HK).1)).mono ?_
  rintro e w1 ⟨rfl, hB⟩
  have B1 := hide ((unhide B0).trans (hB.mono (unhide B0).size))
  clear hB B0
  go_wp2_with fail
  refine (unhide H1 _).mono ?_
  rintro e w2 ⟨rfl, hB⟩
  have B2 := hide ((unhide B1).trans (hB.mono (unhide B1).size))
  clear hB B1
  go_wp2_with fail
  refine (unhide H2 _).mono ?_
  rintro e w3 ⟨rfl, hB⟩
  have B3 := hide ((unhide B2).trans (hB.mono (unhide B2).size))
  clear hB B2
  go_wp2_with fail
  refine (unhide H3 _ ((unhide HK).below (unhide B3) (unhide HK).1)).mono ?_
  rintro e w4 ⟨rfl, hB⟩
  have B4 := hide ((unhide B3).trans (hB.mono (unhide B3).size))
  clear hB B3
  go_wp2_with fail
  refine (unhide H3 _ ((unhide HK).below (unhide B4) (unhide HK).1)).mono ?_
  rintro e w5 ⟨rfl, hB⟩
  have B5 := hide ((unhide B4).trans (hB.mono (unhide B4).size))
  clear hB B4
  go_wp2_with fail
  refine (unhide H5 _ ((unhide HK).below (unhide B5) (unhide HK).1)).mono ?_
  rintro e w6 ⟨rfl, hB⟩
  have B6 := hide ((unhide B5).trans (hB.mono (unhide B5).size))
  clear hB B5
  go_wp2_with fail
  refine (unhide H6 _ ((unhide HK).below (unhide B6) (unhide HK).1)).mono ?_
  rintro e w7 ⟨rfl, hB⟩
  have B7 := hide ((unhide B6).trans (hB.mono (unhide B6).size))
  clear hB B6
  go_wp2_with fail
  refine (unhide H7 _ ((unhide HK).below (unhide B7) (unhide HK).1)).mono ?_
  rintro e w8 ⟨rfl, hB⟩
  have B8 := hide ((unhide B7).trans (hB.mono (unhide B7).size))
  clear hB B7
  go_wp2_with fail
  refine (unhide H8 _ ((unhide HK).below (unhide B8) (unhide HK).1)).mono ?_
  rintro e w9 ⟨rfl, hB⟩
  have B9 := hide ((unhide B8).trans (hB.mono (unhide B8).size))
  clear hB B8
  go_wp2_with fail
  refine (unhide HP _).mono ?_
  rintro e w10 ⟨rfl, hB⟩
  have B10 := hide ((unhide B9).trans (hB.mono (unhide B9).size))
  clear hB B9
  go_wp2_with fail
  have B11 := hide ((unhide B10).alloc (unhide B10).size (Obj.cells #[.int .u8 (a : Int)] 5))
  refine (unhide H9 _ ((unhide HK).below (unhide B11) (unhide HK).1)).mono ?_
  rintro e wx ⟨rfl, hB⟩
  have B12 := hide ((unhide B11).trans (hB.mono (unhide B11).size))
  clear hB B10 B11 H0 H1 H2 H3 H5 H6 H7 H8 H9 HP hcv w1 hz1 hkz
  go_wp2
  go_loopw [26] (fun i wr => ∃ t : Nat, t ≤ 32 ∧ i = .int .i64 (t : Int) ∧ Hid (Below w.heap.size w wr)) (fun i _ => 32 - (intOf i).toNat)
  case atStart => exact ⟨0, by omega, rfl, B12⟩
  case round =>
    obtain ⟨t, ht, rfl, HB⟩ := hrel
    by_cases htl : t < 32
    · have htl2 : (t : Int) < 32 := by omega
      have i1 := fun W => index_str c (32 * a + t) (by omega) W
      have i2 := fun W => index_str p (32 * a + t) (by omega) W
      have i3 := fun W => index_str pc t (by omega) W
      simp only [Int.natCast_add, Int.natCast_mul, Int.cast_ofNat_Int] at i1 i2
      have hcb := unhide CB t htl
      rw [hcb] at i1
      clear hcb
      generalize (nums p).getD (32 * a + t) 0 = x at *
      generalize (nums pc).getD t 0 = y at *
      have hne : (bits .xor .u8 x y != bits .xor .u8 x y) = false := by simp
      go_wp2
      go_quiet (fail)
      go_wp2
      go_roundw
      case rel => exact ⟨t + 1, by omega, by go_num, below_drewN (unhide HB) _⟩
      case measure => simp [intOf]; omega
    · have htl2 : ¬ (t : Int) < 32 := by omega
      clear CB B12
      go_wp2_with fail
      refine (unhide HO _).mono ?_
      rintro e wa ⟨rfl, hB⟩
      have C1 := hide ((unhide HB).trans (hB.mono (unhide HB).size))
      clear hB HB HO
      go_wp2_with fail
      refine (unhide H10 _ ((unhide HK).below (unhide C1) (unhide HK).1)).mono ?_
      rintro e wb ⟨rfl, hB⟩
      have C2 := hide ((unhide C1).trans (hB.mono (unhide C1).size))
      clear hB C1 H10
      go_wp2_with fail
      refine (unhide H11 _ ((unhide HK).below (unhide C2) (unhide HK).1)).mono ?_
      rintro e wc ⟨rfl, hB⟩
      have C3 := hide ((unhide C2).trans (hB.mono (unhide C2).size))
      clear hB C2 H11
      rcases HOP with ⟨hm, rfl, rfl⟩ | ⟨hm, rfl, rfl⟩
      · subst hm
        go_wp2
        go_ret
        exact ⟨rfl, unhide C3⟩
      · have hq := str_ne hm
        go_wp2
        go_ret
        exact ⟨rfl, unhide C3⟩
end Go.Proofs.YtbnefbncjnfjdaaDoor
