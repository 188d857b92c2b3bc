import Derived.Test.YtjlgbafcpoakmaaGreatDoorMf08
namespace Go.Proofs.YtjlgbafcpoakmaaGreatDoor
open Go.RowKit
theorem index_leaf (f : Nat → Ent) (k : Nat) (hk : k < 3) (w : World) : (Instr.index 106 (.agg (lfC f).toArray) (.int .i64 (k : Int))).run Tryz.prog w = .ok (.agg #[.string (vtD (f k)), .string (vtW (f k))]) w := by
  rcases (show k = 0 ∨ k = 1 ∨ k = 2 by omega) with rfl | rfl | rfl <;> kernel_rfl
theorem or_pow (a k : Nat) (h : a < 2 ^ k) : a ||| 2 ^ k = a + 2 ^ k := by
  have := Nat.two_pow_add_eq_or_of_lt h 1
  rw [Nat.mul_one] at this
  rw [Nat.or_comm, ← this, Nat.add_comm]
set_option maxRecDepth 100000 in
set_option maxHeartbeats 2000000 in
theorem fMarks_any (f : Nat → Ent) (hf : ∀ j, j < 3 → EOk (f j)) (w : World) : Calls Tryz.prog 191 #[.agg (lfC f).toArray] w fun e w' => e = .returned (.int .i64 (mks f 3 : Int)) ∧ Below w.heap.size w w' := by
  obtain ⟨g, hg⟩ : ∃ g, w.heap.size = g := ⟨_, rfl⟩
  have HIX := hide (index_leaf f)
  have HML := hide (mks_lt f)
  have HMS := hide (fun k => show mks f (k + 1) = mks f k + mk1 (f k) * 2 ^ k from rfl)
  obtain ⟨xs, hxs⟩ : ∃ q, lfC f = q := ⟨_, rfl⟩
  have hxl : xs.length = 6 := by rw [← hxs]; rfl
  rw [hxs] at HIX ⊢
  clear hxs
  obtain ⟨x2, hx2⟩ : ∃ q, w.alloc (.cells xs.toArray 106) = q := ⟨_, rfl⟩
  have B : Blk x2 g xs.toArray 106 := by rw [← hx2, ← hg]; exact Blk.new w _ _
  have hb : Below g w x2 := by rw [← hx2, ← hg]; exact (Below.refl _ w).alloc (Nat.le_refl _) _
  have R := hide (blk_range B)
  have HXL := hide hxl
  have X2 := hide (show Below g w x2 ∧ g < x2.heap.size from ⟨hb, B.lt⟩)
  have HF := hide hf
  clear B hb hxl hf
  rw [hg]
  go_enter Tryz.func191, Tryz.ntmps191
  go_wp2_with (refine wpList_load_mid rfl 106 (.tmp 1) rfl g 0 rfl _ _ (unhide R) Tryz.underlying106 rfl (by rw [sizeLeaf, unhide HXL]) ?_)
  clear hx2 R HXL
  go_loopw [3, 7] (fun m i wr => ∃ k : Nat, k ≤ 3 ∧ i = .int .i64 (k : Int) ∧ m = .int .i64 (mks f k : Int) ∧ Below g w wr ∧ g < wr.heap.size) (fun _ i _ => 3 - (intOf i).toNat)
  case atStart => exact ⟨0, by omega, rfl, rfl, (unhide X2).1, (unhide X2).2⟩
  case round =>
    obtain ⟨k, hk, rfl, rfl, hB, hgl⟩ := hrel
    by_cases hkn : k < 3
    · have hkn' : (k : Int) < 3 := by omega
      have hk0 : (0 : Int) ≤ (k : Int) := by omega
      have hix := unhide HIX k hkn
      have hm := unhide HML k
      have HS := hide (unhide HMS k)
      have hp : 2 ^ k ≤ 4 := by rcases (show k = 0 ∨ k = 1 ∨ k = 2 by omega) with rfl | rfl | rfl <;> decide
      have HOR := hide (i64_or_nat (mks f k) (2 ^ k) (by omega) (by omega))
      rw [or_pow _ _ hm] at HOR
      rw [show ((2 ^ k : Nat) : Int) = 2 ^ k from by simp] at HOR
      have HE1 := hide (show wrap64 ((2 : Int) ^ k) = 2 ^ k from by rcases (show k = 0 ∨ k = 1 ∨ k = 2 by omega) with rfl | rfl | rfl <;> exact wrap64_eq _ (by decide) (by decide))
      have HS' := hide (show mks f (k + 1) = mks f k + mk1 (f k) * 2 ^ k from rfl)
      generalize mks f k = m at *
      clear HS
      have HB := hide (And.intro hB hgl)
      have HM := hide (isMapped_any (f k) (unhide HF k hkn))
      generalize vtD (f k) = d at *
      generalize vtW (f k) = t at *
      generalize hz : (f k).isSome = z at *
      have HZ := hide (show mk1 (f k) = if z then 1 else 0 by rw [← hz]; rfl)
      clear hB hgl hz hm
      go_wp2_with fail
      refine (unhide HM _).mono ?_
      rintro e y1 ⟨rfl, hb1⟩
      have HB1 := hide (show Below g w y1 ∧ g < y1.heap.size from by
        have h1 := (unhide HB).1
        have h2 := (unhide HB).2
        have h3 := hb1.size
        refine ⟨?_, by simp at h3; omega⟩
        refine Below.trans ?_ (hb1.mono ?_)
        · exact h1.alloc (by omega) _
        · simp; omega)
      clear hb1 HB HM hix
      cases z with
      | true =>
        have e1 := unhide HE1
        go_wp2
        go_roundw
        case rel => exact ⟨k + 1, by omega, by go_num, by rw [unhide HOR, unhide HS', unhide HZ]; simp, (unhide HB1).1, (unhide HB1).2⟩
        case measure => simp [intOf]; omega
      | false =>
        go_wp2
        go_roundw
        case rel => exact ⟨k + 1, by omega, by go_num, by rw [unhide HS', unhide HZ]; simp, (unhide HB1).1, (unhide HB1).2⟩
        case measure => simp [intOf]; omega
    · have hke : k = 3 := by omega
      have hkn' : ¬ (k : Int) < 3 := by omega
      have HR := hide (show mks f k = mks f 3 by rw [hke])
      clear hke HIX HML HMS
      go_wp2
      go_ret
      exact ⟨by rw [unhide HR]; rfl, hB⟩
theorem rep80 : nums (strOfNums (List.replicate 80 0)) = e80 none := by
  rw [nums_strOfNums _ (rep_bytes 80)]
  show _ = List.replicate 32 0 ++ List.replicate 48 0
  rw [List.replicate_append_replicate]
theorem e80_some (d t : ByteArray) : e80 (some (d, t)) = nums d ++ nums t := rfl
set_option maxRecDepth 100000 in
set_option maxHeartbeats 2000000 in
theorem fBody_any (f : Nat → Ent) (hf : ∀ j, j < 3 → EOk (f j)) (w : World) : Calls Tryz.prog 127 #[.agg (lfC f).toArray] w fun e w' => e = .returned (.string (lfB f)) ∧ Below w.heap.size w w' := by
  obtain ⟨g, hg⟩ : ∃ g, w.heap.size = g := ⟨_, rfl⟩
  have HIX := hide (index_leaf f)
  have HMK := hide (fun W => fMarks_any f hf W)
  have HML := hide (mks_lt f 3)
  have HRP := hide (fun W => rep_ok 80 W (by decide))
  simp only [Int.cast_ofNat_Int] at HRP
  have HR8 := hide rep80
  obtain ⟨zz, hzz⟩ : ∃ q, strOfNums (List.replicate 80 0) = q := ⟨_, rfl⟩
  have HZS := hide (show zz.size = 80 by rw [← hzz, strOfNums_size, List.length_replicate])
  rw [hzz] at HRP HR8
  clear hzz
  have HLB := hide (show lfB f = strOfNums (numB (mks f 3 : Int) 1 ++ e3 f 3) from rfl)
  have HEL := hide (fun k (hk : k ≤ 3) => e3_len f hf k hk)
  obtain ⟨xs, hxs⟩ : ∃ q, lfC f = q := ⟨_, rfl⟩
  have hxl : xs.length = 6 := by rw [← hxs]; rfl
  rw [hxs] at HIX HMK ⊢
  clear hxs
  obtain ⟨m, hm⟩ : ∃ q, mks f 3 = q := ⟨_, rfl⟩
  rw [hm] at HMK HML HLB
  clear hm
  obtain ⟨tx, htx⟩ : ∃ q, lfB f = q := ⟨_, rfl⟩
  rw [htx] at HLB ⊢
  clear htx
  obtain ⟨x2, hx2⟩ : ∃ q, w.alloc (.cells xs.toArray 106) = q := ⟨_, rfl⟩
  have B : Blk x2 g xs.toArray 106 := by rw [← hx2, ← hg]; exact Blk.new w _ _
  have hb : Below g w x2 := by rw [← hx2, ← hg]; exact (Below.refl _ w).alloc (Nat.le_refl _) _
  have HXL := hide hxl
  have X2 := hide (And.intro B hb)
  have HF := hide hf
  clear B hb hxl hf
  rw [hg]
  go_enter Tryz.func127, Tryz.ntmps127
  go_wp2_with fail
  refine (newWriter_any _).mono ?_
  rintro e x3 ⟨rfl, hW3, hb3, hs3⟩
  obtain ⟨B, hb⟩ := unhide X2
  have B3 := B.below hb3 B.lt
  have hb13 : Below g w x3 := hb.trans (hb3.mono (by have := B.lt; omega))
  obtain ⟨bw, hbw⟩ : ∃ q, x2.heap.size = q := ⟨_, rfl⟩
  have hgb : g < bw := by rw [← hbw]; exact B.lt
  have hbl : bw ≤ x3.heap.size := by rw [← hbw]; exact hb3.size
  rw [hbw] at hW3
  rw [hbw]
  have R3 := hide (blk_range B3)
  have P3 := hide (WPost.refl hW3)
  have X3 := hide (And.intro B3 (And.intro hb13 (And.intro hgb hbl)))
  clear B hb B3 hb13 hb3 hs3 hbw hgb hbl X2 hW3 hx2
  go_wp2_with (refine wpList_load_mid rfl 106 (.tmp 1) rfl g 0 rfl _ _ (unhide R3) Tryz.underlying106 rfl (by rw [sizeLeaf, unhide HXL]) ?_)
  refine (unhide HMK _).mono ?_
  rintro e x4 ⟨rfl, hb4⟩
  have P4 := hide ((unhide P3).below hb4)
  have B4 := (unhide X3).1.below hb4 (unhide X3).1.lt
  have X4 := hide (And.intro B4 ((unhide X3).2.1.trans (hb4.mono (by have := (unhide X3).1.lt; omega))))
  clear hb4 B4 P3 R3
  go_wp2_with fail
  refine (wnumK (unhide P4) (unhide X3).2.2.2 1 (by decide) (by decide) (m : Int) (fits1n m (by have := unhide HML; omega)) (by simp) 1 rfl _ rfl).mono ?_
  rintro e x5 ⟨rfl, hP5⟩
  have hO5 : Only (Fp bw (.slice none 0 0)) x3 x5 := by obtain ⟨_, _, q, _⟩ := hP5; exact q
  have hgb := (unhide X3).2.2.1
  have B5 := (unhide X3).1.only hO5 (by rintro (q | q); exact absurd q (by omega); cases q)
  have R5 := hide (blk_range B5)
  have HP5 := hide (show WPost bw bw (.slice none 0 0) (numB (m : Int) 1 ++ e3 f 0) 0 x3 x5 by rw [e3, List.append_nil]; exact hP5)
  clear hP5 hO5 hgb B5 P4 X4
  go_wp2_with (refine wpList_load_mid rfl 106 (.tmp 1) rfl g 0 rfl _ _ (unhide R5) Tryz.underlying106 rfl (by rw [sizeLeaf, unhide HXL]) ?_)
  clear R5
  go_loopw [15] (fun i wr => ∃ k : Nat, k ≤ 3 ∧ i = .int .i64 (k : Int) ∧ WPost bw bw (.slice none 0 0) (numB (m : Int) 1 ++ e3 f k) 0 x3 wr) (fun i _ => 3 - (intOf i).toNat)
  case atStart => exact ⟨0, by omega, rfl, unhide HP5⟩
  case round =>
    obtain ⟨k, hk, rfl, hP⟩ := hrel
    by_cases hkn : k < 3
    · have hkn' : (k : Int) < 3 := by omega
      have hk0 : (0 : Int) ≤ (k : Int) := by omega
      have hix := unhide HIX k hkn
      have HM := hide (isMapped_any (f k) (unhide HF k hkn))
      have HE3 := hide (show e3 f (k + 1) = e3 f k ++ e80 (f k) from rfl)
      have HEK := hide (unhide HF k hkn)
      have HLL := hide (show (numB (m : Int) 1 ++ e3 f k).length ≤ 1000 by rw [List.length_append, numB_len, unhide HEL k (by omega)]; omega)
      have HP := hide hP
      clear hP
      cases hfk : f k with
      | none =>
        rw [hfk] at hix HM HE3
        clear hfk HEK
        simp only [vtD, vtW, Option.isSome] at hix HM
        go_wp2_with fail
        refine (unhide HM _).mono ?_
        rintro e y1 ⟨rfl, hb1⟩
        have P1 := hide (((unhide HP).alloc _).below hb1)
        clear hb1 hix HM
        go_wp2_with fail
        refine (unhide HRP _).mono ?_
        rintro e y2 ⟨rfl, hb2⟩
        have P2 := hide ((unhide P1).below hb2)
        clear hb2 P1
        go_wp2_with fail
        refine (rawK (unhide P2) (unhide X3).2.2.2 zz (by rw [unhide HZS]; have := unhide HLL; omega)).mono ?_
        rintro e y3 ⟨rfl, hP3⟩
        rw [wl_good, unhide HR8, List.append_assoc, ← unhide HE3] at hP3
        have HP3 := hide hP3
        clear hP3 P2
        go_wp2
        go_roundw
        case rel => exact ⟨k + 1, by omega, by go_num, unhide HP3⟩
        case measure => simp [intOf]; omega
      | some p =>
        rw [hfk] at hix HM HE3 HEK
        obtain ⟨d, t⟩ := p
        have hd := ((unhide HEK) d t rfl).1
        have ht := ((unhide HEK) d t rfl).2
        have HDT := hide (And.intro hd ht)
        clear hfk HEK hd ht
        simp only [vtD, vtW, Option.isSome] at hix HM
        rw [e80_some] at HE3
        obtain ⟨ge, hge⟩ : ∃ q, wr.heap.size = q := ⟨_, rfl⟩
        obtain ⟨y0, hy0⟩ : ∃ q, wr.alloc (.cells #[.string d, .string t] 41) = q := ⟨_, rfl⟩
        have B0 : Blk y0 ge #[.string d, .string t] 41 := by rw [← hy0, ← hge]; exact Blk.new wr _ _
        have P0 : WPost bw bw (.slice none 0 0) (numB (m : Int) 1 ++ e3 f k) 0 x3 y0 := by rw [← hy0]; exact (unhide HP).alloc _
        have X0 := hide (And.intro B0 P0)
        have hgeb : bw < ge := by
          obtain ⟨v1, W1, -, -⟩ := unhide HP
          rw [← hge]
          exact W1.lt
        have k0 : y0.cell? ⟨ge, 0, none⟩ = some (.string d) := B0.cell 0
        have k1 : y0.cell? ⟨ge, 1, none⟩ = some (.string t) := B0.cell 1
        clear B0 P0
        go_wp2_with fail
        refine (unhide HM _).mono ?_
        rintro e y1 ⟨rfl, hb1⟩
        have B1 := (unhide X0).1.below hb1 (unhide X0).1.lt
        have P1 := (unhide X0).2.below hb1
        have c0 : y1.cell? ⟨ge, 0, none⟩ = some (.string d) := B1.cell 0
        obtain ⟨v1, W1, O1, h1⟩ := P1
        have hnF : ¬ Fp bw v1 ge := by
          rintro (q | q)
          · omega
          · exact B1.not_row (by decide) W1.2.1 q
        have HRW := hide (raw_any y1 bw bw v1 _ 0 W1 (Nat.le_trans (unhide X3).2.2.2 O1.size) d (by rw [(unhide HDT).1]; have := unhide HLL; omega))
        have X1 := hide (And.intro B1 (And.intro O1 (And.intro h1 hnF)))
        clear B1 W1 O1 h1 hnF hb1 X0 HM hix hy0 k0 k1
        go_wp2_with fail
        refine (unhide HRW).mono ?_
        rintro e y2 ⟨rfl, hP2⟩
        rw [wl_good] at hP2
        obtain ⟨B1, O1, h1, hnF⟩ := unhide X1
        have hO2 : Only (Fp bw v1) y1 y2 := by obtain ⟨_, _, q, _⟩ := hP2; exact q
        have B2 := B1.only hO2 hnF
        have c1 : y2.cell? ⟨ge, 1, none⟩ = some (.string t) := B2.cell 1
        have P2 := hide (WPost.trans O1 h1 hP2)
        clear B1 O1 h1 hnF hO2 B2 hP2 X1 HRW c0
        go_wp2_with fail
        refine (rawK (unhide P2) (unhide X3).2.2.2 t (by rw [List.length_append, nums_len, (unhide HDT).1, (unhide HDT).2]; have := unhide HLL; omega)).mono ?_
        rintro e y3 ⟨rfl, hP3⟩
        rw [wl_good, List.append_assoc, List.append_assoc, ← unhide HE3] at hP3
        have HP3 := hide hP3
        clear hP3 P2 c1 hgeb hge
        go_wp2
        go_roundw
        case rel => exact ⟨k + 1, by omega, by go_num, unhide HP3⟩
        case measure => simp [intOf]; omega
    · have hke : k = 3 := by omega
      have hkn' : ¬ (k : Int) < 3 := by omega
      have HD := hide (doneK hP)
      rw [hke, ← unhide HLB] at HD
      clear hke hP HIX HMK
      go_wp2_with fail
      refine (unhide HD).mono ?_
      rintro e y1 ⟨rfl, hP1⟩
      have hO : Only (Fp bw (.slice none 0 0)) x3 y1 := by obtain ⟨_, _, q, _⟩ := hP1; exact q
      have HBB := hide ((unhide X3).2.1.trans (hO.below (B := g) (by have := (unhide X3).1.lt; omega) (fun x hx q => by have := (unhide X3).2.2.1; rcases q with q | q; omega; cases q)))
      clear hP1 hO HD
      go_wp2
      go_ret
      exact ⟨rfl, unhide HBB⟩
end Go.Proofs.YtjlgbafcpoakmaaGreatDoor

namespace Go.Proofs.YtjlgbafcpoakmaaGreatDoor
open Go.RowKit
/-- The first k entries. -/
def cutF (f : Nat → Ent) (k : Nat) : Nat → Ent := fun j => if j < k then f j else none
theorem cutF_succ (f : Nat → Ent) (k : Nat) : ups (cutF f k) k (f k) = cutF f (k + 1) := by
  funext l
  unfold ups cutF
  by_cases e : l = k
  · subst e; rw [if_pos rfl, if_pos (by omega)]
  · rw [if_neg e]
    by_cases h : l < k
    · rw [if_pos h, if_pos (by omega)]
    · rw [if_neg h, if_neg (by omega)]
theorem cutF_none (f : Nat → Ent) (k : Nat) (h : f k = none) : cutF f k = cutF f (k + 1) := by
  funext l
  unfold cutF
  by_cases e : l = k
  · subst e; rw [if_neg (by omega), if_pos (by omega), h]
  · by_cases h : l < k
    · rw [if_pos h, if_pos (by omega)]
    · rw [if_neg h, if_neg (by omega)]
theorem lfC_cut (f : Nat → Ent) : lfC (cutF f 3) = lfC f := by simp [lfC, cutF]
theorem lfC_cut0 (f : Nat → Ent) : (lfC (cutF f 0)).toArray = #[.string ⟨#[]⟩, .string ⟨#[]⟩, .string ⟨#[]⟩, .string ⟨#[]⟩, .string ⟨#[]⟩, .string ⟨#[]⟩] := by simp [lfC, cutF, vtD, vtW]
theorem a32_str (d t : ByteArray) : strOfNums (a32 (some (d, t))) = d := strOfNums_nums d
theorem a48_str (d t : ByteArray) : strOfNums (a48 (some (d, t))) = t := strOfNums_nums t
/-- The bit of a block. -/
theorem mks_bit (f : Nat → Ent) (k : Nat) (hk : k < 3) : ((mks f 3 / 2 ^ k) % 2 == 1) = (f k).isSome := by
  have h0 := mk1_le (f 0)
  have h1 := mk1_le (f 1)
  have h2 := mk1_le (f 2)
  have e : ∀ j, (mk1 (f j) == 1) = (f j).isSome := fun j => by unfold mk1; cases f j <;> rfl
  rw [mks3, ← e]
  rcases (show k = 0 ∨ k = 1 ∨ k = 2 by omega) with rfl | rfl | rfl
  · rw [show (mk1 (f 0) + mk1 (f 1) * 2 + mk1 (f 2) * 4) / 2 ^ 0 % 2 = mk1 (f 0) by omega]
  · rw [show (mk1 (f 0) + mk1 (f 1) * 2 + mk1 (f 2) * 4) / 2 ^ 1 % 2 = mk1 (f 1) by omega]
  · rw [show (mk1 (f 0) + mk1 (f 1) * 2 + mk1 (f 2) * 4) / 2 ^ 2 % 2 = mk1 (f 2) by omega]
theorem i64_and_nat (a b : Nat) (ha : a < 9223372036854775808) (hb : b < 9223372036854775808) : bits .and .i64 (a : Int) (b : Int) = ((a &&& b : Nat) : Int) := by
  have hx : a &&& b < 2 ^ 63 := Nat.and_lt_two_pow _ (by omega)
  have h1 : (BitVec.ofInt 64 (a : Int)).toNat = a := by
    rw [BitVec.ofInt_natCast, BitVec.toNat_ofNat]; exact Nat.mod_eq_of_lt (by omega)
  have h2 : (BitVec.ofInt 64 (b : Int)).toNat = b := by
    rw [BitVec.ofInt_natCast, BitVec.toNat_ofNat]; exact Nat.mod_eq_of_lt (by omega)
  show IntKind.i64.wrap ((BitVec.ofInt 64 (a : Int) &&& BitVec.ofInt 64 (b : Int)).toNat : Int) = _
  rw [BitVec.toNat_and, h1, h2, IntKind.wrap_i64]
  omega
theorem bit_of (m k : Nat) (hm : m < 8) : (bits .and .i64 ((m : Int) / 2 ^ k) 1 == 1) = (m / 2 ^ k % 2 == 1) := by
  have e : (m : Int) / 2 ^ k = ((m / 2 ^ k : Nat) : Int) := by simp
  have h1 : m / 2 ^ k ≤ m := Nat.div_le_self _ _
  have := i64_and_nat (m / 2 ^ k) 1 (by omega) (by omega)
  rw [e, show (1 : Int) = ((1 : Nat) : Int) from rfl, this, Nat.and_one_is_mod]
  generalize m / 2 ^ k % 2 = q
  rw [Bool.eq_iff_iff]
  simp
  omega
theorem lfC_at2 (f : Nat → Ent) (j : Nat) (h : j < 3) : (lfC f).toArray[j * 2]? = some (.string (vtD (f j))) ∧ (lfC f).toArray[j * 2 + 1]? = some (.string (vtW (f j))) := by
  rw [Nat.mul_comm]
  exact lfC_at f j h
theorem lfC_set2 (f : Nat → Ent) (j : Nat) (h : j < 3) (e : Ent) : ((lfC f).toArray.setIfInBounds (j * 2) (.string (vtD e))).setIfInBounds (j * 2 + 1) (.string (vtW e)) = (lfC (ups f j e)).toArray := by
  rw [Nat.mul_comm]
  exact lfC_set f j h e
def VLr (w : World) (g b : Nat) (f : Nat → Ent) (k : Nat) (wr : World) : Prop :=
  Blk wr g #[.string ⟨#[]⟩, .string ⟨#[]⟩, .string ⟨#[]⟩, .string ⟨#[]⟩, .string ⟨#[]⟩, .string ⟨#[]⟩] 106 ∧ Blk wr (g + 1) (lfC (cutF f k)).toArray 106 ∧ Rds wr b ⟨strOfNums (t3 f k), 1 + 80 * (k : Int), 0⟩ ∧ Below g w wr
set_option maxRecDepth 100000 in
set_option maxHeartbeats 2000000 in
theorem parseLeaf_any (f : Nat → Ent) (hf : ∀ j, j < 3 → EOk (f j)) (w : World) (hE : ETy w) : Calls Tryz.prog 124 #[.string (lfB f)] w fun e w' => e = .returned (.agg (lfC f).toArray) ∧ Below w.heap.size w w' := by
  obtain ⟨g, hg⟩ : ∃ g, w.heap.size = g := ⟨_, rfl⟩
  have HTX := hide (show lfB f = strOfNums (numB (mks f 3 : Int) 1 ++ t3 f 0) from by rw [lfB, lfL, e3_t3])
  obtain ⟨tx, htx⟩ : ∃ q, lfB f = q := ⟨_, rfl⟩
  rw [htx] at HTX ⊢
  clear htx
  have HML := hide (mks_lt f 3)
  have HBT := hide (mks_bit f)
  obtain ⟨m, hm⟩ : ∃ q, mks f 3 = q := ⟨_, rfl⟩
  rw [hm] at HTX HML HBT
  clear hm
  obtain ⟨x2, hx2⟩ : ∃ q, (w.alloc (.cells #[.string ⟨#[]⟩, .string ⟨#[]⟩, .string ⟨#[]⟩, .string ⟨#[]⟩, .string ⟨#[]⟩, .string ⟨#[]⟩] 106)).alloc (.cells #[.string ⟨#[]⟩, .string ⟨#[]⟩, .string ⟨#[]⟩, .string ⟨#[]⟩, .string ⟨#[]⟩, .string ⟨#[]⟩] 106) = q := ⟨_, rfl⟩
  have hs1 : (w.alloc (.cells #[.string ⟨#[]⟩, .string ⟨#[]⟩, .string ⟨#[]⟩, .string ⟨#[]⟩, .string ⟨#[]⟩, .string ⟨#[]⟩] 106)).heap.size = g + 1 := by simp [hg]
  have B : Blk x2 g #[.string ⟨#[]⟩, .string ⟨#[]⟩, .string ⟨#[]⟩, .string ⟨#[]⟩, .string ⟨#[]⟩, .string ⟨#[]⟩] 106 := by rw [← hx2, ← hg]; exact (Blk.new w _ _).alloc _
  have BZ : Blk x2 (g + 1) #[.string ⟨#[]⟩, .string ⟨#[]⟩, .string ⟨#[]⟩, .string ⟨#[]⟩, .string ⟨#[]⟩, .string ⟨#[]⟩] 106 := by
    rw [← hx2, ← hs1]
    exact Blk.new (w.alloc (.cells #[.string ⟨#[]⟩, .string ⟨#[]⟩, .string ⟨#[]⟩, .string ⟨#[]⟩, .string ⟨#[]⟩, .string ⟨#[]⟩] 106)) 106 #[.string ⟨#[]⟩, .string ⟨#[]⟩, .string ⟨#[]⟩, .string ⟨#[]⟩, .string ⟨#[]⟩, .string ⟨#[]⟩]
  have hb : Below g w x2 := by rw [← hx2, ← hg]; exact ((Below.refl _ w).alloc (Nat.le_refl _) _).alloc (by simp) _
  clear hs1
  have HEW := hide (fun W (h : Below g w W) => hE.below h (by rw [← hg]; exact hE.lt))
  have X2 := hide (And.intro B (And.intro BZ hb))
  have HF := hide hf
  clear B BZ hb hE hf
  rw [hg]
  go_enter Tryz.func124, Tryz.ntmps124
  go_wp2_with fail
  refine (newReader_any tx _).mono ?_
  rintro e x3 ⟨rfl, hR3, hb3, hs3⟩
  obtain ⟨B, BZ, hb⟩ := unhide X2
  obtain ⟨b, hbq⟩ : ∃ q, x2.heap.size = q := ⟨_, rfl⟩
  have hgb : g + 1 < b := by rw [← hbq]; exact BZ.lt
  have B3 := B.below hb3 B.lt
  have BZ3 := BZ.below hb3 BZ.lt
  have hb13 : Below g w x3 := hb.trans (hb3.mono (by omega))
  rw [hbq] at hR3 ⊢
  have HRN := hide (rnumK (by rw [unhide HTX] at hR3; exact hR3) (unhide HEW x3 hb13) (by decide) (by decide) (fits1n m (by have := unhide HML; omega)) (by have := unhide HML; omega) (t3_bytes f 0) (by omega) (by rw [t3_len f (unhide HF) 0 (by omega)]; omega) 1 rfl (1 + 80 * ((0 : Nat) : Int)) (by omega))
  have X3 := hide (And.intro B3 (And.intro BZ3 hb13))
  clear B BZ hb B3 BZ3 hb13 hb3 hs3 hR3 X2 hbq hx2 HTX
  go_wp2_with fail
  refine (unhide HRN).mono ?_
  rintro e x4 ⟨rfl, hR4, hO4⟩
  obtain ⟨B3, BZ3, hb13⟩ := unhide X3
  have HI := hide (show VLr w g b f 0 x4 from ⟨B3.only hO4 (by omega), by rw [lfC_cut0]; exact BZ3.only hO4 (by omega), hR4, hb13.trans (hO4.below (by have := B3.lt; omega) (fun x hx => by omega))⟩)
  clear B3 BZ3 hb13 hR4 hO4 X3 HRN
  go_wp2
  go_loopw [13] (fun i wr => ∃ k : Nat, k ≤ 3 ∧ i = .int .i64 (k : Int) ∧ VLr w g b f k wr) (fun i _ => 3 - (intOf i).toNat)
  case atStart => exact ⟨0, by omega, rfl, unhide HI⟩
  case round =>
    obtain ⟨k, hk, rfl, hI⟩ := hrel
    by_cases hkn : k < 3
    · have hkn' : (k : Int) < 3 := by omega
      have hk0 : (0 : Int) ≤ (k : Int) := by omega
      have HBK := hide (unhide HBT k hkn)
      obtain ⟨I1, I2, I3, I4⟩ := hI
      rw [t3_step f k hkn] at I3
      have hek := unhide HF k hkn
      have HN := hide (rrawK I3 (unhide HEW wr I4) (a32_bytes (f k)) 32 (a32_len hek) (bytes_app (a48_bytes (f k)) (t3_bytes f (k + 1))) (by omega) (by rw [List.length_append, a48_len hek, t3_len f (unhide HF) (k + 1) (by omega)]; omega) 32 rfl (33 + 80 * (k : Int)) (by omega))
      have HI5 := hide (And.intro I1 (And.intro I2 (And.intro I4 hek)))
      clear I1 I2 I3 I4 hek
      go_wp2_with fail
      refine (unhide HN).mono ?_
      rintro e y1 ⟨rfl, hR1, hO1⟩
      obtain ⟨I1, I2, I4, hek⟩ := unhide HI5
      have I1 := I1.only hO1 (by omega)
      have I2 := I2.only hO1 (by omega)
      have I4 := I4.trans (hO1.below (B := g) (by have := (unhide HI5).1.lt; omega) (fun x hx => by omega))
      have HN2 := hide (rrawK hR1 (unhide HEW y1 I4) (a48_bytes (f k)) 48 (a48_len hek) (t3_bytes f (k + 1)) (by omega) (by rw [t3_len f (unhide HF) (k + 1) (by omega)]; omega) 48 rfl (1 + 80 * ((k + 1 : Nat) : Int)) (by omega))
      have HI6 := hide (And.intro I1 (And.intro I2 I4))
      clear I1 I2 I4 hR1 hO1 HI5 HN hek
      go_wp2_with fail
      refine (unhide HN2).mono ?_
      rintro e y2 ⟨rfl, hR2, hO2⟩
      obtain ⟨I1, I2, I4⟩ := unhide HI6
      have J1 := I1.only hO2 (by omega)
      have J2 := I2.only hO2 (by omega)
      have J4 := I4.trans (hO2.below (B := g) (by have := I1.lt; omega) (fun x hx => by omega))
      have HI7 := hide (And.intro J1 (And.intro J2 (And.intro hR2 J4)))
      clear I1 I2 I4 J1 J2 J4 hR2 hO2 HI6 HN2
      have HBB := hide (bit_of m k (by have := unhide HML; omega))
      rw [unhide HBK] at HBB
      cases hfk : f k with
      | none =>
        rw [hfk] at HBB
        have hbb : (bits .and .i64 ((m : Int) / 2 ^ k) 1 == 1) = false := unhide HBB
        have HC := hide (cutF_none f k hfk)
        clear hfk
        generalize strOfNums (a32 none) = s1 at *
        generalize strOfNums (a48 none) = s2 at *
        go_wp2
        go_roundw
        case rel => exact ⟨k + 1, by omega, by go_num, (unhide HI7).1, by rw [← unhide HC]; exact (unhide HI7).2.1, (unhide HI7).2.2.1, (unhide HI7).2.2.2⟩
        case measure => simp [intOf]; omega
      | some p =>
        obtain ⟨d, u⟩ := p
        rw [hfk] at HBB
        have hbb : (bits .and .i64 ((m : Int) / 2 ^ k) 1 == 1) = true := unhide HBB
        rw [a32_str, a48_str]
        obtain ⟨J1, J2, hR2, J4⟩ := unhide HI7
        have HC := hide (cutF_succ f k)
        rw [hfk] at HC
        clear hfk
        have c0 : y2.cell? ⟨g + 1, k * 2, none⟩ = some (.string (vtD (cutF f k k))) := by rw [J2.cell]; exact (lfC_at2 _ k hkn).1
        have c1 : y2.cell? ⟨g + 1, k * 2 + 1, none⟩ = some (.string (vtW (cutF f k k))) := by rw [J2.cell]; exact (lfC_at2 _ k hkn).2
        have f0 := J2.frozen (k * 2)
        have f1 := J2.frozen (k * 2 + 1)
        have K2 := (J2.set (k * 2) (.string d)).set (k * 2 + 1) (.string u)
        have e2 := lfC_set2 (cutF f k) k hkn (some (d, u))
        rw [unhide HC] at e2
        rw [show ((lfC (cutF f k)).toArray.setIfInBounds (k * 2) (.string d)).setIfInBounds (k * 2 + 1) (.string u) = (lfC (cutF f (k + 1))).toArray from e2] at K2
        have HI8 := hide (show VLr w g b f (k + 1) ((y2.setCell ⟨g + 1, k * 2, none⟩ (.string d)).setCell ⟨g + 1, k * 2 + 1, none⟩ (.string u)) from ⟨(J1.other _ _ (by simp)).other _ _ (by simp), K2, Blk.other (Blk.other hR2 _ _ (by show g + 1 ≠ b; omega)) _ _ (by show g + 1 ≠ b; omega), (J4.setCell (p := ⟨g + 1, k * 2, none⟩) (by show g ≤ g + 1; omega) _).setCell (p := ⟨g + 1, k * 2 + 1, none⟩) (by show g ≤ g + 1; omega) _⟩)
        clear J1 J2 hR2 J4 K2 e2 HC HI7
        generalize vtD (cutF f k k) = z1 at *
        generalize vtW (cutF f k k) = z2 at *
        go_wp2
        go_roundw
        case rel => exact ⟨k + 1, by omega, by go_num, unhide HI8⟩
        case measure => simp [intOf]; omega
    · have hke : k = 3 := by omega
      have hkn' : ¬ (k : Int) < 3 := by omega
      obtain ⟨I1, I2, I3, I4⟩ := hI
      rw [hke, lfC_cut] at I2
      have hzl := lfC_len f
      have hzo := lfC_one f
      obtain ⟨zs, hzs⟩ : ∃ q, lfC f = q := ⟨_, rfl⟩
      rw [hzs] at I2 hzl hzo
      have HZS := hide hzs
      have R3 := hide (blk_range I2)
      have TH := hide (blk_there I1 zs.toArray.size (by simp [hzl]))
      have B4 := setCells_all I1 zs (by simp [hzl])
      have HLD := hide (iload_blk 106 _ B4 Tryz.underlying106 rfl (by rw [sizeLeaf]; simp [hzl]))
      have HB4 := hide (below_setCells (Nat.le_refl _) zs 0 I4)
      have HZL := hide hzl
      have HZO := hide hzo
      clear I1 I2 I3 I4 hzl hzo B4 hzs hke
      go_wp2_with (first | refine wpList_load_mid rfl 106 (.tmp 3) rfl (g + 1) 0 rfl _ _ (unhide R3) Tryz.underlying106 rfl (by rw [sizeLeaf, unhide HZL]) ?_ | refine wpList_store_mid rfl 106 (.tmp 2) (.tmp 31) rfl g 0 zs.toArray rfl rfl (unhide TH) (by rw [sizeLeaf]; simp [unhide HZL]) (unhide HZO) ?_)
      refine bodyPost_ret (v := .agg zs.toArray) (results_cell rfl _ _ _ ⟨g, 0, none⟩ rfl _ (unhide HLD)) rfl ⟨by rw [unhide HZS], unhide HB4⟩
set_option maxRecDepth 100000 in
set_option maxHeartbeats 2000000 in
theorem tLeafPage_any (r : Int) (num : Nat) (hn : num ≤ 1000000) (lf : Nat → Nat) (l : Nat) (hl : l < 20) (f : Nat → Ent) (hf : ∀ j, j < 3 → EOk (f j)) (w : World) : Calls Tryz.prog 54 #[.agg (trC r (num : Int) lf).toArray, .int .i64 (l : Int), .agg (lfC f).toArray] w fun e w' => e = .returned (.agg #[.int .i64 7, .int .i64 ((32 * num + l : Nat) : Int), .string (lfB f)]) ∧ Below w.heap.size w w' := by
  obtain ⟨g, hg⟩ : ∃ g, w.heap.size = g := ⟨_, rfl⟩
  have HLN := hide (fun W => tNumber_any r num hn lf l hl W)
  have HBD := hide (fun W => fBody_any f hf W)
  have hxl := trC_len r (num : Int) lf
  have hzl := lfC_len f
  generalize trC r (num : Int) lf = xs at *
  generalize lfC f = zs at *
  generalize lfB f = tx at *
  generalize 32 * num + l = q at *
  obtain ⟨x2, hx2⟩ : ∃ q, ((w.alloc (.cells xs.toArray 94)).alloc (.cells zs.toArray 106)).alloc (.cells #[.int .i64 0, .int .i64 0, .string ⟨#[]⟩] 111) = q := ⟨_, rfl⟩
  have hs1 : (w.alloc (.cells xs.toArray 94)).heap.size = g + 1 := by simp [hg]
  have hs2 : ((w.alloc (.cells xs.toArray 94)).alloc (.cells zs.toArray 106)).heap.size = g + 2 := by simp; omega
  have B1 : Blk x2 g xs.toArray 94 := by rw [← hx2, ← hg]; exact ((Blk.new w _ _).alloc _).alloc _
  have B2 : Blk x2 (g + 1) zs.toArray 106 := by
    rw [← hx2, ← hs1]
    exact (Blk.new (w.alloc (.cells xs.toArray 94)) 106 zs.toArray).alloc _
  have B3 : Blk x2 (g + 2) #[.int .i64 0, .int .i64 0, .string ⟨#[]⟩] 111 := by
    rw [← hx2, ← hs2]
    exact Blk.new ((w.alloc (.cells xs.toArray 94)).alloc (.cells zs.toArray 106)) 111 #[.int .i64 0, .int .i64 0, .string ⟨#[]⟩]
  have hb0 : Below g w x2 := by rw [← hx2, ← hg]; exact (((Below.refl _ w).alloc (Nat.le_refl _) _).alloc (by simp) _).alloc (by simp; omega) _
  have X2 := hide (show Blk x2.drew g xs.toArray 94 ∧ Blk x2.drew (g + 1) zs.toArray 106 ∧ Blk x2.drew (g + 2) #[.int .i64 0, .int .i64 0, .string ⟨#[]⟩] 111 ∧ Below g w x2.drew from ⟨B1, B2, B3, hb0.drew⟩)
  have HS0 := hide (And.intro B1 B2)
  have HXL := hide hxl
  have HZL := hide hzl
  clear B1 B2 B3 hb0 hs1 hs2 hxl hzl hf
  rw [hg]
  go_enter Tryz.func54, Tryz.ntmps54
  go_wp2
  refine wp_region_held_drew (S := fun w' => Blk w' g xs.toArray 94 ∧ Blk w' (g + 1) zs.toArray 106) (by kernel_rfl) (unhide HS0) ?_
  intro hS
  generalize x2.drew = x3 at *
  refine wpAnyH_takeD 0 (some 7) (.agg xs.toArray) rfl rfl (by kernel_rfl) (by kernel_rfl) (by kernel_rfl) (fun _ _ _ h => h) (yieldsIf_load_mid (by rfl) 94 (.tmp 3) rfl g 0 rfl _ _ (fun w hSw => blk_range hSw.1) Tryz.underlying94 rfl (by rw [sizeTree, unhide HXL])) hS ?_
  simp only [Act.put, List.setIfInBounds_toArray, List.set_cons_zero, List.set_cons_succ]
  refine wpAnyH_takeD 1 (some 8) (.int .i64 (l : Int)) rfl rfl (by kernel_rfl) (by kernel_rfl) (by kernel_rfl) (fun _ _ _ h => h) (Or.inl ⟨by rfl, fun w hSw => by go_simp⟩) hS ?_
  simp only [Act.put, List.setIfInBounds_toArray, List.set_cons_zero, List.set_cons_succ]
  refine wpAnyH_takeD 3 (some 10) (.agg zs.toArray) rfl rfl (by kernel_rfl) (by kernel_rfl) (by kernel_rfl) (fun _ _ _ h => h) (yieldsIf_load_mid (by rfl) 106 (.tmp 5) rfl (g + 1) 0 rfl _ _ (fun w hSw => blk_range hSw.2) Tryz.underlying106 rfl (by rw [sizeLeaf, unhide HZL])) hS ?_
  simp only [Act.put, List.setIfInBounds_toArray, List.set_cons_zero, List.set_cons_succ]
  refine wpAnyH_ready (rs := [2]) (by kernel_rfl) (by simp) ?_
  refine AllReadyH.cons rfl (fun K hK => ?_) AllReadyH.nil
  simp only [List.getElem_toArray, List.getElem_cons_succ, List.getElem_cons_zero]
  go_simp
  refine (unhide HLN _).mono ?_
  rintro e y1 ⟨rfl, hb1⟩
  obtain ⟨B1, B2, B3, hb0⟩ := unhide X2
  have X3 := hide (And.intro (B1.below hb1 B1.lt) (And.intro (B2.below hb1 B2.lt) (And.intro (B3.below hb1 B3.lt) (hb0.trans (hb1.mono (by have := B1.lt; omega))))))
  clear B1 B2 B3 hb0 hb1 X2
  refine hK.out _ _ ⟨(unhide X3).1, (unhide X3).2.1⟩ (fun hS => ?_)
  clear hK K
  refine wpAnyH_ready (rs := [4]) (by kernel_rfl) (by simp) ?_
  refine AllReadyH.cons rfl (fun K hK => ?_) AllReadyH.nil
  simp only [List.getElem_toArray, List.getElem_cons_succ, List.getElem_cons_zero]
  go_simp
  refine (unhide HBD _).mono ?_
  rintro e y2 ⟨rfl, hb2⟩
  obtain ⟨B1, B2, B3, hb0⟩ := unhide X3
  have q0 : y2.cell? ⟨g + 2, 0, none⟩ = some (.int .i64 0) := (B3.below hb2 B3.lt).cell 0
  have q1 : y2.cell? ⟨g + 2, 1, none⟩ = some (.int .i64 0) := (B3.below hb2 B3.lt).cell 1
  have q2 : y2.cell? ⟨g + 2, 2, none⟩ = some (.string ⟨#[]⟩) := (B3.below hb2 B3.lt).cell 2
  have p0 := (B3.below hb2 B3.lt).frozen 0
  have p1 := (B3.below hb2 B3.lt).frozen 1
  have p2 := (B3.below hb2 B3.lt).frozen 2
  have X4 := hide (And.intro (B1.below hb2 B1.lt) (And.intro (B2.below hb2 B2.lt) (And.intro (B3.below hb2 B3.lt) (hb0.trans (hb2.mono (by have := B1.lt; omega))))))
  clear B1 B2 B3 hb0 hb2 X3
  refine hK.out _ _ ⟨(unhide X4).1, (unhide X4).2.1⟩ (fun hS => ?_)
  clear hK K
  refine wpAnyH_takeD 5 (some 12) (.agg #[.int .i64 7, .int .i64 (q : Int), .string tx]) rfl rfl (by kernel_rfl) (by kernel_rfl) (by kernel_rfl) (fun _ _ _ h => h) (Or.inl ⟨by rfl, fun w hSw => by go_simp⟩) hS ?_
  simp only [Act.put, List.setIfInBounds_toArray, List.set_cons_zero, List.set_cons_succ]
  refine wpAnyH_ready (rs := [6]) (by kernel_rfl) (by simp) ?_
  refine AllReadyH.cons rfl (fun K hK => ?_) AllReadyH.nil
  simp only [List.getElem_toArray, List.getElem_cons_succ, List.getElem_cons_zero]
  go_simp
  have B6 := (((unhide X4).2.2.1.set 0 (.int .i64 7)).set 1 (.int .i64 (q : Int))).set 2 (.string tx)
  have O6 := (((Only.refl (fun x => x = g + 2) y2).setCell ⟨g + 2, 0, none⟩ (.int .i64 7) (fun _ => rfl)).setCell ⟨g + 2, 1, none⟩ (.int .i64 (q : Int)) (fun _ => rfl)).setCell ⟨g + 2, 2, none⟩ (.string tx) (fun _ => rfl)
  have HLD := hide (load_page _ (g + 2) 7 (q : Int) tx B6)
  have HB6 := hide ((((unhide X4).2.2.2.setCell (p := ⟨g + 2, 0, none⟩) (by show g ≤ g + 2; omega) (.int .i64 7)).setCell (p := ⟨g + 2, 1, none⟩) (by show g ≤ g + 2; omega) (.int .i64 (q : Int))).setCell (p := ⟨g + 2, 2, none⟩) (by show g ≤ g + 2; omega) (.string tx))
  refine hK.out _ _ ⟨(unhide X4).1.only O6 (by omega), (unhide X4).2.1.only O6 (by omega)⟩ (fun hS => ?_)
  clear hK K
  refine wpAnyH_done (by kernel_rfl) ?_ _
  clear hS
  go_wp2
  exact bodyPost_ret (v := .agg #[.int .i64 7, .int .i64 (q : Int), .string tx]) (results_cell rfl _ _ _ ⟨g + 2, 0, none⟩ rfl _ (unhide HLD)) rfl ⟨rfl, unhide HB6⟩
end Go.Proofs.YtjlgbafcpoakmaaGreatDoor
