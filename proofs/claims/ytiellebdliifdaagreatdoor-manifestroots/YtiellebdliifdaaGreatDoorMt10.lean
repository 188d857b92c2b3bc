import Derived.Test.YtiellebdliifdaaGreatDoorMt09
import Derived.Test.YtiellebdliifdaaGreatDoorMt07
import Derived.BigQuiet
import Derived.WalkMore
import Derived.Shelf.Spec.SlicesInsertGrow
import Derived.Shelf.SlicesE.DeleteFunc
import Derived.Shelf.SlIterI.Sorted
import Derived.Shelf.SlIterI.Keys
import Derived.Test.YtiellebdliifdaaGreatDoorProg
namespace Go.Proofs.YtiellebdliifdaaGreatDoor
open Go.RowKit
def cutF (f : Nat → Ent) (k : Nat) : Nat → Ent := fun j => if j < k then f j else none
theorem cutF_succ (f : Nat → Ent) (k : Nat) : ups (cutF f k) k (f k) = cutF f (k + 1) := by
 funext l
 unfold ups cutF
 by_cases e : l = k
 ·subst e; rw [if_pos rfl, if_pos (by omega)]
 ·rw [if_neg e]
  by_cases h : l < k
  ·rw [if_pos h, if_pos (by omega)]
  ·rw [if_neg h, if_neg (by omega)]
theorem cutF_none (f : Nat → Ent) (k : Nat) (h : f k = none) : cutF f k = cutF f (k + 1) := by
 funext l
 unfold cutF
 by_cases e : l = k
 ·subst e; rw [if_neg (by omega), if_pos (by omega), h]
 ·by_cases h : l < k
  ·rw [if_pos h, if_pos (by omega)]
  ·rw [if_neg h, if_neg (by omega)]
theorem lfC_cut (f : Nat → Ent) : lfC (cutF f 3) = lfC f := by simp [lfC, cutF]
theorem lfC_cut0 (f : Nat → Ent) : (lfC (cutF f 0)).toArray = #[.string ⟨#[]⟩, .string ⟨#[]⟩, .string ⟨#[]⟩, .string ⟨#[]⟩, .string ⟨#[]⟩, .string ⟨#[]⟩] := by simp [lfC, cutF, vtD, vtW]
theorem a32_str (d t : ByteArray) : strOfNums (a32 (some (d, t))) = d := strOfNums_nums d
theorem a48_str (d t : ByteArray) : strOfNums (a48 (some (d, t))) = t := strOfNums_nums t
theorem mks_bit (f : Nat → Ent) (k : Nat) (hk : k < 3) : ((mks f 3 / 2 ^ k) % 2 == 1) = (f k).isSome := by
 have h0 := mk1_le (f 0)
 have h1 := mk1_le (f 1)
 have h2 := mk1_le (f 2)
 have e : ∀ j, (mk1 (f j) == 1) = (f j).isSome := fun j => by unfold mk1; cases f j <;> rfl
 rw [mks3, ← e]
 rcases (show k = 0 ∨ k = 1 ∨ k = 2 by omega) with rfl | rfl | rfl
 ·rw [show (mk1 (f 0) + mk1 (f 1) * 2 + mk1 (f 2) * 4) / 2 ^ 0 % 2 = mk1 (f 0) by omega]
 ·rw [show (mk1 (f 0) + mk1 (f 1) * 2 + mk1 (f 2) * 4) / 2 ^ 1 % 2 = mk1 (f 1) by omega]
 ·rw [show (mk1 (f 0) + mk1 (f 1) * 2 + mk1 (f 2) * 4) / 2 ^ 2 % 2 = mk1 (f 2) by omega]
theorem i64_and_nat (a b : Nat) (ha : a < 9223372036854775808) (hb : b < 9223372036854775808) : bits .and .i64 (a : Int) (b : Int) = ((a &&& b : Nat) : Int) := by
 have hx : a &&& b < 2 ^ 63 := Nat.and_lt_two_pow _ (by omega)
 have h1 : (BitVec.ofInt 64 (a : Int)).toNat = a := by
  rw [BitVec.ofInt_natCast, BitVec.toNat_ofNat]; exact Nat.mod_eq_of_lt (by omega)
 have h2 : (BitVec.ofInt 64 (b : Int)).toNat = b := by
  rw [BitVec.ofInt_natCast, BitVec.toNat_ofNat]; exact Nat.mod_eq_of_lt (by omega)
 show IntKind.i64.wrap ((BitVec.ofInt 64 (a : Int) &&& BitVec.ofInt 64 (b : Int)).toNat : Int) = _
 rw [BitVec.toNat_and, h1, h2, IntKind.wrap_i64]
 omega
theorem bit_of (m k : Nat) (hm : m < 8) : (bits .and .i64 ((m : Int) / 2 ^ k) 1 == 1) = (m / 2 ^ k % 2 == 1) := by
 have e : (m : Int) / 2 ^ k = ((m / 2 ^ k : Nat) : Int) := by simp
 have h1 : m / 2 ^ k ≤ m := Nat.div_le_self _ _
 have := i64_and_nat (m / 2 ^ k) 1 (by omega) (by omega)
 rw [e, show (1 : Int) = ((1 : Nat) : Int) from rfl, this, Nat.and_one_is_mod]
 generalize m / 2 ^ k % 2 = q
 rw [Bool.eq_iff_iff]
 simp
 omega
theorem lfC_at2 (f : Nat → Ent) (j : Nat) (h : j < 3) : (lfC f).toArray[j * 2]? = some (.string (vtD (f j))) ∧ (lfC f).toArray[j * 2 + 1]? = some (.string (vtW (f j))) := by
 rw [Nat.mul_comm]
 exact lfC_at f j h
theorem lfC_set2 (f : Nat → Ent) (j : Nat) (h : j < 3) (e : Ent) : ((lfC f).toArray.setIfInBounds (j * 2) (.string (vtD e))).setIfInBounds (j * 2 + 1) (.string (vtW e)) = (lfC (ups f j e)).toArray := by
 rw [Nat.mul_comm]
 exact lfC_set f j h e
def VLr (w : World) (g b : Nat) (f : Nat → Ent) (k : Nat) (wr : World) : Prop :=
 Blk wr g #[.string ⟨#[]⟩, .string ⟨#[]⟩, .string ⟨#[]⟩, .string ⟨#[]⟩, .string ⟨#[]⟩, .string ⟨#[]⟩] 89 ∧ Blk wr (g + 1) (lfC (cutF f k)).toArray 89 ∧ Rds wr b ⟨strOfNums (t3 f k), 1 + 80 * (k : Int), 0⟩ ∧ Below g w wr
set_option maxRecDepth 100000 in
set_option maxHeartbeats 2000000 in
theorem parseLeaf_any (f : Nat → Ent) (hf : ∀ j, j < 3 → EOk (f j)) (w : World) (hE : ETy w) : Calls Tryz.prog 97 #[.string (lfB f)] w fun e w' => e = .returned (.agg (lfC f).toArray) ∧ Below w.heap.size w w' := by
 obtain ⟨g, hg⟩ : ∃ g, w.heap.size = g := ⟨_, rfl⟩
 have HTX := hide (show lfB f = strOfNums (numB (mks f 3 : Int) 1 ++ t3 f 0) from by rw [lfB, lfL, e3_t3])
 obtain ⟨tx, htx⟩ : ∃ q, lfB f = q := ⟨_, rfl⟩
 rw [htx] at HTX ⊢
 clear htx
 have HML := hide (mks_lt f 3)
 have HBT := hide (mks_bit f)
 obtain ⟨m, hm⟩ : ∃ q, mks f 3 = q := ⟨_, rfl⟩
 rw [hm] at HTX HML HBT
 clear hm
 obtain ⟨x2, hx2⟩ : ∃ q, (w.alloc (.cells #[.string ⟨#[]⟩, .string ⟨#[]⟩, .string ⟨#[]⟩, .string ⟨#[]⟩, .string ⟨#[]⟩, .string ⟨#[]⟩] 89)).alloc (.cells #[.string ⟨#[]⟩, .string ⟨#[]⟩, .string ⟨#[]⟩, .string ⟨#[]⟩, .string ⟨#[]⟩, .string ⟨#[]⟩] 89) = q := ⟨_, rfl⟩
 have hs1 : (w.alloc (.cells #[.string ⟨#[]⟩, .string ⟨#[]⟩, .string ⟨#[]⟩, .string ⟨#[]⟩, .string ⟨#[]⟩, .string ⟨#[]⟩] 89)).heap.size = g + 1 := by simp [hg]
 have B : Blk x2 g #[.string ⟨#[]⟩, .string ⟨#[]⟩, .string ⟨#[]⟩, .string ⟨#[]⟩, .string ⟨#[]⟩, .string ⟨#[]⟩] 89 := by rw [← hx2, ← hg]; exact (Blk.new w _ _).alloc _
 have BZ : Blk x2 (g + 1) #[.string ⟨#[]⟩, .string ⟨#[]⟩, .string ⟨#[]⟩, .string ⟨#[]⟩, .string ⟨#[]⟩, .string ⟨#[]⟩] 89 := by
  rw [← hx2, ← hs1]
  exact Blk.new (w.alloc (.cells #[.string ⟨#[]⟩, .string ⟨#[]⟩, .string ⟨#[]⟩, .string ⟨#[]⟩, .string ⟨#[]⟩, .string ⟨#[]⟩] 89)) 89 #[.string ⟨#[]⟩, .string ⟨#[]⟩, .string ⟨#[]⟩, .string ⟨#[]⟩, .string ⟨#[]⟩, .string ⟨#[]⟩]
 have hb : Below g w x2 := by rw [← hx2, ← hg]; exact ((Below.refl _ w).alloc (Nat.le_refl _) _).alloc (by simp) _
 clear hs1
 have HEW := hide (fun W (h : Below g w W) => hE.below h (by rw [← hg]; exact hE.lt))
 have X2 := hide (And.intro B (And.intro BZ hb))
 have HF := hide hf
 clear B BZ hb hE hf
 rw [hg]
 go_enter Tryz.func97, Tryz.ntmps97
 go_wp2_with fail
 refine (newReader_any tx _).mono ?_
 rintro e x3 ⟨rfl, hR3, hb3, hs3⟩
 obtain ⟨B, BZ, hb⟩ := unhide X2
 obtain ⟨b, hbq⟩ : ∃ q, x2.heap.size = q := ⟨_, rfl⟩
 have hgb : g + 1 < b := by rw [← hbq]; exact BZ.lt
 have B3 := B.below hb3 B.lt
 have BZ3 := BZ.below hb3 BZ.lt
 have hb13 : Below g w x3 := hb.trans (hb3.mono (by omega))
 rw [hbq] at hR3 ⊢
 have HRN := hide (rnumK (by rw [unhide HTX] at hR3; exact hR3) (unhide HEW x3 hb13) (by decide) (by decide) (fits1n m (by have := unhide HML; omega)) (by have := unhide HML; omega) (t3_bytes f 0) (by omega) (by rw [t3_len f (unhide HF) 0 (by omega)]; omega) 1 rfl (1 + 80 * ((0 : Nat) : Int)) (by omega))
 have X3 := hide (And.intro B3 (And.intro BZ3 hb13))
 clear B BZ hb B3 BZ3 hb13 hb3 hs3 hR3 X2 hbq hx2 HTX
 go_wp2_with fail
 refine (unhide HRN).mono ?_
 rintro e x4 ⟨rfl, hR4, hO4⟩
 obtain ⟨B3, BZ3, hb13⟩ := unhide X3
 have HI := hide (show VLr w g b f 0 x4 from ⟨B3.only hO4 (by omega), by rw [lfC_cut0]; exact BZ3.only hO4 (by omega), hR4, hb13.trans (hO4.below (by have := B3.lt; omega) (fun x hx => by omega))⟩)
 clear B3 BZ3 hb13 hR4 hO4 X3 HRN
 go_wp2
 go_loopw [13] (fun i wr => ∃ k : Nat, k ≤ 3 ∧ i = .int .i64 (k : Int) ∧ VLr w g b f k wr) (fun i _ => 3 - (intOf i).toNat)
 case atStart => exact ⟨0, by omega, rfl, unhide HI⟩
 case round =>
  obtain ⟨k, hk, rfl, hI⟩ := hrel
  by_cases hkn : k < 3
  ·have hkn' : (k : Int) < 3 := by omega
   have hk0 : (0 : Int) ≤ (k : Int) := by omega
   have HBK := hide (unhide HBT k hkn)
   obtain ⟨I1, I2, I3, I4⟩ := hI
   rw [t3_step f k hkn] at I3
   have hek := unhide HF k hkn
   have HN := hide (rrawK I3 (unhide HEW wr I4) (a32_bytes (f k)) 32 (a32_len hek) (bytes_app (a48_bytes (f k)) (t3_bytes f (k + 1))) (by omega) (by rw [List.length_append, a48_len hek, t3_len f (unhide HF) (k + 1) (by omega)]; omega) 32 rfl (33 + 80 * (k : Int)) (by omega))
   have HI5 := hide (And.intro I1 (And.intro I2 (And.intro I4 hek)))
   clear I1 I2 I3 I4 hek
   go_wp2_with fail
   refine (unhide HN).mono ?_
   rintro e y1 ⟨rfl, hR1, hO1⟩
   obtain ⟨I1, I2, I4, hek⟩ := unhide HI5
   have I1 := I1.only hO1 (by omega)
   have I2 := I2.only hO1 (by omega)
   have I4 := I4.trans (hO1.below (B := g) (by have := (unhide HI5).1.lt; omega) (fun x hx => by omega))
   have HN2 := hide (rrawK hR1 (unhide HEW y1 I4) (a48_bytes (f k)) 48 (a48_len hek) (t3_bytes f (k + 1)) (by omega) (by rw [t3_len f (unhide HF) (k + 1) (by omega)]; omega) 48 rfl (1 + 80 * ((k + 1 : Nat) : Int)) (by omega))
   have HI6 := hide (And.intro I1 (And.intro I2 I4))
   clear I1 I2 I4 hR1 hO1 HI5 HN hek
   go_wp2_with fail
   refine (unhide HN2).mono ?_
   rintro e y2 ⟨rfl, hR2, hO2⟩
   obtain ⟨I1, I2, I4⟩ := unhide HI6
   have J1 := I1.only hO2 (by omega)
   have J2 := I2.only hO2 (by omega)
   have J4 := I4.trans (hO2.below (B := g) (by have := I1.lt; omega) (fun x hx => by omega))
   have HI7 := hide (And.intro J1 (And.intro J2 (And.intro hR2 J4)))
   clear I1 I2 I4 J1 J2 J4 hR2 hO2 HI6 HN2
   have HBB := hide (bit_of m k (by have := unhide HML; omega))
   rw [unhide HBK] at HBB
   cases hfk : f k with
   | none =>
    rw [hfk] at HBB
    have hbb : (bits .and .i64 ((m : Int) / 2 ^ k) 1 == 1) = false := unhide HBB
    have HC := hide (cutF_none f k hfk)
    clear hfk
    generalize strOfNums (a32 none) = s1 at *
    generalize strOfNums (a48 none) = s2 at *
    go_wp2
    go_roundw
    case rel => exact ⟨k + 1, by omega, by go_num, (unhide HI7).1, by rw [← unhide HC]; exact (unhide HI7).2.1, (unhide HI7).2.2.1, (unhide HI7).2.2.2⟩
    case measure => simp [intOf]; omega
   | some p =>
    obtain ⟨d, u⟩ := p
    rw [hfk] at HBB
    have hbb : (bits .and .i64 ((m : Int) / 2 ^ k) 1 == 1) = true := unhide HBB
    rw [a32_str, a48_str]
    obtain ⟨J1, J2, hR2, J4⟩ := unhide HI7
    have HC := hide (cutF_succ f k)
    rw [hfk] at HC
    clear hfk
    have c0 : y2.cell? ⟨g + 1, k * 2, none⟩ = some (.string (vtD (cutF f k k))) := by rw [J2.cell]; exact (lfC_at2 _ k hkn).1
    have c1 : y2.cell? ⟨g + 1, k * 2 + 1, none⟩ = some (.string (vtW (cutF f k k))) := by rw [J2.cell]; exact (lfC_at2 _ k hkn).2
    have f0 := J2.frozen (k * 2)
    have f1 := J2.frozen (k * 2 + 1)
    have K2 := (J2.set (k * 2) (.string d)).set (k * 2 + 1) (.string u)
    have e2 := lfC_set2 (cutF f k) k hkn (some (d, u))
    rw [unhide HC] at e2
    rw [show ((lfC (cutF f k)).toArray.setIfInBounds (k * 2) (.string d)).setIfInBounds (k * 2 + 1) (.string u) = (lfC (cutF f (k + 1))).toArray from e2] at K2
    have HI8 := hide (show VLr w g b f (k + 1) ((y2.setCell ⟨g + 1, k * 2, none⟩ (.string d)).setCell ⟨g + 1, k * 2 + 1, none⟩ (.string u)) from ⟨(J1.other _ _ (by simp)).other _ _ (by simp), K2, Blk.other (Blk.other hR2 _ _ (by show g + 1 ≠ b; omega)) _ _ (by show g + 1 ≠ b; omega), (J4.setCell (p := ⟨g + 1, k * 2, none⟩) (by show g ≤ g + 1; omega) _).setCell (p := ⟨g + 1, k * 2 + 1, none⟩) (by show g ≤ g + 1; omega) _⟩)
    clear J1 J2 hR2 J4 K2 e2 HC HI7
    generalize vtD (cutF f k k) = z1 at *
    generalize vtW (cutF f k k) = z2 at *
    go_wp2
    go_roundw
    case rel => exact ⟨k + 1, by omega, by go_num, unhide HI8⟩
    case measure => simp [intOf]; omega
  ·have hke : k = 3 := by omega
   have hkn' : ¬ (k : Int) < 3 := by omega
   obtain ⟨I1, I2, I3, I4⟩ := hI
   rw [hke, lfC_cut] at I2
   have hzl := lfC_len f
   have hzo := lfC_one f
   obtain ⟨zs, hzs⟩ : ∃ q, lfC f = q := ⟨_, rfl⟩
   rw [hzs] at I2 hzl hzo
   have HZS := hide hzs
   have R3 := hide (blk_range I2)
   have TH := hide (blk_there I1 zs.toArray.size (by simp [hzl]))
   have B4 := setCells_all I1 zs (by simp [hzl])
   have HLD := hide (iload_blk 89 _ B4 Tryz.underlying89 rfl (by rw [sizeLeaf]; simp [hzl]))
   have HB4 := hide (below_setCells (Nat.le_refl _) zs 0 I4)
   have HZL := hide hzl
   have HZO := hide hzo
   clear I1 I2 I3 I4 hzl hzo B4 hzs hke
   go_wp2_with (first | refine wpList_load_mid rfl 89 (.tmp 3) rfl (g + 1) 0 rfl _ _ (unhide R3) Tryz.underlying89 rfl (by rw [sizeLeaf, unhide HZL]) ?_ | refine wpList_store_mid rfl 89 (.tmp 2) (.tmp 31) rfl g 0 zs.toArray rfl rfl (unhide TH) (by rw [sizeLeaf]; simp [unhide HZL]) (unhide HZO) ?_)
   refine bodyPost_ret (v := .agg zs.toArray) (results_cell rfl _ _ _ ⟨g, 0, none⟩ rfl _ (unhide HLD)) rfl ⟨by rw [unhide HZS], unhide HB4⟩
set_option maxRecDepth 100000 in
set_option maxHeartbeats 2000000 in
theorem tLeafPage_any (r : Int) (num : Nat) (hn : num ≤ 1000000) (lf : Nat → Nat) (l : Nat) (hl : l < 20) (f : Nat → Ent) (hf : ∀ j, j < 3 → EOk (f j)) (w : World) : Calls Tryz.prog 54 #[.agg (trC r (num : Int) lf).toArray, .int .i64 (l : Int), .agg (lfC f).toArray] w fun e w' => e = .returned (.agg #[.int .i64 7, .int .i64 ((32 * num + l : Nat) : Int), .string (lfB f)]) ∧ Below w.heap.size w w' := by
 obtain ⟨g, hg⟩ : ∃ g, w.heap.size = g := ⟨_, rfl⟩
 have HLN := hide (fun W => tNumber_any r num hn lf l hl W)
 have HBD := hide (fun W => fBody_any f hf W)
 have hxl := trC_len r (num : Int) lf
 have hzl := lfC_len f
 generalize trC r (num : Int) lf = xs at *
 generalize lfC f = zs at *
 generalize lfB f = tx at *
 generalize 32 * num + l = q at *
 obtain ⟨x2, hx2⟩ : ∃ q, ((w.alloc (.cells xs.toArray 69)).alloc (.cells zs.toArray 89)).alloc (.cells #[.int .i64 0, .int .i64 0, .string ⟨#[]⟩] 95) = q := ⟨_, rfl⟩
 have hs1 : (w.alloc (.cells xs.toArray 69)).heap.size = g + 1 := by simp [hg]
 have hs2 : ((w.alloc (.cells xs.toArray 69)).alloc (.cells zs.toArray 89)).heap.size = g + 2 := by simp; omega
 have B1 : Blk x2 g xs.toArray 69 := by rw [← hx2, ← hg]; exact ((Blk.new w _ _).alloc _).alloc _
 have B2 : Blk x2 (g + 1) zs.toArray 89 := by
  rw [← hx2, ← hs1]
  exact (Blk.new (w.alloc (.cells xs.toArray 69)) 89 zs.toArray).alloc _
 have B3 : Blk x2 (g + 2) #[.int .i64 0, .int .i64 0, .string ⟨#[]⟩] 95 := by
  rw [← hx2, ← hs2]
  exact Blk.new ((w.alloc (.cells xs.toArray 69)).alloc (.cells zs.toArray 89)) 95 #[.int .i64 0, .int .i64 0, .string ⟨#[]⟩]
 have hb0 : Below g w x2 := by rw [← hx2, ← hg]; exact (((Below.refl _ w).alloc (Nat.le_refl _) _).alloc (by simp) _).alloc (by simp; omega) _
 have X2 := hide (show Blk x2.drew g xs.toArray 69 ∧ Blk x2.drew (g + 1) zs.toArray 89 ∧ Blk x2.drew (g + 2) #[.int .i64 0, .int .i64 0, .string ⟨#[]⟩] 95 ∧ Below g w x2.drew from ⟨B1, B2, B3, hb0.drew⟩)
 have HS0 := hide (And.intro B1 B2)
 have HXL := hide hxl
 have HZL := hide hzl
 clear B1 B2 B3 hb0 hs1 hs2 hxl hzl hf
 rw [hg]
 go_enter Tryz.func54, Tryz.ntmps54
 go_wp2
 refine wp_region_held_drew (S := fun w' => Blk w' g xs.toArray 69 ∧ Blk w' (g + 1) zs.toArray 89) (by kernel_rfl) (unhide HS0) ?_
 intro hS
 generalize x2.drew = x3 at *
 refine wpAnyH_takeD 0 (some 7) (.agg xs.toArray) rfl rfl (by kernel_rfl) (by kernel_rfl) (by kernel_rfl) (fun _ _ _ h => h) (yieldsIf_load_mid (by rfl) 69 (.tmp 3) rfl g 0 rfl _ _ (fun w hSw => blk_range hSw.1) Tryz.underlying69 rfl (by rw [sizeTree, unhide HXL])) hS ?_
 simp only [Act.put, List.setIfInBounds_toArray, List.set_cons_zero, List.set_cons_succ]
 refine wpAnyH_takeD 1 (some 8) (.int .i64 (l : Int)) rfl rfl (by kernel_rfl) (by kernel_rfl) (by kernel_rfl) (fun _ _ _ h => h) (Or.inl ⟨by rfl, fun w hSw => by go_simp⟩) hS ?_
 simp only [Act.put, List.setIfInBounds_toArray, List.set_cons_zero, List.set_cons_succ]
 refine wpAnyH_takeD 3 (some 10) (.agg zs.toArray) rfl rfl (by kernel_rfl) (by kernel_rfl) (by kernel_rfl) (fun _ _ _ h => h) (yieldsIf_load_mid (by rfl) 89 (.tmp 5) rfl (g + 1) 0 rfl _ _ (fun w hSw => blk_range hSw.2) Tryz.underlying89 rfl (by rw [sizeLeaf, unhide HZL])) hS ?_
 simp only [Act.put, List.setIfInBounds_toArray, List.set_cons_zero, List.set_cons_succ]
 refine wpAnyH_ready (rs := [2]) (by kernel_rfl) (by simp) ?_
 refine AllReadyH.cons rfl (fun K hK => ?_) AllReadyH.nil
 simp only [List.getElem_toArray, List.getElem_cons_succ, List.getElem_cons_zero]
 go_simp
 refine (unhide HLN _).mono ?_
 rintro e y1 ⟨rfl, hb1⟩
 obtain ⟨B1, B2, B3, hb0⟩ := unhide X2
 have X3 := hide (And.intro (B1.below hb1 B1.lt) (And.intro (B2.below hb1 B2.lt) (And.intro (B3.below hb1 B3.lt) (hb0.trans (hb1.mono (by have := B1.lt; omega))))))
 clear B1 B2 B3 hb0 hb1 X2
 refine hK.out _ _ ⟨(unhide X3).1, (unhide X3).2.1⟩ (fun hS => ?_)
 clear hK K
 refine wpAnyH_ready (rs := [4]) (by kernel_rfl) (by simp) ?_
 refine AllReadyH.cons rfl (fun K hK => ?_) AllReadyH.nil
 simp only [List.getElem_toArray, List.getElem_cons_succ, List.getElem_cons_zero]
 go_simp
 refine (unhide HBD _).mono ?_
 rintro e y2 ⟨rfl, hb2⟩
 obtain ⟨B1, B2, B3, hb0⟩ := unhide X3
 have q0 : y2.cell? ⟨g + 2, 0, none⟩ = some (.int .i64 0) := (B3.below hb2 B3.lt).cell 0
 have q1 : y2.cell? ⟨g + 2, 1, none⟩ = some (.int .i64 0) := (B3.below hb2 B3.lt).cell 1
 have q2 : y2.cell? ⟨g + 2, 2, none⟩ = some (.string ⟨#[]⟩) := (B3.below hb2 B3.lt).cell 2
 have p0 := (B3.below hb2 B3.lt).frozen 0
 have p1 := (B3.below hb2 B3.lt).frozen 1
 have p2 := (B3.below hb2 B3.lt).frozen 2
 have X4 := hide (And.intro (B1.below hb2 B1.lt) (And.intro (B2.below hb2 B2.lt) (And.intro (B3.below hb2 B3.lt) (hb0.trans (hb2.mono (by have := B1.lt; omega))))))
 clear B1 B2 B3 hb0 hb2 X3
 refine hK.out _ _ ⟨(unhide X4).1, (unhide X4).2.1⟩ (fun hS => ?_)
 clear hK K
 refine wpAnyH_takeD 5 (some 12) (.agg #[.int .i64 7, .int .i64 (q : Int), .string tx]) rfl rfl (by kernel_rfl) (by kernel_rfl) (by kernel_rfl) (fun _ _ _ h => h) (Or.inl ⟨by rfl, fun w hSw => by go_simp⟩) hS ?_
 simp only [Act.put, List.setIfInBounds_toArray, List.set_cons_zero, List.set_cons_succ]
 refine wpAnyH_ready (rs := [6]) (by kernel_rfl) (by simp) ?_
 refine AllReadyH.cons rfl (fun K hK => ?_) AllReadyH.nil
 simp only [List.getElem_toArray, List.getElem_cons_succ, List.getElem_cons_zero]
 go_simp
 have B6 := (((unhide X4).2.2.1.set 0 (.int .i64 7)).set 1 (.int .i64 (q : Int))).set 2 (.string tx)
 have O6 := (((Only.refl (fun x => x = g + 2) y2).setCell ⟨g + 2, 0, none⟩ (.int .i64 7) (fun _ => rfl)).setCell ⟨g + 2, 1, none⟩ (.int .i64 (q : Int)) (fun _ => rfl)).setCell ⟨g + 2, 2, none⟩ (.string tx) (fun _ => rfl)
 have HLD := hide (load_page _ (g + 2) 7 (q : Int) tx B6)
 have HB6 := hide ((((unhide X4).2.2.2.setCell (p := ⟨g + 2, 0, none⟩) (by show g ≤ g + 2; omega) (.int .i64 7)).setCell (p := ⟨g + 2, 1, none⟩) (by show g ≤ g + 2; omega) (.int .i64 (q : Int))).setCell (p := ⟨g + 2, 2, none⟩) (by show g ≤ g + 2; omega) (.string tx))
 refine hK.out _ _ ⟨(unhide X4).1.only O6 (by omega), (unhide X4).2.1.only O6 (by omega)⟩ (fun hS => ?_)
 clear hK K
 refine wpAnyH_done (by kernel_rfl) ?_ _
 clear hS
 go_wp2
 exact bodyPost_ret (v := .agg #[.int .i64 7, .int .i64 (q : Int), .string tx]) (results_cell rfl _ _ _ ⟨g + 2, 0, none⟩ rfl _ (unhide HLD)) rfl ⟨rfl, unhide HB6⟩
end Go.Proofs.YtiellebdliifdaaGreatDoor
namespace Go.Proofs.YtiellebdliifdaaGreatDoor
open Go.RowKit
theorem u8_and_nat (a b : Nat) (ha : a < 256) (hb : b < 256) : bits .and .u8 (a : Int) (b : Int) = ((a &&& b : Nat) : Int) := by
 have hx : a &&& b ≤ a := Nat.and_le_left
 have h1 : (BitVec.ofInt 8 (a : Int)).toNat = a := by
  rw [BitVec.ofInt_natCast, BitVec.toNat_ofNat]; exact Nat.mod_eq_of_lt (by omega)
 have h2 : (BitVec.ofInt 8 (b : Int)).toNat = b := by
  rw [BitVec.ofInt_natCast, BitVec.toNat_ofNat]; exact Nat.mod_eq_of_lt (by omega)
 show IntKind.u8.wrap ((BitVec.ofInt 8 (a : Int) &&& BitVec.ofInt 8 (b : Int)).toNat : Int) = _
 rw [BitVec.toNat_and, h1, h2, IntKind.wrap_u8]
 omega
theorem u8_xor_nat (a b : Nat) (ha : a < 256) (hb : b < 256) : bits .xor .u8 (a : Int) (b : Int) = ((a ^^^ b : Nat) : Int) := by
 have hx : a ^^^ b < 2 ^ 8 := Nat.xor_lt_two_pow (by omega) (by omega)
 have h1 : (BitVec.ofInt 8 (a : Int)).toNat = a := by
  rw [BitVec.ofInt_natCast, BitVec.toNat_ofNat]; exact Nat.mod_eq_of_lt (by omega)
 have h2 : (BitVec.ofInt 8 (b : Int)).toNat = b := by
  rw [BitVec.ofInt_natCast, BitVec.toNat_ofNat]; exact Nat.mod_eq_of_lt (by omega)
 show IntKind.u8.wrap ((BitVec.ofInt 8 (a : Int) ^^^ BitVec.ofInt 8 (b : Int)).toNat : Int) = _
 rw [BitVec.toNat_xor, h1, h2, IntKind.wrap_u8]
 omega
theorem and_bit (x r : Nat) : (((x &&& 2 ^ r : Nat) : Int) != 0) = x.testBit r := by
 have h : 2 ^ r ≠ 0 := by have := Nat.two_pow_pos r; omega
 have e : x &&& 2 ^ r = if x.testBit r then 2 ^ r else 0 := by
  apply Nat.eq_of_testBit_eq
  intro i
  rw [Nat.testBit_and, Nat.testBit_two_pow]
  by_cases hi : r = i
  ·subst hi
   cases hx : x.testBit r <;> simp
  ·cases hx : x.testBit r <;> simp [hi]
 rw [e]
 generalize 2 ^ r = v at *
 cases x.testBit r
 ·simp
 ·simp; exact h
theorem pagesOf_any (n : Nat) (hn : n ≤ 1024) (w : World) : Calls Tryz.prog 61 #[.int .i64 (n : Int)] w fun e w' => e = .returned (.int .i64 (pgs n : Int)) ∧ w' = w := by
 have e1 : ((n : Int) + 256 - 1).tdiv 256 = (pgs n : Int) := by
  rw [Int.tdiv_eq_ediv_of_nonneg (by omega)]; unfold pgs; omega
 have hq := pgs_le hn
 generalize pgs n = q at *
 go_enter Tryz.func61, Tryz.ntmps61
 go_wp2
 go_ret
 exact ⟨rfl, rfl⟩
theorem pageOf_any (i : Nat) (hi : i < 1000000) (w : World) : Calls Tryz.prog 124 #[.int .i64 (i : Int)] w fun e w' => e = .returned (.int .i64 ((i / 256 : Nat) : Int)) ∧ w' = w := by
 have e1 : (i : Int).tdiv 256 = ((i / 256 : Nat) : Int) := by
  rw [Int.tdiv_eq_ediv_of_nonneg (by omega)]; omega
 have hq : i / 256 < 1000000 := by omega
 generalize i / 256 = q at *
 go_enter Tryz.func124, Tryz.ntmps124
 go_wp2
 go_ret
 exact ⟨rfl, rfl⟩
theorem firstOf_any (k : Nat) (hk : k ≤ 1000) (w : World) : Calls Tryz.prog 151 #[.int .i64 (k : Int)] w fun e w' => e = .returned (.int .i64 ((256 * k : Nat) : Int)) ∧ w' = w := by
 have e1 : (k : Int) * 256 = ((256 * k : Nat) : Int) := by omega
 have hq : 256 * k < 1000000 := by omega
 generalize 256 * k = q at *
 go_enter Tryz.func151, Tryz.ntmps151
 go_wp2
 go_ret
 exact ⟨rfl, rfl⟩
theorem byteOf_any (i : Nat) (hi : i < 1000000) (w : World) : Calls Tryz.prog 167 #[.int .i64 (i : Int)] w fun e w' => e = .returned (.int .i64 ((i % 256 / 8 : Nat) : Int)) ∧ w' = w := by
 have e1 : (i : Int).tmod 256 = ((i % 256 : Nat) : Int) := by
  rw [Int.tmod_eq_emod_of_nonneg (by omega)]; omega
 have hq1 : i % 256 < 256 := Nat.mod_lt _ (by decide)
 have e2 : ((i % 256 : Nat) : Int).tdiv 8 = ((i % 256 / 8 : Nat) : Int) := by
  rw [Int.tdiv_eq_ediv_of_nonneg (by omega)]; omega
 have hq : i % 256 / 8 < 32 := by omega
 generalize i % 256 / 8 = q at *
 generalize i % 256 = q1 at *
 go_enter Tryz.func167, Tryz.ntmps167
 go_wp2
 go_ret
 exact ⟨rfl, rfl⟩
theorem bitOf_any (i : Nat) (hi : i < 1000000) (w : World) : Calls Tryz.prog 168 #[.int .i64 (i : Int)] w fun e w' => e = .returned (.int .u8 ((2 ^ (i % 8) : Nat) : Int)) ∧ w' = w := by
 have e1 : (i : Int).tmod 8 = ((i % 8 : Nat) : Int) := by
  rw [Int.tmod_eq_emod_of_nonneg (by omega)]; omega
 have hq : i % 8 < 8 := Nat.mod_lt _ (by decide)
 generalize i % 8 = q at *
 obtain rfl | rfl | rfl | rfl | rfl | rfl | rfl | rfl : q = 0 ∨ q = 1 ∨ q = 2 ∨ q = 3 ∨ q = 4 ∨ q = 5 ∨ q = 6 ∨ q = 7 := by omega
 all_goals
  simp only [Int.cast_ofNat_Int] at e1
  go_enter Tryz.func168, Tryz.ntmps168
  go_wp2
  go_ret
  exact ⟨rfl, rfl⟩
set_option maxRecDepth 100000 in
set_option maxHeartbeats 1000000 in
theorem isTaken_any (b : ByteArray) (hb : b.size = 32) (i : Nat) (hi : i < 1000000) (w : World) : Calls Tryz.prog 125 #[.string b, .int .i64 (i : Int)] w fun e w' => e = .returned (.bool (bitB b i)) ∧ Below w.heap.size w w' := by
 have HB1 := hide (fun W => byteOf_any i hi W)
 have HB2 := hide (fun W => bitOf_any i hi W)
 have hq : i % 256 / 8 < 32 := by omega
 have hr : i % 8 < 8 := Nat.mod_lt _ (by decide)
 have hix := index_str b (i % 256 / 8) (by omega)
 rw [byN_eq] at hix
 have han := u8_and_nat (byN b (i % 256 / 8)) (2 ^ (i % 8)) (byN_lt _ _) (two_lt _ hr)
 have hbt := and_bit (byN b (i % 256 / 8)) (i % 8)
 have HBB := hide (show bitB b i = (byN b (i % 256 / 8)).testBit (i % 8) from rfl)
 generalize byN b (i % 256 / 8) &&& 2 ^ (i % 8) = av at *
 generalize byN b (i % 256 / 8) = x at *
 generalize hpp : 2 ^ (i % 8) = pw at *
 clear hpp hr
 generalize i % 256 / 8 = q at *
 generalize x.testBit (i % 8) = tb at *
 generalize bitB b i = bb at *
 have hbb := unhide HBB
 clear HBB
 subst hbb
 go_enter Tryz.func125, Tryz.ntmps125
 go_wp2
 go_quiet ((first | (go_at_call 167; exact Calls.quiet_of_same (unhide HB1 _)) | (go_at_call 168; exact Calls.quiet_of_same (unhide HB2 _))))
 go_wp2
 go_ret
 exact ⟨rfl, below_drewN (Below.refl _ w) _⟩
def Mcs (pb a n : Nat) : Array Value := #[.pointer (some ⟨pb, 0, none⟩), .int .i64 (a : Int), .int .i64 (n : Int)]
def MB (w : World) (mb pb a n : Nat) : Prop := Blk w mb (Mcs pb a n) 177
theorem MB.only {w w' : World} {mb pb a n : Nat} {P : Nat → Prop} (h : MB w mb pb a n) (ho : Only P w w') (hp : ¬ P mb) : MB w' mb pb a n := Blk.only h ho hp
theorem MB.below {w w' : World} {mb pb a n : Nat} (h : MB w mb pb a n) (hb : Below w.heap.size w w') : MB w' mb pb a n := Blk.below h hb h.lt
theorem MB.c0 {w : World} {mb pb a n : Nat} (h : MB w mb pb a n) : w.cell? ⟨mb, 0, none⟩ = some (.pointer (some ⟨pb, 0, none⟩)) := by rw [Blk.cell h]; rfl
theorem MB.c1 {w : World} {mb pb a n : Nat} (h : MB w mb pb a n) : w.cell? ⟨mb, 1, none⟩ = some (.int .i64 (a : Int)) := by rw [Blk.cell h]; rfl
theorem MB.c2 {w : World} {mb pb a n : Nat} (h : MB w mb pb a n) : w.cell? ⟨mb, 2, none⟩ = some (.int .i64 (n : Int)) := by rw [Blk.cell h]; rfl
def pin (n k : Nat) : Nat := min 256 (n - 256 * k)
set_option maxRecDepth 100000 in
set_option maxHeartbeats 1000000 in
theorem placesIn_any {w : World} {mb pb a n : Nat} (h : MB w mb pb a n) (hn : n ≤ 1024) (k : Nat) (hk : k < pgs n) : Calls Tryz.prog 150 #[.pointer (some ⟨mb, 0, none⟩), .int .i64 (k : Int)] w fun e w' => e = .returned (.int .i64 (pin n k : Int)) ∧ Below w.heap.size w w' := by
 have c2 := h.c2
 have hk4 := pgs_le hn
 have hkn : 256 * k < n := by unfold pgs at hk; omega
 have HF := hide (fun W => firstOf_any k (by omega) W)
 have e1 : (n : Int) - ((256 * k : Nat) : Int) = ((n - 256 * k : Nat) : Int) := by omega
 have hq : n - 256 * k ≤ 1024 := by omega
 have hpn : min (256 : Int) ((n - 256 * k : Nat) : Int) = (pin n k : Int) := by unfold pin; omega
 have hwq : IntKind.i64.wrap ((n - 256 * k : Nat) : Int) = ((n - 256 * k : Nat) : Int) := wrapI_eq _ (by omega) (by omega)
 generalize pin n k = pn at *
 generalize n - 256 * k = q at *
 generalize 256 * k = f at *
 clear hk hk4
 go_enter Tryz.func150, Tryz.ntmps150
 go_wp2
 refine wp_region_held_drew (S := fun w' => w'.cell? ⟨mb, 2, none⟩ = some (.int .i64 (n : Int))) (by kernel_rfl) c2 ?_
 intro hS
 refine wpAnyH_takeD 0 (some 5) (.pointer (some ⟨mb, 0, none⟩)) rfl rfl (by kernel_rfl) (by kernel_rfl) (by kernel_rfl) (fun _ _ _ h => h) (Or.inl ⟨by rfl, fun w hSw => by have q1 : _ = _ := hSw; go_simp⟩) hS ?_
 simp only [Act.put, List.setIfInBounds_toArray, List.set_cons_zero, List.set_cons_succ]
 refine wpAnyH_takeD 1 (some 6) (.pointer (some ⟨mb, 0, none⟩)) rfl rfl (by kernel_rfl) (by kernel_rfl) (by kernel_rfl) (fun _ _ _ h => h) (Or.inl ⟨by rfl, fun w hSw => by have q1 : _ = _ := hSw; go_simp⟩) hS ?_
 simp only [Act.put, List.setIfInBounds_toArray, List.set_cons_zero, List.set_cons_succ]
 refine wpAnyH_takeD 2 (some 7) (.pointer (some ⟨mb, 2, none⟩)) rfl rfl (by kernel_rfl) (by kernel_rfl) (by kernel_rfl) (fun _ _ _ h => h) (Or.inl ⟨by rfl, fun w hSw => by have q1 : _ = _ := hSw; go_simp⟩) hS ?_
 simp only [Act.put, List.setIfInBounds_toArray, List.set_cons_zero, List.set_cons_succ]
 refine wpAnyH_takeD 3 (some 8) (.int .i64 (n : Int)) rfl rfl (by kernel_rfl) (by kernel_rfl) (by kernel_rfl) (fun _ _ _ h => h) (Or.inl ⟨by rfl, fun w hSw => by have q1 : _ = _ := hSw; go_simp⟩) hS ?_
 simp only [Act.put, List.setIfInBounds_toArray, List.set_cons_zero, List.set_cons_succ]
 refine wpAnyH_takeD 4 (some 9) (.int .i64 (k : Int)) rfl rfl (by kernel_rfl) (by kernel_rfl) (by kernel_rfl) (fun _ _ _ h => h) (Or.inl ⟨by rfl, fun w hSw => by have q1 : _ = _ := hSw; go_simp⟩) hS ?_
 simp only [Act.put, List.setIfInBounds_toArray, List.set_cons_zero, List.set_cons_succ]
 refine wpAnyH_ready (rs := [5]) (by kernel_rfl) (by simp) ?_
 refine AllReadyH.cons rfl (fun K hK => ?_) AllReadyH.nil
 simp only [List.getElem_toArray, List.getElem_cons_succ, List.getElem_cons_zero]
 go_simp
 refine (unhide HF _).mono ?_
 rintro e x1 ⟨rfl, hx1⟩
 subst hx1
 refine hK.out _ _ c2 (fun hS => ?_)
 clear hK K
 refine wpAnyH_takeD 6 (some 11) (.int .i64 (q : Int)) rfl rfl (by kernel_rfl) (by kernel_rfl) (by kernel_rfl) (fun _ _ _ h => h) (Or.inl ⟨by rfl, fun w hSw => by have q1 : _ = _ := hSw; go_simp⟩) hS ?_
 simp only [Act.put, List.setIfInBounds_toArray, List.set_cons_zero, List.set_cons_succ]
 refine wpAnyH_ready (rs := [7]) (by kernel_rfl) (by simp) ?_
 refine AllReadyH.cons rfl (fun K hK => ?_) AllReadyH.nil
 simp only [List.getElem_toArray, List.getElem_cons_succ, List.getElem_cons_zero]
 go_simp
 refine hK.out _ _ c2 (fun hS => ?_)
 clear hK K
 refine wpAnyH_takeD 8 (some 4) (.int .i64 (pn : Int)) rfl rfl (by kernel_rfl) (by kernel_rfl) (by kernel_rfl) (fun _ _ _ h => h) (Or.inl ⟨by rfl, fun w hSw => by have q1 : _ = _ := hSw; go_simp⟩) hS ?_
 simp only [Act.put, List.setIfInBounds_toArray, List.set_cons_zero, List.set_cons_succ]
 refine wpAnyH_done (by kernel_rfl) ?_ _
 go_wp2
 go_ret
 exact ⟨rfl, (Below.refl _ w).drew⟩
theorem mhas_any {w : World} {mb pb a n : Nat} (h : MB w mb pb a n) (z : Int) : Calls Tryz.prog 122 #[.pointer (some ⟨mb, 0, none⟩), .int .i64 z] w fun e w' => e = .returned (.bool (decide (0 ≤ z) && decide (z < (n : Int)))) ∧ w' = w := by
 have c2 := h.c2
 clear h
 by_cases h0 : 0 ≤ z
 ·have hd : decide ((0 : Int) ≤ z) = true := by simpa using h0
  rw [hd, Bool.true_and]
  clear h0
  generalize hdz : decide (z < (n : Int)) = dz at *
  go_enter Tryz.func122, Tryz.ntmps122
  go_wp2
  go_ret
  exact ⟨rfl, rfl⟩
 ·have hd : decide ((0 : Int) ≤ z) = false := by simpa using h0
  rw [hd, Bool.false_and]
  clear h0
  go_enter Tryz.func122, Tryz.ntmps122
  go_wp2
  go_ret
  exact ⟨rfl, rfl⟩
theorem isCount_any (z : Int) (w : World) : Calls Tryz.prog 60 #[.int .i64 z] w fun e w' => e = .returned (.bool (decide (1 ≤ z) && decide (z ≤ 1024))) ∧ w' = w := by
 by_cases h0 : 1 ≤ z
 ·have hd : decide ((1 : Int) ≤ z) = true := by simpa using h0
  rw [hd, Bool.true_and]
  clear h0
  generalize hdz : decide (z ≤ 1024) = dz at *
  go_enter Tryz.func60, Tryz.ntmps60
  go_wp2
  go_ret
  exact ⟨rfl, rfl⟩
 ·have hd : decide ((1 : Int) ≤ z) = false := by simpa using h0
  rw [hd, Bool.false_and]
  clear h0
  go_enter Tryz.func60, Tryz.ntmps60
  go_wp2
  go_ret
  exact ⟨rfl, rfl⟩
theorem sectorOf_any (k : Nat) (b : ByteArray) (w : World) : Calls Tryz.prog 62 #[.int .i64 (k : Int), .string b] w fun e w' => e = .returned (.string (pgT k b)) ∧ Below w.heap.size w w' := by
 have HM := hide (fun W => make_any rep_ok 3 (k : Int) b W)
 have HP := hide (show pgT k b = makeB 3 (k : Int) b from rfl)
 generalize pgT k b = t at *
 generalize makeB 3 (k : Int) b = t2 at *
 generalize errM 3 (k : Int) b.size = er at *
 go_enter Tryz.func62, Tryz.ntmps62
 go_wp2_with (go_at_call 99; refine (unhide HM _).mono ?_; rintro e w1 ⟨rfl, hb⟩)
 go_ret
 exact ⟨by rw [unhide HP]; rfl, hb⟩
def bdOk (t : ByteArray) (k : Nat) : Prop := prOk t ∧ pkd t = 3 ∧ pnm t = (k : Int) ∧ (pbd t).size = 32
instance (t : ByteArray) : Decidable (prOk t) := inferInstanceAs (Decidable (_ ∧ _))
instance (t : ByteArray) (k : Nat) : Decidable (bdOk t k) := inferInstanceAs (Decidable (_ ∧ _))
def bdT (t : ByteArray) (k : Nat) : ByteArray := if bdOk t k then pbd t else ⟨#[]⟩
theorem bd_page (k : Nat) (hk : k < 1024) (b : ByteArray) (hb : b.size = 32) : bdOk (pgT k b) k ∧ bdT (pgT k b) k = b := by
 obtain ⟨h1, h2, h3, h4⟩ := pgT_parse k hk b hb
 have h : bdOk (pgT k b) k := ⟨h1, h2, h3, by rw [h4]; exact hb⟩
 exact ⟨h, by rw [bdT, if_pos h, h4]⟩
set_option maxRecDepth 100000 in
set_option maxHeartbeats 1000000 in
theorem bodyOf_any (t : ByteArray) (ht : t.size ≤ 9223372036854775807) (k : Nat) (w : World) (hg : ETy w) : Calls Tryz.prog 166 #[.string t, .int .i64 (k : Int)] w fun e w' => e = .returned (.tuple #[.string (bdT t k), .bool (decide (bdOk t k))]) ∧ Below w.heap.size w w' := by
 have HP := hide (parse_any rep_ok t ht w hg)
 clear ht hg
 go_enter Tryz.func166, Tryz.ntmps166
 go_wp2_with fail
 refine (unhide HP).mono ?_
 rintro e x1 ⟨q, hb1⟩
 have HB1 := hide hb1
 clear HP hb1
 rcases q with ⟨hpr, rfl⟩ | ⟨hpr, rfl⟩
 ·by_cases h : bdOk t k
  ·have HT := hide (show bdT t k = pbd t ∧ decide (bdOk t k) = true from ⟨by rw [bdT, if_pos h], decide_eq_true h⟩)
   obtain ⟨h1, h2, h3, h4⟩ := h
   rw [h2, h3]
   have h4' : (((pbd t).size : Int) != 32) = false := by rw [h4]; rfl
   have h3' : ((k : Int) != (k : Int)) = false := by simp
   clear h1 h2 h3 hpr h4
   generalize pbd t = bd at *
   go_wp2
   go_ret2
   rw [(unhide HT).1, (unhide HT).2]
   exact ⟨rfl, (unhide HB1).trans (((Below.refl _ x1).alloc (Nat.le_refl _) _).mono (unhide HB1).size)⟩
  ·have HT := hide (show bdT t k = ⟨#[]⟩ ∧ decide (bdOk t k) = false from ⟨by rw [bdT, if_neg h], decide_eq_false h⟩)
   have hc : ¬ (pkd t = 3 ∧ pnm t = (k : Int) ∧ (pbd t).size = 32) := fun q => h ⟨hpr, q.1, q.2.1, q.2.2⟩
   clear h hpr
   generalize pkd t = kd at *
   generalize pnm t = nm at *
   generalize pbd t = bd at *
   by_cases q1 : kd = 3
   ·subst q1
    by_cases q2 : nm = (k : Int)
    ·subst q2
     have q3 : ((bd.size : Int) != 32) = true := by
      simp only [true_and] at hc
      simp; omega
     have h3' : ((k : Int) != (k : Int)) = false := by simp
     clear hc
     go_wp2
     go_ret2
     rw [(unhide HT).1, (unhide HT).2]
     exact ⟨rfl, (unhide HB1).trans (((Below.refl _ x1).alloc (Nat.le_refl _) _).mono (unhide HB1).size)⟩
    ·have q2' : (nm != (k : Int)) = true := by simpa using q2
     clear hc q2
     go_wp2
     go_ret2
     rw [(unhide HT).1, (unhide HT).2]
     exact ⟨rfl, (unhide HB1).trans (((Below.refl _ x1).alloc (Nat.le_refl _) _).mono (unhide HB1).size)⟩
   ·have q1' : (kd != 3) = true := by simpa using q1
    clear hc q1
    go_wp2
    go_ret2
    rw [(unhide HT).1, (unhide HT).2]
    exact ⟨rfl, (unhide HB1).trans (((Below.refl _ x1).alloc (Nat.le_refl _) _).mono (unhide HB1).size)⟩
 ·have h : ¬ bdOk t k := fun q => hpr q.1
  have HT := hide (show bdT t k = ⟨#[]⟩ ∧ decide (bdOk t k) = false from ⟨by rw [bdT, if_neg h], decide_eq_false h⟩)
  clear h hpr
  go_wp2
  go_ret2
  rw [(unhide HT).1, (unhide HT).2]
  exact ⟨rfl, (unhide HB1).trans (((Below.refl _ x1).alloc (Nat.le_refl _) _).mono (unhide HB1).size)⟩
end Go.Proofs.YtiellebdliifdaaGreatDoor
namespace Go.Proofs.YtiellebdliifdaaGreatDoor
open Go.Shelf
def Tryz.insL_ren : Go.Shelf.Ren := ⟨fun | 21 => 88 | 27 => 140 | 28 => 141 | 35 => 176 | 39 => 202 | n => n, fun | 22 => 22 | 3 => 3 | 4 => 4 | 0 => 0 | n => n, fun | n => n⟩
theorem Tryz.insL : Go.Proofs.Lays2.n21 Tryz.prog Tryz.insL_ren := {
 mixed := by kernel_rfl
 f21 := Tryz.func88.trans (congrArg some (by kernel_rfl))
 f27 := Tryz.func140.trans (congrArg some (by kernel_rfl))
 f28 := Tryz.func141.trans (congrArg some (by kernel_rfl))
 f35 := Tryz.func176.trans (congrArg some (by kernel_rfl))
 f39 := Tryz.func202.trans (congrArg some (by kernel_rfl))
 t0 := Tryz.underlying0
 a0 := Tryz.isAgg0
 z0 := Tryz.sizeOf0
 v0 := Tryz.zeroValue0
 t3 := Tryz.underlying3
 a3 := Tryz.isAgg3
 z3 := Tryz.sizeOf3
 v3 := Tryz.zeroValue3
 t4 := Tryz.underlying4
 a4 := Tryz.isAgg4
 z4 := Tryz.sizeOf4
 v4 := Tryz.zeroValue4
 t22 := Tryz.underlying22
 a22 := Tryz.isAgg22
 z22 := Tryz.sizeOf22
 v22 := Tryz.zeroValue22
 i3 := by kernel_rfl }
def Tryz.delL_ren : Go.Shelf.Ren := ⟨fun | 10 => 138 | 6 => 175 | n => n, fun | 22 => 22 | 23 => 3 | 25 => 86 | 3 => 3 | 4 => 4 | 0 => 0 | n => n, fun | n => n⟩
theorem Tryz.delL : Go.Proofs.SlLaysH.n10 Tryz.prog Tryz.delL_ren := {
 mixed := by kernel_rfl
 f6 := ⟨Tryz.f175.name, by decide, Tryz.func175.trans (congrArg some (by kernel_rfl))⟩
 f10 := ⟨Tryz.f138.name, by decide, Tryz.func138.trans (congrArg some (by kernel_rfl))⟩
 t0 := Tryz.underlying0
 a0 := Tryz.isAgg0
 z0 := Tryz.sizeOf0
 v0 := Tryz.zeroValue0
 t3 := Tryz.underlying3
 a3 := Tryz.isAgg3
 z3 := Tryz.sizeOf3
 v3 := Tryz.zeroValue3
 t4 := Tryz.underlying4
 a4 := Tryz.isAgg4
 z4 := Tryz.sizeOf4
 v4 := Tryz.zeroValue4
 t22 := Tryz.underlying22
 a22 := Tryz.isAgg22
 z22 := Tryz.sizeOf22
 v22 := Tryz.zeroValue22
 a23 := Tryz.isAgg3
 z23 := Tryz.sizeOf3
 t25 := Tryz.underlying86
 a25 := Tryz.isAgg86
 z25 := Tryz.sizeOf86
 v25 := Tryz.zeroValue86 }
def Tryz.keysL_ren : Go.Shelf.Ren := ⟨fun | 7 => 128 | 10 => 171 | n => n, fun | 23 => 62 | 26 => 3 | 3 => 9 | 28 => 83 | 0 => 0 | 27 => 82 | 33 => 86 | 4 => 4 | n => n, fun | n => n⟩
theorem Tryz.keysL : Go.Proofs.SlLaysZI.n7 Tryz.prog Tryz.keysL_ren := {
 mixed := by kernel_rfl
 f7 := ⟨Tryz.f128.name, by decide, Tryz.func128.trans (congrArg some (by kernel_rfl))⟩
 f10 := ⟨Tryz.f171.name, by decide, Tryz.func171.trans (congrArg some (by kernel_rfl))⟩
 t0 := Tryz.underlying0
 a0 := Tryz.isAgg0
 z0 := Tryz.sizeOf0
 v0 := Tryz.zeroValue0
 t4 := Tryz.underlying4
 a4 := Tryz.isAgg4
 z4 := Tryz.sizeOf4
 v4 := Tryz.zeroValue4
 t23 := Tryz.underlying62
 a23 := Tryz.isAgg62
 z23 := Tryz.sizeOf62
 v23 := Tryz.zeroValue62
 t26 := Tryz.underlying3
 a26 := Tryz.isAgg3
 z26 := Tryz.sizeOf3
 v26 := Tryz.zeroValue3
 t27 := Tryz.underlying82
 a27 := Tryz.isAgg82
 z27 := Tryz.sizeOf82
 v27 := Tryz.zeroValue82
 t28 := Tryz.underlying83
 a28 := Tryz.isAgg83
 z28 := Tryz.sizeOf83
 v28 := Tryz.zeroValue83
 t33 := Tryz.underlying86
 a33 := Tryz.isAgg86
 z33 := Tryz.sizeOf86
 v33 := Tryz.zeroValue86 }
def Tryz.sortedL_ren : Go.Shelf.Ren := ⟨fun | 6 => 127 | 8 => 170 | 9 => 133 | 11 => 190 | 13 => 174 | 12 => 173 | 23 => 200 | 24 => 201 | 14 => 191 | 15 => 192 | 16 => 193 | 17 => 194 | 18 => 195 | 19 => 196 | 20 => 197 | 21 => 198 | 22 => 199 | 25 => 204 | 26 => 205 | 27 => 206 | 28 => 207 | 29 => 208 | 30 => 209 | 31 => 214 | n => n, fun | 26 => 3 | 28 => 83 | 24 => 22 | 0 => 0 | 3 => 3 | 37 => 157 | 48 => 112 | 50 => 206 | 4 => 4 | 40 => 235 | 39 => 234 | 45 => 238 | 5 => 5 | 9 => 9 | 51 => 245 | 55 => 249 | 57 => 262 | 58 => 263 | 33 => 86 | n => n, fun | n => n⟩
theorem Tryz.sortedL : Go.Proofs.SlLaysZI.n6 Tryz.prog Tryz.sortedL_ren := {
 mixed := by kernel_rfl
 f6 := ⟨Tryz.f127.name, by decide, Tryz.func127.trans (congrArg some (by kernel_rfl))⟩
 f8 := ⟨Tryz.f170.name, by decide, Tryz.func170.trans (congrArg some (by kernel_rfl))⟩
 f11 := ⟨Tryz.f190.name, by decide, Tryz.func190.trans (congrArg some (by kernel_rfl))⟩
 t0 := Tryz.underlying0
 a0 := Tryz.isAgg0
 z0 := Tryz.sizeOf0
 v0 := Tryz.zeroValue0
 t24 := Tryz.underlying22
 a24 := Tryz.isAgg22
 z24 := Tryz.sizeOf22
 v24 := Tryz.zeroValue22
 t26 := Tryz.underlying3
 a26 := Tryz.isAgg3
 z26 := Tryz.sizeOf3
 v26 := Tryz.zeroValue3
 t28 := Tryz.underlying83
 a28 := Tryz.isAgg83
 z28 := Tryz.sizeOf83
 v28 := Tryz.zeroValue83
 i26 := by kernel_rfl }
end Go.Proofs.YtiellebdliifdaaGreatDoor
