import Derived.Test.YtpjoibolhkgkhaaGreatDoorNmb
namespace Go.Proofs.YtpjoibolhkgkhaaGreatDoor
open Go.RowKit
/-- Bytes as a number, the highest first. -/
def beN (l : List Int) : Int := l.foldl (fun n b => 256 * n + b) 0
theorem beN_snoc (l : List Int) (x : Int) : beN (l ++ [x]) = 256 * beN l + x := by simp [beN]
theorem beN_nil : beN [] = 0 := rfl
/-- The digits at the front of a text: what is wrong (0: nothing), the number, how many bytes it has. -/
def dgA : Nat → Nat → Nat → List Int → Int × Nat × Nat
  | 0, _, _, _ => (30, 0, 0)
  | _ + 1, _, _, [] => (31, 0, 0)
  | f + 1, i, n, d :: l => if d = 0 ∧ 0 < i then (34, 0, 0) else if d < 128 then (0, n + d.toNat * 128 ^ i, i + 1) else dgA f (i + 1) (n + (d.toNat - 128) * 128 ^ i) l
def varP (l : List Int) : Int × Nat × Nat := dgA 9 0 0 l
theorem or_add' (A c k B : Nat) (hc : c = 2 ^ k) (h : B < c) : B ||| A * c = A * c + B := by
  subst hc
  have := Nat.shiftLeft_add_eq_or_of_lt h A
  rw [Nat.shiftLeft_eq] at this
  rw [Nat.or_comm]
  exact this.symm
theorem i64_or_nat (a b : Nat) (ha : a < 9223372036854775808) (hb : b < 9223372036854775808) : bits .or .i64 (a : Int) (b : Int) = ((a ||| b : Nat) : Int) := by
  have hx : a ||| b < 2 ^ 63 := Nat.or_lt_two_pow (by omega) (by omega)
  have h1 : (BitVec.ofInt 64 (a : Int)).toNat = a := by
    rw [BitVec.ofInt_natCast, BitVec.toNat_ofNat]; exact Nat.mod_eq_of_lt (by omega)
  have h2 : (BitVec.ofInt 64 (b : Int)).toNat = b := by
    rw [BitVec.ofInt_natCast, BitVec.toNat_ofNat]; exact Nat.mod_eq_of_lt (by omega)
  show IntKind.i64.wrap ((BitVec.ofInt 64 (a : Int) ||| BitVec.ofInt 64 (b : Int)).toNat : Int) = _
  rw [BitVec.toNat_or, h1, h2, IntKind.wrap_i64]
  omega
theorem nums_extract (s : ByteArray) (a b : Nat) : nums (s.extract a b) = ((nums s).take b).drop a := by
  simp [nums, ByteArray.data_extract, List.map_take, List.map_drop, List.drop_take]
theorem nums_tail (s : ByteArray) (a : Nat) : nums (s.extract a s.size) = (nums s).drop a := by
  rw [nums_extract, List.take_of_length_le (by rw [nums_len]; exact Nat.le_refl _)]
theorem extract_tail (s : ByteArray) (a b : Nat) : (s.extract a s.size).extract b (s.extract a s.size).size = s.extract (a + b) s.size := by
  have h : nums ((s.extract a s.size).extract b (s.extract a s.size).size) = nums (s.extract (a + b) s.size) := by
    rw [nums_tail, nums_tail, nums_tail, List.drop_drop]
  have h2 := congrArg strOfNums h
  rwa [strOfNums_nums, strOfNums_nums] at h2
theorem extract_all (s : ByteArray) : s.extract 0 s.size = s := by
  have h : nums (s.extract 0 s.size) = nums s := by rw [nums_tail, List.drop_zero]
  have h2 := congrArg strOfNums h
  rwa [strOfNums_nums, strOfNums_nums] at h2
theorem nums_inj {s t : ByteArray} (h : nums s = nums t) : s = t := by
  have h2 := congrArg strOfNums h
  rwa [strOfNums_nums, strOfNums_nums] at h2
end Go.Proofs.YtpjoibolhkgkhaaGreatDoor
