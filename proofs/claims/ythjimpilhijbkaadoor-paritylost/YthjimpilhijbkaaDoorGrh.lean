import Derived.Test.YthjimpilhijbkaaDoorGrg
namespace Go.Proofs.YthjimpilhijbkaaDoor
open Go.RowKit
set_option maxRecDepth 100000
/-- how long a text is, in four bytes -/
def hd4 (z : Nat) : List Int := [(z : Int) / 16777216, (z : Int) / 65536, (z : Int) / 256 % 256, (z : Int) % 256]
theorem hd4_bytes (z : Nat) (hz : z ≤ 70000) : Bytes (hd4 z) := by
  intro j
  match j with
  | 0 => show 0 ≤ (z : Int) / 16777216 ∧ _; exact ⟨by omega, by show (z : Int) / 16777216 < 256; omega⟩
  | 1 => show 0 ≤ (z : Int) / 65536 ∧ _; exact ⟨by omega, by show (z : Int) / 65536 < 256; omega⟩
  | 2 => show 0 ≤ (z : Int) / 256 % 256 ∧ _; exact ⟨by omega, by show (z : Int) / 256 % 256 < 256; omega⟩
  | 3 => show 0 ≤ (z : Int) % 256 ∧ _; exact ⟨by omega, by show (z : Int) % 256 < 256; omega⟩
  | j + 4 => show 0 ≤ (0 : Int) ∧ (0 : Int) < 256; decide
/-- how many bytes there are for each shard of data -/
def stN (z d : Nat) : Nat := (4 + z + d - 1) / d
theorem stN_le (z d : Nat) (hd : 1 ≤ d) : 4 + z ≤ d * stN z d ∧ d * stN z d ≤ 4 + z + d - 1 := by
  unfold stN
  have h := Nat.div_add_mod (4 + z + d - 1) d
  have h2 := Nat.mod_lt (4 + z + d - 1) (show d > 0 by omega)
  omega
def stZ (z d : Nat) : Nat := d * stN z d - (4 + z)
/-- the stream of a text -/
def stB (s : ByteArray) (d : Nat) : ByteArray := strOfNums (hd4 s.size) ++ s ++ strOfNums (List.replicate (stZ s.size d) 0)
theorem stB_size (s : ByteArray) (d : Nat) (hd : 1 ≤ d) : (stB s d).size = d * stN s.size d := by
  have h := stN_le s.size d hd
  unfold stB stZ
  rw [ByteArray.size_append, ByteArray.size_append, strOfNums_size, strOfNums_size, List.length_replicate]
  show 4 + s.size + _ = _
  omega
theorem st_wrap (z d : Nat) (hz : z ≤ 70000) (hd1 : 1 ≤ d) (hd2 : d ≤ 16) : wrap64 (wrap64 ((d : Int) * (stN z d : Int)) - (4 + (z : Int))) = (stZ z d : Int) := by
  have h := stN_le z d hd1
  unfold stZ
  generalize stN z d = N at *
  rw [← Int.natCast_mul]
  generalize d * N = T at *
  have hw1 : wrap64 (T : Int) = T := wrap64_eq _ (by omega) (by omega)
  rw [hw1, wrap64_eq _ (by omega) (by omega)]
  omega
theorem st_quo (z d : Nat) (hd : 1 ≤ d) : (4 + (z : Int) + (d : Int) - 1) / (d : Int) = (stN z d : Int) := by
  unfold stN
  rw [Int.natCast_ediv]
  congr 1
  omega
theorem stZ_le (z d : Nat) (hd1 : 1 ≤ d) : stZ z d ≤ d := by
  have h := stN_le z d hd1
  unfold stZ
  generalize d * stN z d = T at *
  omega
end Go.Proofs.YthjimpilhijbkaaDoor
