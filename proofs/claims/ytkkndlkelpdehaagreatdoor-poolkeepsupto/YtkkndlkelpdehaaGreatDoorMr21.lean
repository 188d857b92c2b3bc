import Derived.Test.YtkkndlkelpdehaaGreatDoorMr06
import Derived.Test.YtkkndlkelpdehaaGreatDoorMr09
import Derived.Test.YtkkndlkelpdehaaGreatDoorMr04
namespace Go.Proofs.YtkkndlkelpdehaaGreatDoor
open Go.RowKit
theorem zero_nums : zero256 = strOfNums (List.replicate 256 0) := by rw [← rep_zero4, rep_zero]
def shapP (l : List Int) (n : Nat) : List Int := (List.range n).map (fun i => if l.length = 0 then 0 else (l.getD (i % l.length) 0 + ((i / l.length : Nat) : Int)) % 256)
theorem shapP_len (l : List Int) (n : Nat) : (shapP l n).length = n := by simp [shapP]
theorem shapP_getD (l : List Int) (n i : Nat) (hi : i < n) (hl : ¬ l.length = 0) : (shapP l n).getD i 0 = (l.getD (i % l.length) 0 + ((i / l.length : Nat) : Int)) % 256 := by simp [shapP, hi, hl]
theorem shapP_bytes (l : List Int) (n : Nat) : Bytes (shapP l n) := by
  intro j
  by_cases h : j < n
  · by_cases hl : l.length = 0
    · have : (shapP l n).getD j 0 = 0 := by simp [shapP, h, hl]
      rw [this]
      omega
    · rw [shapP_getD l n j h hl]
      omega
  · have : (shapP l n).getD j 0 = 0 := by simp [shapP, h]
    rw [this]
    omega
theorem shapP_nil (l : List Int) (n : Nat) (hl : l.length = 0) : shapP l n = List.replicate n 0 := by
  simp [shapP, hl, List.map_const']
def shapB (s : ByteArray) : ByteArray := strOfNums (shapP (nums s) 256)
theorem shapB_size (s : ByteArray) : (shapB s).size = 256 := by rw [shapB, strOfNums_size, shapP_len]
end Go.Proofs.YtkkndlkelpdehaaGreatDoor
