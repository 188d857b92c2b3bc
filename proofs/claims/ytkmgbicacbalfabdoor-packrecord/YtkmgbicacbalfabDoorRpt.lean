import Derived.Test.YtkmgbicacbalfabDoorMkp
import Derived.Test.YtkmgbicacbalfabDoorShf
namespace Go.Proofs.YtkmgbicacbalfabDoor
open Go.RowKit
theorem rep_zero (c : Nat) : (⟨(Lib.repeatL (ByteArray.mk #[0]).data.toList c).toArray⟩ : ByteArray) = strOfNums (List.replicate c 0) := by
  have h : Lib.repeatL (ByteArray.mk #[0]).data.toList c = List.replicate c 0 := by
    have := Lib.repeatL_replicate 0 1 c
    rw [Nat.mul_one] at this
    exact this
  rw [h, strOfNums]
  simp
theorem rep_ok : RepOk := by
  intro c W hc
  have h := Tryd.strings_Repeat ⟨#[0]⟩ c W (by omega) (by show 1 * c ≤ _; omega)
  rw [rep_zero] at h
  exact h
end Go.Proofs.YtkmgbicacbalfabDoor
