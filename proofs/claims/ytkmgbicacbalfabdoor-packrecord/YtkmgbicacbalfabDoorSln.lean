import Derived.Test.YtkmgbicacbalfabDoorSlt
import Derived.Test.YtkmgbicacbalfabDoorExt
namespace Go.Proofs.YtkmgbicacbalfabDoor
open Go.RowKit
theorem slots_nat (body : ByteArray) (S : Nat) (hS : 0 < S) : slotsP body.size (S : Int) = body.size / S := by rw [slotsP, if_neg (by omega), Int.toNat_natCast]
theorem slot_nat (body : ByteArray) (S K : Nat) (hS : 0 < S) (hb : body.size ≤ 9223372036854775807) (hK : K < body.size / S) (w : World) :
    Calls Tryd.prog 31 #[.string body, .int .i64 (S : Int), .int .i64 (K : Int)] w fun e w' => e = .returned (.tuple #[.string (body.extract (K * S) ((K + 1) * S)), .int .i64 0]) ∧ Below w.heap.size w w' := by
  have h1 := slots_in body.size S K hK
  have h2 : S ≤ (K + 1) * S := Nat.le_mul_of_pos_left S (by omega)
  have h3 := Nat.div_le_self body.size S
  have hE : errS body.size (S : Int) (K : Int) = 0 := by rw [errS, if_neg (by omega), if_neg (by rw [slots_nat body S hS]; omega)]
  have h := slot_any body (S : Int) (K : Int) hb ⟨by omega, by omega⟩ ⟨by omega, by omega⟩ w
  rw [slotB, if_pos hE, hE, Int.toNat_natCast, Int.toNat_natCast] at h
  exact h
theorem setSlot_nat (body : ByteArray) (S K : Nat) (s : ByteArray) (hS : 0 < S) (hb : body.size ≤ 140737488351233) (hK : K < body.size / S) (hs : s.size = S) (w : World) :
    Calls Tryd.prog 29 #[.string body, .int .i64 (S : Int), .int .i64 (K : Int), .string s] w fun e w' => e = .returned (.tuple #[.string (body.extract 0 (K * S) ++ s ++ body.extract (K * S + S) body.size), .int .i64 0]) ∧ Below w.heap.size w w' := by
  have h1 := slots_in body.size S K hK
  have h2 : S ≤ (K + 1) * S := Nat.le_mul_of_pos_left S (by omega)
  have h3 := Nat.div_le_self body.size S
  have hE : errT body.size s.size (S : Int) (K : Int) = 0 := by rw [errT, if_neg (by omega), if_neg (by rw [slots_nat body S hS]; omega)]
  have h := setSlot_any body (S : Int) (K : Int) s (by omega) ⟨by omega, by omega⟩ ⟨by omega, by omega⟩ (by omega) w
  rw [setB, if_pos hE, hE, Int.toNat_natCast, Int.toNat_natCast, Nat.succ_mul] at h
  exact h
end Go.Proofs.YtkmgbicacbalfabDoor
