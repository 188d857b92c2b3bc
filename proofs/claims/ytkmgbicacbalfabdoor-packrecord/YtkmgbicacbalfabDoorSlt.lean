import Derived.Test.YtkmgbicacbalfabDoorBas
import Derived.BigQuiet
namespace Go.Proofs.YtkmgbicacbalfabDoor
open Go.RowKit
/-- How many slots; a slot; what is wrong; a body with another slot. -/
def slotsP (n : Nat) (size : Int) : Nat := if size < 1 then 0 else n / size.toNat
def errS (n : Nat) (size k : Int) : Int := if size < 1 then 1 else if k < 0 ∨ (slotsP n size : Int) ≤ k then 36 else 0
def slotB (body : ByteArray) (size k : Int) : ByteArray := if errS body.size size k = 0 then body.extract (k.toNat * size.toNat) ((k.toNat + 1) * size.toNat) else ⟨#[]⟩
def errT (n m : Nat) (size k : Int) : Int := if size < 1 ∨ ¬ (m : Int) = size then 1 else if k < 0 ∨ (slotsP n size : Int) ≤ k then 36 else 0
def setB (body s : ByteArray) (size k : Int) : ByteArray := if errT body.size s.size size k = 0 then body.extract 0 (k.toNat * size.toNat) ++ s ++ body.extract ((k.toNat + 1) * size.toNat) body.size else ⟨#[]⟩
theorem slots_in (n S K : Nat) (h : K < n / S) : (K + 1) * S ≤ n := by
  have h1 : n / S * S ≤ n := Nat.div_mul_le_self n S
  have h2 : (K + 1) * S ≤ n / S * S := Nat.mul_le_mul_right S h
  omega
set_option maxHeartbeats 400000 in
theorem slots_any (body : ByteArray) (size : Int) (hb : body.size ≤ 9223372036854775807) (hs : I64 size) (w : World) :
    Calls Tryd.prog 30 #[.string body, .int .i64 size] w fun e w' => e = .returned (.int .i64 (slotsP body.size size : Int)) ∧ w' = w := by
  obtain ⟨hs1, hs2⟩ := hs
  by_cases h : size < 1
  · have HP := hide (show slotsP body.size size = 0 by rw [slotsP, if_pos h])
    go_enter Tryd.func30, Tryd.ntmps30
    go_wp2
    go_ret
    exact ⟨by rw [unhide HP]; rfl, rfl⟩
  · obtain ⟨S, rfl⟩ := Int.eq_ofNat_of_zero_le (show 0 ≤ size by omega)
    have HP := hide (show slotsP body.size (S : Int) = body.size / S by rw [slotsP, if_neg h, Int.toNat_natCast])
    have hq : ((body.size : Int)).tdiv (S : Int) = ((body.size / S : Nat) : Int) := rfl
    have hle : body.size / S ≤ body.size := Nat.div_le_self _ _
    have hz : ((S : Int) == 0) = false := by simp; omega
    generalize body.size / S = M at *
    go_enter Tryd.func30, Tryd.ntmps30
    go_wp2
    go_ret
    exact ⟨by rw [unhide HP]; rfl, rfl⟩
set_option maxRecDepth 100000 in
set_option maxHeartbeats 1000000 in
theorem slot_any (body : ByteArray) (size k : Int) (hb : body.size ≤ 9223372036854775807) (hs : I64 size) (hk : I64 k) (w : World) :
    Calls Tryd.prog 31 #[.string body, .int .i64 size, .int .i64 k] w fun e w' => e = .returned (.tuple #[.string (slotB body size k), .int .i64 (errS body.size size k)]) ∧ Below w.heap.size w w' := by
  have HS := hide (fun W => slots_any body size hb hs W)
  obtain ⟨hs1, hs2⟩ := hs
  obtain ⟨hk1, hk2⟩ := hk
  by_cases h : size < 1
  · have HE := hide (show errS body.size size k = 1 by rw [errS, if_pos h])
    have HB := hide (show slotB body size k = ⟨#[]⟩ by rw [slotB, if_neg (by rw [unhide HE]; decide)])
    generalize errS body.size size k = E at *
    generalize slotB body size k = B at *
    go_enter Tryd.func31, Tryd.ntmps31
    go_wp2
    go_ret2
    exact ⟨by rw [unhide HB, unhide HE]; rfl, Below.refl _ _⟩
  · by_cases h2 : k < 0
    · have HE := hide (show errS body.size size k = 36 by rw [errS, if_neg h, if_pos (.inl h2)])
      have HB := hide (show slotB body size k = ⟨#[]⟩ by rw [slotB, if_neg (by rw [unhide HE]; decide)])
      generalize errS body.size size k = E at *
      generalize slotB body size k = B at *
      go_enter Tryd.func31, Tryd.ntmps31
      go_wp2
      go_ret2
      exact ⟨by rw [unhide HB, unhide HE]; rfl, Below.refl _ _⟩
    · obtain ⟨S, rfl⟩ := Int.eq_ofNat_of_zero_le (show 0 ≤ size by omega)
      obtain ⟨K, rfl⟩ := Int.eq_ofNat_of_zero_le (show 0 ≤ k by omega)
      have hM : slotsP body.size (S : Int) = body.size / S := by rw [slotsP, if_neg h, Int.toNat_natCast]
      by_cases h3 : slotsP body.size (S : Int) ≤ K
      · have HE := hide (show errS body.size (S : Int) (K : Int) = 36 by rw [errS, if_neg h, if_pos (.inr (by omega))])
        have HB := hide (show slotB body (S : Int) (K : Int) = ⟨#[]⟩ by rw [slotB, if_neg (by rw [unhide HE]; decide)])
        generalize errS body.size (S : Int) (K : Int) = E at *
        generalize slotB body (S : Int) (K : Int) = B at *
        clear hM
        generalize slotsP body.size (S : Int) = M at *
        go_enter Tryd.func31, Tryd.ntmps31
        go_wp2_with (go_at_call 30; refine (unhide HS _).mono ?_; rintro e w' ⟨rfl, rfl⟩)
        go_ret2
        exact ⟨by rw [unhide HB, unhide HE]; rfl, Below.refl _ _⟩
      · have HE := hide (show errS body.size (S : Int) (K : Int) = 0 by rw [errS, if_neg h, if_neg (by omega)])
        have HB := hide (show slotB body (S : Int) (K : Int) = body.extract (K * S) ((K + 1) * S) by rw [slotB, if_pos (unhide HE), Int.toNat_natCast, Int.toNat_natCast])
        have hin := slots_in body.size S K (by omega)
        have hKb : K < 9223372036854775807 := by have := Nat.div_le_self body.size S; omega
        have hmo : K * S ≤ (K + 1) * S := Nat.mul_le_mul_right S (by omega)
        have hm1 : (K : Int) * (S : Int) = ((K * S : Nat) : Int) := by simp
        have hm2 : ((K : Int) + 1) * (S : Int) = (((K + 1) * S : Nat) : Int) := by simp
        generalize errS body.size (S : Int) (K : Int) = E at *
        generalize slotB body (S : Int) (K : Int) = B at *
        clear hM
        generalize slotsP body.size (S : Int) = M at *
        generalize (K + 1) * S = J at *
        generalize K * S = I at *
        go_enter Tryd.func31, Tryd.ntmps31
        go_wp2_with (go_at_call 30; refine (unhide HS _).mono ?_; rintro e w' ⟨rfl, rfl⟩)
        go_ret2
        exact ⟨by rw [unhide HB, unhide HE]; rfl, Below.refl _ _⟩
set_option maxRecDepth 100000 in
set_option maxHeartbeats 1000000 in
theorem setSlot_any (body : ByteArray) (size k : Int) (s : ByteArray) (hb : body.size ≤ 4611686018427387904) (hs : I64 size) (hk : I64 k) (hss : s.size ≤ 1152921504606846976) (w : World) :
    Calls Tryd.prog 29 #[.string body, .int .i64 size, .int .i64 k, .string s] w fun e w' => e = .returned (.tuple #[.string (setB body s size k), .int .i64 (errT body.size s.size size k)]) ∧ Below w.heap.size w w' := by
  have HS := hide (fun W => slots_any body size (by omega) hs W)
  obtain ⟨hs1, hs2⟩ := hs
  obtain ⟨hk1, hk2⟩ := hk
  by_cases h : size < 1
  · have HE := hide (show errT body.size s.size size k = 1 by rw [errT, if_pos (.inl h)])
    have HB := hide (show setB body s size k = ⟨#[]⟩ by rw [setB, if_neg (by rw [unhide HE]; decide)])
    generalize errT body.size s.size size k = E at *
    generalize setB body s size k = B at *
    go_enter Tryd.func29, Tryd.ntmps29
    go_wp2
    go_ret2
    exact ⟨by rw [unhide HB, unhide HE]; rfl, Below.refl _ _⟩
  · obtain ⟨S, rfl⟩ := Int.eq_ofNat_of_zero_le (show 0 ≤ size by omega)
    by_cases h1 : s.size = S
    · by_cases h2 : k < 0
      · have HE := hide (show errT body.size s.size (S : Int) k = 36 by rw [errT, if_neg (by omega), if_pos (.inl h2)])
        have HB := hide (show setB body s (S : Int) k = ⟨#[]⟩ by rw [setB, if_neg (by rw [unhide HE]; decide)])
        have hne : ((s.size : Int) != (S : Int)) = false := by simp; omega
        generalize errT body.size s.size (S : Int) k = E at *
        generalize setB body s (S : Int) k = B at *
        go_enter Tryd.func29, Tryd.ntmps29
        go_wp2
        go_ret2
        exact ⟨by rw [unhide HB, unhide HE]; rfl, Below.refl _ _⟩
      · obtain ⟨K, rfl⟩ := Int.eq_ofNat_of_zero_le (show 0 ≤ k by omega)
        have hM : slotsP body.size (S : Int) = body.size / S := by rw [slotsP, if_neg h, Int.toNat_natCast]
        have hne : ((s.size : Int) != (S : Int)) = false := by simp; omega
        by_cases h3 : slotsP body.size (S : Int) ≤ K
        · have HE := hide (show errT body.size s.size (S : Int) (K : Int) = 36 by rw [errT, if_neg (by omega), if_pos (.inr (by omega))])
          have HB := hide (show setB body s (S : Int) (K : Int) = ⟨#[]⟩ by rw [setB, if_neg (by rw [unhide HE]; decide)])
          generalize errT body.size s.size (S : Int) (K : Int) = E at *
          generalize setB body s (S : Int) (K : Int) = B at *
          clear hM
          generalize slotsP body.size (S : Int) = M at *
          go_enter Tryd.func29, Tryd.ntmps29
          go_wp2_with (go_at_call 30; refine (unhide HS _).mono ?_; rintro e w' ⟨rfl, rfl⟩)
          go_ret2
          exact ⟨by rw [unhide HB, unhide HE]; rfl, Below.refl _ _⟩
        · have HE := hide (show errT body.size s.size (S : Int) (K : Int) = 0 by rw [errT, if_neg (by omega), if_neg (by omega)])
          have HB := hide (show setB body s (S : Int) (K : Int) = body.extract 0 (K * S) ++ s ++ body.extract ((K + 1) * S) body.size by rw [setB, if_pos (unhide HE), Int.toNat_natCast, Int.toNat_natCast])
          have hin := slots_in body.size S K (by omega)
          have hKb : K < 9223372036854775807 := by have := Nat.div_le_self body.size S; omega
          have hmo : K * S ≤ (K + 1) * S := Nat.mul_le_mul_right S (by omega)
          have hm1 : (K : Int) * (S : Int) = ((K * S : Nat) : Int) := by simp
          have hm2 : ((K : Int) + 1) * (S : Int) = (((K + 1) * S : Nat) : Int) := by simp
          generalize errT body.size s.size (S : Int) (K : Int) = E at *
          generalize setB body s (S : Int) (K : Int) = B at *
          clear hM
          generalize slotsP body.size (S : Int) = M at *
          generalize (K + 1) * S = J at *
          generalize K * S = I at *
          have z1 : (body.extract 0 I).size = I := by simp; omega
          have z2 : (body.extract J body.size).size = body.size - J := by simp
          have y1 : ¬ 9223372036854775807 < (body.extract 0 I).size + s.size := by omega
          have z3 : (body.extract 0 I ++ s).size = I + s.size := by rw [ByteArray.size_append, z1]
          have y2 : ¬ 9223372036854775807 < (body.extract 0 I ++ s).size + (body.extract J body.size).size := by omega
          clear z1 z2 z3
          have w1 : IntKind.i64.wrap (I : Int) = (I : Int) := wrapI_eq _ (by omega) (by omega)
          have w2 : IntKind.i64.wrap (J : Int) = (J : Int) := wrapI_eq _ (by omega) (by omega)
          have w3 : IntKind.i64.wrap ((K : Int) + 1) = (K : Int) + 1 := wrapI_eq _ (by omega) (by omega)
          go_enter Tryd.func29, Tryd.ntmps29
          go_wp2_with (go_at_call 30; refine (unhide HS _).mono ?_; rintro e w' ⟨rfl, rfl⟩)
          go_quiet (fail)
          go_wp2
          go_ret2
          exact ⟨by rw [unhide HB, unhide HE]; rfl, below_drewN (Below.refl _ _) _⟩
    · have HE := hide (show errT body.size s.size (S : Int) k = 1 by rw [errT, if_pos (.inr (by omega))])
      have HB := hide (show setB body s (S : Int) k = ⟨#[]⟩ by rw [setB, if_neg (by rw [unhide HE]; decide)])
      have hne : ((s.size : Int) != (S : Int)) = true := by simp; omega
      generalize errT body.size s.size (S : Int) k = E at *
      generalize setB body s (S : Int) k = B at *
      go_enter Tryd.func29, Tryd.ntmps29
      go_wp2
      go_ret2
      exact ⟨by rw [unhide HB, unhide HE]; rfl, Below.refl _ _⟩
end Go.Proofs.YtkmgbicacbalfabDoor
