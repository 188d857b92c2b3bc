import Derived.Test.YtabgcgdpeikieaaDoorPlc
namespace Go.Proofs.YtabgcgdpeikieaaDoor
open Go.RowKit Go.Conc
set_option maxRecDepth 100000
theorem u8_xor_nat (a b : Nat) (ha : a < 256) (hb : b < 256) : bits .xor .u8 (a : Int) (b : Int) = ((a ^^^ b : Nat) : Int) := by
  have hx : a ^^^ b < 2 ^ 8 := Nat.xor_lt_two_pow (by omega) (by omega)
  have h1 : (BitVec.ofInt 8 (a : Int)).toNat = a := by
    rw [BitVec.ofInt_natCast, BitVec.toNat_ofNat]; exact Nat.mod_eq_of_lt (by omega)
  have h2 : (BitVec.ofInt 8 (b : Int)).toNat = b := by
    rw [BitVec.ofInt_natCast, BitVec.toNat_ofNat]; exact Nat.mod_eq_of_lt (by omega)
  show IntKind.u8.wrap ((BitVec.ofInt 8 (a : Int) ^^^ BitVec.ofInt 8 (b : Int)).toNat : Int) = _
  rw [BitVec.toNat_xor, h1, h2, IntKind.wrap_u8]
  omega
theorem xor_ne (x : Int) (h0 : 0 ≤ x) (h1 : x < 256) (q : Nat) (hq : q < 255) : bits .xor .u8 x (1 + (q : Int)) ≠ x ∧ 0 ≤ bits .xor .u8 x (1 + (q : Int)) ∧ bits .xor .u8 x (1 + (q : Int)) < 256 := by
  obtain ⟨y, rfl⟩ := Int.eq_ofNat_of_zero_le h0
  have e : (1 + (q : Int)) = ((1 + q : Nat) : Int) := by omega
  rw [e, u8_xor_nat y (1 + q) (by omega) (by omega)]
  have hlt : y ^^^ (1 + q) < 2 ^ 8 := Nat.xor_lt_two_pow (by omega) (by omega)
  refine ⟨fun h => ?_, by omega, by omega⟩
  have h2 : y ^^^ (1 + q) = y := by omega
  have h3 : y ^^^ (y ^^^ (1 + q)) = y ^^^ y := by rw [h2]
  rw [← Nat.xor_assoc, Nat.xor_self, Nat.zero_xor] at h3
  omega
theorem bytes_set {l : List Int} (h : Bytes l) (n : Nat) (x : Int) (h0 : 0 ≤ x) (h1 : x < 256) : Bytes (l.set n x) := fun j => by
  have hj := h j
  rw [List.getD_eq_getElem?_getD] at hj ⊢
  rw [List.getElem?_set]
  split
  · split
    · exact ⟨h0, h1⟩
    · exact ⟨Int.le_refl _, by decide⟩
  · exact hj
theorem bytes_smL {s : ByteArray} (l : List Int) : Bytes (smL s l) := fun j => by
  unfold smL
  rw [List.getD_eq_getElem?_getD, List.getElem?_map]
  cases l[j]? with
  | none => exact ⟨Int.le_refl 0, show (0 : Int) < 256 by decide⟩
  | some p => exact nums_bytes s p.toNat
theorem strOfNums_inj {a b : List Int} (ha : Bytes a) (hb : Bytes b) (h : strOfNums a = strOfNums b) : a = b := by
  rw [← nums_strOfNums a ha, ← nums_strOfNums b hb, h]
/-- Another byte at one place: another sample exactly where that place is asked for. -/
theorem tells_iff (s : ByteArray) (n : Nat) (hn : n < s.size) (y : Int) (h0 : 0 ≤ y) (h1 : y < 256) (hy : y ≠ (nums s).getD n 0) (pl : List Nat) :
    (strOfNums (smL s (pl.map (fun p : Nat => (p : Int)))) ≠ strOfNums (smL (strOfNums ((nums s).set n y)) (pl.map (fun p : Nat => (p : Int))))) ↔ n ∈ pl := by
  have hB := bytes_set (nums_bytes s) n y h0 h1
  have hN : n < (nums s).length := by rw [nums_len]; exact hn
  have hat : ∀ p : Nat, (nums (strOfNums ((nums s).set n y))).getD p 0 = if p = n then y else (nums s).getD p 0 := fun p => by
    rw [nums_strOfNums _ hB, List.getD_eq_getElem?_getD, List.getElem?_set]
    by_cases e : n = p
    · subst e; rw [if_pos rfl, if_pos rfl, if_pos hN]; rfl
    · rw [if_neg e, if_neg (fun q => e q.symm), List.getD_eq_getElem?_getD]
  constructor
  · intro h
    refine Classical.byContradiction fun hno => h ?_
    congr 1
    unfold smL
    rw [List.map_map, List.map_map]
    refine List.map_congr_left (fun p hp => ?_)
    simp only [Function.comp, Int.toNat_natCast]
    rw [hat, if_neg (fun e => hno (by rw [← e]; exact hp))]
  · intro hm h
    have h2 := strOfNums_inj (bytes_smL _) (bytes_smL _) h
    unfold smL at h2
    rw [List.map_map, List.map_map] at h2
    have h3 := List.map_inj_left.1 h2 n hm
    simp only [Function.comp, Int.toNat_natCast] at h3
    rw [hat, if_pos rfl] at h3
    exact hy h3.symm
end Go.Proofs.YtabgcgdpeikieaaDoor
