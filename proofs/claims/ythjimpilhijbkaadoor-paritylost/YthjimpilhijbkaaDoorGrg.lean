import Derived.Test.YthjimpilhijbkaaDoorGrf
namespace Go.Proofs.YthjimpilhijbkaaDoor
open Go.RowKit
set_option maxRecDepth 100000
theorem xor8n (a b : Nat) (ha : a < 256) (hb : b < 256) : bits .xor .u8 (a : Int) (b : Int) = ((a ^^^ b : Nat) : Int) := by
  have hx : a ^^^ b < 2 ^ 8 := Nat.xor_lt_two_pow (by omega) (by omega)
  have h1 : (BitVec.ofInt 8 (a : Int)).toNat = a := by
    rw [BitVec.ofInt_natCast, BitVec.toNat_ofNat]; exact Nat.mod_eq_of_lt (by omega)
  have h2 : (BitVec.ofInt 8 (b : Int)).toNat = b := by
    rw [BitVec.ofInt_natCast, BitVec.toNat_ofNat]; exact Nat.mod_eq_of_lt (by omega)
  show IntKind.u8.wrap ((BitVec.ofInt 8 (a : Int) ^^^ BitVec.ofInt 8 (b : Int)).toNat : Int) = _
  rw [BitVec.toNat_xor, h1, h2]
  show ((a ^^^ b : Nat) : Int) % 256 = _
  omega
theorem sm_snoc (f : Nat → G) (x : Nat) : ∀ l : List Nat, sm f (l ++ [x]) = sm f l + f x
  | [] => by simp only [List.nil_append, sm, gadd_zero, gzero_add]
  | y :: l => by
    simp only [List.cons_append, sm]
    rw [sm_snoc f x l, gadd_assoc]
/-- the byte q of a text, as an element -/
def gB (s : ByteArray) (q : Nat) : G := gN ((nums s).getD q 0).toNat
theorem gB_v (s : ByteArray) (q : Nat) : (((gB s q).v : Nat) : Int) = (nums s).getD q 0 := by
  obtain ⟨h1, h2⟩ := nums_bytes s q
  show ((((nums s).getD q 0).toNat % 256 : Nat) : Int) = _
  omega
/-- elements as bytes -/
def gL (n : Nat) (f : Nat → G) : List Int := (List.range n).map (fun q => ((f q).v : Int))
theorem gL_len (n : Nat) (f : Nat → G) : (gL n f).length = n := by simp [gL]
theorem gL_get {n : Nat} (f : Nat → G) {q : Nat} (h : q < n) : (gL n f).getD q 0 = ((f q).v : Int) := by simp [gL, h]
theorem gL_congr {n : Nat} {f g : Nat → G} (h : ∀ q, q < n → f q = g q) : gL n f = gL n g := by
  unfold gL
  refine List.map_congr_left (fun q hq => ?_)
  rw [h q (List.mem_range.1 hq)]
theorem gL_set {n : Nat} (f : Nat → G) (a : Nat) (x : G) : (gL n f).set a (x.v : Int) = gL n (fun q => if q = a then x else f q) := by
  apply List.ext_getElem
  · simp [gL]
  · intro b h1 h2
    simp only [gL, List.getElem_map, List.getElem_range, List.getElem_set]
    by_cases q : a = b
    · rw [if_pos q, if_pos q.symm]
    · rw [if_neg q, if_neg (fun e => q e.symm)]
theorem gL_zero (n : Nat) : gL n (fun _ => g0) = List.replicate n 0 := by
  refine List.eq_replicate_iff.2 ⟨gL_len n _, fun x hx => ?_⟩
  obtain ⟨j, _, rfl⟩ := List.mem_map.1 hx
  rfl
theorem gL_bytes (n : Nat) (f : Nat → G) : Bytes (gL n f) := by
  intro q
  by_cases h : q < n
  · rw [gL_get f h]
    have := (f q).h
    omega
  · rw [List.getD_eq_getElem?_getD, List.getElem?_eq_none (by rw [gL_len]; omega)]
    decide
/-- what the first i shards of data give to the byte q of the shard k -/
def shF (n k : Nat) (L : List ByteArray) (i q : Nat) : G := sm (fun j => wt n k j * gB (L.getD j ByteArray.empty) q) (List.range i)
theorem shF_succ (n k : Nat) (L : List ByteArray) (i q : Nat) : shF n k L (i + 1) q = shF n k L i q + wt n k i * gB (L.getD i ByteArray.empty) q := by
  unfold shF
  rw [List.range_succ, sm_snoc]
def mixF (F : Nat → Nat → G) (i a q : Nat) : G := if q < a then F (i + 1) q else F i q
theorem mix_set (F : Nat → Nat → G) (len i a : Nat) : (gL len (mixF F i a)).set a ((F (i + 1) a).v : Int) = gL len (mixF F i (a + 1)) := by
  rw [gL_set]
  refine gL_congr (fun q _ => ?_)
  unfold mixF
  by_cases h : q = a
  · rw [if_pos h, if_pos (by omega), h]
  · rw [if_neg h]
    by_cases h2 : q < a
    · rw [if_pos h2, if_pos (by omega)]
    · rw [if_neg h2, if_neg (by omega)]
/-- texts at a place, in blocks below B -/
def GTx (w : World) (B : Nat) (p : Option Addr) (L : List ByteArray) : Prop := ∀ j, j < L.length → ∃ g o, p = some ⟨g, o, none⟩ ∧ g < B ∧ w.cell? ⟨g, o + j, none⟩ = some (.string (L.getD j ByteArray.empty))
theorem GTx.below {w w' : World} {B : Nat} {p : Option Addr} {L : List ByteArray} (h : GTx w B p L) (hb : Below B w w') : GTx w' B p L := fun j hj => by
  obtain ⟨g, o, e, hg, hc⟩ := h j hj
  exact ⟨g, o, e, hg, (hb.cell (p := ⟨g, o + j, none⟩) hg).trans hc⟩
/-- the shard k -/
def shT (n k len : Nat) (L : List ByteArray) : ByteArray := strOfNums (gL len (shF n k L n))
end Go.Proofs.YthjimpilhijbkaaDoor
