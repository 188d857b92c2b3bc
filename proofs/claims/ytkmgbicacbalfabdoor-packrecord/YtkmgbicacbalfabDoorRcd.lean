import Derived.Test.YtkmgbicacbalfabDoorSln
import Derived.Test.YtkmgbicacbalfabDoorLtn
namespace Go.Proofs.YtkmgbicacbalfabDoor
open Go.RowKit
set_option maxRecDepth 100000 in
set_option maxHeartbeats 2000000 in
theorem first_none (p : Option Addr) (c : Nat) (w : World) : Calls Tryd.prog 12 #[.slice p 0 c] w fun e w' => e = .returned (.int .i64 0) ∧ w' = w := by
  go_enter Tryd.func12, Tryd.ntmps12
  go_wp2
  go_ret
  exact ⟨rfl, rfl⟩
set_option maxRecDepth 100000 in
set_option maxHeartbeats 2000000 in
theorem first_some (b o n c : Nat) (hn : 0 < n) (z : Int) (w : World) (hz : w.cell? ⟨b, o, none⟩ = some (.int .i64 z)) : Calls Tryd.prog 12 #[.slice (some ⟨b, o, none⟩) n c] w fun e w' => e = .returned (.int .i64 z) ∧ w' = w := by
  have hne : ((n : Int) == 0) = false := by simp; omega
  go_enter Tryd.func12, Tryd.ntmps12
  go_wp2
  go_ret
  exact ⟨rfl, rfl⟩
def rcdL (A B C : Int) : List Int := numB A 8 ++ (numB B 4 ++ numB C 8)
def rcd (A B C : Int) : ByteArray := strOfNums (rcdL A B C)
theorem rcdL_len (A B C : Int) : (rcdL A B C).length = 20 := by simp [rcdL, numB_len]
theorem rcd_size (A B C : Int) : (rcd A B C).size = 20 := by rw [rcd, strOfNums_size, rcdL_len]
theorem bytes_app {a b : List Int} (ha : Bytes a) (hb : Bytes b) : Bytes (a ++ b) := by
  intro j
  rw [List.getD_eq_getElem?_getD, List.getElem?_append]
  split
  · have := ha j; rwa [List.getD_eq_getElem?_getD] at this
  · have := hb (j - a.length); rwa [List.getD_eq_getElem?_getD] at this
theorem num_step (k : Nat) (h1 : 1 ≤ k) (h8 : k ≤ 8) (A : Int) (hf : fitsP A k) (hA : A ≤ 9223372036854775807) (L : List Int) (hL : Bytes L) (t : Int) :
    numE (k : Int) (strOfNums (numB A k ++ L)) = 0 ∧ numV (k : Int) (strOfNums (numB A k ++ L)) = A ∧ stepR ⟨strOfNums (numB A k ++ L), t, 0⟩ (numE (k : Int) (strOfNums (numB A k ++ L))) ((k : Int).toNat) = ⟨strOfNums L, t + (k : Int), 0⟩ := by
  have hb : Bytes (numB A k ++ L) := bytes_app (numB_bytes A k) hL
  have hn : nums (strOfNums (numB A k ++ L)) = numB A k ++ L := nums_strOfNums _ hb
  have hs : (strOfNums (numB A k ++ L)).size = k + L.length := by rw [strOfNums_size, List.length_append, numB_len]
  have ht : (nums (strOfNums (numB A k ++ L))).take k = numB A k := by rw [hn, List.take_left' (numB_len A k)]
  have hE : numE (k : Int) (strOfNums (numB A k ++ L)) = 0 := by
    rw [numE, if_neg (by omega), if_neg (by omega), Int.toNat_natCast, ht, be_numB A k hf, if_neg (by omega)]
  refine ⟨hE, ?_, ?_⟩
  · rw [numV, if_pos hE, Int.toNat_natCast, ht, be_numB A k hf]
  · unfold stepR
    rw [hE, Int.toNat_natCast]
    simp only [if_true, rRest, rTak]
    congr 1
    apply nums_inj
    rw [nums_tail, hn, nums_strOfNums L hL, List.drop_left' (numB_len A k)]
/-- Many texts, one behind the other. -/
def catT (T : Nat → ByteArray) : Nat → ByteArray
  | 0 => ⟨#[]⟩
  | n + 1 => catT T n ++ T n
theorem catT_size (T : Nat → ByteArray) (h : ∀ i, (T i).size = 20) : ∀ n, (catT T n).size = 20 * n
  | 0 => rfl
  | n + 1 => by rw [catT, ByteArray.size_append, catT_size T h n, h n]; omega
theorem catT_ext (T : Nat → ByteArray) (h : ∀ i, (T i).size = 20) : ∀ n i, i < n → (catT T n).extract (i * 20) ((i + 1) * 20) = T i
  | 0, i, hi => absurd hi (Nat.not_lt_zero _)
  | n + 1, i, hi => by
    have hs := catT_size T h n
    apply nums_inj
    rw [nums_extract, catT, nums_app]
    have hl : (nums (catT T n)).length = 20 * n := by rw [nums_len, hs]
    by_cases hin : i < n
    · have := catT_ext T h n i hin
      rw [← this, nums_extract, List.take_append_of_le_length (by rw [hl]; omega)]
    · have : i = n := by omega
      subst this
      have hti : (nums (T i)).length = 20 := by rw [nums_len, h i]
      rw [List.take_of_length_le (by rw [List.length_append, hl, hti]; omega), List.drop_left' (by rw [hl]; omega)]
end Go.Proofs.YtkmgbicacbalfabDoor
