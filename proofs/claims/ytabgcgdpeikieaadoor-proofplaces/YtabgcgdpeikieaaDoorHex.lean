import Derived.Test.YtabgcgdpeikieaaDoorHxg
namespace Go.Proofs.YtabgcgdpeikieaaDoor
open Go.RowKit
def hexd (x : Int) : Int := if x < 10 then 48 + x else 87 + x
def hexP (l : List Int) : List Int := l.flatMap (fun x => [hexd (x / 16), hexd (x % 16)])
theorem hexP_len (l : List Int) : (hexP l).length = 2 * l.length := by
  induction l with
  | nil => rfl
  | cons x l ih => simp [hexP] at *; omega
theorem hexP_snoc (l : List Int) (x : Int) : hexP (l ++ [x]) = hexP l ++ [hexd (x / 16), hexd (x % 16)] := by simp [hexP]
theorem hexP_bytes (l : List Int) (hl : Bytes l) : Bytes (hexP l) := by
  induction l with
  | nil => intro j; simp [hexP]
  | cons x l ih =>
    have hx := hl 0
    simp at hx
    have h1 : Bytes [hexd (x / 16), hexd (x % 16)] := by
      intro j
      match j with
      | 0 => simp [hexd]; split <;> omega
      | 1 => simp [hexd]; split <;> omega
      | j + 2 => simp
    have h2 : Bytes l := by
      intro j
      simpa using hl (j + 1)
    have : hexP (x :: l) = [hexd (x / 16), hexd (x % 16)] ++ hexP l := by simp [hexP]
    rw [this]
    exact bytes_append h1 (ih h2)
theorem index_sign (x : Nat) (hx : x < 16) (w : World) : (Instr.index 9 (.string ⟨#[48, 49, 50, 51, 52, 53, 54, 55, 56, 57, 97, 98, 99, 100, 101, 102]⟩) (.int .u8 (x : Int))).run Tryd.prog w = .ok (.int .u8 (hexd x)) w := by
  rcases (show x = 0 ∨ x = 1 ∨ x = 2 ∨ x = 3 ∨ x = 4 ∨ x = 5 ∨ x = 6 ∨ x = 7 ∨ x = 8 ∨ x = 9 ∨ x = 10 ∨ x = 11 ∨ x = 12 ∨ x = 13 ∨ x = 14 ∨ x = 15 by omega) with rfl | rfl | rfl | rfl | rfl | rfl | rfl | rfl | rfl | rfl | rfl | rfl | rfl | rfl | rfl | rfl <;> kernel_rfl
theorem and15 (x : Int) (h0 : 0 ≤ x) (h1 : x < 256) : bits .and .u8 x 15 = x % 16 := by
  obtain ⟨X, rfl⟩ := Int.eq_ofNat_of_zero_le h0
  have := u8_and_nat X 15 (by omega) (by omega)
  rw [show ((15 : Nat) : Int) = 15 by rfl] at this
  rw [this, show (15 : Nat) = 2 ^ 4 - 1 by rfl, Nat.and_two_pow_sub_one_eq_mod]
  omega
theorem hex_put {w : World} {A : List Int} {c k : Nat} {wr : World} (h : KeyInv w (A ++ List.replicate (c - 2 * k) 0) wr) (hA : A.length = 2 * k) (hr : 2 * k + 2 ≤ c) (a b : Int) :
    KeyInv w (A ++ [a, b] ++ List.replicate (c - 2 * (k + 1)) 0) ((((wr.setCell ⟨w.heap.size, 2 * k, none⟩ (.int .u8 a)).setCell ⟨w.heap.size, 2 * k + 1, none⟩ (.int .u8 b)).alloc (Obj.cells #[.int .u8 a, .int .u8 b] 5)).drew) := by
  have hl : (A ++ List.replicate (c - 2 * k) (0 : Int)).length = c := by simp [hA]; omega
  have h1 := h.put (2 * k) (by omega) a rfl
  have h2 := h1.put (2 * k + 1) (by simp [hA]; omega) b rfl
  have e : ((A ++ List.replicate (c - 2 * k) (0 : Int)).set (2 * k) a).set (2 * k + 1) b = A ++ [a, b] ++ List.replicate (c - 2 * (k + 1)) 0 := by
    obtain ⟨m, hm⟩ : ∃ m, c - 2 * k = m + 2 := ⟨c - 2 * k - 2, by omega⟩
    rw [hm, show c - 2 * (k + 1) = m by omega, List.set_append, if_neg (by omega), List.set_append, if_neg (by omega), hA, Nat.sub_self, Nat.add_sub_cancel_left, List.replicate_succ, List.replicate_succ]
    simp
  rw [e] at h2
  exact ⟨(h2.1.alloc h2.2.2 _).drew, (h2.2.1.alloc (Nat.le_of_lt h2.2.2) _).drew, by simp; have := h.2.2; omega⟩
end Go.Proofs.YtabgcgdpeikieaaDoor
