import Derived.Test.YtilhilglokblpaaDoorBas
import Derived.Test.YtilhilglokblpaaDoorPure
import Derived.Laws.BitsAll
namespace Go.Proofs.YtilhilglokblpaaDoor
open Go.RowKit
def part (p : List Int) (t : Nat) : Nat → Int
  | 0 => 0
  | k + 1 => part p t k * 256 + p.getD (4 * t + k) 0
theorem part_four (p : List Int) (t : Nat) : part p t 4 = word p t := by simp [part, word]
theorem part_bd (p : List Int) (hp : Bytes p) (t : Nat) : ∀ k : Nat, k ≤ 3 → 0 ≤ part p t k ∧ part p t k < 16777216 := by
  intro k hk
  have h0 := hp (4 * t); have h1 := hp (4 * t + 1); have h2 := hp (4 * t + 2)
  rcases (show k = 0 ∨ k = 1 ∨ k = 2 ∨ k = 3 by omega) with rfl | rfl | rfl | rfl <;> simp only [part, Nat.add_zero] <;> omega
theorem or_byte (x b : Int) (h0 : 0 ≤ x) (h1 : x < 16777216) (h2 : 0 ≤ b) (h3 : b < 256) : bits .or .u32 (IntKind.u32.wrap (x * 2 ^ 8)) b = x * 256 + b := by
  obtain ⟨X, rfl⟩ := Int.eq_ofNat_of_zero_le h0
  obtain ⟨B, rfl⟩ := Int.eq_ofNat_of_zero_le h2
  have e : IntKind.u32.wrap ((X : Int) * 2 ^ 8) = ((X * 256 : Nat) : Int) := by rw [IntKind.wrap_u32']; omega
  rw [e, u32_or_nat _ _ (by omega) (by omega)]
  have : X * 256 ||| B = X * 256 + B := by
    have := Nat.shiftLeft_add_eq_or_of_lt (i := 8) (b := B) (by omega) X
    rw [Nat.shiftLeft_eq, show (2 : Nat) ^ 8 = 256 from rfl] at this; exact this.symm
  rw [this]; omega
theorem spr_len (p : List Int) : ∀ t, (spr p t).length = t
  | 0 => rfl
  | t + 1 => by simp [spr, spr_len p t]
theorem getD_set (l : List Int) (i j : Nat) (v : Int) : (l.set i v).getD j 0 = if i = j ∧ i < l.length then v else l.getD j 0 := by
  simp only [List.getD_eq_getElem?_getD, List.getElem?_set]
  by_cases h : i = j
  · by_cases hl : i < l.length
    · simp [h, h ▸ hl]
    · subst h; simp [hl]
  · simp [h]
theorem fill_set (l : List Int) (n : Nat) (v : Int) (h : l.length < n) : (l ++ List.replicate (n - l.length) 0).set l.length v = l ++ [v] ++ List.replicate (n - (l.length + 1)) 0 := by
  obtain ⟨m, hm⟩ : ∃ m, n - l.length = m + 1 := ⟨n - l.length - 1, by omega⟩
  rw [hm, List.replicate_succ, List.set_append, if_neg (by omega)]
  have : n - (l.length + 1) = m := by omega
  simp [this]
def H8.vals (s : H8) : List Int := [s.a, s.b, s.c, s.d, s.e, s.f, s.g, s.h]
theorem take_set (z s : List Int) (i : Nat) (v : Int) (hz : i < z.length) (hs : i < s.length) (hv : v = z.getD i 0) : (z.take i ++ s.drop i).set i v = z.take (i + 1) ++ s.drop (i + 1) := by
  subst hv
  have h1 : (z.take i).length = i := by simp; omega
  rw [List.set_append, if_neg (by omega), h1, Nat.sub_self, List.drop_eq_getElem_cons hs, List.set_cons_zero, List.take_succ_eq_append_getElem hz, List.append_assoc, List.singleton_append]
  congr 2
  simp [hz]
theorem getD_take_drop (z s : List Int) (i : Nat) (hz : i ≤ z.length) : (z.take i ++ s.drop i).getD i 0 = s.getD i 0 := by
  simp [List.getElem?_append, Nat.min_eq_left hz]
theorem add8_vals (s t : H8) : (add8 s t).vals = List.zipWith ad s.vals t.vals := by simp [add8, H8.vals]
end Go.Proofs.YtilhilglokblpaaDoor
