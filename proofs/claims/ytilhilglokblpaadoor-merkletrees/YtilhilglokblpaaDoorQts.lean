import Derived.Test.YtilhilglokblpaaDoorQtr
namespace Go.Proofs.YtilhilglokblpaaDoor
open Go.RowKit
set_option maxRecDepth 100000
/-- a tree while a leaf is added: the parts from p on are those of l -/
def PT (w : World) (g : Nat) (l : List ByteArray) (p : Nat) : Prop :=
  Arr w g 0 .i64 [(l.length : Int)] ∧ ∀ q, q < 13 → ∃ d : ByteArray, d.size = 32 ∧ Arr w g (1 + q * 32) .u8 (nums d) ∧ (p ≤ q → l.length / 2 ^ q % 2 = 1 → d = rt (sg l q))
theorem TrM.pt {w : World} {g : Nat} {l : List ByteArray} (h : TrM w g l) : PT w g l 0 := ⟨h.2.2.1, fun q hq => by
  obtain ⟨d, e1, e2, e3⟩ := h.2.2.2 q hq
  exact ⟨d, e1, by rw [Nat.mul_comm]; exact e2, fun _ => e3⟩⟩
theorem PT.below {w w' : World} {B g p : Nat} {l : List ByteArray} (h : PT w g l p) (hb : Below B w w') (hB : g < B) : PT w' g l p := ⟨h.1.below hb hB, fun q hq => by
  obtain ⟨d, e1, e2, e3⟩ := h.2 q hq
  exact ⟨d, e1, e2.below hb hB, e3⟩⟩
theorem PT.apart {w : World} {b g p : Nat} {l : List ByteArray} (h : PT w g l p) (hb : g ≠ b) (vs : List Value) : PT (w.setCells b 0 vs) g l p := ⟨h.1.setCells_apart b 0 vs (.inl hb), fun q hq => by
  obtain ⟨d, e1, e2, e3⟩ := h.2 q hq
  exact ⟨d, e1, e2.setCells_apart b 0 vs (.inl hb), e3⟩⟩
theorem PT.there {w : World} {g p : Nat} {l : List ByteArray} (h : PT w g l p) (q : Nat) (hq : q < 13) : w.there g (1 + q * 32) 32 := by
  obtain ⟨d, e1, e2, _⟩ := h.2 q hq
  have := e2.there
  rw [nums_len, e1] at this
  exact this
/-- a part is set -/
theorem PT.put {w : World} {g p : Nat} {l : List ByteArray} (h : PT w g l p) (hp : p < 13) (c : ByteArray) (hc : c.size = 32) : PT (w.setCells g (1 + p * 32) (dC c)) g l (p + 1) ∧ Arr (w.setCells g (1 + p * 32) (dC c)) g (1 + p * 32) .u8 (nums c) := by
  have hl : (dC c).length = 32 := dC_len c hc
  obtain ⟨d, e1, e2, _⟩ := h.2 p hp
  have j := e2.setCells (nums c) (by rw [nums_len, nums_len, hc, e1])
  refine ⟨⟨h.1.setCells_apart g (1 + p * 32) (dC c) (.inr (.inl (by simp))), fun q hq => ?_⟩, j⟩
  by_cases hqp : q = p
  · subst hqp
    exact ⟨c, hc, j, fun h9 => by omega⟩
  · obtain ⟨d', f1, f2, f3⟩ := h.2 q hq
    refine ⟨d', f1, f2.setCells_apart g (1 + p * 32) (dC c) (.inr (by rw [nums_len, f1, hl]; omega)), fun h9 => f3 (by omega)⟩
/-- the tree when all is done -/
theorem PT.done {w : World} {g p : Nat} {l : List ByteArray} {x : ByteArray} (h : PT w g l (p + 1)) (hg : g < w.heap.size) (hn : l.length < 4096) (hp : p < 13) (hr : l.length % 2 ^ p = 2 ^ p - 1) (hb : l.length / 2 ^ p % 2 = 0) (ha : Arr w g (1 + p * 32) .u8 (nums (rt ((l ++ [x]).drop (l.length + 1 - 2 ^ p))))) : TrM (w.setCell ⟨g, 0, none⟩ (.int .i64 ((l.length : Int) + 1))) g (l ++ [x]) := by
  have hln : (l ++ [x]).length = l.length + 1 := by simp
  have hmod := ad_mod l.length p hr hb
  refine ⟨by have := (Below.refl 0 w).setCell (p := ⟨g, 0, none⟩) (Nat.zero_le _) (.int .i64 ((l.length : Int) + 1)); exact Nat.lt_of_lt_of_le hg this.size, by omega, ?_, fun q hq => ?_⟩
  · have := h.1.set0 0 (by simp) ((l.length : Int) + 1)
    rw [hln]
    simpa using this
  · by_cases hqp : q = p
    · subst hqp
      refine ⟨_, rt_size _, by rw [Nat.mul_comm]; exact ha.other ⟨g, 0, none⟩ _ (.inr (.inl (by simp; omega))), fun _ => ?_⟩
      rw [ad_end l x q hr hb]
    · obtain ⟨d, e1, e2, e3⟩ := h.2 q hq
      refine ⟨d, e1, by rw [Nat.mul_comm]; exact e2.other ⟨g, 0, none⟩ _ (.inr (.inl (by simp; omega))), fun h9 => ?_⟩
      rw [hln] at h9
      by_cases hlt : q < p
      · exfalso
        have e5 : l.length + 1 = 2 ^ (p + 1) * ((l.length + 1) / 2 ^ (p + 1)) + 2 ^ p := by have := Nat.div_add_mod (l.length + 1) (2 ^ (p + 1)); omega
        generalize (l.length + 1) / 2 ^ (p + 1) = z at e5
        have e6 : 2 ^ p = 2 ^ q * 2 * 2 ^ (p - (q + 1)) := by
          rw [← Nat.pow_succ, ← Nat.pow_add]
          congr 1
          omega
        have e7 : (l.length + 1) / 2 ^ q = 2 * (2 ^ (p - (q + 1)) * (2 * z + 1)) := by
          rw [e5, Nat.pow_succ, show 2 ^ p * 2 * z + 2 ^ p = 2 ^ p * (2 * z + 1) from by rw [Nat.mul_add, Nat.mul_one, Nat.mul_assoc], e6, Nat.mul_assoc, Nat.mul_assoc]
          exact Nat.mul_div_cancel_left _ (Nat.two_pow_pos q)
        rw [e7, Nat.mul_mod_right] at h9
        cases h9
      · have ho := ad_over l.length p hr hb (q - (p + 1))
        rw [show p + 1 + (q - (p + 1)) = q from by omega] at ho
        have e8 : (l.length + 1) / 2 ^ q = l.length / 2 ^ q := by
          have e9 := Nat.div_add_mod l.length (2 ^ q)
          rw [show l.length + 1 = (l.length % 2 ^ q + 1) + 2 ^ q * (l.length / 2 ^ q) from by omega, Nat.add_mul_div_left _ _ (Nat.two_pow_pos q), Nat.div_eq_of_lt ho, Nat.zero_add]
        rw [e8] at h9
        rw [e3 (by omega) h9, ad_keep l x p q (by omega) hr hb h9]
end Go.Proofs.YtilhilglokblpaaDoor
