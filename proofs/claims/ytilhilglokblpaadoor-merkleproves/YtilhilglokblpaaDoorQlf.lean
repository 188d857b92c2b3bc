import Derived.Test.YtilhilglokblpaaDoorQrc
import Derived.Test.YtilhilglokblpaaDoorQlh
import Derived.Test.YtilhilglokblpaaDoorQla
import Derived.Test.YtilhilglokblpaaDoorQlb
namespace Go.Proofs.YtilhilglokblpaaDoor
open Go.RowKit
theorem some19 (w : World) (l : List ByteArray) (q c B : Nat) (m : Nat) (p : Option Addr) (hq : l.length = q) (hS : SB w B p l) (hqc : q ≤ c) : Calls Tryd.prog 6 #[.slice p q c, .int .i64 (m : Int)] w fun e w' => e = .returned (.slice p (min q m) c) ∧ w' = w := by
  by_cases h : m < q
  · obtain ⟨g, o, rfl, _, _⟩ := hS 0 (by omega)
    rw [Nat.min_eq_right (by omega)]
    have e1 : (m : Int) < (q : Int) := by omega
    have e2 : (m : Int) ≤ (c : Int) := by omega
    clear hS hq
    go_enter Tryd.func6, Tryd.ntmps6
    go_wp2
    go_ret
    exact ⟨rfl, rfl⟩
  · rw [Nat.min_eq_left (by omega)]
    have e1 : ¬ (m : Int) < (q : Int) := by omega
    clear hS hq
    go_enter Tryd.func6, Tryd.ntmps6
    go_wp2
    go_ret
    exact ⟨rfl, rfl⟩
def apB : ByteArray := ⟨#[39]⟩
def unL (l : List ByteArray) : List ByteArray := l.map (· ++ apB)
theorem unL_len (l : List ByteArray) : (unL l).length = l.length := by simp [unL]
theorem unL_sht {l : List ByteArray} (h : ∀ j, j < l.length → (l.getD j ⟨#[]⟩).size ≤ 140737488351232) : Sht (unL l) := fun j hj => by
  rw [unL_len] at hj
  have := h j hj
  rw [List.getD_eq_getElem?_getD, List.getElem?_eq_getElem hj] at this
  rw [unL, List.getD_eq_getElem?_getD, List.getElem?_map, List.getElem?_eq_getElem hj]
  simp only [Option.map_some, Option.getD_some, ByteArray.size_append] at this ⊢
  have : apB.size = 1 := rfl
  omega
theorem unL_take (l : List ByteArray) (k : Nat) (hk : k < l.length) : unL (l.take (k + 1)) = unL (l.take k) ++ [l.getD k ⟨#[]⟩ ++ apB] := by
  unfold unL
  rw [List.take_add_one, List.getElem?_eq_getElem hk, List.map_append, List.getD_eq_getElem?_getD, List.getElem?_eq_getElem hk]
  rfl
/-- other texts are copied over a row that was lent -/
theorem over_copy (y : World) (g : Nat) (l L2 : List ByteArray) (q c2 base : Nat) (p2 : Option Addr) (hL2 : L2.length = q) (hL : LnK y g l q (q + 8)) (ho : y.ownsRow base 9 1 (.slice p2 q c2) q (L2.map Value.string)) : ∃ x, (∀ ty, (Builtin.copy_ #[22, 22] ty #[.slice (some ⟨g, 0, none⟩) (q + 8) (q + 8), .slice p2 q c2]).run Tryd.prog y = .ok (.int .i64 (q : Int)) x) ∧ SB x (g + 1) (some ⟨g, 0, none⟩) L2 ∧ (∀ B w, B ≤ g → Below B w y → Below B w x) ∧ (∀ k, k ≠ g → x.heap[k]? = y.heap[k]?) := by
  obtain ⟨i0, hi, hz0, hz1, hz2⟩ := info_parts gr_str
  obtain ⟨cur, hB, hsz, _, _⟩ := hL
  rcases ho.2 with ⟨e1, e2⟩ | ⟨g2, cap2, cur2, e1, hb2, hg2, hn2, hc2, hs2, hx2⟩
  · obtain ⟨rfl, rfl, rfl⟩ : p2 = none ∧ q = 0 ∧ c2 = 0 := by injection e1 with a b c; exact ⟨a, e2, c⟩
    obtain rfl : L2 = [] := List.eq_nil_of_length_eq_zero hL2
    exact ⟨y, fun ty => run_copy_nil (P := Tryd.prog) y 22 22 ty 9 _ _ _ Tryd.underlying22 (by rw [hi]; rfl), SB.nil _ _ _, fun _ _ _ h => h, fun _ _ => rfl⟩
  · obtain ⟨rfl, rfl⟩ : p2 = some ⟨g2, 0, none⟩ ∧ c2 = cap2 := by injection e1 with a _ c; exact ⟨a, c⟩
    have hlm : (L2.map Value.string).length = q := by rw [List.length_map, hL2]
    refine ⟨y.setRow g ((L2.map Value.string) ++ cur.toList.drop q).toArray, fun ty => ?_, fun j hj => ⟨g, 0, rfl, by omega, ?_⟩, fun B w hB0 hb => below_setRow hb hB0 _, fun k hk => ?_⟩
    · have := run_copy_row (P := Tryd.prog) y 22 22 ty 9 g 0 (q + 8) (q + 8) ⟨g2, 0, none⟩ q c2 cur 9 (L2.map Value.string) Tryd.underlying22 (by rw [hi]; simp [hz1]) hB (by rw [hlm]; exact (Nat.min_eq_left (by omega)).symm) (ho.cells rfl) (by rw [hlm, hsz]; omega) (by simp [Value.oneCell'])
      rw [hlm, Nat.zero_add] at this
      exact this
    · have hN : Blk (y.setRow g ((L2.map Value.string) ++ cur.toList.drop q).toArray) g ((L2.map Value.string) ++ cur.toList.drop q).toArray 9 := setRow_heap y g cur _ 9 (0, 0) hB
      rw [Nat.zero_add, hN.cell, List.getElem?_toArray, List.getElem?_append_left (by omega), List.getElem?_map, List.getElem?_eq_getElem hj, List.getD_eq_getElem?_getD, List.getElem?_eq_getElem hj]
      rfl
    · rw [World.setRow]
      simp only [Array.getElem?_modify, Ne.symm hk, if_false]
end Go.Proofs.YtilhilglokblpaaDoor
