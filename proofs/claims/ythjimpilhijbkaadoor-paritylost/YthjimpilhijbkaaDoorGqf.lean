import Derived.Test.YthjimpilhijbkaaDoorGqe
import Derived.Test.YthjimpilhijbkaaDoorGla
import Derived.Test.YthjimpilhijbkaaDoorGly
namespace Go.Proofs.YthjimpilhijbkaaDoor
open Go.RowKit
set_option maxRecDepth 100000
theorem split_ok (s : ByteArray) (n m N : Nat) (hN : N = n + m) (hn1 : 1 ≤ n) (hn2 : n ≤ 16) (hm : m ≤ 8) (hs : s.size ≤ 60000) (w : World) : Calls Tryd.prog 6 #[.string s, .int .i64 (n : Int), .int .i64 (m : Int)] w fun e w' => ∃ g c, e = .returned (.tuple #[.slice (some ⟨g, 0, none⟩) N c, .int .i64 0]) ∧ w'.ownsRow w.heap.size 9 1 (.slice (some ⟨g, 0, none⟩) N c) N ((spL s n m).map Value.string) ∧ Below w.heap.size w w' := by
  refine (psplit_any w s (n : Int) (m : Int)).mono ?_
  rintro e w' ⟨hb, _, _, h3⟩
  obtain ⟨v, rfl, ho⟩ := h3 (decide_eq_true (by omega)) hs
  rw [Int.toNat_natCast, Int.toNat_natCast, ← hN] at ho
  obtain ⟨p, c, rfl, _⟩ := gr_form ho
  obtain ⟨g, rfl, _⟩ := gr_cell ho 0 (by omega)
  exact ⟨g, c, rfl, ho, hb⟩
structure LoI (s : ByteArray) (n m N : Nat) (w2 : World) (gt ct : Nat) (LL : List ByteArray) (wr : World) : Prop where
  part : Part s n m LL
  own : wr.ownsRow w2.heap.size 9 1 (.slice (some ⟨gt, 0, none⟩) N ct) N (LL.map Value.string)
  bel : Below w2.heap.size w2 wr
theorem set_str (LL : List ByteArray) (j : Nat) (X : ByteArray) : (LL.map Value.string).set j (.string X) = (LL.set j X).map Value.string := by rw [List.map_set]
theorem own_str {w : World} {b gt ct N : Nat} {LL : List ByteArray} (hl : LL.length = N) (h : w.ownsRow b 9 1 (.slice (some ⟨gt, 0, none⟩) N ct) N (LL.map Value.string)) (j : Nat) (hj : j < N) : w.cell? ⟨gt, j, none⟩ = some (.string (LL.getD j ByteArray.empty)) ∧ w.frozen? ⟨gt, j, none⟩ = false ∧ b ≤ gt ∧ gt < w.heap.size := by
  obtain ⟨g, e, h1, h2, h3, h4⟩ := gr_cell h j hj
  injection e with e
  injection e with e
  subst e
  refine ⟨?_, h2, h3, h4⟩
  rw [h1, List.getElem?_map, List.getElem?_eq_getElem (by omega), List.getD_eq_getElem?_getD, List.getElem?_eq_getElem (by omega)]
  rfl
theorem LoI.less {s : ByteArray} {n m N : Nat} {w2 : World} {gt ct : Nat} {LL : List ByteArray} {wr : World} (h : LoI s n m N w2 gt ct LL wr) (hN : N = n + m) (j : Nat) (hj : j < N) : LoI s n m N w2 gt ct (LL.set j ⟨#[]⟩) (wr.setCell ⟨gt, j, none⟩ (.string ⟨#[]⟩)) := by
  have h9 := own_str (by rw [h.part.len, hN]) h.own j hj
  exact ⟨h.part.less j (by omega), by rw [← set_str]; exact owns_set h.own rfl j _, h.bel.setCell h9.2.2.1 _⟩
theorem emp_nil : (⟨#[]⟩ : ByteArray).toList = [] := by first | simp | decide +kernel | (unfold ByteArray.toList; unfold ByteArray.toList.loop; rfl)
theorem emp_no {S : ByteArray} (h : S.size ≠ 0) : S.toList.isEmpty = false ∧ (S.toList == (⟨#[]⟩ : ByteArray).toList) = false := by
  have h1 : (S.toList == (⟨#[]⟩ : ByteArray).toList) = false := str_ne (fun e => h (by rw [e]; rfl))
  refine ⟨?_, h1⟩
  rw [emp_nil] at h1
  cases q : S.toList with
  | nil => rw [q] at h1; cases h1
  | cons _ _ => rfl
theorem emp_yes {S : ByteArray} (h : S.size = 0) : S.toList.isEmpty = true ∧ (S.toList == (⟨#[]⟩ : ByteArray).toList) = true := by
  have h1 : S = ⟨#[]⟩ := by
    apply nums_inj
    rw [List.eq_nil_of_length_eq_zero (show (nums S).length = 0 by rw [nums_len]; exact h)]
    rfl
  subst h1
  rw [emp_nil]
  decide
theorem GTx.mono {w : World} {B C : Nat} {p : Option Addr} {L : List ByteArray} (h : GTx w B p L) (hc : B ≤ C) : GTx w C p L := fun j hj => by
  obtain ⟨g, o, e, hg, hc2⟩ := h j hj
  exact ⟨g, o, e, by omega, hc2⟩
end Go.Proofs.YthjimpilhijbkaaDoor
