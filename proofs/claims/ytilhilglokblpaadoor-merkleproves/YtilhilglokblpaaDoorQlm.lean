import Derived.Test.YtilhilglokblpaaDoorQll
import Derived.Test.YtilhilglokblpaaDoorQrh
import Derived.Test.YtilhilglokblpaaDoorQmn
namespace Go.Proofs.YtilhilglokblpaaDoor
open Go.RowKit
set_option maxRecDepth 100000
theorem gwL_len (l : List ByteArray) (i : Int) : (gwL l i).length ≤ l.length := by
  unfold gwL
  split
  · exact gr_len _ l rfl _ _ (by omega) (by omega)
  · simp
theorem cg_gr (l : List ByteArray) (q i : Nat) (hq : l.length = q) (hi : i ≤ q) : cgE (rt (l.take i)) (i : Int) (rt l) (q : Int) (gwL l (i : Int)) = if q ≤ 4096 then 0 else 191 := by
  unfold cgE
  rw [if_pos ⟨rt_size _, rt_size _⟩]
  by_cases h : q ≤ 4096
  · rw [if_pos h, if_pos (by omega), Int.toNat_natCast, Int.toNat_natCast]
    refine if_pos ?_
    unfold hgB
    by_cases h0 : i = 0
    · subst h0
      have e1 : gwL l ((0 : Nat) : Int) = [] := if_neg (by omega)
      rw [if_pos rfl, e1, List.take_zero, rt_nil]
      by_cases h1 : q = 0
      · have : l = [] := List.eq_nil_of_length_eq_zero (by omega)
        rw [this, rt_nil]
        simp
      · have : 0 < q := by omega
        simp [this]
    · have e1 : gwL l (i : Int) = gr l i true := by
        rw [gwL, if_pos (by omega), Int.toNat_natCast]
      rw [if_neg h0, e1, ← hq, cm_gr _ l rfl i true _ (by omega) (by omega) (fun _ => rfl)]
      simp
  · rw [if_neg h, if_neg (by omega)]
end Go.Proofs.YtilhilglokblpaaDoor
