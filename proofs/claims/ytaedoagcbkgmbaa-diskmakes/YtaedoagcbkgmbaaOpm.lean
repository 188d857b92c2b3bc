import Derived.Test.YtaedoagcbkgmbaaOpn
import Derived.Test.YtaedoagcbkgmbaaDso
import Derived.SliceStrings
namespace Go.Proofs.Ytaedoagcbkgmbaa
open Go.ChangeShapes Go.WideShapes Go.ChangeAt Go.RowKit
set_option maxRecDepth 100000 in
/-- An argument []int, whatever its length. -/
theorem open_ilistM {H : Type} {enc : TypeId × Value → H} {w : World} {base : Nat} {spare : Nat → Bool} {held : Bool} {fuel : Nat} {a : Option Addr} {len cap : Nat} {x : DataW H × List MemPlace} (h : DataW.trod enc Try.prog w base spare held fuel 22 [.slice a len cap] = some x) :
    ∃ l : List Int, len = l.length ∧ Ints w a l ∧ (∀ z ∈ l, I64 z) ∧ l.length ≤ 9223372036854775807 := by
  obtain ⟨l, h1, h2, h3, _⟩ := open_ilist h
  refine ⟨l, h1, h2, h3, ?_⟩
  rcases open_ints Try.underlying22 Try.underlying3 (by kernel_rfl) h with ⟨hcs, _⟩ | ⟨ad, l', c, zs, hcs, _, hl, hm, hz, hd, hcell, hwz⟩
  · simp at hcs
    omega
  · simp at hcs
    unfold maxLen at hm
    omega
set_option maxRecDepth 100000 in
/-- An argument []string. -/
theorem open_slist {H : Type} {enc : TypeId × Value → H} {w : World} {base : Nat} {spare : Nat → Bool} {held : Bool} {fuel : Nat} {a : Option Addr} {len cap : Nat} {x : DataW H × List MemPlace} (h : DataW.trod enc Try.prog w base spare held fuel 39 [.slice a len cap] = some x) :
    ∃ l : List ByteArray, len = l.length ∧ Strs w a l ∧ l.length ≤ 9223372036854775807 := by
  rcases open_strings Try.underlying39 Try.underlying9 (by kernel_rfl) h with ⟨hcs, _⟩ | ⟨ad, l, c, zs, hcs, _, hl, hm, hz, hd, hcell, _⟩
  · simp at hcs
    obtain ⟨rfl, rfl, rfl⟩ := hcs
    exact ⟨[], rfl, fun j hj => (by cases hj), Nat.zero_le _⟩
  · simp at hcs
    obtain ⟨rfl, rfl, rfl⟩ := hcs
    have hzl : len ≤ zs.length := by rw [hz]; split <;> omega
    have hlen : (zs.take len).length = len := by simp; omega
    refine ⟨zs.take len, hlen.symm, fun j hj => ?_, by unfold maxLen at hm; omega⟩
    rw [hlen] at hj
    have hc := hcell j (by omega)
    have hc0 := hcell 0 (by omega)
    obtain ⟨b, off, spot⟩ := ad
    have hspot : spot = none := by simpa [Addr.add] using World.cell?_spot hc0
    subst hspot
    rw [Addr.add_mid] at hc
    refine ⟨b, off, rfl, World.block_lt_of_cell? w _ hc, hc.trans ?_⟩
    simp [hj]
end Go.Proofs.Ytaedoagcbkgmbaa
