import Derived.Test.YtilhilglokblpaaDoorQmc
import Derived.Test.YtilhilglokblpaaDoorFrm
import Derived.SliceStrings
import Derived.Deep.SlicePairs
namespace Go.Proofs.YtilhilglokblpaaDoor
open Go.ChangeShapes Go.WideShapes Go.ChangeAt Go.RowKit
theorem weightsAll_mem {H : Type} {P : Program} {e : TypeId} : ∀ {l : List (DataW H)} {d : DataW H}, d ∈ l → ∀ n ∈ d.weights P e, n ∈ DataW.weightsAll P e l
  | x :: l, d, h, n, hn => by
    rw [DataW.weightsAll]
    rcases List.mem_cons.1 h with rfl | h
    · exact List.mem_append_left _ hn
    · exact List.mem_append_right _ (weightsAll_mem h n hn)
set_option maxRecDepth 100000 in
/-- An argument []string, with the bound that its texts' bytes make. -/
theorem open_sb {H : Type} {enc : TypeId × Value → H} {w : World} {base : Nat} {spare : Nat → Bool} {held : Bool} {fuel : Nat} {a : Option Addr} {len cap : Nat} {x : DataW H × List MemPlace} (h : DataW.trod enc Tryd.prog w base spare held fuel 22 [.slice a len cap] = some x)
    (hs : ∀ n ∈ x.1.weights Tryd.prog 22, n ≤ reachBytes) :
    ∃ l : List ByteArray, l.length = len ∧ SB w w.heap.size a l ∧ (∀ j, j < l.length → (l.getD j ⟨#[]⟩).size ≤ 140737488351232) ∧ len ≤ cap ∧ cap ≤ 9223372036854775807 ∧ (a = none → cap = 0) ∧ len ≤ 8796093021952 := by
  rcases open_strings Tryd.underlying22 Tryd.underlying9 (by kernel_rfl) h with ⟨hcs, _⟩ | ⟨ad, l, c, zs, hcs, _, hl, hm, hz, hd, hcell, _⟩
  · simp at hcs
    obtain ⟨rfl, rfl, rfl⟩ := hcs
    exact ⟨[], rfl, fun j hj => (by cases hj), fun t ht => (by cases ht), Nat.le_refl _, by omega, fun _ => rfl, by omega⟩
  · simp at hcs
    obtain ⟨rfl, rfl, rfl⟩ := hcs
    have hzl : len ≤ zs.length := by rw [hz]; split <;> omega
    have hlen : (zs.take len).length = len := by simp; omega
    have hb : Tryd.prog.bytesOf 9 = 16 := by kernel_rfl
    have hw := hs ((zs.length) * 16) (by
      rw [hd]
      simp only [DataW.weights, Tryd.underlying22, List.mem_cons]
      left
      rw [hb]
      simp [strs]
      omega)
    refine ⟨zs.take len, hlen, fun j hj => ?_, fun j hj => ?_, hl, hm, fun q => (by cases q), by unfold reachBytes at hw; omega⟩
    · rw [hlen] at hj
      have hc := hcell j (by omega)
      have hc0 := hcell 0 (by omega)
      obtain ⟨b, off, spot⟩ := ad
      have hspot : spot = none := by simpa [Addr.add] using World.cell?_spot hc0
      subst hspot
      rw [Addr.add_mid] at hc
      refine ⟨b, off, rfl, World.block_lt_of_cell? w _ hc, hc.trans ?_⟩
      rw [getD_take zs len j hj]
      rfl
    · have ht : (zs.take len).getD j ⟨#[]⟩ ∈ zs.take len := by
        rw [List.getD_eq_getElem?_getD, List.getElem?_eq_getElem hj]
        exact List.getElem_mem hj
      generalize (zs.take len).getD j ⟨#[]⟩ = t at *
      have hw : t.data.toList.length ≤ reachBytes := by
        refine hs _ ?_
        rw [hd]
        simp only [DataW.weights, Tryd.underlying22, List.mem_cons, List.mem_append]
        refine Or.inr (Or.inl (weightsAll_mem (d := .lit (.string t.data.toList)) (List.mem_map.2 ⟨t, ht, rfl⟩) _ ?_))
        simp [DataW.weights]
      have e : t.data.toList.length = t.size := rfl
      unfold reachBytes at hw
      omega
end Go.Proofs.YtilhilglokblpaaDoor
