import Derived.Test.YtolblldpdgfkmaaDoorOpl
import Derived.Test.YtolblldpdgfkmaaDoorGrj
namespace Go.Proofs.YtolblldpdgfkmaaDoor
open Go.ChangeShapes Go.WideShapes Go.ChangeAt Go.RowKit
set_option maxRecDepth 100000 in
/-- An argument []string. -/
theorem open_gtn {H : Type} {enc : TypeId × Value → H} {w : World} {base : Nat} {spare : Nat → Bool} {held : Bool} {fuel : Nat} {a : Option Addr} {len cap : Nat} {x : DataW H × List MemPlace} (h : DataW.trod enc Tryd.prog w base spare held fuel 22 [.slice a len cap] = some x)
    (hs : ∀ n ∈ x.1.weights Tryd.prog 22, n ≤ reachBytes) :
    ∃ l : List ByteArray, len = l.length ∧ GTx w w.heap.size a l ∧ (∀ t ∈ l, t.size ≤ 140737488355328) ∧ l.length ≤ 8796093022100 ∧ (a = none → len = 0 ∧ cap = 0) := by
  rcases open_strings Tryd.underlying22 Tryd.underlying9 (by kernel_rfl) h with ⟨hcs, _⟩ | ⟨ad, l, c, zs, hcs, _, hl, hm, hz, hd, hcell, _⟩
  · simp at hcs
    obtain ⟨rfl, rfl, rfl⟩ := hcs
    exact ⟨[], rfl, fun j hj => (by cases hj), fun t ht => (by cases ht), by simp, fun _ => ⟨rfl, rfl⟩⟩
  · simp at hcs
    obtain ⟨rfl, rfl, rfl⟩ := hcs
    have hzl : len ≤ zs.length := by rw [hz]; split <;> omega
    have hlen : (zs.take len).length = len := by simp; omega
    refine ⟨zs.take len, hlen.symm, fun j hj => ?_, fun t ht => ?_, ?_, fun q => by cases q⟩
    · rw [hlen] at hj
      have hc := hcell j (by omega)
      have hc0 := hcell 0 (by omega)
      obtain ⟨b, off, spot⟩ := ad
      have hspot : spot = none := by simpa [Addr.add] using World.cell?_spot hc0
      subst hspot
      rw [Addr.add_mid] at hc
      refine ⟨b, off, rfl, World.block_lt_of_cell? w _ hc, hc.trans ?_⟩
      simp [hj]
    · have hw : t.data.toList.length ≤ reachBytes := by
        refine hs _ ?_
        rw [hd]
        simp only [DataW.weights, Tryd.underlying22, List.mem_cons, List.mem_append]
        refine Or.inr (Or.inl (weightsAll_mem (d := .lit (.string t.data.toList)) (List.mem_map.2 ⟨t, ht, rfl⟩) _ ?_))
        simp [DataW.weights]
      have e : t.data.toList.length = t.size := rfl
      unfold reachBytes at hw
      omega
    · have hb : Tryd.prog.bytesOf 9 = 16 := by kernel_rfl
      have hw := hs (zs.length * 16) (by
        rw [hd]
        simp only [DataW.weights, Tryd.underlying22, List.mem_cons]
        left
        rw [hb]
        simp [strs]
        omega)
      rw [hlen]
      unfold reachBytes at hw
      omega
theorem szb_all {l : List ByteArray} (h : ∀ t ∈ l, t.size ≤ 140737488355328) (j : Nat) : sz l j ≤ 9223372036854775807 := by
  unfold sz
  rw [List.getD_eq_getElem?_getD]
  cases e : l[j]? with
  | none => show (0 : Nat) ≤ _; omega
  | some t =>
    have := h t (List.mem_of_getElem? e)
    show t.size ≤ _
    omega
end Go.Proofs.YtolblldpdgfkmaaDoor
