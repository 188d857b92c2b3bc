import Derived.Test.YtmnbfkehepccfaaGsa
import Derived.Test.YtmnbfkehepccfaaOpg
import Derived.Deep.Matrix
namespace Go.Proofs.Ytmnbfkehepccfaa
open Go.ChangeShapes Go.WideShapes Go.ChangeAt Go.RowKit
set_option maxRecDepth 100000 in
/-- An argument [][]int, with the bounds that its bytes make. -/
theorem open_gll {H : Type} {enc : TypeId × Value → H} {w : World} {held : Bool} {fuel : Nat} {a : Option Addr} {len cap : Nat} {x : DataW H × List MemPlace} (h : DataW.trod enc Try.prog w 0 (fun _ => true) held fuel 33 [.slice a len cap] = some x)
    (hs : ∀ n ∈ x.1.weights Try.prog 33, n ≤ reachBytes) :
    ∃ (Q : List (List Int)) (pq : Nat → Option Addr) (cq : Nat → Nat), Q.length = len ∧ len ≤ 5864062014804 ∧ SqI w w.heap.size a Q pq cq := by
  rcases Go.Deep.open_int_rows Try.underlying33 Try.underlying32 Try.underlying3 (by kernel_rfl) (by kernel_rfl) h with ⟨hcs, _⟩ | ⟨ad, ln, cp, A, L, C, Z, hcs, _, hl, hm, hd, hr⟩
  · simp at hcs
    obtain ⟨rfl, rfl, rfl⟩ := hcs
    exact ⟨[], fun _ => none, fun _ => 0, rfl, by omega, fun i hi => absurd hi (by simp)⟩
  · simp at hcs
    obtain ⟨rfl, rfl, rfl⟩ := hcs
    have hb : Try.prog.bytesOf 3 = 8 := by kernel_rfl
    have hb2 : Try.prog.bytesOf 32 = 24 := by kernel_rfl
    have hw := hs (len * 24 + (cap - len) * 24) (by
      rw [hd]
      simp only [DataW.weights, Try.underlying33, List.mem_cons]
      left
      rw [hb2]
      simp
      omega)
    obtain ⟨b, off, spot⟩ := ad
    refine ⟨(List.range len).map (fun r => (Z r).take (L r)), A, C, by simp, by unfold reachBytes at hw; omega, fun i hi => ?_⟩
    have hi' : i < len := by simpa using hi
    obtain ⟨hc, hlc, hcm, hzl, hzw, hz0, hzc⟩ := hr i (by omega)
    have hc0 := (hr 0 (by omega)).1
    have hspot : spot = none := by simpa [Addr.add] using World.cell?_spot hc0
    subst hspot
    rw [Addr.add_mid] at hc
    have hg : ((List.range len).map (fun r => (Z r).take (L r))).getD i [] = (Z i).take (L i) := by
      rw [List.getD_eq_getElem?_getD, List.getElem?_map, List.getElem?_range hi']
      rfl
    have hlen : ((Z i).take (L i)).length = L i := by simp; omega
    rw [hg, hlen]
    refine ⟨b, off, rfl, World.block_lt_of_cell? w _ hc, hc, fun q => ?_, fun j hj => ?_, ?_⟩
    · have := hz0 q
      exact ⟨by omega, this⟩
    · rw [hlen] at hj
      cases hA : A i with
      | none => have := hz0 hA; omega
      | some ar =>
        have hcj := (hzc ar hA).2 j (by omega)
        have hcj0 := (hzc ar hA).2 0 (by omega)
        obtain ⟨b2, o2, s2⟩ := ar
        have hs2 : s2 = none := by simpa [Addr.add] using World.cell?_spot hcj0
        subst hs2
        rw [Addr.add_mid] at hcj
        refine ⟨b2, o2, rfl, World.block_lt_of_cell? w _ hcj, hcj.trans ?_⟩
        simp [List.getD_eq_getElem?_getD, hj]
    · cases hA : A i with
      | none => have := hz0 hA; omega
      | some ar =>
        have hw2 := hs ((Z i).length * 8) (by
          rw [hd]
          simp only [DataW.weights, Try.underlying33, List.mem_cons, List.mem_append]
          refine Or.inr (Or.inl (weightsAll_mem (d := Go.Deep.intRow .i64 (A i) (L i) (Z i)) (List.mem_map.2 ⟨i, List.mem_range.2 hi', rfl⟩) _ ?_))
          rw [hA]
          simp only [Go.Deep.intRow, DataW.weights, Try.underlying32, List.mem_cons]
          left
          rw [hb]
          simp [lits]
          omega)
        unfold reachBytes at hw2
        omega
end Go.Proofs.Ytmnbfkehepccfaa
