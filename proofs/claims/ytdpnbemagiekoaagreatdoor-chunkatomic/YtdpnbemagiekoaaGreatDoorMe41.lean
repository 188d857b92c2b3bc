import Derived.Test.YtdpnbemagiekoaaGreatDoorMe40
set_option maxRecDepth 100000
namespace Go.Proofs.YtdpnbemagiekoaaGreatDoor
section
open Go.ChangeShapes Go.WideShapes Go.ChangeAt Go.RowKit
theorem zHr {H : Type} {enc : TypeId × Value -> H} {w : World} {base : Nat} {spare : Nat -> Bool} {held : Bool} {fuel : Nat} {a : Option Addr} {len cap : Nat} {x : DataW H × List MemPlace} (h : DataW.trod enc Tryz.prog w base spare held fuel 53 [.slice a len cap] = some x) :
  ∃ l : List Int, len = l.length /\ Ints w a l /\ (∀ i, I64 (l.getD i 0)) /\ len <= 9223372036854775807 := by
 have hML : (maxLen : Nat) = 9223372036854775807 := rfl
 rcases open_ints Tryz.underlying53 Tryz.underlying3 (by kernel_rfl) h with ⟨hcs, _⟩ | ⟨ad, l, c, zs, hcs, _, hl, hm, hz, hd, hcell, hwz⟩
 ·simp at hcs
  obtain ⟨rfl, rfl, rfl⟩ := hcs
  exact ⟨[], rfl, fun j hj => (by cases hj), fun i => by simp [I64], by omega⟩
 ·simp at hcs
  obtain ⟨rfl, rfl, rfl⟩ := hcs
  have hzl : len <= zs.length := by rw [hz]; split <;> omega
  have hlen : (zs.take len).length = len := by simp; omega
  refine ⟨zs.take len, hlen.symm, fun j hj => ?_, fun i => ?_, by omega⟩
  ·rw [hlen] at hj
   have hc := hcell j (by omega)
   have hc0 := hcell 0 (by omega)
   obtain ⟨b, off, spot⟩ := ad
   have hspot : spot = none := by simpa [Addr.add] using World.cell?_spot hc0
   subst hspot
   rw [Addr.add_mid] at hc
   refine ⟨b, off, rfl, World.block_lt_of_cell? w _ hc, hc.trans ?_⟩
   simp [hj]
  ·by_cases hi : i < (zs.take len).length
   ·rw [List.getD_eq_getElem?_getD, List.getElem?_eq_getElem hi]
    exact zNd (hwz _ (List.mem_of_mem_take (List.getElem_mem hi)))
   ·rw [List.getD_eq_getElem?_getD, List.getElem?_eq_none (by omega)]
    simp [I64]
theorem zLO {H : Type} {enc : TypeId × Value -> H} {w : World} {base : Nat} {spare : Nat -> Bool} {held : Bool} {fuel : Nat} {a : Option Addr} {len cap : Nat} {x : DataW H × List MemPlace} (h : DataW.trod enc Tryz.prog w base spare held fuel 53 [.slice a len cap] = some x) :
  len = 0 ∨ ∃ es sp, x.1 = .slice es sp /\ es.length = len := by
 rcases open_ints Tryz.underlying53 Tryz.underlying3 (by kernel_rfl) h with ⟨hcs, _⟩ | ⟨ad, l, c, zs, hcs, _, hl, hm, hz, hd, hcell, hwz⟩
 ·simp at hcs
  exact .inl hcs.2.1
 ·simp at hcs
  obtain ⟨rfl, rfl, rfl⟩ := hcs
  have hzl : len <= zs.length := by rw [hz]; split <;> omega
  refine .inr ⟨_, _, by rw [hd], ?_⟩
  simp [lits]
  omega
end
end Go.Proofs.YtdpnbemagiekoaaGreatDoor
