import Derived.Test.YtnfcnpolflfpfaaGreatDoorMr49
import Derived.Test.YtnfcnpolflfpfaaGreatDoorMr48
namespace Go.Proofs.YtnfcnpolflfpfaaGreatDoor
open Go.RowKit
set_option maxRecDepth 100000 in
/-- Lists of lists of changes that came in. -/
theorem open_rll {H : Type} {enc : TypeId × Value → H} {w : World} {base : Nat} {spare : Nat → Bool} {held : Bool} {fuel : Nat} {a : Option Addr} {len cap : Nat} {x : DataW H × List MemPlace} (h : DataW.trod enc Tryz.prog w base spare held fuel 59 [.slice a len cap] = some x) :
    Rll w a len ∧ len ≤ 9223372036854775807 := by
  rcases Deep.open_slice Tryz.underlying59 h with ⟨hcs, _⟩ | ⟨ad, ln, cp, m, n, D, Pl, hcs, hb, hl, hm, hmm, rfl, hx⟩
  · simp at hcs
    obtain ⟨rfl, rfl, rfl⟩ := hcs
    exact ⟨fun i hi => absurd hi (Nat.not_lt_zero i), by omega⟩
  · simp at hcs
    obtain ⟨rfl, rfl, rfl⟩ := hcs
    have hlm : len ≤ m := by rw [hmm]; split <;> omega
    have hML : (maxLen : Nat) = 9223372036854775807 := rfl
    have each : ∀ i, i < len → ∃ q : Option Addr × Nat × Nat, w.cell? (ad.add i) = some (.slice q.1 q.2.1 q.2.2) ∧ Raws w q.1 q.2.1 ∧ q.2.1 ≤ 9223372036854775807 := by
      intro i hi
      obtain ⟨cs', h1, h2⟩ := hx i (by omega)
      rw [show Tryz.prog.cellsOf 22 = 1 by kernel_rfl, Nat.mul_one] at h1
      obtain ⟨_, hlen, hcell⟩ := World.cells?_some h1
      match cs', hlen with
      | [v0], _ =>
        obtain ⟨p, nn, c, hq⟩ := Go.Joins.slice_form Tryz.underlying22 h2
        obtain rfl : v0 = .slice p nn c := by simpa using hq
        obtain ⟨hl1, hl2⟩ := open_raws h2
        have c0 := hcell 0 (by omega)
        rw [Deep.add_add] at c0
        exact ⟨(p, nn, c), by simpa using c0, hl1, hl2⟩
    obtain ⟨q, hq⟩ := Deep.choose_lt each
    refine ⟨fun i hi => ?_, by omega⟩
    obtain ⟨q0, q1, q2⟩ := hq i hi
    obtain ⟨b, off, spot⟩ := ad
    have hspot : spot = none := by simpa [Addr.add] using World.cell?_spot (hq 0 (by omega)).1
    subst hspot
    rw [Addr.add_mid] at q0
    exact ⟨b, off, _, _, _, rfl, World.block_lt_of_cell? w _ q0, q0, q1, q2⟩
end Go.Proofs.YtnfcnpolflfpfaaGreatDoor
