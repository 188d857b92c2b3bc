import Derived.Test.YtolblldpdgfkmaaDoorGlw
namespace Go.Proofs.YtolblldpdgfkmaaDoor
open Go.RowKit
/-- does it hold -/
noncomputable def dec (p : Prop) : Bool := @decide p (Classical.propDecidable p)
theorem dec_true {p : Prop} (h : p) : dec p = true := @decide_eq_true p (Classical.propDecidable p) h
theorem dec_false {p : Prop} (h : ¬ p) : dec p = false := @decide_eq_false p (Classical.propDecidable p) h
set_option maxRecDepth 100000 in
set_option maxHeartbeats 1000000 in
theorem texts18_any (w : World) (p1 p2 : Option Addr) (c1 c2 : Nat) (l1 l2 : List ByteArray) (n1 n2 : Nat) (hn1 : n1 = l1.length) (hn2 : n2 = l2.length) (hz : n1 ≤ 1000000) (h1 : GTx w w.heap.size p1 l1) (h2 : GTx w w.heap.size p2 l2) : Calls Tryd.prog 11 #[.slice p1 n1 c1, .slice p2 n2 c2] w fun e w' => e = .returned (.bool (dec (l1 = l2))) ∧ Below w.heap.size w w' := by
  by_cases hne : n1 = n2
  · subst hne
    have HL := hide (And.intro hn1 (And.intro hn2 (And.intro h1 h2)))
    have hnn : ((n1 : Int) != (n1 : Int)) = false := by simp
    clear hn1 hn2 h1 h2
    go_enter Tryd.func11, Tryd.ntmps11
    go_wp2
    go_loopw [5] (fun i wr => ∃ k : Nat, k ≤ n1 ∧ i = .int .i64 (k : Int) ∧ (∀ j, j < k → l1.getD j ByteArray.empty = l2.getD j ByteArray.empty) ∧ Below w.heap.size w wr) (fun i _ => n1 - (intOf i).toNat)
    case atStart => exact ⟨0, by omega, rfl, fun j hj => absurd hj (by omega), Below.refl _ _⟩
    case round =>
      obtain ⟨k, hk, rfl, hall, hb⟩ := hrel
      obtain ⟨wo, rfl⟩ : ∃ wo, wo = wr := ⟨_, rfl⟩
      have XB := hide hb
      have HA := hide hall
      clear hb hall
      by_cases hkn : k < n1
      · obtain ⟨g1, o1, rfl, q1, d1⟩ := (unhide HL).2.2.1 k (by have := (unhide HL).1; omega)
        obtain ⟨g2, o2, rfl, q2, d2⟩ := (unhide HL).2.2.2 k (by have := (unhide HL).2.1; omega)
        have e1 := ((unhide XB).cell (p := ⟨g1, o1 + k, none⟩) q1).trans d1
        have e2 := ((unhide XB).cell (p := ⟨g2, o2 + k, none⟩) q2).trans d2
        obtain ⟨z1, hz1⟩ : ∃ z, l1.getD k ByteArray.empty = z := ⟨_, rfl⟩
        obtain ⟨z2, hz2⟩ : ∃ z, l2.getD k ByteArray.empty = z := ⟨_, rfl⟩
        rw [hz1] at e1
        rw [hz2] at e2
        have HZ := hide (And.intro hz1 hz2)
        clear q1 q2 d1 d2 hz1 hz2
        have j0 : 0 ≤ (k : Int) := by omega
        have j1 : (k : Int) < (n1 : Int) := by omega
        by_cases hzz : z1 = z2
        · subst hzz
          go_wp2_with fail
          go_quiet (fail)
          go_wp2
          go_roundw
          case rel =>
            refine ⟨k + 1, by omega, by go_num, fun j hj => ?_, below_drewN (unhide XB) _⟩
            by_cases e : j = k
            · rw [e, (unhide HZ).1, (unhide HZ).2]
            · exact unhide HA j (by omega)
          case measure => simp [intOf]; omega
        · have hq : (z1.toList == z2.toList) = false := str_ne hzz
          have HD := hide (show dec (l1 = l2) = false from dec_false (fun e => hzz (by rw [← (unhide HZ).1, ← (unhide HZ).2, e])))
          clear hzz
          go_wp2_with fail
          go_quiet (fail)
          go_wp2
          go_ret
          rw [unhide HD]
          exact ⟨rfl, below_drewN (unhide XB) _⟩
      · have e1 : ¬ (k : Int) < (n1 : Int) := by omega
        have HD := hide (show dec (l1 = l2) = true from dec_true (by
          obtain ⟨a1, a2, _⟩ := unhide HL
          refine List.ext_getElem (by omega) (fun i b1 b2 => ?_)
          have := unhide HA i (by omega)
          rwa [List.getD_eq_getElem?_getD, List.getD_eq_getElem?_getD, List.getElem?_eq_getElem b1, List.getElem?_eq_getElem b2] at this))
        go_wp2
        go_ret
        rw [unhide HD]
        exact ⟨rfl, unhide XB⟩
  · have hnn : ((n1 : Int) != (n2 : Int)) = true := by simp; omega
    have HD := hide (show dec (l1 = l2) = false from dec_false (fun e => hne (by rw [hn1, hn2, e])))
    clear hne hn1 hn2 h1 h2
    go_enter Tryd.func11, Tryd.ntmps11
    go_wp2
    go_ret
    rw [unhide HD]
    exact ⟨rfl, Below.refl _ _⟩
end Go.Proofs.YtolblldpdgfkmaaDoor
