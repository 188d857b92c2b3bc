import Derived.Test.YtiokejnlioghiaaGreatDoorMv20
import Derived.Test.YtiokejnlioghiaaGreatDoorMv02
import Derived.Test.YtiokejnlioghiaaGreatDoorMv13
import Derived.Test.YtiokejnlioghiaaGreatDoorMv12
import Derived.Test.YtiokejnlioghiaaGreatDoorMv05
import Derived.BigQuiet
import Derived.Test.YtiokejnlioghiaaGreatDoorMv21
import Derived.Test.YtiokejnlioghiaaGreatDoorMv22
import Derived.Test.YtiokejnlioghiaaGreatDoorMv14
namespace Go.Proofs.YtiokejnlioghiaaGreatDoor
open Go.RowKit
set_option maxRecDepth 100000
theorem own_blk {w : World} {base : Nat} {e : TypeId} {s n : Nat} {v : Value} {xs : List Value} (h : w.ownsRow base e s v n xs) {k : Nat} (hk : v.ownBlock = some k) : ∃ cur, Blk w k cur e := by
  rcases h.2 with ⟨rfl, _⟩ | ⟨g, cap, cur, rfl, hb, hg, r⟩
  · cases hk
  · obtain rfl : g = k := by simpa [Value.ownBlock] using hk
    exact ⟨cur, hg⟩
theorem blk_ty {w : World} {b : Nat} {c c' : Array Value} {T T' : TypeId} (h : Blk w b c T) (h' : Blk w b c' T') : T = T' := by
  have e : (some (Obj.cells c T (0, 0))) = some (Obj.cells c' T' (0, 0)) := (show w.heap[b]? = _ from h).symm.trans h'
  injection e with e
  injection e with _ e
/-- a type that no block of a disk has -/
def FT (T : TypeId) : Prop := T ≠ 9 ∧ T ≠ 69 ∧ T ≠ 72 ∧ T ≠ 36 ∧ T ≠ 164 ∧ T ≠ 117
theorem Dk.noty {w : World} {base b k : Nat} {v : DV} {s : DSt} {c : Array Value} {T : TypeId} (h : Dk w base b v s) (hB : Blk w k c T) (hT : FT T) : ¬ Fd b v k := by
  rintro (q | q | q | q | q)
  · rw [q] at hB; exact hT.2.1 (blk_ty hB h.blk)
  · obtain ⟨cur, hc⟩ := own_blk h.rl q; exact hT.1 (blk_ty hB hc)
  · obtain ⟨cur, hc⟩ := own_blk h.rn q; exact hT.1 (blk_ty hB hc)
  · obtain ⟨cur, hc⟩ := own_blk h.rp q; exact hT.2.2.2.1 (blk_ty hB hc)
  · obtain ⟨cur, hc⟩ := own_blk h.ra q; exact hT.2.2.2.2.1 (blk_ty hB hc)
theorem Rk.noty {w : World} {base b k : Nat} {v : RV} {s : DSt} {c : Array Value} {T : TypeId} (h : Rk w base b v s) (hB : Blk w k c T) (hT : FT T) : ¬ Fr4 b v k := by
  rintro (q | q | q | q)
  · rw [q] at hB; exact hT.2.2.1 (blk_ty hB h.blk)
  · obtain ⟨cur, hc⟩ := own_blk h.rl q; exact hT.1 (blk_ty hB hc)
  · obtain ⟨cur, hc⟩ := own_blk h.rp q; exact hT.2.2.2.1 (blk_ty hB hc)
  · obtain ⟨cur, hc⟩ := own_blk h.ra q; exact hT.2.2.2.2.2 (blk_ty hB hc)
end Go.Proofs.YtiokejnlioghiaaGreatDoor

namespace Go.Proofs.YtiokejnlioghiaaGreatDoor
open Go.RowKit
set_option maxRecDepth 100000
theorem setB_eq (n : Nat) (hn : n < 4294967296) (l : List Int) (hl : l.length = 16) : makeB 2 (n : Int) (strOfNums ([1] ++ outN 4 (l.take 16))) = headB n l := by
  have e1 : l.take 16 = l := List.take_of_length_le (by omega)
  have e2 : headL l = [1] ++ outN 4 l := by rw [headL, if_neg (by omega)]
  have e3 : nums (strOfNums (headL l)) = headL l := nums_strOfNums _ (headL_bytes l)
  have e4 : (strOfNums (headL l)).size = 65 := by rw [strOfNums_size, e2, List.length_append, outN_len, hl]; rfl
  rw [e1, ← e2, makeB, e3, headB, if_pos]
  rw [e4, errM, if_neg, if_neg (by omega)]
  intro q
  rcases q with q | q
  · exact q ⟨by decide, by decide⟩
  · exact q ⟨by omega, by simp; omega⟩
set_option maxHeartbeats 2000000 in
/-- A head that is set: the program's own. -/
theorem rset_any (n : Nat) (hn : n < 4294967296) (p : Option Addr) (c : Nat) (l : List Int) (hl : l.length = 16) (w : World) (hI : Ints w p l) (hB : ∀ z ∈ l, 0 ≤ z ∧ z < 4294967296) :
    Calls Tryz.prog 112 #[.int .i64 (n : Int), .slice p 16 c] w fun e w' => e = .returned (.string (headB n l)) ∧ Below w.heap.size w w' := by
  have HL := hide (And.intro hl (And.intro hI hB))
  have X0 := hide (Below.refl w.heap.size w)
  have HHB := hide (setB_eq n hn l hl)
  obtain ⟨hb16, ehb⟩ : ∃ z, headB n l = z := ⟨_, rfl⟩
  rw [ehb] at HHB ⊢
  clear hl hI hB ehb
  go_enter Tryz.func112, Tryz.ntmps112
  go_wp2
  go_loopw [5, 6, 7] (fun s i _ wr => ∃ (j : Nat) (t : ByteArray), j ≤ 16 ∧ i = .int .i64 (j : Int) ∧ s = .string t ∧ t = strOfNums ([1] ++ outN 4 (l.take j)) ∧ Below w.heap.size w wr) (fun _ i _ _ => 16 - (intOf i).toNat)
  case atStart => exact ⟨0, _, by omega, rfl, rfl, rfl, unhide X0⟩
  case round =>
    obtain ⟨j, t, hj, rfl, rfl, ht, hb⟩ := hrel
    obtain ⟨wo, rfl⟩ : ∃ wo, wo = wr := ⟨_, rfl⟩
    have HBE := hide hb
    have HT := hide ht
    clear hb X0 ht
    by_cases hj16 : j < 16
    · have j16 : (j : Int) < 16 := by omega
      obtain ⟨hl, hI, hB⟩ := unhide HL
      obtain ⟨g, o, rfl, hg, hc⟩ := hI j (by omega)
      have cj : wo.cell? ⟨g, o + j, none⟩ = some (.int .i64 (l.getD j 0)) := by rw [(unhide HBE).cell (p := ⟨g, o + j, none⟩) hg]; exact hc
      have hz := hB (l.getD j 0) (by rw [List.getD_eq_getElem?_getD, List.getElem?_eq_getElem (by omega)]; exact List.getElem_mem _)
      obtain ⟨z, hzn⟩ := Int.eq_ofNat_of_zero_le hz.1
      have HSN := hide (show strOfNums ([1] ++ outN 4 (l.take (j + 1))) = t ++ strOfNums (numB (z : Int) 4) from by rw [outN_snoc 4 l j (by omega), hzn, ← List.append_assoc, strOfNums_app, ← unhide HT])
      have HSZ := hide (show t.size ≤ 65 from by rw [unhide HT, strOfNums_size, List.length_append, outN_len, List.length_take]; simp; omega)
      rw [hzn] at cj hz
      have HRB := hide (rbytes_any z 4 (by omega) (by decide) wo)
      obtain ⟨u, hu⟩ : ∃ q, strOfNums (numB (z : Int) 4) = q := ⟨_, rfl⟩
      have hus : u.size = 4 := by rw [← hu, strOfNums_size, numB_len]
      rw [hu] at HRB HSN
      have y1 : ¬ 9223372036854775807 < t.size + u.size := by have := unhide HSZ; omega
      clear hl hI hB hc hz hzn hu hus
      have i0 : (0 : Int) ≤ (j : Int) := by omega
      go_wp2_with fail
      refine (unhide HRB).mono ?_
      rintro e x1 ⟨rfl, hb1⟩
      have HB1 := hide (show Below w.heap.size w x1 from (unhide HBE).trans (hb1.mono (unhide HBE).size))
      clear hb1 HRB cj
      go_wp2
      go_roundw
      case rel => exact ⟨j + 1, _, by omega, by go_num, rfl, (unhide HSN).symm, unhide HB1⟩
      case measure => simp [intOf]; omega
    · have j16 : ¬ (j : Int) < 16 := by omega
      have ej : j = 16 := by omega
      have HMK := hide (rmake_any 2 (n : Int) t wo)
      have HTT := hide (show makeB 2 (n : Int) t = hb16 from by rw [unhide HT, ej]; exact unhide HHB)
      rw [unhide HTT] at HMK
      clear ej
      go_wp2_with fail
      refine (unhide HMK).mono ?_
      rintro e x1 ⟨rfl, hb1⟩
      have HB1 := hide (show Below w.heap.size w x1 from (unhide HBE).trans (hb1.mono (unhide HBE).size))
      clear hb1 HMK HTT HT HHB
      go_wp2
      go_ret
      exact ⟨rfl, unhide HB1⟩
end Go.Proofs.YtiokejnlioghiaaGreatDoor

namespace Go.Proofs.YtiokejnlioghiaaGreatDoor
open Go.RowKit Go.Maps Go.Sort Go.Shelf
theorem any_at {q : Wr1 → Bool} {l : List Wr1} (k : Nat) (hk : k < l.length) (h : q (l.getD k wr0) = true) : l.any q = true := by
  rw [List.any_eq_true]
  exact ⟨l[k], List.getElem_mem hk, by rw [getD_of hk] at h; exact h⟩
theorem any_not {q : Wr1 → Bool} {l : List Wr1} (h : ∀ k, k < l.length → q (l.getD k wr0) = false) : l.any q = false := by
  rw [List.any_eq_false]
  intro x hx
  obtain ⟨k, hk, rfl⟩ := List.mem_iff_getElem.1 hx
  have := h k hk
  rw [getD_of hk] at this
  simp [this]
theorem secs_nodup {l : List Wr1} (h : ∀ i j, j < i → i < l.length → (l.getD j wr0).1 ≠ (l.getD i wr0).1) : (secs l).Nodup := by
  rw [List.Nodup, List.pairwise_iff_getElem]
  intro i j hi hj hij
  have hi' : i < l.length := by simpa [secs] using hi
  have hj' : j < l.length := by simpa [secs] using hj
  have := h j i hij hj'
  rw [getD_of hi', getD_of hj'] at this
  simpa [secs] using this
theorem secs_twice {l : List Wr1} (i j : Nat) (hij : j < i) (hi : i < l.length) (e : (l.getD j wr0).1 = (l.getD i wr0).1) : ¬ (secs l).Nodup := fun h => by
  rw [List.Nodup, List.pairwise_iff_getElem] at h
  have hj : j < l.length := by omega
  have := h j i (by simpa [secs] using hj) (by simpa [secs] using hi) hij
  rw [getD_of hi, getD_of hj] at e
  simp [secs] at this
  exact this e
set_option maxRecDepth 100000 in
set_option maxHeartbeats 2000000 in
theorem rrefused_any (w : World) (base b jb n : Nat) (lost : Bool) (v : RV) (s : DSt) (h : Rk w base b v s) (hJ : Rj w jb b n lost) (p : Option Addr) (c : Nat) (l : List Wr1) (m : Nat) (hm : m = l.length) (hl : Wls w p l) :
    Calls Tryz.prog 49 #[.pointer (some ⟨jb, 0, none⟩), .slice p m c] w fun e w' => e = .returned (.int .i64 (refE l (s.last.length : Int))) ∧ Below w.heap.size w w' := by
  obtain ⟨pl, cl, hvl, _⟩ := row_form h.rl
  have j0 : w.cell? ⟨jb, 0, none⟩ = some (.pointer (some ⟨b, 0, none⟩)) := by rw [Blk.cell hJ 0]; rfl
  have d0 : w.cell? ⟨b, 0, none⟩ = some (.slice pl s.last.length cl) := by rw [h.blk.cell 0, hvl]; rfl
  obtain ⟨sz, hsz⟩ : ∃ q, s.last.length = q := ⟨_, rfl⟩
  rw [hsz] at d0 ⊢
  have HC := hide (And.intro j0 (And.intro (Blk.lt hJ) (And.intro d0 h.blk.lt)))
  have HL := hide (And.intro hm hl)
  clear h hJ hvl hsz j0 d0 hm hl
  by_cases h16 : 16 < m
  · have h16' : (16 : Int) < (m : Int) := by omega
    have HE := hide (show refE l (sz : Int) = 50 from by rw [refE, if_pos (by rw [← (unhide HL).1]; exact h16)])
    clear h16
    go_enter Tryz.func49, Tryz.ntmps49
    go_wp2
    go_ret
    exact ⟨by rw [unhide HE]; rfl, Below.refl _ _⟩
  · have h16' : ¬ (16 : Int) < (m : Int) := by omega
    go_enter Tryz.func49, Tryz.ntmps49
    go_wp2
    go_loopw [5] (fun i wr => ∃ k : Nat, k ≤ m ∧ i = .int .i64 (k : Int) ∧ Below w.heap.size w wr ∧ ∀ i, i < k → freeP (sz : Int) (l.getD i wr0) = false) (fun i _ => m - (intOf i).toNat)
    case atStart => exact ⟨0, by omega, rfl, Below.refl _ _, fun i hi => absurd hi (Nat.not_lt_zero i)⟩
    case round =>
      obtain ⟨k, hk, rfl, hB, hF⟩ := hrel
      obtain ⟨wo, rfl⟩ : ∃ wo, wo = wr := ⟨_, rfl⟩
      have HB := hide hB
      have HF := hide hF
      clear hF
      by_cases hkn : k < m
      · have hkn' : (k : Int) < (m : Int) := by omega
        have k0 : (0 : Int) ≤ (k : Int) := by omega
        obtain ⟨g, oo, rfl, hgl, q0, _⟩ := (unhide HL).2 k (by rw [← (unhide HL).1]; exact hkn)
        have a0 : wo.cell? ⟨g, oo + k * 2, none⟩ = some (.int .i64 (l.getD k wr0).1) := by rw [hB.cell (p := ⟨g, _, none⟩) hgl]; exact q0
        have a1 : wo.cell? ⟨jb, 0, none⟩ = some (.pointer (some ⟨b, 0, none⟩)) := by rw [hB.cell (p := ⟨jb, 0, none⟩) (unhide HC).2.1]; exact (unhide HC).1
        have a2 : wo.cell? ⟨b, 0, none⟩ = some (.slice pl sz cl) := by rw [hB.cell (p := ⟨b, 0, none⟩) (unhide HC).2.2.2]; exact (unhide HC).2.2.1
        have HX := hide (show freeP (sz : Int) (l.getD k wr0) = !decide (19 ≤ (l.getD k wr0).1 ∧ (l.getD k wr0).1 < (sz : Int)) from rfl)
        obtain ⟨z, hz⟩ : ∃ z, (l.getD k wr0).1 = z := ⟨_, rfl⟩
        rw [hz] at a0 HX
        clear hB hgl q0 hz
        by_cases c1 : z < 19
        · have d1 : decide (z < 19) = true := decide_eq_true c1
          have HE := hide (show refE l (sz : Int) = 52 from by
            rw [refE, if_neg (by rw [← (unhide HL).1]; exact h16), if_pos (any_at k (by rw [← (unhide HL).1]; exact hkn) (by rw [unhide HX]; simp; omega))])
          clear c1
          go_wp2_with fail
          go_quiet (fail)
          go_wp2
          go_ret
          exact ⟨by rw [unhide HE]; rfl, below_drewN (unhide HB) _⟩
        · have d1 : decide (z < 19) = false := decide_eq_false c1
          by_cases c2 : (sz : Int) ≤ z
          · have d2 : decide ((sz : Int) ≤ z) = true := decide_eq_true c2
            have HE := hide (show refE l (sz : Int) = 52 from by
              rw [refE, if_neg (by rw [← (unhide HL).1]; exact h16), if_pos (any_at k (by rw [← (unhide HL).1]; exact hkn) (by rw [unhide HX]; simp; omega))])
            clear c1 c2
            go_wp2_with fail
            go_quiet (fail)
            go_wp2
            go_ret
            exact ⟨by rw [unhide HE]; rfl, below_drewN (unhide HB) _⟩
          · have d2 : decide ((sz : Int) ≤ z) = false := decide_eq_false c2
            have HN := hide (show freeP (sz : Int) (l.getD k wr0) = false from by rw [unhide HX]; simp; omega)
            clear c1 c2
            go_wp2_with fail
            go_quiet (fail)
            go_wp2
            go_roundw
            case rel => exact ⟨k + 1, by omega, by go_num, below_drewN (unhide HB) _, fun i hi => by
              rcases Nat.lt_or_ge i k with q | q
              · exact unhide HF i q
              · rw [show i = k by omega]; exact unhide HN⟩
            case measure => simp [intOf]; omega
      · have hkn' : ¬ (k : Int) < (m : Int) := by omega
        have HNO := hide (show l.any (freeP (sz : Int)) = false from any_not (fun i hi => unhide HF i (by have := (unhide HL).1; omega)))
        clear hB HF
        go_wp2
        go_loopw [6] (fun i wr => ∃ k : Nat, k ≤ m ∧ i = .int .i64 (k : Int) ∧ Below w.heap.size w wr ∧ ∀ i j, j < i → i < k → (l.getD j wr0).1 ≠ (l.getD i wr0).1) (fun i _ => m - (intOf i).toNat)
        case atStart => exact ⟨0, by omega, rfl, unhide HB, fun i j _ hi => absurd hi (Nat.not_lt_zero i)⟩
        case round =>
          obtain ⟨k2, hk2, rfl, hB2, hF2⟩ := hrel
          obtain ⟨wp, rfl⟩ : ∃ wo, wo = wr := ⟨_, rfl⟩
          clear HB
          have HB2 := hide hB2
          have HF2 := hide hF2
          clear hF2 hB2
          by_cases hkn2 : k2 < m
          · have hkn2' : (k2 : Int) < (m : Int) := by omega
            have k20 : (0 : Int) ≤ (k2 : Int) := by omega
            go_wp2
            go_loopw [7] (fun i wr => ∃ k : Nat, k ≤ k2 ∧ i = .int .i64 (k : Int) ∧ Below w.heap.size w wr ∧ ∀ j, j < k → (l.getD j wr0).1 ≠ (l.getD k2 wr0).1) (fun i _ => k2 - (intOf i).toNat)
            case atStart => exact ⟨0, by omega, rfl, unhide HB2, fun j hj => absurd hj (Nat.not_lt_zero j)⟩
            case round =>
              obtain ⟨k3, hk3, rfl, hB3, hF3⟩ := hrel
              obtain ⟨wq, rfl⟩ : ∃ wo, wo = wr := ⟨_, rfl⟩
              have HB3 := hide hB3
              have HF3 := hide hF3
              clear hF3
              by_cases hkn3 : k3 < k2
              · have hkn3' : (k3 : Int) < (k2 : Int) := by omega
                have hkm : (k3 : Int) < (m : Int) := by omega
                have k30 : (0 : Int) ≤ (k3 : Int) := by omega
                obtain ⟨g, oo, rfl, hgl, q0, _⟩ := (unhide HL).2 k3 (by rw [← (unhide HL).1]; omega)
                obtain ⟨g', oo', e', _, q1, _⟩ := (unhide HL).2 k2 (by rw [← (unhide HL).1]; omega)
                obtain ⟨rfl, rfl⟩ : g = g' ∧ oo = oo' := by simpa using e'
                have a0 : wq.cell? ⟨g, oo + k3 * 2, none⟩ = some (.int .i64 (l.getD k3 wr0).1) := by rw [hB3.cell (p := ⟨g, _, none⟩) hgl]; exact q0
                have a1 : wq.cell? ⟨g, oo + k2 * 2, none⟩ = some (.int .i64 (l.getD k2 wr0).1) := by rw [hB3.cell (p := ⟨g, _, none⟩) hgl]; exact q1
                obtain ⟨z1, hz1⟩ : ∃ z, (l.getD k3 wr0).1 = z := ⟨_, rfl⟩
                obtain ⟨z2, hz2⟩ : ∃ z, (l.getD k2 wr0).1 = z := ⟨_, rfl⟩
                rw [hz1] at a0
                rw [hz2] at a1
                have HZ := hide (And.intro hz1 hz2)
                clear hB3 q0 q1 e' hgl hz1 hz2
                by_cases ce : z1 = z2
                · have d1 : (z1 == z2) = true := by simpa using ce
                  have HE := hide (show refE l (sz : Int) = 51 from by
                    rw [refE, if_neg (by rw [← (unhide HL).1]; exact h16), if_neg (by rw [unhide HNO]; decide), if_pos (secs_twice k2 k3 hkn3 (by rw [← (unhide HL).1]; exact hkn2) (by rw [(unhide HZ).1, (unhide HZ).2]; exact ce))])
                  clear ce
                  go_wp2_with fail
                  go_quiet (fail)
                  go_wp2
                  go_ret
                  exact ⟨by rw [unhide HE]; rfl, below_drewN (unhide HB3) _⟩
                · have d1 : (z1 == z2) = false := by simpa using ce
                  have HN := hide (show (l.getD k3 wr0).1 ≠ (l.getD k2 wr0).1 from by rw [(unhide HZ).1, (unhide HZ).2]; exact ce)
                  clear ce
                  go_wp2_with fail
                  go_quiet (fail)
                  go_wp2
                  go_roundw
                  case rel => exact ⟨k3 + 1, by omega, by go_num, below_drewN (unhide HB3) _, fun i hi => by
                    rcases Nat.lt_or_ge i k3 with q | q
                    · exact unhide HF3 i q
                    · rw [show i = k3 by omega]; exact unhide HN⟩
                  case measure => simp [intOf]; omega
              · have hkn3' : ¬ (k3 : Int) < (k2 : Int) := by omega
                clear hB3
                go_wp2
                go_roundw
                case rel => exact ⟨k2 + 1, by omega, by go_num, unhide HB3, fun i j hij hi => by
                  rcases Nat.lt_or_ge i k2 with q | q
                  · exact unhide HF2 i j hij q
                  · rw [show i = k2 by omega]; exact unhide HF3 j (by omega)⟩
                case measure => simp [intOf]; omega
          · have hkn2' : ¬ (k2 : Int) < (m : Int) := by omega
            have HND := hide (show (secs l).Nodup from secs_nodup (fun i j hij hi => unhide HF2 i j hij (by have := (unhide HL).1; omega)))
            clear HF2
            go_wp2
            go_loopw [8] (fun i wr => ∃ k : Nat, k ≤ m ∧ i = .int .i64 (k : Int) ∧ Below w.heap.size w wr ∧ ∀ i, i < k → longP (l.getD i wr0) = false) (fun i _ => m - (intOf i).toNat)
            case atStart => exact ⟨0, by omega, rfl, unhide HB2, fun i hi => absurd hi (Nat.not_lt_zero i)⟩
            case round =>
              obtain ⟨k4, hk4, rfl, hB4, hF4⟩ := hrel
              obtain ⟨wt, rfl⟩ : ∃ wo, wo = wr := ⟨_, rfl⟩
              clear HB2
              have HB4 := hide hB4
              have HF4 := hide hF4
              clear hF4
              by_cases hkn4 : k4 < m
              · have hkn4' : (k4 : Int) < (m : Int) := by omega
                have k40 : (0 : Int) ≤ (k4 : Int) := by omega
                obtain ⟨g, oo, rfl, hgl, _, q1⟩ := (unhide HL).2 k4 (by rw [← (unhide HL).1]; exact hkn4)
                have a1 : wt.cell? ⟨g, oo + k4 * 2 + 1, none⟩ = some (.string (l.getD k4 wr0).2) := by rw [hB4.cell (p := ⟨g, _, none⟩) hgl]; exact q1
                have HX := hide (show longP (l.getD k4 wr0) = decide ((l.getD k4 wr0).2.size ≠ 256) from rfl)
                obtain ⟨t, ht⟩ : ∃ z, (l.getD k4 wr0).2 = z := ⟨_, rfl⟩
                rw [ht] at a1 HX
                clear hB4 hgl q1 ht
                by_cases ce : t.size = 256
                · have d1 : ((t.size : Int) != 256) = false := by rw [ce]; rfl
                  have HN := hide (show longP (l.getD k4 wr0) = false from by rw [unhide HX]; simpa using ce)
                  clear ce
                  go_wp2
                  go_roundw
                  case rel => exact ⟨k4 + 1, by omega, by go_num, unhide HB4, fun i hi => by
                    rcases Nat.lt_or_ge i k4 with q | q
                    · exact unhide HF4 i q
                    · rw [show i = k4 by omega]; exact unhide HN⟩
                  case measure => simp [intOf]; omega
                · have d1 : ((t.size : Int) != 256) = true := by simp; omega
                  have HE := hide (show refE l (sz : Int) = 42 from by
                    rw [refE, if_neg (by rw [← (unhide HL).1]; exact h16), if_neg (by rw [unhide HNO]; decide), if_neg (fun q => q (unhide HND)), if_pos (any_at k4 (by rw [← (unhide HL).1]; exact hkn4) (by rw [unhide HX]; simpa using ce))])
                  clear ce
                  go_wp2
                  go_ret
                  exact ⟨by rw [unhide HE]; rfl, unhide HB4⟩
              · have hkn4' : ¬ (k4 : Int) < (m : Int) := by omega
                have HE := hide (show refE l (sz : Int) = 0 from by
                  rw [refE, if_neg (by rw [← (unhide HL).1]; exact h16), if_neg (by rw [unhide HNO]; decide), if_neg (fun q => q (unhide HND)), if_neg (by rw [any_not (q := longP) (fun i hi => unhide HF4 i (by have := (unhide HL).1; omega))]; decide)])
                clear hB4
                go_wp2
                go_ret
                exact ⟨by rw [unhide HE]; rfl, unhide HB4⟩
end Go.Proofs.YtiokejnlioghiaaGreatDoor

namespace Go.Proofs.YtiokejnlioghiaaGreatDoor
open Go.RowKit
set_option maxRecDepth 100000
/-- k writes of acts' first run are done; its two lists have as many. -/
def AcI (w : World) (base b : Nat) (v : RV) (s : DSt) (L F : List Wr1) (k : Nat) (vp vd : Value) (wr : World) : Prop :=
  ∃ v' sk, Rk wr base b v' sk ∧ Sane sk ∧ Coh sk ∧ layR s L = layR sk (L.drop k) ∧ Only (Fr4 b v) w wr ∧ (∀ x, Fr4 b v' x → Fr4 b v x ∨ w.heap.size ≤ x) ∧ sk.pend.length ≤ s.pend.length + k ∧ sk.acts.length ≤ s.acts.length + k ∧ sk.last.length = s.last.length ∧
    ∃ p c q d, vp = .slice p k c ∧ vd = .slice q k d ∧ wr.ownsRow w.heap.size 3 1 (.slice p k c) k ((secs (F.take k)).map (Value.int .i64)) ∧ wr.ownsRow w.heap.size 9 1 (.slice q k d) k (strs ((F.take k).map (·.2))) ∧ ∀ g, (Value.slice q k d).ownBlock = some g → ¬ Fr4 b v' g
theorem ft3 : FT 3 := by unfold FT; decide
theorem writeS_lastX (s : DSt) (i : Int) (t : ByteArray) : (writeS s i t).last = s.last := by
  unfold writeS
  split
  · split
    · split
      · exact diesS_last s
      · exact diesS_last s
    · rfl
  · rfl
/-- the first list has grown -/
theorem ac_one {wo wo2 y1 : World} {base b N k : Nat} {v' : RV} {sk : DSt} {p q : Option Addr} {c d : Nat} {xs ys : List Value} (hR : Rk wo base b v' sk) (hvp : wo.ownsRow N 3 1 (.slice p k c) k xs) (hvd : wo.ownsRow N 9 1 (.slice q k d) k ys) (b1 : Below wo.heap.size wo wo2) (hg1 : Only (fun g => (Value.slice p k c).ownBlock = some g) wo2 y1) :
    Rk y1 base b v' sk ∧ y1.ownsRow N 9 1 (.slice q k d) k ys ∧ Only (fun g => (Value.slice p k c).ownBlock = some g) wo y1 := by
  have hO : Only (fun g => (Value.slice p k c).ownBlock = some g) wo y1 := (Only.of_below b1).trans hg1 (fun _ _ q => q)
  refine ⟨hR.only hO (fun g hg e => ?_), owns_only hvd hO (fun g hg e => ?_), hO⟩
  · obtain ⟨cur, hB⟩ := own_blk hvp e
    exact hR.noty hB ft3 hg
  · obtain ⟨cur, hB⟩ := own_blk hvp e
    obtain ⟨cur2, hB2⟩ := own_blk hvd hg
    exact absurd (blk_ty hB hB2) (by decide)
/-- and the second -/
theorem ac_two {y1 y2 y3 : World} {base b N k k' : Nat} {v' : RV} {sk : DSt} {p q : Option Addr} {c d g2 : Nat} {xs ys : List Value} (hR : Rk y1 base b v' sk) (hvp : y1.ownsRow N 3 1 (.slice p k' c) k' xs) (hvd : y1.ownsRow N 9 1 (.slice q k d) k ys) (hnd : ∀ g, (Value.slice q k d).ownBlock = some g → ¬ Fr4 b v' g) (b2 : Below y1.heap.size y1 y2) (hg2 : Only (fun g => (Value.slice q k d).ownBlock = some g) y2 y3) (hor : (Value.slice q k d).ownBlock = some g2 ∨ g2 = y2.heap.size) :
    Rk y3 base b v' sk ∧ y3.ownsRow N 3 1 (.slice p k' c) k' xs ∧ ¬ Fr4 b v' g2 ∧ Only (fun g => (Value.slice q k d).ownBlock = some g) y1 y3 := by
  have hO : Only (fun g => (Value.slice q k d).ownBlock = some g) y1 y3 := (Only.of_below b2).trans hg2 (fun _ _ q => q)
  refine ⟨hR.only hO (fun g hg e => hnd g e hg), owns_only hvp hO (fun g hg e => ?_), ?_, hO⟩
  · obtain ⟨cur, hB⟩ := own_blk hvd e
    obtain ⟨cur2, hB2⟩ := own_blk hvp hg
    exact absurd (blk_ty hB hB2) (by decide)
  · rcases hor with e | e
    · exact hnd g2 e
    · intro hf
      have := hR.frT g2 hf
      have := b2.size
      omega
theorem ac_only {w wo y1 y3 : World} {b k : Nat} {v : RV} {p q : Option Addr} {c d : Nat} {xs ys : List Value} (hO : Only (Fr4 b v) w wo) (hvp : wo.ownsRow w.heap.size 3 1 (.slice p k c) k xs) (hvd : y1.ownsRow w.heap.size 9 1 (.slice q k d) k ys) (o1 : Only (fun g => (Value.slice p k c).ownBlock = some g) wo y1) (o2 : Only (fun g => (Value.slice q k d).ownBlock = some g) y1 y3) : Only (Fr4 b v) w y3 :=
  (hO.trans o1 (fun g hg e => by have := (hvp.lt g e).1; omega)).trans o2 (fun g hg e => by have := (hvd.lt g e).1; omega)
theorem take_snocF {F : List Wr1} {k : Nat} {z : Int} {t : ByteArray} (hk : k < F.length) (hz : F.getD k wr0 = (z, t)) : F.take (k + 1) = F.take k ++ [(z, t)] := by
  rw [List.take_add_one, ← hz, List.getD_eq_getElem?_getD, List.getElem?_eq_getElem hk]
  rfl
/-- behind one write more -/
theorem AcI.next {w : World} {base b : Nat} {v v' : RV} {s sk : DSt} {L F : List Wr1} {k : Nat} {y3 y4 : World} {g1 c1 g2 c2 : Nat} {z i : Int} {t : ByteArray} (hSs : Sane sk) (hC : Coh sk) (hE : layR s L = layR sk (L.drop k)) (hO3 : Only (Fr4 b v) w y3) (hF : ∀ x, Fr4 b v' x → Fr4 b v x ∨ w.heap.size ≤ x) (hp : sk.pend.length ≤ s.pend.length + k) (ha : sk.acts.length ≤ s.acts.length + k) (hla : sk.last.length = s.last.length)
    (hR3 : Rk y3 base b v' sk) (ho1 : y3.ownsRow w.heap.size 3 1 (.slice (some ⟨g1, 0, none⟩) (k + 1) c1) (k + 1) (((secs (F.take k)).map (Value.int .i64)) ++ [.int .i64 z])) (ho2 : y3.ownsRow w.heap.size 9 1 (.slice (some ⟨g2, 0, none⟩) (k + 1) c2) (k + 1) ((strs ((F.take k).map (·.2))) ++ [.string t])) (hn2 : ¬ Fr4 b v' g2) (hP : RPst base b v' (writeS sk i t) y3 y4) (he : layR sk (L.drop k) = layR (writeS sk i t) (L.drop (k + 1))) (hk : k < F.length) (hz : F.getD k wr0 = (z, t)) :
    AcI w base b v s L F (k + 1) (.slice (some ⟨g1, 0, none⟩) (k + 1) c1) (.slice (some ⟨g2, 0, none⟩) (k + 1) c2) y4 := by
  have g1n : ∀ g, (Value.slice (some ⟨g1, 0, none⟩) (k + 1) c1).ownBlock = some g → ¬ Fr4 b v' g := fun g e => by
    obtain ⟨cur, hB⟩ := own_blk ho1 e
    exact hR3.noty hB ft3
  have g2n : ∀ g, (Value.slice (some ⟨g2, 0, none⟩) (k + 1) c2).ownBlock = some g → g = g2 := fun g e => by simpa [Value.ownBlock] using e.symm
  have l2 : g2 < y3.heap.size := (ho2.lt g2 rfl).2
  obtain ⟨v2, k1, k2, k3⟩ := hP
  have hpg := pend_grow sk i t
  have hag := acts_grow sk i t
  obtain ⟨v3, k1', k2', k3'⟩ := RPst.trans hO3 hF ⟨v2, k1, k2, k3⟩
  have et := take_snocF hk hz
  refine ⟨v2, writeS sk i t, k1, hSs.write i t, hC.write i t, by rw [hE, he], k2', fun x hx => ?_, by omega, by omega, by rw [writeS_lastX]; exact hla, _, _, _, _, rfl, rfl, ?_, ?_, fun g e => ?_⟩
  · rcases k3 x hx with q | q
    · exact hF x q
    · exact .inr (Nat.le_trans hO3.size q)
  · have := owns_only ho1 k2 (fun g hg e => g1n g hg e)
    rw [et]
    simpa [secs] using this
  · have := owns_only ho2 k2 (fun g hg e => hn2 (by rw [← g2n g hg]; exact e))
    rw [et]
    simpa [strs] using this
  · rw [g2n g e]
    intro hf
    rcases k3 g2 hf with q | q
    · exact hn2 q
    · omega
/-- the last two runs -/
theorem runs_sec (s : DSt) (n : Nat) (L : List Wr1) : runsR s [L, [(1, headB n [])]] = secR s n L := by
  rw [runsR, secR]
  by_cases h : (layR s L).1 = 0
  · rw [if_pos h, if_pos h, runsR]
    by_cases q : (layR (layR s L).2 [(1, headB n [])]).1 = 0
    · rw [if_pos q, runsR]
      exact Prod.ext q.symm rfl
    · rw [if_neg q]
  · rw [if_neg h, if_neg h]
theorem ref0 {l : List Wr1} {size : Int} (h : refE l size = 0) : l.length ≤ 16 ∧ ∀ x ∈ l, 19 ≤ x.1 ∧ x.1 < size := by
  unfold refE at h
  split at h
  · omega
  · rename_i h1
    split at h
    · omega
    · rename_i h2
      refine ⟨by omega, fun x hx => ?_⟩
      have h3 : l.any (freeP size) = false := by simpa using h2
      have h4 := List.any_eq_false.1 h3 x hx
      simpa [freeP] using h4
theorem fill_mem {l : List Wr1} {size : Int} (h : refE l size = 0) (hs : size ≤ 1024) : ∀ z ∈ secs (filled l), 0 ≤ z ∧ z < 4294967296 := by
  intro z hz
  obtain ⟨x, hx, rfl⟩ := List.mem_map.1 hz
  rcases List.mem_append.1 hx with q | q
  · have := (ref0 h).2 x q
    omega
  · rw [List.eq_of_mem_replicate q]
    exact ⟨by decide, by decide⟩
end Go.Proofs.YtiokejnlioghiaaGreatDoor
