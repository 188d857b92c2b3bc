import Derived.Test.YtffiaogbphgmgaaGreatDoorMz19
import Derived.BigQuiet
import Derived.Test.YtffiaogbphgmgaaGreatDoorMz17
import Derived.Test.YtffiaogbphgmgaaGreatDoorMz14
namespace Go.Proofs.YtffiaogbphgmgaaGreatDoor
open Go.RowKit
/-- The last of the first k writes to a sector, if there is one; else what lasts. -/
def nowP (L : List ByteArray) (P : List (Nat × ByteArray)) (i : Nat) : ByteArray := (layP L P).getD i ByteArray.empty
theorem nowP_hit (L : List ByteArray) (P : List (Nat × ByteArray)) (i k : Nat) (hi : i < L.length) (hk : k < P.length) (h1 : P[k].1 = i) (hl : ∀ j, (hj : j < P.length) → k < j → P[j].1 ≠ i) : nowP L P i = P[k].2 := by
  have := lay_last L P (List.replicate P.length true) (by simp) k hk (by simp [hk]) (by omega) (fun b hb hab _ => by rw [h1]; exact hl b hb hab)
  rw [keepP_all, h1] at this
  exact this
theorem nowP_miss (L : List ByteArray) (P : List (Nat × ByteArray)) (i : Nat) (hl : ∀ j, (hj : j < P.length) → P[j].1 ≠ i) : nowP L P i = L.getD i ByteArray.empty :=
  layP_far i P L (fun p hp => by
    obtain ⟨j, hj, e⟩ := List.getElem_of_mem hp
    rw [← e]
    exact hl j hj)
set_option maxRecDepth 100000 in
set_option maxHeartbeats 2000000 in
theorem rnow_any (w : World) (base b : Nat) (v : RV) (s : DSt) (h : Rk w base b v s) (hp : s.pend.length ≤ 1000000000) (i : Nat) (hi : i < s.last.length) :
    Calls Tryz.prog 75 #[.pointer (some ⟨b, 0, none⟩), .int .i64 (i : Int)] w fun e w' => e = .returned (.string (nowP s.last s.pend i)) ∧ Below w.heap.size w w' := by
  obtain ⟨gl, cl, evl, _⟩ := h.rl.form (by omega)
  have hgl : v.l.ownBlock = some gl := by rw [evl]; rfl
  obtain ⟨pp, cp, evp, _⟩ := row_form h.rp
  have d0 : w.cell? ⟨b, 0, none⟩ = some (.slice (some ⟨gl, 0, none⟩) s.last.length cl) := by rw [h.blk.cell 0, ← evl]; rfl
  have d1 : w.cell? ⟨b, 1, none⟩ = some (.slice pp s.pend.length cp) := by rw [h.blk.cell 1, ← evp]; rfl
  have dj : w.cell? ⟨gl, i, none⟩ = some (.string (s.last.getD i ByteArray.empty)) := by rw [(own_at h.rl hgl i hi).1]; exact strs_at _ _ hi
  have H := hide h
  have HEP := hide evp
  have HDJ := hide dj
  have D0 := hide d0
  have D1 := hide d1
  have hbl := h.blk.lt
  have hglt := (h.rl.lt gl hgl).2
  have w1 : IntKind.i64.wrap ((s.pend.length : Int) - 1) = (s.pend.length : Int) - 1 := wrapI_eq _ (by omega) (by omega)
  clear h evl evp dj hgl
  go_enter Tryz.func75, Tryz.ntmps75
  go_wp2
  clear w1
  go_loopw [5] (fun u wr => ∃ k : Nat, k ≤ s.pend.length ∧ u = .int .i64 ((k : Int) - 1) ∧ (∀ j, (hj : j < s.pend.length) → k ≤ j → s.pend[j].1 ≠ i) ∧ Below w.heap.size w wr) (fun u _ => (intOf u + 1).toNat)
  case atStart => exact ⟨s.pend.length, by omega, rfl, fun j hj hk => absurd hj (by omega), Below.refl _ _⟩
  case round =>
    obtain ⟨k, hk, rfl, hno, hb⟩ := hrel
    have XB := hide hb
    have XN := hide hno
    have e0 : wr.cell? ⟨b, 0, none⟩ = some (.slice (some ⟨gl, 0, none⟩) s.last.length cl) := by rw [hb.cell (p := ⟨b, 0, none⟩) hbl]; exact unhide D0
    have e1 : wr.cell? ⟨b, 1, none⟩ = some (.slice pp s.pend.length cp) := by rw [hb.cell (p := ⟨b, 1, none⟩) hbl]; exact unhide D1
    have XH := hide ((unhide H).below hb)
    clear hno d0 d1
    cases k with
    | zero =>
      have ej : wr.cell? ⟨gl, i, none⟩ = some (.string (s.last.getD i ByteArray.empty)) := by rw [hb.cell (p := ⟨gl, i, none⟩) hglt]; exact unhide HDJ
      have HV := hide (nowP_miss s.last s.pend i (fun j hj => unhide XN j hj (Nat.zero_le _)))
      generalize hT : s.last.getD i ByteArray.empty = T at *
      have HT := hide hT
      clear hT hb
      simp only [Int.ofNat_zero, Int.zero_sub]
      go_wp2
      go_ret
      refine ⟨?_, unhide XB⟩
      rw [unhide HV]
      try rw [unhide HT]
      rfl
    | succ m =>
      have hm : m < s.pend.length := by omega
      obtain ⟨gp, rfl⟩ : ∃ gp, pp = some ⟨gp, 0, none⟩ := by
        obtain ⟨g, cap', e, _⟩ := (unhide XH).rp.form (by omega)
        rw [unhide HEP] at e
        simp at e
        exact ⟨g, e.1⟩
      have hgp : v.p.ownBlock = some gp := by rw [unhide HEP]; rfl
      obtain ⟨w0, w1⟩ := wrs_at s.pend m hm
      have cp0 : wr.cell? ⟨gp, m * 2, none⟩ = some (.int .i64 ((s.pend[m].1 : Nat) : Int)) := by rw [(own_at2 (unhide XH).rp hgp (m * 2) (by omega)).1]; exact w0
      have cp1 : wr.cell? ⟨gp, m * 2 + 1, none⟩ = some (.string s.pend[m].2) := by rw [(own_at2 (unhide XH).rp hgp (m * 2 + 1) (by omega)).1]; exact w1
      have ez : ((m + 1 : Nat) : Int) - 1 = (m : Int) := by omega
      have HHIT := hide (fun (h1 : s.pend[m].1 = i) => nowP_hit s.last s.pend i m hi hm h1 (fun j hj hmj => unhide XN j hj (by omega)))
      obtain ⟨jj, hj⟩ : ∃ jj, jj = s.pend[m].1 := ⟨_, rfl⟩
      obtain ⟨tt, ht⟩ : ∃ tt, tt = s.pend[m].2 := ⟨_, rfl⟩
      rw [← hj] at cp0
      rw [← ht] at cp1
      have HJ := hide hj
      have HTT := hide ht
      have i0 : 0 ≤ (m : Int) := by omega
      have i1 : (m : Int) < (s.pend.length : Int) := by omega
      have w2 : IntKind.i64.wrap ((m : Int) - 1) = (m : Int) - 1 := wrapI_eq _ (by omega) (by omega)
      clear w0 w1 hj ht hgp hb
      rw [ez]
      clear ez
      by_cases hji : jj = i
      · subst hji
        go_wp2
        go_ret
        refine ⟨?_, unhide XB⟩
        rw [unhide HHIT (unhide HJ).symm, ← unhide HTT]
        rfl
      · have hje : ((jj : Int) == (i : Int)) = false := by rw [beq_eq_false_iff_ne]; omega
        have HJI := hide hji
        go_wp2
        go_roundw
        case rel =>
          refine ⟨m, by omega, rfl, fun j hj hmj => ?_, unhide XB⟩
          rcases Nat.eq_or_lt_of_le hmj with h | h
          · subst h; rw [← unhide HJ]; exact unhide HJI
          · exact unhide XN j hj (by omega)
        case measure => simp [intOf]
end Go.Proofs.YtffiaogbphgmgaaGreatDoor

namespace Go.Proofs.YtffiaogbphgmgaaGreatDoor
open Go.RowKit
def ints (l : List Int) : List Value := l.map (Value.int .i64)
theorem Ints.below {w w' : World} {p : Option Addr} {l : List Int} (h : Ints w p l) (hb : Below w.heap.size w w') : Ints w' p l := fun j hj => by
  obtain ⟨g, o, h1, h2, h3⟩ := h j hj
  exact ⟨g, o, h1, Nat.lt_of_lt_of_le h2 hb.size, (hb.cell (p := ⟨g, o + j, none⟩) h2).trans h3⟩
end Go.Proofs.YtffiaogbphgmgaaGreatDoor

namespace Go.Proofs.YtffiaogbphgmgaaGreatDoor
open Go.RowKit
set_option maxRecDepth 100000 in
set_option maxHeartbeats 1500000 in
theorem rcrash_any (w : World) (base b : Nat) (v : RV) (s : DSt) (h : Rk w base b v s) (hS : Sane s) (hp : s.pend.length ≤ 1000000000) (p : Option Addr) (l : List Int) (c : Nat) (hl : Ints w p l) (hll : l.length ≤ 9223372036854775807) (hout : ∀ g o, p = some ⟨g, o, none⟩ → 0 < l.length → ¬ Fr4 b v g) :
    Calls Tryz.prog 26 #[.pointer (some ⟨b, 0, none⟩), .slice p l.length c] w fun e w' => e = .returned (.int .i64 (crashE s l)) ∧ RPst base b v (crashS s l) w w' := by
  obtain ⟨pp, cp, evp, _⟩ := row_form h.rp
  have d1 : w.cell? ⟨b, 1, none⟩ = some (.slice pp s.pend.length cp) := by rw [h.blk.cell 1, ← evp]; rfl
  have H := hide h
  have HS := hide hS
  have HL := hide hl
  have HO := hide hout
  have HEP := hide evp
  clear h hS hl hout evp
  go_enter Tryz.func26, Tryz.ntmps26
  go_wp2
  go_loopw [5] (fun u wr => ∃ k : Nat, k ≤ l.length ∧ u = .int .i64 (k : Int) ∧ (∀ z ∈ l.take k, pickOk s.pend.length z) ∧ Below w.heap.size w wr) (fun u _ => l.length - (intOf u).toNat)
  case atStart => exact ⟨0, by omega, rfl, fun z hz => by simp at hz, Below.refl _ _⟩
  case round =>
    obtain ⟨k, hk, rfl, hok, hbw⟩ := hrel
    have XOK := hide hok
    have XBW := hide hbw
    have d1w : wr.cell? ⟨b, 1, none⟩ = some (.slice pp s.pend.length cp) := by rw [hbw.cell (p := ⟨b, 1, none⟩) (unhide H).blk.lt]; exact d1
    clear hok hbw
    by_cases hkl : k < l.length
    · obtain ⟨g, o, rfl, hg, hc0⟩ := unhide HL k hkl
      have hc : wr.cell? ⟨g, o + k, none⟩ = some (.int .i64 (l.getD k 0)) := by rw [(unhide XBW).cell (p := ⟨g, o + k, none⟩) hg]; exact hc0
      have i0 : 0 ≤ (k : Int) := by omega
      have i1 : (k : Int) < (l.length : Int) := by omega
      clear hc0
      have HT := hide (show l.take (k + 1) = l.take k ++ [l.getD k 0] by
        rw [List.take_succ_eq_append_getElem hkl]
        simp [List.getD_eq_getElem?_getD, hkl])
      have HM := hide (show l.getD k 0 ∈ l by simp [List.getD_eq_getElem?_getD, hkl])
      generalize l.getD k 0 = z at *
      by_cases hz : pickOk s.pend.length z
      · have HZ := hide hz
        have hz1 := hz.1
        have hz2 := hz.2
        have hzb : decide (z < 0) = false := decide_eq_false (by omega)
        clear hz
        go_wp2_with fail
        go_quiet (fail)
        go_wp2
        go_roundw
        case rel =>
          refine ⟨k + 1, by omega, by go_num, fun y hy => ?_, below_drewN (unhide XBW) _⟩
          rw [unhide HT] at hy
          rcases List.mem_append.1 hy with hy | hy
          · exact unhide XOK y hy
          · simp at hy; subst hy; exact unhide HZ
        case measure => simp [intOf]; omega
      · have HEE := hide (show ¬ ∀ z ∈ l, pickOk s.pend.length z from fun h => hz (h z (unhide HM)))
        by_cases hz0 : z < 0
        · clear hz
          have hzb : decide (z < 0) = true := decide_eq_true hz0
          go_wp2_with fail
          go_quiet (fail)
          go_wp2
          go_ret
          exact ⟨by rw [crashE, if_neg (unhide HEE)]; rfl, by rw [crashS, if_neg (unhide HEE)]; exact ⟨v, (unhide H).below (below_drewN (unhide XBW) _), Only.of_below (below_drewN (unhide XBW) _), fun _ q => .inl q⟩⟩
        · have hz1 : (s.pend.length : Int) ≤ z := by
            have : ¬ (0 ≤ z ∧ z < (s.pend.length : Int)) := hz
            omega
          have hzb : decide (z < 0) = false := decide_eq_false hz0
          clear hz
          go_wp2_with fail
          go_quiet (fail)
          go_wp2
          go_ret
          exact ⟨by rw [crashE, if_neg (unhide HEE)]; rfl, by rw [crashS, if_neg (unhide HEE)]; exact ⟨v, (unhide H).below (below_drewN (unhide XBW) _), Only.of_below (below_drewN (unhide XBW) _), fun _ q => .inl q⟩⟩
    · have hall : ∀ z ∈ l, pickOk s.pend.length z := by have := unhide XOK; rw [List.take_of_length_le (by omega)] at this; exact this
      have HALL := hide hall
      have hkn := keptL_len s.pend.length l
      clear hall XOK hk
      go_wp2
      clear hkl
      have H9 := hide ((unhide H).below (unhide XBW))
      have HL9 := hide ((unhide HL).below (unhide XBW))
      obtain ⟨w9, rfl⟩ : ∃ w9, w9 = wr := ⟨_, rfl⟩
      clear d1w
      go_loopw [6] (fun u wr => ∃ m : Nat, m ≤ s.pend.length ∧ u = .int .i64 (m : Int) ∧ Rk wr base b v { s with last := layP s.last (keepP (s.pend.take m) ((keptL s.pend.length l).take m)) } ∧ Only (Fr4 b v) w9 wr) (fun u _ => s.pend.length - (intOf u).toNat)
      case atStart => exact ⟨0, by omega, rfl, by simpa [keepP, layP] using unhide H9, Only.refl _ _⟩
      case round =>
        obtain ⟨m, hm, rfl, hR, hO⟩ := hrel
        obtain ⟨wa, rfl⟩ : ∃ wo, wo = wr := ⟨_, rfl⟩
        have YR := hide hR
        have YO := hide hO
        have e1 : wa.cell? ⟨b, 1, none⟩ = some (.slice pp s.pend.length cp) := by rw [hR.blk.cell 1, ← unhide HEP]; rfl
        clear hR hO
        by_cases hml : m < s.pend.length
        · have HKC := hide (fun (j : Nat) (hj : j < l.length) => (show ∃ g o, p = some ⟨g, o, none⟩ ∧ wa.cell? ⟨g, o + j, none⟩ = some (.int .i64 (l.getD j 0)) from by
            obtain ⟨g, o, ep, hg, hc⟩ := unhide HL9 j hj
            exact ⟨g, o, ep, (World.cell?_of_block (a := ⟨g, o + j, none⟩) ((unhide YO).2 g hg (unhide HO g o ep (by omega)))).trans hc⟩))
          go_wp2
          go_loopw [7, 8] (fun nm u wr => ∃ q : Nat, q ≤ l.length ∧ nm = .bool (decide ((m : Int) ∈ l.take q)) ∧ u = .int .i64 (q : Int) ∧ wr = wa) (fun _ u _ => l.length - (intOf u).toNat)
          case atStart => exact ⟨0, by omega, by simp, rfl, rfl⟩
          case round =>
            obtain ⟨q, hq, rfl, rfl, hwa⟩ := hrel
            rw [hwa]
            by_cases hql : q < l.length
            · obtain ⟨g, o, rfl, hc⟩ := unhide HKC q hql
              have HT := hide (show decide ((m : Int) ∈ l.take (q + 1)) = (decide ((m : Int) ∈ l.take q) || (l.getD q 0 == (m : Int))) by
                rw [List.take_succ_eq_append_getElem hql, show l.getD q 0 = l[q] by simp [List.getD_eq_getElem?_getD, hql]]
                rw [Bool.eq_iff_iff]
                simp only [decide_eq_true_eq, List.mem_append, List.mem_singleton, Bool.or_eq_true, beq_iff_eq]
                exact or_congr Iff.rfl eq_comm)
              generalize l.getD q 0 = z at *
              generalize decide ((m : Int) ∈ l.take q) = nb at *
              have i0 : 0 ≤ (q : Int) := by omega
              have i1 : (q : Int) < (l.length : Int) := by omega
              cases nb with
              | true =>
                go_wp2
                go_roundw
                case rel => exact ⟨q + 1, by omega, by rw [unhide HT]; rfl, by go_num, by first | rfl | trivial⟩
                case measure => simp [intOf]; omega
              | false =>
                go_wp2
                go_roundw
                case rel => exact ⟨q + 1, by omega, by rw [unhide HT]; rfl, by go_num, by first | rfl | trivial⟩
                case measure => simp [intOf]; omega
            · have hql' : q = l.length := by omega
              have HN := hide (show (keptL s.pend.length l)[m]'(by rw [keptL_len]; exact hml) = decide ((m : Int) ∈ l.take q) by
                rw [hql', List.take_length]; simp [keptL])
              have HK2 := hide (show (keptL s.pend.length l).take (m + 1) = (keptL s.pend.length l).take m ++ [(keptL s.pend.length l)[m]'(by rw [keptL_len]; exact hml)] by simp)
              have HP2 := hide (show s.pend.take (m + 1) = s.pend.take m ++ [s.pend[m]] by simp)
              have HLL := hide (show (s.pend.take m).length = ((keptL s.pend.length l).take m).length by simp [keptL_len])
              clear hql' hkn
              generalize decide ((m : Int) ∈ l.take q) = nb at *
              cases nb with
              | false =>
                go_wp2
                go_roundw
                case rel =>
                  refine ⟨m + 1, by omega, by go_num, ?_, unhide YO⟩
                  rw [unhide HK2, unhide HP2, unhide HN, keepP_snoc _ _ _ _ (unhide HLL)]
                  simpa using unhide YR
                case measure => simp [intOf]; omega
              | true =>
                have hlen : (layP s.last (keepP (s.pend.take m) ((keptL s.pend.length l).take m))).length = s.last.length := layP_len _ _
                obtain ⟨gp, cp2, evp, _⟩ := (unhide YR).rp.form (show 0 < s.pend.length by omega)
                obtain ⟨gl, cl, evl, _⟩ := (unhide YR).rl.form (by show 0 < (layP s.last _).length; rw [hlen]; exact (unhide HS).pos)
                have hgp : v.p.ownBlock = some gp := by rw [evp]; rfl
                have hgl : v.l.ownBlock = some gl := by rw [evl]; rfl
                have d0 : wa.cell? ⟨b, 0, none⟩ = some (.slice (some ⟨gl, 0, none⟩) s.last.length cl) := by rw [(unhide YR).blk.cell 0, ← hlen, ← evl]; rfl
                clear e1
                have d1 : wa.cell? ⟨b, 1, none⟩ = some (.slice (some ⟨gp, 0, none⟩) s.pend.length cp2) := by rw [(unhide YR).blk.cell 1, ← evp]; rfl
                obtain ⟨w0, w1⟩ := wrs_at s.pend m hml
                have cp0 : wa.cell? ⟨gp, m * 2, none⟩ = some (.int .i64 ((s.pend[m].1 : Nat) : Int)) := by rw [(own_at2 (unhide YR).rp hgp (m * 2) (by show m * 2 < s.pend.length * 2; omega)).1]; exact w0
                have cp1 : wa.cell? ⟨gp, m * 2 + 1, none⟩ = some (.string s.pend[m].2) := by rw [(own_at2 (unhide YR).rp hgp (m * 2 + 1) (by show m * 2 + 1 < s.pend.length * 2; omega)).1]; exact w1
                have hjl : s.pend[m].1 < s.last.length := (unhide HS).pend _ (List.getElem_mem hml)
                obtain ⟨jj, hj⟩ : ∃ jj, jj = s.pend[m].1 := ⟨_, rfl⟩
                obtain ⟨tt, ht⟩ : ∃ tt, tt = s.pend[m].2 := ⟨_, rfl⟩
                rw [← hj] at cp0 hjl
                rw [← ht] at cp1
                have hjl2 : jj < (layP s.last (keepP (s.pend.take m) ((keptL s.pend.length l).take m))).length := by rw [hlen]; exact hjl
                have dj : wa.cell? ⟨gl, jj, none⟩ = some (.string ((layP s.last (keepP (s.pend.take m) ((keptL s.pend.length l).take m))).getD jj ByteArray.empty)) := by rw [(own_at (unhide YR).rl hgl jj hjl2).1]; exact strs_at _ _ hjl2
                have fj : wa.frozen? ⟨gl, jj, none⟩ = false := (own_at (unhide YR).rl hgl jj hjl2).2
                clear hjl2
                have HJ := hide hj
                have HTT := hide ht
                have HGL := hide hgl
                clear w0 w1 hj ht hgp hgl hlen evp evl
                generalize (layP s.last (keepP (s.pend.take m) ((keptL s.pend.length l).take m))).getD jj ByteArray.empty = old at *
                have i0 : 0 ≤ (jj : Int) := by omega
                have i1 : (jj : Int) < (s.last.length : Int) := by omega
                have i2 : 0 ≤ (m : Int) := by omega
                have i3 : (m : Int) < (s.pend.length : Int) := by omega
                go_wp2_with fail
                go_still_tail 21, (by kernel_rfl)
                change wpList _ _ _ _ _ wa.drew
                go_wp2
                go_roundw
                case rel =>
                  refine ⟨m + 1, by omega, by go_num, ?_, (unhide YO).drew.setCell _ _ (fun _ => .inr (.inl (unhide HGL)))⟩
                  rw [unhide HK2, unhide HP2, unhide HN, keepP_snoc _ _ _ _ (unhide HLL)]
                  rw [if_pos rfl, layP_snoc, ← unhide HJ, ← unhide HTT]
                  exact (unhide YR).drew.setLast gl jj (unhide HGL) tt
                case measure => simp [intOf]; omega
        · have hm' : m = s.pend.length := by omega
          have YE := hide (show Rk wa base b v { s with last := layP s.last (keepP s.pend (keptL s.pend.length l)) } by
            have := unhide YR
            rwa [hm', List.take_length, List.take_of_length_le (by rw [keptL_len]; exact Nat.le_refl _)] at this)
          have f1 := (unhide YE).blk.frozen 1
          have YN := hide (unhide YE).nilP
          have f3 := (unhide YN).blk.frozen 3
          have YD3 := hide ((unhide YN).setDead false)
          have f2 := (unhide YD3).blk.frozen 2
          have d2 : ∃ x, wa.cell? ⟨b, 2, none⟩ = some x := ⟨_, by rw [(unhide YE).blk.cell 2]; rfl⟩
          have c3 : wa.cell? ⟨b, 3, none⟩ = some (.bool s.dead) := by rw [(unhide YE).blk.cell 3]; rfl
          have c2 : wa.cell? ⟨b, 2, none⟩ = some (.int .i64 s.fuse) := by rw [(unhide YE).blk.cell 2]; rfl
          have c23 : ((wa.setCell ⟨b, 1, none⟩ (.slice none 0 0)).setCell ⟨b, 3, none⟩ (.bool false)).cell? ⟨b, 2, none⟩ = some (.int .i64 s.fuse) := by rw [(unhide YD3).blk.cell 2]; rfl
          have c33 : (wa.setCell ⟨b, 1, none⟩ (.slice none 0 0)).cell? ⟨b, 3, none⟩ = some (.bool s.dead) := by rw [(unhide YN).blk.cell 3]; rfl
          have YF := hide (((unhide YD3).setFuse 0).now (layP s.last (keepP s.pend (keptL s.pend.length l))))
          clear hm' d2 YR
          go_wp2
          go_ret
          refine ⟨by rw [crashE, if_pos (unhide HALL)]; rfl, { v with p := .slice none 0 0 }, by rw [crashS, if_pos (unhide HALL)]; exact unhide YF, ?_, fun q hq => ?_⟩
          · exact only_r (only_r (only_r ((Only.of_below (unhide XBW)).trans (unhide YO) (fun _ _ q => q)) _ _) _ _) _ _
          · rcases hq with hq | hq | hq | hq
            · exact .inl (.inl hq)
            · exact .inl (.inr (.inl hq))
            · cases hq
            · exact .inl (.inr (.inr (.inr hq)))
end Go.Proofs.YtffiaogbphgmgaaGreatDoor

namespace Go.Proofs.YtffiaogbphgmgaaGreatDoor
open Go.RowKit
theorem Coh.diesS {s : DSt} (h : Coh s) : Coh (diesS s) := by
  refine ⟨by rw [diesS_now, diesS_last, diesS_pend]; exact h.now, fun hd => ?_⟩
  by_cases h0 : 0 < s.fuse
  · rw [Go.Proofs.YtffiaogbphgmgaaGreatDoor.diesS, if_pos h0] at hd ⊢
    have h1 : s.fuse = 1 := by simpa using hd
    show s.fuse - 1 = 0
    omega
  · rw [Go.Proofs.YtffiaogbphgmgaaGreatDoor.diesS, if_neg h0] at hd ⊢
    exact h.dead hd
theorem Coh.write {s : DSt} (h : Coh s) (i : Int) (t : ByteArray) : Coh (writeS s i t) := by
  rw [writeS]
  split
  · split
    · split
      · exact h.diesS
      · exact ⟨by show s.now.set i.toNat t = layP (Go.Proofs.YtffiaogbphgmgaaGreatDoor.diesS s).last (s.pend ++ [(i.toNat, t)]); rw [diesS_last, layP_snoc, ← h.now], h.diesS.dead⟩
    · exact h
  · exact h
theorem Coh.flush {s : DSt} (h : Coh s) : Coh (flushS s) := by
  rw [flushS]
  split
  · exact h.diesS
  · exact ⟨by show (Go.Proofs.YtffiaogbphgmgaaGreatDoor.diesS s).now = layP (layP s.last s.pend) []; rw [diesS_now]; exact h.now, h.diesS.dead⟩
theorem Coh.arm {s : DSt} (h : Coh s) (n : Int) : Coh (armS s n) := by
  rw [armS]
  split
  · exact h
  · split
    · exact h
    · rename_i hd
      exact ⟨h.now, fun q => absurd q hd⟩
theorem Coh.crash {s : DSt} (h : Coh s) (l : List Int) : Coh (crashS s l) := by
  rw [crashS]
  split
  · exact ⟨rfl, fun q => by cases q⟩
  · exact h
theorem Coh.fresh (l : List ByteArray) : Coh (freshS l) := ⟨rfl, fun q => by cases q⟩
/-- A new disk of the document is one with nothing pending and no acts. -/
theorem Rk0.rk {w : World} {base b : Nat} {u : Value} {l : List ByteArray} (h : Rk0 w base b u l) : Rk w base b ⟨u, .slice none 0 0, .slice none 0 0⟩ (freshS l) :=
  ⟨h.1, h.2.1, World.ownsRow_nil _ _ _ _, World.ownsRow_nil _ _ _ _, h.2.2⟩
end Go.Proofs.YtffiaogbphgmgaaGreatDoor

namespace Go.Proofs.YtffiaogbphgmgaaGreatDoor
open Go.RowKit
theorem clear_txt : strOfNums (headL []) = ⟨#[0]⟩ := by rw [headL_nil]; rfl
set_option maxRecDepth 100000 in
/-- The document's clear head. -/
theorem rclear_any (n : Nat) (hn : n < 4294967296) (N : Int) (hN : N = (n : Int)) (w : World) : Calls Tryz.prog 39 #[.int .i64 N] w fun e w' => e = .returned (.string (headB n [])) ∧ Below w.heap.size w w' := by
  subst hN
  have HMK := hide (rmake_ok 2 n ⟨#[0]⟩ (by decide) (by omega) (by decide) w)
  rw [show ((2 : Nat) : Int) = 2 from rfl, headB_eq n [] ⟨#[0]⟩ clear_txt] at HMK
  generalize headB n [] = hb at *
  go_enter Tryz.func39, Tryz.ntmps39
  go_wp2_with fail
  refine (unhide HMK).mono ?_
  rintro e x1 ⟨rfl, hb1⟩
  have HB := hide hb1
  clear hb1 HMK
  go_wp2
  go_ret
  exact ⟨rfl, unhide HB⟩
/-- The document's journal. -/
def Rj (w : World) (jb b n : Nat) (lost : Bool) : Prop := Blk w jb #[.pointer (some ⟨b, 0, none⟩), .int .i64 (n : Int), .bool lost] 127
theorem rnext_any (w : World) (jb b n : Nat) (lost : Bool) (hJ : Rj w jb b n lost) (hn : n < 4294967296) : Calls Tryz.prog 36 #[.pointer (some ⟨jb, 0, none⟩)] w fun e w' => e = .returned (.int .i64 (((n + 1) % 4294967296 : Nat) : Int)) ∧ w' = w := by
  have c1 : w.cell? ⟨jb, 1, none⟩ = some (.int .i64 (n : Int)) := by rw [Blk.cell hJ 1]; rfl
  have hw : IntKind.i64.wrap ((n : Int) + 1) = ((n + 1 : Nat) : Int) := by rw [wrapI_eq _ (by omega) (by omega)]; omega
  obtain ⟨m, hm⟩ : ∃ m, (n + 1) % 4294967296 = m := ⟨_, rfl⟩
  have ht : Int.tmod ((n + 1 : Nat) : Int) 4294967296 = (m : Int) := by rw [Int.tmod_eq_emod_of_nonneg (by omega), ← hm]; omega
  have hw2 : IntKind.i64.wrap (m : Int) = (m : Int) := wrapI_eq _ (by omega) (by omega)
  rw [hm]
  obtain ⟨k, hk⟩ : ∃ k, n + 1 = k := ⟨_, rfl⟩
  rw [hk] at hw ht
  clear hJ hm hk
  go_enter Tryz.func36, Tryz.ntmps36
  go_wp2
  go_ret
  first | exact ⟨rfl, rfl⟩ | exact ⟨by simp [hw2], rfl⟩
end Go.Proofs.YtffiaogbphgmgaaGreatDoor

namespace Go.Proofs.YtffiaogbphgmgaaGreatDoor
open Go.RowKit
theorem RPst.belowL {w w1 w2 : World} {base b : Nat} {v : RV} {s : DSt} (hb : Below w.heap.size w w1) (h : RPst base b v s w1 w2) : RPst base b v s w w2 := by
  obtain ⟨v1, h1, h2, h3⟩ := h
  refine ⟨v1, h1, (Only.of_below (P := fun _ => False) hb |>.mono (fun _ _ q => q.elim)).trans h2 (fun _ _ q => q), fun k hk => ?_⟩
  rcases h3 k hk with q | q
  · exact .inl q
  · have := hb.size
    exact .inr (by omega)
set_option maxRecDepth 100000 in
set_option maxHeartbeats 1000000 in
/-- The document's Format. -/
theorem rformat_any (w : World) (base b : Nat) (v : RV) (s : DSt) (h : Rk w base b v s) (hb : base ≤ w.heap.size) (hS : Sane s) (hC : Coh s) (hp : s.pend.length ≤ 100000000) (ha : s.acts.length ≤ 100000000) :
    Calls Tryz.prog 28 #[.pointer (some ⟨b, 0, none⟩)] w fun e w' => e = .returned (.int .i64 (layR s [(1, headB 0 [])]).1) ∧ RPst base b v (layR s [(1, headB 0 [])]).2 w w' := by
  have HCL := hide (rclear_any 0 (by decide) 0 rfl w)
  have HD := hide h
  have HS := hide hS
  have HC := hide hC
  obtain ⟨hc, hhc⟩ : ∃ x, headB 0 [] = x := ⟨_, rfl⟩
  rw [hhc] at HCL ⊢
  clear h hS hC hhc
  go_enter Tryz.func28, Tryz.ntmps28
  go_wp2_with fail
  refine (unhide HCL).mono ?_
  rintro e x1 ⟨rfl, hb1⟩
  have HB1 := hide hb1
  have HWR := hide (rwrite_any x1 base b v s ((unhide HD).below hb1) (Nat.le_trans hb hb1.size) (unhide HS) (unhide HC) (by omega) (by omega) 1 hc)
  clear hb1 HCL
  go_wp2_with fail
  refine (unhide HWR).mono ?_
  rintro e x2 ⟨rfl, hP2⟩
  have HP2 := hide hP2
  have hpg := pend_grow s 1 hc
  have hag := acts_grow s 1 hc
  clear hP2 HWR
  by_cases he : writeE s 1 hc = 0
  · rw [he]
    have HE := hide (show layR s [(1, hc)] = (flushE (writeS s 1 hc), flushS (writeS s 1 hc)) from by rw [layR, if_pos he, layR])
    obtain ⟨v2, k1, k2, k3⟩ := unhide HP2
    have HFL := hide (rflush_any x2 base b v2 (writeS s 1 hc) k1 (Nat.le_trans hb (Nat.le_trans (unhide HB1).size k2.size)) ((unhide HS).write 1 hc) ((unhide HC).write 1 hc) (by omega) (by omega))
    have HK := hide (And.intro k2 k3)
    clear k1 k2 k3 he hpg hag
    go_wp2_with fail
    refine (unhide HFL).mono ?_
    rintro e x3 ⟨rfl, hP3⟩
    have HP3 := hide (RPst.belowL (unhide HB1) (RPst.trans (unhide HK).1 (unhide HK).2 hP3))
    clear hP3 HFL
    go_wp2
    go_ret
    rw [unhide HE]
    exact ⟨rfl, unhide HP3⟩
  · have HE := hide (show layR s [(1, hc)] = (writeE s 1 hc, writeS s 1 hc) from by rw [layR, if_neg he])
    have he' : (writeE s 1 hc == 0) = false := by simpa using he
    have HP3 := hide (RPst.belowL (unhide HB1) (unhide HP2))
    generalize writeE s 1 hc = er at *
    clear he hpg hag
    go_wp2
    go_ret
    rw [unhide HE]
    exact ⟨rfl, unhide HP3⟩
end Go.Proofs.YtffiaogbphgmgaaGreatDoor
