import Derived.Test.YtkkndlkelpdehaaGreatDoorMr06
import Derived.Test.YtkkndlkelpdehaaGreatDoorMr09
import Derived.Lib.RowBridge
import Derived.Lib.OwnBridge
import Derived.Lib.AppendIntMem
namespace Go.Proofs.YtkkndlkelpdehaaGreatDoor
open Go.RowKit
theorem compact_nodup (zs : List Int) : (Lib.compact (zs.mergeSort fun x y => decide (x ≤ y))).length < zs.length ↔ ¬ zs.Nodup := by
  have hp := List.mergeSort_perm zs (fun x y => decide (x ≤ y))
  have hs : (zs.mergeSort fun x y => decide (x ≤ y)).Pairwise (fun x y => decide (x ≤ y) = true) := List.pairwise_mergeSort (fun a b c h1 h2 => by simp at *; omega) (fun a b => by simp; omega) zs
  rw [← hp.nodup_iff, ← hp.length_eq]
  generalize (zs.mergeSort fun x y => decide (x ≤ y)) = S at *
  have hle := Lib.compact_length_le S
  constructor
  · intro h hn
    have : Lib.compact S = S := Lib.compact_all S (fun j hj => by
      by_cases h0 : j = 0
      · exact Lib.keeps_lt_one _ j (by omega)
      · refine Lib.keeps_pos ?_
        intro e
        have e1 : S.toArray[j]! = S[j] := by simp [hj]
        have e2 : S.toArray[j - 1]! = S[j - 1]'(by omega) := by simp [show j - 1 < S.length by omega]
        rw [e1, e2] at e
        exact (List.pairwise_iff_getElem.1 (show S.Pairwise (· ≠ ·) from hn)) (j - 1) j (by omega) hj (by omega) e.symm)
    rw [this] at h
    omega
  · intro h
    refine Nat.lt_of_le_of_ne hle (fun e => h ?_)
    have hk : ∀ j, j < S.length → Lib.keeps S.toArray j = true := by
      unfold Lib.compact Lib.compactUpTo at e
      rw [List.length_map] at e
      have e' : ((List.range S.length).filter (Lib.keeps S.toArray)).length = (List.range S.length).length := by rw [e, List.length_range]
      have := List.length_filter_eq_length_iff.1 e'
      exact fun j hj => this j (List.mem_range.2 hj)
    rw [List.nodup_iff_pairwise_ne, List.pairwise_iff_getElem]
    intro i j hi hj hij e
    have h1 := hk j hj
    have e1 : S.toArray[j]! = S[j] := by simp [hj]
    have e2 : S.toArray[j - 1]! = S[j - 1]'(by omega) := by simp [show j - 1 < S.length by omega]
    have hne : S[j] ≠ S[j - 1]'(by omega) := fun q => by
      have := Lib.keeps_neg (d := S.toArray) (m := j) (by omega) (by rw [e1, e2]; exact q)
      rw [this] at h1
      cases h1
    rw [List.pairwise_iff_getElem] at hs
    have a1 := hs (j - 1) j (by omega) hj (by omega)
    simp at a1
    by_cases hq : i = j - 1
    · subst hq
      exact hne e.symm
    · have a2 := hs i (j - 1) hi (by omega) (by omega)
      simp at a2
      omega
def freeP (size : Int) (x : Wr1) : Bool := !decide (19 ≤ x.1 ∧ x.1 < size)
def longP (x : Wr1) : Bool := decide (x.2.size ≠ 256)
/-- Why a list may not be committed. -/
def refE (l : List Wr1) (size : Int) : Int := if 16 < l.length then 50 else if l.any (freeP size) then 52 else if ¬ (secs l).Nodup then 51 else if l.any longP then 42 else 0
set_option maxRecDepth 100000 in
set_option maxHeartbeats 400000 in
theorem isFree_any (z size : Int) (w : World) : Calls Tryz.prog 80 #[.int .i64 z, .int .i64 size] w fun e w' => e = .returned (.bool (decide (19 ≤ z ∧ z < size))) ∧ w' = w := by
  by_cases h : 19 ≤ z
  · go_enter Tryz.func80, Tryz.ntmps80
    go_wp2
    go_ret
    exact ⟨by simp [h], rfl⟩
  · go_enter Tryz.func80, Tryz.ntmps80
    go_wp2
    go_ret
    exact ⟨by simp; omega, rfl⟩
/-- A question of a write, asked in whatever world leaves all that was there. -/
def PredW (g : Nat) (lb : Array Value) (q : Wr1 → Bool) (w : World) : Prop := ∀ (W : World) (x : Wr1), Below w.heap.size w W → Calls Tryz.prog g (#[.agg #[.int .i64 x.1, .string x.2]] ++ lb) W fun e w' => e = .returned (.bool (q x)) ∧ Below w.heap.size w w'
set_option maxRecDepth 100000 in
set_option maxHeartbeats 400000 in
theorem pred1_any (size : Int) (B : Nat) (w : World) (hB : B < w.heap.size) (hc : w.cell? ⟨B, 0, none⟩ = some (.int .i64 size)) : PredW 79 #[.pointer (some ⟨B, 0, none⟩)] (freeP size) w := fun W x hb => by
  have hc2 : W.cell? ⟨B, 0, none⟩ = some (.int .i64 size) := (hb.cell (p := ⟨B, 0, none⟩) hB).trans hc
  have hlt : B < W.heap.size := Nat.lt_of_lt_of_le hB hb.size
  obtain ⟨z, t⟩ := x
  show Calls Tryz.prog 79 #[.agg #[.int .i64 z, .string t], .pointer (some ⟨B, 0, none⟩)] W fun e w' => e = .returned (.bool (!decide (19 ≤ z ∧ z < size))) ∧ Below w.heap.size w w'
  have HF := hide (fun W => isFree_any z size W)
  obtain ⟨x1, hx1⟩ : ∃ x, x = W.alloc (Obj.cells #[.int .i64 z, .string t] 68) := ⟨_, rfl⟩
  have hb1 : Below w.heap.size w x1 := by rw [hx1]; exact hb.alloc hb.size _
  have HB := hide hb1
  have hne : B ≠ W.heap.size := by omega
  generalize decide (19 ≤ z ∧ z < size) = r at *
  clear hb hb1
  go_enter Tryz.func79, Tryz.ntmps79
  go_wp2_with fail
  rw [← hx1]
  refine (unhide HF _).mono ?_
  rintro e x2 ⟨rfl, rfl⟩
  replace hx1 := hide hx1
  go_wp2
  go_ret
  exact ⟨rfl, unhide HB⟩
set_option maxRecDepth 100000 in
set_option maxHeartbeats 400000 in
theorem pred2_any (w : World) : PredW 83 #[] longP w := fun W x hb => by
  obtain ⟨z, t⟩ := x
  show Calls Tryz.prog 83 #[.agg #[.int .i64 z, .string t]] W fun e w' => e = .returned (.bool (decide (t.size ≠ 256))) ∧ Below w.heap.size w w'
  have e : decide (t.size ≠ 256) = ((t.size : Int) != 256) := by
    by_cases h : t.size = 256
    · simp [h]
    · have : ¬ ((t.size : Int) = 256) := by omega
      simp [h, this]
  rw [e]
  clear e
  go_enter Tryz.func83, Tryz.ntmps83
  go_wp2
  go_ret
  exact ⟨rfl, hb.alloc hb.size _⟩
theorem any_drop (l : List Wr1) (q : Wr1 → Bool) (k : Nat) (hk : k < l.length) : (l.drop k).any q = (q (l.getD k wr0) || (l.drop (k + 1)).any q) := by
  rw [List.drop_eq_getElem_cons hk, List.any_cons, getD_of hk]
set_option maxRecDepth 100000 in
set_option maxHeartbeats 2000000 in
theorem idxf_any (w : World) (p : Option Addr) (c : Nat) (l : List Wr1) (n : Nat) (hn : n = l.length) (hl : Wls w p l) (hz : l.length ≤ 1000000) (g : Nat) (lb : Array Value) (q : Wr1 → Bool) (eg : ∀ args w, (callFunc g args).run Tryz.prog w = .ok (.enter g args) w) (hq : PredW g lb q w) :
    Calls Tryz.prog 124 #[.slice p n c, .func (.func g) #[] lb] w fun e w' => ∃ r : Int, e = .returned (.int .i64 r) ∧ (decide (0 ≤ r) = l.any q) ∧ Below w.heap.size w w' := by
  have HL := hide hl
  have HN := hide hn
  have HQ := hide hq
  have hzn : n ≤ 1000000 := by omega
  clear hl hn hq hz
  go_enter Tryz.func124, Tryz.ntmps124
  go_wp2
  go_loopw [8] (fun i wr => ∃ k : Nat, k ≤ n ∧ i = .int .i64 (k : Int) ∧ Hid (l.any q = (l.drop k).any q) ∧ Hid (Below w.heap.size w wr)) (fun i _ => n - (intOf i).toNat)
  case atStart => exact ⟨0, by omega, rfl, hide rfl, hide (Below.refl _ _)⟩
  case round =>
    obtain ⟨k, hk, rfl, hA, hB⟩ := hrel
    obtain ⟨wo, rfl⟩ : ∃ wo, wo = wr := ⟨_, rfl⟩
    by_cases hkl : k < n
    · have hkl2 : k < l.length := by rw [← unhide HN]; exact hkl
      obtain ⟨gb, o, rfl, hg, c0, c1⟩ := (unhide HL).below (unhide hB) k hkl2
      have hst := any_drop l q k hkl2
      obtain ⟨z, hz⟩ : ∃ z, (l.getD k wr0).1 = z := ⟨_, rfl⟩
      obtain ⟨t, ht⟩ : ∃ t, (l.getD k wr0).2 = t := ⟨_, rfl⟩
      have hx : l.getD k wr0 = (z, t) := by rw [← hz, ← ht]
      rw [hz] at c0
      rw [ht] at c1
      rw [hx] at hst
      have hld := load_wr wo gb (o + k * 2) z t c0 c1
      have hcall := unhide HQ wo (z, t) (unhide hB)
      have HS := hide hst
      clear hst hz ht hx hkl2
      cases hqv : q (z, t) with
      | true =>
        rw [hqv] at hcall
        have HA := hide (show l.any q = true from by rw [unhide hA, unhide HS, hqv]; rfl)
        clear hA HS hB hqv
        go_wp2_with (go_at_fn g; refine hcall.mono ?_; rintro e w' ⟨rfl, hb'⟩)
        go_ret
        exact ⟨(k : Int), rfl, by rw [unhide HA]; simp, hb'⟩
      | false =>
        rw [hqv] at hcall
        have HA := hide (show l.any q = (l.drop (k + 1)).any q from by rw [unhide hA, unhide HS, hqv]; rfl)
        clear hA HS hB hqv
        go_wp2_with (go_at_fn g; refine hcall.mono ?_; rintro e w' ⟨rfl, hb'⟩)
        have HB' := hide hb'
        clear hb'
        go_roundw
        case rel => exact ⟨k + 1, by omega, by go_num, HA, HB'⟩
        case measure => simp [intOf]; omega
    · have hk' : k = n := by omega
      subst hk'
      have HA := hide (show l.any q = false from by rw [unhide hA, unhide HN, List.drop_length]; rfl)
      clear hA hkl
      go_wp2
      go_ret
      exact ⟨-1, rfl, by rw [unhide HA]; rfl, unhide hB⟩
set_option maxRecDepth 100000 in
set_option maxHeartbeats 400000 in
theorem contf_any (w : World) (p : Option Addr) (c : Nat) (l : List Wr1) (n : Nat) (hn : n = l.length) (hl : Wls w p l) (hz : l.length ≤ 1000000) (g : Nat) (lb : Array Value) (q : Wr1 → Bool) (eg : ∀ args w, (callFunc g args).run Tryz.prog w = .ok (.enter g args) w) (hq : PredW g lb q w) :
    Calls Tryz.prog 78 #[.slice p n c, .func (.func g) #[] lb] w fun e w' => e = .returned (.bool (l.any q)) ∧ Below w.heap.size w w' := by
  have HC := hide (idxf_any w p c l n hn hl hz g lb q eg hq)
  clear hl hn hq hz
  go_enter Tryz.func78, Tryz.ntmps78
  go_wp2_with fail
  refine (unhide HC).mono ?_
  rintro e x1 ⟨r, rfl, hr, hb⟩
  have HB := hide hb
  have HR := hide hr
  clear hr hb
  go_wp2
  go_ret
  refine ⟨?_, unhide HB⟩
  show Ending.returned (.bool (decide (0 ≤ r))) = _
  rw [unhide HR]
end Go.Proofs.YtkkndlkelpdehaaGreatDoor

namespace Go.Proofs.YtkkndlkelpdehaaGreatDoor
open Go.RowKit
theorem below_growJ {B : Nat} {w0 w : World} (h : Below B w0 w) (hB : B ≤ w.heap.size) (os : Array Obj) : Below B w0 (Go.Sort.grow w os) :=
  ⟨h.os, h.tape, h.output, by have := h.size; simp [Go.Sort.grow]; omega, fun k hk => by
    have : (Go.Sort.grow w os).heap[k]? = w.heap[k]? := by
      show (w.heap ++ os)[k]? = _
      rw [Array.getElem?_append_left (by omega)]
    rw [this]
    exact h.block k hk⟩
theorem holds_blk {w : World} {g : Nat} {L : List Int} (h : Blk w g (L.map (Value.int .i64)).toArray 3) : Go.Sort.Holds (Value.int .i64) w g 0 L.toArray := fun j hj => by
  have hj' : j < L.length := by simpa using hj
  refine ⟨?_, h.frozen _⟩
  rw [Nat.zero_add, h.cell]
  simp [hj']
set_option maxRecDepth 100000 in
set_option maxHeartbeats 2000000 in
theorem refusal_any (w : World) (p : Option Addr) (c : Nat) (l : List Wr1) (n : Nat) (hn : n = l.length) (hl : Wls w p l) (size : Int) :
    Calls Tryz.prog 48 #[.slice p n c, .int .i64 size] w fun e w' => e = .returned (.int .i64 (refE l size)) ∧ Below w.heap.size w w' := by
  have HB0 := hide ((Below.refl w.heap.size w).alloc (Nat.le_refl _) (Obj.cells #[.int .i64 size] 3))
  by_cases h16 : 16 < n
  · have hr : refE l size = 50 := by rw [refE, if_pos (by omega)]
    rw [hr]
    have h16' : (16 : Int) < (n : Int) := by omega
    clear hr hl hn
    go_enter Tryz.func48, Tryz.ntmps48
    go_wp2
    go_ret
    exact ⟨rfl, unhide HB0⟩
  · have HR := hide (show refE l size = if l.any (freeP size) then 52 else if ¬ (secs l).Nodup then 51 else if l.any longP then 42 else 0 from by rw [refE, if_neg (by omega)])
    have eg1 : ∀ args w, (callFunc 79 args).run Tryz.prog w = .ok (.enter 79 args) w := enters_of Tryz.func79 (by kernel_rfl) rfl
    have eg2 : ∀ args w, (callFunc 83 args).run Tryz.prog w = .ok (.enter 83 args) w := enters_of Tryz.func83 (by kernel_rfl) rfl
    obtain ⟨x0, hx0⟩ : ∃ x, x = w.alloc (Obj.cells #[.int .i64 size] 3) := ⟨_, rfl⟩
    have hs0 : x0.heap.size = w.heap.size + 1 := by rw [hx0]; simp
    rw [← hx0] at HB0
    have hc0 : x0.cell? ⟨w.heap.size, 0, none⟩ = some (.int .i64 size) := by rw [hx0, (Blk.new w 3 #[.int .i64 size]).cell 0]; rfl
    have hl0 : Wls x0 p l := hl.below (unhide HB0)
    have HC1 := hide (contf_any x0 p c l n hn hl0 (by omega) _ _ (freeP size) eg1 (pred1_any size w.heap.size x0 (by omega) hc0))
    have HL := hide hl
    have HN := hide hn
    have HZ := hide hs0
    have hln : l.length ≤ 1000000 := by omega
    have HLN := hide hln
    have h16' : ¬ (16 : Int) < (n : Int) := by omega
    clear hl hn hs0 hc0 hl0 hln eg1
    have E2 := hide eg2
    clear eg2
    go_enter Tryz.func48, Tryz.ntmps48
    go_wp2_with fail
    rw [← hx0]
    replace hx0 := hide hx0
    refine (unhide HC1).mono ?_
    rintro e x1 ⟨rfl, hb1⟩
    have HB1 := hide ((unhide HB0).trans (hb1.mono (by have := unhide HZ; omega)))
    clear hb1 HC1
    cases h1 : l.any (freeP size) with
    | true =>
      have hr : refE l size = 52 := by rw [unhide HR, h1]; rfl
      have HRR := hide hr
      clear hr h1
      go_wp2
      go_ret
      exact ⟨(congrArg (fun z => Ending.returned (.int .i64 z)) (unhide HRR)).symm, unhide HB1⟩
    | false =>
      have HR2 := hide (show refE l size = if ¬ (secs l).Nodup then 51 else if l.any longP then 42 else 0 from by rw [unhide HR, h1]; rfl)
      have HC2 := hide (sectorsOf_any x1 p c l n (unhide HN) ((unhide HL).below (unhide HB1)) (unhide HLN))
      clear HR h1
      go_wp2_with fail
      refine (unhide HC2).mono ?_
      rintro e x2 ⟨rfl, hB2, hb2⟩
      have HB2 := hide ((unhide HB1).trans (hb2.mono (unhide HB1).size))
      have hH2 := holds_blk hB2
      have hlt2 : x1.heap.size < x2.heap.size := hB2.lt
      have hsl : (secs l).length = n := by rw [unhide HN]; simp [secs]
      have hcS := Tryz.slices_Sort_int x1.heap.size 0 n (secs l) x2 hH2 hlt2 (by omega)
      rw [hsl] at hcS
      have HCS := hide hcS
      have HH2 := hide (And.intro hH2 hlt2)
      have HSL := hide hsl
      have hge : w.heap.size ≤ x1.heap.size := (unhide HB1).size
      have HGE := hide hge
      clear hB2 hb2 hH2 hlt2 hcS HC2 hsl hge
      go_wp2_with fail
      refine (unhide HCS).mono ?_
      rintro e x3 ⟨rfl, k3, os3, hx3⟩
      have hms : ((secs l).mergeSort fun x y => decide (x ≤ y)).length = n := by rw [(List.mergeSort_perm _ _).length_eq, unhide HSL]
      have hH3 : Go.Sort.Holds (Value.int .i64) x3 x1.heap.size 0 ((secs l).mergeSort fun x y => decide (x ≤ y)).toArray := by
        rw [hx3]
        refine Go.Sort.holds_grow _ _ _ _ _ _ ?_ (Go.Sort.holds_putRow _ _ _ _ (secs l).toArray _ (unhide HH2).1 (by simp [hms, unhide HSL]))
        have : (Go.Sort.putRow (Value.int .i64) (Go.Sort.ahead x2 k3) x1.heap.size 0 ((secs l).mergeSort fun x y => decide (x ≤ y)).toArray).heap.size = x2.heap.size := by simp [Go.Sort.putRow, Go.Sort.mapBlock, Go.Sort.ahead]
        rw [this]
        exact (unhide HH2).2
      have hb3 : Below w.heap.size w x3 := by
        rw [hx3]
        refine below_growJ (Go.Lib.below_putRow (unhide HB2) (unhide HGE)) ?_ _
        have : (Go.Sort.putRow (Value.int .i64) (Go.Sort.ahead x2 k3) x1.heap.size 0 ((secs l).mergeSort fun x y => decide (x ≤ y)).toArray).heap.size = x2.heap.size := by simp [Go.Sort.putRow, Go.Sort.mapBlock, Go.Sort.ahead]
        rw [this]
        exact (unhide HB2).size
      have hcm := compact_nodup (secs l)
      have hcC := Tryz.slices_Compact_int x1.heap.size 0 n ((secs l).mergeSort fun x y => decide (x ≤ y)) x3 hH3 (by omega) (by omega)
      rw [hms] at hcC
      rw [unhide HSL] at hcm
      generalize ((secs l).mergeSort fun x y => decide (x ≤ y)) = S at *
      have HCC := hide hcC
      have HCM := hide hcm
      have HB3 := hide hb3
      clear hx3 hms hH3 hb3 hcC hcm HCS
      go_wp2_with fail
      refine (unhide HCC).mono ?_
      rintro e x4 ⟨rfl, q4, hx4⟩
      have HB4 := hide (show Below w.heap.size w x4 from by rw [hx4]; exact Go.Lib.below_putRow (unhide HB3) (unhide HGE))
      have hcm := unhide HCM
      generalize (Lib.compact S).length = m at *
      clear hx4 HCC HCM
      by_cases hd : m < n
      · have hr : refE l size = 51 := by rw [unhide HR2, if_pos (hcm.1 hd)]
        have HRR := hide hr
        have hd' : (m : Int) < (n : Int) := by omega
        clear hr hcm
        go_wp2
        go_ret
        exact ⟨(congrArg (fun z => Ending.returned (.int .i64 z)) (unhide HRR)).symm, unhide HB4⟩
      · have HR3 := hide (show refE l size = if l.any longP then 42 else 0 from by rw [unhide HR2, if_neg (fun q => hd (hcm.2 q))])
        have HC3 := hide (contf_any x4 p c l n (unhide HN) ((unhide HL).below (unhide HB4)) (unhide HLN) _ _ longP (unhide E2) (pred2_any x4))
        have hd' : ¬ (m : Int) < (n : Int) := by omega
        clear hcm HR2
        go_wp2_with fail
        refine (unhide HC3).mono ?_
        rintro e x5 ⟨rfl, hb5⟩
        have HB5 := hide ((unhide HB4).trans (hb5.mono (unhide HB4).size))
        clear hb5 HC3
        cases h5 : l.any longP with
        | true =>
          have hr : refE l size = 42 := by rw [unhide HR3, h5]; rfl
          have HRR := hide hr
          clear hr h5
          go_wp2
          go_ret
          exact ⟨(congrArg (fun z => Ending.returned (.int .i64 z)) (unhide HRR)).symm, unhide HB5⟩
        | false =>
          have hr : refE l size = 0 := by rw [unhide HR3, h5]; rfl
          have HRR := hide hr
          clear hr h5
          go_wp2
          go_ret
          exact ⟨(congrArg (fun z => Ending.returned (.int .i64 z)) (unhide HRR)).symm, unhide HB5⟩
end Go.Proofs.YtkkndlkelpdehaaGreatDoor
