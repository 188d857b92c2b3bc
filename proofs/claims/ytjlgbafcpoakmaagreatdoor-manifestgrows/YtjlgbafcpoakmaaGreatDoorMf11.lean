import Derived.Test.YtjlgbafcpoakmaaGreatDoorMf10
import Derived.Deep.RegionHeld3
import Derived.Test.YtjlgbafcpoakmaaGreatDoorMf03
import Derived.Test.YtjlgbafcpoakmaaGreatDoorMf07
import Derived.Test.YtjlgbafcpoakmaaGreatDoorMf06
import Derived.Shelf.Sort.Plain
import Derived.Ground.Names2Prog
import Derived.Shelf.Slices.CompactI
import Derived.Shelf.Slices.In.SortNone
import Derived.Test.YtjlgbafcpoakmaaGreatDoorProg
namespace Go.Proofs.YtjlgbafcpoakmaaGreatDoor
open Go.RowKit
def wrv : List Wr1 → List Value
  | [] => []
  | p :: r => .int .i64 p.1 :: .string p.2 :: wrv r
theorem wrv_len : ∀ l : List Wr1, (wrv l).length = l.length * 2
  | [] => rfl
  | _ :: r => by simp [wrv, wrv_len r]; omega
theorem wrv_app : ∀ l m : List Wr1, wrv (l ++ m) = wrv l ++ wrv m
  | [], m => rfl
  | p :: r, m => by simp [wrv, wrv_app r m]
theorem wrv_at : ∀ (l : List Wr1) (k : Nat) (_ : k < l.length), (wrv l)[k * 2]? = some (.int .i64 (l.getD k wr0).1) ∧ (wrv l)[k * 2 + 1]? = some (.string (l.getD k wr0).2)
  | p :: r, 0, _ => by simp [wrv]
  | p :: r, k + 1, hk => by
    have := wrv_at r k (by simpa using hk)
    rw [show (k + 1) * 2 = k * 2 + 1 + 1 by omega]
    simpa [wrv] using this
theorem wrv_set : ∀ (l : List Wr1) (k : Nat) (x : Wr1), k < l.length → ((wrv l).set (k * 2) (.int .i64 x.1)).set (k * 2 + 1) (.string x.2) = wrv (l.set k x)
  | p :: r, 0, x, _ => by simp [wrv]
  | p :: r, k + 1, x, hk => by
    have := wrv_set r k x (by simpa using hk)
    rw [show (k + 1) * 2 = k * 2 + 1 + 1 by omega]
    simp only [wrv, List.set_cons_succ]
    rw [this]
theorem wls_blk {w : World} {g : Nat} {l : List Wr1} (h : Blk w g (wrv l).toArray 119) : Wls w (some ⟨g, 0, none⟩) l := fun j hj => by
  obtain ⟨a1, a2⟩ := wrv_at l j hj
  exact ⟨g, 0, rfl, h.lt, by rw [Nat.zero_add, h.cell]; simpa using a1, by rw [Nat.zero_add, h.cell]; simpa using a2⟩
theorem infoWj : (Tryz.prog.info? 119).map (fun i => (i.zero, i.size, i.bytes)) = some (some (.agg #[.int .i64 0, .string ⟨#[]⟩]), 2, 24) := by kernel_rfl
set_option maxRecDepth 100000 in
theorem run_make_w (l : Nat) (hc : l ≤ 1000000000) (w : World) : (Instr.makeSlice 60 (.int .i64 (l : Int)) (.int .i64 (l : Int))).run Tryz.prog w = .ok (.slice (some ⟨w.heap.size, 0, none⟩) l l) (w.alloc (.cells (wrv (List.replicate l wr0)).toArray 119)) := by
  obtain ⟨i0, hi, hz0, hz1, hz2⟩ := info_parts infoWj
  have := run_make (P := Tryz.prog) w 60 119 i0 (.agg #[.int .i64 0, .string ⟨#[]⟩]) Tryz.underlying60 hi hz0 .i64 .i64 (l : Int) (l : Int) (by omega) (by omega) (by rw [hz2]; omega) (by omega)
  rw [this, hz1]
  simp only [Int.toNat_natCast]
  congr 3
  apply Array.ext
  · simp [size_madeCells, wrv_len]
  · intro j h1 h2
    have h2' : j < l * 2 := by simpa [wrv_len] using h2
    have hR : (wrv (List.replicate l wr0))[j]? = some ((wrv (List.replicate l wr0)).toArray[j]) := by simp
    have hq : j / 2 < (List.replicate l wr0).length := by simp; omega
    obtain ⟨a1, a2⟩ := wrv_at (List.replicate l wr0) (j / 2) hq
    have eg : (List.replicate l wr0).getD (j / 2) wr0 = wr0 := by
      rw [List.getD_eq_getElem?_getD, List.getElem?_replicate]
      split <;> rfl
    rw [eg] at a1 a2
    by_cases hm : j % 2 = 0
    · rw [show j / 2 * 2 = j by omega] at a1
      rw [Option.some.inj (hR.symm.trans a1)]
      simp [madeCells, Value.cells, hm, wr0]
    · rw [show j / 2 * 2 + 1 = j by omega] at a2
      rw [Option.some.inj (hR.symm.trans a2)]
      have : j % 2 = 1 := by omega
      simp [madeCells, Value.cells, this, wr0]
theorem getD_of {l : List Wr1} {k : Nat} (hk : k < l.length) : l.getD k wr0 = l[k] := by rw [List.getD_eq_getElem?_getD, List.getElem?_eq_getElem hk]; rfl
/-- The first k of a list of numbers, then noughts. -/
def prtI (l : List Int) (k : Nat) : List Int := l.take k ++ List.replicate (l.length - k) 0
theorem prtI_len (l : List Int) (k : Nat) (h : k ≤ l.length) : (prtI l k).length = l.length := by simp [prtI]; omega
theorem prtI_step (l : List Int) (k : Nat) (h : k < l.length) : (prtI l k).set k (l.getD k 0) = prtI l (k + 1) := by
  have e1 : l.take (k + 1) = l.take k ++ [l.getD k 0] := by
    rw [List.take_succ_eq_append_getElem h]
    simp [List.getD_eq_getElem?_getD, h]
  have e2 : List.replicate (l.length - k) (0 : Int) = 0 :: List.replicate (l.length - (k + 1)) 0 := by
    rw [show l.length - k = (l.length - (k + 1)) + 1 by omega, List.replicate_succ]
  rw [prtI, prtI, e1, e2, List.set_append]
  have hl : (l.take k).length = k := by simp; omega
  simp [hl]
def prtW (l : List Wr1) (k : Nat) : List Wr1 := l.take k ++ List.replicate (l.length - k) wr0
theorem prtW_len (l : List Wr1) (k : Nat) (h : k ≤ l.length) : (prtW l k).length = l.length := by simp [prtW]; omega
theorem prtW_step (l : List Wr1) (k : Nat) (h : k < l.length) : (prtW l k).set k (l.getD k wr0) = prtW l (k + 1) := by
  have e1 : l.take (k + 1) = l.take k ++ [l.getD k wr0] := by
    rw [List.take_succ_eq_append_getElem h, getD_of h]
  have e2 : List.replicate (l.length - k) wr0 = wr0 :: List.replicate (l.length - (k + 1)) wr0 := by
    rw [show l.length - k = (l.length - (k + 1)) + 1 by omega, List.replicate_succ]
  rw [prtW, prtW, e1, e2, List.set_append]
  have hl : (l.take k).length = k := by simp; omega
  simp [hl]
def secs (l : List Wr1) : List Int := l.map (·.1)
theorem secs_at (l : List Wr1) (k : Nat) (hk : k < l.length) : (secs l).getD k 0 = (l.getD k wr0).1 := by
  rw [getD_of hk]
  simp [secs, List.getD_eq_getElem?_getD, hk]
/-- The records: each text at its place. -/
def recL (l : List Wr1) : List Wr1 := (List.range l.length).map fun i => (((2 + i : Nat) : Int), (l.getD i wr0).2)
theorem recL_len (l : List Wr1) : (recL l).length = l.length := by simp [recL]
theorem recL_at (l : List Wr1) (k : Nat) (hk : k < l.length) : (recL l).getD k wr0 = (((2 + k : Nat) : Int), (l.getD k wr0).2) := by
  simp [recL, List.getD_eq_getElem?_getD, hk]
def SeI (w : World) (l : List Int) (k : Nat) (wr : World) : Prop := Blk wr w.heap.size ((prtI l k).map (Value.int .i64)).toArray 3 ∧ Below w.heap.size w wr
def ReI (w : World) (l : List Wr1) (k : Nat) (wr : World) : Prop := Blk wr w.heap.size (wrv (prtW l k)).toArray 119 ∧ Below w.heap.size w wr
theorem SeI.step {w wr x : World} {l : List Int} {k : Nat} (h : SeI w l k wr) (hk : k < l.length) (hb : Below wr.heap.size wr x) : SeI w l (k + 1) (x.setCell ⟨w.heap.size, k, none⟩ (.int .i64 (l.getD k 0))) := by
  refine ⟨?_, (h.2.trans (hb.mono h.2.size)).setCell (Nat.le_refl _) _⟩
  have := (h.1.below hb h.1.lt).set k (.int .i64 (l.getD k 0))
  have e : ((prtI l k).map (Value.int .i64)).toArray.setIfInBounds k (.int .i64 (l.getD k 0)) = ((prtI l (k + 1)).map (Value.int .i64)).toArray := by
    rw [← prtI_step l k hk]
    simp [List.map_set]
  rw [e] at this
  exact this
theorem ReI.step {w wr x : World} {l : List Wr1} {k : Nat} (h : ReI w l k wr) (hk : k < l.length) (hb : Below wr.heap.size wr x) : ReI w l (k + 1) ((x.setCell ⟨w.heap.size, k * 2, none⟩ (.int .i64 (l.getD k wr0).1)).setCell ⟨w.heap.size, k * 2 + 1, none⟩ (.string (l.getD k wr0).2)) := by
  refine ⟨?_, ((h.2.trans (hb.mono h.2.size)).setCell (Nat.le_refl _) _).setCell (Nat.le_refl _) _⟩
  have := ((h.1.below hb h.1.lt).set (k * 2) (.int .i64 (l.getD k wr0).1)).set (k * 2 + 1) (.string (l.getD k wr0).2)
  have e : ((wrv (prtW l k)).toArray.setIfInBounds (k * 2) (.int .i64 (l.getD k wr0).1)).setIfInBounds (k * 2 + 1) (.string (l.getD k wr0).2) = (wrv (prtW l (k + 1))).toArray := by
    rw [← prtW_step l k hk, ← wrv_set _ k _ (by rw [prtW_len l k (by omega)]; exact hk)]
    simp
  rw [e] at this
  exact this
set_option maxRecDepth 100000 in
set_option maxHeartbeats 2000000 in
theorem sectorsOf_any (w : World) (p : Option Addr) (c : Nat) (l : List Wr1) (n : Nat) (hn : n = l.length) (hl : Wls w p l) (hz : l.length ≤ 1000000) :
    Calls Tryz.prog 197 #[.slice p n c] w fun e w' => e = .returned (.slice (some ⟨w.heap.size, 0, none⟩) n n) ∧ Blk w' w.heap.size ((secs l).map (Value.int .i64)).toArray 3 ∧ Below w.heap.size w w' := by
  have hsl : (secs l).length = n := by rw [hn]; simp [secs]
  have hmk := run_make_i64 n n (Nat.le_refl _) (by omega) w
  have X0 := hide (show SeI w (secs l) 0 (w.alloc (.cells ((List.replicate n (0 : Int)).map (Value.int .i64)).toArray 3)) from ⟨by simpa [prtI, hsl] using Blk.new w 3 ((List.replicate n (0 : Int)).map (Value.int .i64)).toArray, (Below.refl _ _).alloc (Nat.le_refl _) _⟩)
  generalize hx2 : w.alloc (.cells ((List.replicate n (0 : Int)).map (Value.int .i64)).toArray 3) = x2 at *
  clear hx2
  have HL := hide hl
  have HN := hide hn
  have HS := hide hsl
  have hzn : n ≤ 1000000 := by omega
  clear hl hn hsl hz
  go_enter Tryz.func197, Tryz.ntmps197
  go_wp2
  clear hmk
  go_loopw [11] (fun i wr => ∃ k : Nat, k ≤ n ∧ i = .int .i64 (k : Int) ∧ SeI w (secs l) k wr) (fun i _ => n - (intOf i).toNat)
  case atStart => exact ⟨0, by omega, rfl, unhide X0⟩
  case round =>
    obtain ⟨k, hk, rfl, hI⟩ := hrel
    obtain ⟨wo, rfl⟩ : ∃ wo, wo = wr := ⟨_, rfl⟩
    have XI := hide hI
    clear hI X0
    by_cases hkl : k < n
    · have hkl2 : k < l.length := by rw [← unhide HN]; exact hkl
      obtain ⟨g, o, rfl, hg, c0, c1⟩ := (unhide HL).below (unhide XI).2 k hkl2
      have hse := secs_at l k hkl2
      obtain ⟨z, hz⟩ : ∃ z, (l.getD k wr0).1 = z := ⟨_, rfl⟩
      obtain ⟨t, ht⟩ : ∃ t, (l.getD k wr0).2 = t := ⟨_, rfl⟩
      rw [hz] at c0 hse
      rw [ht] at c1
      have hld := load_wr wo g (o + k * 2) z t c0 c1
      obtain ⟨x1, hx1⟩ : ∃ x, x = wo.alloc (Obj.cells #[.int .i64 z, .string t] 119) := ⟨_, rfl⟩
      have hb1 : Below wo.heap.size wo x1 := by rw [hx1]; exact (Below.refl _ wo).alloc (Nat.le_refl _) _
      have hB1 := (unhide XI).1.below hb1 (unhide XI).1.lt
      have hol : k < (prtI (secs l) k).length := by rw [prtI_len _ _ (by rw [unhide HS]; exact hk), unhide HS]; exact hkl
      have d0 : x1.cell? ⟨w.heap.size, k, none⟩ = some (.int .i64 ((prtI (secs l) k).getD k 0)) := by rw [hB1.cell]; simp [List.getD_eq_getElem?_getD, hol]
      have f0 := hB1.frozen k
      have XR := hide ((unhide XI).step (by rw [unhide HS]; exact hkl) hb1)
      rw [hse] at XR
      generalize (prtI (secs l) k).getD k 0 = old at *
      have HX := hide hx1
      rw [hx1] at d0 f0 XR
      have i0 : 0 ≤ (k : Int) := by omega
      have i1 : (k : Int) < (n : Int) := by omega
      clear hx1 hb1 hB1 hse hz ht XI HX hkl2
      go_wp2
      go_roundw
      case rel => exact ⟨k + 1, by omega, by go_num, unhide XR⟩
      case measure => simp [intOf]; omega
    · have hk' : k = n := by omega
      subst hk'
      clear hkl
      go_wp2
      go_ret
      refine ⟨rfl, ?_, (unhide XI).2⟩
      have := (unhide XI).1
      rw [prtI, List.take_of_length_le (by rw [unhide HS]; exact Nat.le_refl _), unhide HS] at this
      simpa using this
set_option maxRecDepth 100000 in
set_option maxHeartbeats 2000000 in
theorem recordAt_any (i : Nat) (hi : i ≤ 1000000) (w : World) : Calls Tryz.prog 202 #[.int .i64 (i : Int)] w fun e w' => e = .returned (.int .i64 ((2 + i : Nat) : Int)) ∧ w' = w := by
  have hw : IntKind.i64.wrap (2 + (i : Int)) = 2 + (i : Int) := wrapI_eq _ (by omega) (by omega)
  have e : ((2 + i : Nat) : Int) = 2 + (i : Int) := by omega
  rw [e]
  clear e
  go_enter Tryz.func202, Tryz.ntmps202
  go_wp2
  go_ret
  exact ⟨rfl, rfl⟩
set_option maxRecDepth 100000 in
set_option maxHeartbeats 4000000 in
theorem asRecords_any (w : World) (p : Option Addr) (c : Nat) (l : List Wr1) (n : Nat) (hn : n = l.length) (hl : Wls w p l) (hz : l.length ≤ 1000000) :
    Calls Tryz.prog 136 #[.slice p n c] w fun e w' => e = .returned (.slice (some ⟨w.heap.size, 0, none⟩) n n) ∧ Blk w' w.heap.size (wrv (recL l)).toArray 119 ∧ Below w.heap.size w w' := by
  have hsl : (recL l).length = n := by rw [hn, recL_len]
  have hmk := run_make_w n (by omega) w
  have X0 := hide (show ReI w (recL l) 0 (w.alloc (.cells (wrv (List.replicate n wr0)).toArray 119)) from ⟨by simpa [prtW, hsl] using Blk.new w 119 (wrv (List.replicate n wr0)).toArray, (Below.refl _ _).alloc (Nat.le_refl _) _⟩)
  generalize hx2 : w.alloc (.cells (wrv (List.replicate n wr0)).toArray 119) = x2 at *
  clear hx2
  have HL := hide hl
  have HN := hide hn
  have HS := hide hsl
  have hzn : n ≤ 1000000 := by omega
  clear hl hn hsl hz
  go_enter Tryz.func136, Tryz.ntmps136
  go_wp2
  clear hmk
  go_loopw [11] (fun i wr => ∃ k : Nat, k ≤ n ∧ i = .int .i64 (k : Int) ∧ ReI w (recL l) k wr) (fun i _ => n - (intOf i).toNat)
  case atStart => exact ⟨0, by omega, rfl, unhide X0⟩
  case round =>
    obtain ⟨k, hk, rfl, hI⟩ := hrel
    obtain ⟨wo, rfl⟩ : ∃ wo, wo = wr := ⟨_, rfl⟩
    have XI := hide hI
    clear hI X0
    by_cases hkl : k < n
    · have hkl2 : k < l.length := by rw [← unhide HN]; exact hkl
      obtain ⟨g, o, rfl, hg, c0, c1⟩ := (unhide HL).below (unhide XI).2 k hkl2
      have hse := recL_at l k hkl2
      obtain ⟨z, hz⟩ : ∃ z, (l.getD k wr0).1 = z := ⟨_, rfl⟩
      obtain ⟨t, ht⟩ : ∃ t, (l.getD k wr0).2 = t := ⟨_, rfl⟩
      rw [hz] at c0
      rw [ht] at c1 hse
      have hld := load_wr wo g (o + k * 2) z t c0 c1
      obtain ⟨x1, hx1⟩ : ∃ x, x = wo.alloc (Obj.cells #[.int .i64 z, .string t] 119) := ⟨_, rfl⟩
      have hb1 : Below wo.heap.size wo x1 := by rw [hx1]; exact (Below.refl _ wo).alloc (Nat.le_refl _) _
      have hB1 := (unhide XI).1.below hb1 (unhide XI).1.lt
      have hol : k < (prtW (recL l) k).length := by rw [prtW_len _ _ (by rw [unhide HS]; exact hk), unhide HS]; exact hkl
      obtain ⟨w0, w1⟩ := wrv_at _ k hol
      have d0 : x1.cell? ⟨w.heap.size, k * 2, none⟩ = some (.int .i64 ((prtW (recL l) k).getD k wr0).1) := by rw [hB1.cell]; simpa using w0
      have d1 : x1.cell? ⟨w.heap.size, k * 2 + 1, none⟩ = some (.string ((prtW (recL l) k).getD k wr0).2) := by rw [hB1.cell]; simpa using w1
      have f0 := hB1.frozen (k * 2)
      have f1 := hB1.frozen (k * 2 + 1)
      have XR := hide ((unhide XI).step (by rw [unhide HS]; exact hkl) hb1)
      rw [hse] at XR
      generalize (prtW (recL l) k).getD k wr0 = old at *
      obtain ⟨oz, ot⟩ := old
      have XC := hide (recordAt_any k (by omega))
      have OB := hide (show Blk x1 wo.heap.size #[.int .i64 z, .string t] 119 from by rw [hx1]; exact Blk.new wo _ _)
      have hnb : w.heap.size ≠ wo.heap.size := by have := (unhide XI).1.lt; omega
      have HX := hide hx1
      have i0 : 0 ≤ (k : Int) := by omega
      have i1 : (k : Int) < (n : Int) := by omega
      clear hb1 hB1 hse hz ht XI HX hkl2 w0 w1 hol
      go_wp2_with fail
      rw [← hx1]
      replace hx1 := hide hx1
      clear hld c0 c1
      generalize hgs : wo.heap.size = ob at *
      clear hgs
      have q1 : x1.cell? ⟨ob, 1, none⟩ = some (.string t) := by rw [(unhide OB).cell 1]; rfl
      refine wp_region_held_drew (S := fun w' => w'.cell? ⟨ob, 1, none⟩ = some (.string t)) (by kernel_rfl) q1 ?_
      intro hS
      refine wpAnyH_takeD 0 (some 16) (.slice (some ⟨w.heap.size, 0, none⟩) n n) rfl rfl (by kernel_rfl) (by kernel_rfl) (by kernel_rfl) (fun _ _ _ h => h) (Or.inl ⟨by rfl, fun w hSw => by have q2 := hSw; go_simp⟩) hS ?_
      simp only [Act.put, List.setIfInBounds_toArray, List.set_cons_zero, List.set_cons_succ]
      refine wpAnyH_takeD 1 (some 17) (.int .i64 (k : Int)) rfl rfl (by kernel_rfl) (by kernel_rfl) (by kernel_rfl) (fun _ _ _ h => h) (Or.inl ⟨by rfl, fun w hSw => by have q2 := hSw; go_simp⟩) hS ?_
      simp only [Act.put, List.setIfInBounds_toArray, List.set_cons_zero, List.set_cons_succ]
      refine wpAnyH_takeD 2 (some 18) (.int .i64 (k : Int)) rfl rfl (by kernel_rfl) (by kernel_rfl) (by kernel_rfl) (fun _ _ _ h => h) (Or.inl ⟨by rfl, fun w hSw => by have q2 := hSw; go_simp⟩) hS ?_
      simp only [Act.put, List.setIfInBounds_toArray, List.set_cons_zero, List.set_cons_succ]
      refine wpAnyH_takeD 4 (some 20) (.pointer (some ⟨ob, 1, none⟩)) rfl rfl (by kernel_rfl) (by kernel_rfl) (by kernel_rfl) (fun _ _ _ h => h) (Or.inl ⟨by rfl, fun w hSw => by have q2 := hSw; go_simp⟩) hS ?_
      simp only [Act.put, List.setIfInBounds_toArray, List.set_cons_zero, List.set_cons_succ]
      refine wpAnyH_takeD 5 (some 21) (.string t) rfl rfl (by kernel_rfl) (by kernel_rfl) (by kernel_rfl) (fun _ _ _ h => h) (Or.inl ⟨by rfl, fun w hSw => by have q2 := hSw; go_simp⟩) hS ?_
      simp only [Act.put, List.setIfInBounds_toArray, List.set_cons_zero, List.set_cons_succ]
      refine wpAnyH_ready (rs := [3]) (by kernel_rfl) (by simp) ?_
      refine AllReadyH.cons rfl (fun K hK => ?_) AllReadyH.nil
      simp only [List.getElem_toArray, List.getElem_cons_succ, List.getElem_cons_zero]
      go_simp
      refine (unhide XC _).mono ?_
      rintro ev x4 ⟨rfl, rfl⟩
      refine hK.out _ _ q1 (fun hS => ?_)
      clear hK K
      refine wpAnyH_takeD 6 (some 22) (.agg #[.int .i64 ((2 + k : Nat) : Int), .string t]) rfl rfl (by kernel_rfl) (by kernel_rfl) (by kernel_rfl) (fun _ _ _ h => h) (Or.inl ⟨by rfl, fun w hSw => by have q2 := hSw; go_simp⟩) hS ?_
      simp only [Act.put, List.setIfInBounds_toArray, List.set_cons_zero, List.set_cons_succ]
      refine wpAnyH_takeD 7 (some 23) (.pointer (some ⟨w.heap.size, k * 2, none⟩)) rfl rfl (by kernel_rfl) (by kernel_rfl) (by kernel_rfl) (fun _ _ _ h => h) (Or.inl ⟨by rfl, fun w hSw => by have q2 := hSw; go_simp⟩) hS ?_
      simp only [Act.put, List.setIfInBounds_toArray, List.set_cons_zero, List.set_cons_succ]
      refine wpAnyH_ready (rs := [8]) (by kernel_rfl) (by simp) ?_
      refine AllReadyH.cons rfl (fun K hK => ?_) AllReadyH.nil
      simp only [List.getElem_toArray, List.getElem_cons_succ, List.getElem_cons_zero]
      go_simp
      have q5 : ((x1.setCell ⟨w.heap.size, k * 2, none⟩ (.int .i64 (2 + (k : Int)))).setCell ⟨w.heap.size, k * 2 + 1, none⟩ (.string t)).drew.cell? ⟨ob, 1, none⟩ = some (.string t) := by
        have := (((unhide OB).other ⟨w.heap.size, k * 2, none⟩ (.int .i64 (2 + (k : Int))) hnb).other ⟨w.heap.size, k * 2 + 1, none⟩ (.string t) hnb).cell 1
        exact this
      refine hK.out _ _ q5 (fun hS => ?_)
      clear hK K
      refine wpAnyH_done (by kernel_rfl) ?_ _
      have XS := hide (show ReI w (recL l) (k + 1) ((x1.setCell ⟨w.heap.size, k * 2, none⟩ (.int .i64 (2 + (k : Int)))).setCell ⟨w.heap.size, k * 2 + 1, none⟩ (.string t)).drew from by
        have := unhide XR
        rw [show ((2 + k : Nat) : Int) = 2 + (k : Int) by omega] at this
        exact ⟨this.1, this.2.drew⟩)
      clear XR d0 d1 f0 f1 q1 q5 OB hS
      go_wp2
      go_roundw
      case rel => exact ⟨k + 1, by omega, by go_num, unhide XS⟩
      case measure => simp [intOf]; omega
    · have hk' : k = n := by omega
      subst hk'
      clear hkl
      go_wp2
      go_ret
      refine ⟨rfl, ?_, (unhide XI).2⟩
      have := (unhide XI).1
      rw [prtW, List.take_of_length_le (by rw [unhide HS]; exact Nat.le_refl _), unhide HS] at this
      simpa using this
end Go.Proofs.YtjlgbafcpoakmaaGreatDoor

namespace Go.Proofs.YtjlgbafcpoakmaaGreatDoor
open Go.RowKit
/-- A Writer that was made in w has laid these down, and nothing was wrong. -/
def TWr (w : World) (l : List Int) (wr : World) : Prop := ∃ v, Wtr wr w.heap.size w.heap.size v l 0 ∧ Below w.heap.size w wr
theorem TWr.start {w x1 : World} (hR : Wtr x1 w.heap.size w.heap.size (.slice none 0 0) [] 0) (hB : Below w.heap.size w x1) : TWr w [] x1 := ⟨_, hR, hB⟩
theorem TWr.bel {w wr : World} {l : List Int} (h : TWr w l wr) : Below w.heap.size w wr := by obtain ⟨_, _, h⟩ := h; exact h
theorem TWr.below {w wr w2 : World} {l : List Int} (h : TWr w l wr) (hB : Below wr.heap.size wr w2) : TWr w l w2 := by
  obtain ⟨v, h1, h2⟩ := h
  exact ⟨v, h1.only (Only.of_below (P := fun _ => False) hB) (fun _ _ q => q), h2.trans (hB.mono h2.size)⟩
theorem TWr.keep {w x x3 : World} {v : Value} {l l' : List Int} {e : Int} (h : Wtr x w.heap.size w.heap.size v l e) (hb : Below w.heap.size w x) (hP : WPost w.heap.size w.heap.size v l' 0 x x3) : TWr w l' x3 := by
  obtain ⟨v', h1, h2, _⟩ := hP
  refine ⟨v', h1, hb.trans (h2.below hb.size (fun k hk q => ?_))⟩
  rcases q with q | q
  · omega
  · have := (h.2.1.lt k q).1
    omega
theorem TWr.num {w W wr : World} {l : List Int} (h : TWr w l W) (hB : Below W.heap.size W wr) (N : Nat) (h1 : 1 ≤ N) (h8 : N ≤ 8) (L : List Int) (hf : ∀ z ∈ L, fitsP z N) (p : Option Addr) (n c : Nat) (hn : n = L.length) (hL : Inl wr p L) (hp : ∀ k o, p = some ⟨k, o, none⟩ → W.heap.size ≤ k ∨ k < w.heap.size) (hsz : l.length + 8 * L.length ≤ 140737488355328) (z : Int) (hz : z = (N : Int)) :
    Calls Tryz.prog 163 #[.pointer (some ⟨w.heap.size, 0, none⟩), .int .i64 z, .slice p n c] wr fun ev w' => ev = .returned (.tuple #[]) ∧ TWr w (l ++ outN N L) w' := by
  subst hn hz
  obtain ⟨v, g1, g2⟩ := h
  have hw : Wtr wr w.heap.size w.heap.size v l 0 := g1.only (Only.of_below (P := fun _ => False) hB) (fun _ _ q => q)
  have hb : Below w.heap.size w wr := g2.trans (hB.mono g2.size)
  have hE : errN (N : Int) L = 0 := by rw [errN, if_neg (by omega), Int.toNat_natCast, if_pos hf]
  have hF : ∀ k o, p = some ⟨k, o, none⟩ → ¬ Fp w.heap.size v k := fun k o e q => by
    have := hp k o e
    rcases q with rfl | q
    · have := g1.lt; omega
    · have := (g1.2.1.lt k q); omega
  have hq := num_any wr w.heap.size w.heap.size v l 0 hw hb.size (N : Int) L p c (by
    rcases hL with q | ⟨lb, lo, e, q1, q2⟩
    · exact .inl q
    · exact .inr ⟨lb, lo, e, q1, hF lb lo e, q2⟩) hsz
  rw [hE, Int.toNat_natCast, wl_good] at hq
  refine hq.mono ?_
  rintro ev w' ⟨rfl, hP⟩
  exact ⟨rfl, TWr.keep hw hb hP⟩
theorem TWr.done {w wr : World} {l : List Int} (h : TWr w l wr) :
    Calls Tryz.prog 164 #[.pointer (some ⟨w.heap.size, 0, none⟩)] wr fun ev w' => ev = .returned (.tuple #[.string (strOfNums l), .int .i64 0]) ∧ Below wr.heap.size wr w' := by
  obtain ⟨v, hw, hb⟩ := h
  exact (done_any wr w.heap.size w.heap.size v l 0 hw).mono (fun ev w' h => h)
theorem inl_new (x : World) (z : Int) : Inl (x.alloc (Obj.cells #[.int .i64 z] 3)) (some ⟨x.heap.size, 0, none⟩) [z] := by
  refine .inr ⟨_, 0, rfl, (Blk.new x 3 #[.int .i64 z]).lt, fun j hj => ?_⟩
  obtain rfl : j = 0 := by simpa using hj
  rw [Nat.zero_add, (Blk.new x 3 #[.int .i64 z]).cell 0]
  rfl
end Go.Proofs.YtjlgbafcpoakmaaGreatDoor

namespace Go.Proofs.YtjlgbafcpoakmaaGreatDoor
open Go.RowKit
/-- The bytes of a head with a number, and where its records belong. -/
def headL (H : List Int) : List Int := if H.length = 0 then [0] else [1] ++ outN 4 H
def headB (n : Nat) (H : List Int) : ByteArray := strOfNums (makeL 2 (n : Int) (headL H))
theorem num1 (z : Int) (h0 : 0 ≤ z) (h1 : z < 256) : numB z 1 = [z] := by
  simp [numB]
  omega
theorem fits1j (z : Int) (h0 : 0 ≤ z) (h1 : z < 256) : fitsP z 1 := ⟨h0, by
  have e : (2 : Int) ^ (8 * 1) = 256 := by decide
  rw [e]
  omega⟩
theorem fits4j (z : Int) (h0 : 0 ≤ z) (h1 : z < 4294967296) : fitsP z 4 := ⟨h0, by
  have e : (2 : Int) ^ (8 * 4) = 4294967296 := by decide
  rw [e]
  omega⟩
theorem bytes_of {l : List Int} (h : ∀ x ∈ l, 0 ≤ x ∧ x < 256) : Bytes l := by
  intro j
  rw [List.getD_eq_getElem?_getD]
  cases e : l[j]? with
  | none => simp
  | some x => exact h x (List.mem_of_getElem? e)
theorem numB_memb (v : Int) (k : Nat) : ∀ x ∈ numB v k, 0 ≤ x ∧ x < 256 := fun x hx => by
  obtain ⟨j, hj, e⟩ := List.getElem_of_mem hx
  have := numB_bytes v k j
  rw [List.getD_eq_getElem?_getD, List.getElem?_eq_getElem hj, e] at this
  simpa using this
theorem headL_bytes (H : List Int) : Bytes (headL H) := bytes_of (fun x hx => by
  unfold headL at hx
  split at hx
  · simp at hx; omega
  · rcases List.mem_append.1 hx with hx | hx
    · simp at hx; omega
    · obtain ⟨n, _, h⟩ := List.mem_flatMap.1 hx
      exact numB_memb n 4 x h)
theorem headL_len (H : List Int) (h : H.length ≤ 60) : (headL H).length ≤ 244 := by
  unfold headL
  split
  · simp
  · rw [List.length_append, outN_len]
    simp
    omega
theorem headB_size (n : Nat) (H : List Int) (h : H.length ≤ 60) : (headB n H).size = 256 := by
  rw [headB, strOfNums_size, makeL_len _ _ _ (headL_len H h)]
theorem outN_one (z : Int) (h0 : 0 ≤ z) (h1 : z < 256) : [] ++ outN 1 [z] = [z] := by
  rw [List.nil_append]
  show numB z 1 ++ [] = [z]
  rw [List.append_nil, num1 z h0 h1]
theorem headL_nil : headL [] = [0] := by simp [headL]
theorem headB_eq (n : Nat) (H : List Int) (bd : ByteArray) (h : strOfNums (headL H) = bd) : strOfNums (makeL 2 (n : Int) (nums bd)) = headB n H := by
  subst h
  unfold headB
  rw [nums_strOfNums _ (headL_bytes H)]
set_option maxRecDepth 100000 in
set_option maxHeartbeats 400000 in
theorem isSet_any (n : Int) (p : Option Addr) (k c : Nat) (w : World) :
    Calls Tryz.prog 171 #[.agg #[.int .u32 n, .slice p k c]] w fun e w' => e = .returned (.bool (decide (0 < k))) ∧ Below w.heap.size w w' := by
  go_enter Tryz.func171, Tryz.ntmps171
  go_wp2
  go_ret
  exact ⟨rfl, (Below.refl _ _).alloc (Nat.le_refl _) _⟩
set_option maxRecDepth 100000 in
set_option maxHeartbeats 400000 in
theorem clearHead_any (n : Int) (w : World) :
    Calls Tryz.prog 102 #[.int .u32 n] w fun e w' => e = .returned (.agg #[.int .u32 n, .slice none 0 0]) ∧ Below w.heap.size w w' := by
  go_enter Tryz.func102, Tryz.ntmps102
  go_wp2
  have B := Blk.new w 159 #[.int .u32 n, .slice none 0 0]
  have hld := load_blk 159 _ B Tryz.underlying159 rfl (by kernel_rfl)
  refine bodyPost_ret (v := .agg #[.int .u32 n, .slice none 0 0]) (results_cell rfl _ _ _ ⟨w.heap.size, 0, none⟩ rfl _ hld) rfl ⟨rfl, ?_⟩
  exact (Below.refl _ w).alloc (Nat.le_refl _) _
set_option maxRecDepth 100000 in
set_option maxHeartbeats 400000 in
theorem setHead_any (n : Int) (w : World) (p : Option Addr) (c : Nat) (l : List Wr1) (m : Nat) (hm : m = l.length) (hl : Wls w p l) (hz : l.length ≤ 1000000) :
    Calls Tryz.prog 137 #[.int .u32 n, .slice p m c] w fun e w' => e = .returned (.agg #[.int .u32 n, .slice (some ⟨w.heap.size + 1, 0, none⟩) m m]) ∧ Blk w' (w.heap.size + 1) ((secs l).map (Value.int .i64)).toArray 3 ∧ Below w.heap.size w w' := by
  obtain ⟨x0, hx0⟩ : ∃ x, x = w.alloc (Obj.cells #[.int .u32 0, .slice none 0 0] 159) := ⟨_, rfl⟩
  have hs0 : x0.heap.size = w.heap.size + 1 := by rw [hx0]; simp
  have hb0 : Below w.heap.size w x0 := by rw [hx0]; exact (Below.refl _ w).alloc (Nat.le_refl _) _
  have B0 : Blk x0 w.heap.size #[.int .u32 0, .slice none 0 0] 159 := by rw [hx0]; exact Blk.new w _ _
  have HC := hide (sectorsOf_any x0 p c l m hm (hl.below hb0) hz)
  have HX := hide (And.intro hs0 (And.intro hb0 B0))
  clear hs0 hb0 B0 hl hz hm
  go_enter Tryz.func137, Tryz.ntmps137
  go_wp2_with fail
  rw [← hx0]
  replace hx0 := hide hx0
  refine (unhide HC).mono ?_
  rintro e x1 ⟨rfl, hB1, hb1⟩
  have hs1 := (unhide HX).1
  have hlt : w.heap.size < x0.heap.size := by omega
  have BH := (unhide HX).2.2.below hb1 hlt
  have q0 : x1.cell? ⟨w.heap.size, 0, none⟩ = some (.int .u32 0) := BH.cell 0
  have q1 : x1.cell? ⟨w.heap.size, 1, none⟩ = some (.slice none 0 0) := BH.cell 1
  have p0 := BH.frozen 0
  have p1 := BH.frozen 1
  have HB := hide (And.intro BH (And.intro hB1 hb1))
  have hg : x0.heap.size = w.heap.size + 1 := hs1
  have HG := hide hg
  rw [hg]
  clear BH hB1 hb1 hs1 hlt hg
  go_wp2
  have B := ((unhide HB).1.set 0 (.int .u32 n)).set 1 (.slice (some ⟨w.heap.size + 1, 0, none⟩) m m)
  have hld := load_blk 159 _ B Tryz.underlying159 rfl (by kernel_rfl)
  refine bodyPost_ret (v := .agg #[.int .u32 n, .slice (some ⟨w.heap.size + 1, 0, none⟩) m m]) (results_cell rfl _ _ _ ⟨w.heap.size, 0, none⟩ rfl _ hld) rfl ⟨rfl, ?_, ?_⟩
  · have := (unhide HB).2.1
    rw [unhide HG] at this
    exact (this.other _ _ (by show w.heap.size ≠ w.heap.size + 1; omega)).other _ _ (by show w.heap.size ≠ w.heap.size + 1; omega)
  · exact (((unhide HX).2.1.trans ((unhide HB).2.2.mono (unhide HX).2.1.size)).setCell (Nat.le_refl _) _).setCell (Nat.le_refl _) _
set_option maxRecDepth 100000 in
set_option maxHeartbeats 400000 in
theorem hwrite_clear (n : Nat) (hn : n < 4294967296) (p : Option Addr) (c : Nat) (w : World) :
    Calls Tryz.prog 103 #[.agg #[.int .u32 (n : Int), .slice p 0 c]] w fun e w' => e = .returned (.agg #[.int .i64 1, .string (headB n [])]) ∧ Below w.heap.size w w' := by
  obtain ⟨x0, hx0⟩ : ∃ x, x = (w.alloc (Obj.cells #[.int .u32 (n : Int), .slice p 0 c] 159)).alloc (Obj.cells #[.int .i64 0, .string ⟨#[]⟩] 119) := ⟨_, rfl⟩
  have hs0 : x0.heap.size = w.heap.size + 1 + 1 := by rw [hx0]; simp
  have hb0 : Below w.heap.size w x0 := by rw [hx0]; exact ((Below.refl _ w).alloc (Nat.le_refl _) _).alloc (by simp) _
  have BH0 : Blk x0 w.heap.size #[.int .u32 (n : Int), .slice p 0 c] 159 := by rw [hx0]; exact (Blk.new w _ _).alloc _
  have BW0 : Blk x0 (w.heap.size + 1) #[.int .i64 0, .string ⟨#[]⟩] 119 := by
    rw [hx0]
    have := Blk.new (w.alloc (Obj.cells #[.int .u32 (n : Int), .slice p 0 c] 159)) 119 #[.int .i64 0, .string ⟨#[]⟩]
    simpa using this
  have HX := hide (And.intro hs0 (And.intro hb0 (And.intro BH0 BW0)))
  have HNW := hide (newWriter_any x0)
  have HIS := hide (fun W => isSet_any (n : Int) p 0 c W)
  have HMK := hide (fun (W : World) => make_ok rep_ok 2 (n : Int) (strOfNums (headL [])) (fits1j 2 (by decide) (by decide)) (fits4j _ (by omega) (by omega)) (by rw [strOfNums_size]; exact headL_len [] (by simp)) W)
  obtain ⟨bd, hbd⟩ : ∃ bd, strOfNums (headL []) = bd := ⟨_, rfl⟩
  have hhb := headB_eq n [] bd hbd
  rw [hbd, hhb] at HMK
  have HBD := hide hbd
  generalize headB n [] = hb at *
  clear hs0 hb0 BH0 BW0 hbd hhb
  go_enter Tryz.func103, Tryz.ntmps103
  go_wp2_with fail
  rw [← hx0]
  replace hx0 := hide hx0
  refine (unhide HNW).mono ?_
  rintro e x1 ⟨rfl, hR1, hB1, hz1⟩
  have X1 := hide (TWr.start hR1 hB1)
  clear hR1 hB1 HNW hz1
  have hl0 : w.heap.size < x0.heap.size ∧ w.heap.size + 1 < x0.heap.size := by have := (unhide HX).1; omega
  have HL0 := hide hl0
  have BH1 := (unhide HX).2.2.1.below (unhide X1).bel hl0.1
  have c0 : x1.cell? ⟨w.heap.size, 0, none⟩ = some (.int .u32 (n : Int)) := BH1.cell 0
  have c1 : x1.cell? ⟨w.heap.size, 1, none⟩ = some (.slice p 0 c) := BH1.cell 1
  clear BH1 hl0
  go_wp2_with fail
  refine (unhide HIS _).mono ?_
  rintro e x2 ⟨rfl, hB2⟩
  have X2 := hide ((unhide X1).below hB2)
  clear hB2 X1 c0 c1
  go_wp2_with fail
  refine ((unhide X2).num ((Below.refl _ x2).alloc (Nat.le_refl _) _) 1 (by decide) (by decide) [0] (fun z hz => by simp at hz; subst hz; exact fits1j 0 (by decide) (by decide)) _ 1 1 rfl (inl_new x2 0) (fun k o q => by cases q; exact .inl (Nat.le_refl _)) (by decide) 1 rfl).mono ?_
  rintro e x4 ⟨rfl, h4⟩
  rw [outN_one 0 (by decide) (by decide), ← headL_nil] at h4
  have X4 := hide h4
  clear h4 X2
  go_wp2_with fail
  refine ((unhide X4).done).mono ?_
  rintro e x5 ⟨rfl, hB5⟩
  rw [unhide HBD]
  have X5 := hide ((unhide X4).below hB5)
  clear hB5 X4
  have BH5 := (unhide HX).2.2.1.below (unhide X5).bel (unhide HL0).1
  have c0 : x5.cell? ⟨w.heap.size, 0, none⟩ = some (.int .u32 (n : Int)) := BH5.cell 0
  have hcv : IntKind.i64.wrap (n : Int) = (n : Int) := wrapI_eq _ (by omega) (by omega)
  clear BH5
  go_wp2_with fail
  refine (unhide HMK _).mono ?_
  rintro e x6 ⟨rfl, hB6⟩
  have X6 := hide ((unhide X5).below hB6)
  clear hB6 X5 c0
  have BW6 := (unhide HX).2.2.2.below (unhide X6).bel (unhide HL0).2
  have q0 : x6.cell? ⟨w.heap.size + 1, 0, none⟩ = some (.int .i64 0) := BW6.cell 0
  have q1 : x6.cell? ⟨w.heap.size + 1, 1, none⟩ = some (.string ⟨#[]⟩) := BW6.cell 1
  have p0 := BW6.frozen 0
  have p1 := BW6.frozen 1
  have HB := hide BW6
  clear BW6
  go_wp2
  have B := ((unhide HB).set 0 (.int .i64 1)).set 1 (.string hb)
  have hld := load_blk 119 _ B Tryz.underlying119 rfl (by kernel_rfl)
  refine bodyPost_ret (v := .agg #[.int .i64 1, .string hb]) (results_cell rfl _ _ _ ⟨w.heap.size + 1, 0, none⟩ rfl _ hld) rfl ⟨rfl, ?_⟩
  exact (((unhide HX).2.1.trans ((unhide X6).bel.mono (unhide HX).2.1.size)).setCell (by show w.heap.size ≤ w.heap.size + 1; omega) _).setCell (by show w.heap.size ≤ w.heap.size + 1; omega) _
set_option maxRecDepth 100000 in
set_option maxHeartbeats 400000 in
theorem hwrite_set (n : Nat) (hn : n < 4294967296) (p : Option Addr) (c : Nat) (w : World) (H : List Int) (m : Nat) (hm : m = H.length) (h0 : 0 < m) (hH : Inl w p H) (hlt : ∀ k o, p = some ⟨k, o, none⟩ → k < w.heap.size) (hf : ∀ z ∈ H, fitsP z 4) (hl : H.length ≤ 60) :
    Calls Tryz.prog 103 #[.agg #[.int .u32 (n : Int), .slice p m c]] w fun e w' => e = .returned (.agg #[.int .i64 1, .string (headB n H)]) ∧ Below w.heap.size w w' := by
  obtain ⟨x0, hx0⟩ : ∃ x, x = (w.alloc (Obj.cells #[.int .u32 (n : Int), .slice p m c] 159)).alloc (Obj.cells #[.int .i64 0, .string ⟨#[]⟩] 119) := ⟨_, rfl⟩
  have hs0 : x0.heap.size = w.heap.size + 1 + 1 := by rw [hx0]; simp
  have hb0 : Below w.heap.size w x0 := by rw [hx0]; exact ((Below.refl _ w).alloc (Nat.le_refl _) _).alloc (by simp) _
  have BH0 : Blk x0 w.heap.size #[.int .u32 (n : Int), .slice p m c] 159 := by rw [hx0]; exact (Blk.new w _ _).alloc _
  have BW0 : Blk x0 (w.heap.size + 1) #[.int .i64 0, .string ⟨#[]⟩] 119 := by
    rw [hx0]
    have := Blk.new (w.alloc (Obj.cells #[.int .u32 (n : Int), .slice p m c] 159)) 119 #[.int .i64 0, .string ⟨#[]⟩]
    simpa using this
  have HX := hide (And.intro hs0 (And.intro hb0 (And.intro BH0 BW0)))
  have HNW := hide (newWriter_any x0)
  have HIS := hide (fun W => isSet_any (n : Int) p m c W)
  have HMK := hide (fun (W : World) => make_ok rep_ok 2 (n : Int) (strOfNums (headL H)) (fits1j 2 (by decide) (by decide)) (fits4j _ (by omega) (by omega)) (by rw [strOfNums_size]; exact headL_len H hl) W)
  obtain ⟨bd, hbd⟩ : ∃ bd, strOfNums (headL H) = bd := ⟨_, rfl⟩
  have hhb := headB_eq n H bd hbd
  rw [hbd, hhb] at HMK
  have HBD := hide hbd
  generalize headB n H = hb at *
  clear hs0 hb0 BH0 BW0 hbd hhb
  have hm0 : (decide (0 < m)) = true := by simp; omega
  rw [hm0] at HIS
  have HHH := hide (And.intro hH (And.intro hlt (And.intro hf (And.intro hl hm))))
  clear hH hlt hf hl hm0 hm
  go_enter Tryz.func103, Tryz.ntmps103
  go_wp2_with fail
  rw [← hx0]
  replace hx0 := hide hx0
  refine (unhide HNW).mono ?_
  rintro e x1 ⟨rfl, hR1, hB1, hz1⟩
  have X1 := hide (TWr.start hR1 hB1)
  clear hR1 hB1 HNW hz1
  have hl0 : w.heap.size < x0.heap.size ∧ w.heap.size + 1 < x0.heap.size := by have := (unhide HX).1; omega
  have HL0 := hide hl0
  have BH1 := (unhide HX).2.2.1.below (unhide X1).bel hl0.1
  have c0 : x1.cell? ⟨w.heap.size, 0, none⟩ = some (.int .u32 (n : Int)) := BH1.cell 0
  have c1 : x1.cell? ⟨w.heap.size, 1, none⟩ = some (.slice p m c) := BH1.cell 1
  clear BH1 hl0
  go_wp2_with fail
  refine (unhide HIS _).mono ?_
  rintro e x2 ⟨rfl, hB2⟩
  have X2 := hide ((unhide X1).below hB2)
  clear hB2 X1 c0 c1
  go_wp2_with fail
  refine ((unhide X2).num ((Below.refl _ x2).alloc (Nat.le_refl _) _) 1 (by decide) (by decide) [1] (fun z hz => by simp at hz; subst hz; exact fits1j 1 (by decide) (by decide)) _ 1 1 rfl (inl_new x2 1) (fun k o q => by cases q; exact .inl (Nat.le_refl _)) (by decide) 1 rfl).mono ?_
  rintro e x3 ⟨rfl, h3⟩
  rw [outN_one 1 (by decide) (by decide)] at h3
  have X3 := hide h3
  clear h3 X2
  have BH3 := (unhide HX).2.2.1.below (unhide X3).bel (unhide HL0).1
  have c1 : x3.cell? ⟨w.heap.size, 1, none⟩ = some (.slice p m c) := BH3.cell 1
  have hI3 : Inl x3 p H := (unhide HHH).1.below ((unhide HX).2.1.trans ((unhide X3).bel.mono (unhide HX).2.1.size)) (fun _ => (unhide HHH).2.1)
  have HI3 := hide hI3
  clear BH3 hI3
  go_wp2_with fail
  refine ((unhide X3).num (Below.refl _ x3) 4 (by decide) (by decide) H (unhide HHH).2.2.1 p m c (unhide HHH).2.2.2.2 (unhide HI3) (fun k o q => .inr (by have := (unhide HHH).2.1 k o q; have := (unhide HL0).1; omega)) (by have := (unhide HHH).2.2.2.1; show 1 + 8 * H.length ≤ _; omega) 4 rfl).mono ?_
  rintro e x4 ⟨rfl, h4⟩
  have X4 := hide (show TWr x0 (headL H) x4 from by
    rw [headL, if_neg (by have := (unhide HHH).2.2.2.2; omega)]
    exact h4)
  clear h4 X3 c1 HI3
  go_wp2_with fail
  refine ((unhide X4).done).mono ?_
  rintro e x5 ⟨rfl, hB5⟩
  rw [unhide HBD]
  have X5 := hide ((unhide X4).below hB5)
  clear hB5 X4
  have BH5 := (unhide HX).2.2.1.below (unhide X5).bel (unhide HL0).1
  have c0 : x5.cell? ⟨w.heap.size, 0, none⟩ = some (.int .u32 (n : Int)) := BH5.cell 0
  have hcv : IntKind.i64.wrap (n : Int) = (n : Int) := wrapI_eq _ (by omega) (by omega)
  clear BH5
  go_wp2_with fail
  refine (unhide HMK _).mono ?_
  rintro e x6 ⟨rfl, hB6⟩
  have X6 := hide ((unhide X5).below hB6)
  clear hB6 X5 c0
  have BW6 := (unhide HX).2.2.2.below (unhide X6).bel (unhide HL0).2
  have q0 : x6.cell? ⟨w.heap.size + 1, 0, none⟩ = some (.int .i64 0) := BW6.cell 0
  have q1 : x6.cell? ⟨w.heap.size + 1, 1, none⟩ = some (.string ⟨#[]⟩) := BW6.cell 1
  have p0 := BW6.frozen 0
  have p1 := BW6.frozen 1
  have HB := hide BW6
  clear BW6
  go_wp2
  have B := ((unhide HB).set 0 (.int .i64 1)).set 1 (.string hb)
  have hld := load_blk 119 _ B Tryz.underlying119 rfl (by kernel_rfl)
  refine bodyPost_ret (v := .agg #[.int .i64 1, .string hb]) (results_cell rfl _ _ _ ⟨w.heap.size + 1, 0, none⟩ rfl _ hld) rfl ⟨rfl, ?_⟩
  exact (((unhide HX).2.1.trans ((unhide X6).bel.mono (unhide HX).2.1.size)).setCell (by show w.heap.size ≤ w.heap.size + 1; omega) _).setCell (by show w.heap.size ≤ w.heap.size + 1; omega) _
end Go.Proofs.YtjlgbafcpoakmaaGreatDoor

/-
  DERIVED: THE SHELF's CONTRACTS AT THIS DUMP, IN PLAIN WORDS (tools/lay-plain.mjs out of 'TryzShelf.lean', which tools/lay-shelf.mjs wrote): THE SAME DECLARATIONS UNDER THE SAME NAMES: 'import', 'namespace', 'open', 'def', 'theorem' AND NOTHING ELSE: no command of the shelf's: FOR A HAND-IN. Each laying: the table of numbers ('.._ren') and one theorem, a field a fact of the dump's own or the kernel's comparison; each contract: ONE APPLICATION.
-/
namespace Go.Proofs.YtjlgbafcpoakmaaGreatDoor
open Go.Shelf
def Tryz.lays189_ren : Go.Shelf.Ren := ⟨fun | 189 => 198 | 125 => 236 | 257 => 235 | 128 => 254 | 129 => 255 | 294 => 245 | 295 => 246 | 296 => 247 | 297 => 248 | 298 => 249 | 299 => 250 | 216 => 251 | 300 => 252 | 301 => 253 | 328 => 261 | 329 => 262 | 330 => 263 | 331 => 264 | 332 => 265 | 215 => 266 | 343 => 270 | n => n, fun | 28 => 22 | 3 => 3 | 46 => 209 | 0 => 0 | 51 => 157 | 53 => 252 | 4 => 4 | 183 => 281 | 182 => 280 | 131 => 284 | 5 => 5 | 9 => 9 | 218 => 299 | 222 => 303 | 228 => 319 | 229 => 320 | n => n, fun | n => n⟩
theorem Tryz.lays189 : Go.Proofs.Lays.n189 Tryz.prog Tryz.lays189_ren := {
  mixed := by kernel_rfl
  f125 := Tryz.func236.trans (congrArg some (by kernel_rfl))
  f128 := Tryz.func254.trans (congrArg some (by kernel_rfl))
  f129 := Tryz.func255.trans (congrArg some (by kernel_rfl))
  f189 := Tryz.func198.trans (congrArg some (by kernel_rfl))
  f215 := Tryz.func266.trans (congrArg some (by kernel_rfl))
  f216 := Tryz.func251.trans (congrArg some (by kernel_rfl))
  f257 := Tryz.func235.trans (congrArg some (by kernel_rfl))
  f294 := Tryz.func245.trans (congrArg some (by kernel_rfl))
  f295 := Tryz.func246.trans (congrArg some (by kernel_rfl))
  f296 := Tryz.func247.trans (congrArg some (by kernel_rfl))
  f297 := Tryz.func248.trans (congrArg some (by kernel_rfl))
  f298 := Tryz.func249.trans (congrArg some (by kernel_rfl))
  f299 := Tryz.func250.trans (congrArg some (by kernel_rfl))
  f300 := Tryz.func252.trans (congrArg some (by kernel_rfl))
  f301 := Tryz.func253.trans (congrArg some (by kernel_rfl))
  f328 := Tryz.func261.trans (congrArg some (by kernel_rfl))
  f329 := Tryz.func262.trans (congrArg some (by kernel_rfl))
  f330 := Tryz.func263.trans (congrArg some (by kernel_rfl))
  f331 := Tryz.func264.trans (congrArg some (by kernel_rfl))
  f332 := Tryz.func265.trans (congrArg some (by kernel_rfl))
  f343 := Tryz.func270.trans (congrArg some (by kernel_rfl))
  t0 := Tryz.underlying0
  a0 := Tryz.isAgg0
  z0 := Tryz.sizeOf0
  v0 := Tryz.zeroValue0
  t3 := Tryz.underlying3
  a3 := Tryz.isAgg3
  z3 := Tryz.sizeOf3
  v3 := Tryz.zeroValue3
  t4 := Tryz.underlying4
  a4 := Tryz.isAgg4
  z4 := Tryz.sizeOf4
  v4 := Tryz.zeroValue4
  t5 := Tryz.underlying5
  a5 := Tryz.isAgg5
  z5 := Tryz.sizeOf5
  v5 := Tryz.zeroValue5
  t9 := Tryz.underlying9
  a9 := Tryz.isAgg9
  z9 := Tryz.sizeOf9
  v9 := Tryz.zeroValue9
  t28 := Tryz.underlying22
  a28 := Tryz.isAgg22
  z28 := Tryz.sizeOf22
  v28 := Tryz.zeroValue22
  t46 := Tryz.underlying209
  a46 := Tryz.isAgg209
  z46 := Tryz.sizeOf209
  v46 := Tryz.zeroValue209
  t51 := Tryz.underlying157
  a51 := Tryz.isAgg157
  z51 := Tryz.sizeOf157
  v51 := Tryz.zeroValue157
  t53 := Tryz.underlying252
  a53 := Tryz.isAgg252
  z53 := Tryz.sizeOf252
  v53 := Tryz.zeroValue252
  t131 := Tryz.underlying284
  a131 := Tryz.isAgg284
  z131 := Tryz.sizeOf284
  v131 := Tryz.zeroValue284
  t182 := Tryz.underlying280
  a182 := Tryz.isAgg280
  z182 := Tryz.sizeOf280
  v182 := Tryz.zeroValue280
  t183 := Tryz.underlying281
  a183 := Tryz.isAgg281
  z183 := Tryz.sizeOf281
  v183 := Tryz.zeroValue281
  t218 := Tryz.underlying299
  a218 := Tryz.isAgg299
  z218 := Tryz.sizeOf299
  v218 := Tryz.zeroValue299
  t222 := Tryz.underlying303
  a222 := Tryz.isAgg303
  z222 := Tryz.sizeOf303
  v222 := Tryz.zeroValue303
  t228 := Tryz.underlying319
  a228 := Tryz.isAgg319
  z228 := Tryz.sizeOf319
  v228 := Tryz.zeroValue319
  t229 := Tryz.underlying320
  a229 := Tryz.isAgg320
  z229 := Tryz.sizeOf320
  v229 := Tryz.zeroValue320 }
open Go.Sort Go.RowKit in
theorem Tryz.slices_Sort_int (blk off cap : Nat) (zs : List Int) (w : World) (hH : Holds (Value.int .i64) w blk off zs.toArray) (hblk : blk < w.heap.size) (hsz : zs.length < 4611686018427387904) :
    Calls Tryz.prog 198 #[.slice (some ⟨blk, off, none⟩) zs.length cap] w fun e w' =>
      e = .returned (.tuple #[]) ∧ ∃ n os, w' = grow (putRow (Value.int .i64) (Sort.ahead w n) blk off (zs.mergeSort fun x y => decide (x ≤ y)).toArray) os := Any.slices_Sort_int Tryz.lays189 blk off cap zs w hH hblk hsz
def Tryz.laysNm220_ren : Go.Shelf.Ren := ⟨fun | 20 => 199 | n => n, fun | 22 => 22 | 3 => 3 | 4 => 4 | 0 => 0 | n => n, fun | n => n⟩
theorem Tryz.laysNm220 : Go.Proofs.Lays2.n20 Tryz.prog Tryz.laysNm220_ren := {
  mixed := by kernel_rfl
  f20 := Tryz.func199.trans (congrArg some (by kernel_rfl))
  t0 := Tryz.underlying0
  a0 := Tryz.isAgg0
  z0 := Tryz.sizeOf0
  v0 := Tryz.zeroValue0
  t3 := Tryz.underlying3
  a3 := Tryz.isAgg3
  z3 := Tryz.sizeOf3
  v3 := Tryz.zeroValue3
  t4 := Tryz.underlying4
  a4 := Tryz.isAgg4
  z4 := Tryz.sizeOf4
  v4 := Tryz.zeroValue4
  t22 := Tryz.underlying22
  a22 := Tryz.isAgg22
  z22 := Tryz.sizeOf22
  v22 := Tryz.zeroValue22
  i3 := by kernel_rfl }
open Go.RowKit Go.Lib Go.Sort in
/-- slices.Compact at []int, over an array: the library's two loops are walked. (LAID: no walk: one application.) -/
theorem Tryz.slices_Compact_int_arr (blk off cap : Nat) (d : Array Int) (w : World) (hH : Holds encI w blk off d) (hsz : d.size ≤ 9223372036854775807) (hcap : d.size ≤ cap) :
    Calls Tryz.prog 199 #[.slice (some ⟨blk, off, none⟩) d.size cap] w fun e w' => e = .returned (.slice (some ⟨blk, off, none⟩) (compactUpTo d d.size).length cap) ∧ ∃ q, w' = putRow encI (Sort.ahead w q) blk off (compactUpTo d d.size ++ List.replicate (d.size - (compactUpTo d d.size).length) 0).toArray := Any.slices_Compact_int_arr Tryz.laysNm220 blk off cap d w hH hsz hcap
open Go.RowKit Go.Lib Go.Sort in
/-- slices.Compact at []int: "Compact replaces consecutive runs of equal elements with a single copy. This is like the uniq command found on Unix. Compact modifies the contents of the slice s and returns the modified slice, which may have a smaller length. Compact zeroes the elements between the new length and the original length. The result preserves the nilness of s.": IT RETURNS THE SLICE CUT TO 'Lib.compact zs'; ITS CELLS HOLD 'Lib.compact zs', THEN ZERO VALUES up to the old length; all else is as it was, but for the count of draws. IN THE WORDS OF slices.Sort's CONTRACT ('Holds', 'putRow'): so the everyday 'slices.Sort(xs); xs = slices.Compact(xs)' goes from the one contract to the other. It asks 'zs.length ≤ cap' (every slice's: the reslicing 's[:k]' looks at it). Length 0, nil: '.._empty'. (LAID: no walk: one application.) -/
theorem Tryz.slices_Compact_int (blk off cap : Nat) (zs : List Int) (w : World) (hH : Holds (Value.int .i64) w blk off zs.toArray) (hsz : zs.length ≤ 9223372036854775807) (hcap : zs.length ≤ cap) :
    Calls Tryz.prog 199 #[.slice (some ⟨blk, off, none⟩) zs.length cap] w fun e w' => e = .returned (.slice (some ⟨blk, off, none⟩) (Lib.compact zs).length cap) ∧ ∃ q, w' = putRow (Value.int .i64) (Sort.ahead w q) blk off (Lib.compact zs ++ List.replicate (zs.length - (Lib.compact zs).length) 0).toArray := Any.slices_Compact_int Tryz.laysNm220 blk off cap zs w hH hsz hcap
open Go.RowKit Go.Lib Go.Sort in
/-- The same at a slice of length 0, a nil one too: it comes back as it is. (LAID: no walk: one application.) -/
theorem Tryz.slices_Compact_int_empty (a : Option Addr) (cap : Nat) (w : World) :
    Calls Tryz.prog 199 #[.slice a 0 cap] w fun e w' => e = .returned (.slice a 0 cap) ∧ w' = w := Any.slices_Compact_int_empty Tryz.laysNm220 a cap w
open Go.RowKit Go.Sort in
/-- .. and plain. (LAID: no walk: one application.) -/
theorem Tryz.slices_Sort_int_none (p : Option Addr) (cap : Nat) (w : World) :
    Calls Tryz.prog 198 #[.slice p 0 cap] w fun e w' => e = .returned (.tuple #[]) ∧ w' = w := Any.slices_Sort_int_none Tryz.lays189 p cap w
end Go.Proofs.YtjlgbafcpoakmaaGreatDoor
