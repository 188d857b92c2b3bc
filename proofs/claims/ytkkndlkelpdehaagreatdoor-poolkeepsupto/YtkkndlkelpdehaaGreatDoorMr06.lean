import Derived.Test.YtkkndlkelpdehaaGreatDoorMr05
import Derived.Deep.RegionHeld3
import Derived.Test.YtkkndlkelpdehaaGreatDoorMr00
namespace Go.Proofs.YtkkndlkelpdehaaGreatDoor
open Go.RowKit
def wrv : List Wr1 → List Value
  | [] => []
  | p :: r => .int .i64 p.1 :: .string p.2 :: wrv r
theorem wrv_len : ∀ l : List Wr1, (wrv l).length = l.length * 2
  | [] => rfl
  | _ :: r => by simp [wrv, wrv_len r]; omega
theorem wrv_app : ∀ l m : List Wr1, wrv (l ++ m) = wrv l ++ wrv m
  | [], m => rfl
  | p :: r, m => by simp [wrv, wrv_app r m]
theorem wrv_at : ∀ (l : List Wr1) (k : Nat) (_ : k < l.length), (wrv l)[k * 2]? = some (.int .i64 (l.getD k wr0).1) ∧ (wrv l)[k * 2 + 1]? = some (.string (l.getD k wr0).2)
  | p :: r, 0, _ => by simp [wrv]
  | p :: r, k + 1, hk => by
    have := wrv_at r k (by simpa using hk)
    rw [show (k + 1) * 2 = k * 2 + 1 + 1 by omega]
    simpa [wrv] using this
theorem wrv_set : ∀ (l : List Wr1) (k : Nat) (x : Wr1), k < l.length → ((wrv l).set (k * 2) (.int .i64 x.1)).set (k * 2 + 1) (.string x.2) = wrv (l.set k x)
  | p :: r, 0, x, _ => by simp [wrv]
  | p :: r, k + 1, x, hk => by
    have := wrv_set r k x (by simpa using hk)
    rw [show (k + 1) * 2 = k * 2 + 1 + 1 by omega]
    simp only [wrv, List.set_cons_succ]
    rw [this]
theorem wls_blk {w : World} {g : Nat} {l : List Wr1} (h : Blk w g (wrv l).toArray 68) : Wls w (some ⟨g, 0, none⟩) l := fun j hj => by
  obtain ⟨a1, a2⟩ := wrv_at l j hj
  exact ⟨g, 0, rfl, h.lt, by rw [Nat.zero_add, h.cell]; simpa using a1, by rw [Nat.zero_add, h.cell]; simpa using a2⟩
theorem infoWj : (Tryz.prog.info? 68).map (fun i => (i.zero, i.size, i.bytes)) = some (some (.agg #[.int .i64 0, .string ⟨#[]⟩]), 2, 24) := by kernel_rfl
set_option maxRecDepth 100000 in
theorem run_make_w (l : Nat) (hc : l ≤ 1000000000) (w : World) : (Instr.makeSlice 64 (.int .i64 (l : Int)) (.int .i64 (l : Int))).run Tryz.prog w = .ok (.slice (some ⟨w.heap.size, 0, none⟩) l l) (w.alloc (.cells (wrv (List.replicate l wr0)).toArray 68)) := by
  obtain ⟨i0, hi, hz0, hz1, hz2⟩ := info_parts infoWj
  have := run_make (P := Tryz.prog) w 64 68 i0 (.agg #[.int .i64 0, .string ⟨#[]⟩]) Tryz.underlying64 hi hz0 .i64 .i64 (l : Int) (l : Int) (by omega) (by omega) (by rw [hz2]; omega) (by omega)
  rw [this, hz1]
  simp only [Int.toNat_natCast]
  congr 3
  apply Array.ext
  · simp [size_madeCells, wrv_len]
  · intro j h1 h2
    have h2' : j < l * 2 := by simpa [wrv_len] using h2
    have hR : (wrv (List.replicate l wr0))[j]? = some ((wrv (List.replicate l wr0)).toArray[j]) := by simp
    have hq : j / 2 < (List.replicate l wr0).length := by simp; omega
    obtain ⟨a1, a2⟩ := wrv_at (List.replicate l wr0) (j / 2) hq
    have eg : (List.replicate l wr0).getD (j / 2) wr0 = wr0 := by
      rw [List.getD_eq_getElem?_getD, List.getElem?_replicate]
      split <;> rfl
    rw [eg] at a1 a2
    by_cases hm : j % 2 = 0
    · rw [show j / 2 * 2 = j by omega] at a1
      rw [Option.some.inj (hR.symm.trans a1)]
      simp [madeCells, Value.cells, hm, wr0]
    · rw [show j / 2 * 2 + 1 = j by omega] at a2
      rw [Option.some.inj (hR.symm.trans a2)]
      have : j % 2 = 1 := by omega
      simp [madeCells, Value.cells, this, wr0]
theorem getD_of {l : List Wr1} {k : Nat} (hk : k < l.length) : l.getD k wr0 = l[k] := by rw [List.getD_eq_getElem?_getD, List.getElem?_eq_getElem hk]; rfl
/-- The first k of a list of numbers, then noughts. -/
def prtI (l : List Int) (k : Nat) : List Int := l.take k ++ List.replicate (l.length - k) 0
theorem prtI_len (l : List Int) (k : Nat) (h : k ≤ l.length) : (prtI l k).length = l.length := by simp [prtI]; omega
theorem prtI_step (l : List Int) (k : Nat) (h : k < l.length) : (prtI l k).set k (l.getD k 0) = prtI l (k + 1) := by
  have e1 : l.take (k + 1) = l.take k ++ [l.getD k 0] := by
    rw [List.take_succ_eq_append_getElem h]
    simp [List.getD_eq_getElem?_getD, h]
  have e2 : List.replicate (l.length - k) (0 : Int) = 0 :: List.replicate (l.length - (k + 1)) 0 := by
    rw [show l.length - k = (l.length - (k + 1)) + 1 by omega, List.replicate_succ]
  rw [prtI, prtI, e1, e2, List.set_append]
  have hl : (l.take k).length = k := by simp; omega
  simp [hl]
def prtW (l : List Wr1) (k : Nat) : List Wr1 := l.take k ++ List.replicate (l.length - k) wr0
theorem prtW_len (l : List Wr1) (k : Nat) (h : k ≤ l.length) : (prtW l k).length = l.length := by simp [prtW]; omega
theorem prtW_step (l : List Wr1) (k : Nat) (h : k < l.length) : (prtW l k).set k (l.getD k wr0) = prtW l (k + 1) := by
  have e1 : l.take (k + 1) = l.take k ++ [l.getD k wr0] := by
    rw [List.take_succ_eq_append_getElem h, getD_of h]
  have e2 : List.replicate (l.length - k) wr0 = wr0 :: List.replicate (l.length - (k + 1)) wr0 := by
    rw [show l.length - k = (l.length - (k + 1)) + 1 by omega, List.replicate_succ]
  rw [prtW, prtW, e1, e2, List.set_append]
  have hl : (l.take k).length = k := by simp; omega
  simp [hl]
def secs (l : List Wr1) : List Int := l.map (·.1)
theorem secs_at (l : List Wr1) (k : Nat) (hk : k < l.length) : (secs l).getD k 0 = (l.getD k wr0).1 := by
  rw [getD_of hk]
  simp [secs, List.getD_eq_getElem?_getD, hk]
/-- The records: each text at its place. -/
def recL (l : List Wr1) : List Wr1 := (List.range l.length).map fun i => (((2 + i : Nat) : Int), (l.getD i wr0).2)
theorem recL_len (l : List Wr1) : (recL l).length = l.length := by simp [recL]
theorem recL_at (l : List Wr1) (k : Nat) (hk : k < l.length) : (recL l).getD k wr0 = (((2 + k : Nat) : Int), (l.getD k wr0).2) := by
  simp [recL, List.getD_eq_getElem?_getD, hk]
def SeI (w : World) (l : List Int) (k : Nat) (wr : World) : Prop := Blk wr w.heap.size ((prtI l k).map (Value.int .i64)).toArray 3 ∧ Below w.heap.size w wr
def ReI (w : World) (l : List Wr1) (k : Nat) (wr : World) : Prop := Blk wr w.heap.size (wrv (prtW l k)).toArray 68 ∧ Below w.heap.size w wr
theorem SeI.step {w wr x : World} {l : List Int} {k : Nat} (h : SeI w l k wr) (hk : k < l.length) (hb : Below wr.heap.size wr x) : SeI w l (k + 1) (x.setCell ⟨w.heap.size, k, none⟩ (.int .i64 (l.getD k 0))) := by
  refine ⟨?_, (h.2.trans (hb.mono h.2.size)).setCell (Nat.le_refl _) _⟩
  have := (h.1.below hb h.1.lt).set k (.int .i64 (l.getD k 0))
  have e : ((prtI l k).map (Value.int .i64)).toArray.setIfInBounds k (.int .i64 (l.getD k 0)) = ((prtI l (k + 1)).map (Value.int .i64)).toArray := by
    rw [← prtI_step l k hk]
    simp [List.map_set]
  rw [e] at this
  exact this
theorem ReI.step {w wr x : World} {l : List Wr1} {k : Nat} (h : ReI w l k wr) (hk : k < l.length) (hb : Below wr.heap.size wr x) : ReI w l (k + 1) ((x.setCell ⟨w.heap.size, k * 2, none⟩ (.int .i64 (l.getD k wr0).1)).setCell ⟨w.heap.size, k * 2 + 1, none⟩ (.string (l.getD k wr0).2)) := by
  refine ⟨?_, ((h.2.trans (hb.mono h.2.size)).setCell (Nat.le_refl _) _).setCell (Nat.le_refl _) _⟩
  have := ((h.1.below hb h.1.lt).set (k * 2) (.int .i64 (l.getD k wr0).1)).set (k * 2 + 1) (.string (l.getD k wr0).2)
  have e : ((wrv (prtW l k)).toArray.setIfInBounds (k * 2) (.int .i64 (l.getD k wr0).1)).setIfInBounds (k * 2 + 1) (.string (l.getD k wr0).2) = (wrv (prtW l (k + 1))).toArray := by
    rw [← prtW_step l k hk, ← wrv_set _ k _ (by rw [prtW_len l k (by omega)]; exact hk)]
    simp
  rw [e] at this
  exact this
set_option maxRecDepth 100000 in
set_option maxHeartbeats 2000000 in
theorem sectorsOf_any (w : World) (p : Option Addr) (c : Nat) (l : List Wr1) (n : Nat) (hn : n = l.length) (hl : Wls w p l) (hz : l.length ≤ 1000000) :
    Calls Tryz.prog 81 #[.slice p n c] w fun e w' => e = .returned (.slice (some ⟨w.heap.size, 0, none⟩) n n) ∧ Blk w' w.heap.size ((secs l).map (Value.int .i64)).toArray 3 ∧ Below w.heap.size w w' := by
  have hsl : (secs l).length = n := by rw [hn]; simp [secs]
  have hmk := run_make_i64 n n (Nat.le_refl _) (by omega) w
  have X0 := hide (show SeI w (secs l) 0 (w.alloc (.cells ((List.replicate n (0 : Int)).map (Value.int .i64)).toArray 3)) from ⟨by simpa [prtI, hsl] using Blk.new w 3 ((List.replicate n (0 : Int)).map (Value.int .i64)).toArray, (Below.refl _ _).alloc (Nat.le_refl _) _⟩)
  generalize hx2 : w.alloc (.cells ((List.replicate n (0 : Int)).map (Value.int .i64)).toArray 3) = x2 at *
  clear hx2
  have HL := hide hl
  have HN := hide hn
  have HS := hide hsl
  have hzn : n ≤ 1000000 := by omega
  clear hl hn hsl hz
  go_enter Tryz.func81, Tryz.ntmps81
  go_wp2
  clear hmk
  go_loopw [11] (fun i wr => ∃ k : Nat, k ≤ n ∧ i = .int .i64 (k : Int) ∧ SeI w (secs l) k wr) (fun i _ => n - (intOf i).toNat)
  case atStart => exact ⟨0, by omega, rfl, unhide X0⟩
  case round =>
    obtain ⟨k, hk, rfl, hI⟩ := hrel
    obtain ⟨wo, rfl⟩ : ∃ wo, wo = wr := ⟨_, rfl⟩
    have XI := hide hI
    clear hI X0
    by_cases hkl : k < n
    · have hkl2 : k < l.length := by rw [← unhide HN]; exact hkl
      obtain ⟨g, o, rfl, hg, c0, c1⟩ := (unhide HL).below (unhide XI).2 k hkl2
      have hse := secs_at l k hkl2
      obtain ⟨z, hz⟩ : ∃ z, (l.getD k wr0).1 = z := ⟨_, rfl⟩
      obtain ⟨t, ht⟩ : ∃ t, (l.getD k wr0).2 = t := ⟨_, rfl⟩
      rw [hz] at c0 hse
      rw [ht] at c1
      have hld := load_wr wo g (o + k * 2) z t c0 c1
      obtain ⟨x1, hx1⟩ : ∃ x, x = wo.alloc (Obj.cells #[.int .i64 z, .string t] 68) := ⟨_, rfl⟩
      have hb1 : Below wo.heap.size wo x1 := by rw [hx1]; exact (Below.refl _ wo).alloc (Nat.le_refl _) _
      have hB1 := (unhide XI).1.below hb1 (unhide XI).1.lt
      have hol : k < (prtI (secs l) k).length := by rw [prtI_len _ _ (by rw [unhide HS]; exact hk), unhide HS]; exact hkl
      have d0 : x1.cell? ⟨w.heap.size, k, none⟩ = some (.int .i64 ((prtI (secs l) k).getD k 0)) := by rw [hB1.cell]; simp [List.getD_eq_getElem?_getD, hol]
      have f0 := hB1.frozen k
      have XR := hide ((unhide XI).step (by rw [unhide HS]; exact hkl) hb1)
      rw [hse] at XR
      generalize (prtI (secs l) k).getD k 0 = old at *
      have HX := hide hx1
      rw [hx1] at d0 f0 XR
      have i0 : 0 ≤ (k : Int) := by omega
      have i1 : (k : Int) < (n : Int) := by omega
      clear hx1 hb1 hB1 hse hz ht XI HX hkl2
      go_wp2
      go_roundw
      case rel => exact ⟨k + 1, by omega, by go_num, unhide XR⟩
      case measure => simp [intOf]; omega
    · have hk' : k = n := by omega
      subst hk'
      clear hkl
      go_wp2
      go_ret
      refine ⟨rfl, ?_, (unhide XI).2⟩
      have := (unhide XI).1
      rw [prtI, List.take_of_length_le (by rw [unhide HS]; exact Nat.le_refl _), unhide HS] at this
      simpa using this
set_option maxRecDepth 100000 in
set_option maxHeartbeats 2000000 in
theorem recordAt_any (i : Nat) (hi : i ≤ 1000000) (w : World) : Calls Tryz.prog 85 #[.int .i64 (i : Int)] w fun e w' => e = .returned (.int .i64 ((2 + i : Nat) : Int)) ∧ w' = w := by
  have hw : IntKind.i64.wrap (2 + (i : Int)) = 2 + (i : Int) := wrapI_eq _ (by omega) (by omega)
  have e : ((2 + i : Nat) : Int) = 2 + (i : Int) := by omega
  rw [e]
  clear e
  go_enter Tryz.func85, Tryz.ntmps85
  go_wp2
  go_ret
  exact ⟨rfl, rfl⟩
set_option maxRecDepth 100000 in
set_option maxHeartbeats 4000000 in
theorem asRecords_any (w : World) (p : Option Addr) (c : Nat) (l : List Wr1) (n : Nat) (hn : n = l.length) (hl : Wls w p l) (hz : l.length ≤ 1000000) :
    Calls Tryz.prog 53 #[.slice p n c] w fun e w' => e = .returned (.slice (some ⟨w.heap.size, 0, none⟩) n n) ∧ Blk w' w.heap.size (wrv (recL l)).toArray 68 ∧ Below w.heap.size w w' := by
  have hsl : (recL l).length = n := by rw [hn, recL_len]
  have hmk := run_make_w n (by omega) w
  have X0 := hide (show ReI w (recL l) 0 (w.alloc (.cells (wrv (List.replicate n wr0)).toArray 68)) from ⟨by simpa [prtW, hsl] using Blk.new w 68 (wrv (List.replicate n wr0)).toArray, (Below.refl _ _).alloc (Nat.le_refl _) _⟩)
  generalize hx2 : w.alloc (.cells (wrv (List.replicate n wr0)).toArray 68) = x2 at *
  clear hx2
  have HL := hide hl
  have HN := hide hn
  have HS := hide hsl
  have hzn : n ≤ 1000000 := by omega
  clear hl hn hsl hz
  go_enter Tryz.func53, Tryz.ntmps53
  go_wp2
  clear hmk
  go_loopw [11] (fun i wr => ∃ k : Nat, k ≤ n ∧ i = .int .i64 (k : Int) ∧ ReI w (recL l) k wr) (fun i _ => n - (intOf i).toNat)
  case atStart => exact ⟨0, by omega, rfl, unhide X0⟩
  case round =>
    obtain ⟨k, hk, rfl, hI⟩ := hrel
    obtain ⟨wo, rfl⟩ : ∃ wo, wo = wr := ⟨_, rfl⟩
    have XI := hide hI
    clear hI X0
    by_cases hkl : k < n
    · have hkl2 : k < l.length := by rw [← unhide HN]; exact hkl
      obtain ⟨g, o, rfl, hg, c0, c1⟩ := (unhide HL).below (unhide XI).2 k hkl2
      have hse := recL_at l k hkl2
      obtain ⟨z, hz⟩ : ∃ z, (l.getD k wr0).1 = z := ⟨_, rfl⟩
      obtain ⟨t, ht⟩ : ∃ t, (l.getD k wr0).2 = t := ⟨_, rfl⟩
      rw [hz] at c0
      rw [ht] at c1 hse
      have hld := load_wr wo g (o + k * 2) z t c0 c1
      obtain ⟨x1, hx1⟩ : ∃ x, x = wo.alloc (Obj.cells #[.int .i64 z, .string t] 68) := ⟨_, rfl⟩
      have hb1 : Below wo.heap.size wo x1 := by rw [hx1]; exact (Below.refl _ wo).alloc (Nat.le_refl _) _
      have hB1 := (unhide XI).1.below hb1 (unhide XI).1.lt
      have hol : k < (prtW (recL l) k).length := by rw [prtW_len _ _ (by rw [unhide HS]; exact hk), unhide HS]; exact hkl
      obtain ⟨w0, w1⟩ := wrv_at _ k hol
      have d0 : x1.cell? ⟨w.heap.size, k * 2, none⟩ = some (.int .i64 ((prtW (recL l) k).getD k wr0).1) := by rw [hB1.cell]; simpa using w0
      have d1 : x1.cell? ⟨w.heap.size, k * 2 + 1, none⟩ = some (.string ((prtW (recL l) k).getD k wr0).2) := by rw [hB1.cell]; simpa using w1
      have f0 := hB1.frozen (k * 2)
      have f1 := hB1.frozen (k * 2 + 1)
      have XR := hide ((unhide XI).step (by rw [unhide HS]; exact hkl) hb1)
      rw [hse] at XR
      generalize (prtW (recL l) k).getD k wr0 = old at *
      obtain ⟨oz, ot⟩ := old
      have XC := hide (recordAt_any k (by omega))
      have OB := hide (show Blk x1 wo.heap.size #[.int .i64 z, .string t] 68 from by rw [hx1]; exact Blk.new wo _ _)
      have hnb : w.heap.size ≠ wo.heap.size := by have := (unhide XI).1.lt; omega
      have HX := hide hx1
      have i0 : 0 ≤ (k : Int) := by omega
      have i1 : (k : Int) < (n : Int) := by omega
      clear hb1 hB1 hse hz ht XI HX hkl2 w0 w1 hol
      go_wp2_with fail
      rw [← hx1]
      replace hx1 := hide hx1
      clear hld c0 c1
      generalize hgs : wo.heap.size = ob at *
      clear hgs
      have q1 : x1.cell? ⟨ob, 1, none⟩ = some (.string t) := by rw [(unhide OB).cell 1]; rfl
      refine wp_region_held_drew (S := fun w' => w'.cell? ⟨ob, 1, none⟩ = some (.string t)) (by kernel_rfl) q1 ?_
      intro hS
      refine wpAnyH_takeD 0 (some 16) (.slice (some ⟨w.heap.size, 0, none⟩) n n) rfl rfl (by kernel_rfl) (by kernel_rfl) (by kernel_rfl) (fun _ _ _ h => h) (Or.inl ⟨by rfl, fun w hSw => by have q2 := hSw; go_simp⟩) hS ?_
      simp only [Act.put, List.setIfInBounds_toArray, List.set_cons_zero, List.set_cons_succ]
      refine wpAnyH_takeD 1 (some 17) (.int .i64 (k : Int)) rfl rfl (by kernel_rfl) (by kernel_rfl) (by kernel_rfl) (fun _ _ _ h => h) (Or.inl ⟨by rfl, fun w hSw => by have q2 := hSw; go_simp⟩) hS ?_
      simp only [Act.put, List.setIfInBounds_toArray, List.set_cons_zero, List.set_cons_succ]
      refine wpAnyH_takeD 2 (some 18) (.int .i64 (k : Int)) rfl rfl (by kernel_rfl) (by kernel_rfl) (by kernel_rfl) (fun _ _ _ h => h) (Or.inl ⟨by rfl, fun w hSw => by have q2 := hSw; go_simp⟩) hS ?_
      simp only [Act.put, List.setIfInBounds_toArray, List.set_cons_zero, List.set_cons_succ]
      refine wpAnyH_takeD 4 (some 20) (.pointer (some ⟨ob, 1, none⟩)) rfl rfl (by kernel_rfl) (by kernel_rfl) (by kernel_rfl) (fun _ _ _ h => h) (Or.inl ⟨by rfl, fun w hSw => by have q2 := hSw; go_simp⟩) hS ?_
      simp only [Act.put, List.setIfInBounds_toArray, List.set_cons_zero, List.set_cons_succ]
      refine wpAnyH_takeD 5 (some 21) (.string t) rfl rfl (by kernel_rfl) (by kernel_rfl) (by kernel_rfl) (fun _ _ _ h => h) (Or.inl ⟨by rfl, fun w hSw => by have q2 := hSw; go_simp⟩) hS ?_
      simp only [Act.put, List.setIfInBounds_toArray, List.set_cons_zero, List.set_cons_succ]
      refine wpAnyH_ready (rs := [3]) (by kernel_rfl) (by simp) ?_
      refine AllReadyH.cons rfl (fun K hK => ?_) AllReadyH.nil
      simp only [List.getElem_toArray, List.getElem_cons_succ, List.getElem_cons_zero]
      go_simp
      refine (unhide XC _).mono ?_
      rintro ev x4 ⟨rfl, rfl⟩
      refine hK.out _ _ q1 (fun hS => ?_)
      clear hK K
      refine wpAnyH_takeD 6 (some 22) (.agg #[.int .i64 ((2 + k : Nat) : Int), .string t]) rfl rfl (by kernel_rfl) (by kernel_rfl) (by kernel_rfl) (fun _ _ _ h => h) (Or.inl ⟨by rfl, fun w hSw => by have q2 := hSw; go_simp⟩) hS ?_
      simp only [Act.put, List.setIfInBounds_toArray, List.set_cons_zero, List.set_cons_succ]
      refine wpAnyH_takeD 7 (some 23) (.pointer (some ⟨w.heap.size, k * 2, none⟩)) rfl rfl (by kernel_rfl) (by kernel_rfl) (by kernel_rfl) (fun _ _ _ h => h) (Or.inl ⟨by rfl, fun w hSw => by have q2 := hSw; go_simp⟩) hS ?_
      simp only [Act.put, List.setIfInBounds_toArray, List.set_cons_zero, List.set_cons_succ]
      refine wpAnyH_ready (rs := [8]) (by kernel_rfl) (by simp) ?_
      refine AllReadyH.cons rfl (fun K hK => ?_) AllReadyH.nil
      simp only [List.getElem_toArray, List.getElem_cons_succ, List.getElem_cons_zero]
      go_simp
      have q5 : ((x1.setCell ⟨w.heap.size, k * 2, none⟩ (.int .i64 (2 + (k : Int)))).setCell ⟨w.heap.size, k * 2 + 1, none⟩ (.string t)).drew.cell? ⟨ob, 1, none⟩ = some (.string t) := by
        have := (((unhide OB).other ⟨w.heap.size, k * 2, none⟩ (.int .i64 (2 + (k : Int))) hnb).other ⟨w.heap.size, k * 2 + 1, none⟩ (.string t) hnb).cell 1
        exact this
      refine hK.out _ _ q5 (fun hS => ?_)
      clear hK K
      refine wpAnyH_done (by kernel_rfl) ?_ _
      have XS := hide (show ReI w (recL l) (k + 1) ((x1.setCell ⟨w.heap.size, k * 2, none⟩ (.int .i64 (2 + (k : Int)))).setCell ⟨w.heap.size, k * 2 + 1, none⟩ (.string t)).drew from by
        have := unhide XR
        rw [show ((2 + k : Nat) : Int) = 2 + (k : Int) by omega] at this
        exact ⟨this.1, this.2.drew⟩)
      clear XR d0 d1 f0 f1 q1 q5 OB hS
      go_wp2
      go_roundw
      case rel => exact ⟨k + 1, by omega, by go_num, unhide XS⟩
      case measure => simp [intOf]; omega
    · have hk' : k = n := by omega
      subst hk'
      clear hkl
      go_wp2
      go_ret
      refine ⟨rfl, ?_, (unhide XI).2⟩
      have := (unhide XI).1
      rw [prtW, List.take_of_length_le (by rw [unhide HS]; exact Nat.le_refl _), unhide HS] at this
      simpa using this
end Go.Proofs.YtkkndlkelpdehaaGreatDoor

namespace Go.Proofs.YtkkndlkelpdehaaGreatDoor
open Go.RowKit
/-- At block b lies a Writer, whose row is v: the bytes l; what was wrong first is e. -/
def Wtr (w : World) (base b : Nat) (v : Value) (l : List Int) (e : Int) : Prop :=
  Blk w b #[v, .int .i64 e] 153 ∧ w.ownsRow base 5 1 v l.length (l.map (Value.int .u8)) ∧ base ≤ b
/-- The blocks of a Writer. -/
def Fp (b : Nat) (v : Value) (k : Nat) : Prop := k = b ∨ v.ownBlock = some k
/-- Behind a call of the Writer at b, whose row was v. -/
def WPost (base b : Nat) (v : Value) (l : List Int) (e : Int) (w w' : World) : Prop :=
  ∃ v', Wtr w' base b v' l e ∧ Only (Fp b v) w w' ∧ ∀ k, v'.ownBlock = some k → v.ownBlock = some k ∨ w.heap.size ≤ k
theorem Wtr.lt {w : World} {base b : Nat} {v : Value} {l : List Int} {e : Int} (h : Wtr w base b v l e) : b < w.heap.size := h.1.lt
theorem Wtr.form {w : World} {base b : Nat} {v : Value} {l : List Int} {e : Int} (h : Wtr w base b v l e) : ∃ p cap, v = .slice p l.length cap ∧ l.length ≤ cap := by
  rcases h.2.1.2 with ⟨h1, h2⟩ | ⟨g, cap, cur, h1, _, _, h3, _⟩
  · exact ⟨none, 0, by rw [h1, h2], by omega⟩
  · exact ⟨_, cap, h1, h3⟩
theorem Wtr.apart {w : World} {base b : Nat} {v : Value} {l : List Int} {e : Int} (h : Wtr w base b v l e) : v.ownBlock ≠ some b := h.1.not_row (by decide) h.2.1
theorem Wtr.only {w w' : World} {base b : Nat} {v : Value} {l : List Int} {e : Int} {P : Nat → Prop} (h : Wtr w base b v l e) (ho : Only P w w') (hp : ∀ k, Fp b v k → ¬ P k) : Wtr w' base b v l e :=
  ⟨h.1.only ho (hp b (.inl rfl)), owns_only h.2.1 ho (fun k hk => hp k (.inr hk)), h.2.2⟩
theorem WPost.refl {w : World} {base b : Nat} {v : Value} {l : List Int} {e : Int} (h : Wtr w base b v l e) : WPost base b v l e w w := ⟨v, h, Only.refl _ _, fun _ hk => .inl hk⟩
theorem WPost.trans {w w1 w2 : World} {base b : Nat} {v v1 : Value} {l2 : List Int} {e2 : Int} (h : Only (Fp b v) w w1) (hv : ∀ k, v1.ownBlock = some k → v.ownBlock = some k ∨ w.heap.size ≤ k)
    (h2 : WPost base b v1 l2 e2 w1 w2) : WPost base b v l2 e2 w w2 := by
  obtain ⟨v2, a, o, q⟩ := h2
  refine ⟨v2, a, h.trans o (fun k hk hf => ?_), fun k hk => ?_⟩
  · rcases hf with rfl | hf
    · exact .inl rfl
    · rcases hv k hf with h3 | h3
      · exact .inr h3
      · omega
  · rcases q k hk with h3 | h3
    · exact hv k h3
    · exact .inr (Nat.le_trans h.size h3)
theorem wpList_append_none {ops : Array Oper} {rest : List Oper} {op : Oper} {a : Act} {w : World} {Q : Exit → Act → World → Prop} (hgd : op.guard = none) (d x : Operand) (hop : op.op = Op.call { callee := Callee.builtin Builtin.append, args := #[d, x], argTypes := #[59, 59] })
    (p q : Option Addr) (n c c' : Nat) (hd : a.eval d = .slice p n c) (hx : a.eval x = .slice q 0 c') (hn : n ≤ c) (h : wpList Tryz.prog ops Q rest (a.put op.dst (.slice p n c)) w) : wpList Tryz.prog ops Q (op :: rest) a w := by
  refine wpList_plain hgd fun K hK => ?_
  have hrun := run_append_none w p q n c c' hn op.type
  unfold Oper.wp
  simp only [execOp, hop]
  simp [resolve, invoke, builtin, hd, hx, hrun, Result.andThen]
  exact hK _ _ h
set_option maxHeartbeats 400000 in
theorem newWriter_any (w : World) :
    Calls Tryz.prog 68 #[] w fun e w' => e = .returned (.pointer (some ⟨w.heap.size, 0, none⟩)) ∧ Wtr w' w.heap.size w.heap.size (.slice none 0 0) [] 0 ∧ Below w.heap.size w w' ∧ w'.heap.size = w.heap.size + 1 := by
  go_enter Tryz.func68, Tryz.ntmps68
  go_wp2
  go_ret
  exact ⟨rfl, ⟨Blk.new _ _ _, World.ownsRow_nil _ _ _ _, Nat.le_refl _⟩, (Below.refl _ _).alloc (Nat.le_refl _) _, by simp⟩
set_option maxRecDepth 100000 in
set_option maxHeartbeats 1000000 in
theorem lay_any (w : World) (base b : Nat) (v : Value) (l : List Int) (e : Int) (h : Wtr w base b v l e) (hb : base ≤ w.heap.size) (ad : Addr) (m c : Nat) (news : List Int) (hl : news.length = m)
    (hn : ∀ j, j < m → w.cell? (ad.add j) = some (.int .u8 (news.getD j 0))) (hsz : l.length + m ≤ 140737488355328) :
    Calls Tryz.prog 105 #[.pointer (some ⟨b, 0, none⟩), .slice (some ad) m c] w fun ev w' => ev = .returned (.tuple #[]) ∧ WPost base b v (if e = 0 then l ++ news else l) e w w' := by
  obtain ⟨p, cap, rfl, hcap⟩ := h.form
  have c0 : w.cell? ⟨b, 0, none⟩ = some (.slice p l.length cap) := by rw [h.1.cell 0]; rfl
  have c1 : w.cell? ⟨b, 1, none⟩ = some (.int .i64 e) := by rw [h.1.cell 1]; rfl
  have f0 := h.1.frozen 0
  have HW := hide h
  have HP := hide h.apart
  by_cases he : e = 0
  · subst he
    rw [if_pos rfl]
    by_cases hm : m = 0
    · subst hm
      obtain rfl : news = [] := List.eq_nil_of_length_eq_zero hl
      rw [List.append_nil]
      clear h hn
      go_enter Tryz.func105, Tryz.ntmps105
      go_wp2_with (refine wpList_append_none rfl (.tmp 13) (.tmp 14) rfl p (some ad) l.length cap c rfl rfl hcap ?_)
      go_end0
      refine ⟨rfl, .slice p l.length cap, ⟨(unhide HW).1.set 0 _, owns_only (unhide HW).2.1 ((Only.refl (fun k => k = b) w).setCell _ _ (fun _ => rfl)) (fun k hk hkb => unhide HP (hkb ▸ hk)), (unhide HW).2.2⟩, (Only.refl _ w).setCell _ _ (fun _ => .inl rfl), fun k hk => .inl hk⟩
    · obtain ⟨i0, hi, hz0, hz1, hz2⟩ := info_parts info5
      have HN := hide hn
      have HI := hide (And.intro hi (And.intro hz0 (And.intro hz1 hz2)))
      clear h hn hi hz0 hz1 hz2
      go_enter Tryz.func105, Tryz.ntmps105
      go_wp2_with (refine wpList_append_lies w rfl (.tmp 13) (.tmp 14) 59 rfl base 5 i0 (.int .u8 0) 1 1 Tryz.underlying59 (unhide HI).1 (unhide HI).2.1 (unhide HI).2.2.1 (unhide HI).2.2.2 rfl (by decide) _ l.length (l.map (Value.int .u8)) rfl (unhide HW).2.1 ad m c (news.map (Value.int .u8)) rfl (by simp [hl]) ?_ (by simp [Value.oneCell']) (by omega) (by unfold maxLen; omega) (by omega) hb w.heap.size rfl ?_)
      · intro j u hu
        rw [List.getElem?_map] at hu
        cases hq : news[j]? with
        | none => simp [hq] at hu
        | some x =>
          obtain ⟨hj, ex⟩ := List.getElem?_eq_some_iff.1 hq
          rw [hq] at hu
          simp at hu
          rw [unhide HN j (by omega), ← hu]
          simp [hq]
      · intro g cap' w1 ho hg hor hlt
        have B1 : Blk w1 b #[.slice p l.length cap, .int .i64 0] 153 := (unhide HW).1.kept (hg.block b (unhide HW).lt (fun e => unhide HP e.symm))
        have d0 : w1.cell? ⟨b, 0, none⟩ = some (.slice p l.length cap) := by rw [B1.cell 0]; rfl
        have f0' := B1.frozen 0
        have HO := hide ho
        have HG := hide hg
        have HB1 := hide B1
        have HOR := hide hor
        clear ho hg B1 hor
        go_wp2
        go_end0
        have ho := unhide HO
        have hgb : g ≠ b := fun e => by
          subst e
          exact (unhide HB1).not_row (by decide) ho rfl
        have hO1 : Only (Fp b (.slice p l.length cap)) w w1 := (Only.refl _ w).grown (unhide HG) (fun k _ e => .inr e)
        refine ⟨rfl, .slice (some ⟨g, 0, none⟩) (l.length + m) cap', ⟨(unhide HB1).set 0 _, ?_, (unhide HW).2.2⟩, hO1.setCell _ _ (fun _ => .inl rfl), fun k hk => ?_⟩
        · have := owns_only ho ((Only.refl (fun k => k = b) w1).setCell ⟨b, 0, none⟩ (.slice (some ⟨g, 0, none⟩) (l.length + m) cap') (fun _ => rfl)) (fun k hk hkb => hgb (by rw [← hkb]; simpa [Value.ownBlock] using hk))
          simpa [hl] using this
        · obtain rfl : g = k := by simpa [Value.ownBlock] using hk
          rcases unhide HOR with h | h
          · exact .inl h
          · exact .inr (by omega)
  · rw [if_neg he]
    clear h hn
    have hne : (e == 0) = false := by simp [he]
    go_enter Tryz.func105, Tryz.ntmps105
    go_wp2
    go_end0
    exact ⟨rfl, WPost.refl (unhide HW)⟩
set_option maxRecDepth 100000 in
set_option maxHeartbeats 1000000 in
theorem refuse_any (w : World) (base b : Nat) (v : Value) (l : List Int) (e : Int) (h : Wtr w base b v l e) (x : Int) :
    Calls Tryz.prog 103 #[.pointer (some ⟨b, 0, none⟩), .int .i64 x] w fun ev w' => ev = .returned (.tuple #[]) ∧ WPost base b v (if e = 0 then [] else l) (if e = 0 then x else e) w w' := by
  obtain ⟨p, cap, rfl, hcap⟩ := h.form
  have c0 : w.cell? ⟨b, 0, none⟩ = some (.slice p l.length cap) := by rw [h.1.cell 0]; rfl
  have c1 : w.cell? ⟨b, 1, none⟩ = some (.int .i64 e) := by rw [h.1.cell 1]; rfl
  have f0 := h.1.frozen 0
  have f1 := h.1.frozen 1
  have HW := hide h
  by_cases he : e = 0
  · subst he
    rw [if_pos rfl, if_pos rfl]
    clear h
    go_enter Tryz.func103, Tryz.ntmps103
    go_wp2
    go_end0
    exact ⟨rfl, .slice none 0 0, ⟨((unhide HW).1.set 0 _).set 1 _, World.ownsRow_nil _ _ _ _, (unhide HW).2.2⟩, ((Only.refl _ w).setCell _ _ (fun _ => .inl rfl)).setCell _ _ (fun _ => .inl rfl), fun k hk => by cases hk⟩
  · rw [if_neg he, if_neg he]
    clear h
    have hne : (e == 0) = false := by simp [he]
    go_enter Tryz.func103, Tryz.ntmps103
    go_wp2
    go_end0
    exact ⟨rfl, WPost.refl (unhide HW)⟩
end Go.Proofs.YtkkndlkelpdehaaGreatDoor
