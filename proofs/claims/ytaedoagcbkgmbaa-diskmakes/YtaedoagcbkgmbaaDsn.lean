import Derived.Test.YtaedoagcbkgmbaaDsf
namespace Go.Proofs.Ytaedoagcbkgmbaa
open Go.RowKit
theorem infoS : (Try.prog.info? 9).map (fun i => (i.zero, i.size, i.bytes)) = some (some (.string ⟨#[]⟩), 1, 16) := by kernel_rfl
set_option maxRecDepth 100000 in
theorem run_make_s (l : Nat) (hc : l ≤ 17592186044416) (w : World) : (Instr.makeSlice 39 (.int .i64 (l : Int)) (.int .i64 (l : Int))).run Try.prog w = .ok (.slice (some ⟨w.heap.size, 0, none⟩) l l) (w.alloc (.cells (strs (List.replicate l ⟨#[]⟩)).toArray 9)) := by
  obtain ⟨i0, hi, hz0, hz1, hz2⟩ := info_parts infoS
  have := run_make (P := Try.prog) w 39 9 i0 (.string ⟨#[]⟩) Try.underlying39 hi hz0 .i64 .i64 (l : Int) (l : Int) (by omega) (by omega) (by rw [hz2]; omega) (by omega)
  rw [this, hz1]
  simp only [Int.toNat_natCast, Nat.mul_one]
  congr 3
  apply Array.ext
  · simp [size_madeCells, strs]
  · intro j h1 h2
    simp [madeCells, Value.cells, Nat.mod_one, strs]
def halfR (t : ByteArray) (n m : Nat) : List Value := strs (List.replicate n t ++ List.replicate (m - n) ⟨#[]⟩)
def RpI (w : World) (t : ByteArray) (n m : Nat) (wr : World) : Prop := Blk wr w.heap.size (halfR t n m).toArray 9 ∧ Below w.heap.size w wr
theorem halfR_len (t : ByteArray) (n m : Nat) (h : n ≤ m) : (halfR t n m).length = m := by simp [halfR, strs]; omega
theorem halfR_step (t : ByteArray) (n k m : Nat) : (halfR t n m).take n ++ (strs (List.replicate k t) ++ (halfR t n m).drop (n + k)) = halfR t (n + k) m := by
  have e1 : (halfR t n m).take n = strs (List.replicate n t) := by
    simp [halfR, strs]
  have e2 : (halfR t n m).drop (n + k) = strs (List.replicate (m - (n + k)) ⟨#[]⟩) := by
    simp only [halfR, strs, List.map_append, List.map_replicate]
    rw [List.drop_append, List.drop_of_length_le (by simp), List.nil_append, List.drop_replicate]
    congr 1
    simp
    omega
  rw [e1, e2]
  simp only [halfR, strs, ← List.map_append]
  rw [← List.append_assoc, List.replicate_append_replicate]
theorem halfR_at (t : ByteArray) (n m j : Nat) (h : j < n) : (halfR t n m)[j]? = some (.string t) := by
  simp [halfR, strs, List.getElem?_append, h]
theorem wp_copy_rp {o : Oper} {a : Act} {K : Act → World → Prop} {Q : Exit → Act → World → Prop} (d x : Operand) (hop : o.op = .call { callee := .builtin .copy, args := #[d, x], argTypes := #[39, 39] })
    {w wr : World} {t : ByteArray} {n m : Nat} (hI : RpI w t n m wr) (k : Nat) (hnk : n + k ≤ m) (dLen dCap sLen sCap : Nat) (ad : Addr) (hd : a.eval d = .slice (some ⟨w.heap.size, n, none⟩) dLen dCap) (hs : a.eval x = .slice (some ad) sLen sCap) (hk : k = Nat.min sLen dLen)
    (hsrc : ∀ j, j < k → wr.cell? (ad.add j) = some (.string t)) (h : ∀ W', RpI w t (n + k) m W' → K (a.put o.dst (.int .i64 (k : Int))) W') : o.wp Try.prog a wr K Q := by
  have hl : (strs (List.replicate k t)).length = k := by simp [strs]
  have hrun := run_copy_row (P := Try.prog) wr 39 39 o.type 9 w.heap.size n dLen dCap ad sLen sCap (halfR t n m).toArray 9 (strs (List.replicate k t)) Try.underlying39 (by kernel_rfl) hI.1 (by rw [hl]; exact hk) (fun j u hu => by
    have hj : j < k := by
      have := (List.getElem?_eq_some_iff.1 hu).1
      rwa [hl] at this
    simp [strs, hj] at hu
    rw [hsrc j hj, hu]) (by rw [hl]; simp [halfR_len t n m (by omega)]; exact hnk) (by simp [strs, Value.oneCell'])
  rw [hl] at hrun
  have e := setRow_heap wr w.heap.size (halfR t n m).toArray ((halfR t n m).toArray.toList.take n ++ strs (List.replicate k t) ++ (halfR t n m).toArray.toList.drop (n + k)).toArray 9 (0, 0) hI.1
  have hW := h _ ⟨by rw [← halfR_step t n k m, ← List.append_assoc]; exact e, below_setRow hI.2 (Nat.le_refl _) _⟩
  unfold Oper.wp
  simp only [execOp, hop]
  simp only [resolve, invoke, builtin, Sem.run_bind, Sem.run_pure, Result.andThen_ok, List.map_toArray, List.map_cons, List.map_nil, hd, hs, hrun]
  exact hW
theorem wpList_copy_rp {ops : Array Oper} {rest : List Oper} {o : Oper} {a : Act} {Q : Exit → Act → World → Prop} (hgd : o.guard = none) (d x : Operand) (hop : o.op = .call { callee := .builtin .copy, args := #[d, x], argTypes := #[39, 39] })
    {w wr : World} {t : ByteArray} {n m : Nat} (hI : RpI w t n m wr) (k : Nat) (hnk : n + k ≤ m) (dLen dCap sLen sCap : Nat) (ad : Addr) (hd : a.eval d = .slice (some ⟨w.heap.size, n, none⟩) dLen dCap) (hs : a.eval x = .slice (some ad) sLen sCap) (hk : k = Nat.min sLen dLen)
    (hsrc : ∀ j, j < k → wr.cell? (ad.add j) = some (.string t)) (h : ∀ W', RpI w t (n + k) m W' → wpList Try.prog ops Q rest (a.put o.dst (.int .i64 (k : Int))) W') : wpList Try.prog ops Q (o :: rest) a wr :=
  wpList_plain hgd fun _ hK => wp_copy_rp d x hop hI k hnk dLen dCap sLen sCap ad hd hs hk hsrc fun W' hI' => hK _ _ (h W' hI')
set_option maxRecDepth 100000 in
set_option maxHeartbeats 2000000 in
theorem srepeat_any (t : ByteArray) (m : Nat) (h1 : 1 ≤ m) (h2 : m ≤ 1024) (w : World) (g0 : Nat) (hg0 : g0 < w.heap.size) (hc : w.cell? ⟨g0, 0, none⟩ = some (.string t)) :
    Calls Try.prog 59 #[.slice (some ⟨g0, 0, none⟩) 1 1, .int .i64 (m : Int)] w fun e w' => e = .returned (.slice (some ⟨w.heap.size, 0, none⟩) m m) ∧ Blk w' w.heap.size (strs (List.replicate m t)).toArray 9 ∧ Below w.heap.size w w' := by
  have hmk := run_make_s m (by omega) w
  have X0 := hide (show RpI w t 0 m (w.alloc (.cells (strs (List.replicate m ⟨#[]⟩)).toArray 9)) from ⟨by simpa [halfR] using Blk.new w 9 (strs (List.replicate m ⟨#[]⟩)).toArray, (Below.refl _ _).alloc (Nat.le_refl _) _⟩)
  generalize hx2 : w.alloc (.cells (strs (List.replicate m ⟨#[]⟩)).toArray 9) = x2 at *
  clear hx2
  have HC := hide hc
  have HM := hide hmk
  clear hc hmk
  go_enter Try.func59, Try.ntmps59
  go_wp2_with fail
  refine (Try.bits_Mul 1 m (by omega) (by omega) w).mono ?_
  rintro ev x1 ⟨rfl, rfl⟩
  rw [show (1 * m / 18446744073709551616 : Nat) = 0 by omega, show (1 * m % 18446744073709551616 : Nat) = m by omega]
  have hmk := unhide HM
  have wv : IntKind.i64.wrap (m : Int) = (m : Int) := wrapI_eq _ (by omega) (by omega)
  have HX := hide (show x2.cell? ⟨g0, 0, none⟩ = some (.string t) by rw [(unhide X0).2.cell (p := ⟨g0, 0, none⟩) hg0]; exact unhide HC)
  go_wp2_with (refine wpList_copy_rp rfl (.tmp 31) (.tmp 32) rfl (unhide X0) 1 (by omega) m m 1 1 ⟨g0, 0, none⟩ rfl rfl (by show 1 = min 1 m; omega) (fun j hj => by have hj0 : j = 0 := (by omega); subst hj0; rw [Addr.add_mid]; exact unhide HX) ?_; intro W1 hI1; have X1 := hide hI1; clear hI1)
  clear X0 HX HC HM hmk
  go_loopw [8] (fun i wr => ∃ n : Nat, 1 ≤ n ∧ n ≤ m ∧ i = .int .i64 (n : Int) ∧ RpI x1 t n m wr) (fun i _ => m - (intOf i).toNat)
  case atStart => exact ⟨1, by omega, by omega, rfl, by simpa using unhide X1⟩
  case round =>
    obtain ⟨n, hn1, hn, rfl, hI⟩ := hrel
    have XI := hide hI
    clear hI X1
    by_cases hnm : n < m
    · obtain ⟨k, hk⟩ : ∃ k, k = Nat.min n (m - n) := ⟨_, rfl⟩
      have hk1 : 1 ≤ k := by rw [hk]; simp only [Nat.min_def]; split <;> omega
      have hk2 : k ≤ n := by rw [hk]; exact Nat.min_le_left _ _
      have hk3 : n + k ≤ m := by have : k ≤ m - n := by rw [hk]; exact Nat.min_le_right _ _
                                 omega
      have HK := hide hk
      clear hk
      have i0 : 0 ≤ (n : Int) := by omega
      have i1 : (n : Int) ≤ (m : Int) := by omega
      have i2 : ¬ m = n := by omega
      have hw1 : IntKind.i64.wrap ((n : Int) + (k : Int)) = (n : Int) + (k : Int) := wrapI_eq _ (by omega) (by omega)
      go_wp2_with fail
      refine wp_region_held_drew (S := fun _ => True) (by kernel_rfl) trivial ?_
      intro hS
      refine wpAnyH_takeD 0 (some 38) (.int .i64 (n : Int)) rfl rfl (by kernel_rfl) (by kernel_rfl) (by kernel_rfl) (fun _ _ _ h => h) (Or.inl ⟨by rfl, fun w hSw => by go_simp⟩) hS ?_
      simp only [Act.put, List.setIfInBounds_toArray, List.set_cons_zero, List.set_cons_succ]
      refine wpAnyH_takeD 1 (some 39) (.slice (some ⟨x1.heap.size, 0, none⟩) m m) rfl rfl (by kernel_rfl) (by kernel_rfl) (by kernel_rfl) (fun _ _ _ h => h) (Or.inl ⟨by rfl, fun w hSw => by go_simp⟩) hS ?_
      simp only [Act.put, List.setIfInBounds_toArray, List.set_cons_zero, List.set_cons_succ]
      refine wpAnyH_takeD 2 (some 40) (.int .i64 (n : Int)) rfl rfl (by kernel_rfl) (by kernel_rfl) (by kernel_rfl) (fun _ _ _ h => h) (Or.inl ⟨by rfl, fun w hSw => by go_simp⟩) hS ?_
      simp only [Act.put, List.setIfInBounds_toArray, List.set_cons_zero, List.set_cons_succ]
      refine wpAnyH_takeD 3 (some 41) (.slice (some ⟨x1.heap.size, n, none⟩) (m - n) (m - n)) rfl rfl (by kernel_rfl) (by kernel_rfl) (by kernel_rfl) (fun _ _ _ h => h) (Or.inl ⟨by rfl, fun w hSw => by go_simp⟩) hS ?_
      simp only [Act.put, List.setIfInBounds_toArray, List.set_cons_zero, List.set_cons_succ]
      refine wpAnyH_takeD 4 (some 42) (.slice (some ⟨x1.heap.size, 0, none⟩) m m) rfl rfl (by kernel_rfl) (by kernel_rfl) (by kernel_rfl) (fun _ _ _ h => h) (Or.inl ⟨by rfl, fun w hSw => by go_simp⟩) hS ?_
      simp only [Act.put, List.setIfInBounds_toArray, List.set_cons_zero, List.set_cons_succ]
      refine wpAnyH_takeD 5 (some 43) (.int .i64 (n : Int)) rfl rfl (by kernel_rfl) (by kernel_rfl) (by kernel_rfl) (fun _ _ _ h => h) (Or.inl ⟨by rfl, fun w hSw => by go_simp⟩) hS ?_
      simp only [Act.put, List.setIfInBounds_toArray, List.set_cons_zero, List.set_cons_succ]
      refine wpAnyH_takeD 6 (some 44) (.slice (some ⟨x1.heap.size, 0, none⟩) n m) rfl rfl (by kernel_rfl) (by kernel_rfl) (by kernel_rfl) (fun _ _ _ h => h) (Or.inl ⟨by rfl, fun w hSw => by go_simp⟩) hS ?_
      simp only [Act.put, List.setIfInBounds_toArray, List.set_cons_zero, List.set_cons_succ]
      refine wpAnyH_ready (rs := [7]) (by kernel_rfl) (by simp) ?_
      refine AllReadyH.cons rfl (fun K hK => ?_) AllReadyH.nil
      simp only [List.getElem_toArray, List.getElem_cons_succ, List.getElem_cons_zero]
      refine wp_copy_rp (.tmp 41) (.tmp 44) rfl (show RpI x1 t n m wr.drew from ⟨(unhide XI).1, (unhide XI).2.drew⟩) k hk3 (m - n) (m - n) n m ⟨x1.heap.size, 0, none⟩ rfl rfl (unhide HK) (fun j hj => by rw [Addr.add_mid, Nat.zero_add]; exact ((unhide XI).1.cell j).trans (by have := halfR_at t n m j (by omega); simpa using this)) ?_
      intro W2 hI2
      have X2 := hide hI2
      clear hI2
      refine hK.out _ _ trivial (fun hS => ?_)
      clear hK K
      simp only [Act.put, List.setIfInBounds_toArray, List.set_cons_zero, List.set_cons_succ]
      refine wpAnyH_takeD 8 (some 46) (.int .i64 ((n : Int) + (k : Int))) rfl rfl (by kernel_rfl) (by kernel_rfl) (by kernel_rfl) (fun _ _ _ h => h) (Or.inl ⟨by rfl, fun w hSw => by go_simp⟩) hS ?_
      simp only [Act.put, List.setIfInBounds_toArray, List.set_cons_zero, List.set_cons_succ]
      refine wpAnyH_takeD 9 (some 8) (.int .i64 ((n : Int) + (k : Int))) rfl rfl (by kernel_rfl) (by kernel_rfl) (by kernel_rfl) (fun _ _ _ h => h) (Or.inl ⟨by rfl, fun w hSw => by go_simp⟩) hS ?_
      simp only [Act.put, List.setIfInBounds_toArray, List.set_cons_zero, List.set_cons_succ]
      refine wpAnyH_done (by kernel_rfl) ?_ _
      clear hS
      go_wp2
      go_roundw
      case rel => exact ⟨n + k, by omega, by omega, by go_num, unhide X2⟩
      case measure => simp [intOf]; omega
    · obtain rfl : n = m := by omega
      clear hnm
      go_wp2
      go_ret
      refine ⟨rfl, ?_, (unhide XI).2⟩
      have := (unhide XI).1
      simpa [halfR] using this
end Go.Proofs.Ytaedoagcbkgmbaa
