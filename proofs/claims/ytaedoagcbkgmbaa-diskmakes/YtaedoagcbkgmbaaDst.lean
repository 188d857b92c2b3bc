import Derived.Test.YtaedoagcbkgmbaaDso
namespace Go.Proofs.Ytaedoagcbkgmbaa
open Go.RowKit
set_option maxRecDepth 100000 in
set_option maxHeartbeats 1000000 in
theorem told_any (k i : Nat) (hi : i < 1024) (w : World) :
    Calls Try.prog 33 #[.agg #[.int .u8 (k : Int), .int .u16 (i : Int)]] w fun e w' => ∃ x y, tel1 (k, i) = [.int .i64 x, .int .i64 y] ∧ e = .returned (.agg #[.int .i64 x, .int .i64 y]) ∧ Below w.heap.size w w' := by
  by_cases hk : k = 1
  · subst hk
    go_enter Try.func33, Try.ntmps33
    go_wp2
    have B1 := Blk.new (w.alloc (Obj.cells #[Value.int IntKind.u8 1, Value.int IntKind.u16 (i : Int)] 82)) 53 #[.int .i64 2, .int .i64 0]
    rw [show (w.alloc (Obj.cells #[Value.int IntKind.u8 1, Value.int IntKind.u16 (i : Int)] 82)).heap.size = w.heap.size + 1 by simp] at B1
    have hld := load_blk 53 _ B1 Try.underlying53 rfl (by kernel_rfl)
    refine bodyPost_ret (v := .agg #[.int .i64 2, .int .i64 0]) ?_ rfl ⟨2, 0, rfl, rfl, ((Below.refl _ _).alloc (Nat.le_refl _) _).alloc (by simp) _⟩
    exact results_cell rfl _ _ _ ⟨w.heap.size + 1, 0, none⟩ rfl _ hld
  · have hne : ((k : Int) == 1) = false := by simp; omega
    have hw : IntKind.i64.wrap (i : Int) = (i : Int) := wrapI_eq _ (by omega) (by omega)
    have HK := hide hk
    clear hk
    go_enter Try.func33, Try.ntmps33
    go_wp2
    have B1 := Blk.new (w.alloc (Obj.cells #[Value.int IntKind.u8 (k : Int), Value.int IntKind.u16 (i : Int)] 82)) 53 #[.int .i64 1, .int .i64 (i : Int)]
    rw [show (w.alloc (Obj.cells #[Value.int IntKind.u8 (k : Int), Value.int IntKind.u16 (i : Int)] 82)).heap.size = w.heap.size + 1 by simp] at B1
    have hld := load_blk 53 _ B1 Try.underlying53 rfl (by kernel_rfl)
    refine bodyPost_ret (v := .agg #[.int .i64 1, .int .i64 (i : Int)]) ?_ rfl ⟨1, i, by rw [tel1, if_neg (unhide HK)], rfl, ((Below.refl _ _).alloc (Nat.le_refl _) _).alloc (by simp) _⟩
    exact results_cell rfl _ _ _ ⟨w.heap.size + 1, 0, none⟩ rfl _ hld
theorem infoT : (Try.prog.info? 53).map (fun i => (i.zero, i.size, i.bytes)) = some (some (.agg #[.int .i64 0, .int .i64 0]), 2, 16) := by kernel_rfl
set_option maxRecDepth 100000 in
theorem run_make_t (l : Nat) (hc : l ≤ 1000000000) (w : World) : (Instr.makeSlice 25 (.int .i64 (l : Int)) (.int .i64 (l : Int))).run Try.prog w = .ok (.slice (some ⟨w.heap.size, 0, none⟩) l l) (w.alloc (.cells (List.replicate (l * 2) (.int .i64 0)).toArray 53)) := by
  obtain ⟨i0, hi, hz0, hz1, hz2⟩ := info_parts infoT
  have := run_make (P := Try.prog) w 25 53 i0 (.agg #[.int .i64 0, .int .i64 0]) Try.underlying25 hi hz0 .i64 .i64 (l : Int) (l : Int) (by omega) (by omega) (by rw [hz2]; omega) (by omega)
  rw [this, hz1]
  simp only [Int.toNat_natCast]
  congr 3
  apply Array.ext
  · simp [size_madeCells]
  · intro j h1 h2
    have : j % 2 = 0 ∨ j % 2 = 1 := by omega
    rcases this with h | h <;> simp [madeCells, Value.cells, h]
theorem acs_at : ∀ (l : List (Nat × Nat)) (k : Nat) (hk : k < l.length), (acs l)[k * 2]? = some (.int .u8 ((l[k].1 : Nat) : Int)) ∧ (acs l)[k * 2 + 1]? = some (.int .u16 ((l[k].2 : Nat) : Int))
  | p :: r, 0, _ => by simp [acs]
  | p :: r, k + 1, hk => by
    have := acs_at r k (by simpa using hk)
    rw [show (k + 1) * 2 = k * 2 + 1 + 1 by omega]
    simpa [acs] using this
theorem tel1_len (p : Nat × Nat) : (tel1 p).length = 2 := by unfold tel1; split <;> rfl
theorem tels_len : ∀ l : List (Nat × Nat), (tels l).length = l.length * 2
  | [] => rfl
  | p :: r => by simp [tels, tels_len r, tel1_len]; omega
theorem tels_app : ∀ l m : List (Nat × Nat), tels (l ++ m) = tels l ++ tels m
  | [], m => rfl
  | p :: r, m => by simp [tels, tels_app r m]
def partT (l : List (Nat × Nat)) (k : Nat) : List Value := tels (l.take k) ++ List.replicate ((l.length - k) * 2) (.int .i64 0)
theorem partT_len (l : List (Nat × Nat)) (k : Nat) (h : k ≤ l.length) : (partT l k).length = l.length * 2 := by simp [partT, tels_len]; omega
theorem partT_step (l : List (Nat × Nat)) (k : Nat) (h : k < l.length) (x y : Int) (hxy : tel1 l[k] = [.int .i64 x, .int .i64 y]) : ((partT l k).set (k * 2) (.int .i64 x)).set (k * 2 + 1) (.int .i64 y) = partT l (k + 1) := by
  have e1 : l.take (k + 1) = l.take k ++ [l[k]] := List.take_succ_eq_append_getElem h
  have e2 : List.replicate ((l.length - k) * 2) (Value.int .i64 0) = .int .i64 0 :: .int .i64 0 :: List.replicate ((l.length - (k + 1)) * 2) (.int .i64 0) := by
    rw [show (l.length - k) * 2 = ((l.length - (k + 1)) * 2 + 1) + 1 by omega, List.replicate_succ, List.replicate_succ]
  have hl : (tels (l.take k)).length = k * 2 := by rw [tels_len]; simp; omega
  rw [partT, partT, e1, e2, tels_app, List.set_append, if_neg (by omega), List.set_append, if_neg (by omega), hl]
  have e3 : tels [l[k]] = [.int .i64 x, .int .i64 y] := by simp [tels, hxy]
  rw [e3]
  simp
def TrI (w : World) (l : List (Nat × Nat)) (k : Nat) (wr : World) : Prop := Blk wr w.heap.size (partT l k).toArray 53 ∧ Below w.heap.size w wr
set_option maxRecDepth 100000 in
set_option maxHeartbeats 1000000 in
theorem trace_any (w : World) (base b : Nat) (v : DV) (s : DSt) (h : Dk w base b v s) (hz : s.acts.length ≤ 1000000000) (hA : ∀ p ∈ s.acts, p.2 < 1024) :
    Calls Try.prog 9 #[.pointer (some ⟨b, 0, none⟩)] w fun e w' => e = .returned (.slice (some ⟨w.heap.size, 0, none⟩) s.acts.length s.acts.length) ∧ Blk w' w.heap.size (tels s.acts).toArray 53 ∧ Below w.heap.size w w' := by
  obtain ⟨p, cap, ev, hcap⟩ := row_form h.ra
  have c3 : w.cell? ⟨b, 3, none⟩ = some (.slice p s.acts.length cap) := by rw [h.blk.cell 3, ← ev]; rfl
  have hbl := h.blk.lt
  have H := hide h
  have HE := hide ev
  have HA := hide hA
  clear h ev hA
  have hmk := run_make_t s.acts.length (by omega) w
  have X0 := hide (show TrI w s.acts 0 (w.alloc (.cells (List.replicate (s.acts.length * 2) (.int .i64 0)).toArray 53)) from ⟨by simpa [partT, tels] using Blk.new w 53 (List.replicate (s.acts.length * 2) (.int .i64 0)).toArray, (Below.refl _ _).alloc (Nat.le_refl _) _⟩)
  generalize hx2 : w.alloc (.cells (List.replicate (s.acts.length * 2) (.int .i64 0)).toArray 53) = x2 at *
  have c3x : x2.cell? ⟨b, 3, none⟩ = some (.slice p s.acts.length cap) := by rw [(unhide X0).2.cell (p := ⟨b, 3, none⟩) hbl]; exact c3
  clear hx2
  go_enter Try.func9, Try.ntmps9
  go_wp2
  clear hmk c3x c3
  go_loopw [17] (fun i wr => ∃ k : Nat, k ≤ s.acts.length ∧ i = .int .i64 (k : Int) ∧ TrI w s.acts k wr) (fun i _ => s.acts.length - (intOf i).toNat)
  case atStart => exact ⟨0, by omega, rfl, unhide X0⟩
  case round =>
    obtain ⟨k, hk, rfl, hI⟩ := hrel
    obtain ⟨wo, rfl⟩ : ∃ wo, wo = wr := ⟨_, rfl⟩
    have XI := hide hI
    clear hI X0
    by_cases hkl : k < s.acts.length
    · have XD := hide ((unhide H).below (unhide XI).2)
      obtain ⟨gp, rfl⟩ : ∃ gp, p = some ⟨gp, 0, none⟩ := by
        obtain ⟨g, cap', e, _⟩ := (unhide XD).ra.form (by omega)
        rw [unhide HE] at e
        simp at e
        exact ⟨g, e.1⟩
      have hgp : v.a.ownBlock = some gp := by rw [unhide HE]; rfl
      obtain ⟨w0, w1⟩ := acs_at s.acts k hkl
      have cp0 : wo.cell? ⟨gp, k * 2, none⟩ = some (.int .u8 ((s.acts[k].1 : Nat) : Int)) := by rw [(own_at2 (unhide XD).ra hgp (k * 2) (by omega)).1]; exact w0
      have cp1 : wo.cell? ⟨gp, k * 2 + 1, none⟩ = some (.int .u16 ((s.acts[k].2 : Nat) : Int)) := by rw [(own_at2 (unhide XD).ra hgp (k * 2 + 1) (by omega)).1]; exact w1
      have hjl : s.acts[k].2 < 1024 := unhide HA _ (List.getElem_mem hkl)
      obtain ⟨q, hq⟩ : ∃ q, q = s.acts[k].1 := ⟨_, rfl⟩
      obtain ⟨j, hj⟩ : ∃ j, j = s.acts[k].2 := ⟨_, rfl⟩
      have HP := hide (show s.acts[k] = (q, j) by rw [hq, hj])
      rw [← hq] at cp0
      rw [← hj] at cp1 hjl
      clear w0 w1 hq hj hgp XD
      go_wp2_with fail
      refine (told_any q j hjl _).mono ?_
      rintro ev x3 ⟨x, y, hxy, rfl, hb3⟩
      have hbb : Below wo.heap.size wo x3 := ((Below.refl _ wo).alloc (Nat.le_refl _) _).trans (hb3.mono (by simp))
      have hk3 := (unhide XI).1.below hbb (unhide XI).1.lt
      have hpl := partT_len s.acts k hk
      obtain ⟨o0, ho0⟩ : ∃ o, (partT s.acts k)[k * 2]? = some o := ⟨_, List.getElem?_eq_getElem (by omega)⟩
      obtain ⟨o1, ho1⟩ : ∃ o, (partT s.acts k)[k * 2 + 1]? = some o := ⟨_, List.getElem?_eq_getElem (by omega)⟩
      have z0 : x3.cell? ⟨w.heap.size, k * 2, none⟩ = some o0 := by rw [hk3.cell]; simpa using ho0
      have z1 : x3.cell? ⟨w.heap.size, k * 2 + 1, none⟩ = some o1 := by rw [hk3.cell]; simpa using ho1
      have f0 := hk3.frozen (k * 2)
      have f1 := hk3.frozen (k * 2 + 1)
      have HR := hide (show TrI w s.acts (k + 1) ((x3.setCell ⟨w.heap.size, k * 2, none⟩ (.int .i64 x)).setCell ⟨w.heap.size, k * 2 + 1, none⟩ (.int .i64 y)) from by
        refine ⟨?_, (((unhide XI).2.trans (hbb.mono (unhide XI).2.size)).setCell (Nat.le_refl _) _).setCell (Nat.le_refl _) _⟩
        have := (hk3.set (k * 2) (.int .i64 x)).set (k * 2 + 1) (.int .i64 y)
        have e : ((partT s.acts k).toArray.setIfInBounds (k * 2) (.int .i64 x)).setIfInBounds (k * 2 + 1) (.int .i64 y) = (partT s.acts (k + 1)).toArray := by
          rw [← partT_step s.acts k hkl x y (by rw [unhide HP]; exact hxy)]
          simp
        rw [e] at this
        exact this)
      clear hb3 hbb hk3 ho0 ho1 hpl cp0 cp1 hxy
      go_wp2
      go_roundw
      case rel => exact ⟨k + 1, by omega, by go_num, unhide HR⟩
      case measure => simp [intOf]; omega
    · have hk' : k = s.acts.length := by omega
      subst hk'
      clear hkl hk
      go_wp2
      go_ret
      refine ⟨rfl, ?_, (unhide XI).2⟩
      have := (unhide XI).1
      simpa [partT] using this
end Go.Proofs.Ytaedoagcbkgmbaa
