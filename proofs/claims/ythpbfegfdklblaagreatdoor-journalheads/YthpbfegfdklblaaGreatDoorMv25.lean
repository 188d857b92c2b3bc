import Derived.Test.YthpbfegfdklblaaGreatDoorMv24
import Derived.Test.YthpbfegfdklblaaGreatDoorMv22
import Derived.Test.YthpbfegfdklblaaGreatDoorMv13
import Derived.Test.YthpbfegfdklblaaGreatDoorMv14
import Derived.Test.YthpbfegfdklblaaGreatDoorMv02
import Derived.Test.YthpbfegfdklblaaGreatDoorMv19
namespace Go.Proofs.YthpbfegfdklblaaGreatDoor
open Go.RowKit
set_option maxRecDepth 100000
set_option maxHeartbeats 4000000 in
theorem stepW {w0 w : World} {xb b br : Nat} {s : DSt} {j1 j2 j3 j4 : Value} {X : Nat → Prop} (h : Sd w0 w xb b br s s #[.pointer (some ⟨b, 0, none⟩), .pointer (some ⟨br, 0, none⟩), j1, j2, j3, j4] X) (hS : Sane s) (hC : Coh s) (hp : s.pend.length ≤ 100000) (ha : s.acts.length ≤ 100000) (on i : Int) (x : ByteArray) (hx : x.size ≤ 140737488355328) (l1 l2 l3 : Value) :
    Calls Tryz.prog 8 #[.pointer (some ⟨xb, 0, none⟩), .agg #[.int .i64 1, .int .i64 on, .int .i64 i, .string x, l1, l2, l3]] w fun e w' => e = .returned (.bool true) ∧ Sd w0 w' xb b br (writeS s i (shapB x)) (writeS s i (shapB x)) #[.pointer (some ⟨b, 0, none⟩), .pointer (some ⟨br, 0, none⟩), j1, j2, j3, j4] X := by
  obtain ⟨go, hgo⟩ : ∃ z, w.heap.size = z := ⟨_, rfl⟩
  obtain ⟨x0, hx0⟩ : ∃ z, w.alloc (.cells #[.int .i64 1, .int .i64 on, .int .i64 i, .string x, l1, l2, l3] 41) = z := ⟨_, rfl⟩
  have B0 : Blk x0 go #[.int .i64 1, .int .i64 on, .int .i64 i, .string x, l1, l2, l3] 41 := by rw [← hx0, ← hgo]; exact Blk.new w _ _
  have hb0 : Below w.heap.size w x0 := by rw [← hx0]; exact (Below.refl _ _).alloc (Nat.le_refl _) _
  have h0 : Sd w0 x0 xb b br s s #[.pointer (some ⟨b, 0, none⟩), .pointer (some ⟨br, 0, none⟩), j1, j2, j3, j4] (fun k => X k ∨ k = go) := h.more hb0 (fun k q => q.imp_right (fun e => by rw [e]; exact ⟨by omega, B0.lt⟩))
  have k0 : x0.cell? ⟨go, 0, none⟩ = some (.int .i64 1) := B0.cell 0
  have k3 : x0.cell? ⟨go, 3, none⟩ = some (.string x) := B0.cell 3
  have HSH := hide (shaped5_any x hx x0)
  obtain ⟨xx, hxx⟩ : ∃ z, shapB x = z := ⟨_, rfl⟩
  obtain ⟨s1, hs1⟩ : ∃ z, writeS s i xx = z := ⟨_, rfl⟩
  obtain ⟨e1, he1⟩ : ∃ z, writeE s i xx = z := ⟨_, rfl⟩
  rw [hxx] at HSH ⊢
  rw [hs1]
  have HE := hide (And.intro hs1 he1)
  have H0 := hide (And.intro h0 B0)
  have HP := hide (And.intro hS (And.intro hC (And.intro (show s.pend.length ≤ 1000000 by omega) (show s.acts.length ≤ 1000000 by omega))))
  clear h hS hC hp ha hx B0 hb0 h0 hxx hs1 he1
  go_enter Tryz.func8, Tryz.ntmps8
  go_wp2_with fail
  clear hx0 k0
  refine (unhide HSH).mono ?_
  rintro e x1 ⟨rfl, hb1⟩
  have hbd : Below x0.heap.size x0 x1.drew := hb1.drew
  have h1 := (unhide H0).1.below hbd
  have B1 := (unhide H0).2.below hbd (unhide H0).2.lt
  have HB := hide B1
  have c0 : x1.drew.cell? ⟨xb, 0, none⟩ = some (.pointer (some ⟨b, 0, none⟩)) := h1.blk.cell 0
  have o2 : x1.drew.cell? ⟨go, 2, none⟩ = some (.int .i64 i) := B1.cell 2
  have HW := hide (h1.wr (unhide HP).1 (unhide HP).2.2.1 (unhide HP).2.2.2 i xx)
  rw [(unhide HE).1, (unhide HE).2] at HW
  clear hb1 hbd h1 B1 HSH H0 k3
  go_wp2_with fail
  refine wp_region_held_drew (S := fun W => W.cell? ⟨xb, 0, none⟩ = some (.pointer (some ⟨b, 0, none⟩)) ∧ W.cell? ⟨go, 2, none⟩ = some (.int .i64 i)) (by kernel_rfl) ⟨c0, o2⟩ ?_
  intro hS
  refine wpAnyH_takeD 0 (some 32) (.pointer (some ⟨xb, 0, none⟩)) rfl rfl (by kernel_rfl) (by kernel_rfl) (by kernel_rfl) (fun _ _ _ h => h) (Or.inl ⟨by rfl, fun w hSw => by obtain ⟨q0, q1⟩ := hSw; go_simp⟩) hS ?_
  simp only [Act.put, List.setIfInBounds_toArray, List.set_cons_zero, List.set_cons_succ]
  refine wpAnyH_takeD 1 (some 33) (.pointer (some ⟨xb, 0, none⟩)) rfl rfl (by kernel_rfl) (by kernel_rfl) (by kernel_rfl) (fun _ _ _ h => h) (Or.inl ⟨by rfl, fun w hSw => by obtain ⟨q0, q1⟩ := hSw; go_simp⟩) hS ?_
  simp only [Act.put, List.setIfInBounds_toArray, List.set_cons_zero, List.set_cons_succ]
  refine wpAnyH_takeD 2 (some 34) (.pointer (some ⟨xb, 0, none⟩)) rfl rfl (by kernel_rfl) (by kernel_rfl) (by kernel_rfl) (fun _ _ _ h => h) (Or.inl ⟨by rfl, fun w hSw => by obtain ⟨q0, q1⟩ := hSw; go_simp⟩) hS ?_
  simp only [Act.put, List.setIfInBounds_toArray, List.set_cons_zero, List.set_cons_succ]
  refine wpAnyH_takeD 3 (some 35) (.pointer (some ⟨b, 0, none⟩)) rfl rfl (by kernel_rfl) (by kernel_rfl) (by kernel_rfl) (fun _ _ _ h => h) (Or.inl ⟨by rfl, fun w hSw => by obtain ⟨q0, q1⟩ := hSw; go_simp⟩) hS ?_
  simp only [Act.put, List.setIfInBounds_toArray, List.set_cons_zero, List.set_cons_succ]
  refine wpAnyH_takeD 4 (some 36) (.pointer (some ⟨go, 2, none⟩)) rfl rfl (by kernel_rfl) (by kernel_rfl) (by kernel_rfl) (fun _ _ _ h => h) (Or.inl ⟨by rfl, fun w hSw => by obtain ⟨q0, q1⟩ := hSw; go_simp⟩) hS ?_
  simp only [Act.put, List.setIfInBounds_toArray, List.set_cons_zero, List.set_cons_succ]
  refine wpAnyH_takeD 5 (some 37) (.int .i64 i) rfl rfl (by kernel_rfl) (by kernel_rfl) (by kernel_rfl) (fun _ _ _ h => h) (Or.inl ⟨by rfl, fun w hSw => by obtain ⟨q0, q1⟩ := hSw; go_simp⟩) hS ?_
  simp only [Act.put, List.setIfInBounds_toArray, List.set_cons_zero, List.set_cons_succ]
  refine wpAnyH_takeD 6 (some 38) (.string xx) rfl rfl (by kernel_rfl) (by kernel_rfl) (by kernel_rfl) (fun _ _ _ h => h) (Or.inl ⟨by rfl, fun w hSw => by obtain ⟨q0, q1⟩ := hSw; go_simp⟩) hS ?_
  simp only [Act.put, List.setIfInBounds_toArray, List.set_cons_zero, List.set_cons_succ]
  refine wpAnyH_ready (rs := [7]) (by kernel_rfl) (by simp) ?_
  refine AllReadyH.cons rfl (fun K hK => ?_) AllReadyH.nil
  simp only [List.getElem_toArray, List.getElem_cons_succ, List.getElem_cons_zero]
  go_simp
  refine (unhide HW).mono ?_
  rintro e y1 ⟨rfl, h2, hO2⟩
  have d0 : y1.cell? ⟨xb, 0, none⟩ = some (.pointer (some ⟨b, 0, none⟩)) := h2.blk.cell 0
  have B2 := (unhide HB).only hO2 (fun q => q.1 (.inr rfl))
  have d2 : y1.cell? ⟨go, 2, none⟩ = some (.int .i64 i) := B2.cell 2
  have HY := hide (And.intro h2 B2)
  clear h2 hO2 B2
  refine hK.out _ _ ⟨d0, d2⟩ (fun hS => ?_)
  clear hK K
  refine wpAnyH_takeD 8 (some 6) (.int .i64 e1) rfl rfl (by kernel_rfl) (by kernel_rfl) (by kernel_rfl) (fun _ _ _ h => h) (Or.inl ⟨by rfl, fun w hSw => by obtain ⟨q0, q1⟩ := hSw; go_simp⟩) hS ?_
  simp only [Act.put, List.setIfInBounds_toArray, List.set_cons_zero, List.set_cons_succ]
  refine wpAnyH_done (by kernel_rfl) ?_ _
  clear hS d0 d2 c0 o2 HW
  obtain ⟨x2, rfl⟩ : ∃ W, W = y1 := ⟨_, rfl⟩
  have hbd : Below x2.heap.size x2 x2.drew := (Below.refl _ _).drew
  have h2 := (unhide HY).1.below hbd
  have B2 := (unhide HY).2.below hbd (unhide HY).2.lt
  clear HB HY
  have HB := hide B2
  have c0 : x2.drew.cell? ⟨xb, 1, none⟩ = some (.pointer (some ⟨br, 0, none⟩)) := h2.blk.cell 1
  have o2 : x2.drew.cell? ⟨go, 2, none⟩ = some (.int .i64 i) := B2.cell 2
  have HW := hide (h2.rwr (unhide HP).1 (unhide HP).2.1 (unhide HP).2.2.1 (unhide HP).2.2.2 i xx)
  rw [(unhide HE).1, (unhide HE).2] at HW
  have ee : (e1 == e1) = true := by simp
  clear hbd h2 B2
  go_wp2_with fail
  refine wp_region_held_drew (S := fun W => W.cell? ⟨xb, 1, none⟩ = some (.pointer (some ⟨br, 0, none⟩)) ∧ W.cell? ⟨go, 2, none⟩ = some (.int .i64 i)) (by kernel_rfl) ⟨c0, o2⟩ ?_
  intro hS
  refine wpAnyH_takeD 0 (some 40) (.int .i64 e1) rfl rfl (by kernel_rfl) (by kernel_rfl) (by kernel_rfl) (fun _ _ _ h => h) (Or.inl ⟨by rfl, fun w hSw => by obtain ⟨q0, q1⟩ := hSw; go_simp⟩) hS ?_
  simp only [Act.put, List.setIfInBounds_toArray, List.set_cons_zero, List.set_cons_succ]
  refine wpAnyH_takeD 1 (some 41) (.pointer (some ⟨xb, 0, none⟩)) rfl rfl (by kernel_rfl) (by kernel_rfl) (by kernel_rfl) (fun _ _ _ h => h) (Or.inl ⟨by rfl, fun w hSw => by obtain ⟨q0, q1⟩ := hSw; go_simp⟩) hS ?_
  simp only [Act.put, List.setIfInBounds_toArray, List.set_cons_zero, List.set_cons_succ]
  refine wpAnyH_takeD 2 (some 42) (.pointer (some ⟨xb, 0, none⟩)) rfl rfl (by kernel_rfl) (by kernel_rfl) (by kernel_rfl) (fun _ _ _ h => h) (Or.inl ⟨by rfl, fun w hSw => by obtain ⟨q0, q1⟩ := hSw; go_simp⟩) hS ?_
  simp only [Act.put, List.setIfInBounds_toArray, List.set_cons_zero, List.set_cons_succ]
  refine wpAnyH_takeD 3 (some 43) (.pointer (some ⟨xb, 1, none⟩)) rfl rfl (by kernel_rfl) (by kernel_rfl) (by kernel_rfl) (fun _ _ _ h => h) (Or.inl ⟨by rfl, fun w hSw => by obtain ⟨q0, q1⟩ := hSw; go_simp⟩) hS ?_
  simp only [Act.put, List.setIfInBounds_toArray, List.set_cons_zero, List.set_cons_succ]
  refine wpAnyH_takeD 4 (some 44) (.pointer (some ⟨br, 0, none⟩)) rfl rfl (by kernel_rfl) (by kernel_rfl) (by kernel_rfl) (fun _ _ _ h => h) (Or.inl ⟨by rfl, fun w hSw => by obtain ⟨q0, q1⟩ := hSw; go_simp⟩) hS ?_
  simp only [Act.put, List.setIfInBounds_toArray, List.set_cons_zero, List.set_cons_succ]
  refine wpAnyH_takeD 5 (some 45) (.pointer (some ⟨go, 2, none⟩)) rfl rfl (by kernel_rfl) (by kernel_rfl) (by kernel_rfl) (fun _ _ _ h => h) (Or.inl ⟨by rfl, fun w hSw => by obtain ⟨q0, q1⟩ := hSw; go_simp⟩) hS ?_
  simp only [Act.put, List.setIfInBounds_toArray, List.set_cons_zero, List.set_cons_succ]
  refine wpAnyH_takeD 6 (some 46) (.int .i64 i) rfl rfl (by kernel_rfl) (by kernel_rfl) (by kernel_rfl) (fun _ _ _ h => h) (Or.inl ⟨by rfl, fun w hSw => by obtain ⟨q0, q1⟩ := hSw; go_simp⟩) hS ?_
  simp only [Act.put, List.setIfInBounds_toArray, List.set_cons_zero, List.set_cons_succ]
  refine wpAnyH_takeD 7 (some 47) (.string xx) rfl rfl (by kernel_rfl) (by kernel_rfl) (by kernel_rfl) (fun _ _ _ h => h) (Or.inl ⟨by rfl, fun w hSw => by obtain ⟨q0, q1⟩ := hSw; go_simp⟩) hS ?_
  simp only [Act.put, List.setIfInBounds_toArray, List.set_cons_zero, List.set_cons_succ]
  refine wpAnyH_ready (rs := [8]) (by kernel_rfl) (by simp) ?_
  refine AllReadyH.cons rfl (fun K hK => ?_) AllReadyH.nil
  simp only [List.getElem_toArray, List.getElem_cons_succ, List.getElem_cons_zero]
  go_simp
  refine (unhide HW).mono ?_
  rintro e y1 ⟨rfl, h2, hO2⟩
  have d0 : y1.cell? ⟨xb, 1, none⟩ = some (.pointer (some ⟨br, 0, none⟩)) := h2.blk.cell 1
  have B2 := (unhide HB).only hO2 (fun q => q.1 (.inr rfl))
  have d2 : y1.cell? ⟨go, 2, none⟩ = some (.int .i64 i) := B2.cell 2
  have HY := hide (And.intro h2 B2)
  clear h2 hO2 B2
  refine hK.out _ _ ⟨d0, d2⟩ (fun hS => ?_)
  clear hK K
  refine wpAnyH_takeD 9 (some 49) (.bool true) rfl rfl (by kernel_rfl) (by kernel_rfl) (by kernel_rfl) (fun _ _ _ h => h) (Or.inl ⟨by rfl, fun w hSw => by obtain ⟨q0, q1⟩ := hSw; go_simp⟩) hS ?_
  simp only [Act.put, List.setIfInBounds_toArray, List.set_cons_zero, List.set_cons_succ]
  refine wpAnyH_takeD 10 (some 4) (.bool true) rfl rfl (by kernel_rfl) (by kernel_rfl) (by kernel_rfl) (fun _ _ _ h => h) (Or.inl ⟨by rfl, fun w hSw => by obtain ⟨q0, q1⟩ := hSw; go_simp⟩) hS ?_
  simp only [Act.put, List.setIfInBounds_toArray, List.set_cons_zero, List.set_cons_succ]
  refine wpAnyH_done (by kernel_rfl) ?_ _
  have HF := hide ((unhide HY).1.more (Y := X) (Below.refl _ _) (fun k q => .inl (.inl q)))
  clear hS d0 d2 c0 o2 HW HY HB
  go_wp2_with fail
  go_ret
  exact ⟨rfl, unhide HF⟩
end Go.Proofs.YthpbfegfdklblaaGreatDoor

namespace Go.Proofs.YthpbfegfdklblaaGreatDoor
open Go.RowKit
set_option maxRecDepth 100000
set_option maxHeartbeats 2000000 in
/-- Bytes of any number: four of them. -/
theorem rbytesI (n : Int) (hn : I64 n) (w : World) :
    Calls Tryz.prog 40 #[.int .i64 n, .int .i64 4] w fun e w' => (∃ t : ByteArray, e = .returned (.string t) ∧ t.size = 4) ∧ Below w.heap.size w w' := by
  have HB := hide (Below.refl w.heap.size w)
  go_enter Tryz.func40, Tryz.ntmps40
  go_wp2
  go_loopw [0, 5, 6] (fun u s i wr => ∃ (j : Nat) (m : Int) (t : ByteArray), j ≤ 4 ∧ I64 m ∧ u = .int .i64 m ∧ i = .int .i64 (j : Int) ∧ s = .string t ∧ t.size = j ∧ Below w.heap.size w wr) (fun _ _ i _ => 4 - (intOf i).toNat)
  case atStart => exact ⟨0, n, _, by omega, hn, rfl, rfl, rfl, rfl, unhide HB⟩
  case round =>
    obtain ⟨j, m, S, hj, hm, rfl, rfl, rfl, hsz, hBe⟩ := hrel
    obtain ⟨wo, rfl⟩ : ∃ wo, wo = wr := ⟨_, rfl⟩
    have HBE := hide hBe
    clear hBe HB
    by_cases hjk : j < 4
    · have hjk' : (j : Int) < 4 := by omega
      obtain ⟨M, hM⟩ : ∃ M, m.tmod 256 = M := ⟨_, rfl⟩
      obtain ⟨R, hR⟩ : ∃ R, IntKind.u8.wrap M = R := ⟨_, rfl⟩
      obtain ⟨Q, hQ⟩ : ∃ Q, m.tdiv 256 = Q := ⟨_, rfl⟩
      have hQI : I64 Q := by
        obtain ⟨a, b⟩ := hm
        have h1 : Q.natAbs = m.natAbs / 256 := by rw [← hQ, Int.natAbs_tdiv]; rfl
        constructor <;> omega
      have hQw : IntKind.i64.wrap Q = Q := wrapI_eq _ hQI.1 hQI.2
      have hcv := run_one wo R 5
      have hs1 : (strOfNums [R]).size = 1 := rfl
      have HQI := hide hQI
      have HSZ := hide (show (strOfNums [R] ++ S).size = j + 1 from by rw [ByteArray.size_append, hs1, hsz]; omega)
      clear hm hQI
      generalize strOfNums [R] = S1 at *
      have y1 : ¬ 9223372036854775807 < S1.size + S.size := by omega
      have y2 : ¬ 9223372036854775807 < 1 + j := by omega
      have y3 : ¬ 9223372036854775807 < 1 + S.size := by omega
      go_wp2
      go_roundw
      case rel => exact ⟨j + 1, Q, _, by omega, unhide HQI, by go_num, by go_num, rfl, unhide HSZ, (unhide HBE).alloc (by have := (unhide HBE).size; omega) _⟩
      case measure => simp [intOf]; omega
    · have hjk' : ¬ (j : Int) < 4 := by omega
      have HF := hide (show S.size = 4 by omega)
      clear hsz
      go_wp2
      go_ret
      exact ⟨⟨_, rfl, unhide HF⟩, unhide HBE⟩
theorem makeB_le (kind number : Int) (body : ByteArray) : (makeB kind number body).size ≤ 256 := by
  rw [makeB]
  by_cases h : errM kind number body.size = 0
  · have hb : body.size ≤ 244 := by
      by_cases q : 244 < body.size
      · rw [errM] at h
        by_cases r : ¬ fitsP kind 1 ∨ ¬ fitsP number 4
        · rw [if_pos r] at h; omega
        · rw [if_neg r, if_pos q] at h; omega
      · omega
    rw [if_pos h, strOfNums_size, makeL_len _ _ _ (by rw [nums_len]; exact hb)]
    exact Nat.le_refl _
  · rw [if_neg h]
    exact Nat.zero_le _
set_option maxHeartbeats 2000000 in
/-- A head that is set: some text. -/
theorem rset_some (n : Int) (p : Option Addr) (m c : Nat) (l : List Int) (hl : l.length = m) (w : World) (hI : Ints w p l) (hB : ∀ z ∈ l, I64 z) :
    Calls Tryz.prog 9 #[.int .i64 n, .slice p m c] w fun e w' => (∃ t : ByteArray, e = .returned (.string t) ∧ t.size ≤ 256) ∧ Below w.heap.size w w' := by
  have HL := hide (And.intro hl (And.intro hI hB))
  have X0 := hide (Below.refl w.heap.size w)
  clear hl hI hB
  go_enter Tryz.func9, Tryz.ntmps9
  go_wp2
  go_loopw [5, 6, 7] (fun s i _ wr => ∃ (j : Nat) (t : ByteArray), j ≤ 16 ∧ i = .int .i64 (j : Int) ∧ s = .string t ∧ t.size = 1 + 4 * j ∧ Below w.heap.size w wr) (fun _ i _ _ => 16 - (intOf i).toNat)
  case atStart => exact ⟨0, _, by omega, rfl, rfl, rfl, unhide X0⟩
  case round =>
    obtain ⟨j, t, hj, rfl, rfl, ht, hb⟩ := hrel
    obtain ⟨wo, rfl⟩ : ∃ wo, wo = wr := ⟨_, rfl⟩
    have HBE := hide hb
    have HT := hide ht
    clear hb X0 ht
    by_cases hj16 : j < 16
    · have j16 : (j : Int) < 16 := by omega
      by_cases hjm : j < m
      · have jm : (j : Int) < (m : Int) := by omega
        have j0 : (0 : Int) ≤ (j : Int) := by omega
        obtain ⟨hl, hI, hB⟩ := unhide HL
        obtain ⟨g, o, rfl, hg, hc⟩ := hI j (by omega)
        have cj : wo.cell? ⟨g, o + j, none⟩ = some (.int .i64 (l.getD j 0)) := by rw [(unhide HBE).cell (p := ⟨g, o + j, none⟩) hg]; exact hc
        have hz : I64 (l.getD j 0) := hB _ (by rw [List.getD_eq_getElem?_getD, List.getElem?_eq_getElem (by omega)]; exact List.getElem_mem _)
        have HRB := hide (rbytesI (l.getD j 0) hz wo)
        generalize l.getD j 0 = z at *
        clear hl hI hB hc hz
        go_wp2_with fail
        refine (unhide HRB).mono ?_
        rintro e x1 ⟨⟨u, rfl, hu⟩, hb1⟩
        have y1 : ¬ 9223372036854775807 < t.size + u.size := by have := unhide HT; omega
        have HN := hide (show (t ++ u).size = 1 + 4 * (j + 1) from by rw [ByteArray.size_append, unhide HT, hu]; omega)
        have HB1 := hide (show Below w.heap.size w x1 from (unhide HBE).trans (hb1.mono (unhide HBE).size))
        clear hb1 hu HRB cj
        go_wp2
        go_roundw
        case rel => exact ⟨j + 1, _, by omega, by go_num, rfl, unhide HN, unhide HB1⟩
        case measure => simp [intOf]; omega
      · have jm : ¬ (j : Int) < (m : Int) := by omega
        have HRB := hide (rbytesI 18 ⟨by decide, by decide⟩ wo)
        go_wp2_with fail
        refine (unhide HRB).mono ?_
        rintro e x1 ⟨⟨u, rfl, hu⟩, hb1⟩
        have y1 : ¬ 9223372036854775807 < t.size + u.size := by have := unhide HT; omega
        have HN := hide (show (t ++ u).size = 1 + 4 * (j + 1) from by rw [ByteArray.size_append, unhide HT, hu]; omega)
        have HB1 := hide (show Below w.heap.size w x1 from (unhide HBE).trans (hb1.mono (unhide HBE).size))
        clear hb1 hu HRB
        go_wp2
        go_roundw
        case rel => exact ⟨j + 1, _, by omega, by go_num, rfl, unhide HN, unhide HB1⟩
        case measure => simp [intOf]; omega
    · have j16 : ¬ (j : Int) < 16 := by omega
      have HMK := hide (rmake_any 2 n t wo)
      go_wp2_with fail
      refine (unhide HMK).mono ?_
      rintro e x1 ⟨rfl, hb1⟩
      have HB1 := hide (show Below w.heap.size w x1 from (unhide HBE).trans (hb1.mono (unhide HBE).size))
      obtain ⟨tt, htt⟩ : ∃ z, makeB 2 n t = z := ⟨_, rfl⟩
      rw [htt]
      have HS := hide (show tt.size ≤ 256 from by rw [← htt]; exact makeB_le 2 n t)
      clear hb1 HMK htt
      go_wp2
      go_ret
      exact ⟨⟨_, rfl, unhide HS⟩, unhide HB1⟩
end Go.Proofs.YthpbfegfdklblaaGreatDoor

namespace Go.Proofs.YthpbfegfdklblaaGreatDoor
open Go.RowKit
set_option maxRecDepth 100000
theorem own_blk {w : World} {base : Nat} {e : TypeId} {s n : Nat} {v : Value} {xs : List Value} (h : w.ownsRow base e s v n xs) {k : Nat} (hk : v.ownBlock = some k) : ∃ cur, Blk w k cur e := by
  rcases h.2 with ⟨rfl, _⟩ | ⟨g, cap, cur, rfl, hb, hg, r⟩
  · cases hk
  · obtain rfl : g = k := by simpa [Value.ownBlock] using hk
    exact ⟨cur, hg⟩
theorem blk_ty {w : World} {b : Nat} {c c' : Array Value} {T T' : TypeId} (h : Blk w b c T) (h' : Blk w b c' T') : T = T' := by
  have e : (some (Obj.cells c T (0, 0))) = some (Obj.cells c' T' (0, 0)) := (show w.heap[b]? = _ from h).symm.trans h'
  injection e with e
  injection e with _ e
/-- a type that no block of a side has -/
def FT (T : TypeId) : Prop := T ≠ 9 ∧ T ≠ 63 ∧ T ≠ 66 ∧ T ≠ 37 ∧ T ≠ 50 ∧ T ≠ 134 ∧ T ≠ 89
theorem Dk.noty {w : World} {base b k : Nat} {v : DV} {s : DSt} {c : Array Value} {T : TypeId} (h : Dk w base b v s) (hB : Blk w k c T) (hT : FT T) : ¬ Fd b v k := by
  rintro (q | q | q | q | q)
  · rw [q] at hB; exact hT.2.1 (blk_ty hB h.blk)
  · obtain ⟨cur, hc⟩ := own_blk h.rl q; exact hT.1 (blk_ty hB hc)
  · obtain ⟨cur, hc⟩ := own_blk h.rn q; exact hT.1 (blk_ty hB hc)
  · obtain ⟨cur, hc⟩ := own_blk h.rp q; exact hT.2.2.2.2.1 (blk_ty hB hc)
  · obtain ⟨cur, hc⟩ := own_blk h.ra q; exact hT.2.2.2.2.2.1 (blk_ty hB hc)
theorem Rk.noty {w : World} {base b k : Nat} {v : RV} {s : DSt} {c : Array Value} {T : TypeId} (h : Rk w base b v s) (hB : Blk w k c T) (hT : FT T) : ¬ Fr4 b v k := by
  rintro (q | q | q | q)
  · rw [q] at hB; exact hT.2.2.1 (blk_ty hB h.blk)
  · obtain ⟨cur, hc⟩ := own_blk h.rl q; exact hT.1 (blk_ty hB hc)
  · obtain ⟨cur, hc⟩ := own_blk h.rp q; exact hT.2.2.2.2.1 (blk_ty hB hc)
  · obtain ⟨cur, hc⟩ := own_blk h.ra q; exact hT.2.2.2.2.2.2 (blk_ty hB hc)
/-- A block of another type comes into the fence. -/
theorem Sd.fen {w0 w : World} {xb b br : Nat} {s t : DSt} {cs : Array Value} {X : Nat → Prop} (h : Sd w0 w xb b br s t cs X) {jb : Nat} {c : Array Value} {T : TypeId} (hB : Blk w jb c T) (hT : FT T) : Sd w0 w xb b br s t cs (fun k => X k ∨ k = jb) := by
  obtain ⟨v, vr, h1, h2, h3, h4, h5, h6, h7, h8⟩ := h
  refine ⟨v, vr, h1, h2, h3, h4, h5, h6, h7, fun k hk => ?_⟩
  rcases hk with q | q
  · exact h8 k q
  · rw [← q] at hB
    exact ⟨h1.noty hB hT, h2.noty hB hT, fun e => by rw [e] at hB; exact hT.2.2.2.1 (blk_ty hB h5), hB.lt⟩
theorem Sd.ne {w0 w : World} {xb b br : Nat} {s t : DSt} {cs : Array Value} {X : Nat → Prop} (h : Sd w0 w xb b br s t cs X) {k : Nat} (hk : X k) : k ≠ xb := by
  obtain ⟨v, vr, h1, h2, h3, h4, h5, h6, h7, h8⟩ := h
  exact (h8 k hk).2.2.1
/-- Open of the program's disk. -/
theorem Sd.openP {w0 w : World} {xb b br : Nat} {s t : DSt} {cs : Array Value} {X : Nat → Prop} (h : Sd w0 w xb b br s t cs X) (hg : ETy w) (hS : Sane s) (ht : (readT s 1).size ≤ 9223372036854775807) (hp : s.pend.length ≤ 1000000) (ha : s.acts.length ≤ 10000000) {n : Nat} {H : List Int} {ok : Bool} {s' : DSt} {er : Int} {ag has : Bool} (hR : RHP (readT s 1) (s.last.length : Int) (n : Int) H ok) (hO : OR s n H ok s' er ag has) :
    Calls Tryz.prog 31 #[.pointer (some ⟨b, 0, none⟩)] w fun e w' => (∃ jp, e = .returned (.tuple #[.pointer jp, .bool ag, .int .i64 er]) ∧ JpQ has w (fun W jb => Jb W jb b ((n + 1) % 4294967296) false) jp w') ∧ Sd w0 w' xb b br s' t cs X ∧ Only (fun k => ¬ X k ∧ k ≠ xb) w w' :=
  h.prog (R := fun e w' => ∃ jp, e = .returned (.tuple #[.pointer jp, .bool ag, .int .i64 er]) ∧ JpQ has w (fun W jb => Jb W jb b ((n + 1) % 4294967296) false) jp w') (fun v hD => (open_any w _ b v s hD hg h.bel.size hS ht hp ha).mono (fun _ _ hq => OpenPost.or hq hR hO))
/-- Open of the document's. -/
theorem Sd.openR {w0 w : World} {xb b br : Nat} {s t : DSt} {cs : Array Value} {X : Nat → Prop} (h : Sd w0 w xb b br s t cs X) (hS : Sane t) (hC : Coh t) (hp : t.pend.length ≤ 1000000) (ha : t.acts.length ≤ 100000000) (hL : 18 ≤ t.last.length) {n : Nat} {H : List Int} {ok : Bool} {s' : DSt} {er : Int} {ag has : Bool} (hR : RHP (readT t 1) (t.last.length : Int) (n : Int) H ok) (hO : OR t n H ok s' er ag has) :
    Calls Tryz.prog 32 #[.pointer (some ⟨br, 0, none⟩)] w fun e w' => (∃ jp, e = .returned (.tuple #[.pointer jp, .bool ag, .int .i64 er]) ∧ JpQ has w (fun W jb => Rj W jb br n false) jp w') ∧ Sd w0 w' xb b br s s' cs X ∧ Only (fun k => ¬ X k ∧ k ≠ xb) w w' :=
  h.doc (R := fun e w' => ∃ jp, e = .returned (.tuple #[.pointer jp, .bool ag, .int .i64 er]) ∧ JpQ has w (fun W jb => Rj W jb br n false) jp w') (fun _ hD => (ropen_any hD h.bel.size hS hC hp ha hL).mono (fun _ _ hq => ROQ.or hq hR hO))
/-- what step's KOpen leaves -/
def StO (w0 : World) (xb b br : Nat) (s : DSt) (p1 p2 p3 p4 : Option Addr) (X : Nat → Prop) (n : Nat) (has : Bool) (w : World) : Prop :=
  (has = false ∧ Sd w0 w xb b br s s #[.pointer (some ⟨b, 0, none⟩), .pointer (some ⟨br, 0, none⟩), .pointer p1, .pointer p2, .pointer p3, .pointer p4] X) ∨
  (has = true ∧ ∃ jb sb, Sd w0 w xb b br s s #[.pointer (some ⟨b, 0, none⟩), .pointer (some ⟨br, 0, none⟩), .pointer (some ⟨jb, 0, none⟩), .pointer (some ⟨sb, 0, none⟩), .pointer p3, .pointer p4] (fun k => (X k ∨ k = jb) ∨ k = sb) ∧ Jb w jb b ((n + 1) % 4294967296) false ∧ Rj w sb br n false)
set_option maxHeartbeats 4000000 in
theorem stepO {w0 w : World} {xb b br : Nat} {s : DSt} {p1 p2 p3 p4 : Option Addr} {X : Nat → Prop} (h : Sd w0 w xb b br s s #[.pointer (some ⟨b, 0, none⟩), .pointer (some ⟨br, 0, none⟩), .pointer p1, .pointer p2, .pointer p3, .pointer p4] X) (hg : ETy w) (hS : Sane s) (hC : Coh s) (ht : (readT s 1).size ≤ 9223372036854775807) (hp : s.pend.length ≤ 100000) (ha : s.acts.length ≤ 100000) (hL : 18 ≤ s.last.length) {n : Nat} {H : List Int} {ok : Bool} {s' : DSt} {er : Int} {ag has : Bool} (hR : RHP (readT s 1) (s.last.length : Int) (n : Int) H ok) (hO : OR s n H ok s' er ag has) (on : Int) (x : ByteArray) (l1 l2 l3 : Option Addr) (n1 n2 n3 m1 m2 m3 : Nat) :
    Calls Tryz.prog 8 #[.pointer (some ⟨xb, 0, none⟩), .agg #[.int .i64 6, .int .i64 on, .int .i64 0, .string x, .slice l1 n1 m1, .slice l2 n2 m2, .slice l3 n3 m3]] w fun e w' => e = .returned (.bool true) ∧ StO w0 xb b br s' p1 p2 p3 p4 X n has w' := by
  obtain ⟨go, hgo⟩ : ∃ z, w.heap.size = z := ⟨_, rfl⟩
  obtain ⟨x0, hx0⟩ : ∃ z, w.alloc (.cells #[.int .i64 6, .int .i64 on, .int .i64 0, .string x, .slice l1 n1 m1, .slice l2 n2 m2, .slice l3 n3 m3] 41) = z := ⟨_, rfl⟩
  have B0 : Blk x0 go #[.int .i64 6, .int .i64 on, .int .i64 0, .string x, .slice l1 n1 m1, .slice l2 n2 m2, .slice l3 n3 m3] 41 := by rw [← hx0, ← hgo]; exact Blk.new w _ _
  have hb0 : Below w.heap.size w x0 := by rw [← hx0]; exact (Below.refl _ _).alloc (Nat.le_refl _) _
  have h0 : Sd w0 x0 xb b br s s #[.pointer (some ⟨b, 0, none⟩), .pointer (some ⟨br, 0, none⟩), .pointer p1, .pointer p2, .pointer p3, .pointer p4] (fun k => X k ∨ k = go) := h.more hb0 (fun k q => q.imp_right (fun e => by rw [e]; exact ⟨by omega, B0.lt⟩))
  have hg0 : ETy x0 := hg.below hb0 hg.lt
  have k0 : x0.cell? ⟨go, 0, none⟩ = some (.int .i64 6) := B0.cell 0
  have c0 : x0.cell? ⟨xb, 0, none⟩ = some (.pointer (some ⟨b, 0, none⟩)) := h0.blk.cell 0
  have HO1 := hide (h0.openP hg0 hS ht (by omega) (by omega) hR hO)
  have HR := hide hR
  have HOR := hide hO
  have H0 := hide (And.intro h0 B0)
  have HP := hide (And.intro hS (And.intro hC (And.intro (show s.pend.length ≤ 1000000 by omega) (And.intro (show s.acts.length ≤ 100000000 by omega) hL))))
  clear h hg hS hC ht hp ha hL hR hO B0 hb0 h0 hg0
  cases has
  · as_aux_lemma =>
      go_enter Tryz.func8, Tryz.ntmps8
      go_wp2_with fail
      clear hx0 k0
      refine (unhide HO1).mono ?_
      rintro e x1 ⟨⟨jp, rfl, hJ⟩, h1, hO1⟩
      obtain rfl : jp = none := by
        rcases hJ with ⟨_, q⟩ | ⟨q, _⟩
        · exact q
        · cases q
      have h1f := h1
      have B1 := (unhide H0).2.only hO1 (fun q => q.1 (.inr rfl))
      have c1 : x1.cell? ⟨xb, 1, none⟩ = some (.pointer (some ⟨br, 0, none⟩)) := h1.blk.cell 1
      have HO2 := hide (h1f.openR (unhide HP).1 (unhide HP).2.1 (unhide HP).2.2.1 (unhide HP).2.2.2.1 (unhide HP).2.2.2.2 (unhide HR) (unhide HOR))
      have HB := hide B1
      clear h1 h1f B1 hO1 hJ HO1 c0
      go_wp2_with fail
      refine (unhide HO2).mono ?_
      rintro e x2 ⟨⟨sp, rfl, hJ⟩, h2, hO2⟩
      have ee : (er == er) = true := by simp
      have gg : (ag == ag) = true := by simp
      obtain rfl : sp = none := by
        rcases hJ with ⟨_, q⟩ | ⟨q, _⟩
        · exact q
        · cases q
      have HF := hide (h2.more (Y := X) (Below.refl _ _) (fun k q => .inl (.inl q)))
      clear h2 hO2 hJ HO2 c1 HB
      go_wp2
      go_ret
      exact ⟨rfl, .inl ⟨rfl, unhide HF⟩⟩
  · as_aux_lemma =>
      go_enter Tryz.func8, Tryz.ntmps8
      go_wp2_with fail
      clear hx0 k0
      refine (unhide HO1).mono ?_
      rintro e x1 ⟨⟨jp, rfl, hJ⟩, h1, hO1⟩
      obtain ⟨jb, rfl, hJb⟩ : ∃ jb, jp = some ⟨jb, 0, none⟩ ∧ Jb x1 jb b ((n + 1) % 4294967296) false := by
        rcases hJ with ⟨q, _⟩ | ⟨_, jb, q1, _, q2⟩
        · cases q
        · exact ⟨jb, q1, q2⟩
      have h1f := h1.fen hJb (by unfold FT; decide)
      have B1 := (unhide H0).2.only hO1 (fun q => q.1 (.inr rfl))
      have c1 : x1.cell? ⟨xb, 1, none⟩ = some (.pointer (some ⟨br, 0, none⟩)) := h1.blk.cell 1
      have HO2 := hide (h1f.openR (unhide HP).1 (unhide HP).2.1 (unhide HP).2.2.1 (unhide HP).2.2.2.1 (unhide HP).2.2.2.2 (unhide HR) (unhide HOR))
      have HB := hide B1
      have HJ := hide hJb
      clear h1 h1f B1 hO1 hJ HO1 c0 hJb
      go_wp2_with fail
      refine (unhide HO2).mono ?_
      rintro e x2 ⟨⟨sp, rfl, hJ⟩, h2, hO2⟩
      have ee : (er == er) = true := by simp
      have gg : (ag == ag) = true := by simp
      obtain ⟨sb, rfl, hRj⟩ : ∃ jb, sp = some ⟨jb, 0, none⟩ ∧ Rj x2 jb br n false := by
        rcases hJ with ⟨q, _⟩ | ⟨_, jb, q1, _, q2⟩
        · cases q
        · exact ⟨jb, q1, q2⟩
      have h2f := h2.fen hRj (by unfold FT; decide)
      have hJ2 : Jb x2 jb b ((n + 1) % 4294967296) false := Blk.only (unhide HJ) hO2 (fun q => q.1 (.inr rfl))
      have B2 := (unhide HB).only hO2 (fun q => q.1 (.inl (.inr rfl)))
      have o2 : x2.cell? ⟨go, 2, none⟩ = some (.int .i64 0) := B2.cell 2
      have d2 : x2.cell? ⟨xb, 2, none⟩ = some (.pointer p1) := h2.blk.cell 2
      have d3 : x2.cell? ⟨xb, 3, none⟩ = some (.pointer p2) := h2.blk.cell 3
      have f2 : x2.frozen? ⟨xb, 2, none⟩ = false := h2.blk.frozen 2
      have HPK := hide (pick5_c 0 2 (by decide) ⟨by decide, by decide⟩ 2 rfl x2)
      have hp0 : pickP 0 2 = 0 := by decide
      rw [hp0] at HPK
      have nj : jb ≠ xb := h2f.ne (.inl (.inr rfl))
      have ns : sb ≠ xb := h2f.ne (.inr rfl)
      obtain ⟨x3, hx3⟩ : ∃ z, x2.setCell ⟨xb, 2, none⟩ (.pointer (some ⟨jb, 0, none⟩)) = z := ⟨_, rfl⟩
      obtain ⟨x4, hx4⟩ : ∃ z, x3.setCell ⟨xb, 3, none⟩ (.pointer (some ⟨sb, 0, none⟩)) = z := ⟨_, rfl⟩
      have h3 := h2f.set 2 (.pointer (some ⟨jb, 0, none⟩))
      rw [hx3] at h3
      have d3x : x3.cell? ⟨xb, 3, none⟩ = some (.pointer p2) := h3.blk.cell 3
      have f3x : x3.frozen? ⟨xb, 3, none⟩ = false := h3.blk.frozen 3
      have h4 := h3.set 3 (.pointer (some ⟨sb, 0, none⟩))
      rw [hx4] at h4
      have hO3 : Only (fun k => k = xb) x2 x4 := by
        rw [← hx4, ← hx3]
        exact ((Only.refl (fun k => k = xb) x2).setCell ⟨xb, 2, none⟩ _ (fun _ => rfl)).setCell ⟨xb, 3, none⟩ _ (fun _ => rfl)
      have hJ4 : Jb x4 jb b ((n + 1) % 4294967296) false := Blk.only hJ2 hO3 (fun q => nj q)
      have hR4 : Rj x4 sb br n false := Blk.only hRj hO3 (fun q => ns q)
      have h4f := h4.more (Y := fun k => (X k ∨ k = jb) ∨ k = sb) (Below.refl _ _) (fun k q => .inl (by rcases q with (q | q) | q; exact .inl (.inl (.inl q)); exact .inl (.inr q); exact .inr q))
      have HF := hide (show StO w0 xb b br s' p1 p2 p3 p4 X n true x4 from .inr ⟨rfl, jb, sb, h4f, hJ4, hR4⟩)
      clear h2 h2f hO2 hJ HO2 c1 HB HJ hRj hJ2 B2 nj ns h3 h4 hO3 hJ4 hR4 h4f hp0
      go_wp2_with fail
      refine (unhide HPK).mono ?_
      rintro e y ⟨rfl, hy⟩
      subst y
      clear HPK
      go_wp2
      go_ret
      exact ⟨rfl, unhide HF⟩
end Go.Proofs.YthpbfegfdklblaaGreatDoor

namespace Go.Proofs.YthpbfegfdklblaaGreatDoor
open Go.RowKit
/-- At p lie the acts l, each of two numbers. -/
def Acts (w : World) (p : Option Addr) (l : List (Int × Int)) : Prop := ∀ j, j < l.length → ∃ g o, p = some ⟨g, o, none⟩ ∧ g < w.heap.size ∧ w.cell? ⟨g, o + j * 2, none⟩ = some (.int .i64 (l.getD j (0, 0)).1) ∧ w.cell? ⟨g, o + j * 2 + 1, none⟩ = some (.int .i64 (l.getD j (0, 0)).2)
theorem Acts.below {w w' : World} {p : Option Addr} {l : List (Int × Int)} (h : Acts w p l) (hb : Below w.heap.size w w') : Acts w' p l := fun j hj => by
  obtain ⟨g, o, h1, h2, h3, h4⟩ := h j hj
  exact ⟨g, o, h1, Nat.lt_of_lt_of_le h2 hb.size, (hb.cell (p := ⟨g, o + j * 2, none⟩) h2).trans h3, (hb.cell (p := ⟨g, o + j * 2 + 1, none⟩) h2).trans h4⟩
/-- An act as it is told, by numbers. -/
def telN (p : Nat × Nat) : Int × Int := if p.1 = 1 then (2, 0) else (1, (p.2 : Int))
theorem tel1_eq (p : Nat × Nat) : tel1 p = [.int .i64 (telN p).1, .int .i64 (telN p).2] := by unfold tel1 telN; split <;> rfl
theorem tels_nat : ∀ (l : List (Nat × Nat)) (j : Nat), j < l.length → (tels l)[j * 2]? = some (.int .i64 ((l.map telN).getD j (0, 0)).1) ∧ (tels l)[j * 2 + 1]? = some (.int .i64 ((l.map telN).getD j (0, 0)).2)
  | p :: r, 0, _ => by rw [tels, tel1_eq]; exact ⟨rfl, rfl⟩
  | p :: r, j + 1, h => by
    have ih := tels_nat r j (by simpa using h)
    rw [tels, tel1_eq, show (j + 1) * 2 = j * 2 + 1 + 1 by omega]
    simpa using ih
theorem Acts.own {w : World} {base : Nat} {e : TypeId} {v : Value} {l : List (Nat × Nat)} (h : w.ownsRow base e 2 v l.length (tels l)) : ∃ p c, v = .slice p l.length c ∧ Acts w p (l.map telN) := by
  rcases h.2 with ⟨h1, h2⟩ | ⟨g, cap, cur, h1, _, hg, _⟩
  · refine ⟨none, 0, by rw [h1, h2], fun j hj => ?_⟩
    rw [List.length_map] at hj
    omega
  · refine ⟨some ⟨g, 0, none⟩, cap, h1, fun j hj => ⟨g, 0, rfl, Blk.lt hg, ?_, ?_⟩⟩
    · rw [List.length_map] at hj
      rw [Nat.zero_add, (own_at2 h (by rw [h1]; rfl) (j * 2) (by omega)).1]
      exact (tels_nat l j hj).1
    · rw [List.length_map] at hj
      rw [Nat.zero_add, (own_at2 h (by rw [h1]; rfl) (j * 2 + 1) (by omega)).1]
      exact (tels_nat l j hj).2
end Go.Proofs.YthpbfegfdklblaaGreatDoor
