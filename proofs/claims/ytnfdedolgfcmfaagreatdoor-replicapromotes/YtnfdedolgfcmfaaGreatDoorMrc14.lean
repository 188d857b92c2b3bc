import Derived.Test.YtnfdedolgfcmfaaGreatDoorMrc13
import Derived.Deep.AppendLies
namespace Go.Proofs.YtnfdedolgfcmfaaGreatDoor
open Go.RowKit
set_option maxRecDepth 100000
/-- a replica in memory: the number of the image that it has, and its sectors -/
def Rp (w : World) (b N : Nat) (l : List ByteArray) : Prop := ∃ (q : Option Addr) (kn : ByteArray), Blk w b #[.int .i64 (N : Int), .slice q l.length l.length, .string kn] 92 ∧ (N = 0 → q = none ∧ l = [] ∧ kn = ⟨#[]⟩) ∧ (N ≠ 0 → ∃ g, q = some ⟨g, 0, none⟩ ∧ Blk w g (l.map Value.string).toArray 9 ∧ (kn = ⟨#[]⟩ ∨ kn = rt l))
theorem Rp.lt {w : World} {b N : Nat} {l : List ByteArray} (h : Rp w b N l) : b < w.heap.size := by
  obtain ⟨_, _, h1, _, _⟩ := h
  exact h1.lt
theorem Rp.below {w w' : World} {b N : Nat} {l : List ByteArray} (h : Rp w b N l) (hb : Below w.heap.size w w') : Rp w' b N l := by
  obtain ⟨q, kn, h1, h2, h3⟩ := h
  refine ⟨q, kn, h1.below hb h1.lt, h2, fun hn => ?_⟩
  obtain ⟨g, e, h4, h5⟩ := h3 hn
  exact ⟨g, e, h4.below hb h4.lt, h5⟩
theorem Rp.drew {w : World} {b N : Nat} {l : List ByteArray} (h : Rp w b N l) : Rp w.drew b N l := h.below ((Below.refl _ w).drew)
theorem ynewReplica_any (w : World) : Calls Tryz.prog 12 #[] w fun e w' => e = .returned (.pointer (some ⟨w.heap.size, 0, none⟩)) ∧ Rp w' w.heap.size 0 [] ∧ Below w.heap.size w w' := by
  have hB := Blk.new w 92 #[.int .i64 0, .slice none 0 0, .string ⟨#[]⟩]
  have HB := hide (show Rp (w.alloc (Obj.cells #[.int .i64 0, .slice none 0 0, .string ⟨#[]⟩] 92)) w.heap.size 0 [] ∧ Below w.heap.size w (w.alloc (Obj.cells #[.int .i64 0, .slice none 0 0, .string ⟨#[]⟩] 92)) from ⟨⟨none, ⟨#[]⟩, hB, fun _ => ⟨rfl, rfl, rfl⟩, fun q => absurd rfl q⟩, (Below.refl _ _).alloc (Nat.le_refl _) _⟩)
  clear hB
  go_enter Tryz.func12, Tryz.ntmps12
  go_wp2
  go_ret
  exact ⟨rfl, (unhide HB).1, (unhide HB).2⟩
theorem ynumber_any (w : World) (b N : Nat) (l : List ByteArray) (h : Rp w b N l) : Calls Tryz.prog 17 #[.pointer (some ⟨b, 0, none⟩)] w fun e w' => e = .returned (.tuple #[.int .i64 (N : Int), .int .i64 (if N = 0 then 224 else 0)]) ∧ w' = w := by
  obtain ⟨q, kn, h1, h2, h3⟩ := h
  have c0 : w.cell? ⟨b, 0, none⟩ = some (.int .i64 (N : Int)) := by rw [h1.cell 0]; rfl
  clear h1 h2 h3
  by_cases hN : N = 0
  · subst hN
    rw [if_pos rfl]
    have e1 : (((0 : Nat) : Int) == 0) = true := by decide
    go_enter Tryz.func17, Tryz.ntmps17
    go_wp2
    go_ret2
    exact ⟨rfl, rfl⟩
  · rw [if_neg hN]
    have e1 : ((N : Int) == 0) = false := by simp; omega
    go_enter Tryz.func17, Tryz.ntmps17
    go_wp2
    go_ret2
    exact ⟨rfl, rfl⟩
set_option maxHeartbeats 2000000 in
theorem yrootR_any (w : World) (b N : Nat) (l : List ByteArray) (h : Rp w b N l) (hN : N ≠ 0) (hK : KTab w) (hT : Sht l) (hm : l.length ≤ 65536) : Calls Tryz.prog 44 #[.pointer (some ⟨b, 1, none⟩)] w fun e w' => e = .returned (.string (rt l)) ∧ Rp w' b N l ∧ Only (fun k => k = b) w w' := by
  obtain ⟨q, kn, h1, hz, hnz⟩ := h
  obtain ⟨g, rfl, h2, h3⟩ := hnz hN
  have hgb : g ≠ b := h2.tyne h1 (by decide)
  have hr : (rt l).size = 32 := rt_size l
  obtain ⟨R, hR⟩ : ∃ z, rt l = z := ⟨_, rfl⟩
  have c1 : w.cell? ⟨b, 2, none⟩ = some (.string kn) := by rw [h1.cell 2]; rfl
  have c0 : w.cell? ⟨b, 1, none⟩ = some (.slice (some ⟨g, 0, none⟩) l.length l.length) := by rw [h1.cell 1]; rfl
  have HC := hide (root_any l l.length rfl w w.heap.size l.length (some ⟨g, 0, none⟩) h2.sb (Nat.le_refl _) hK hT hm (Nat.le_refl _) (by omega))
  rw [hR] at hr h3 HC ⊢
  by_cases hk : kn = ⟨#[]⟩
  · subst hk
    have HX := hide (show ∀ y, Below w.heap.size w y → Rp (y.setCell ⟨b, 2, none⟩ (.string R)) b N l ∧ Only (fun k => k = b) w (y.setCell ⟨b, 2, none⟩ (.string R)) ∧ (y.setCell ⟨b, 2, none⟩ (.string R)).cell? ⟨b, 2, none⟩ = some (.string R) from fun y hy => by
      have q1 := (h1.below hy h1.lt).set 2 (.string R)
      have q2 := (h2.below hy h2.lt).other ⟨b, 2, none⟩ (.string R) (fun q => hgb q.symm)
      refine ⟨⟨_, R, q1, fun q => absurd q hN, fun _ => ⟨g, rfl, q2, .inr hR.symm⟩⟩, ?_, ?_⟩
      · exact Only.setCell (Only.of_below hy) _ _ (fun _ => rfl)
      · rw [q1.cell 2]; rfl)
    have HF := hide (show ∀ y, Below w.heap.size w y → y.frozen? ⟨b, 2, none⟩ = false ∧ y.cell? ⟨b, 2, none⟩ = some (.string ⟨#[]⟩) from fun y hy => ⟨(h1.below hy h1.lt).frozen 2, by rw [(h1.below hy h1.lt).cell 2]; rfl⟩)
    clear h1 h2 h3 hr hR hK hT hm hgb hz hnz hN
    go_enter Tryz.func44, Tryz.ntmps44
    go_wp2_with fail
    refine (unhide HC).mono ?_
    rintro e y ⟨rfl, hb⟩
    obtain ⟨hf, hc⟩ := unhide HF y hb
    have hX := unhide HX y hb
    obtain ⟨x, hx⟩ : ∃ z, y.setCell ⟨b, 2, none⟩ (.string R) = z := ⟨_, rfl⟩
    rw [hx] at hX
    have c9 := hX.2.2
    have HY := hide hX
    clear HC HF HX hX c0 c1 hb
    go_wp2
    go_ret
    exact ⟨rfl, (unhide HY).1, (unhide HY).2.1⟩
  · have hk2 : kn = R := h3.resolve_left hk
    subst hk2
    have hne : (kn.toList == []) = false := by
      have q := str_ne (s := kn) (t := ⟨#[]⟩) hk
      rwa [show (⟨#[]⟩ : ByteArray).toList = [] from by first | rfl | simp | decide] at q
    have HS := hide (show Rp w b N l from ⟨_, kn, h1, fun q => absurd q hN, fun _ => ⟨g, rfl, h2, .inr hR.symm⟩⟩)
    clear h1 h2 h3 hr hR hK hT hm hgb HC c0 hz hnz hN
    go_enter Tryz.func44, Tryz.ntmps44
    go_wp2
    go_ret
    exact ⟨rfl, unhide HS, Only.refl _ _⟩
set_option maxHeartbeats 1000000 in
theorem yisAhead_any (w : World) (b N : Nat) (l : List ByteArray) (h : Rp w b N l) (k z f t : Int) (r : ByteArray) (n c : Nat) (p : Option Addr) : Calls Tryz.prog 42 #[.pointer (some ⟨b, 0, none⟩), .agg #[.int .i64 k, .int .i64 z, .int .i64 f, .int .i64 t, .string r, .slice p n c]] w fun e w' => e = .returned (.bool (decide ((N : Int) = f ∧ (l.length : Int) = z))) ∧ Below w.heap.size w w' := by
  have hB0 := Blk.new w 97 #[.int .i64 k, .int .i64 z, .int .i64 f, .int .i64 t, .string r, .slice p n c]
  have hb0 : Below w.heap.size w (w.alloc (Obj.cells #[.int .i64 k, .int .i64 z, .int .i64 f, .int .i64 t, .string r, .slice p n c] 97)) := (Below.refl _ _).alloc (Nat.le_refl _) _
  obtain ⟨y0, hy0⟩ : ∃ q, w.alloc (Obj.cells #[.int .i64 k, .int .i64 z, .int .i64 f, .int .i64 t, .string r, .slice p n c] 97) = q := ⟨_, rfl⟩
  obtain ⟨hh, hhe⟩ : ∃ q, w.heap.size = q := ⟨_, rfl⟩
  rw [hy0] at hB0 hb0
  obtain ⟨q, kn, h1, _, _⟩ := h.below hb0
  rw [hhe] at hB0
  have HY := hide (And.intro hy0 hhe)
  have HB0 := hide hb0
  obtain ⟨h, hhh⟩ : ∃ q, hh = q := ⟨_, rfl⟩
  rw [hhh] at hB0
  have c0 : y0.cell? ⟨b, 0, none⟩ = some (.int .i64 (N : Int)) := by rw [h1.cell 0]; rfl
  have c1 : y0.cell? ⟨b, 1, none⟩ = some (.slice q l.length l.length) := by rw [h1.cell 1]; rfl
  have d1 : y0.cell? ⟨h, 1, none⟩ = some (.int .i64 z) := by rw [hB0.cell 1]; rfl
  have d2 : y0.cell? ⟨h, 2, none⟩ = some (.int .i64 f) := by rw [hB0.cell 2]; rfl
  obtain ⟨Z, hZ⟩ : ∃ q, decide ((N : Int) = f ∧ (l.length : Int) = z) = q := ⟨_, rfl⟩
  rw [hZ]
  have HZ := hide hZ
  clear hB0 hb0 hy0 hhe h1 hZ
  go_enter Tryz.func42, Tryz.ntmps42
  go_wp2_with fail
  rw [(unhide HY).1, (unhide HY).2, hhh]
  clear HY hhh hh
  by_cases e0 : (N : Int) = f
  case pos =>
    have e1 : ((N : Int) == f) = true := by simp [e0]
    have HE := hide (show Z = ((l.length : Int) == z) from by
      rw [← unhide HZ]
      by_cases e : (l.length : Int) = z
      · rw [decide_eq_true ⟨e0, e⟩]; simp [e]
      · rw [decide_eq_false (fun q => e q.2)]; simp [e])
    clear HZ e0
    refine wp_region_held_drew (S := fun W => W.cell? ⟨b, 0, none⟩ = some (.int .i64 (N : Int)) ∧ W.cell? ⟨b, 1, none⟩ = some (.slice q l.length l.length) ∧ W.cell? ⟨h, 1, none⟩ = some (.int .i64 z) ∧ W.cell? ⟨h, 2, none⟩ = some (.int .i64 f)) (by kernel_rfl) ⟨c0, c1, d1, d2⟩ ?_
    intro hS
    refine wpAnyH_takeD 0 (some 5) (.pointer (some ⟨b, 0, none⟩)) rfl rfl (by kernel_rfl) (by kernel_rfl) (by kernel_rfl) (fun _ _ _ h => h) (Or.inl ⟨by rfl, fun w hSw => by obtain ⟨q0, q1, q2, q3⟩ := hSw; go_simp; try (intro hbad; omega)⟩) hS ?_
    simp only [Act.put, List.setIfInBounds_toArray, List.set_cons_zero, List.set_cons_succ]
    refine wpAnyH_takeD 1 (some 6) (.pointer (some ⟨b, 0, none⟩)) rfl rfl (by kernel_rfl) (by kernel_rfl) (by kernel_rfl) (fun _ _ _ h => h) (Or.inl ⟨by rfl, fun w hSw => by obtain ⟨q0, q1, q2, q3⟩ := hSw; go_simp; try (intro hbad; omega)⟩) hS ?_
    simp only [Act.put, List.setIfInBounds_toArray, List.set_cons_zero, List.set_cons_succ]
    refine wpAnyH_takeD 2 (some 7) (.pointer (some ⟨b, 0, none⟩)) rfl rfl (by kernel_rfl) (by kernel_rfl) (by kernel_rfl) (fun _ _ _ h => h) (Or.inl ⟨by rfl, fun w hSw => by obtain ⟨q0, q1, q2, q3⟩ := hSw; go_simp; try (intro hbad; omega)⟩) hS ?_
    simp only [Act.put, List.setIfInBounds_toArray, List.set_cons_zero, List.set_cons_succ]
    refine wpAnyH_takeD 3 (some 8) (.int .i64 (N : Int)) rfl rfl (by kernel_rfl) (by kernel_rfl) (by kernel_rfl) (fun _ _ _ h => h) (Or.inl ⟨by rfl, fun w hSw => by obtain ⟨q0, q1, q2, q3⟩ := hSw; go_simp; try (intro hbad; omega)⟩) hS ?_
    simp only [Act.put, List.setIfInBounds_toArray, List.set_cons_zero, List.set_cons_succ]
    refine wpAnyH_takeD 4 (some 9) (.pointer (some ⟨h, 2, none⟩)) rfl rfl (by kernel_rfl) (by kernel_rfl) (by kernel_rfl) (fun _ _ _ h => h) (Or.inl ⟨by rfl, fun w hSw => by obtain ⟨q0, q1, q2, q3⟩ := hSw; go_simp; try (intro hbad; omega)⟩) hS ?_
    simp only [Act.put, List.setIfInBounds_toArray, List.set_cons_zero, List.set_cons_succ]
    refine wpAnyH_takeD 5 (some 10) (.int .i64 f) rfl rfl (by kernel_rfl) (by kernel_rfl) (by kernel_rfl) (fun _ _ _ h => h) (Or.inl ⟨by rfl, fun w hSw => by obtain ⟨q0, q1, q2, q3⟩ := hSw; go_simp; try (intro hbad; omega)⟩) hS ?_
    simp only [Act.put, List.setIfInBounds_toArray, List.set_cons_zero, List.set_cons_succ]
    refine wpAnyH_takeD 6 (some 11) (.bool true) rfl rfl (by kernel_rfl) (by kernel_rfl) (by kernel_rfl) (fun _ _ _ h => h) (Or.inl ⟨by rfl, fun w hSw => by obtain ⟨q0, q1, q2, q3⟩ := hSw; go_simp; try (intro hbad; omega)⟩) hS ?_
    simp only [Act.put, List.setIfInBounds_toArray, List.set_cons_zero, List.set_cons_succ]
    refine wpAnyH_takeD 7 (some 12) (.bool true) rfl rfl (by kernel_rfl) (by kernel_rfl) (by kernel_rfl) (fun _ _ _ h => h) (Or.inl ⟨by rfl, fun w hSw => by obtain ⟨q0, q1, q2, q3⟩ := hSw; go_simp; try (intro hbad; omega)⟩) hS ?_
    simp only [Act.put, List.setIfInBounds_toArray, List.set_cons_zero, List.set_cons_succ]
    refine wpAnyH_takeD 8 (some 13) (.pointer (some ⟨b, 0, none⟩)) rfl rfl (by kernel_rfl) (by kernel_rfl) (by kernel_rfl) (fun _ _ _ h => h) (Or.inl ⟨by rfl, fun w hSw => by obtain ⟨q0, q1, q2, q3⟩ := hSw; go_simp; try (intro hbad; omega)⟩) hS ?_
    simp only [Act.put, List.setIfInBounds_toArray, List.set_cons_zero, List.set_cons_succ]
    refine wpAnyH_takeD 9 (some 14) (.pointer (some ⟨b, 0, none⟩)) rfl rfl (by kernel_rfl) (by kernel_rfl) (by kernel_rfl) (fun _ _ _ h => h) (Or.inl ⟨by rfl, fun w hSw => by obtain ⟨q0, q1, q2, q3⟩ := hSw; go_simp; try (intro hbad; omega)⟩) hS ?_
    simp only [Act.put, List.setIfInBounds_toArray, List.set_cons_zero, List.set_cons_succ]
    refine wpAnyH_takeD 10 (some 15) (.pointer (some ⟨b, 1, none⟩)) rfl rfl (by kernel_rfl) (by kernel_rfl) (by kernel_rfl) (fun _ _ _ h => h) (Or.inl ⟨by rfl, fun w hSw => by obtain ⟨q0, q1, q2, q3⟩ := hSw; go_simp; try (intro hbad; omega)⟩) hS ?_
    simp only [Act.put, List.setIfInBounds_toArray, List.set_cons_zero, List.set_cons_succ]
    refine wpAnyH_takeD 11 (some 16) (.pointer (some ⟨b, 1, none⟩)) rfl rfl (by kernel_rfl) (by kernel_rfl) (by kernel_rfl) (fun _ _ _ h => h) (Or.inl ⟨by rfl, fun w hSw => by obtain ⟨q0, q1, q2, q3⟩ := hSw; go_simp; try (intro hbad; omega)⟩) hS ?_
    simp only [Act.put, List.setIfInBounds_toArray, List.set_cons_zero, List.set_cons_succ]
    refine wpAnyH_takeD 12 (some 17) (.slice q l.length l.length) rfl rfl (by kernel_rfl) (by kernel_rfl) (by kernel_rfl) (fun _ _ _ h => h) (Or.inl ⟨by rfl, fun w hSw => by obtain ⟨q0, q1, q2, q3⟩ := hSw; go_simp; try (intro hbad; omega)⟩) hS ?_
    simp only [Act.put, List.setIfInBounds_toArray, List.set_cons_zero, List.set_cons_succ]
    refine wpAnyH_takeD 13 (some 18) (.int .i64 (l.length : Int)) rfl rfl (by kernel_rfl) (by kernel_rfl) (by kernel_rfl) (fun _ _ _ h => h) (Or.inl ⟨by rfl, fun w hSw => by obtain ⟨q0, q1, q2, q3⟩ := hSw; go_simp; try (intro hbad; omega)⟩) hS ?_
    simp only [Act.put, List.setIfInBounds_toArray, List.set_cons_zero, List.set_cons_succ]
    refine wpAnyH_takeD 14 (some 19) (.pointer (some ⟨h, 1, none⟩)) rfl rfl (by kernel_rfl) (by kernel_rfl) (by kernel_rfl) (fun _ _ _ h => h) (Or.inl ⟨by rfl, fun w hSw => by obtain ⟨q0, q1, q2, q3⟩ := hSw; go_simp; try (intro hbad; omega)⟩) hS ?_
    simp only [Act.put, List.setIfInBounds_toArray, List.set_cons_zero, List.set_cons_succ]
    refine wpAnyH_takeD 15 (some 20) (.int .i64 z) rfl rfl (by kernel_rfl) (by kernel_rfl) (by kernel_rfl) (fun _ _ _ h => h) (Or.inl ⟨by rfl, fun w hSw => by obtain ⟨q0, q1, q2, q3⟩ := hSw; go_simp; try (intro hbad; omega)⟩) hS ?_
    simp only [Act.put, List.setIfInBounds_toArray, List.set_cons_zero, List.set_cons_succ]
    refine wpAnyH_takeD 16 (some 21) (.bool ((l.length : Int) == z)) rfl rfl (by kernel_rfl) (by kernel_rfl) (by kernel_rfl) (fun _ _ _ h => h) (Or.inl ⟨by rfl, fun w hSw => by obtain ⟨q0, q1, q2, q3⟩ := hSw; go_simp; try (intro hbad; omega)⟩) hS ?_
    simp only [Act.put, List.setIfInBounds_toArray, List.set_cons_zero, List.set_cons_succ]
    refine wpAnyH_takeD 17 (some 22) (.bool ((l.length : Int) == z)) rfl rfl (by kernel_rfl) (by kernel_rfl) (by kernel_rfl) (fun _ _ _ h => h) (Or.inl ⟨by rfl, fun w hSw => by obtain ⟨q0, q1, q2, q3⟩ := hSw; go_simp; try (intro hbad; omega)⟩) hS ?_
    simp only [Act.put, List.setIfInBounds_toArray, List.set_cons_zero, List.set_cons_succ]
    refine wpAnyH_takeD 18 (some 4) (.bool ((l.length : Int) == z)) rfl rfl (by kernel_rfl) (by kernel_rfl) (by kernel_rfl) (fun _ _ _ h => h) (Or.inl ⟨by rfl, fun w hSw => by obtain ⟨q0, q1, q2, q3⟩ := hSw; go_simp; try (intro hbad; omega)⟩) hS ?_
    simp only [Act.put, List.setIfInBounds_toArray, List.set_cons_zero, List.set_cons_succ]
    refine wpAnyH_done (by kernel_rfl) ?_ _
    go_wp2
    go_ret
    exact ⟨congrArg (fun b => Ending.returned (.bool b)) (unhide HE).symm, (unhide HB0).drew⟩
  have e1 : ((N : Int) == f) = false := by simp [e0]
  have HE := hide (show Z = false from by rw [← unhide HZ]; exact decide_eq_false (fun q => e0 q.1))
  clear HZ e0
  refine wp_region_held_drew (S := fun W => W.cell? ⟨b, 0, none⟩ = some (.int .i64 (N : Int)) ∧ W.cell? ⟨b, 1, none⟩ = some (.slice q l.length l.length) ∧ W.cell? ⟨h, 1, none⟩ = some (.int .i64 z) ∧ W.cell? ⟨h, 2, none⟩ = some (.int .i64 f)) (by kernel_rfl) ⟨c0, c1, d1, d2⟩ ?_
  intro hS
  refine wpAnyH_takeD 0 (some 5) (.pointer (some ⟨b, 0, none⟩)) rfl rfl (by kernel_rfl) (by kernel_rfl) (by kernel_rfl) (fun _ _ _ h => h) (Or.inl ⟨by rfl, fun w hSw => by obtain ⟨q0, q1, q2, q3⟩ := hSw; go_simp; try (intro hbad; omega)⟩) hS ?_
  simp only [Act.put, List.setIfInBounds_toArray, List.set_cons_zero, List.set_cons_succ]
  refine wpAnyH_takeD 1 (some 6) (.pointer (some ⟨b, 0, none⟩)) rfl rfl (by kernel_rfl) (by kernel_rfl) (by kernel_rfl) (fun _ _ _ h => h) (Or.inl ⟨by rfl, fun w hSw => by obtain ⟨q0, q1, q2, q3⟩ := hSw; go_simp; try (intro hbad; omega)⟩) hS ?_
  simp only [Act.put, List.setIfInBounds_toArray, List.set_cons_zero, List.set_cons_succ]
  refine wpAnyH_takeD 2 (some 7) (.pointer (some ⟨b, 0, none⟩)) rfl rfl (by kernel_rfl) (by kernel_rfl) (by kernel_rfl) (fun _ _ _ h => h) (Or.inl ⟨by rfl, fun w hSw => by obtain ⟨q0, q1, q2, q3⟩ := hSw; go_simp; try (intro hbad; omega)⟩) hS ?_
  simp only [Act.put, List.setIfInBounds_toArray, List.set_cons_zero, List.set_cons_succ]
  refine wpAnyH_takeD 3 (some 8) (.int .i64 (N : Int)) rfl rfl (by kernel_rfl) (by kernel_rfl) (by kernel_rfl) (fun _ _ _ h => h) (Or.inl ⟨by rfl, fun w hSw => by obtain ⟨q0, q1, q2, q3⟩ := hSw; go_simp; try (intro hbad; omega)⟩) hS ?_
  simp only [Act.put, List.setIfInBounds_toArray, List.set_cons_zero, List.set_cons_succ]
  refine wpAnyH_takeD 4 (some 9) (.pointer (some ⟨h, 2, none⟩)) rfl rfl (by kernel_rfl) (by kernel_rfl) (by kernel_rfl) (fun _ _ _ h => h) (Or.inl ⟨by rfl, fun w hSw => by obtain ⟨q0, q1, q2, q3⟩ := hSw; go_simp; try (intro hbad; omega)⟩) hS ?_
  simp only [Act.put, List.setIfInBounds_toArray, List.set_cons_zero, List.set_cons_succ]
  refine wpAnyH_takeD 5 (some 10) (.int .i64 f) rfl rfl (by kernel_rfl) (by kernel_rfl) (by kernel_rfl) (fun _ _ _ h => h) (Or.inl ⟨by rfl, fun w hSw => by obtain ⟨q0, q1, q2, q3⟩ := hSw; go_simp; try (intro hbad; omega)⟩) hS ?_
  simp only [Act.put, List.setIfInBounds_toArray, List.set_cons_zero, List.set_cons_succ]
  refine wpAnyH_takeD 6 (some 11) (.bool false) rfl rfl (by kernel_rfl) (by kernel_rfl) (by kernel_rfl) (fun _ _ _ h => h) (Or.inl ⟨by rfl, fun w hSw => by obtain ⟨q0, q1, q2, q3⟩ := hSw; go_simp; try (intro hbad; omega)⟩) hS ?_
  simp only [Act.put, List.setIfInBounds_toArray, List.set_cons_zero, List.set_cons_succ]
  refine wpAnyH_takeD 7 (some 12) (.bool false) rfl rfl (by kernel_rfl) (by kernel_rfl) (by kernel_rfl) (fun _ _ _ h => h) (Or.inl ⟨by rfl, fun w hSw => by obtain ⟨q0, q1, q2, q3⟩ := hSw; go_simp; try (intro hbad; omega)⟩) hS ?_
  simp only [Act.put, List.setIfInBounds_toArray, List.set_cons_zero, List.set_cons_succ]
  refine wpAnyH_takeD 8 (some 13) undef rfl rfl (by kernel_rfl) (by kernel_rfl) (by kernel_rfl) (fun _ _ _ h => h) (Or.inr ⟨by rfl, rfl⟩) hS ?_
  simp only [Act.put, List.setIfInBounds_toArray, List.set_cons_zero, List.set_cons_succ]
  refine wpAnyH_takeD 9 (some 14) undef rfl rfl (by kernel_rfl) (by kernel_rfl) (by kernel_rfl) (fun _ _ _ h => h) (Or.inr ⟨by rfl, rfl⟩) hS ?_
  simp only [Act.put, List.setIfInBounds_toArray, List.set_cons_zero, List.set_cons_succ]
  refine wpAnyH_takeD 10 (some 15) undef rfl rfl (by kernel_rfl) (by kernel_rfl) (by kernel_rfl) (fun _ _ _ h => h) (Or.inr ⟨by rfl, rfl⟩) hS ?_
  simp only [Act.put, List.setIfInBounds_toArray, List.set_cons_zero, List.set_cons_succ]
  refine wpAnyH_takeD 11 (some 16) undef rfl rfl (by kernel_rfl) (by kernel_rfl) (by kernel_rfl) (fun _ _ _ h => h) (Or.inr ⟨by rfl, rfl⟩) hS ?_
  simp only [Act.put, List.setIfInBounds_toArray, List.set_cons_zero, List.set_cons_succ]
  refine wpAnyH_takeD 12 (some 17) undef rfl rfl (by kernel_rfl) (by kernel_rfl) (by kernel_rfl) (fun _ _ _ h => h) (Or.inr ⟨by rfl, rfl⟩) hS ?_
  simp only [Act.put, List.setIfInBounds_toArray, List.set_cons_zero, List.set_cons_succ]
  refine wpAnyH_takeD 13 (some 18) undef rfl rfl (by kernel_rfl) (by kernel_rfl) (by kernel_rfl) (fun _ _ _ h => h) (Or.inr ⟨by rfl, rfl⟩) hS ?_
  simp only [Act.put, List.setIfInBounds_toArray, List.set_cons_zero, List.set_cons_succ]
  refine wpAnyH_takeD 14 (some 19) undef rfl rfl (by kernel_rfl) (by kernel_rfl) (by kernel_rfl) (fun _ _ _ h => h) (Or.inr ⟨by rfl, rfl⟩) hS ?_
  simp only [Act.put, List.setIfInBounds_toArray, List.set_cons_zero, List.set_cons_succ]
  refine wpAnyH_takeD 15 (some 20) undef rfl rfl (by kernel_rfl) (by kernel_rfl) (by kernel_rfl) (fun _ _ _ h => h) (Or.inr ⟨by rfl, rfl⟩) hS ?_
  simp only [Act.put, List.setIfInBounds_toArray, List.set_cons_zero, List.set_cons_succ]
  refine wpAnyH_takeD 16 (some 21) undef rfl rfl (by kernel_rfl) (by kernel_rfl) (by kernel_rfl) (fun _ _ _ h => h) (Or.inr ⟨by rfl, rfl⟩) hS ?_
  simp only [Act.put, List.setIfInBounds_toArray, List.set_cons_zero, List.set_cons_succ]
  refine wpAnyH_takeD 17 (some 22) (.bool false) rfl rfl (by kernel_rfl) (by kernel_rfl) (by kernel_rfl) (fun _ _ _ h => h) (Or.inl ⟨by rfl, fun w hSw => by obtain ⟨q0, q1, q2, q3⟩ := hSw; go_simp; try (intro hbad; omega)⟩) hS ?_
  simp only [Act.put, List.setIfInBounds_toArray, List.set_cons_zero, List.set_cons_succ]
  refine wpAnyH_takeD 18 (some 4) (.bool false) rfl rfl (by kernel_rfl) (by kernel_rfl) (by kernel_rfl) (fun _ _ _ h => h) (Or.inl ⟨by rfl, fun w hSw => by obtain ⟨q0, q1, q2, q3⟩ := hSw; go_simp; try (intro hbad; omega)⟩) hS ?_
  simp only [Act.put, List.setIfInBounds_toArray, List.set_cons_zero, List.set_cons_succ]
  refine wpAnyH_done (by kernel_rfl) ?_ _
  go_wp2
  go_ret
  exact ⟨congrArg (fun b => Ending.returned (.bool b)) (unhide HE).symm, (unhide HB0).drew⟩
end Go.Proofs.YtnfdedolgfcmfaaGreatDoor

namespace Go.Proofs.YtnfdedolgfcmfaaGreatDoor
open Go.RowKit
set_option maxRecDepth 100000
theorem results_cell1 {fn : Func} {p : Tmp} {ty : TypeId} (h : fn.results = #[.cell p ty]) (tmps : Array Value) (P : Program) (w : World) (ad : Addr) (ha : tmps.getD p undef = .pointer (some ad)) (v : Value) (hl : (loadVar ty ad).run P w = .ok v w) :
    (results fn tmps).run P w = .ok v w := by
  have ha' : tmps[p]?.getD undef = .pointer (some ad) := by simpa using ha
  simp only [results, h]
  simp [ha', asAddr, hl]
set_option maxHeartbeats 2000000 in
theorem yword_any (w : World) (b N : Nat) (l : List ByteArray) (hR : Rp w b N l) (hK : KTab w) (hT : Sht l) (hm : l.length ≤ 65536) : Calls Tryz.prog 40 #[.pointer (some ⟨b, 0, none⟩)] w fun e w' => e = .returned (wdV (if N = 0 then 0 else 1) N (if N = 0 then zR 32 else rt l)) ∧ Rp w' b N l ∧ Only (fun k => k = b) w w' := by
  have hB0 := Blk.new w 103 #[.int .i64 0, .int .i64 0, .string ⟨#[]⟩]
  have hb0 : Below w.heap.size w (w.alloc (Obj.cells #[.int .i64 0, .int .i64 0, .string ⟨#[]⟩] 103)) := (Below.refl _ _).alloc (Nat.le_refl _) _
  obtain ⟨y0, hy0⟩ : ∃ q, w.alloc (Obj.cells #[.int .i64 0, .int .i64 0, .string ⟨#[]⟩] 103) = q := ⟨_, rfl⟩
  obtain ⟨h, hhe⟩ : ∃ q, w.heap.size = q := ⟨_, rfl⟩
  have hbl := hR.lt
  rw [hy0] at hB0 hb0
  have hR0 := hR.below hb0
  have hK0 : KTab y0 := hK.below hb0 hK.1
  rw [hhe] at hB0 hb0 hbl
  have HY := hide (And.intro hy0 hhe)
  have hne : (⟨h, 0, none⟩ : Addr).block ≠ (⟨b, 0, none⟩ : Addr).block := by show h ≠ b; omega
  have HO0 := hide (show Only (fun k => k = b) w y0 from Only.of_below (by rw [hhe]; exact hb0))
  obtain ⟨q, kn, h1, _, _⟩ := id hR0
  have c0 : y0.cell? ⟨b, 0, none⟩ = some (.int .i64 (N : Int)) := by rw [h1.cell 0]; rfl
  have HB0 := hide hB0
  have HR0 := hide hR0
  clear h1
  by_cases hN : N = 0
  · subst hN
    rw [if_pos rfl, if_pos rfl]
    have e1 : (((0 : Nat) : Int) == 0) = true := by decide
    have HNT := hide (ynothing_any y0)
    obtain ⟨Z, hZ⟩ : ∃ q, zR 32 = q := ⟨_, rfl⟩
    rw [hZ] at HNT ⊢
    have HNX := hide (show ∀ y1, Below y0.heap.size y0 y1 → y1.cell? ⟨h, 0, none⟩ = some (.int .i64 0) ∧ y1.cell? ⟨h, 1, none⟩ = some (.int .i64 0) ∧ y1.cell? ⟨h, 2, none⟩ = some (.string ⟨#[]⟩) ∧ y1.frozen? ⟨h, 0, none⟩ = false ∧ y1.frozen? ⟨h, 1, none⟩ = false ∧ y1.frozen? ⟨h, 2, none⟩ = false ∧ Blk (((y1.setCell ⟨h, 0, none⟩ (.int .i64 0)).setCell ⟨h, 1, none⟩ (.int .i64 0)).setCell ⟨h, 2, none⟩ (.string Z)) h #[.int .i64 0, .int .i64 0, .string Z] 103 ∧ Rp (((y1.setCell ⟨h, 0, none⟩ (.int .i64 0)).setCell ⟨h, 1, none⟩ (.int .i64 0)).setCell ⟨h, 2, none⟩ (.string Z)) b 0 l ∧ Only (fun k => k = b) w (((y1.setCell ⟨h, 0, none⟩ (.int .i64 0)).setCell ⟨h, 1, none⟩ (.int .i64 0)).setCell ⟨h, 2, none⟩ (.string Z)) from fun y1 hb => by
      have k1 := (unhide HB0).below hb (unhide HB0).lt
      have k2 := (unhide HR0).below hb
      refine ⟨by rw [k1.cell 0]; rfl, by rw [k1.cell 1]; rfl, by rw [k1.cell 2]; rfl, k1.frozen 0, k1.frozen 1, k1.frozen 2, ((k1.set 0 (.int .i64 0)).set 1 (.int .i64 0)).set 2 (.string Z), ?_, ?_⟩
      · obtain ⟨q, kn, u1, u2, u3⟩ := k2
        refine ⟨q, kn, ((u1.other ⟨h, 0, none⟩ _ hne).other ⟨h, 1, none⟩ _ hne).other ⟨h, 2, none⟩ _ hne, u2, fun q => absurd rfl q⟩
      · exact ((((unhide HO0).trans (Only.of_below (P := fun k => k = b) hb) (fun _ _ q => q)).setCell _ _ (fun q => by have : h < w.heap.size := q; omega)).setCell _ _ (fun q => by have : h < w.heap.size := q; omega)).setCell _ _ (fun q => by have : h < w.heap.size := q; omega))
    clear hB0 hb0 hR hR0 hK hK0 hT hy0 hZ
    unfold wdV at HNT ⊢
    go_enter Tryz.func40, Tryz.ntmps40
    go_wp2_with (rw [(unhide HY).1])
    refine (unhide HNT).mono ?_
    rintro e y1 ⟨rfl, hb1⟩
    obtain ⟨s0, s1, s2, f0, f1, f2, hx⟩ := unhide HNX y1 hb1
    have HX := hide hx
    clear hx hb1 HNT HNX c0
    go_wp2
    have hld := iload_blk 103 _ (unhide HX).1 Tryz.underlying103 rfl (by kernel_rfl)
    refine bodyPost_ret (v := .agg #[.int .i64 0, .int .i64 0, .string Z]) (results_cell1 (p := 2) (ty := 103) rfl _ _ _ ⟨h, 0, none⟩ rfl _ hld) rfl ⟨rfl, (unhide HX).2.1, (unhide HX).2.2⟩
  rw [if_neg hN, if_neg hN]
  have e1 : ((N : Int) == 0) = false := by simp; omega
  have HRT := hide (yrootR_any y0.drew b N l hR0.drew hN hK0 hT hm)
  obtain ⟨R, hRe⟩ : ∃ q, rt l = q := ⟨_, rfl⟩
  rw [hRe] at HRT ⊢
  have HNX := hide (show ∀ w9, Rp w9 b N l → Only (fun k => k = b) y0.drew w9 → w9.cell? ⟨b, 0, none⟩ = some (.int .i64 (N : Int)) ∧ w9.cell? ⟨h, 0, none⟩ = some (.int .i64 0) ∧ w9.cell? ⟨h, 1, none⟩ = some (.int .i64 0) ∧ w9.cell? ⟨h, 2, none⟩ = some (.string ⟨#[]⟩) ∧ w9.frozen? ⟨h, 0, none⟩ = false ∧ w9.frozen? ⟨h, 1, none⟩ = false ∧ w9.frozen? ⟨h, 2, none⟩ = false ∧ Blk (((w9.setCell ⟨h, 0, none⟩ (.int .i64 1)).setCell ⟨h, 1, none⟩ (.int .i64 (N : Int))).setCell ⟨h, 2, none⟩ (.string R)) h #[.int .i64 1, .int .i64 (N : Int), .string R] 103 ∧ Rp (((w9.setCell ⟨h, 0, none⟩ (.int .i64 1)).setCell ⟨h, 1, none⟩ (.int .i64 (N : Int))).setCell ⟨h, 2, none⟩ (.string R)) b N l ∧ Only (fun k => k = b) w (((w9.setCell ⟨h, 0, none⟩ (.int .i64 1)).setCell ⟨h, 1, none⟩ (.int .i64 (N : Int))).setCell ⟨h, 2, none⟩ (.string R)) from fun w9 hr ho => by
    have hon : Only (fun k => k = b) y0 w9 := ⟨⟨ho.1.os, ho.1.tape, ho.1.output, ho.1.size, ho.1.block⟩, ho.2⟩
    have k1 := (unhide HB0).only hon (by show ¬ h = b; exact hne)
    obtain ⟨q, kn, u1, u2, u3⟩ := hr
    refine ⟨by rw [u1.cell 0]; rfl, by rw [k1.cell 0]; rfl, by rw [k1.cell 1]; rfl, by rw [k1.cell 2]; rfl, k1.frozen 0, k1.frozen 1, k1.frozen 2, ((k1.set 0 (.int .i64 1)).set 1 (.int .i64 (N : Int))).set 2 (.string R), ⟨q, kn, ((u1.other ⟨h, 0, none⟩ _ hne).other ⟨h, 1, none⟩ _ hne).other ⟨h, 2, none⟩ _ hne, u2, fun hn => ?_⟩, ?_⟩
    · obtain ⟨g, e, u4, u5⟩ := u3 hn
      have hg : h ≠ g := k1.tyne u4 (by decide)
      exact ⟨g, e, ((u4.other ⟨h, 0, none⟩ _ hg).other ⟨h, 1, none⟩ _ hg).other ⟨h, 2, none⟩ _ hg, u5⟩
    · exact ((((unhide HO0).trans hon (fun _ _ q => q)).setCell _ _ (fun q => by have : h < w.heap.size := q; omega)).setCell _ _ (fun q => by have : h < w.heap.size := q; omega)).setCell _ _ (fun q => by have : h < w.heap.size := q; omega))
  clear hB0 hb0 hR hR0 hK hK0 hT hy0 hRe HR0 HB0
  unfold wdV
  go_enter Tryz.func40, Tryz.ntmps40
  go_wp2_with (rw [(unhide HY).1])
  refine wp_region_held_drew (S := fun W => W.cell? ⟨b, 0, none⟩ = some (.int .i64 (N : Int))) (by kernel_rfl) c0 ?_
  intro hS
  refine wpAnyH_takeD 0 (some 9) (.pointer (some ⟨b, 0, none⟩)) rfl rfl (by kernel_rfl) (by kernel_rfl) (by kernel_rfl) (fun _ _ _ h => h) (Or.inl ⟨by rfl, fun w hSw => by have q1 := hSw; clear hSw; go_simp; try (intro hbad; omega)⟩) hS ?_
  simp only [Act.put, List.setIfInBounds_toArray, List.set_cons_zero, List.set_cons_succ]
  refine wpAnyH_takeD 1 (some 10) (.pointer (some ⟨b, 0, none⟩)) rfl rfl (by kernel_rfl) (by kernel_rfl) (by kernel_rfl) (fun _ _ _ h => h) (Or.inl ⟨by rfl, fun w hSw => by have q1 := hSw; clear hSw; go_simp; try (intro hbad; omega)⟩) hS ?_
  simp only [Act.put, List.setIfInBounds_toArray, List.set_cons_zero, List.set_cons_succ]
  refine wpAnyH_takeD 2 (some 11) (.pointer (some ⟨b, 0, none⟩)) rfl rfl (by kernel_rfl) (by kernel_rfl) (by kernel_rfl) (fun _ _ _ h => h) (Or.inl ⟨by rfl, fun w hSw => by have q1 := hSw; clear hSw; go_simp; try (intro hbad; omega)⟩) hS ?_
  simp only [Act.put, List.setIfInBounds_toArray, List.set_cons_zero, List.set_cons_succ]
  refine wpAnyH_takeD 3 (some 12) (.int .i64 (N : Int)) rfl rfl (by kernel_rfl) (by kernel_rfl) (by kernel_rfl) (fun _ _ _ h => h) (Or.inl ⟨by rfl, fun w hSw => by have q1 := hSw; clear hSw; go_simp; try (intro hbad; omega)⟩) hS ?_
  simp only [Act.put, List.setIfInBounds_toArray, List.set_cons_zero, List.set_cons_succ]
  refine wpAnyH_takeD 4 (some 13) (.pointer (some ⟨b, 0, none⟩)) rfl rfl (by kernel_rfl) (by kernel_rfl) (by kernel_rfl) (fun _ _ _ h => h) (Or.inl ⟨by rfl, fun w hSw => by have q1 := hSw; clear hSw; go_simp; try (intro hbad; omega)⟩) hS ?_
  simp only [Act.put, List.setIfInBounds_toArray, List.set_cons_zero, List.set_cons_succ]
  refine wpAnyH_takeD 5 (some 14) (.pointer (some ⟨b, 0, none⟩)) rfl rfl (by kernel_rfl) (by kernel_rfl) (by kernel_rfl) (fun _ _ _ h => h) (Or.inl ⟨by rfl, fun w hSw => by have q1 := hSw; clear hSw; go_simp; try (intro hbad; omega)⟩) hS ?_
  simp only [Act.put, List.setIfInBounds_toArray, List.set_cons_zero, List.set_cons_succ]
  refine wpAnyH_takeD 6 (some 15) (.pointer (some ⟨b, 1, none⟩)) rfl rfl (by kernel_rfl) (by kernel_rfl) (by kernel_rfl) (fun _ _ _ h => h) (Or.inl ⟨by rfl, fun w hSw => by have q1 := hSw; clear hSw; go_simp; try (intro hbad; omega)⟩) hS ?_
  simp only [Act.put, List.setIfInBounds_toArray, List.set_cons_zero, List.set_cons_succ]
  refine wpAnyH_ready (rs := [7]) (by kernel_rfl) (by simp) ?_
  refine AllReadyH.cons rfl (fun K hK => ?_) AllReadyH.nil
  simp only [List.getElem_toArray, List.getElem_cons_succ, List.getElem_cons_zero]
  go_simp
  refine (unhide HRT).mono ?_
  rintro e w9 ⟨rfl, hr9, ho9⟩
  obtain ⟨m1, s0, s1, s2, f0, f1, f2, hx9⟩ := unhide HNX w9 hr9 ho9
  have HX9 := hide hx9
  clear hr9 ho9 hx9
  refine hK.out _ _ m1 (fun hS => ?_)
  clear hK K
  refine wpAnyH_takeD 8 (some 17) (.agg #[.int .i64 1, .int .i64 (N : Int), .string R]) rfl rfl (by kernel_rfl) (by kernel_rfl) (by kernel_rfl) (fun _ _ _ h => h) (Or.inl ⟨by rfl, fun w hSw => by have q1 := hSw; clear hSw; go_simp; try (intro hbad; omega)⟩) hS ?_
  simp only [Act.put, List.setIfInBounds_toArray, List.set_cons_zero, List.set_cons_succ]
  refine wpAnyH_ready (rs := [9]) (by kernel_rfl) (by simp) ?_
  refine AllReadyH.cons rfl (fun K hK => ?_) AllReadyH.nil
  simp only [List.getElem_toArray, List.getElem_cons_succ, List.getElem_cons_zero]
  go_simp
  refine hK.out _ _ ((World.cell?_setCell_far _ _ _ _ hne).trans ((World.cell?_setCell_far _ _ _ _ hne).trans ((World.cell?_setCell_far _ _ _ _ hne).trans m1))) (fun hS => ?_)
  clear hK K
  refine wpAnyH_done (by kernel_rfl) ?_ _
  clear hS m1 s0 s1 s2 f0 f1 f2 c0
  go_wp2
  have hld := iload_blk 103 _ (unhide HX9).1 Tryz.underlying103 rfl (by kernel_rfl)
  refine bodyPost_ret (v := .agg #[.int .i64 1, .int .i64 (N : Int), .string R]) (results_cell1 (p := 2) (ty := 103) rfl _ _ _ ⟨h, 0, none⟩ rfl _ hld) rfl ⟨rfl, (unhide HX9).2.1, (unhide HX9).2.2⟩
theorem yclones_any (w : World) (l : List ByteArray) (B c q : Nat) (a : Addr) (hq : l.length = q) (hq9 : q ≤ 100000) (hS : SB w B (some a) l) (hB : B ≤ w.heap.size) : Calls Tryz.prog 45 #[.slice (some a) q c] w fun e w' => ∃ p c5, e = .returned (.slice p q c5) ∧ w'.ownsRow w.heap.size 9 1 (.slice p q c5) q (l.map Value.string) ∧ Below w.heap.size w w' := by
  have en := fun w' => Lib.run_eql_slice_nil (P := Tryz.prog) w' 24 9 (some a) q c 0 0 Tryz.underlying24
  rw [show (some a).isNone = false from rfl] at en
  obtain ⟨i0, hi0, hz0, hz1, hz2⟩ := info_parts yinfoS
  have HI := hide (And.intro hi0 (And.intro hz0 (And.intro hz1 hz2)))
  have HE0 := hide (show (w.alloc (.cells #[] 9)).ownsRow w.heap.size 9 1 (.slice (some ⟨w.heap.size, 0, none⟩) 0 0) 0 [] from ⟨rfl, .inr ⟨w.heap.size, 0, #[], rfl, Nat.le_refl _, Blk.new w 9 #[], Nat.le_refl _, by unfold maxLen; omega, rfl, rfl⟩⟩)
  have HSRC := hide (show ∀ (j : Nat) u, (l.map Value.string)[j]? = some u → (w.alloc (.cells #[] 9)).cell? (a.add j) = some u from fun j u hu => by
    rw [List.getElem?_map] at hu
    have hj : j < l.length := by
      by_cases hj : j < l.length
      · exact hj
      · rw [List.getElem?_eq_none (by omega)] at hu; cases hu
    obtain ⟨g, o, e, hg, hc⟩ := hS j hj
    injection e with e
    subst e
    rw [Addr.add_mid]
    refine (((Below.refl w.heap.size w).alloc (Nat.le_refl _) (Obj.cells #[] 9)).cell (p := ⟨g, o + j, none⟩) (by show g < w.heap.size; omega)).trans (hc.trans ?_)
    rw [List.getElem?_eq_getElem hj] at hu
    rw [List.getD_eq_getElem?_getD, List.getElem?_eq_getElem hj, ← hu]
    rfl)
  have HQ := hide hq
  clear hi0 hz0 hz1 hz2 hS hB hq
  go_enter Tryz.func45, Tryz.ntmps45
  go_wp2_with (refine wpList_append_own _ rfl (.tmp 5) (.tmp 6) 24 rfl w.heap.size 9 i0 (.string ⟨#[]⟩) 1 16 Tryz.underlying24 (unhide HI).1 (unhide HI).2.1 (unhide HI).2.2.1 (unhide HI).2.2.2 rfl (by decide) _ 0 [] rfl (unhide HE0) a q c (l.map Value.string) rfl (by rw [List.length_map, unhide HQ]; omega) (unhide HSRC) (by simp [Value.oneCell']) (by unfold maxLen; omega) (by omega) (by simp) ?_)
  intro v2 w2 ho2 hg2 _
  have ho2' : w2.ownsRow w.heap.size 9 1 v2 q (l.map Value.string) := by simpa using ho2
  have hb2 : Below w.heap.size w w2 := ((Below.refl _ w).alloc (Nat.le_refl _) _).grown hg2 (by simp) (fun q hq => by
    have := ((unhide HE0).lt q hq).1
    exact this)
  obtain ⟨p2, c2, rfl, _⟩ := yr_form ho2'
  have HX := hide (And.intro ho2' hb2)
  clear ho2 hg2 ho2' hb2 HE0 HSRC
  go_wp2
  go_ret
  exact ⟨p2, c2, rfl, (unhide HX).1, (unhide HX).2⟩
theorem yimage_any (w : World) (b N : Nat) (l : List ByteArray) (h : Rp w b N l) (hm : l.length ≤ 65536) : Calls Tryz.prog 18 #[.pointer (some ⟨b, 0, none⟩)] w fun e w' => Below w.heap.size w w' ∧ (N = 0 → e = .returned (.tuple #[.slice none 0 0, .int .i64 224])) ∧ (N ≠ 0 → ∃ p c5, e = .returned (.tuple #[.slice p l.length c5, .int .i64 0]) ∧ w'.ownsRow w.heap.size 9 1 (.slice p l.length c5) l.length (l.map Value.string)) := by
  obtain ⟨q, kn, h1, h2, h3⟩ := h
  have c0 : w.cell? ⟨b, 0, none⟩ = some (.int .i64 (N : Int)) := by rw [h1.cell 0]; rfl
  have c1 : w.cell? ⟨b, 1, none⟩ = some (.slice q l.length l.length) := by rw [h1.cell 1]; rfl
  by_cases hN : N = 0
  · subst hN
    have e1 : (((0 : Nat) : Int) == 0) = true := by decide
    clear h1 h2 h3
    go_enter Tryz.func18, Tryz.ntmps18
    go_wp2
    go_ret2
    exact ⟨Below.refl _ _, fun _ => rfl, fun q => absurd rfl q⟩
  · have e1 : ((N : Int) == 0) = false := by simp; omega
    obtain ⟨g, rfl, h4, _⟩ := h3 hN
    have HC := hide (yclones_any w l w.heap.size l.length l.length ⟨g, 0, none⟩ rfl (by omega) h4.sb (Nat.le_refl _))
    clear h1 h2 h3 h4
    go_enter Tryz.func18, Tryz.ntmps18
    go_wp2_with fail
    refine (unhide HC).mono ?_
    rintro e w1 ⟨p, c5, rfl, ho, hb⟩
    have HX := hide (And.intro ho hb)
    clear ho hb HC
    go_wp2
    go_ret2
    exact ⟨(unhide HX).2, fun q => absurd q hN, fun _ => ⟨p, c5, rfl, (unhide HX).1⟩⟩
end Go.Proofs.YtnfdedolgfcmfaaGreatDoor
