import Derived.Test.YtifjmldmilmfjaaGreatDoorMp17
import Derived.Test.YtifjmldmilmfjaaGreatDoorMp18
import Derived.Test.YtifjmldmilmfjaaGreatDoorMp07
import Derived.Test.YtifjmldmilmfjaaGreatDoorMp19
namespace Go.Proofs.YtifjmldmilmfjaaGreatDoor
open Go.RowKit
set_option maxRecDepth 100000
set_option maxHeartbeats 2000000 in
theorem rkeys0 (g : Nat) (k n o : ByteArray) (i : Nat) (hk : k.size = 32) (hn : n.size = 16) (ho : o.size ≤ 1000) (hi9 : i < 256) (w : World) (c0 : w.cell? ⟨g, 0, none⟩ = some (.string k)) (c1 : w.cell? ⟨g, 1, none⟩ = some (.int .i64 0)) (c2 : w.cell? ⟨g, 2, none⟩ = some (.string n)) (c3 : w.cell? ⟨g, 3, none⟩ = some (.string o)) (hg : g < w.heap.size) : Calls Tryz.prog 61 #[.pointer (some ⟨g, 0, none⟩), .int .i64 (i : Int)] w fun e w' => e = .returned (.tuple #[.string (hiB k n o i), .string (seB k n o i)]) ∧ Below w.heap.size w w' := by
  obtain ⟨h, hh⟩ : ∃ h, w.heap.size = h := ⟨_, rfl⟩
  have HC := hide (show ∀ y, Below h w y → y.cell? ⟨g, 0, none⟩ = some (.string k) ∧ y.cell? ⟨g, 1, none⟩ = some (.int .i64 0) ∧ y.cell? ⟨g, 2, none⟩ = some (.string n) ∧ y.cell? ⟨g, 3, none⟩ = some (.string o) from fun y hy =>
    ⟨(hy.cell (p := ⟨g, 0, none⟩) (by show g < h; omega)).trans c0, (hy.cell (p := ⟨g, 1, none⟩) (by show g < h; omega)).trans c1, (hy.cell (p := ⟨g, 2, none⟩) (by show g < h; omega)).trans c2, (hy.cell (p := ⟨g, 3, none⟩) (by show g < h; omega)).trans c3⟩)
  rw [hh]
  clear c0 c1 c2 c3 hg
  have hsz := sdB_size i
  have HDE := hide (fun W => rderive_any k (lkB ++ n ++ o ++ sdB i) 64 (by decide) (by omega) (by rw [ByteArray.size_append, ByteArray.size_append, ByteArray.size_append, hsz]; show 4 + _ + _ + 1 + 200 ≤ _; omega) W)
  rw [show strOfNums ((outP (nums k) (nums (lkB ++ n ++ o ++ sdB i)) ((64 + 31) / 32)).take 64) = drB k n o i from rfl] at HDE
  obtain ⟨ab, hab⟩ : ∃ z, n ++ o = z := ⟨_, rfl⟩
  have e0 : lkB ++ n ++ o ++ sdB i = (⟨#[108, 105, 110, 107]⟩ : ByteArray) ++ ab ++ sdB i := by rw [← hab, ← ByteArray.append_assoc]; rfl
  rw [e0] at HDE
  have hab2 : ab.size ≤ 1016 := by rw [← hab, ByteArray.size_append]; omega
  have ez1 : ((⟨#[108, 105, 110, 107]⟩ : ByteArray) ++ ab).size = 4 + ab.size := by rw [ByteArray.size_append]; rfl
  have e2 : (⟨#[108, 105, 110, 107]⟩ : ByteArray).size = 4 := rfl
  have hD := drB_size k n o i
  obtain ⟨hi, hhi⟩ : ∃ z, hiB k n o i = z := ⟨_, rfl⟩
  obtain ⟨se, hse⟩ : ∃ z, seB k n o i = z := ⟨_, rfl⟩
  have d1 : (drB k n o i).extract 0 32 = hi := hhi
  have d2 : (drB k n o i).extract 32 64 = se := hse
  rw [hhi, hse]
  have HCV := hide (fun W : World => conv_oneL W (i : Int))
  rw [show strOfNums [(i : Int)] = sdB i from rfl] at HCV
  have hu8 : IntKind.u8.wrap (i : Int) = (i : Int) := by rw [IntKind.wrap_u8]; omega
  clear hhi hse e0
  generalize drB k n o i = D at *
  generalize sdB i = sd at *
  have HB0 := hide (show Below h w w.drew from (Below.refl _ _).drew)
  go_enter Tryz.func61, Tryz.ntmps61
  go_wp2_with fail
  refine wp_region_held_drew (S := fun W => Below h w W) (by kernel_rfl) (unhide HB0) ?_
  intro hS
  refine wpAnyH_takeD 0 (some 9) (.pointer (some ⟨g, 0, none⟩)) rfl rfl (by kernel_rfl) (by kernel_rfl) (by kernel_rfl) (fun _ _ _ h => h) (Or.inl ⟨by rfl, fun w hSw => by obtain ⟨hq1, hq2, hq3, hq4⟩ := unhide HC w hSw; clear hSw; go_simp; try omega⟩) hS ?_
  simp only [Act.put, List.setIfInBounds_toArray, List.set_cons_zero, List.set_cons_succ]
  refine wpAnyH_takeD 1 (some 10) (.pointer (some ⟨g, 0, none⟩)) rfl rfl (by kernel_rfl) (by kernel_rfl) (by kernel_rfl) (fun _ _ _ h => h) (Or.inl ⟨by rfl, fun w hSw => by obtain ⟨hq1, hq2, hq3, hq4⟩ := unhide HC w hSw; clear hSw; go_simp; try omega⟩) hS ?_
  simp only [Act.put, List.setIfInBounds_toArray, List.set_cons_zero, List.set_cons_succ]
  refine wpAnyH_takeD 2 (some 11) (.pointer (some ⟨g, 2, none⟩)) rfl rfl (by kernel_rfl) (by kernel_rfl) (by kernel_rfl) (fun _ _ _ h => h) (Or.inl ⟨by rfl, fun w hSw => by obtain ⟨hq1, hq2, hq3, hq4⟩ := unhide HC w hSw; clear hSw; go_simp; try omega⟩) hS ?_
  simp only [Act.put, List.setIfInBounds_toArray, List.set_cons_zero, List.set_cons_succ]
  refine wpAnyH_takeD 3 (some 12) (.string n) rfl rfl (by kernel_rfl) (by kernel_rfl) (by kernel_rfl) (fun _ _ _ h => h) (Or.inl ⟨by rfl, fun w hSw => by obtain ⟨hq1, hq2, hq3, hq4⟩ := unhide HC w hSw; clear hSw; go_simp; try omega⟩) hS ?_
  simp only [Act.put, List.setIfInBounds_toArray, List.set_cons_zero, List.set_cons_succ]
  refine wpAnyH_takeD 4 (some 13) (.pointer (some ⟨g, 0, none⟩)) rfl rfl (by kernel_rfl) (by kernel_rfl) (by kernel_rfl) (fun _ _ _ h => h) (Or.inl ⟨by rfl, fun w hSw => by obtain ⟨hq1, hq2, hq3, hq4⟩ := unhide HC w hSw; clear hSw; go_simp; try omega⟩) hS ?_
  simp only [Act.put, List.setIfInBounds_toArray, List.set_cons_zero, List.set_cons_succ]
  refine wpAnyH_takeD 5 (some 14) (.pointer (some ⟨g, 0, none⟩)) rfl rfl (by kernel_rfl) (by kernel_rfl) (by kernel_rfl) (fun _ _ _ h => h) (Or.inl ⟨by rfl, fun w hSw => by obtain ⟨hq1, hq2, hq3, hq4⟩ := unhide HC w hSw; clear hSw; go_simp; try omega⟩) hS ?_
  simp only [Act.put, List.setIfInBounds_toArray, List.set_cons_zero, List.set_cons_succ]
  refine wpAnyH_takeD 6 (some 15) (.pointer (some ⟨g, 3, none⟩)) rfl rfl (by kernel_rfl) (by kernel_rfl) (by kernel_rfl) (fun _ _ _ h => h) (Or.inl ⟨by rfl, fun w hSw => by obtain ⟨hq1, hq2, hq3, hq4⟩ := unhide HC w hSw; clear hSw; go_simp; try omega⟩) hS ?_
  simp only [Act.put, List.setIfInBounds_toArray, List.set_cons_zero, List.set_cons_succ]
  refine wpAnyH_takeD 7 (some 16) (.string o) rfl rfl (by kernel_rfl) (by kernel_rfl) (by kernel_rfl) (fun _ _ _ h => h) (Or.inl ⟨by rfl, fun w hSw => by obtain ⟨hq1, hq2, hq3, hq4⟩ := unhide HC w hSw; clear hSw; go_simp; try omega⟩) hS ?_
  simp only [Act.put, List.setIfInBounds_toArray, List.set_cons_zero, List.set_cons_succ]
  refine wpAnyH_takeD 8 (some 17) (.string (n ++ o)) rfl rfl (by kernel_rfl) (by kernel_rfl) (by kernel_rfl) (fun _ _ _ h => h) (Or.inl ⟨by rfl, fun w hSw => by obtain ⟨hq1, hq2, hq3, hq4⟩ := unhide HC w hSw; clear hSw; go_simp; try omega⟩) hS ?_
  simp only [Act.put, List.setIfInBounds_toArray, List.set_cons_zero, List.set_cons_succ]
  refine wpAnyH_takeD 9 (some 6) (.string (n ++ o)) rfl rfl (by kernel_rfl) (by kernel_rfl) (by kernel_rfl) (fun _ _ _ h => h) (Or.inl ⟨by rfl, fun w hSw => by obtain ⟨hq1, hq2, hq3, hq4⟩ := unhide HC w hSw; clear hSw; go_simp; try omega⟩) hS ?_
  simp only [Act.put, List.setIfInBounds_toArray, List.set_cons_zero, List.set_cons_succ]
  refine wpAnyH_done (by kernel_rfl) ?_ _
  generalize w.drew = y1 at *
  have HB1 := hide (show Below h w y1.drew from hS.drew)
  clear HB0
  obtain ⟨q1, q2, q3, q4⟩ := unhide HC y1 hS
  clear hS
  go_wp2_with fail
  have hS := unhide HB1
  generalize y1 = y2 at *
  clear q1 q2 q3 q4 HB1
  have HB2 := hide (show Below h w y2.drew from hS)
  have hcv : (convert 86 9 (.slice (some ⟨y2.heap.size, 0, none⟩) 1 1)).run Tryz.prog ((y2.alloc (Obj.cells #[.int .u8 (i : Int)] 5)).drew) = .ok (.string sd) ((y2.alloc (Obj.cells #[.int .u8 (i : Int)] 5)).drew) := unhide HCV y2.drew
  have HB3 := hide (show Below h w ((y2.alloc (Obj.cells #[.int .u8 (i : Int)] 5)).drew) from (unhide HB2).alloc (by have := (unhide HB2).size; omega) _)
  rw [hab]
  clear HCV hS
  go_wp2_with fail
  refine wp_region_held_drew (S := fun W => Below h w W) (by kernel_rfl) (unhide HB2) ?_
  intro hS
  refine wpAnyH_takeD 0 (some 33) (.pointer (some ⟨g, 0, none⟩)) rfl rfl (by kernel_rfl) (by kernel_rfl) (by kernel_rfl) (fun _ _ _ h => h) (Or.inl ⟨by rfl, fun w hSw => by obtain ⟨hq1, hq2, hq3, hq4⟩ := unhide HC w hSw; clear hSw; go_simp; try omega⟩) hS ?_
  simp only [Act.put, List.setIfInBounds_toArray, List.set_cons_zero, List.set_cons_succ]
  refine wpAnyH_takeD 1 (some 34) (.pointer (some ⟨g, 0, none⟩)) rfl rfl (by kernel_rfl) (by kernel_rfl) (by kernel_rfl) (fun _ _ _ h => h) (Or.inl ⟨by rfl, fun w hSw => by obtain ⟨hq1, hq2, hq3, hq4⟩ := unhide HC w hSw; clear hSw; go_simp; try omega⟩) hS ?_
  simp only [Act.put, List.setIfInBounds_toArray, List.set_cons_zero, List.set_cons_succ]
  refine wpAnyH_takeD 2 (some 35) (.pointer (some ⟨g, 0, none⟩)) rfl rfl (by kernel_rfl) (by kernel_rfl) (by kernel_rfl) (fun _ _ _ h => h) (Or.inl ⟨by rfl, fun w hSw => by obtain ⟨hq1, hq2, hq3, hq4⟩ := unhide HC w hSw; clear hSw; go_simp; try omega⟩) hS ?_
  simp only [Act.put, List.setIfInBounds_toArray, List.set_cons_zero, List.set_cons_succ]
  refine wpAnyH_takeD 3 (some 36) (.string k) rfl rfl (by kernel_rfl) (by kernel_rfl) (by kernel_rfl) (fun _ _ _ h => h) (Or.inl ⟨by rfl, fun w hSw => by obtain ⟨hq1, hq2, hq3, hq4⟩ := unhide HC w hSw; clear hSw; go_simp; try omega⟩) hS ?_
  simp only [Act.put, List.setIfInBounds_toArray, List.set_cons_zero, List.set_cons_succ]
  refine wpAnyH_takeD 4 (some 37) (.string ab) rfl rfl (by kernel_rfl) (by kernel_rfl) (by kernel_rfl) (fun _ _ _ h => h) (Or.inl ⟨by rfl, fun w hSw => by obtain ⟨hq1, hq2, hq3, hq4⟩ := unhide HC w hSw; clear hSw; go_simp; try omega⟩) hS ?_
  simp only [Act.put, List.setIfInBounds_toArray, List.set_cons_zero, List.set_cons_succ]
  refine wpAnyH_takeD 5 (some 38) (.string (⟨#[108, 105, 110, 107]⟩ ++ ab)) rfl rfl (by kernel_rfl) (by kernel_rfl) (by kernel_rfl) (fun _ _ _ h => h) (Or.inl ⟨by rfl, fun w hSw => by obtain ⟨hq1, hq2, hq3, hq4⟩ := unhide HC w hSw; clear hSw; go_simp; try omega⟩) hS ?_
  simp only [Act.put, List.setIfInBounds_toArray, List.set_cons_zero, List.set_cons_succ]
  refine wpAnyH_takeD 6 (some 39) (.int .i64 (i : Int)) rfl rfl (by kernel_rfl) (by kernel_rfl) (by kernel_rfl) (fun _ _ _ h => h) (Or.inl ⟨by rfl, fun w hSw => by obtain ⟨hq1, hq2, hq3, hq4⟩ := unhide HC w hSw; clear hSw; go_simp; try omega⟩) hS ?_
  simp only [Act.put, List.setIfInBounds_toArray, List.set_cons_zero, List.set_cons_succ]
  refine wpAnyH_takeD 7 (some 40) (.int .u8 (i : Int)) rfl rfl (by kernel_rfl) (by kernel_rfl) (by kernel_rfl) (fun _ _ _ h => h) (Or.inl ⟨by rfl, fun w hSw => by obtain ⟨hq1, hq2, hq3, hq4⟩ := unhide HC w hSw; clear hSw; go_simp; try omega⟩) hS ?_
  simp only [Act.put, List.setIfInBounds_toArray, List.set_cons_zero, List.set_cons_succ]
  refine wpAnyH_ready (rs := [8]) (by kernel_rfl) (by simp) ?_
  refine AllReadyH.cons rfl (fun K hK => ?_) AllReadyH.nil
  simp only [List.getElem_toArray, List.getElem_cons_succ, List.getElem_cons_zero]
  go_simp
  refine hK.out _ _ (unhide HB3) (fun hS => ?_)
  clear hK K
  refine wpAnyH_ready (rs := [9]) (by kernel_rfl) (by simp) ?_
  refine AllReadyH.cons rfl (fun K hK => ?_) AllReadyH.nil
  simp only [List.getElem_toArray, List.getElem_cons_succ, List.getElem_cons_zero]
  go_simp
  refine hK.out _ _ (unhide HB3) (fun hS => ?_)
  clear hK K
  refine wpAnyH_takeD 10 (some 43) (.string (⟨#[108, 105, 110, 107]⟩ ++ ab ++ sd)) rfl rfl (by kernel_rfl) (by kernel_rfl) (by kernel_rfl) (fun _ _ _ h => h) (Or.inl ⟨by rfl, fun w hSw => by obtain ⟨hq1, hq2, hq3, hq4⟩ := unhide HC w hSw; clear hSw; go_simp; try omega⟩) hS ?_
  simp only [Act.put, List.setIfInBounds_toArray, List.set_cons_zero, List.set_cons_succ]
  refine wpAnyH_ready (rs := [11]) (by kernel_rfl) (by simp) ?_
  refine AllReadyH.cons rfl (fun K hK => ?_) AllReadyH.nil
  simp only [List.getElem_toArray, List.getElem_cons_succ, List.getElem_cons_zero]
  go_simp
  refine (unhide HDE _).mono ?_
  rintro e y5 ⟨rfl, hb⟩
  have hS9 : Below h w y5 := hS.trans (hb.mono (by have := hS.size; omega))
  clear hb
  refine hK.out _ _ hS9 (fun hS => ?_)
  clear hK K
  refine wpAnyH_takeD 12 (some 32) (.tuple #[.string D, .int .i64 0]) rfl rfl (by kernel_rfl) (by kernel_rfl) (by kernel_rfl) (fun _ _ _ h => h) (Or.inl ⟨by rfl, fun w hSw => by obtain ⟨hq1, hq2, hq3, hq4⟩ := unhide HC w hSw; clear hSw; go_simp; try omega⟩) hS ?_
  simp only [Act.put, List.setIfInBounds_toArray, List.set_cons_zero, List.set_cons_succ]
  refine wpAnyH_takeD 13 (some 45) (.string D) rfl rfl (by kernel_rfl) (by kernel_rfl) (by kernel_rfl) (fun _ _ _ h => h) (Or.inl ⟨by rfl, fun w hSw => by obtain ⟨hq1, hq2, hq3, hq4⟩ := unhide HC w hSw; clear hSw; go_simp; try omega⟩) hS ?_
  simp only [Act.put, List.setIfInBounds_toArray, List.set_cons_zero, List.set_cons_succ]
  refine wpAnyH_takeD 14 (some 46) (.int .i64 0) rfl rfl (by kernel_rfl) (by kernel_rfl) (by kernel_rfl) (fun _ _ _ h => h) (Or.inl ⟨by rfl, fun w hSw => by obtain ⟨hq1, hq2, hq3, hq4⟩ := unhide HC w hSw; clear hSw; go_simp; try omega⟩) hS ?_
  simp only [Act.put, List.setIfInBounds_toArray, List.set_cons_zero, List.set_cons_succ]
  refine wpAnyH_takeD 15 (some 7) (.string D) rfl rfl (by kernel_rfl) (by kernel_rfl) (by kernel_rfl) (fun _ _ _ h => h) (Or.inl ⟨by rfl, fun w hSw => by obtain ⟨hq1, hq2, hq3, hq4⟩ := unhide HC w hSw; clear hSw; go_simp; try omega⟩) hS ?_
  simp only [Act.put, List.setIfInBounds_toArray, List.set_cons_zero, List.set_cons_succ]
  refine wpAnyH_takeD 16 (some 8) (.int .i64 0) rfl rfl (by kernel_rfl) (by kernel_rfl) (by kernel_rfl) (fun _ _ _ h => h) (Or.inl ⟨by rfl, fun w hSw => by obtain ⟨hq1, hq2, hq3, hq4⟩ := unhide HC w hSw; clear hSw; go_simp; try omega⟩) hS ?_
  simp only [Act.put, List.setIfInBounds_toArray, List.set_cons_zero, List.set_cons_succ]
  refine wpAnyH_done (by kernel_rfl) ?_ _
  have HB5 := hide (show Below h w y5.drew from hS.drew)
  clear hS HB3 HB2 hcv
  go_wp2_with fail
  refine wp_region_held_drew (S := fun W => Below h w W) (by kernel_rfl) (unhide HB5) ?_
  intro hS
  refine wpAnyH_takeD 0 (some 47) (.string D) rfl rfl (by kernel_rfl) (by kernel_rfl) (by kernel_rfl) (fun _ _ _ h => h) (Or.inl ⟨by rfl, fun w hSw => by clear hSw; go_simp; try omega⟩) hS ?_
  simp only [Act.put, List.setIfInBounds_toArray, List.set_cons_zero, List.set_cons_succ]
  refine wpAnyH_takeD 1 (some 48) (.string hi) rfl rfl (by kernel_rfl) (by kernel_rfl) (by kernel_rfl) (fun _ _ _ h => h) (Or.inl ⟨by rfl, fun w hSw => by clear hSw; go_simp; try omega⟩) hS ?_
  simp only [Act.put, List.setIfInBounds_toArray, List.set_cons_zero, List.set_cons_succ]
  refine wpAnyH_takeD 2 (some 49) (.string D) rfl rfl (by kernel_rfl) (by kernel_rfl) (by kernel_rfl) (fun _ _ _ h => h) (Or.inl ⟨by rfl, fun w hSw => by clear hSw; go_simp; try omega⟩) hS ?_
  simp only [Act.put, List.setIfInBounds_toArray, List.set_cons_zero, List.set_cons_succ]
  refine wpAnyH_takeD 3 (some 50) (.string se) rfl rfl (by kernel_rfl) (by kernel_rfl) (by kernel_rfl) (fun _ _ _ h => h) (Or.inl ⟨by rfl, fun w hSw => by clear hSw; go_simp; try omega⟩) hS ?_
  simp only [Act.put, List.setIfInBounds_toArray, List.set_cons_zero, List.set_cons_succ]
  refine wpAnyH_takeD 4 (some 4) (.string hi) rfl rfl (by kernel_rfl) (by kernel_rfl) (by kernel_rfl) (fun _ _ _ h => h) (Or.inl ⟨by rfl, fun w hSw => by clear hSw; go_simp; try omega⟩) hS ?_
  simp only [Act.put, List.setIfInBounds_toArray, List.set_cons_zero, List.set_cons_succ]
  refine wpAnyH_takeD 5 (some 5) (.string se) rfl rfl (by kernel_rfl) (by kernel_rfl) (by kernel_rfl) (fun _ _ _ h => h) (Or.inl ⟨by rfl, fun w hSw => by clear hSw; go_simp; try omega⟩) hS ?_
  simp only [Act.put, List.setIfInBounds_toArray, List.set_cons_zero, List.set_cons_succ]
  refine wpAnyH_done (by kernel_rfl) ?_ _
  clear HB5
  go_wp2
  go_ret2
  exact ⟨rfl, hS⟩
set_option maxHeartbeats 2000000 in
theorem rkeys1 (g : Nat) (k n o : ByteArray) (i : Nat) (hk : k.size = 32) (hn : n.size = 16) (ho : o.size ≤ 1000) (hi9 : i < 256) (w : World) (c0 : w.cell? ⟨g, 0, none⟩ = some (.string k)) (c1 : w.cell? ⟨g, 1, none⟩ = some (.int .i64 1)) (c2 : w.cell? ⟨g, 2, none⟩ = some (.string n)) (c3 : w.cell? ⟨g, 3, none⟩ = some (.string o)) (hg : g < w.heap.size) : Calls Tryz.prog 61 #[.pointer (some ⟨g, 0, none⟩), .int .i64 (i : Int)] w fun e w' => e = .returned (.tuple #[.string (hiB k o n i), .string (seB k o n i)]) ∧ Below w.heap.size w w' := by
  obtain ⟨h, hh⟩ : ∃ h, w.heap.size = h := ⟨_, rfl⟩
  have HC := hide (show ∀ y, Below h w y → y.cell? ⟨g, 0, none⟩ = some (.string k) ∧ y.cell? ⟨g, 1, none⟩ = some (.int .i64 1) ∧ y.cell? ⟨g, 2, none⟩ = some (.string n) ∧ y.cell? ⟨g, 3, none⟩ = some (.string o) from fun y hy =>
    ⟨(hy.cell (p := ⟨g, 0, none⟩) (by show g < h; omega)).trans c0, (hy.cell (p := ⟨g, 1, none⟩) (by show g < h; omega)).trans c1, (hy.cell (p := ⟨g, 2, none⟩) (by show g < h; omega)).trans c2, (hy.cell (p := ⟨g, 3, none⟩) (by show g < h; omega)).trans c3⟩)
  rw [hh]
  clear c0 c1 c2 c3 hg
  have hsz := sdB_size i
  have HDE := hide (fun W => rderive_any k (lkB ++ o ++ n ++ sdB i) 64 (by decide) (by omega) (by rw [ByteArray.size_append, ByteArray.size_append, ByteArray.size_append, hsz]; show 4 + _ + _ + 1 + 200 ≤ _; omega) W)
  rw [show strOfNums ((outP (nums k) (nums (lkB ++ o ++ n ++ sdB i)) ((64 + 31) / 32)).take 64) = drB k o n i from rfl] at HDE
  obtain ⟨ab, hab⟩ : ∃ z, o ++ n = z := ⟨_, rfl⟩
  have e0 : lkB ++ o ++ n ++ sdB i = (⟨#[108, 105, 110, 107]⟩ : ByteArray) ++ ab ++ sdB i := by rw [← hab, ← ByteArray.append_assoc]; rfl
  rw [e0] at HDE
  have hab2 : ab.size ≤ 1016 := by rw [← hab, ByteArray.size_append]; omega
  have ez1 : ((⟨#[108, 105, 110, 107]⟩ : ByteArray) ++ ab).size = 4 + ab.size := by rw [ByteArray.size_append]; rfl
  have e2 : (⟨#[108, 105, 110, 107]⟩ : ByteArray).size = 4 := rfl
  have hD := drB_size k o n i
  obtain ⟨hi, hhi⟩ : ∃ z, hiB k o n i = z := ⟨_, rfl⟩
  obtain ⟨se, hse⟩ : ∃ z, seB k o n i = z := ⟨_, rfl⟩
  have d1 : (drB k o n i).extract 0 32 = hi := hhi
  have d2 : (drB k o n i).extract 32 64 = se := hse
  rw [hhi, hse]
  have HCV := hide (fun W : World => conv_oneL W (i : Int))
  rw [show strOfNums [(i : Int)] = sdB i from rfl] at HCV
  have hu8 : IntKind.u8.wrap (i : Int) = (i : Int) := by rw [IntKind.wrap_u8]; omega
  clear hhi hse e0
  generalize drB k o n i = D at *
  generalize sdB i = sd at *
  have HB0 := hide (show Below h w w.drew from (Below.refl _ _).drew)
  go_enter Tryz.func61, Tryz.ntmps61
  go_wp2_with fail
  refine wp_region_held_drew (S := fun W => Below h w W) (by kernel_rfl) (unhide HB0) ?_
  intro hS
  refine wpAnyH_takeD 0 (some 9) (.pointer (some ⟨g, 0, none⟩)) rfl rfl (by kernel_rfl) (by kernel_rfl) (by kernel_rfl) (fun _ _ _ h => h) (Or.inl ⟨by rfl, fun w hSw => by obtain ⟨hq1, hq2, hq3, hq4⟩ := unhide HC w hSw; clear hSw; go_simp; try omega⟩) hS ?_
  simp only [Act.put, List.setIfInBounds_toArray, List.set_cons_zero, List.set_cons_succ]
  refine wpAnyH_takeD 1 (some 10) (.pointer (some ⟨g, 0, none⟩)) rfl rfl (by kernel_rfl) (by kernel_rfl) (by kernel_rfl) (fun _ _ _ h => h) (Or.inl ⟨by rfl, fun w hSw => by obtain ⟨hq1, hq2, hq3, hq4⟩ := unhide HC w hSw; clear hSw; go_simp; try omega⟩) hS ?_
  simp only [Act.put, List.setIfInBounds_toArray, List.set_cons_zero, List.set_cons_succ]
  refine wpAnyH_takeD 2 (some 11) (.pointer (some ⟨g, 2, none⟩)) rfl rfl (by kernel_rfl) (by kernel_rfl) (by kernel_rfl) (fun _ _ _ h => h) (Or.inl ⟨by rfl, fun w hSw => by obtain ⟨hq1, hq2, hq3, hq4⟩ := unhide HC w hSw; clear hSw; go_simp; try omega⟩) hS ?_
  simp only [Act.put, List.setIfInBounds_toArray, List.set_cons_zero, List.set_cons_succ]
  refine wpAnyH_takeD 3 (some 12) (.string n) rfl rfl (by kernel_rfl) (by kernel_rfl) (by kernel_rfl) (fun _ _ _ h => h) (Or.inl ⟨by rfl, fun w hSw => by obtain ⟨hq1, hq2, hq3, hq4⟩ := unhide HC w hSw; clear hSw; go_simp; try omega⟩) hS ?_
  simp only [Act.put, List.setIfInBounds_toArray, List.set_cons_zero, List.set_cons_succ]
  refine wpAnyH_takeD 4 (some 13) (.pointer (some ⟨g, 0, none⟩)) rfl rfl (by kernel_rfl) (by kernel_rfl) (by kernel_rfl) (fun _ _ _ h => h) (Or.inl ⟨by rfl, fun w hSw => by obtain ⟨hq1, hq2, hq3, hq4⟩ := unhide HC w hSw; clear hSw; go_simp; try omega⟩) hS ?_
  simp only [Act.put, List.setIfInBounds_toArray, List.set_cons_zero, List.set_cons_succ]
  refine wpAnyH_takeD 5 (some 14) (.pointer (some ⟨g, 0, none⟩)) rfl rfl (by kernel_rfl) (by kernel_rfl) (by kernel_rfl) (fun _ _ _ h => h) (Or.inl ⟨by rfl, fun w hSw => by obtain ⟨hq1, hq2, hq3, hq4⟩ := unhide HC w hSw; clear hSw; go_simp; try omega⟩) hS ?_
  simp only [Act.put, List.setIfInBounds_toArray, List.set_cons_zero, List.set_cons_succ]
  refine wpAnyH_takeD 6 (some 15) (.pointer (some ⟨g, 3, none⟩)) rfl rfl (by kernel_rfl) (by kernel_rfl) (by kernel_rfl) (fun _ _ _ h => h) (Or.inl ⟨by rfl, fun w hSw => by obtain ⟨hq1, hq2, hq3, hq4⟩ := unhide HC w hSw; clear hSw; go_simp; try omega⟩) hS ?_
  simp only [Act.put, List.setIfInBounds_toArray, List.set_cons_zero, List.set_cons_succ]
  refine wpAnyH_takeD 7 (some 16) (.string o) rfl rfl (by kernel_rfl) (by kernel_rfl) (by kernel_rfl) (fun _ _ _ h => h) (Or.inl ⟨by rfl, fun w hSw => by obtain ⟨hq1, hq2, hq3, hq4⟩ := unhide HC w hSw; clear hSw; go_simp; try omega⟩) hS ?_
  simp only [Act.put, List.setIfInBounds_toArray, List.set_cons_zero, List.set_cons_succ]
  refine wpAnyH_takeD 8 (some 17) (.string (n ++ o)) rfl rfl (by kernel_rfl) (by kernel_rfl) (by kernel_rfl) (fun _ _ _ h => h) (Or.inl ⟨by rfl, fun w hSw => by obtain ⟨hq1, hq2, hq3, hq4⟩ := unhide HC w hSw; clear hSw; go_simp; try omega⟩) hS ?_
  simp only [Act.put, List.setIfInBounds_toArray, List.set_cons_zero, List.set_cons_succ]
  refine wpAnyH_takeD 9 (some 6) (.string (n ++ o)) rfl rfl (by kernel_rfl) (by kernel_rfl) (by kernel_rfl) (fun _ _ _ h => h) (Or.inl ⟨by rfl, fun w hSw => by obtain ⟨hq1, hq2, hq3, hq4⟩ := unhide HC w hSw; clear hSw; go_simp; try omega⟩) hS ?_
  simp only [Act.put, List.setIfInBounds_toArray, List.set_cons_zero, List.set_cons_succ]
  refine wpAnyH_done (by kernel_rfl) ?_ _
  generalize w.drew = y1 at *
  have HB1 := hide (show Below h w y1.drew from hS.drew)
  clear HB0
  obtain ⟨q1, q2, q3, q4⟩ := unhide HC y1 hS
  clear hS
  go_wp2_with fail
  refine wp_region_held_drew (S := fun W => Below h w W) (by kernel_rfl) (unhide HB1) ?_
  intro hS
  refine wpAnyH_takeD 0 (some 23) (.pointer (some ⟨g, 0, none⟩)) rfl rfl (by kernel_rfl) (by kernel_rfl) (by kernel_rfl) (fun _ _ _ h => h) (Or.inl ⟨by rfl, fun w hSw => by obtain ⟨hq1, hq2, hq3, hq4⟩ := unhide HC w hSw; clear hSw; go_simp; try omega⟩) hS ?_
  simp only [Act.put, List.setIfInBounds_toArray, List.set_cons_zero, List.set_cons_succ]
  refine wpAnyH_takeD 1 (some 24) (.pointer (some ⟨g, 0, none⟩)) rfl rfl (by kernel_rfl) (by kernel_rfl) (by kernel_rfl) (fun _ _ _ h => h) (Or.inl ⟨by rfl, fun w hSw => by obtain ⟨hq1, hq2, hq3, hq4⟩ := unhide HC w hSw; clear hSw; go_simp; try omega⟩) hS ?_
  simp only [Act.put, List.setIfInBounds_toArray, List.set_cons_zero, List.set_cons_succ]
  refine wpAnyH_takeD 2 (some 25) (.pointer (some ⟨g, 3, none⟩)) rfl rfl (by kernel_rfl) (by kernel_rfl) (by kernel_rfl) (fun _ _ _ h => h) (Or.inl ⟨by rfl, fun w hSw => by obtain ⟨hq1, hq2, hq3, hq4⟩ := unhide HC w hSw; clear hSw; go_simp; try omega⟩) hS ?_
  simp only [Act.put, List.setIfInBounds_toArray, List.set_cons_zero, List.set_cons_succ]
  refine wpAnyH_takeD 3 (some 26) (.string o) rfl rfl (by kernel_rfl) (by kernel_rfl) (by kernel_rfl) (fun _ _ _ h => h) (Or.inl ⟨by rfl, fun w hSw => by obtain ⟨hq1, hq2, hq3, hq4⟩ := unhide HC w hSw; clear hSw; go_simp; try omega⟩) hS ?_
  simp only [Act.put, List.setIfInBounds_toArray, List.set_cons_zero, List.set_cons_succ]
  refine wpAnyH_takeD 4 (some 27) (.pointer (some ⟨g, 0, none⟩)) rfl rfl (by kernel_rfl) (by kernel_rfl) (by kernel_rfl) (fun _ _ _ h => h) (Or.inl ⟨by rfl, fun w hSw => by obtain ⟨hq1, hq2, hq3, hq4⟩ := unhide HC w hSw; clear hSw; go_simp; try omega⟩) hS ?_
  simp only [Act.put, List.setIfInBounds_toArray, List.set_cons_zero, List.set_cons_succ]
  refine wpAnyH_takeD 5 (some 28) (.pointer (some ⟨g, 0, none⟩)) rfl rfl (by kernel_rfl) (by kernel_rfl) (by kernel_rfl) (fun _ _ _ h => h) (Or.inl ⟨by rfl, fun w hSw => by obtain ⟨hq1, hq2, hq3, hq4⟩ := unhide HC w hSw; clear hSw; go_simp; try omega⟩) hS ?_
  simp only [Act.put, List.setIfInBounds_toArray, List.set_cons_zero, List.set_cons_succ]
  refine wpAnyH_takeD 6 (some 29) (.pointer (some ⟨g, 2, none⟩)) rfl rfl (by kernel_rfl) (by kernel_rfl) (by kernel_rfl) (fun _ _ _ h => h) (Or.inl ⟨by rfl, fun w hSw => by obtain ⟨hq1, hq2, hq3, hq4⟩ := unhide HC w hSw; clear hSw; go_simp; try omega⟩) hS ?_
  simp only [Act.put, List.setIfInBounds_toArray, List.set_cons_zero, List.set_cons_succ]
  refine wpAnyH_takeD 7 (some 30) (.string n) rfl rfl (by kernel_rfl) (by kernel_rfl) (by kernel_rfl) (fun _ _ _ h => h) (Or.inl ⟨by rfl, fun w hSw => by obtain ⟨hq1, hq2, hq3, hq4⟩ := unhide HC w hSw; clear hSw; go_simp; try omega⟩) hS ?_
  simp only [Act.put, List.setIfInBounds_toArray, List.set_cons_zero, List.set_cons_succ]
  refine wpAnyH_takeD 8 (some 31) (.string (o ++ n)) rfl rfl (by kernel_rfl) (by kernel_rfl) (by kernel_rfl) (fun _ _ _ h => h) (Or.inl ⟨by rfl, fun w hSw => by obtain ⟨hq1, hq2, hq3, hq4⟩ := unhide HC w hSw; clear hSw; go_simp; try omega⟩) hS ?_
  simp only [Act.put, List.setIfInBounds_toArray, List.set_cons_zero, List.set_cons_succ]
  refine wpAnyH_takeD 9 (some 6) (.string (o ++ n)) rfl rfl (by kernel_rfl) (by kernel_rfl) (by kernel_rfl) (fun _ _ _ h => h) (Or.inl ⟨by rfl, fun w hSw => by obtain ⟨hq1, hq2, hq3, hq4⟩ := unhide HC w hSw; clear hSw; go_simp; try omega⟩) hS ?_
  simp only [Act.put, List.setIfInBounds_toArray, List.set_cons_zero, List.set_cons_succ]
  refine wpAnyH_done (by kernel_rfl) ?_ _
  generalize y1.drew = y2 at *
  clear q1 q2 q3 q4 HB1
  have HB2 := hide (show Below h w y2.drew from hS.drew)
  have hcv : (convert 86 9 (.slice (some ⟨y2.heap.size, 0, none⟩) 1 1)).run Tryz.prog ((y2.alloc (Obj.cells #[.int .u8 (i : Int)] 5)).drew) = .ok (.string sd) ((y2.alloc (Obj.cells #[.int .u8 (i : Int)] 5)).drew) := unhide HCV y2.drew
  have HB3 := hide (show Below h w ((y2.alloc (Obj.cells #[.int .u8 (i : Int)] 5)).drew) from (unhide HB2).alloc (by have := (unhide HB2).size; omega) _)
  rw [hab]
  clear HCV hS
  go_wp2_with fail
  refine wp_region_held_drew (S := fun W => Below h w W) (by kernel_rfl) (unhide HB2) ?_
  intro hS
  refine wpAnyH_takeD 0 (some 33) (.pointer (some ⟨g, 0, none⟩)) rfl rfl (by kernel_rfl) (by kernel_rfl) (by kernel_rfl) (fun _ _ _ h => h) (Or.inl ⟨by rfl, fun w hSw => by obtain ⟨hq1, hq2, hq3, hq4⟩ := unhide HC w hSw; clear hSw; go_simp; try omega⟩) hS ?_
  simp only [Act.put, List.setIfInBounds_toArray, List.set_cons_zero, List.set_cons_succ]
  refine wpAnyH_takeD 1 (some 34) (.pointer (some ⟨g, 0, none⟩)) rfl rfl (by kernel_rfl) (by kernel_rfl) (by kernel_rfl) (fun _ _ _ h => h) (Or.inl ⟨by rfl, fun w hSw => by obtain ⟨hq1, hq2, hq3, hq4⟩ := unhide HC w hSw; clear hSw; go_simp; try omega⟩) hS ?_
  simp only [Act.put, List.setIfInBounds_toArray, List.set_cons_zero, List.set_cons_succ]
  refine wpAnyH_takeD 2 (some 35) (.pointer (some ⟨g, 0, none⟩)) rfl rfl (by kernel_rfl) (by kernel_rfl) (by kernel_rfl) (fun _ _ _ h => h) (Or.inl ⟨by rfl, fun w hSw => by obtain ⟨hq1, hq2, hq3, hq4⟩ := unhide HC w hSw; clear hSw; go_simp; try omega⟩) hS ?_
  simp only [Act.put, List.setIfInBounds_toArray, List.set_cons_zero, List.set_cons_succ]
  refine wpAnyH_takeD 3 (some 36) (.string k) rfl rfl (by kernel_rfl) (by kernel_rfl) (by kernel_rfl) (fun _ _ _ h => h) (Or.inl ⟨by rfl, fun w hSw => by obtain ⟨hq1, hq2, hq3, hq4⟩ := unhide HC w hSw; clear hSw; go_simp; try omega⟩) hS ?_
  simp only [Act.put, List.setIfInBounds_toArray, List.set_cons_zero, List.set_cons_succ]
  refine wpAnyH_takeD 4 (some 37) (.string ab) rfl rfl (by kernel_rfl) (by kernel_rfl) (by kernel_rfl) (fun _ _ _ h => h) (Or.inl ⟨by rfl, fun w hSw => by obtain ⟨hq1, hq2, hq3, hq4⟩ := unhide HC w hSw; clear hSw; go_simp; try omega⟩) hS ?_
  simp only [Act.put, List.setIfInBounds_toArray, List.set_cons_zero, List.set_cons_succ]
  refine wpAnyH_takeD 5 (some 38) (.string (⟨#[108, 105, 110, 107]⟩ ++ ab)) rfl rfl (by kernel_rfl) (by kernel_rfl) (by kernel_rfl) (fun _ _ _ h => h) (Or.inl ⟨by rfl, fun w hSw => by obtain ⟨hq1, hq2, hq3, hq4⟩ := unhide HC w hSw; clear hSw; go_simp; try omega⟩) hS ?_
  simp only [Act.put, List.setIfInBounds_toArray, List.set_cons_zero, List.set_cons_succ]
  refine wpAnyH_takeD 6 (some 39) (.int .i64 (i : Int)) rfl rfl (by kernel_rfl) (by kernel_rfl) (by kernel_rfl) (fun _ _ _ h => h) (Or.inl ⟨by rfl, fun w hSw => by obtain ⟨hq1, hq2, hq3, hq4⟩ := unhide HC w hSw; clear hSw; go_simp; try omega⟩) hS ?_
  simp only [Act.put, List.setIfInBounds_toArray, List.set_cons_zero, List.set_cons_succ]
  refine wpAnyH_takeD 7 (some 40) (.int .u8 (i : Int)) rfl rfl (by kernel_rfl) (by kernel_rfl) (by kernel_rfl) (fun _ _ _ h => h) (Or.inl ⟨by rfl, fun w hSw => by obtain ⟨hq1, hq2, hq3, hq4⟩ := unhide HC w hSw; clear hSw; go_simp; try omega⟩) hS ?_
  simp only [Act.put, List.setIfInBounds_toArray, List.set_cons_zero, List.set_cons_succ]
  refine wpAnyH_ready (rs := [8]) (by kernel_rfl) (by simp) ?_
  refine AllReadyH.cons rfl (fun K hK => ?_) AllReadyH.nil
  simp only [List.getElem_toArray, List.getElem_cons_succ, List.getElem_cons_zero]
  go_simp
  refine hK.out _ _ (unhide HB3) (fun hS => ?_)
  clear hK K
  refine wpAnyH_ready (rs := [9]) (by kernel_rfl) (by simp) ?_
  refine AllReadyH.cons rfl (fun K hK => ?_) AllReadyH.nil
  simp only [List.getElem_toArray, List.getElem_cons_succ, List.getElem_cons_zero]
  go_simp
  refine hK.out _ _ (unhide HB3) (fun hS => ?_)
  clear hK K
  refine wpAnyH_takeD 10 (some 43) (.string (⟨#[108, 105, 110, 107]⟩ ++ ab ++ sd)) rfl rfl (by kernel_rfl) (by kernel_rfl) (by kernel_rfl) (fun _ _ _ h => h) (Or.inl ⟨by rfl, fun w hSw => by obtain ⟨hq1, hq2, hq3, hq4⟩ := unhide HC w hSw; clear hSw; go_simp; try omega⟩) hS ?_
  simp only [Act.put, List.setIfInBounds_toArray, List.set_cons_zero, List.set_cons_succ]
  refine wpAnyH_ready (rs := [11]) (by kernel_rfl) (by simp) ?_
  refine AllReadyH.cons rfl (fun K hK => ?_) AllReadyH.nil
  simp only [List.getElem_toArray, List.getElem_cons_succ, List.getElem_cons_zero]
  go_simp
  refine (unhide HDE _).mono ?_
  rintro e y5 ⟨rfl, hb⟩
  have hS9 : Below h w y5 := hS.trans (hb.mono (by have := hS.size; omega))
  clear hb
  refine hK.out _ _ hS9 (fun hS => ?_)
  clear hK K
  refine wpAnyH_takeD 12 (some 32) (.tuple #[.string D, .int .i64 0]) rfl rfl (by kernel_rfl) (by kernel_rfl) (by kernel_rfl) (fun _ _ _ h => h) (Or.inl ⟨by rfl, fun w hSw => by obtain ⟨hq1, hq2, hq3, hq4⟩ := unhide HC w hSw; clear hSw; go_simp; try omega⟩) hS ?_
  simp only [Act.put, List.setIfInBounds_toArray, List.set_cons_zero, List.set_cons_succ]
  refine wpAnyH_takeD 13 (some 45) (.string D) rfl rfl (by kernel_rfl) (by kernel_rfl) (by kernel_rfl) (fun _ _ _ h => h) (Or.inl ⟨by rfl, fun w hSw => by obtain ⟨hq1, hq2, hq3, hq4⟩ := unhide HC w hSw; clear hSw; go_simp; try omega⟩) hS ?_
  simp only [Act.put, List.setIfInBounds_toArray, List.set_cons_zero, List.set_cons_succ]
  refine wpAnyH_takeD 14 (some 46) (.int .i64 0) rfl rfl (by kernel_rfl) (by kernel_rfl) (by kernel_rfl) (fun _ _ _ h => h) (Or.inl ⟨by rfl, fun w hSw => by obtain ⟨hq1, hq2, hq3, hq4⟩ := unhide HC w hSw; clear hSw; go_simp; try omega⟩) hS ?_
  simp only [Act.put, List.setIfInBounds_toArray, List.set_cons_zero, List.set_cons_succ]
  refine wpAnyH_takeD 15 (some 7) (.string D) rfl rfl (by kernel_rfl) (by kernel_rfl) (by kernel_rfl) (fun _ _ _ h => h) (Or.inl ⟨by rfl, fun w hSw => by obtain ⟨hq1, hq2, hq3, hq4⟩ := unhide HC w hSw; clear hSw; go_simp; try omega⟩) hS ?_
  simp only [Act.put, List.setIfInBounds_toArray, List.set_cons_zero, List.set_cons_succ]
  refine wpAnyH_takeD 16 (some 8) (.int .i64 0) rfl rfl (by kernel_rfl) (by kernel_rfl) (by kernel_rfl) (fun _ _ _ h => h) (Or.inl ⟨by rfl, fun w hSw => by obtain ⟨hq1, hq2, hq3, hq4⟩ := unhide HC w hSw; clear hSw; go_simp; try omega⟩) hS ?_
  simp only [Act.put, List.setIfInBounds_toArray, List.set_cons_zero, List.set_cons_succ]
  refine wpAnyH_done (by kernel_rfl) ?_ _
  have HB5 := hide (show Below h w y5.drew from hS.drew)
  clear hS HB3 HB2 hcv
  go_wp2_with fail
  refine wp_region_held_drew (S := fun W => Below h w W) (by kernel_rfl) (unhide HB5) ?_
  intro hS
  refine wpAnyH_takeD 0 (some 47) (.string D) rfl rfl (by kernel_rfl) (by kernel_rfl) (by kernel_rfl) (fun _ _ _ h => h) (Or.inl ⟨by rfl, fun w hSw => by clear hSw; go_simp; try omega⟩) hS ?_
  simp only [Act.put, List.setIfInBounds_toArray, List.set_cons_zero, List.set_cons_succ]
  refine wpAnyH_takeD 1 (some 48) (.string hi) rfl rfl (by kernel_rfl) (by kernel_rfl) (by kernel_rfl) (fun _ _ _ h => h) (Or.inl ⟨by rfl, fun w hSw => by clear hSw; go_simp; try omega⟩) hS ?_
  simp only [Act.put, List.setIfInBounds_toArray, List.set_cons_zero, List.set_cons_succ]
  refine wpAnyH_takeD 2 (some 49) (.string D) rfl rfl (by kernel_rfl) (by kernel_rfl) (by kernel_rfl) (fun _ _ _ h => h) (Or.inl ⟨by rfl, fun w hSw => by clear hSw; go_simp; try omega⟩) hS ?_
  simp only [Act.put, List.setIfInBounds_toArray, List.set_cons_zero, List.set_cons_succ]
  refine wpAnyH_takeD 3 (some 50) (.string se) rfl rfl (by kernel_rfl) (by kernel_rfl) (by kernel_rfl) (fun _ _ _ h => h) (Or.inl ⟨by rfl, fun w hSw => by clear hSw; go_simp; try omega⟩) hS ?_
  simp only [Act.put, List.setIfInBounds_toArray, List.set_cons_zero, List.set_cons_succ]
  refine wpAnyH_takeD 4 (some 4) (.string hi) rfl rfl (by kernel_rfl) (by kernel_rfl) (by kernel_rfl) (fun _ _ _ h => h) (Or.inl ⟨by rfl, fun w hSw => by clear hSw; go_simp; try omega⟩) hS ?_
  simp only [Act.put, List.setIfInBounds_toArray, List.set_cons_zero, List.set_cons_succ]
  refine wpAnyH_takeD 5 (some 5) (.string se) rfl rfl (by kernel_rfl) (by kernel_rfl) (by kernel_rfl) (fun _ _ _ h => h) (Or.inl ⟨by rfl, fun w hSw => by clear hSw; go_simp; try omega⟩) hS ?_
  simp only [Act.put, List.setIfInBounds_toArray, List.set_cons_zero, List.set_cons_succ]
  refine wpAnyH_done (by kernel_rfl) ?_ _
  clear HB5
  go_wp2
  go_ret2
  exact ⟨rfl, hS⟩
end Go.Proofs.YtifjmldmilmfjaaGreatDoor

namespace Go.Proofs.YtifjmldmilmfjaaGreatDoor
open Go.RowKit
set_option maxRecDepth 100000
/-- a byte of a raw number -/
def flN (c : Int) (i : Nat) : Int := bits .xor .u8 (c / 2 ^ (8 * (i % 8)) % 256) (3 * (i : Int) % 256)
def flL (c : Int) (n : Nat) : List Int := (List.range n).map (flN c)
def flB (c : Int) (n : Nat) : ByteArray := strOfNums (flL c n)
theorem flL_bytes (c : Int) (n : Nat) : Bytes (flL c n) := by
  intro j
  by_cases h : j < n
  · have e : (flL c n).getD j 0 = flN c j := by
      rw [flL, List.getD_eq_getElem?_getD, List.getElem?_map, List.getElem?_range h]
      rfl
    rw [e]
    exact bits_u8 _ _ _
  · have e : (flL c n).getD j 0 = 0 := by
      rw [List.getD_eq_getElem?_getD, List.getElem?_eq_none (by simp [flL]; omega)]
      rfl
    rw [e]
    decide
theorem flB_size (c : Int) (n : Nat) : (flB c n).size = n := by rw [← nums_len, flB, nums_strOfNums _ (flL_bytes _ _), flL]; simp
/-- the first k bytes are there -/
def flT (c : Int) (n k : Nat) : List Int := flL c k ++ List.replicate (n - k) 0
theorem flT_set (c : Int) (n k : Nat) (h : k < n) : (flT c n k).set k (flN c k) = flT c n (k + 1) := by
  have e1 : (flL c k).length = k := by simp [flL]
  obtain ⟨d, hd⟩ : ∃ d, n - k = d + 1 := ⟨n - k - 1, by omega⟩
  unfold flT
  rw [hd, List.replicate_succ, List.set_append_right _ _ (by omega), e1, Nat.sub_self, List.set_cons_zero, show n - (k + 1) = d by omega]
  rw [show flL c (k + 1) = flL c k ++ [flN c k] from by unfold flL; rw [List.range_succ, List.map_append]; rfl, List.append_assoc]
  rfl
theorem flT_len (c : Int) (n k : Nat) (h : k ≤ n) : (flT c n k).length = n := by simp [flT, flL]; omega
set_option maxHeartbeats 2000000 in
theorem filled_any (c : Int) (n : Nat) (hn : n ≤ 5000) (w : World) : Calls Tryz.prog 14 #[.int .i64 c, .int .i64 (n : Int)] w fun e w' => e = .returned (.string (flB c n)) ∧ Below w.heap.size w w' := by
  obtain ⟨r, hr⟩ : ∃ z, flB c n = z := ⟨_, rfl⟩
  rw [hr]
  have HRR := hide hr
  clear hr
  have HK0 := hide (show KeyInv w (flT c n 0) (w.alloc (.cells ((List.replicate n (0 : Int)).map (Value.int .u8)).toArray 5)) from ⟨arr_new w .u8 (flT c n 0) 5 _ (by simp [flT, flL]), (Below.refl _ _).alloc (Nat.le_refl _) _, by simp⟩)
  have hm := run_make_u8 n n (Nat.le_refl _) (by omega) w
  generalize w.alloc (.cells ((List.replicate n (0 : Int)).map (Value.int .u8)).toArray 5) = x0 at *
  obtain ⟨b, hb⟩ : ∃ b, w.heap.size = b := ⟨_, rfl⟩
  rw [hb] at hm ⊢
  have HBB := hide hb
  clear hb
  go_enter Tryz.func14, Tryz.ntmps14
  go_wp2
  go_loopw [6] (fun i wr => ∃ k : Nat, k ≤ n ∧ i = .int .i64 (k : Int) ∧ Hid (KeyInv w (flT c n k) wr)) (fun i _ => n - (intOf i).toNat)
  case atStart => exact ⟨0, by omega, rfl, HK0⟩
  case round =>
  obtain ⟨k, hk, rfl, HK⟩ := hrel
  obtain ⟨wi, rfl⟩ : ∃ z, z = wr := ⟨_, rfl⟩
  clear HK0
  by_cases hkn : k < n
  · have e1 : (k : Int) < (n : Int) := by omega
    have e2 : (k : Int).tmod 8 = ((k % 8 : Nat) : Int) := by rw [Int.tmod_eq_emod_of_nonneg (by omega)]; omega
    have e4 : wrap64 (3 * (k : Int)) = 3 * (k : Int) := wrap64_eq _ (by omega) (by omega)
    have hv : bits .xor .u8 (c / 2 ^ (8 * (k % 8)) % 256) (3 * (k : Int) % 256) = flN c k := rfl
    have hl := flT_len c n k hk
    have hK := unhide HK
    have hc := hK.1.get k (by omega)
    have hf := hK.1.free k (by omega)
    have HN := hide (hK.put k (by omega) (flN c k) (flT_set c n k hkn))
    rw [unhide HBB] at hc hf HN
    rw [Nat.zero_add] at hc hf
    obtain ⟨ov, hov⟩ : ∃ z, (flT c n k).getD k 0 = z := ⟨_, rfl⟩
    rw [hov] at hc
    generalize flN c k = nv at *
    clear HK hK hl hov
    go_wp2
    go_roundw
    case rel => exact ⟨k + 1, by omega, by go_num, HN⟩
    case measure => simp [intOf] <;> omega
  obtain rfl : k = n := by omega
  have e1 : ¬ (k : Int) < (k : Int) := by omega
  have HQ := unhide HK
  have hT : flT c k k = flL c k := by simp [flT]
  rw [hT] at HQ
  have hcv := run_convert_bytes_arg (P := Tryz.prog) wi 86 5 Tryz.underlying86 Tryz.underlying5 b 0 k k (flL c k) (by simp [flL]) (fun i hi => by rw [← unhide HBB]; exact HQ.1.get i (by simp [flL]; exact hi)) 9 Tryz.underlying9
  rw [show strOfNums (flL c k) = flB c k from rfl, unhide HRR] at hcv
  have HE := hide (show Below b w wi from by rw [← unhide HBB]; exact HQ.2.1)
  clear HQ hT HK
  go_wp2
  go_ret
  exact ⟨rfl, unhide HE⟩
end Go.Proofs.YtifjmldmilmfjaaGreatDoor
