import Derived.Test.YtnnehadmnijhjaaGreatDoorMv15
import Derived.Test.YtnnehadmnijhjaaGreatDoorMv05
import Derived.Test.YtnnehadmnijhjaaGreatDoorMv07
import Derived.Deep.RegionHeld3
import Derived.Test.YtnnehadmnijhjaaGreatDoorMv06
import Derived.StillTailTactics
import Derived.BigRegion
import Derived.Test.YtnnehadmnijhjaaGreatDoorMv12
import Derived.Deep.SlicePairs
import Derived.Test.YtnnehadmnijhjaaGreatDoorMv08
import Derived.SliceStrings
namespace Go.Proofs.YtnnehadmnijhjaaGreatDoor
open Go.RowKit
def leK (c : Nat) : Nat → List Int
  | 0 => []
  | j + 1 => leK c j ++ [((c / 256 ^ j % 256 : Nat) : Int)]
theorem leK_len (c : Nat) : ∀ j, (leK c j).length = j
  | 0 => rfl
  | j + 1 => by rw [leK, List.length_append, leK_len c j]; rfl
theorem leK4 (c : Nat) (h : c ≤ 4294967295) : leK c 4 = le4 c := by
  simp only [leK, le4]
  have h3 : c / 256 ^ 3 % 256 = c / 16777216 := by
    have : (256 : Nat) ^ 3 = 16777216 := by decide
    rw [this]; omega
  rw [h3]
  simp
set_option maxRecDepth 100000 in
set_option maxHeartbeats 4000000 in
theorem rmake_ok (kind number : Nat) (body : ByteArray) (hk : kind ≤ 255) (hn : number ≤ 4294967295) (hbd : body.size ≤ 244) (w : World) :
    Calls Tryz.prog 76 #[.agg #[.int .i64 (kind : Int), .int .i64 (number : Int), .string body]] w fun e w' => e = .returned (.tuple #[.string (strOfNums (makeL (kind : Int) (number : Int) (nums body))), .int .i64 0]) ∧ Below w.heap.size w w' := by
  obtain ⟨n, hnB⟩ : ∃ n, body.size = n := ⟨_, rfl⟩
  obtain ⟨z, hz⟩ : ∃ z, 244 - n = z := ⟨_, rfl⟩
  have H1 := hide (fun W => rbytes_any kind 1 (by omega) (by omega) W)
  have H2 := hide (fun W => rbytes_any n 1 (by omega) (by omega) W)
  have H4 := hide (fun W => rbytes_any number 4 (by omega) (by omega) W)
  have HZ := hide (fun W => rzeros_any z (by omega) W)
  obtain ⟨P, hP⟩ : ∃ P, pageL (kind : Int) (number : Int) (nums body) = P := ⟨_, rfl⟩
  have hPl : P.length = 252 := by rw [← hP]; exact pageL_len _ _ _ (by rw [nums_len]; exact hbd)
  have hPb : Bytes P := by rw [← hP]; exact pageL_bytes _ _ _ (nums_bytes _)
  obtain ⟨c, hc⟩ : ∃ c, chkN P = c := ⟨_, rfl⟩
  have hcl : c ≤ 4294967295 := by rw [← hc]; exact chkN_lt _
  have hmk : makeL (kind : Int) (number : Int) (nums body) = P ++ leK c 4 := by rw [makeL, hP, hc, leK4 c hcl]
  obtain ⟨A1, hA1⟩ : ∃ A, (⟨#[83, 66]⟩ : ByteArray) ++ strOfNums (numB (kind : Int) 1) = A := ⟨_, rfl⟩
  obtain ⟨A2, hA2⟩ : ∃ A, A1 ++ strOfNums (numB (n : Int) 1) = A := ⟨_, rfl⟩
  obtain ⟨A3, hA3⟩ : ∃ A, A2 ++ strOfNums (numB (number : Int) 4) = A := ⟨_, rfl⟩
  obtain ⟨A4, hA4⟩ : ∃ A, A3 ++ body = A := ⟨_, rfl⟩
  obtain ⟨A5, hA5⟩ : ∃ A, A4 ++ strOfNums (List.replicate z 0) = A := ⟨_, rfl⟩
  have hPA : A5 = strOfNums P := by
    rw [← hA5, ← hA4, ← hA3, ← hA2, ← hA1, ← hP, pageL, nums_len, hnB, hz, strOfNums_app, strOfNums_app, strOfNums_app, strOfNums_app, strOfNums_app, strOfNums_nums]
    have e : strOfNums [83, 66] = ⟨#[83, 66]⟩ := rfl
    rw [e, ← ByteArray.append_assoc]
  have z1 : (strOfNums (numB (kind : Int) 1)).size = 1 := by rw [strOfNums_size, numB_len]
  have z2 : (strOfNums (numB (n : Int) 1)).size = 1 := by rw [strOfNums_size, numB_len]
  have z4 : (strOfNums (numB (number : Int) 4)).size = 4 := by rw [strOfNums_size, numB_len]
  have zz : (strOfNums (List.replicate z 0)).size = z := by rw [strOfNums_size]; simp
  generalize strOfNums (numB (kind : Int) 1) = S1 at *
  generalize strOfNums (numB (n : Int) 1) = S2 at *
  generalize strOfNums (numB (number : Int) 4) = S4 at *
  generalize strOfNums (List.replicate z 0) = SZ at *
  have a1 : A1.size = 3 := by rw [← hA1, ByteArray.size_append, z1]; rfl
  have a2 : A2.size = 4 := by rw [← hA2, ByteArray.size_append, a1, z2]
  have a3 : A3.size = 8 := by rw [← hA3, ByteArray.size_append, a2, z4]
  have a4 : A4.size = 8 + n := by rw [← hA4, ByteArray.size_append, a3, hnB]
  have y1 : ¬ 9223372036854775807 < 2 + S1.size := by omega
  have y2 : ¬ 9223372036854775807 < A1.size + S2.size := by omega
  have y3 : ¬ 9223372036854775807 < A2.size + S4.size := by omega
  have y4 : ¬ 9223372036854775807 < A3.size + n := by omega
  have y5 : ¬ 9223372036854775807 < A4.size + SZ.size := by omega
  have HCK := hide (fun W => rcheck_g A5 c (by rw [hPA, nums_strOfNums P hPb, hc]) (by rw [hPA, strOfNums_size, hPl]; decide) W)
  have HPA := hide hPA
  have HMK := hide hmk
  have HP5 := hide (show A5.size = 252 by rw [hPA, strOfNums_size, hPl])
  have hsub : (244 : Int) - (n : Int) = (z : Int) := by omega
  have hn244 : n ≤ 244 := by omega
  have hwz : IntKind.i64.wrap (z : Int) = (z : Int) := wrapI_eq _ (by omega) (by omega)
  have hkk : ¬ (kind : Int) < 0 := by omega
  have hk255 : ¬ 255 < kind := by omega
  have hn0 : ¬ (number : Int) < 0 := by omega
  have hn255 : ¬ 4294967295 < number := by omega
  have hd1 : decide ((kind : Int) < 0) = false := decide_eq_false hkk
  have hd2 : decide (255 < (kind : Int)) = false := decide_eq_false (by omega)
  have hd3 : decide ((number : Int) < 0) = false := decide_eq_false hn0
  have hd4 : decide (4294967295 < (number : Int)) = false := decide_eq_false (by omega)
  rw [unhide HMK]
  clear hP hPl hPb hc hmk hPA z1 z2 z4 zz a1 a2 a3 a4 hz
  have q0 : (w.alloc (Obj.cells #[.int .i64 (kind : Int), .int .i64 (number : Int), .string body] 87)).cell? ⟨w.heap.size, 0, none⟩ = some (.int .i64 (kind : Int)) := by simp
  have q1 : (w.alloc (Obj.cells #[.int .i64 (kind : Int), .int .i64 (number : Int), .string body] 87)).cell? ⟨w.heap.size, 1, none⟩ = some (.int .i64 (number : Int)) := by simp
  have q2 : (w.alloc (Obj.cells #[.int .i64 (kind : Int), .int .i64 (number : Int), .string body] 87)).cell? ⟨w.heap.size, 2, none⟩ = some (.string body) := by simp
  have Bx0 := hide ((Below.refl (w.heap.size + 1) (w.alloc (Obj.cells #[.int .i64 (kind : Int), .int .i64 (number : Int), .string body] 87))).drew)
  go_enter Tryz.func76, Tryz.ntmps76
  go_wp2
  refine wp_region_held_drew (S := fun w' => w'.cell? ⟨w.heap.size, 0, none⟩ = some (.int .i64 (kind : Int)) ∧ w'.cell? ⟨w.heap.size, 1, none⟩ = some (.int .i64 (number : Int)) ∧ w'.cell? ⟨w.heap.size, 2, none⟩ = some (.string body)) (by kernel_rfl) ⟨q0, q1, q2⟩ ?_
  intro hS
  refine wpAnyH_takeD 0 (some 29) (.pointer (some ⟨w.heap.size, 0, none⟩)) rfl rfl (by kernel_rfl) (by kernel_rfl) (by kernel_rfl) (fun _ _ _ h => h) (Or.inl ⟨by rfl, fun w hSw => by obtain ⟨q0, q1, q2⟩ := hSw; go_simp⟩) hS ?_
  simp only [Act.put, List.setIfInBounds_toArray, List.set_cons_zero, List.set_cons_succ]
  refine wpAnyH_takeD 1 (some 30) (.int .i64 (kind : Int)) rfl rfl (by kernel_rfl) (by kernel_rfl) (by kernel_rfl) (fun _ _ _ h => h) (Or.inl ⟨by rfl, fun w hSw => by obtain ⟨q0, q1, q2⟩ := hSw; go_simp⟩) hS ?_
  simp only [Act.put, List.setIfInBounds_toArray, List.set_cons_zero, List.set_cons_succ]
  refine wpAnyH_takeD 4 (some 33) (.pointer (some ⟨w.heap.size, 2, none⟩)) rfl rfl (by kernel_rfl) (by kernel_rfl) (by kernel_rfl) (fun _ _ _ h => h) (Or.inl ⟨by rfl, fun w hSw => by obtain ⟨q0, q1, q2⟩ := hSw; go_simp⟩) hS ?_
  simp only [Act.put, List.setIfInBounds_toArray, List.set_cons_zero, List.set_cons_succ]
  refine wpAnyH_takeD 5 (some 34) (.string body) rfl rfl (by kernel_rfl) (by kernel_rfl) (by kernel_rfl) (fun _ _ _ h => h) (Or.inl ⟨by rfl, fun w hSw => by obtain ⟨q0, q1, q2⟩ := hSw; go_simp⟩) hS ?_
  simp only [Act.put, List.setIfInBounds_toArray, List.set_cons_zero, List.set_cons_succ]
  refine wpAnyH_takeD 6 (some 35) (.int .i64 (n : Int)) rfl rfl (by kernel_rfl) (by kernel_rfl) (by kernel_rfl) (fun _ _ _ h => h) (Or.inl ⟨by rfl, fun w hSw => by obtain ⟨q0, q1, q2⟩ := hSw; go_simp⟩) hS ?_
  simp only [Act.put, List.setIfInBounds_toArray, List.set_cons_zero, List.set_cons_succ]
  refine wpAnyH_takeD 9 (some 38) (.pointer (some ⟨w.heap.size, 1, none⟩)) rfl rfl (by kernel_rfl) (by kernel_rfl) (by kernel_rfl) (fun _ _ _ h => h) (Or.inl ⟨by rfl, fun w hSw => by obtain ⟨q0, q1, q2⟩ := hSw; go_simp⟩) hS ?_
  simp only [Act.put, List.setIfInBounds_toArray, List.set_cons_zero, List.set_cons_succ]
  refine wpAnyH_takeD 10 (some 39) (.int .i64 (number : Int)) rfl rfl (by kernel_rfl) (by kernel_rfl) (by kernel_rfl) (fun _ _ _ h => h) (Or.inl ⟨by rfl, fun w hSw => by obtain ⟨q0, q1, q2⟩ := hSw; go_simp⟩) hS ?_
  simp only [Act.put, List.setIfInBounds_toArray, List.set_cons_zero, List.set_cons_succ]
  refine wpAnyH_takeD 13 (some 42) (.pointer (some ⟨w.heap.size, 2, none⟩)) rfl rfl (by kernel_rfl) (by kernel_rfl) (by kernel_rfl) (fun _ _ _ h => h) (Or.inl ⟨by rfl, fun w hSw => by obtain ⟨q0, q1, q2⟩ := hSw; go_simp⟩) hS ?_
  simp only [Act.put, List.setIfInBounds_toArray, List.set_cons_zero, List.set_cons_succ]
  refine wpAnyH_takeD 14 (some 43) (.string body) rfl rfl (by kernel_rfl) (by kernel_rfl) (by kernel_rfl) (fun _ _ _ h => h) (Or.inl ⟨by rfl, fun w hSw => by obtain ⟨q0, q1, q2⟩ := hSw; go_simp⟩) hS ?_
  simp only [Act.put, List.setIfInBounds_toArray, List.set_cons_zero, List.set_cons_succ]
  refine wpAnyH_takeD 16 (some 45) (.pointer (some ⟨w.heap.size, 2, none⟩)) rfl rfl (by kernel_rfl) (by kernel_rfl) (by kernel_rfl) (fun _ _ _ h => h) (Or.inl ⟨by rfl, fun w hSw => by obtain ⟨q0, q1, q2⟩ := hSw; go_simp⟩) hS ?_
  simp only [Act.put, List.setIfInBounds_toArray, List.set_cons_zero, List.set_cons_succ]
  refine wpAnyH_takeD 17 (some 46) (.string body) rfl rfl (by kernel_rfl) (by kernel_rfl) (by kernel_rfl) (fun _ _ _ h => h) (Or.inl ⟨by rfl, fun w hSw => by obtain ⟨q0, q1, q2⟩ := hSw; go_simp⟩) hS ?_
  simp only [Act.put, List.setIfInBounds_toArray, List.set_cons_zero, List.set_cons_succ]
  refine wpAnyH_takeD 18 (some 47) (.int .i64 (n : Int)) rfl rfl (by kernel_rfl) (by kernel_rfl) (by kernel_rfl) (fun _ _ _ h => h) (Or.inl ⟨by rfl, fun w hSw => by obtain ⟨q0, q1, q2⟩ := hSw; go_simp⟩) hS ?_
  simp only [Act.put, List.setIfInBounds_toArray, List.set_cons_zero, List.set_cons_succ]
  refine wpAnyH_takeD 19 (some 48) (.int .i64 (z : Int)) rfl rfl (by kernel_rfl) (by kernel_rfl) (by kernel_rfl) (fun _ _ _ h => h) (Or.inl ⟨by rfl, fun w hSw => by obtain ⟨q0, q1, q2⟩ := hSw; go_simp⟩) hS ?_
  simp only [Act.put, List.setIfInBounds_toArray, List.set_cons_zero, List.set_cons_succ]
  refine wpAnyH_ready (rs := [2]) (by kernel_rfl) (by simp) ?_
  refine AllReadyH.cons rfl (fun K hK => ?_) AllReadyH.nil
  simp only [List.getElem_toArray, List.getElem_cons_succ, List.getElem_cons_zero]
  go_simp
  refine (unhide H1 _).mono ?_
  rintro e x1 ⟨rfl, hB⟩
  have Bx1 := hide ((unhide Bx0).trans (hB.mono (by have := (unhide Bx0).size; have e : (w.alloc (Obj.cells #[.int .i64 (kind : Int), .int .i64 (number : Int), .string body] 87)).heap.size = w.heap.size + 1 := (by simp); rw [e] at this; exact this)))
  have hSS : x1.cell? ⟨w.heap.size, 0, none⟩ = some (.int .i64 (kind : Int)) ∧ x1.cell? ⟨w.heap.size, 1, none⟩ = some (.int .i64 (number : Int)) ∧ x1.cell? ⟨w.heap.size, 2, none⟩ = some (.string body) := ⟨by rw [(unhide Bx1).cell (p := ⟨w.heap.size, 0, none⟩) (by simp)]; exact q0, by rw [(unhide Bx1).cell (p := ⟨w.heap.size, 1, none⟩) (by simp)]; exact q1, by rw [(unhide Bx1).cell (p := ⟨w.heap.size, 2, none⟩) (by simp)]; exact q2⟩
  refine hK.out _ _ hSS (fun hS => ?_)
  clear hB hSS hK K Bx0
  refine wpAnyH_takeD 3 (some 32) (.string A1) rfl rfl (by kernel_rfl) (by kernel_rfl) (by kernel_rfl) (fun _ _ _ h => h) (Or.inl ⟨by rfl, fun w hSw => by obtain ⟨q0, q1, q2⟩ := hSw; go_simp⟩) hS ?_
  simp only [Act.put, List.setIfInBounds_toArray, List.set_cons_zero, List.set_cons_succ]
  refine wpAnyH_ready (rs := [7]) (by kernel_rfl) (by simp) ?_
  refine AllReadyH.cons rfl (fun K hK => ?_) AllReadyH.nil
  simp only [List.getElem_toArray, List.getElem_cons_succ, List.getElem_cons_zero]
  go_simp
  refine (unhide H2 _).mono ?_
  rintro e x2 ⟨rfl, hB⟩
  have Bx2 := hide ((unhide Bx1).trans (hB.mono (by have := (unhide Bx1).size; have e : (w.alloc (Obj.cells #[.int .i64 (kind : Int), .int .i64 (number : Int), .string body] 87)).heap.size = w.heap.size + 1 := (by simp); rw [e] at this; exact this)))
  have hSS : x2.cell? ⟨w.heap.size, 0, none⟩ = some (.int .i64 (kind : Int)) ∧ x2.cell? ⟨w.heap.size, 1, none⟩ = some (.int .i64 (number : Int)) ∧ x2.cell? ⟨w.heap.size, 2, none⟩ = some (.string body) := ⟨by rw [(unhide Bx2).cell (p := ⟨w.heap.size, 0, none⟩) (by simp)]; exact q0, by rw [(unhide Bx2).cell (p := ⟨w.heap.size, 1, none⟩) (by simp)]; exact q1, by rw [(unhide Bx2).cell (p := ⟨w.heap.size, 2, none⟩) (by simp)]; exact q2⟩
  refine hK.out _ _ hSS (fun hS => ?_)
  clear hB hSS hK K Bx1
  refine wpAnyH_takeD 8 (some 37) (.string A2) rfl rfl (by kernel_rfl) (by kernel_rfl) (by kernel_rfl) (fun _ _ _ h => h) (Or.inl ⟨by rfl, fun w hSw => by obtain ⟨q0, q1, q2⟩ := hSw; go_simp⟩) hS ?_
  simp only [Act.put, List.setIfInBounds_toArray, List.set_cons_zero, List.set_cons_succ]
  refine wpAnyH_ready (rs := [11]) (by kernel_rfl) (by simp) ?_
  refine AllReadyH.cons rfl (fun K hK => ?_) AllReadyH.nil
  simp only [List.getElem_toArray, List.getElem_cons_succ, List.getElem_cons_zero]
  go_simp
  refine (unhide H4 _).mono ?_
  rintro e x3 ⟨rfl, hB⟩
  have Bx3 := hide ((unhide Bx2).trans (hB.mono (by have := (unhide Bx2).size; have e : (w.alloc (Obj.cells #[.int .i64 (kind : Int), .int .i64 (number : Int), .string body] 87)).heap.size = w.heap.size + 1 := (by simp); rw [e] at this; exact this)))
  have hSS : x3.cell? ⟨w.heap.size, 0, none⟩ = some (.int .i64 (kind : Int)) ∧ x3.cell? ⟨w.heap.size, 1, none⟩ = some (.int .i64 (number : Int)) ∧ x3.cell? ⟨w.heap.size, 2, none⟩ = some (.string body) := ⟨by rw [(unhide Bx3).cell (p := ⟨w.heap.size, 0, none⟩) (by simp)]; exact q0, by rw [(unhide Bx3).cell (p := ⟨w.heap.size, 1, none⟩) (by simp)]; exact q1, by rw [(unhide Bx3).cell (p := ⟨w.heap.size, 2, none⟩) (by simp)]; exact q2⟩
  refine hK.out _ _ hSS (fun hS => ?_)
  clear hB hSS hK K Bx2
  refine wpAnyH_takeD 12 (some 41) (.string A3) rfl rfl (by kernel_rfl) (by kernel_rfl) (by kernel_rfl) (fun _ _ _ h => h) (Or.inl ⟨by rfl, fun w hSw => by obtain ⟨q0, q1, q2⟩ := hSw; go_simp⟩) hS ?_
  simp only [Act.put, List.setIfInBounds_toArray, List.set_cons_zero, List.set_cons_succ]
  refine wpAnyH_takeD 15 (some 44) (.string A4) rfl rfl (by kernel_rfl) (by kernel_rfl) (by kernel_rfl) (fun _ _ _ h => h) (Or.inl ⟨by rfl, fun w hSw => by obtain ⟨q0, q1, q2⟩ := hSw; go_simp⟩) hS ?_
  simp only [Act.put, List.setIfInBounds_toArray, List.set_cons_zero, List.set_cons_succ]
  refine wpAnyH_ready (rs := [20]) (by kernel_rfl) (by simp) ?_
  refine AllReadyH.cons rfl (fun K hK => ?_) AllReadyH.nil
  simp only [List.getElem_toArray, List.getElem_cons_succ, List.getElem_cons_zero]
  go_simp
  refine (unhide HZ _).mono ?_
  rintro e x4 ⟨rfl, hB⟩
  have Bx4 := hide ((unhide Bx3).trans (hB.mono (by have := (unhide Bx3).size; have e : (w.alloc (Obj.cells #[.int .i64 (kind : Int), .int .i64 (number : Int), .string body] 87)).heap.size = w.heap.size + 1 := (by simp); rw [e] at this; exact this)))
  have hSS : x4.cell? ⟨w.heap.size, 0, none⟩ = some (.int .i64 (kind : Int)) ∧ x4.cell? ⟨w.heap.size, 1, none⟩ = some (.int .i64 (number : Int)) ∧ x4.cell? ⟨w.heap.size, 2, none⟩ = some (.string body) := ⟨by rw [(unhide Bx4).cell (p := ⟨w.heap.size, 0, none⟩) (by simp)]; exact q0, by rw [(unhide Bx4).cell (p := ⟨w.heap.size, 1, none⟩) (by simp)]; exact q1, by rw [(unhide Bx4).cell (p := ⟨w.heap.size, 2, none⟩) (by simp)]; exact q2⟩
  refine hK.out _ _ hSS (fun hS => ?_)
  clear hB hSS hK K Bx3
  refine wpAnyH_takeD 21 (some 50) (.string A5) rfl rfl (by kernel_rfl) (by kernel_rfl) (by kernel_rfl) (fun _ _ _ h => h) (Or.inl ⟨by rfl, fun w hSw => by obtain ⟨q0, q1, q2⟩ := hSw; go_simp⟩) hS ?_
  simp only [Act.put, List.setIfInBounds_toArray, List.set_cons_zero, List.set_cons_succ]
  refine wpAnyH_takeD 22 (some 4) (.string A5) rfl rfl (by kernel_rfl) (by kernel_rfl) (by kernel_rfl) (fun _ _ _ h => h) (Or.inl ⟨by rfl, fun w hSw => by obtain ⟨q0, q1, q2⟩ := hSw; go_simp⟩) hS ?_
  simp only [Act.put, List.setIfInBounds_toArray, List.set_cons_zero, List.set_cons_succ]
  refine wpAnyH_done (by kernel_rfl) ?_ _
  clear hS q0 q1 q2 y1 y2 y3 y4 y5 hA1 hA2 hA3 hA4 hA5
  go_wp2_with fail
  refine (unhide HCK _).mono ?_
  rintro e x5 ⟨rfl, rfl⟩
  go_wp2
  go_loopw [4, 5, 6] (fun s u i wr => ∃ j m : Nat, j ≤ 4 ∧ m = c / 256 ^ j ∧ u = .int .i64 (m : Int) ∧ i = .int .i64 (j : Int) ∧ s = .string (strOfNums (P ++ leK c j)) ∧ Below (w.heap.size + 1) (w.alloc (Obj.cells #[.int .i64 (kind : Int), .int .i64 (number : Int), .string body] 87)) wr) (fun _ _ i _ => 4 - (intOf i).toNat)
  case atStart => exact ⟨0, c, by omega, by simp, rfl, rfl, by rw [leK, List.append_nil, ← unhide HPA], unhide Bx4⟩
  case round =>
    obtain ⟨j, m, hj, hm, rfl, rfl, rfl, hBe⟩ := hrel
    obtain ⟨wo, rfl⟩ : ∃ wo, wo = wr := ⟨_, rfl⟩
    have HBE := hide hBe
    clear hBe Bx4
    have hml : m ≤ 4294967295 := by rw [hm]; exact Nat.le_trans (Nat.div_le_self _ _) hcl
    by_cases hj4 : j < 4
    · have hr : ((m : Int)).tmod 256 = ((m % 256 : Nat) : Int) := rfl
      obtain ⟨R, hR⟩ : ∃ R, m % 256 = R := ⟨_, rfl⟩
      obtain ⟨Q, hQ⟩ : ∃ Q, m / 256 = Q := ⟨_, rfl⟩
      have hq : ((m : Int)).tdiv 256 = (Q : Int) := by rw [← hQ]; rfl
      rw [hR] at hr
      have hR8 : R < 256 := by omega
      have hw8 : IntKind.u8.wrap (R : Int) = (R : Int) := by rw [IntKind.wrap_u8']; omega
      have hcv := run_one wo (R : Int) 5
      have hsz : (strOfNums (P ++ leK c j)).size ≤ 256 := by
        rw [strOfNums_app, ByteArray.size_append, ← unhide HPA, unhide HP5, strOfNums_size]
        have : (leK c j).length = j := leK_len c j
        omega
      have hs1 : (strOfNums [(R : Int)]).size = 1 := rfl
      have HN := hide (show strOfNums (P ++ leK c j) ++ strOfNums [(R : Int)] = strOfNums (P ++ leK c (j + 1)) by
        rw [← strOfNums_app, leK, ← hm, hR, List.append_assoc])
      have HQ := hide (show Q = c / 256 ^ (j + 1) by rw [← hQ, hm, Nat.div_div_eq_div_mul, Nat.pow_succ])
      have hQl : Q ≤ m := by omega
      clear hR hQ hm
      generalize strOfNums (P ++ leK c j) = S at *
      generalize strOfNums [(R : Int)] = S1 at *
      have y1 : ¬ 9223372036854775807 < S.size + S1.size := by omega
      have y2 : ¬ 9223372036854775807 < S.size + 1 := by omega
      go_wp2
      go_roundw
      case rel => exact ⟨j + 1, Q, by omega, unhide HQ, by go_num, by go_num, by rw [unhide HN], (unhide HBE).alloc (by have := (unhide HBE).size; simp at this; omega) _⟩
      case measure => simp [intOf]; omega
    · have hj4' : j = 4 := by omega
      subst hj4'
      go_wp2
      go_ret2
      exact ⟨rfl, ((Below.refl w.heap.size w).alloc (Nat.le_refl _) _).trans ((unhide HBE).mono (by omega))⟩
end Go.Proofs.YtnnehadmnijhjaaGreatDoor

namespace Go.Proofs.YtnnehadmnijhjaaGreatDoor
open Go.RowKit
set_option maxRecDepth 100000 in
set_option maxHeartbeats 2000000 in
theorem rmake_any (kind number : Int) (body : ByteArray) (w : World) :
    Calls Tryz.prog 76 #[.agg #[.int .i64 kind, .int .i64 number, .string body]] w fun e w' => e = .returned (.tuple #[.string (makeB kind number body), .int .i64 (errM kind number body.size)]) ∧ Below w.heap.size w w' := by
  by_cases hok : fitsP kind 1 ∧ fitsP number 4
  · obtain ⟨hk, hn⟩ := hok
    have hk' := (fits1 kind).1 hk
    have hn' := (fits4 number).1 hn
    obtain ⟨K, rfl⟩ := Int.eq_ofNat_of_zero_le hk'.1
    obtain ⟨N, rfl⟩ := Int.eq_ofNat_of_zero_le hn'.1
    by_cases hb : body.size ≤ 244
    · have hE : errM (K : Int) (N : Int) body.size = 0 := by rw [errM, if_neg (by simp [hk, hn]), if_neg (by omega)]
      rw [makeB, if_pos hE, hE]
      exact rmake_ok K N body (by omega) (by omega) hb w
    · have hE : errM (K : Int) (N : Int) body.size = 32 := by rw [errM, if_neg (by simp [hk, hn]), if_pos (by omega)]
      rw [makeB, if_neg (by rw [hE]; decide), hE]
      have hb' : 244 < body.size := by omega
      have hk255 : K ≤ 255 := by omega
      have hn255 : N ≤ 4294967295 := by omega
      clear hk hn hE hk' hn'
      go_enter Tryz.func76, Tryz.ntmps76
      go_wp2
      go_ret2
      exact ⟨rfl, (Below.refl _ w).alloc (Nat.le_refl _) _⟩
  · have hE : errM kind number body.size = 1 := by rw [errM, if_pos (by by_cases hk : fitsP kind 1 <;> by_cases hn : fitsP number 4 <;> simp_all)]
    rw [makeB, if_neg (by rw [hE]; decide), hE]
    rw [fits1, fits4] at hok
    clear hE
    by_cases h1 : kind < 0
    · clear hok
      go_enter Tryz.func76, Tryz.ntmps76
      go_wp2
      go_ret2
      exact ⟨rfl, (Below.refl _ w).alloc (Nat.le_refl _) _⟩
    · by_cases h2 : 255 < kind
      · clear hok
        go_enter Tryz.func76, Tryz.ntmps76
        go_wp2
        go_ret2
        exact ⟨rfl, (Below.refl _ w).alloc (Nat.le_refl _) _⟩
      · by_cases h3 : number < 0
        · clear hok
          go_enter Tryz.func76, Tryz.ntmps76
          go_wp2
          go_ret2
          exact ⟨rfl, (Below.refl _ w).alloc (Nat.le_refl _) _⟩
        · have h4 : 4294967295 < number := by omega
          clear hok
          go_enter Tryz.func76, Tryz.ntmps76
          go_wp2
          go_ret2
          exact ⟨rfl, (Below.refl _ w).alloc (Nat.le_refl _) _⟩
/-- The number that stands at a page's bytes 4 to 7, as far as it was read. -/
def nm4 (s : ByteArray) (j : Nat) : Int := beN (((nums s).drop 4).take j)
theorem nm4_step (s : ByteArray) (j : Nat) (h : 4 + j < s.size) : nm4 s (j + 1) = 256 * nm4 s j + (nums s).getD (4 + j) 0 := by
  unfold nm4
  rw [be_take _ _ (by rw [List.length_drop, nums_len]; omega)]
  congr 1
  rw [List.getD_eq_getElem?_getD, List.getElem?_drop, ← List.getD_eq_getElem?_getD]
theorem nm4_bound (s : ByteArray) (j : Nat) : 0 ≤ nm4 s j ∧ nm4 s j < 256 ^ j := by
  have : Bytes ((nums s).drop 4) := Bytes.of_mem (fun x hx => (nums_bytes s).mem (List.mem_of_mem_drop hx))
  exact be_bound _ this j
set_option maxRecDepth 100000 in
set_option maxHeartbeats 4000000 in
theorem rparse_any (s : ByteArray) (w : World) :
    Calls Tryz.prog 42 #[.string s] w fun e w' => ParsePost s w e w' := by
  by_cases hs : s.size = 256
  · have hix := fun (i : Nat) (hi : i < 256) (W : World) => index_str s i (by omega) W
    have hb3 := nums_bytes s 3
    have hb2 := nums_bytes s 2
    have i2 := hix 2 (by omega)
    have i3 := hix 3 (by omega)
    obtain ⟨n, hn⟩ := Int.eq_ofNat_of_zero_le hb3.1
    obtain ⟨kd, hk⟩ := Int.eq_ofNat_of_zero_le hb2.1
    rw [hn] at i3
    rw [hk] at i2
    have i3' : ∀ W : World, (Instr.index 9 (.string s) (.int .i64 3)).run Tryz.prog W = .ok (.int .u8 (n : Int)) W := i3
    have i2' : ∀ W : World, (Instr.index 9 (.string s) (.int .i64 2)).run Tryz.prog W = .ok (.int .u8 (kd : Int)) W := i2
    have hszi : ((s.size : Int) != 256) = false := by rw [hs]; rfl
    have hnl : n < 256 := by omega
    have hkl : kd < 256 := by omega
    have hwn : IntKind.i64.wrap (n : Int) = (n : Int) := wrapI_eq _ (by omega) (by omega)
    have hwk : IntKind.i64.wrap (kd : Int) = (kd : Int) := wrapI_eq _ (by omega) (by omega)
    by_cases hn4 : n ≤ 244
    · have hbe : pbd s = s.extract 8 (8 + n) := pbd_eq s n (by omega) hn
      have hke : pkd s = (kd : Int) := by rw [(ps2_eq s (by omega)).1, hk]
      have hne : pnm s = nm4 s 4 := (ps4_eq s (by omega)).1
      obtain ⟨bd, hbd⟩ : ∃ b, s.extract 8 (8 + n) = b := ⟨_, rfl⟩
      have hbz : bd.size = n := by rw [← hbd]; simp; omega
      have hfit : fitsP (kd : Int) 1 := (fits1 _).2 ⟨by omega, by omega⟩
      have h44 := nm4_bound s 4
      have h256 : (256 : Int) ^ 4 = 4294967296 := by decide
      have hfit4 : fitsP (nm4 s 4) 4 := (fits4 _).2 ⟨by omega, by omega⟩
      have hEE : errM (kd : Int) (nm4 s 4) bd.size = 0 := by rw [errM, if_neg (by simp [hfit, hfit4]), if_neg (by omega)]
      have HMK := hide (fun W => rmake_any (kd : Int) (nm4 s 4) bd W)
      rw [hEE] at HMK
      rw [hbd] at hbe
      have HPK := hide (And.intro hke (And.intro hne hbe))
      have HEE := hide hEE
      have HBD := hide hbd
      have HIX := hide hix
      have hw : IntKind.i64.wrap (8 + (n : Int)) = 8 + (n : Int) := wrapI_eq _ (by omega) (by omega)
      have ht8 : (8 + (n : Int)).toNat = 8 + n := by omega
      have hb8 : (8 + (n : Int)) ≤ 256 := by omega
      have hb88 : (8 : Int) ≤ 8 + (n : Int) := by omega
      have hcv3 : ¬ 244 < n := by omega
      clear hix hb3 hb2 i2 i3 hn hk hfit hfit4 h44 h256 hEE hke hne hbe
      have hsB : (s.size : Int) = 256 := by omega
      have BX := hide (show Below w.heap.size w (w.alloc (Obj.cells #[.int .i64 0, .int .i64 0, .string ⟨#[]⟩] 87)) from (Below.refl _ w).alloc (Nat.le_refl _) _)
      go_enter Tryz.func42, Tryz.ntmps42
      go_wp2
      go_region
      all_goals go_wp2
      go_loopw [5] (fun u wr => ∃ j : Nat, j ≤ 4 ∧ u = .int .i64 (4 + (j : Int)) ∧ Blk wr (w.heap.size + 1) #[.int .i64 (kd : Int), .int .i64 (nm4 s j), .string bd] 87 ∧ Blk wr w.heap.size #[.int .i64 0, .int .i64 0, .string ⟨#[]⟩] 87 ∧ Below w.heap.size w wr) (fun u _ => 8 - (intOf u).toNat)
      case atStart =>
        refine ⟨0, by omega, rfl, ?_, ?_, ?_⟩
        · have h := Blk.new (w.alloc (Obj.cells #[.int .i64 0, .int .i64 0, .string ⟨#[]⟩] 87)) 87 #[.int .i64 (kd : Int), .int .i64 0, .string bd]
          have e : (w.alloc (Obj.cells #[.int .i64 0, .int .i64 0, .string ⟨#[]⟩] 87)).heap.size = w.heap.size + 1 := by simp
          rw [e] at h
          exact h
        · exact (Blk.new w 87 #[.int .i64 0, .int .i64 0, .string ⟨#[]⟩]).alloc _
        · exact ((unhide BX).alloc (by simp) _).drew
      case round =>
        obtain ⟨j, hj, rfl, hC, hA, hBe⟩ := hrel
        obtain ⟨wo, rfl⟩ : ∃ wo, wo = wr := ⟨_, rfl⟩
        clear BX
        by_cases hj4 : j < 4
        · have hmb := nm4_bound s j
          have hp : (256 : Int) ^ j ≤ 256 ^ 3 := by
            have h1 : (256 : Nat) ^ j ≤ 256 ^ 3 := Nat.pow_le_pow_right (by decide) (by omega)
            exact_mod_cast h1
          have h3 : (256 : Int) ^ 3 = 16777216 := by decide
          obtain ⟨M, hM⟩ := Int.eq_ofNat_of_zero_le hmb.1
          have hMl : M < 16777216 := by omega
          have hix := unhide HIX (4 + j) (by omega)
          have hdb := nums_bytes s (4 + j)
          obtain ⟨d, hd⟩ := Int.eq_ofNat_of_zero_le hdb.1
          rw [hd, show ((4 + j : Nat) : Int) = 4 + (j : Int) by omega] at hix
          have hdl : d < 256 := by omega
          have HST := hide (show nm4 s (j + 1) = ((256 * M + d : Nat) : Int) by rw [nm4_step s j (by omega), hM, hd]; omega)
          have c1 : wo.cell? ⟨w.heap.size + 1, 1, none⟩ = some (.int .i64 (M : Int)) := by rw [hC.cell 1, hM]; rfl
          have f1 := hC.frozen 1
          have w1 : IntKind.i64.wrap (256 * (M : Int)) = 256 * (M : Int) := wrapI_eq _ (by omega) (by omega)
          have w2 : IntKind.i64.wrap (256 * (M : Int) + (d : Int)) = 256 * (M : Int) + (d : Int) := wrapI_eq _ (by omega) (by omega)
          have wd : IntKind.i64.wrap (d : Int) = (d : Int) := wrapI_eq _ (by omega) (by omega)
          have HC := hide hC
          have HA := hide hA
          have HB := hide hBe
          have hj8 : 4 + (j : Int) < 8 := by omega
          clear hC hA hBe hmb hp h3 hM hd hdb
          go_wp2
          go_still_tail 9, (by kernel_rfl)
          change wpList _ _ _ _ _ wo.drew
          go_wp2
          go_roundw
          case rel =>
            refine ⟨j + 1, by omega, by go_num, ?_, (unhide HA).other _ _ (by simp), ((unhide HB).setCell (by simp) _).drew⟩
            rw [unhide HST, show (((256 * M + d : Nat) : Int)) = 256 * (M : Int) + (d : Int) by omega]
            exact (unhide HC).set 1 _
          case measure => simp [intOf]; omega
        · have hj' : j = 4 := by omega
          subst hj'
          have c0 : wo.cell? ⟨w.heap.size + 1, 0, none⟩ = some (.int .i64 (kd : Int)) := by rw [hC.cell 0]; rfl
          have c1 : wo.cell? ⟨w.heap.size + 1, 1, none⟩ = some (.int .i64 (nm4 s 4)) := by rw [hC.cell 1]; rfl
          have c2 : wo.cell? ⟨w.heap.size + 1, 2, none⟩ = some (.string bd) := by rw [hC.cell 2]; rfl
          have hlc := hC.lt
          have HC := hide hC
          have HA := hide hA
          have HB := hide hBe
          obtain ⟨nm, hnm⟩ : ∃ m, nm4 s 4 = m := ⟨_, rfl⟩
          obtain ⟨mb, hmb⟩ : ∃ m, makeB (kd : Int) nm bd = m := ⟨_, rfl⟩
          rw [hnm] at c1 HMK HC
          rw [hmb] at HMK
          have hpk : pkd s = (kd : Int) ∧ pnm s = nm ∧ pbd s = bd := ⟨(unhide HPK).1, (unhide HPK).2.1.trans hnm, (unhide HPK).2.2⟩
          have hee : errM (kd : Int) nm bd.size = 0 := by rw [← hnm]; exact unhide HEE
          have HOK := hide (show prOk s ↔ mb = s by
            unfold prOk
            rw [hpk.1, hpk.2.1, hpk.2.2, hmb]
            exact ⟨fun q => q.2, fun q => ⟨hee, q⟩⟩)
          have HPK2 := hide hpk
          clear hC hA hBe hnm hmb hpk hee HPK
          go_wp2_with fail
          refine (unhide HMK _).mono ?_
          rintro ev x1 ⟨rfl, hB1⟩
          have hA1 := (unhide HA).below hB1 (by omega)
          have hC1 := (unhide HC).below hB1 hlc
          have a0 : x1.cell? ⟨w.heap.size, 0, none⟩ = some (.int .i64 0) := by rw [hA1.cell 0]; rfl
          have a1 : x1.cell? ⟨w.heap.size, 1, none⟩ = some (.int .i64 0) := by rw [hA1.cell 1]; rfl
          have a2 : x1.cell? ⟨w.heap.size, 2, none⟩ = some (.string ⟨#[]⟩) := by rw [hA1.cell 2]; rfl
          have f0 := hA1.frozen 0
          have f1 := hA1.frozen 1
          have f2 := hA1.frozen 2
          have d0 : x1.cell? ⟨w.heap.size + 1, 0, none⟩ = some (.int .i64 (kd : Int)) := by rw [hC1.cell 0]; rfl
          have d1 : x1.cell? ⟨w.heap.size + 1, 1, none⟩ = some (.int .i64 nm) := by rw [hC1.cell 1]; rfl
          have d2 : x1.cell? ⟨w.heap.size + 1, 2, none⟩ = some (.string bd) := by rw [hC1.cell 2]; rfl
          have HA1 := hide hA1
          have HB1 := hide (show Below w.heap.size w x1 from (unhide HB).trans (hB1.mono (by omega)))
          clear hA1 hC1 hB1 c0 c1 c2
          by_cases hms : mb = s
          · have hq : (mb.toList == s.toList) = true := by rw [hms]; simp
            have HMS := hide hms
            clear hms
            go_wp2
            have hA7 := (((unhide HA1).set 0 (.int .i64 (kd : Int))).set 1 (.int .i64 nm)).set 2 (.string bd)
            refine bodyPost_ret (v := .tuple #[.agg #[.int .i64 (kd : Int), .int .i64 nm, .string bd], .int .i64 0]) ?_ rfl ?_
            · exact results_pair (p := 2) (q := 3) (ty := 87) rfl _ _ _ ⟨w.heap.size, 0, none⟩ (by rfl) _ (load_page _ _ _ _ _ hA7) _ (by rfl)
            · refine ⟨.inl ⟨(unhide HOK).2 (unhide HMS), ?_⟩, (((unhide HB1).setCell (p := ⟨w.heap.size, 0, none⟩) (Nat.le_refl _) _).setCell (p := ⟨w.heap.size, 1, none⟩) (Nat.le_refl _) _).setCell (p := ⟨w.heap.size, 2, none⟩) (Nat.le_refl _) _⟩
              rw [(unhide HPK2).1, (unhide HPK2).2.1, (unhide HPK2).2.2]
          · have hq : (mb.toList == s.toList) = false := str_ne hms
            have HMS := hide hms
            clear hms
            go_wp2
            have hA7 := (((unhide HA1).set 0 (.int .i64 0)).set 1 (.int .i64 0)).set 2 (.string ⟨#[]⟩)
            refine bodyPost_ret (v := .tuple #[.agg #[.int .i64 0, .int .i64 0, .string ⟨#[]⟩], .int .i64 35]) ?_ rfl ?_
            · exact results_pair (p := 2) (q := 3) (ty := 87) rfl _ _ _ ⟨w.heap.size, 0, none⟩ (by rfl) _ (load_page _ _ _ _ _ hA7) _ (by rfl)
            · exact ⟨.inr ⟨fun q => unhide HMS ((unhide HOK).1 q), rfl⟩, (((unhide HB1).setCell (p := ⟨w.heap.size, 0, none⟩) (Nat.le_refl _) _).setCell (p := ⟨w.heap.size, 1, none⟩) (Nat.le_refl _) _).setCell (p := ⟨w.heap.size, 2, none⟩) (Nat.le_refl _) _⟩
    · have hbad : ¬ prOk s := fun q => by
        have := (prOk_size s q).2
        rw [hn] at this
        omega
      have HBAD := hide hbad
      have hn5 : 244 < n := by omega
      have hA := (((Blk.new w 87 #[.int .i64 0, .int .i64 0, .string ⟨#[]⟩]).set 0 (.int .i64 0)).set 1 (.int .i64 0)).set 2 (.string ⟨#[]⟩)
      have HA := hide hA
      clear hix hb3 hb2 i2 i3 hn hk hbad hA
      go_enter Tryz.func42, Tryz.ntmps42
      go_wp2
      refine bodyPost_ret (v := .tuple #[.agg #[.int .i64 0, .int .i64 0, .string ⟨#[]⟩], .int .i64 35]) ?_ rfl ?_
      · exact results_pair (p := 2) (q := 3) (ty := 87) rfl _ _ _ ⟨w.heap.size, 0, none⟩ (by rfl) _ (load_page _ _ _ _ _ (Blk.new w _ _)) _ (by rfl)
      · exact ⟨.inr ⟨unhide HBAD, rfl⟩, (Below.refl _ w).alloc (Nat.le_refl _) _⟩
  · have hbad : ¬ prOk s := fun q => hs (prOk_size s q).1
    have HBAD := hide hbad
    have hszi : ((s.size : Int) != 256) = true := by simp; omega
    clear hbad
    go_enter Tryz.func42, Tryz.ntmps42
    go_wp2
    refine bodyPost_ret (v := .tuple #[.agg #[.int .i64 0, .int .i64 0, .string ⟨#[]⟩], .int .i64 35]) ?_ rfl ?_
    · exact results_pair (p := 2) (q := 3) (ty := 87) rfl _ _ _ ⟨w.heap.size, 0, none⟩ (by rfl) _ (load_page _ _ _ _ _ (Blk.new w _ _)) _ (by rfl)
    · exact ⟨.inr ⟨unhide HBAD, rfl⟩, (Below.refl _ w).alloc (Nat.le_refl _) _⟩
end Go.Proofs.YtnnehadmnijhjaaGreatDoor

namespace Go.Proofs.YtnnehadmnijhjaaGreatDoor
open Go.ChangeShapes Go.WideShapes Go.ChangeAt Go.RowKit
end Go.Proofs.YtnnehadmnijhjaaGreatDoor

namespace Go.Proofs.YtnnehadmnijhjaaGreatDoor
open Go.ChangeShapes Go.WideShapes Go.ChangeAt Go.RowKit
theorem weightsAll_mem {H : Type} {P : Program} {e : TypeId} : ∀ {l : List (DataW H)} {d : DataW H}, d ∈ l → ∀ n ∈ d.weights P e, n ∈ DataW.weightsAll P e l
  | d' :: r, d, hd, n, hn => by
    simp only [DataW.weightsAll, List.mem_append]
    rcases List.mem_cons.1 hd with rfl | h
    · exact Or.inl hn
    · exact Or.inr (weightsAll_mem h n hn)
end Go.Proofs.YtnnehadmnijhjaaGreatDoor

namespace Go.Proofs.YtnnehadmnijhjaaGreatDoor
open Go.ChangeShapes Go.WideShapes Go.ChangeAt Go.RowKit
set_option maxRecDepth 100000 in
/-- An argument []string, with the bound that its texts' bytes make. -/
theorem open_slz {H : Type} {enc : TypeId × Value → H} {w : World} {base : Nat} {spare : Nat → Bool} {held : Bool} {fuel : Nat} {a : Option Addr} {len cap : Nat} {x : DataW H × List MemPlace} (h : DataW.trod enc Tryz.prog w base spare held fuel 22 [.slice a len cap] = some x)
    (hs : ∀ n ∈ x.1.weights Tryz.prog 22, n ≤ reachBytes) :
    ∃ l : List ByteArray, len = l.length ∧ Strs w a l ∧ (∀ t ∈ l, t.size ≤ 140737488355328) := by
  rcases open_strings Tryz.underlying22 Tryz.underlying9 (by kernel_rfl) h with ⟨hcs, _⟩ | ⟨ad, l, c, zs, hcs, _, hl, hm, hz, hd, hcell, _⟩
  · simp at hcs
    obtain ⟨rfl, rfl, rfl⟩ := hcs
    exact ⟨[], rfl, fun j hj => (by cases hj), fun t ht => (by cases ht)⟩
  · simp at hcs
    obtain ⟨rfl, rfl, rfl⟩ := hcs
    have hzl : len ≤ zs.length := by rw [hz]; split <;> omega
    have hlen : (zs.take len).length = len := by simp; omega
    refine ⟨zs.take len, hlen.symm, fun j hj => ?_, fun t ht => ?_⟩
    · rw [hlen] at hj
      have hc := hcell j (by omega)
      have hc0 := hcell 0 (by omega)
      obtain ⟨b, off, spot⟩ := ad
      have hspot : spot = none := by simpa [Addr.add] using World.cell?_spot hc0
      subst hspot
      rw [Addr.add_mid] at hc
      refine ⟨b, off, rfl, World.block_lt_of_cell? w _ hc, hc.trans ?_⟩
      simp [hj]
    · have hw : t.data.toList.length ≤ reachBytes := by
        refine hs _ ?_
        rw [hd]
        simp only [DataW.weights, Tryz.underlying22, List.mem_cons, List.mem_append]
        refine Or.inr (Or.inl (weightsAll_mem (d := .lit (.string t.data.toList)) (List.mem_map.2 ⟨t, ht, rfl⟩) _ ?_))
        simp [DataW.weights]
      have e : t.data.toList.length = t.size := rfl
      unfold reachBytes at hw
      omega
end Go.Proofs.YtnnehadmnijhjaaGreatDoor
