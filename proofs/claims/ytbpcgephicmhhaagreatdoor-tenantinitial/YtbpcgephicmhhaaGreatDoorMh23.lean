import Derived.Test.YtbpcgephicmhhaaGreatDoorMh22
import Derived.Test.YtbpcgephicmhhaaGreatDoorMh04
import Derived.Test.YtbpcgephicmhhaaGreatDoorMh06
import Derived.Deep.RegionHeld3
import Derived.Test.YtbpcgephicmhhaaGreatDoorMh05
import Derived.StillTailTactics
import Derived.BigRegion
import Derived.Test.YtbpcgephicmhhaaGreatDoorMh00
import Derived.Test.YtbpcgephicmhhaaGreatDoorCards
import Derived.Test.YtbpcgephicmhhaaGreatDoorTie
import Derived.ProofKit
import Derived.OpenShut
import Derived.ShutString
import Derived.SizedLaws
import Derived.Deep.DeepHandedRow
import Derived.LaidLaws
import Derived.LaidHandle
import Derived.Lib.LaidTab
import Derived.Deep.Slices
import Derived.Deep.Strs
import Derived.Lib.SmallJoins
namespace Go.Proofs.YtbpcgephicmhhaaGreatDoor
open Go.RowKit
def leK (c : Nat) : Nat → List Int
  | 0 => []
  | j + 1 => leK c j ++ [((c / 256 ^ j % 256 : Nat) : Int)]
theorem leK_len (c : Nat) : ∀ j, (leK c j).length = j
  | 0 => rfl
  | j + 1 => by rw [leK, List.length_append, leK_len c j]; rfl
theorem leK4 (c : Nat) (h : c ≤ 4294967295) : leK c 4 = le4 c := by
  simp only [leK, le4]
  have h3 : c / 256 ^ 3 % 256 = c / 16777216 := by
    have : (256 : Nat) ^ 3 = 16777216 := by decide
    rw [this]; omega
  rw [h3]
  simp
set_option maxRecDepth 100000 in
set_option maxHeartbeats 4000000 in
theorem rmake_ok (kind number : Nat) (body : ByteArray) (hk : kind ≤ 255) (hn : number ≤ 4294967295) (hbd : body.size ≤ 244) (w : World) :
    Calls Tryz.prog 130 #[.agg #[.int .i64 (kind : Int), .int .i64 (number : Int), .string body]] w fun e w' => e = .returned (.tuple #[.string (strOfNums (makeL (kind : Int) (number : Int) (nums body))), .int .i64 0]) ∧ Below w.heap.size w w' := by
  obtain ⟨n, hnB⟩ : ∃ n, body.size = n := ⟨_, rfl⟩
  obtain ⟨z, hz⟩ : ∃ z, 244 - n = z := ⟨_, rfl⟩
  have H1 := hide (fun W => rbytes_any kind 1 (by omega) (by omega) W)
  have H2 := hide (fun W => rbytes_any n 1 (by omega) (by omega) W)
  have H4 := hide (fun W => rbytes_any number 4 (by omega) (by omega) W)
  have HZ := hide (fun W => rzeros_any z (by omega) W)
  obtain ⟨P, hP⟩ : ∃ P, pageL (kind : Int) (number : Int) (nums body) = P := ⟨_, rfl⟩
  have hPl : P.length = 252 := by rw [← hP]; exact pageL_len _ _ _ (by rw [nums_len]; exact hbd)
  have hPb : Bytes P := by rw [← hP]; exact pageL_bytes _ _ _ (nums_bytes _)
  obtain ⟨c, hc⟩ : ∃ c, chkN P = c := ⟨_, rfl⟩
  have hcl : c ≤ 4294967295 := by rw [← hc]; exact chkN_lt _
  have hmk : makeL (kind : Int) (number : Int) (nums body) = P ++ leK c 4 := by rw [makeL, hP, hc, leK4 c hcl]
  obtain ⟨A1, hA1⟩ : ∃ A, (⟨#[83, 66]⟩ : ByteArray) ++ strOfNums (numB (kind : Int) 1) = A := ⟨_, rfl⟩
  obtain ⟨A2, hA2⟩ : ∃ A, A1 ++ strOfNums (numB (n : Int) 1) = A := ⟨_, rfl⟩
  obtain ⟨A3, hA3⟩ : ∃ A, A2 ++ strOfNums (numB (number : Int) 4) = A := ⟨_, rfl⟩
  obtain ⟨A4, hA4⟩ : ∃ A, A3 ++ body = A := ⟨_, rfl⟩
  obtain ⟨A5, hA5⟩ : ∃ A, A4 ++ strOfNums (List.replicate z 0) = A := ⟨_, rfl⟩
  have hPA : A5 = strOfNums P := by
    rw [← hA5, ← hA4, ← hA3, ← hA2, ← hA1, ← hP, pageL, nums_len, hnB, hz, strOfNums_app, strOfNums_app, strOfNums_app, strOfNums_app, strOfNums_app, strOfNums_nums]
    have e : strOfNums [83, 66] = ⟨#[83, 66]⟩ := rfl
    rw [e, ← ByteArray.append_assoc]
  have z1 : (strOfNums (numB (kind : Int) 1)).size = 1 := by rw [strOfNums_size, numB_len]
  have z2 : (strOfNums (numB (n : Int) 1)).size = 1 := by rw [strOfNums_size, numB_len]
  have z4 : (strOfNums (numB (number : Int) 4)).size = 4 := by rw [strOfNums_size, numB_len]
  have zz : (strOfNums (List.replicate z 0)).size = z := by rw [strOfNums_size]; simp
  generalize strOfNums (numB (kind : Int) 1) = S1 at *
  generalize strOfNums (numB (n : Int) 1) = S2 at *
  generalize strOfNums (numB (number : Int) 4) = S4 at *
  generalize strOfNums (List.replicate z 0) = SZ at *
  have a1 : A1.size = 3 := by rw [← hA1, ByteArray.size_append, z1]; rfl
  have a2 : A2.size = 4 := by rw [← hA2, ByteArray.size_append, a1, z2]
  have a3 : A3.size = 8 := by rw [← hA3, ByteArray.size_append, a2, z4]
  have a4 : A4.size = 8 + n := by rw [← hA4, ByteArray.size_append, a3, hnB]
  have y1 : ¬ 9223372036854775807 < 2 + S1.size := by omega
  have y2 : ¬ 9223372036854775807 < A1.size + S2.size := by omega
  have y3 : ¬ 9223372036854775807 < A2.size + S4.size := by omega
  have y4 : ¬ 9223372036854775807 < A3.size + n := by omega
  have y5 : ¬ 9223372036854775807 < A4.size + SZ.size := by omega
  have HCK := hide (fun W => rcheck_g A5 c (by rw [hPA, nums_strOfNums P hPb, hc]) (by rw [hPA, strOfNums_size, hPl]; decide) W)
  have HPA := hide hPA
  have HMK := hide hmk
  have HP5 := hide (show A5.size = 252 by rw [hPA, strOfNums_size, hPl])
  have hsub : (244 : Int) - (n : Int) = (z : Int) := by omega
  have hn244 : n ≤ 244 := by omega
  have hwz : IntKind.i64.wrap (z : Int) = (z : Int) := wrapI_eq _ (by omega) (by omega)
  have hkk : ¬ (kind : Int) < 0 := by omega
  have hk255 : ¬ 255 < kind := by omega
  have hn0 : ¬ (number : Int) < 0 := by omega
  have hn255 : ¬ 4294967295 < number := by omega
  have hd1 : decide ((kind : Int) < 0) = false := decide_eq_false hkk
  have hd2 : decide (255 < (kind : Int)) = false := decide_eq_false (by omega)
  have hd3 : decide ((number : Int) < 0) = false := decide_eq_false hn0
  have hd4 : decide (4294967295 < (number : Int)) = false := decide_eq_false (by omega)
  rw [unhide HMK]
  clear hP hPl hPb hc hmk hPA z1 z2 z4 zz a1 a2 a3 a4 hz
  have q0 : (w.alloc (Obj.cells #[.int .i64 (kind : Int), .int .i64 (number : Int), .string body] 49)).cell? ⟨w.heap.size, 0, none⟩ = some (.int .i64 (kind : Int)) := by simp
  have q1 : (w.alloc (Obj.cells #[.int .i64 (kind : Int), .int .i64 (number : Int), .string body] 49)).cell? ⟨w.heap.size, 1, none⟩ = some (.int .i64 (number : Int)) := by simp
  have q2 : (w.alloc (Obj.cells #[.int .i64 (kind : Int), .int .i64 (number : Int), .string body] 49)).cell? ⟨w.heap.size, 2, none⟩ = some (.string body) := by simp
  have Bx0 := hide ((Below.refl (w.heap.size + 1) (w.alloc (Obj.cells #[.int .i64 (kind : Int), .int .i64 (number : Int), .string body] 49))).drew)
  go_enter Tryz.func130, Tryz.ntmps130
  go_wp2
  refine wp_region_held_drew (S := fun w' => w'.cell? ⟨w.heap.size, 0, none⟩ = some (.int .i64 (kind : Int)) ∧ w'.cell? ⟨w.heap.size, 1, none⟩ = some (.int .i64 (number : Int)) ∧ w'.cell? ⟨w.heap.size, 2, none⟩ = some (.string body)) (by kernel_rfl) ⟨q0, q1, q2⟩ ?_
  intro hS
  refine wpAnyH_takeD 0 (some 29) (.pointer (some ⟨w.heap.size, 0, none⟩)) rfl rfl (by kernel_rfl) (by kernel_rfl) (by kernel_rfl) (fun _ _ _ h => h) (Or.inl ⟨by rfl, fun w hSw => by obtain ⟨q0, q1, q2⟩ := hSw; go_simp⟩) hS ?_
  simp only [Act.put, List.setIfInBounds_toArray, List.set_cons_zero, List.set_cons_succ]
  refine wpAnyH_takeD 1 (some 30) (.int .i64 (kind : Int)) rfl rfl (by kernel_rfl) (by kernel_rfl) (by kernel_rfl) (fun _ _ _ h => h) (Or.inl ⟨by rfl, fun w hSw => by obtain ⟨q0, q1, q2⟩ := hSw; go_simp⟩) hS ?_
  simp only [Act.put, List.setIfInBounds_toArray, List.set_cons_zero, List.set_cons_succ]
  refine wpAnyH_takeD 4 (some 33) (.pointer (some ⟨w.heap.size, 2, none⟩)) rfl rfl (by kernel_rfl) (by kernel_rfl) (by kernel_rfl) (fun _ _ _ h => h) (Or.inl ⟨by rfl, fun w hSw => by obtain ⟨q0, q1, q2⟩ := hSw; go_simp⟩) hS ?_
  simp only [Act.put, List.setIfInBounds_toArray, List.set_cons_zero, List.set_cons_succ]
  refine wpAnyH_takeD 5 (some 34) (.string body) rfl rfl (by kernel_rfl) (by kernel_rfl) (by kernel_rfl) (fun _ _ _ h => h) (Or.inl ⟨by rfl, fun w hSw => by obtain ⟨q0, q1, q2⟩ := hSw; go_simp⟩) hS ?_
  simp only [Act.put, List.setIfInBounds_toArray, List.set_cons_zero, List.set_cons_succ]
  refine wpAnyH_takeD 6 (some 35) (.int .i64 (n : Int)) rfl rfl (by kernel_rfl) (by kernel_rfl) (by kernel_rfl) (fun _ _ _ h => h) (Or.inl ⟨by rfl, fun w hSw => by obtain ⟨q0, q1, q2⟩ := hSw; go_simp⟩) hS ?_
  simp only [Act.put, List.setIfInBounds_toArray, List.set_cons_zero, List.set_cons_succ]
  refine wpAnyH_takeD 9 (some 38) (.pointer (some ⟨w.heap.size, 1, none⟩)) rfl rfl (by kernel_rfl) (by kernel_rfl) (by kernel_rfl) (fun _ _ _ h => h) (Or.inl ⟨by rfl, fun w hSw => by obtain ⟨q0, q1, q2⟩ := hSw; go_simp⟩) hS ?_
  simp only [Act.put, List.setIfInBounds_toArray, List.set_cons_zero, List.set_cons_succ]
  refine wpAnyH_takeD 10 (some 39) (.int .i64 (number : Int)) rfl rfl (by kernel_rfl) (by kernel_rfl) (by kernel_rfl) (fun _ _ _ h => h) (Or.inl ⟨by rfl, fun w hSw => by obtain ⟨q0, q1, q2⟩ := hSw; go_simp⟩) hS ?_
  simp only [Act.put, List.setIfInBounds_toArray, List.set_cons_zero, List.set_cons_succ]
  refine wpAnyH_takeD 13 (some 42) (.pointer (some ⟨w.heap.size, 2, none⟩)) rfl rfl (by kernel_rfl) (by kernel_rfl) (by kernel_rfl) (fun _ _ _ h => h) (Or.inl ⟨by rfl, fun w hSw => by obtain ⟨q0, q1, q2⟩ := hSw; go_simp⟩) hS ?_
  simp only [Act.put, List.setIfInBounds_toArray, List.set_cons_zero, List.set_cons_succ]
  refine wpAnyH_takeD 14 (some 43) (.string body) rfl rfl (by kernel_rfl) (by kernel_rfl) (by kernel_rfl) (fun _ _ _ h => h) (Or.inl ⟨by rfl, fun w hSw => by obtain ⟨q0, q1, q2⟩ := hSw; go_simp⟩) hS ?_
  simp only [Act.put, List.setIfInBounds_toArray, List.set_cons_zero, List.set_cons_succ]
  refine wpAnyH_takeD 16 (some 45) (.pointer (some ⟨w.heap.size, 2, none⟩)) rfl rfl (by kernel_rfl) (by kernel_rfl) (by kernel_rfl) (fun _ _ _ h => h) (Or.inl ⟨by rfl, fun w hSw => by obtain ⟨q0, q1, q2⟩ := hSw; go_simp⟩) hS ?_
  simp only [Act.put, List.setIfInBounds_toArray, List.set_cons_zero, List.set_cons_succ]
  refine wpAnyH_takeD 17 (some 46) (.string body) rfl rfl (by kernel_rfl) (by kernel_rfl) (by kernel_rfl) (fun _ _ _ h => h) (Or.inl ⟨by rfl, fun w hSw => by obtain ⟨q0, q1, q2⟩ := hSw; go_simp⟩) hS ?_
  simp only [Act.put, List.setIfInBounds_toArray, List.set_cons_zero, List.set_cons_succ]
  refine wpAnyH_takeD 18 (some 47) (.int .i64 (n : Int)) rfl rfl (by kernel_rfl) (by kernel_rfl) (by kernel_rfl) (fun _ _ _ h => h) (Or.inl ⟨by rfl, fun w hSw => by obtain ⟨q0, q1, q2⟩ := hSw; go_simp⟩) hS ?_
  simp only [Act.put, List.setIfInBounds_toArray, List.set_cons_zero, List.set_cons_succ]
  refine wpAnyH_takeD 19 (some 48) (.int .i64 (z : Int)) rfl rfl (by kernel_rfl) (by kernel_rfl) (by kernel_rfl) (fun _ _ _ h => h) (Or.inl ⟨by rfl, fun w hSw => by obtain ⟨q0, q1, q2⟩ := hSw; go_simp⟩) hS ?_
  simp only [Act.put, List.setIfInBounds_toArray, List.set_cons_zero, List.set_cons_succ]
  refine wpAnyH_ready (rs := [2]) (by kernel_rfl) (by simp) ?_
  refine AllReadyH.cons rfl (fun K hK => ?_) AllReadyH.nil
  simp only [List.getElem_toArray, List.getElem_cons_succ, List.getElem_cons_zero]
  go_simp
  refine (unhide H1 _).mono ?_
  rintro e x1 ⟨rfl, hB⟩
  have Bx1 := hide ((unhide Bx0).trans (hB.mono (by have := (unhide Bx0).size; have e : (w.alloc (Obj.cells #[.int .i64 (kind : Int), .int .i64 (number : Int), .string body] 49)).heap.size = w.heap.size + 1 := (by simp); rw [e] at this; exact this)))
  have hSS : x1.cell? ⟨w.heap.size, 0, none⟩ = some (.int .i64 (kind : Int)) ∧ x1.cell? ⟨w.heap.size, 1, none⟩ = some (.int .i64 (number : Int)) ∧ x1.cell? ⟨w.heap.size, 2, none⟩ = some (.string body) := ⟨by rw [(unhide Bx1).cell (p := ⟨w.heap.size, 0, none⟩) (by simp)]; exact q0, by rw [(unhide Bx1).cell (p := ⟨w.heap.size, 1, none⟩) (by simp)]; exact q1, by rw [(unhide Bx1).cell (p := ⟨w.heap.size, 2, none⟩) (by simp)]; exact q2⟩
  refine hK.out _ _ hSS (fun hS => ?_)
  clear hB hSS hK K Bx0
  refine wpAnyH_takeD 3 (some 32) (.string A1) rfl rfl (by kernel_rfl) (by kernel_rfl) (by kernel_rfl) (fun _ _ _ h => h) (Or.inl ⟨by rfl, fun w hSw => by obtain ⟨q0, q1, q2⟩ := hSw; go_simp⟩) hS ?_
  simp only [Act.put, List.setIfInBounds_toArray, List.set_cons_zero, List.set_cons_succ]
  refine wpAnyH_ready (rs := [7]) (by kernel_rfl) (by simp) ?_
  refine AllReadyH.cons rfl (fun K hK => ?_) AllReadyH.nil
  simp only [List.getElem_toArray, List.getElem_cons_succ, List.getElem_cons_zero]
  go_simp
  refine (unhide H2 _).mono ?_
  rintro e x2 ⟨rfl, hB⟩
  have Bx2 := hide ((unhide Bx1).trans (hB.mono (by have := (unhide Bx1).size; have e : (w.alloc (Obj.cells #[.int .i64 (kind : Int), .int .i64 (number : Int), .string body] 49)).heap.size = w.heap.size + 1 := (by simp); rw [e] at this; exact this)))
  have hSS : x2.cell? ⟨w.heap.size, 0, none⟩ = some (.int .i64 (kind : Int)) ∧ x2.cell? ⟨w.heap.size, 1, none⟩ = some (.int .i64 (number : Int)) ∧ x2.cell? ⟨w.heap.size, 2, none⟩ = some (.string body) := ⟨by rw [(unhide Bx2).cell (p := ⟨w.heap.size, 0, none⟩) (by simp)]; exact q0, by rw [(unhide Bx2).cell (p := ⟨w.heap.size, 1, none⟩) (by simp)]; exact q1, by rw [(unhide Bx2).cell (p := ⟨w.heap.size, 2, none⟩) (by simp)]; exact q2⟩
  refine hK.out _ _ hSS (fun hS => ?_)
  clear hB hSS hK K Bx1
  refine wpAnyH_takeD 8 (some 37) (.string A2) rfl rfl (by kernel_rfl) (by kernel_rfl) (by kernel_rfl) (fun _ _ _ h => h) (Or.inl ⟨by rfl, fun w hSw => by obtain ⟨q0, q1, q2⟩ := hSw; go_simp⟩) hS ?_
  simp only [Act.put, List.setIfInBounds_toArray, List.set_cons_zero, List.set_cons_succ]
  refine wpAnyH_ready (rs := [11]) (by kernel_rfl) (by simp) ?_
  refine AllReadyH.cons rfl (fun K hK => ?_) AllReadyH.nil
  simp only [List.getElem_toArray, List.getElem_cons_succ, List.getElem_cons_zero]
  go_simp
  refine (unhide H4 _).mono ?_
  rintro e x3 ⟨rfl, hB⟩
  have Bx3 := hide ((unhide Bx2).trans (hB.mono (by have := (unhide Bx2).size; have e : (w.alloc (Obj.cells #[.int .i64 (kind : Int), .int .i64 (number : Int), .string body] 49)).heap.size = w.heap.size + 1 := (by simp); rw [e] at this; exact this)))
  have hSS : x3.cell? ⟨w.heap.size, 0, none⟩ = some (.int .i64 (kind : Int)) ∧ x3.cell? ⟨w.heap.size, 1, none⟩ = some (.int .i64 (number : Int)) ∧ x3.cell? ⟨w.heap.size, 2, none⟩ = some (.string body) := ⟨by rw [(unhide Bx3).cell (p := ⟨w.heap.size, 0, none⟩) (by simp)]; exact q0, by rw [(unhide Bx3).cell (p := ⟨w.heap.size, 1, none⟩) (by simp)]; exact q1, by rw [(unhide Bx3).cell (p := ⟨w.heap.size, 2, none⟩) (by simp)]; exact q2⟩
  refine hK.out _ _ hSS (fun hS => ?_)
  clear hB hSS hK K Bx2
  refine wpAnyH_takeD 12 (some 41) (.string A3) rfl rfl (by kernel_rfl) (by kernel_rfl) (by kernel_rfl) (fun _ _ _ h => h) (Or.inl ⟨by rfl, fun w hSw => by obtain ⟨q0, q1, q2⟩ := hSw; go_simp⟩) hS ?_
  simp only [Act.put, List.setIfInBounds_toArray, List.set_cons_zero, List.set_cons_succ]
  refine wpAnyH_takeD 15 (some 44) (.string A4) rfl rfl (by kernel_rfl) (by kernel_rfl) (by kernel_rfl) (fun _ _ _ h => h) (Or.inl ⟨by rfl, fun w hSw => by obtain ⟨q0, q1, q2⟩ := hSw; go_simp⟩) hS ?_
  simp only [Act.put, List.setIfInBounds_toArray, List.set_cons_zero, List.set_cons_succ]
  refine wpAnyH_ready (rs := [20]) (by kernel_rfl) (by simp) ?_
  refine AllReadyH.cons rfl (fun K hK => ?_) AllReadyH.nil
  simp only [List.getElem_toArray, List.getElem_cons_succ, List.getElem_cons_zero]
  go_simp
  refine (unhide HZ _).mono ?_
  rintro e x4 ⟨rfl, hB⟩
  have Bx4 := hide ((unhide Bx3).trans (hB.mono (by have := (unhide Bx3).size; have e : (w.alloc (Obj.cells #[.int .i64 (kind : Int), .int .i64 (number : Int), .string body] 49)).heap.size = w.heap.size + 1 := (by simp); rw [e] at this; exact this)))
  have hSS : x4.cell? ⟨w.heap.size, 0, none⟩ = some (.int .i64 (kind : Int)) ∧ x4.cell? ⟨w.heap.size, 1, none⟩ = some (.int .i64 (number : Int)) ∧ x4.cell? ⟨w.heap.size, 2, none⟩ = some (.string body) := ⟨by rw [(unhide Bx4).cell (p := ⟨w.heap.size, 0, none⟩) (by simp)]; exact q0, by rw [(unhide Bx4).cell (p := ⟨w.heap.size, 1, none⟩) (by simp)]; exact q1, by rw [(unhide Bx4).cell (p := ⟨w.heap.size, 2, none⟩) (by simp)]; exact q2⟩
  refine hK.out _ _ hSS (fun hS => ?_)
  clear hB hSS hK K Bx3
  refine wpAnyH_takeD 21 (some 50) (.string A5) rfl rfl (by kernel_rfl) (by kernel_rfl) (by kernel_rfl) (fun _ _ _ h => h) (Or.inl ⟨by rfl, fun w hSw => by obtain ⟨q0, q1, q2⟩ := hSw; go_simp⟩) hS ?_
  simp only [Act.put, List.setIfInBounds_toArray, List.set_cons_zero, List.set_cons_succ]
  refine wpAnyH_takeD 22 (some 4) (.string A5) rfl rfl (by kernel_rfl) (by kernel_rfl) (by kernel_rfl) (fun _ _ _ h => h) (Or.inl ⟨by rfl, fun w hSw => by obtain ⟨q0, q1, q2⟩ := hSw; go_simp⟩) hS ?_
  simp only [Act.put, List.setIfInBounds_toArray, List.set_cons_zero, List.set_cons_succ]
  refine wpAnyH_done (by kernel_rfl) ?_ _
  clear hS q0 q1 q2 y1 y2 y3 y4 y5 hA1 hA2 hA3 hA4 hA5
  go_wp2_with fail
  refine (unhide HCK _).mono ?_
  rintro e x5 ⟨rfl, rfl⟩
  go_wp2
  go_loopw [4, 5, 6] (fun s u i wr => ∃ j m : Nat, j ≤ 4 ∧ m = c / 256 ^ j ∧ u = .int .i64 (m : Int) ∧ i = .int .i64 (j : Int) ∧ s = .string (strOfNums (P ++ leK c j)) ∧ Below (w.heap.size + 1) (w.alloc (Obj.cells #[.int .i64 (kind : Int), .int .i64 (number : Int), .string body] 49)) wr) (fun _ _ i _ => 4 - (intOf i).toNat)
  case atStart => exact ⟨0, c, by omega, by simp, rfl, rfl, by rw [leK, List.append_nil, ← unhide HPA], unhide Bx4⟩
  case round =>
    obtain ⟨j, m, hj, hm, rfl, rfl, rfl, hBe⟩ := hrel
    obtain ⟨wo, rfl⟩ : ∃ wo, wo = wr := ⟨_, rfl⟩
    have HBE := hide hBe
    clear hBe Bx4
    have hml : m ≤ 4294967295 := by rw [hm]; exact Nat.le_trans (Nat.div_le_self _ _) hcl
    by_cases hj4 : j < 4
    · have hr : ((m : Int)).tmod 256 = ((m % 256 : Nat) : Int) := rfl
      obtain ⟨R, hR⟩ : ∃ R, m % 256 = R := ⟨_, rfl⟩
      obtain ⟨Q, hQ⟩ : ∃ Q, m / 256 = Q := ⟨_, rfl⟩
      have hq : ((m : Int)).tdiv 256 = (Q : Int) := by rw [← hQ]; rfl
      rw [hR] at hr
      have hR8 : R < 256 := by omega
      have hw8 : IntKind.u8.wrap (R : Int) = (R : Int) := by rw [IntKind.wrap_u8']; omega
      have hcv := run_one wo (R : Int) 5
      have hsz : (strOfNums (P ++ leK c j)).size ≤ 256 := by
        rw [strOfNums_app, ByteArray.size_append, ← unhide HPA, unhide HP5, strOfNums_size]
        have : (leK c j).length = j := leK_len c j
        omega
      have hs1 : (strOfNums [(R : Int)]).size = 1 := rfl
      have HN := hide (show strOfNums (P ++ leK c j) ++ strOfNums [(R : Int)] = strOfNums (P ++ leK c (j + 1)) by
        rw [← strOfNums_app, leK, ← hm, hR, List.append_assoc])
      have HQ := hide (show Q = c / 256 ^ (j + 1) by rw [← hQ, hm, Nat.div_div_eq_div_mul, Nat.pow_succ])
      have hQl : Q ≤ m := by omega
      clear hR hQ hm
      generalize strOfNums (P ++ leK c j) = S at *
      generalize strOfNums [(R : Int)] = S1 at *
      have y1 : ¬ 9223372036854775807 < S.size + S1.size := by omega
      have y2 : ¬ 9223372036854775807 < S.size + 1 := by omega
      go_wp2
      go_roundw
      case rel => exact ⟨j + 1, Q, by omega, unhide HQ, by go_num, by go_num, by rw [unhide HN], (unhide HBE).alloc (by have := (unhide HBE).size; simp at this; omega) _⟩
      case measure => simp [intOf]; omega
    · have hj4' : j = 4 := by omega
      subst hj4'
      go_wp2
      go_ret2
      exact ⟨rfl, ((Below.refl w.heap.size w).alloc (Nat.le_refl _) _).trans ((unhide HBE).mono (by omega))⟩
end Go.Proofs.YtbpcgephicmhhaaGreatDoor

namespace Go.Proofs.YtbpcgephicmhhaaGreatDoor
open Go.RowKit
set_option maxRecDepth 100000 in
set_option maxHeartbeats 2000000 in
theorem rmake_any (kind number : Int) (body : ByteArray) (w : World) :
    Calls Tryz.prog 130 #[.agg #[.int .i64 kind, .int .i64 number, .string body]] w fun e w' => e = .returned (.tuple #[.string (makeB kind number body), .int .i64 (errM kind number body.size)]) ∧ Below w.heap.size w w' := by
  by_cases hok : fitsP kind 1 ∧ fitsP number 4
  · obtain ⟨hk, hn⟩ := hok
    have hk' := (fits1 kind).1 hk
    have hn' := (fits4 number).1 hn
    obtain ⟨K, rfl⟩ := Int.eq_ofNat_of_zero_le hk'.1
    obtain ⟨N, rfl⟩ := Int.eq_ofNat_of_zero_le hn'.1
    by_cases hb : body.size ≤ 244
    · have hE : errM (K : Int) (N : Int) body.size = 0 := by rw [errM, if_neg (by simp [hk, hn]), if_neg (by omega)]
      rw [makeB, if_pos hE, hE]
      exact rmake_ok K N body (by omega) (by omega) hb w
    · have hE : errM (K : Int) (N : Int) body.size = 32 := by rw [errM, if_neg (by simp [hk, hn]), if_pos (by omega)]
      rw [makeB, if_neg (by rw [hE]; decide), hE]
      have hb' : 244 < body.size := by omega
      have hk255 : K ≤ 255 := by omega
      have hn255 : N ≤ 4294967295 := by omega
      clear hk hn hE hk' hn'
      go_enter Tryz.func130, Tryz.ntmps130
      go_wp2
      go_ret2
      exact ⟨rfl, (Below.refl _ w).alloc (Nat.le_refl _) _⟩
  · have hE : errM kind number body.size = 1 := by rw [errM, if_pos (by by_cases hk : fitsP kind 1 <;> by_cases hn : fitsP number 4 <;> simp_all)]
    rw [makeB, if_neg (by rw [hE]; decide), hE]
    rw [fits1, fits4] at hok
    clear hE
    by_cases h1 : kind < 0
    · clear hok
      go_enter Tryz.func130, Tryz.ntmps130
      go_wp2
      go_ret2
      exact ⟨rfl, (Below.refl _ w).alloc (Nat.le_refl _) _⟩
    · by_cases h2 : 255 < kind
      · clear hok
        go_enter Tryz.func130, Tryz.ntmps130
        go_wp2
        go_ret2
        exact ⟨rfl, (Below.refl _ w).alloc (Nat.le_refl _) _⟩
      · by_cases h3 : number < 0
        · clear hok
          go_enter Tryz.func130, Tryz.ntmps130
          go_wp2
          go_ret2
          exact ⟨rfl, (Below.refl _ w).alloc (Nat.le_refl _) _⟩
        · have h4 : 4294967295 < number := by omega
          clear hok
          go_enter Tryz.func130, Tryz.ntmps130
          go_wp2
          go_ret2
          exact ⟨rfl, (Below.refl _ w).alloc (Nat.le_refl _) _⟩
end Go.Proofs.YtbpcgephicmhhaaGreatDoor

namespace Go.Proofs.YtbpcgephicmhhaaGreatDoor
open Go.ChangeShapes Go.WideShapes Go.ChangeAt Go.RowKit
theorem own : ownKnob Tryz.prog.godebug = none := by kernel_rfl
theorem gEt : Tryz.prog.globalNamed "errors.errorType" = some 1 := by kernel_rfl
theorem gRt : (Tryz.prog.cutTypes.find? (·.1 == "internal/reflectlite.rtype")).map (·.2) = some 319 := by kernel_rfl
theorem gOne : ((List.range 358).filter fun t => Tryz.prog.rowNamed t [101, 114, 114, 111, 114]) = [191] := by kernel_rfl
theorem gSize : Tryz.prog.types.size = 358 := by kernel_rfl
def laidL : List (String × DataW Unit) := [("errors.errorType", Rows.laid_errors_errorType)]
/-- What the row's list gives. -/
theorem ety_of {W : World} (h : laidMetH Tryz.prog laidL W) : ETy W := by
  have h' : laidMet Tryz.prog [] W ∧ handlesMet Tryz.prog laidL W := h
  obtain ⟨name, u, ty, e1, e2, e3, e4, e5⟩ := h'.2 _ (List.mem_singleton.2 rfl)
  have en : name = [101, 114, 114, 111, 114] := (Option.some.inj e1).symm
  subst en
  obtain rfl := Option.some.inj (gRt.symm.trans e2)
  have hm : ty ∈ (List.range 358).filter fun t => Tryz.prog.rowNamed t [101, 114, 114, 111, 114] := List.mem_filter.2 ⟨List.mem_range.2 (by rw [← gSize]; exact e3), e4⟩
  rw [gOne] at hm
  obtain rfl := List.mem_singleton.1 hm
  have hh : typeHandle Tryz.prog 191 = .pointer (some ⟨2, 191, none⟩) := by kernel_rfl
  rw [hh] at e5
  have := World.var?_cell gEt e5 0
  unfold ETy
  simpa using this
/-- A world for the witness: the settled one, the variable's cell laid. -/
noncomputable def laidWorld (os : Os) : World :=
  let w0 := World.holding Tryz.prog os ⟨#[], #[], []⟩
  { w0 with heap := w0.heap.modify 1 fun
      | .cells _ t frozen => .cells #[.iface 319 (.agg #[.pointer (some ⟨2, 191, none⟩)])] t frozen
      | o => o }
end Go.Proofs.YtbpcgephicmhhaaGreatDoor
