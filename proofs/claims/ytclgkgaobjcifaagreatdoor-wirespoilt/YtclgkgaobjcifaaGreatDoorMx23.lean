import Derived.Test.YtclgkgaobjcifaaGreatDoorMx22
import Derived.Test.YtclgkgaobjcifaaGreatDoorMx21
import Derived.Test.YtclgkgaobjcifaaGreatDoorMx06
namespace Go.Proofs.YtclgkgaobjcifaaGreatDoor
open Go.RowKit
set_option maxRecDepth 100000
theorem sub_tk (s : ByteArray) (E a n : Nat) (h : 1 + a + n ≤ E) : tkB (s.extract 1 E) a n = tkB s (1 + a) n := by
  unfold tkB
  rw [nums_extract]
  apply List.ext_getElem?
  intro i
  simp only [List.getElem?_take, List.getElem?_drop]
  by_cases hi : i < n
  · rw [if_pos hi, if_pos hi, if_pos (by omega)]
    congr 1
    omega
  · rw [if_neg hi, if_neg hi]
theorem sub_nm (s : ByteArray) (E a n : Nat) (h : 1 + a + n ≤ E) : nums ((s.extract 1 E).extract a (a + n)) = tkB s (1 + a) n := by
  rw [nums_cut]
  exact sub_tk s E a n h
theorem sub_ex (s : ByteArray) (E a n : Nat) (h : 1 + a + n ≤ E) : (s.extract 1 E).extract a (a + n) = s.extract (1 + a) (1 + a + n) := nums_inj (by rw [sub_nm s E a n h, nums_cut]; rfl)
theorem sub_vt (s : ByteArray) (E a : Nat) (h : 1 + a < E) : vtN (s.extract 1 E) a = vtN s (1 + a) := by
  unfold vtN
  rw [nums_extract, List.getD_eq_getElem?_getD, List.getD_eq_getElem?_getD, List.getElem?_drop, List.getElem?_take, if_pos (by omega)]
theorem toldP_len (kd st : Int) (s : ByteArray) : (toldP kd st s).V.length ≤ 8 ∧ (toldP kd st s).Pl.length ≤ 8 := by
  unfold toldP
  split
  · split
    · exact ⟨by simp only [tkB, List.length_take]; omega, by simp⟩
    · split
      · exact ⟨by simp only [tkB, List.length_take]; omega, by simp⟩
      · split
        · exact ⟨by simp, by simp⟩
        · split
          · exact ⟨by simp, by simp only [tkB, List.length_take]; omega⟩
          · split
            · exact ⟨by simp, by simp⟩
            · exact ⟨by decide, by decide⟩
  · exact ⟨by decide, by decide⟩
theorem told_all (k : Nat) (hk : k ≤ 12) (st : Int) (s : ByteArray) (hz : s.size = 5 + szF (rpF (k : Int))) (E : Nat) (hE : E = 1 + szF (rpF (k : Int))) (w : World) : Calls Tryz.prog 52 #[.int .i64 (k : Int), .int .i64 st, .string (s.extract 1 E)] w fun e w' => ∃ r : Rep, e = .returned (.agg r.cs) ∧ RM st w.heap.size r (toldP (k : Int) st s) w' ∧ Below w.heap.size w w' := by
  by_cases hf : fullP (k : Int) st = true
  · rcases rpF_kinds hk with rfl | rfl | rfl | rfl | rfl | ⟨e, n3, n6, n7, n8, n11⟩
    · obtain rfl : E = 14 := hE
      have hz' : s.size = 18 := hz
      refine told_3 st (s.extract 1 14) (by rw [ByteArray.size_extract]; omega) hf _ ?_ w
      rw [show (s.extract 1 14).extract 4 13 = s.extract 5 14 from sub_ex s 14 4 9 (by decide), show nums ((s.extract 1 14).extract 0 2) = tkB s 1 2 from sub_nm s 14 0 2 (by decide), show nums ((s.extract 1 14).extract 2 4) = tkB s 3 2 from sub_nm s 14 2 2 (by decide)]
      have ev : vtN (s.extract 5 14) 0 = vtN s 5 := by
        unfold vtN
        rw [nums_extract, List.getD_eq_getElem?_getD, List.getD_eq_getElem?_getD, List.getElem?_drop, List.getElem?_take, if_pos (by omega)]
      have et : tkB (s.extract 5 14) 1 (min (vtN s 5) 8) = tkB s 6 (min (vtN s 5) 8) := by
        generalize hm : min (vtN s 5) 8 = m
        have hm8 : m ≤ 8 := by omega
        unfold tkB
        rw [nums_extract]
        apply List.ext_getElem?
        intro i
        simp only [List.getElem?_take, List.getElem?_drop]
        by_cases hi : i < m
        · rw [if_pos hi, if_pos hi, if_pos (by omega)]
          congr 1
          omega
        · rw [if_neg hi, if_neg hi]
      rw [ev, et, toldP, if_pos hf, if_pos (show ((3 : Nat) : Int) = 3 from rfl)]
    · obtain rfl : E = 10 := hE
      have hz' : s.size = 14 := hz
      refine told_6 st (s.extract 1 10) (by rw [ByteArray.size_extract]; omega) hf _ ?_ w
      rw [sub_vt s 10 0 (by decide), sub_tk s 10 1 _ (by omega), toldP, if_pos hf, if_neg (show ¬ ((6 : Nat) : Int) = 3 by decide), if_pos (show ((6 : Nat) : Int) = 6 from rfl)]
    · obtain rfl : E = 5 := hE
      have hz' : s.size = 9 := hz
      refine told_7 st (s.extract 1 5) (by rw [ByteArray.size_extract]; omega) hf _ ?_ w
      rw [show nums ((s.extract 1 5).extract 0 2) = tkB s 1 2 from sub_nm s 5 0 2 (by decide), show nums ((s.extract 1 5).extract 2 4) = tkB s 3 2 from sub_nm s 5 2 2 (by decide), toldP, if_pos hf, if_neg (show ¬ ((7 : Nat) : Int) = 3 by decide), if_neg (show ¬ ((7 : Nat) : Int) = 6 by decide), if_pos (show ((7 : Nat) : Int) = 7 from rfl)]
    · obtain rfl : E = 13 := hE
      have hz' : s.size = 17 := hz
      refine told_8 st (s.extract 1 13) (by rw [ByteArray.size_extract]; omega) hf _ ?_ w
      rw [show nums ((s.extract 1 13).extract 0 4) = tkB s 1 4 from sub_nm s 13 0 4 (by decide), show nums ((s.extract 1 13).extract 4 12) = tkB s 5 8 from sub_nm s 13 4 8 (by decide), toldP, if_pos hf, if_neg (show ¬ ((8 : Nat) : Int) = 3 by decide), if_neg (show ¬ ((8 : Nat) : Int) = 6 by decide), if_neg (show ¬ ((8 : Nat) : Int) = 7 by decide), if_pos (show ((8 : Nat) : Int) = 8 from rfl)]
    · obtain rfl : E = 305 := hE
      have hz' : s.size = 309 := hz
      refine told_11 st (s.extract 1 305) (by rw [ByteArray.size_extract]; omega) hf _ ?_ w
      rw [show (s.extract 1 305).extract 0 48 = s.extract 1 49 from sub_ex s 305 0 48 (by decide), show (s.extract 1 305).extract 48 304 = s.extract 49 305 from sub_ex s 305 48 256 (by decide), toldP, if_pos hf, if_neg (show ¬ ((11 : Nat) : Int) = 3 by decide), if_neg (show ¬ ((11 : Nat) : Int) = 6 by decide), if_neg (show ¬ ((11 : Nat) : Int) = 7 by decide), if_neg (show ¬ ((11 : Nat) : Int) = 8 by decide), if_pos (show ((11 : Nat) : Int) = 11 from rfl)]
    · refine told_o (k : Int) (by simpa using n3) (by simpa using n6) (by simpa using n7) (by simpa using n8) (by simpa using n11) st _ hf _ ?_ w
      rw [toldP, if_pos hf, if_neg n3, if_neg n6, if_neg n7, if_neg n8, if_neg n11]
  · rw [toldP, if_neg hf]
    exact told_not (k : Int) st _ (by simpa using hf) w
end Go.Proofs.YtclgkgaobjcifaaGreatDoor

namespace Go.Proofs.YtclgkgaobjcifaaGreatDoor
open Go.RowKit
set_option maxRecDepth 100000
set_option maxHeartbeats 1000000 in
theorem rzeros_m (n : Nat) (hn : n ≤ 1000) (w : World) :
    Calls Tryz.prog 80 #[.int .i64 (n : Int)] w fun e w' => e = .returned (.string (strOfNums (List.replicate n 0))) ∧ Below w.heap.size w w' := by
  obtain ⟨zc, hzc⟩ : ∃ zc : Array Value, zc = ((List.replicate n (0 : Int)).map (Value.int .u8)).toArray := ⟨_, rfl⟩
  have hmk : ∀ W : World, (Instr.makeSlice 61 (.int .i64 (n : Int)) (.int .i64 (n : Int))).run Tryz.prog W = .ok (.slice (some ⟨W.heap.size, 0, none⟩) n n) (W.alloc (.cells zc 5)) := by
    intro W
    rw [hzc]
    exact run_make_u8 n n (Nat.le_refl _) (by omega) W
  have hA := arr_new w .u8 (List.replicate n 0) 5 zc hzc
  have hcv := run_convert_bytes_arg (P := Tryz.prog) (w.alloc (Obj.cells zc 5)) 61 5 Tryz.underlying61 Tryz.underlying5 w.heap.size 0 n n (List.replicate n 0) (by simp) (fun i hi => hA.get i (by simpa using hi)) 9 Tryz.underlying9
  obtain ⟨Z, hZ⟩ : ∃ Z, strOfNums (List.replicate n 0) = Z := ⟨_, rfl⟩
  rw [hZ] at hcv ⊢
  clear hA hzc hZ
  go_enter Tryz.func80, Tryz.ntmps80
  go_wp2
  go_ret
  exact ⟨rfl, (Below.refl _ w).alloc (Nat.le_refl _) _⟩
theorem outN_tk1 (L : List Int) (k : Nat) (h : k < L.length) : outN 1 (L.take (k + 1)) = outN 1 (L.take k) ++ numB (L.getD k 0) 1 := by
  induction L generalizing k with
  | nil => simp at h
  | cons x L ih =>
    cases k with
    | zero => rw [List.take_succ_cons, List.take_zero, List.take_zero]; exact (List.append_nil _).trans (List.nil_append _).symm
    | succ k =>
      rw [List.take_succ_cons, List.take_succ_cons, show outN 1 (x :: L.take (k + 1)) = numB x 1 ++ outN 1 (L.take (k + 1)) from rfl, ih k (by simpa using h), show outN 1 (x :: L.take k) = numB x 1 ++ outN 1 (L.take k) from rfl, List.append_assoc]
      rfl
set_option maxHeartbeats 4000000 in
theorem numbers_any (w : World) (p : Option Addr) (c n : Nat) (L : List Int) (hn : L.length = n) (hL : Lst w w.heap.size p L) (h8 : n ≤ 8) (hf : ∀ k, k < n → 0 ≤ L.getD k 0 ∧ L.getD k 0 ≤ 255) : Calls Tryz.prog 81 #[.slice p n c, .int .i64 8] w fun e w' => e = .returned (.string (strOfNums (outN 1 L ++ List.replicate (8 - n) 0))) ∧ Below w.heap.size w w' := by
  have HL := hide (And.intro hn (And.intro hL hf))
  have HO := hide (fun k (h : k < n) => outN_tk1 L k (by omega))
  have HE := hide (show L.take n = L from List.take_of_length_le (by omega))
  have HLE := hide (fun k => show (outN 1 (L.take k)).length ≤ 1 * (L.take k).length from by rw [outN_len]; omega)
  obtain ⟨R, hR⟩ : ∃ R, strOfNums (outN 1 L ++ List.replicate (8 - n) 0) = R := ⟨_, rfl⟩
  rw [hR]
  have HRR := hide hR
  clear hn hL hf hR
  go_enter Tryz.func81, Tryz.ntmps81
  go_wp2
  go_loopw [5, 6] (fun s i wr => ∃ k : Nat, k ≤ n ∧ i = .int .i64 (k : Int) ∧ s = .string (strOfNums (outN 1 (L.take k))) ∧ Below w.heap.size w wr) (fun _ i _ => n - (intOf i).toNat)
  case atStart => exact ⟨0, by omega, rfl, by rw [List.take_zero]; rfl, Below.refl _ _⟩
  case round =>
    obtain ⟨k, hk, rfl, rfl, hb⟩ := hrel
    obtain ⟨wo, rfl⟩ : ∃ wo, wo = wr := ⟨_, rfl⟩
    have XB := hide hb
    clear hb
    have hsz : (strOfNums (outN 1 (L.take k))).size ≤ 8 := by
      have h1 := unhide HLE k
      rw [strOfNums_size]
      rw [List.length_take] at h1
      omega
    by_cases hkn : k < n
    · obtain ⟨g1, o1, rfl, q1, d1⟩ := (unhide HL).2.1 k (by have := (unhide HL).1; omega)
      have e1 := ((unhide XB).cell (p := ⟨g1, o1 + k, none⟩) q1).trans d1
      have hz1 := (unhide HL).2.2 k hkn
      have ho := unhide HO k hkn
      obtain ⟨z, hz⟩ : ∃ z : Nat, L.getD k 0 = (z : Int) := ⟨(L.getD k 0).toNat, by omega⟩
      rw [hz] at e1 ho hz1
      have HN := hide (fun W => rnum_of z 1 (by omega) (by decide) W)
      have j0 : 0 ≤ (k : Int) := by omega
      have j1 : (k : Int) < (n : Int) := by omega
      have HS := hide (show strOfNums (outN 1 (L.take k)) ++ strOfNums (numB (z : Int) 1) = strOfNums (outN 1 (L.take (k + 1))) by rw [ho, strOfNums_app])
      have hs1 : (strOfNums (numB (z : Int) 1)).size = 1 := by rw [strOfNums_size, numB_len]
      clear q1 d1 hz ho hz1
      generalize strOfNums (outN 1 (L.take k)) = S at *
      generalize strOfNums (numB (z : Int) 1) = S1 at *
      have y1 : ¬ 9223372036854775807 < S.size + S1.size := by omega
      clear hsz hs1
      go_wp2_with fail
      refine (unhide HN _).mono ?_
      rintro e y ⟨rfl, hy⟩
      have XY := hide (show Below w.heap.size w y from (unhide XB).trans (hy.mono (unhide XB).size))
      clear hy e1
      go_wp2
      go_roundw
      case rel => exact ⟨k + 1, by omega, by go_num, by rw [unhide HS], unhide XY⟩
      case measure => simp [intOf]; omega
    · have e1 : ¬ (k : Int) < (n : Int) := by omega
      obtain rfl : k = n := by omega
      have HZ := hide (fun W => rzeros_m (8 - k) (by omega) W)
      have w1 : IntKind.i64.wrap ((8 : Int) - (k : Int)) = ((8 - k : Nat) : Int) := by rw [wrapI_eq _ (by omega) (by omega)]; omega
      rw [unhide HE] at hsz ⊢
      have HR := hide (show strOfNums (outN 1 L) ++ strOfNums (List.replicate (8 - k) 0) = R from (strOfNums_app _ _).symm.trans (unhide HRR))
      have hs1 : (strOfNums (List.replicate (8 - k) 0)).size = 8 - k := by rw [strOfNums_size, List.length_replicate]
      clear HRR
      generalize strOfNums (outN 1 L) = S at *
      generalize strOfNums (List.replicate (8 - k) 0) = S1 at *
      have y1 : ¬ 9223372036854775807 < S.size + S1.size := by omega
      generalize (8 - k : Nat) = m at *
      clear hsz hs1
      go_wp2_with fail
      refine (unhide HZ _).mono ?_
      rintro e y ⟨rfl, hy⟩
      have XY := hide (show Below w.heap.size w y from (unhide XB).trans (hy.mono (unhide XB).size))
      clear hy
      go_wp2
      go_ret
      exact ⟨by rw [← unhide HR]; rfl, unhide XY⟩
end Go.Proofs.YtclgkgaobjcifaaGreatDoor
