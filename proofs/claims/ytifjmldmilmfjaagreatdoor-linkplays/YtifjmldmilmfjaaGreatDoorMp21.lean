import Derived.Test.YtifjmldmilmfjaaGreatDoorMp20
namespace Go.Proofs.YtifjmldmilmfjaaGreatDoor
open Go.RowKit
set_option maxRecDepth 100000
/-- two ends of one key that have greeted one another -/
def meA (key one two : Int) : LE := ⟨flB key 32, flB one 16, flB two 16, 0, true, false, 0, 0, 0, 0⟩
def meB (key one two : Int) : LE := ⟨flB key 32, flB two 16, flB one 16, 1, true, false, 0, 0, 0, 0⟩
theorem fl32 (c : Int) (w : World) : Calls Tryz.prog 14 #[.int .i64 c, .int .i64 32] w fun e w' => e = .returned (.string (flB c 32)) ∧ Below w.heap.size w w' := filled_any c 32 (by decide) w
theorem fl16 (c : Int) (w : World) : Calls Tryz.prog 14 #[.int .i64 c, .int .i64 16] w fun e w' => e = .returned (.string (flB c 16)) ∧ Below w.heap.size w w' := filled_any c 16 (by decide) w
theorem grE_he (e : LE) (n : ByteArray) (hn : n.size = 16) (hc : e.c = false) (hr : e.r = false) : e.grE (heB e.k (1 - e.i) n) = 0 ∧ e.grN (heB e.k (1 - e.i) n) = { e with r := true, o := n } := by
  obtain ⟨h1, h2⟩ := grB_he e.k (1 - e.i) n hn
  have h3 : e.grE (heB e.k (1 - e.i) n) = 0 := by rw [LE.grE, hc, hr, h1]; rfl
  exact ⟨h3, by rw [LE.grN, if_pos h3, h2]⟩
set_option maxHeartbeats 4000000 in
theorem met_any (key one two : Int) (w : World) (hK : KTab w) : Calls Tryz.prog 9 #[.int .i64 key, .int .i64 one, .int .i64 two] w fun ev w' => ∃ g1 g2, ev = .returned (.tuple #[.pointer (some ⟨g1, 0, none⟩), .pointer (some ⟨g2, 0, none⟩)]) ∧ EndM w' g1 (meA key one two) ∧ EndM w' g2 (meB key one two) ∧ g1 ≠ g2 ∧ w.heap.size ≤ g1 ∧ w.heap.size ≤ g2 ∧ Below w.heap.size w w' := by
  obtain ⟨h, hh⟩ : ∃ h, w.heap.size = h := ⟨_, rfl⟩
  have hvh : 1 < h := by rw [← hh]; exact hK.1
  have HKB := hide (show ∀ W, Below h w W → KTab W from fun W hW => hK.below (by rw [← hh] at hW; exact hW) hK.1)
  have HFK := hide (fun W => fl32 key W)
  have HF1 := hide (fun W => fl16 one W)
  have HF2 := hide (fun W => fl16 two W)
  have hk := flB_size key 32
  have h1 := flB_size one 16
  have h2 := flB_size two 16
  have HE1 := hide (show meA key one two = { le0 (flB key 32) 0 (flB one 16) with r := true, o := flB two 16 } from rfl)
  have HE2 := hide (show meB key one two = { le0 (flB key 32) 1 (flB two 16) with r := true, o := flB one 16 } from rfl)
  obtain ⟨eA, heA⟩ : ∃ z, meA key one two = z := ⟨_, rfl⟩
  obtain ⟨eB, heB⟩ : ∃ z, meB key one two = z := ⟨_, rfl⟩
  rw [heA] at HE1 ⊢
  rw [heB] at HE2 ⊢
  clear heA heB
  have HN1 := hide (fun W => lnew_ok (flB key 32) 0 (flB one 16) hk (by decide) h1 W)
  have HN2 := hide (fun W => lnew_ok (flB key 32) 1 (flB two 16) hk (by decide) h2 W)
  have HG1 := hide (grE_he (le0 (flB key 32) 0 (flB one 16)) (flB two 16) h2 rfl rfl)
  have HG2 := hide (grE_he (le0 (flB key 32) 1 (flB two 16)) (flB one 16) h1 rfl rfl)
  have hs1 := heB_size (flB key 32) 0 (flB one 16)
  have hs2 := heB_size (flB key 32) 1 (flB two 16)
  have HGA := hide (fun W g (hE : EndM W g (le0 (flB key 32) 0 (flB one 16))) (hKW : KTab W) (hv : 1 < g) => lgreet_any g _ (heB (flB key 32) 1 (flB two 16)) (by rw [hs2]; omega) W hE hKW hv)
  have HGB := hide (fun W g (hE : EndM W g (le0 (flB key 32) 1 (flB two 16))) (hKW : KTab W) (hv : 1 < g) => lgreet_any g _ (heB (flB key 32) 0 (flB one 16)) (by rw [hs1]; omega) W hE hKW hv)
  have q1 : (le0 (flB key 32) 0 (flB one 16)).grE (heB (flB key 32) 1 (flB two 16)) = 0 := (unhide HG1).1
  have q2 : (le0 (flB key 32) 0 (flB one 16)).grN (heB (flB key 32) 1 (flB two 16)) = eA := (unhide HG1).2.trans (unhide HE1).symm
  have q3 : (le0 (flB key 32) 1 (flB two 16)).grE (heB (flB key 32) 0 (flB one 16)) = 0 := (unhide HG2).1
  have q4 : (le0 (flB key 32) 1 (flB two 16)).grN (heB (flB key 32) 0 (flB one 16)) = eB := (unhide HG2).2.trans (unhide HE2).symm
  rw [q1, q2] at HGA
  rw [q3, q4] at HGB
  have HHA := hide (show ∀ W g, EndM W g eA → KTab W → Calls Tryz.prog 18 #[.pointer (some ⟨g, 0, none⟩)] W fun ev w' => ev = .returned (.string (heB (flB key 32) 0 (flB one 16))) ∧ Below W.heap.size W w' from fun W g hE hKW => by
    rw [unhide HE1] at hE
    exact lhello_any g _ W hE hKW)
  have HHB := hide (show ∀ W g, EndM W g (le0 (flB key 32) 1 (flB two 16)) → KTab W → Calls Tryz.prog 18 #[.pointer (some ⟨g, 0, none⟩)] W fun ev w' => ev = .returned (.string (heB (flB key 32) 1 (flB two 16))) ∧ Below W.heap.size W w' from fun W g hE hKW => lhello_any g _ W hE hKW)
  have HRA := hide (show ∀ W g, EndM W g eA → Calls Tryz.prog 19 #[.pointer (some ⟨g, 0, none⟩)] W fun ev w' => ev = .returned (.bool true) ∧ Below W.heap.size W w' from fun W g hE => by
    have := lready_any g eA W hE
    rw [show eA.r = true by rw [unhide HE1]] at this
    exact this)
  have HRB := hide (show ∀ W g, EndM W g eB → Calls Tryz.prog 19 #[.pointer (some ⟨g, 0, none⟩)] W fun ev w' => ev = .returned (.bool true) ∧ Below W.heap.size W w' from fun W g hE => by
    have := lready_any g eB W hE
    rw [show eB.r = true by rw [unhide HE2]] at this
    exact this)
  clear q1 q2 q3 q4 HG1 HG2 HE1 HE2 hK
  generalize le0 (flB key 32) 0 (flB one 16) = eA0 at *
  generalize le0 (flB key 32) 1 (flB two 16) = eB0 at *
  generalize heB (flB key 32) 0 (flB one 16) = hl1 at *
  generalize heB (flB key 32) 1 (flB two 16) = hl2 at *
  generalize flB key 32 = fk at *
  generalize flB one 16 = f1 at *
  generalize flB two 16 = f2 at *
  rw [hh]
  have HB0 := hide (show Below h w w from Below.refl _ _)
  have HS0 := hide hh
  go_enter Tryz.func9, Tryz.ntmps9
  go_wp2_with fail
  refine (unhide HFK _).mono ?_
  rintro ev y1 ⟨rfl, hb⟩
  have HB1 := hide (show Below h w y1 from (unhide HB0).trans (hb.mono (by omega)))
  clear hb
  go_wp2_with fail
  refine (unhide HF1 _).mono ?_
  rintro ev y2 ⟨rfl, hb⟩
  have HB2 := hide (show Below h w y2 from (unhide HB1).trans (hb.mono (by have := (unhide HB1).size; omega)))
  clear hb
  go_wp2_with fail
  refine (unhide HN1 _).mono ?_
  rintro ev y3 ⟨g1, hg1, rfl, hE1, hb⟩
  have HB3 := hide (show Below h w y3 from (unhide HB2).trans (hb.mono (by have := (unhide HB2).size; omega)))
  have hgh1 : h ≤ g1 := by have := (unhide HB2).size; omega
  have HX1 := hide hE1
  clear hb hE1 hg1
  go_wp2_with fail
  refine (unhide HFK _).mono ?_
  rintro ev y4 ⟨rfl, hb⟩
  have HB4 := hide (show Below h w y4 from (unhide HB3).trans (hb.mono (by have := (unhide HB3).size; omega)))
  replace HX1 := hide ((unhide HX1).below hb (unhide HX1).lt)
  clear hb
  go_wp2_with fail
  refine (unhide HF2 _).mono ?_
  rintro ev y5 ⟨rfl, hb⟩
  have HB5 := hide (show Below h w y5 from (unhide HB4).trans (hb.mono (by have := (unhide HB4).size; omega)))
  replace HX1 := hide ((unhide HX1).below hb (unhide HX1).lt)
  clear hb
  go_wp2_with fail
  refine (unhide HN2 _).mono ?_
  rintro ev y6 ⟨g2, hg2, rfl, hE2, hb⟩
  have HB6 := hide (show Below h w y6 from (unhide HB5).trans (hb.mono (by have := (unhide HB5).size; omega)))
  have hgh2 : h ≤ g2 := by have := (unhide HB5).size; omega
  have hne : g1 ≠ g2 := by have := (unhide HX1).lt; omega
  replace HX1 := hide ((unhide HX1).below hb (unhide HX1).lt)
  have HX2 := hide hE2
  clear hb hE2 hg2 HB0 HB1 HB2 HB3 HB4 HB5 HFK HF1 HF2 HN1 HN2
  go_wp2_with fail
  refine (unhide HHB y6 g2 (unhide HX2) (unhide HKB _ (unhide HB6))).mono ?_
  rintro ev y7 ⟨rfl, hb⟩
  have HB7 := hide (show Below h w y7 from (unhide HB6).trans (hb.mono (by have := (unhide HB6).size; omega)))
  replace HX1 := hide ((unhide HX1).below hb (unhide HX1).lt)
  replace HX2 := hide ((unhide HX2).below hb (unhide HX2).lt)
  clear hb HB6
  go_wp2_with fail
  refine (unhide HGA y7 g1 (unhide HX1) (unhide HKB _ (unhide HB7)) (by omega)).mono ?_
  rintro ev y8 ⟨rfl, hE, hO⟩
  have HB8 := hide (show Below h w y8 from (unhide HB7).trans (hO.below (by have := (unhide HB7).size; omega) (fun k hk q => by omega)))
  replace HX1 := hide hE
  replace HX2 := hide ((unhide HX2).only hO (fun q => hne q.symm))
  clear hE hO HB7
  go_wp2_with fail
  refine (unhide HHA y8 g1 (unhide HX1) (unhide HKB _ (unhide HB8))).mono ?_
  rintro ev y9 ⟨rfl, hb⟩
  have HB9 := hide (show Below h w y9 from (unhide HB8).trans (hb.mono (by have := (unhide HB8).size; omega)))
  replace HX1 := hide ((unhide HX1).below hb (unhide HX1).lt)
  replace HX2 := hide ((unhide HX2).below hb (unhide HX2).lt)
  clear hb HB8
  go_wp2_with fail
  refine (unhide HGB y9 g2 (unhide HX2) (unhide HKB _ (unhide HB9)) (by omega)).mono ?_
  rintro ev y10 ⟨rfl, hE, hO⟩
  have HB10 := hide (show Below h w y10 from (unhide HB9).trans (hO.below (by have := (unhide HB9).size; omega) (fun k hk q => by omega)))
  replace HX1 := hide ((unhide HX1).only hO (fun q => hne q))
  replace HX2 := hide hE
  clear hE hO HB9
  go_wp2_with fail
  refine (unhide HRA y10 g1 (unhide HX1)).mono ?_
  rintro ev y11 ⟨rfl, hb⟩
  have HB11 := hide (show Below h w y11 from (unhide HB10).trans (hb.mono (by have := (unhide HB10).size; omega)))
  replace HX1 := hide ((unhide HX1).below hb (unhide HX1).lt)
  replace HX2 := hide ((unhide HX2).below hb (unhide HX2).lt)
  clear hb HB10
  go_wp2_with fail
  refine (unhide HRB y11 g2 (unhide HX2)).mono ?_
  rintro ev y12 ⟨rfl, hb⟩
  have HB12 := hide (show Below h w y12 from (unhide HB11).trans (hb.mono (by have := (unhide HB11).size; omega)))
  replace HX1 := hide ((unhide HX1).below hb (unhide HX1).lt)
  replace HX2 := hide ((unhide HX2).below hb (unhide HX2).lt)
  clear hb HB11
  go_wp2
  go_ret2
  exact ⟨g1, g2, rfl, unhide HX1, unhide HX2, hne, hgh1, hgh2, unhide HB12⟩
end Go.Proofs.YtifjmldmilmfjaaGreatDoor

namespace Go.Proofs.YtifjmldmilmfjaaGreatDoor
open Go.RowKit
set_option maxRecDepth 100000
def w_k : List Int := [1, 3, 6, 9, 12, 15, 18, 21, 25, 27, 30, 33, 36, 39, 42, 45, 49, 51, 54, 57, 60, 63, 66, 69, 73, 75, 78, 81, 84, 87, 90, 93]
def w_n0 : List Int := [2, 3, 6, 9, 12, 15, 18, 21, 26, 27, 30, 33, 36, 39, 42, 45]
def w_n1 : List Int := [3, 3, 6, 9, 12, 15, 18, 21, 27, 27, 30, 33, 36, 39, 42, 45]
def w_t10 : List Int := [86, 150, 7, 10, 225, 86, 196, 209, 146, 51, 138, 84, 55, 150, 7, 247, 246, 122, 45, 106, 132, 61, 225, 100, 38, 184, 187, 6, 253, 53, 50, 208]
def w_t20 : List Int := [53, 216, 48, 98, 23, 77, 79, 110, 29, 242, 168, 153, 5, 159, 220, 224, 166, 102, 60, 18, 35, 226, 73, 92, 210, 64, 183, 92, 192, 186, 105, 47]
def w_t11 : List Int := [62, 155, 110, 70, 222, 242, 89, 108, 94, 36, 98, 122, 81, 160, 51, 62, 112, 22, 251, 116, 41, 246, 160, 139, 79, 34, 19, 215, 9, 223, 75, 95]
def w_t21 : List Int := [59, 206, 38, 135, 122, 26, 58, 42, 18, 166, 80, 122, 41, 224, 229, 23, 70, 206, 137, 22, 138, 29, 222, 160, 135, 169, 147, 93, 117, 112, 217, 148]
def w_m : List Int := [196, 101, 136, 54, 243, 86, 47, 3, 96, 184, 84, 90, 149, 64, 65, 116, 219, 100, 128, 155, 39, 76, 52, 215, 113, 133, 220, 190, 112, 29, 226, 46]
def w_a : List Int := [249, 60, 64, 39, 5, 147, 233, 58, 230, 228, 17, 181, 87, 69, 177, 210, 37, 51, 44, 6, 99, 64, 146, 119, 105, 90, 90, 176, 209, 189, 76, 113]
def w_b : List Int := [216, 79, 201, 169, 213, 45, 225, 7, 222, 101, 29, 65, 16, 226, 19, 230, 65, 142, 53, 216, 27, 244, 182, 75, 234, 172, 251, 147, 85, 138, 66, 218]
def w_x : List Int := [76, 77, 0, 0, 0, 0, 0, 0, 0, 0, 64]
def w_i0 : List Int := [108, 105, 110, 107, 2, 3, 6, 9, 12, 15, 18, 21, 26, 27, 30, 33, 36, 39, 42, 45, 3, 3, 6, 9, 12, 15, 18, 21, 27, 27, 30, 33, 36, 39, 42, 45, 0]
def w_i1 : List Int := [108, 105, 110, 107, 2, 3, 6, 9, 12, 15, 18, 21, 26, 27, 30, 33, 36, 39, 42, 45, 3, 3, 6, 9, 12, 15, 18, 21, 27, 27, 30, 33, 36, 39, 42, 45, 1]
set_option maxHeartbeats 4000000 in
theorem k_fk : flL 1 32 = w_k := by kernel_rfl
set_option maxHeartbeats 4000000 in
theorem k_f0 : flL 2 16 = w_n0 := by kernel_rfl
set_option maxHeartbeats 4000000 in
theorem k_f1 : flL 3 16 = w_n1 := by kernel_rfl
set_option maxHeartbeats 4000000 in
theorem k_t10 : macP w_k (w_i0 ++ [1]) = w_t10 := by kernel_rfl
set_option maxHeartbeats 4000000 in
theorem k_t20 : macP w_k (w_t10 ++ w_i0 ++ [2]) = w_t20 := by kernel_rfl
set_option maxHeartbeats 4000000 in
theorem k_t11 : macP w_k (w_i1 ++ [1]) = w_t11 := by kernel_rfl
set_option maxHeartbeats 4000000 in
theorem k_t21 : macP w_k (w_t11 ++ w_i1 ++ [2]) = w_t21 := by kernel_rfl
set_option maxHeartbeats 4000000 in
theorem k_m : macP w_t10 [0, 0, 0, 0, 0, 0, 0, 0] = w_m := by kernel_rfl
set_option maxHeartbeats 4000000 in
theorem k_p : laidP [97] (partP w_m 0 1) = [64] := by kernel_rfl
set_option maxHeartbeats 4000000 in
theorem k_a : macP w_t20 w_x = w_a := by kernel_rfl
set_option maxHeartbeats 4000000 in
theorem k_b : macP w_t21 w_x = w_b := by kernel_rfl
theorem bytes32L (l : List Int) (h : l.all (fun x => decide (0 ≤ x) && decide (x < 256)) = true) : Bytes l := fun j => by
  rw [List.getD_eq_getElem?_getD]
  by_cases hj : j < l.length
  · rw [List.getElem?_eq_getElem hj]
    have := List.all_eq_true.1 h _ (List.getElem_mem hj)
    simpa using this
  · rw [List.getElem?_eq_none (by omega)]
    simp
def kB : ByteArray := flB 1 32
def n0B : ByteArray := flB 2 16
def n1B : ByteArray := flB 3 16
theorem nums_kB : nums kB = w_k := by rw [kB, flB, nums_strOfNums _ (flL_bytes _ _), k_fk]
theorem nums_n0B : nums n0B = w_n0 := by rw [n0B, flB, nums_strOfNums _ (flL_bytes _ _), k_f0]
theorem nums_n1B : nums n1B = w_n1 := by rw [n1B, flB, nums_strOfNums _ (flL_bytes _ _), k_f1]
theorem nums_sd (i : Nat) (h : i < 256) : nums (sdB i) = [(i : Int)] := by
  rw [sdB, nums_strOfNums]
  intro j
  cases j with
  | zero => exact ⟨by show (0 : Int) ≤ (i : Int); omega, by show (i : Int) < 256; omega⟩
  | succ j => exact ⟨by simp, by simp⟩
theorem nums_in0 : nums (lkB ++ n0B ++ n1B ++ sdB 0) = w_i0 := by
  rw [nums_append, nums_append, nums_append, nums_n0B, nums_n1B, nums_sd 0 (by decide)]
  rfl
theorem nums_dr0 : nums (drB kB n0B n1B 0) = w_t10 ++ w_t20 := by
  have h1 : tP (nums kB) (nums (lkB ++ n0B ++ n1B ++ sdB 0)) 1 = w_t10 := by
    rw [nums_kB, nums_in0]
    exact k_t10
  have h2 : tP (nums kB) (nums (lkB ++ n0B ++ n1B ++ sdB 0)) 2 = w_t20 := by
    rw [show tP (nums kB) (nums (lkB ++ n0B ++ n1B ++ sdB 0)) 2 = macP (nums kB) (tP (nums kB) (nums (lkB ++ n0B ++ n1B ++ sdB 0)) 1 ++ nums (lkB ++ n0B ++ n1B ++ sdB 0) ++ [(((1 : Nat) : Int) + 1) % 256]) from rfl, h1, nums_kB, nums_in0]
    exact k_t20
  have h3 : outP (nums kB) (nums (lkB ++ n0B ++ n1B ++ sdB 0)) 2 = w_t10 ++ w_t20 := by
    rw [show outP (nums kB) (nums (lkB ++ n0B ++ n1B ++ sdB 0)) 2 = ([] ++ tP (nums kB) (nums (lkB ++ n0B ++ n1B ++ sdB 0)) 1) ++ tP (nums kB) (nums (lkB ++ n0B ++ n1B ++ sdB 0)) 2 from rfl, h1, h2]
    rfl
  rw [drB, show (64 + 31) / 32 = 2 from rfl, h3, nums_strOfNums]
  · rfl
  · exact bytes32L _ (by decide)
theorem nums_se0 : nums (seB kB n0B n1B 0) = w_t20 := by
  rw [seB, nums_extract, nums_dr0]
  rfl
theorem nums_in1 : nums (lkB ++ n0B ++ n1B ++ sdB 1) = w_i1 := by
  rw [nums_append, nums_append, nums_append, nums_n0B, nums_n1B, nums_sd 1 (by decide)]
  rfl
theorem nums_dr1 : nums (drB kB n0B n1B 1) = w_t11 ++ w_t21 := by
  have h1 : tP (nums kB) (nums (lkB ++ n0B ++ n1B ++ sdB 1)) 1 = w_t11 := by
    rw [nums_kB, nums_in1]
    exact k_t11
  have h2 : tP (nums kB) (nums (lkB ++ n0B ++ n1B ++ sdB 1)) 2 = w_t21 := by
    rw [show tP (nums kB) (nums (lkB ++ n0B ++ n1B ++ sdB 1)) 2 = macP (nums kB) (tP (nums kB) (nums (lkB ++ n0B ++ n1B ++ sdB 1)) 1 ++ nums (lkB ++ n0B ++ n1B ++ sdB 1) ++ [(((1 : Nat) : Int) + 1) % 256]) from rfl, h1, nums_kB, nums_in1]
    exact k_t21
  have h3 : outP (nums kB) (nums (lkB ++ n0B ++ n1B ++ sdB 1)) 2 = w_t11 ++ w_t21 := by
    rw [show outP (nums kB) (nums (lkB ++ n0B ++ n1B ++ sdB 1)) 2 = ([] ++ tP (nums kB) (nums (lkB ++ n0B ++ n1B ++ sdB 1)) 1) ++ tP (nums kB) (nums (lkB ++ n0B ++ n1B ++ sdB 1)) 2 from rfl, h1, h2]
    rfl
  rw [drB, show (64 + 31) / 32 = 2 from rfl, h3, nums_strOfNums]
  · rfl
  · exact bytes32L _ (by decide)
theorem nums_se1 : nums (seB kB n0B n1B 1) = w_t21 := by
  rw [seB, nums_extract, nums_dr1]
  rfl
theorem nums_hi0 : nums (hiB kB n0B n1B 0) = w_t10 := by
  rw [hiB, nums_extract, nums_dr0]
  rfl
theorem nums_mc : nums (mcB (hiB kB n0B n1B 0) (nuB 0)) = w_m := by
  rw [mcB, nums_strOfNums _ (mac_bytes _ _), nums_hi0, nuB, nums_strOfNums _ (numB_bytes _ _)]
  exact k_m
def a9B : ByteArray := ⟨#[97]⟩
theorem hd_a : hdB (hiB kB n0B n1B 0) 0 a9B = strOfNums [64] := by
  rw [hdB, xorB, if_pos (errP_zero.2 ⟨mcB_size _ _, by decide, by decide, by decide⟩), nums_mc]
  exact congrArg strOfNums k_p
theorem bd_a : nums (bdB (hiB kB n0B n1B 0) 0 a9B) = w_x := by
  rw [bdB, hd_a, nums_append, nums_append, nuB, nums_strOfNums _ (numB_bytes _ _), nums_strOfNums _ (bytes32L _ (by decide))]
  rfl
theorem own_no : isB (seB kB n0B n1B 1) (frB (hiB kB n0B n1B 0) (seB kB n0B n1B 0) 0 a9B) = false := by
  unfold isB
  refine decide_eq_false (fun h => ?_)
  have h1 := h.2.2.1
  rw [boB_fr] at h1
  have h2 := congrArg nums h1
  rw [tgB, frB, show lmB ++ nuB 0 ++ hdB (hiB kB n0B n1B 0) 0 a9B = bdB (hiB kB n0B n1B 0) 0 a9B from rfl, tgB, nums_append, nums_append] at h2
  have h3 := List.append_cancel_left h2
  rw [nums_extract, nums_extract, mcB, mcB, nums_strOfNums _ (mac_bytes _ _), nums_strOfNums _ (mac_bytes _ _), nums_se0, nums_se1, bd_a, k_a, k_b] at h3
  revert h3
  decide
end Go.Proofs.YtifjmldmilmfjaaGreatDoor

namespace Go.Proofs.YtifjmldmilmfjaaGreatDoor
open Go.RowKit
set_option maxRecDepth 100000
theorem sn_ok (e : LE) (m : ByteArray) (hr : e.r = true) (hs : e.s < 4611686018427387904) (hm : m.size ≤ 4096) : e.snE m = 0 ∧ e.snF m = frB (e.h e.i) (e.z e.i) (e.s : Int) m ∧ e.snN m = { e with s := e.s + 1 } := by
  have h : e.snE m = 0 := by rw [LE.snE, if_neg (by rw [hr]; simp; omega), if_neg (by omega)]
  exact ⟨h, by rw [LE.snF, if_pos h], by rw [LE.snN, if_pos h]⟩
theorem tk_new (e : LE) (n : Nat) (m : ByteArray) (hr : e.r = true) (hn : n < 9223372036854775808) (hm : m.size ≤ 4096) (ho : e.old n = false) : e.tkE (frB (e.h (1 - e.i)) (e.z (1 - e.i)) (n : Int) m) = 0 ∧ e.tkM (frB (e.h (1 - e.i)) (e.z (1 - e.i)) (n : Int) m) = m ∧ e.tkN (frB (e.h (1 - e.i)) (e.z (1 - e.i)) (n : Int) m) = { e with t := mkT e.t n, m := mkM e.t e.m n, q := e.q + 1 } := by
  obtain ⟨h1, h2, h3⟩ := frB_is (e.h (1 - e.i)) (e.z (1 - e.i)) n m hn hm
  have h : e.tkE (frB (e.h (1 - e.i)) (e.z (1 - e.i)) (n : Int) m) = 0 := by
    rw [LE.tkE, if_neg (by rw [hr]; decide), if_neg (by rw [h1]; decide), h2, Int.toNat_natCast, ho]
    rfl
  exact ⟨h, by rw [LE.tkM, if_pos h, h2, h3, hdB_twice _ _ _ (by omega)], by rw [LE.tkN, if_pos h, h2, Int.toNat_natCast]⟩
theorem tk_old (e : LE) (n : Nat) (m : ByteArray) (hr : e.r = true) (hn : n < 9223372036854775808) (hm : m.size ≤ 4096) (ho : e.old n = true) : e.tkE (frB (e.h (1 - e.i)) (e.z (1 - e.i)) (n : Int) m) = 213 ∧ e.tkM (frB (e.h (1 - e.i)) (e.z (1 - e.i)) (n : Int) m) = ⟨#[]⟩ ∧ e.tkN (frB (e.h (1 - e.i)) (e.z (1 - e.i)) (n : Int) m) = e := by
  obtain ⟨h1, h2, h3⟩ := frB_is (e.h (1 - e.i)) (e.z (1 - e.i)) n m hn hm
  have h : e.tkE (frB (e.h (1 - e.i)) (e.z (1 - e.i)) (n : Int) m) = 213 := by
    rw [LE.tkE, if_neg (by rw [hr]; decide), if_neg (by rw [h1]; decide), h2, Int.toNat_natCast, ho]
    rfl
  exact ⟨h, by rw [LE.tkM, h, if_neg (by decide)], by rw [LE.tkN, h, if_neg (by decide)]⟩
theorem tk_no (e : LE) (f : ByteArray) (hr : e.r = true) (h : isB (e.z (1 - e.i)) f = false) : e.tkE f = 212 ∧ e.tkM f = ⟨#[]⟩ ∧ e.tkN f = e := by
  have h : e.tkE f = 212 := by rw [LE.tkE, if_neg (by rw [hr]; decide), if_pos h]
  exact ⟨h, by rw [LE.tkM, h, if_neg (by decide)], by rw [LE.tkN, h, if_neg (by decide)]⟩
/-- the keys of two ends that have met -/
theorem me_keys (key one two : Int) (j : Nat) : (meB key one two).h j = (meA key one two).h j ∧ (meB key one two).z j = (meA key one two).z j := ⟨rfl, rfl⟩
theorem me0 : (meA 1 2 3).h 0 = hiB kB n0B n1B 0 ∧ (meA 1 2 3).z 0 = seB kB n0B n1B 0 ∧ (meA 1 2 3).z 1 = seB kB n0B n1B 1 := ⟨rfl, rfl, rfl⟩
set_option maxHeartbeats 4000000 in
theorem known21 (w : World) (hK : KTab w) (hG : ETy w) : Calls Tryz.prog 8 #[] w fun ev w' => ev = .returned (.bool true) ∧ Below w.heap.size w w' := by
  obtain ⟨h, hh⟩ : ∃ h, w.heap.size = h := ⟨_, rfl⟩
  have HKB := hide (show ∀ W, Below h w W → KTab W ∧ ETy W from fun W hW => ⟨hK.below (by rw [← hh] at hW; exact hW) hK.1, hG.below (by rw [← hh] at hW; exact hW) hG.lt⟩)
  have HME := hide (met_any 1 2 3 w hK)
  have hz := frB_size (hiB kB n0B n1B 0) (seB kB n0B n1B 0) 0 a9B (by decide)
  have h0 := own_no
  have hkk := me_keys 1 2 3
  have hm0 := me0
  have s1 := sn_ok (meA 1 2 3) a9B rfl (by decide) (by decide)
  have t1 := tk_new (meB 1 2 3) 0 a9B rfl (by decide) (by decide) rfl
  have t2 := tk_old { meB 1 2 3 with t := mkT 0 0, m := mkM 0 0 0, q := 1 } 0 a9B rfl (by decide) (by decide) rfl
  have t3 := tk_no { meA 1 2 3 with s := 1 } (frB (hiB kB n0B n1B 0) (seB kB n0B n1B 0) 0 a9B) rfl h0
  have e1 : frB ((meA 1 2 3).h (meA 1 2 3).i) ((meA 1 2 3).z (meA 1 2 3).i) (((meA 1 2 3).s : Nat) : Int) a9B = frB (hiB kB n0B n1B 0) (seB kB n0B n1B 0) 0 a9B := rfl
  have e2 : frB ((meB 1 2 3).h (1 - (meB 1 2 3).i)) ((meB 1 2 3).z (1 - (meB 1 2 3).i)) ((0 : Nat) : Int) a9B = frB (hiB kB n0B n1B 0) (seB kB n0B n1B 0) 0 a9B := rfl
  rw [e1] at s1
  rw [e2] at t1
  have t2' : LE.tkE { meB 1 2 3 with t := mkT 0 0, m := mkM 0 0 0, q := 1 } (frB (hiB kB n0B n1B 0) (seB kB n0B n1B 0) 0 a9B) = 213 ∧ LE.tkM { meB 1 2 3 with t := mkT 0 0, m := mkM 0 0 0, q := 1 } (frB (hiB kB n0B n1B 0) (seB kB n0B n1B 0) 0 a9B) = ⟨#[]⟩ ∧ LE.tkN { meB 1 2 3 with t := mkT 0 0, m := mkM 0 0 0, q := 1 } (frB (hiB kB n0B n1B 0) (seB kB n0B n1B 0) 0 a9B) = { meB 1 2 3 with t := mkT 0 0, m := mkM 0 0 0, q := 1 } := t2
  obtain ⟨F, hF⟩ : ∃ z, frB (hiB kB n0B n1B 0) (seB kB n0B n1B 0) 0 a9B = z := ⟨_, rfl⟩
  rw [hF] at s1 t1 t2' t3 hz
  obtain ⟨A1, hA1⟩ : ∃ z, ({ meA 1 2 3 with s := 1 } : LE) = z := ⟨_, rfl⟩
  obtain ⟨B1, hB1⟩ : ∃ z, ({ meB 1 2 3 with t := mkT 0 0, m := mkM 0 0 0, q := 1 } : LE) = z := ⟨_, rfl⟩
  have s3 : (meA 1 2 3).snN a9B = A1 := by rw [← hA1]; exact s1.2.2
  have t13 : (meB 1 2 3).tkN F = B1 := by rw [← hB1]; exact t1.2.2
  have hq0 : (meB 1 2 3).q < 4611686018427387904 := by show 0 < 4611686018427387904; decide
  have hq1 : B1.q < 4611686018427387904 := by rw [← hB1]; show 1 < 4611686018427387904; decide
  have hq2 : A1.q < 4611686018427387904 := by rw [← hA1]; show 0 < 4611686018427387904; decide
  rw [hB1] at t2'
  rw [hA1] at t3
  have hz7 : F.size = 27 := by rw [hz]; rfl
  have HSA := hide (fun W g (hE : EndM W g (meA 1 2 3)) hKW => lsend_any g _ a9B (by decide) W hE hKW)
  rw [s1.1, s1.2.1, s3] at HSA
  have HT1 := hide (fun W g (hE : EndM W g (meB 1 2 3)) hKW hGW => ltake_any g _ F (by omega) hq0 W hE hKW hGW)
  rw [t1.1, t1.2.1, t13] at HT1
  have HT2 := hide (fun W g (hE : EndM W g B1) hKW hGW => ltake_any g _ F (by omega) hq1 W hE hKW hGW)
  rw [t2'.1, t2'.2.1, t2'.2.2] at HT2
  have HT3 := hide (fun W g (hE : EndM W g A1) hKW hGW => ltake_any g _ F (by omega) hq2 W hE hKW hGW)
  rw [t3.1, t3.2.1, t3.2.2] at HT3
  have hzI : (F.size : Int) = 27 := by omega
  clear s1 t1 t2 t2' t3 e1 e2 hz h0 hkk hm0 hF hA1 hB1 s3 t13 hq0 hq1 hq2 hz7 hK hG
  rw [show a9B = (⟨#[97]⟩ : ByteArray) from rfl] at HSA HT1
  generalize meA 1 2 3 = A0 at *
  generalize meB 1 2 3 = B0 at *
  rw [hh] at HME ⊢
  go_enter Tryz.func8, Tryz.ntmps8
  go_wp2_with fail
  refine (unhide HME).mono ?_
  rintro ev y1 ⟨g1, g2, rfl, hE1, hE2, hne, hg1, hg2, hb⟩
  have HB1 := hide hb
  have HX1 := hide hE1
  have HX2 := hide hE2
  clear hE1 hE2 hb HME
  go_wp2_with fail
  refine (unhide HSA y1 g1 (unhide HX1) (unhide HKB _ (unhide HB1)).1).mono ?_
  rintro ev y2 ⟨rfl, hE, hO⟩
  have HB2 := hide (show Below h w y2 from (unhide HB1).trans (hO.below (by have := (unhide HB1).size; omega) (fun k hk q => by omega)))
  replace HX1 := hide hE
  replace HX2 := hide ((unhide HX2).only hO (fun q => hne q.symm))
  clear hE hO HB1 HSA
  go_wp2_with fail
  refine (unhide HT1 y2 g2 (unhide HX2) (unhide HKB _ (unhide HB2)).1 (unhide HKB _ (unhide HB2)).2).mono ?_
  rintro ev y3 ⟨rfl, hE, hO⟩
  have HB3 := hide (show Below h w y3 from (unhide HB2).trans (hO.below (by have := (unhide HB2).size; omega) (fun k hk q => by omega)))
  replace HX1 := hide ((unhide HX1).only hO (fun q => hne q))
  replace HX2 := hide hE
  clear hE hO HB2 HT1
  go_wp2_with fail
  refine (unhide HT2 y3 g2 (unhide HX2) (unhide HKB _ (unhide HB3)).1 (unhide HKB _ (unhide HB3)).2).mono ?_
  rintro ev y4 ⟨rfl, hE, hO⟩
  have HB4 := hide (show Below h w y4 from (unhide HB3).trans (hO.below (by have := (unhide HB3).size; omega) (fun k hk q => by omega)))
  replace HX1 := hide ((unhide HX1).only hO (fun q => hne q))
  clear hE hO HB3 HT2 HX2
  go_wp2_with fail
  refine (unhide HT3 y4 g1 (unhide HX1) (unhide HKB _ (unhide HB4)).1 (unhide HKB _ (unhide HB4)).2).mono ?_
  rintro ev y5 ⟨rfl, hE, hO⟩
  have HB5 := hide (show Below h w y5 from (unhide HB4).trans (hO.below (by have := (unhide HB4).size; omega) (fun k hk q => by omega)))
  clear hE hO HB4 HT3 HX1
  go_wp2
  go_ret
  exact ⟨rfl, unhide HB5⟩
end Go.Proofs.YtifjmldmilmfjaaGreatDoor
