import Derived.Test.YtilhilglokblpaaDoorQmh
namespace Go.Proofs.YtilhilglokblpaaDoor
open Go.RowKit
set_option maxRecDepth 100000
def w_la : List Int := [2, 42, 105, 121, 230, 218, 183, 170, 90, 228, 195, 229, 228, 95, 126, 151, 113, 18, 167, 230, 53, 147, 130, 13, 190, 193, 236, 115, 138, 36, 249, 60]
def w_lb : List Int := [87, 235, 53, 97, 93, 71, 243, 78, 199, 20, 202, 205, 245, 253, 116, 96, 138, 94, 142, 16, 39, 36, 232, 11, 36, 178, 135, 192, 194, 123, 106, 49]
def w_lc : List Int := [89, 127, 203, 49, 40, 45, 52, 101, 76, 32, 13, 52, 24, 252, 165, 112, 92, 100, 142, 191, 50, 110, 199, 61, 141, 222, 241, 24, 65, 248, 118, 216]
def w_lx : List Int := [60, 126, 155, 201, 48, 220, 147, 240, 31, 166, 153, 133, 239, 36, 45, 159, 158, 134, 31, 60, 83, 85, 170, 36, 206, 94, 244, 180, 184, 167, 12, 203]
def w_n1 : List Int := [177, 55, 152, 95, 244, 132, 251, 96, 13, 185, 49, 7, 199, 123, 3, 101, 200, 13, 120, 245, 180, 41, 222, 208, 253, 151, 54, 29, 7, 121, 153, 235]
def w_n1x : List Int := [110, 173, 155, 16, 71, 157, 108, 71, 221, 113, 127, 230, 233, 40, 192, 89, 87, 83, 176, 136, 247, 52, 146, 235, 9, 17, 196, 23, 152, 116, 78, 101]
def w_r3 : List Int := [54, 100, 46, 115, 194, 84, 10, 177, 33, 227, 166, 191, 149, 69, 176, 162, 73, 130, 205, 131, 14, 177, 61, 60, 209, 157, 227, 206, 108, 2, 30, 193]
def w_r3x : List Int := [38, 107, 55, 189, 29, 178, 215, 111, 59, 102, 194, 188, 254, 23, 219, 37, 77, 82, 232, 44, 4, 98, 234, 91, 5, 192, 93, 146, 229, 65, 127, 197]
set_option maxHeartbeats 4000000 in
theorem s_la : sha ([0, 97]) = w_la := by kernel_rfl
set_option maxHeartbeats 4000000 in
theorem s_lb : sha ([0, 98]) = w_lb := by kernel_rfl
set_option maxHeartbeats 4000000 in
theorem s_lc : sha ([0, 99]) = w_lc := by kernel_rfl
set_option maxHeartbeats 4000000 in
theorem s_lx : sha ([0, 120]) = w_lx := by kernel_rfl
set_option maxHeartbeats 4000000 in
theorem s_n1 : sha (1 :: (w_la ++ w_lb)) = w_n1 := by kernel_rfl
set_option maxHeartbeats 4000000 in
theorem s_n1x : sha (1 :: (w_la ++ w_lx)) = w_n1x := by kernel_rfl
set_option maxHeartbeats 4000000 in
theorem s_r3 : sha (1 :: (w_n1 ++ w_lc)) = w_r3 := by kernel_rfl
set_option maxHeartbeats 4000000 in
theorem s_r3x : sha (1 :: (w_n1x ++ w_lc)) = w_r3x := by kernel_rfl
theorem bytes32 (l : List Int) (h : l.all (fun x => decide (0 ≤ x) && decide (x < 256)) = true) : Bytes l := fun j => by
  rw [List.getD_eq_getElem?_getD]
  by_cases hj : j < l.length
  · rw [List.getElem?_eq_getElem hj]
    have := List.all_eq_true.1 h _ (List.getElem_mem hj)
    simpa using this
  · rw [List.getElem?_eq_none (by omega)]
    simp
theorem b_la : Bytes w_la := bytes32 _ (by decide)
theorem b_lb : Bytes w_lb := bytes32 _ (by decide)
theorem b_lc : Bytes w_lc := bytes32 _ (by decide)
theorem b_lx : Bytes w_lx := bytes32 _ (by decide)
theorem b_n1 : Bytes w_n1 := bytes32 _ (by decide)
theorem b_n1x : Bytes w_n1x := bytes32 _ (by decide)
theorem b_r3 : Bytes w_r3 := bytes32 _ (by decide)
theorem b_r3x : Bytes w_r3x := bytes32 _ (by decide)
theorem nd_lit (A B C : List Int) (hA : Bytes A) (hB : Bytes B) (h : sha (1 :: (A ++ B)) = C) : dg (mk1 ++ strOfNums A ++ strOfNums B) = strOfNums C := by
  have e : nums (mk1 ++ strOfNums A ++ strOfNums B) = 1 :: (A ++ B) := by
    rw [nums_app, nums_app, nums_strOfNums A hA, nums_strOfNums B hB, List.append_assoc]
    rfl
  rw [dg, e, h]
theorem lf_lit (c : UInt8) (C : List Int) (h : sha [0, (c.toNat : Int)] = C) : lf ⟨#[c]⟩ = strOfNums C := by
  rw [lf, dg, show nums (mk0 ++ ⟨#[c]⟩) = [0, (c.toNat : Int)] from by rw [nums_app]; rfl, h]
theorem lf_a : lf ⟨#[97]⟩ = strOfNums w_la := lf_lit 97 _ s_la
theorem lf_b : lf ⟨#[98]⟩ = strOfNums w_lb := lf_lit 98 _ s_lb
theorem lf_c : lf ⟨#[99]⟩ = strOfNums w_lc := lf_lit 99 _ s_lc
theorem lf_x : lf ⟨#[120]⟩ = strOfNums w_lx := lf_lit 120 _ s_lx
def aB : ByteArray := ⟨#[97]⟩
def bB : ByteArray := ⟨#[98]⟩
def cB3 : ByteArray := ⟨#[99]⟩
def xB3 : ByteArray := ⟨#[120]⟩
theorem kk_2 : kk 2 = 1 := kk_is 2 0 (by decide) (by decide)
theorem kk_3 : kk 3 = 2 := kk_is 3 1 (by decide) (by decide)
theorem rt_2 (a b : ByteArray) : rt [a, b] = ndB (lf a) (lf b) := by
  rw [rt_two [a, b] (by simp), show [a, b].length = 2 from rfl, kk_2]
  show ndB (rt [a]) (rt [b]) = _
  rw [rt_one, rt_one]
theorem rt_3 (a b c : ByteArray) : rt [a, b, c] = ndB (ndB (lf a) (lf b)) (lf c) := by
  rw [rt_two [a, b, c] (by simp), show [a, b, c].length = 3 from rfl, kk_3]
  show ndB (rt [a, b]) (rt [c]) = _
  rw [rt_2, rt_one]
theorem pt_3 (a b c : ByteArray) : pt [a, b, c] 1 = [lf a, lf c] := by
  rw [pt_left [a, b, c] 1 (by simp) (by rw [show [a, b, c].length = 3 from rfl, kk_3]; decide), show [a, b, c].length = 3 from rfl, kk_3]
  show pt [a, b] 1 ++ [rt [c]] = _
  rw [pt_right [a, b] 1 (by simp) (by rw [show [a, b].length = 2 from rfl, kk_2]; decide), show [a, b].length = 2 from rfl, kk_2]
  show pt [b] 0 ++ [rt [a]] ++ [rt [c]] = _
  rw [pt_one [b] 0 (by simp), rt_one, rt_one]
  rfl
theorem up_3 (a x c : ByteArray) : up 3 1 x [lf a, lf c] = some [mk0 ++ x, mk1 ++ lf a ++ lf x, mk1 ++ ndB (lf a) (lf x) ++ lf c] := by
  have e1 : up 3 1 x ([lf a] ++ [lf c]) = _ := up_left 3 1 x [lf a] (lf c) (by decide) (lf_size _) (by rw [kk_3]; decide)
  have e2 : up 2 1 x ([] ++ [lf a]) = _ := up_right 2 1 x [] (lf a) (by decide) (lf_size _) (by rw [kk_2]; decide)
  rw [show [lf a, lf c] = [lf a] ++ [lf c] from rfl, e1, kk_3, show [lf a] = [] ++ [lf a] from rfl, e2, kk_2]
  show Option.map _ (Option.map _ (up 1 0 x [])) = _
  rw [up_one 1 0 x (by decide)]
  rfl
theorem awk_b : ckE (rt [aB, bB, cB3]) 3 1 bB (pt [aB, bB, cB3] 1) = 0 := by
  unfold ckE
  rw [if_pos (rt_size _), if_pos (by decide), show (3 : Int).toNat = 3 from rfl, show (1 : Int).toNat = 1 from rfl, pt_3, up_3]
  show (if dg (mk1 ++ ndB (lf aB) (lf bB) ++ lf cB3) = rt [aB, bB, cB3] then (0 : Int) else 192) = 0
  rw [rt_3]
  exact if_pos rfl
theorem strN_inj {A B : List Int} (hA : Bytes A) (hB : Bytes B) (h : strOfNums A = strOfNums B) : A = B := by
  rw [← nums_strOfNums A hA, ← nums_strOfNums B hB, h]
theorem awk_x : ckE (rt [aB, bB, cB3]) 3 1 xB3 (pt [aB, bB, cB3] 1) = 192 := by
  unfold ckE
  rw [if_pos (rt_size _), if_pos (by decide), show (3 : Int).toNat = 3 from rfl, show (1 : Int).toNat = 1 from rfl, pt_3, up_3]
  show (if dg (mk1 ++ ndB (lf aB) (lf xB3) ++ lf cB3) = rt [aB, bB, cB3] then (0 : Int) else 192) = 192
  rw [rt_3]
  refine if_neg (fun h => ?_)
  unfold ndB aB bB cB3 xB3 at h
  rw [lf_a, lf_b, lf_c, lf_x, nd_lit _ _ _ b_la b_lx s_n1x, nd_lit _ _ _ b_la b_lb s_n1, nd_lit _ _ _ b_n1x b_lc s_r3x, nd_lit _ _ _ b_n1 b_lc s_r3] at h
  exact absurd (strN_inj b_r3x b_r3 h) (by decide)
theorem awk_len : (pt [aB, bB, cB3] 1).length = 2 := by rw [pt_3]; rfl
theorem awk_pa : paL [aB, bB, cB3] 1 = pt [aB, bB, cB3] 1 := by
  rw [paL, if_pos (by decide)]
  rfl
theorem awk_pe : paE 3 1 = 0 := rfl
end Go.Proofs.YtilhilglokblpaaDoor
