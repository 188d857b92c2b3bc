import Derived.Test.YtobmeiomfiepjaaGreatDoorXfj
namespace Go.Proofs.YtobmeiomfiepjaaGreatDoor
open Go.RowKit
set_option maxRecDepth 100000
def rq0 : Req := ⟨1, 3, 258, 0, 0, 0, ⟨#[]⟩, ⟨#[]⟩, ⟨#[]⟩, ⟨#[]⟩⟩
def rp0 : Rep := ⟨0, 258, 3, none, 0, 0, 0, none, 0, 0, ⟨#[]⟩, ⟨#[]⟩⟩
theorem lay_rq0 : layQ (rqF 1) rq0 = some (Req.bare 1, [3, 1, 2]) := by
  simp [layQ, rqF, exq, okF, byF, rq0, Req.bare, fTen, fQuo, Prt.num, Prt.nil, numB, List.range_succ]
theorem rq0_B : lqB rq0 = true := by
  have h : layQ (rqF rq0.kd) rq0 = some (Req.bare 1, [3, 1, 2]) := lay_rq0
  rw [lqB, h]
  simp [eqQ, Req.bare, rq0]
theorem rq0_L : eqL rq0 = [1, 3, 1, 2] := by
  have h : layQ (rqF rq0.kd) rq0 = some (Req.bare 1, [3, 1, 2]) := lay_rq0
  rw [eqL, lqL, h]
  simp [rq0, numB, List.range_succ]
theorem lay_rp0 : layR (rpF 7) rp0 = some (Rep.bare 0, [1, 2, 0, 3]) := by
  simp [layR, rpF, exr, okF, byF, rp0, Rep.bare, fQuo, fCha, Prt.num, Prt.nil, numB, List.range_succ]
theorem rp0_B : lrB 7 rp0 = true := by
  rw [lrB, lay_rp0]
  simp [bareP, Rep.bare]
theorem rp0_L : epL 7 rp0 = [0, 1, 2, 0, 3] := by
  rw [epL, lrL, lay_rp0]
  simp [rp0, numB, List.range_succ]
theorem front_str (a b : List Int) (n : Nat) (hn : n = a.length) : (strOfNums a ++ strOfNums b).extract 0 n = strOfNums a := by
  subst hn
  apply ByteArray.ext
  simp [strOfNums, ByteArray.data_extract, ByteArray.data_append]
theorem built_rq0 : Tryz.prog.built 23 [(0, .int .i64 1), (1, .int .i64 3), (2, .int .i64 258)] = some rq0.cs := by kernel_rfl
theorem built_rp0 : Tryz.prog.built 41 [(1, .int .i64 258), (2, .int .i64 3)] = some rp0.cs := by kernel_rfl
set_option maxHeartbeats 2000000 in
theorem known12_any (w : World) : Calls Tryz.prog 8 #[] w fun e w' => e = .returned (.bool true) ∧ Below w.heap.size w w' := by
  have hE := encodeRequest_any rq0
  have e1 : encQ rq0 = strOfNums [1, 3, 1, 2] ++ strOfNums (le4 (chkN [1, 3, 1, 2])) := by
    rw [encQ, if_pos (by decide), if_pos rq0_B, rq0_L]
  have e2 : errQ rq0 = 0 := by rw [errQ, if_pos (by decide), if_pos rq0_B]
  rw [e1, e2] at hE
  have hP := fun W => encodeReply_full 7 (by decide) rp0 (by decide) (by decide) (by intro f hf; simp [rpF] at hf; rcases hf with rfl | rfl <;> simp [IsN]) rp0_B W
  have e3 : epL ((7 : Nat) : Int) rp0 = [0, 1, 2, 0, 3] := rp0_L
  rw [e3] at hP
  have l4 : ∀ c : Nat, (strOfNums (le4 c)).size = 4 := fun c => by rw [strOfNums_size]; rfl
  have s1 : (strOfNums [1, 3, 1, 2] ++ strOfNums (le4 (chkN [1, 3, 1, 2]))).size = 8 := by rw [ByteArray.size_append, strOfNums_size, l4]; rfl
  have x1 : (strOfNums [1, 3, 1, 2] ++ strOfNums (le4 (chkN [1, 3, 1, 2]))).extract 0 4 = ⟨#[1, 3, 1, 2]⟩ := front_str _ _ 4 rfl
  have s2 : (strOfNums [0, 1, 2, 0, 3] ++ strOfNums (le4 (chkN (((7 : Nat) : Int) :: [0, 1, 2, 0, 3])))).size = 9 := by rw [ByteArray.size_append, strOfNums_size, l4]; rfl
  have x2 : (strOfNums [0, 1, 2, 0, 3] ++ strOfNums (le4 (chkN (((7 : Nat) : Int) :: [0, 1, 2, 0, 3])))).extract 0 5 = ⟨#[0, 1, 2, 0, 3]⟩ := front_str _ _ 5 rfl
  have HE := hide hE
  have HP := hide hP
  clear hE hP e1 e2 e3 l4
  generalize strOfNums [1, 3, 1, 2] ++ strOfNums (le4 (chkN [1, 3, 1, 2])) = S at *
  generalize strOfNums [0, 1, 2, 0, 3] ++ strOfNums (le4 (chkN (((7 : Nat) : Int) :: [0, 1, 2, 0, 3]))) = T at *
  have HB1 := hide built_rq0
  have HB2 := hide built_rp0
  go_enter Tryz.func8, Tryz.ntmps8
  go_wp2_with (first | refine wpList_buildAs rfl 23 #[(0, .const (.int .i64 1)), (1, .const (.int .i64 3)), (2, .const (.int .i64 258))] rfl _ rfl rq0.cs (unhide HB1) ?_)
  refine (unhide HE _).mono ?_
  rintro e y ⟨rfl, hy⟩
  have HY := hide hy
  clear hy
  go_wp2_with (first | refine wpList_buildAs rfl 41 #[(1, .const (.int .i64 258)), (2, .const (.int .i64 3))] rfl _ rfl rp0.cs (unhide HB2) ?_)
  refine (unhide HP _).mono ?_
  rintro e z ⟨rfl, hz⟩
  have HZ := hide hz
  clear hz
  go_wp2
  go_ret
  exact ⟨rfl, (unhide HY).trans ((unhide HZ).mono (unhide HY).size)⟩
end Go.Proofs.YtobmeiomfiepjaaGreatDoor
