import Derived.Test.YtclgkgaobjcifaaGreatDoorMx21
import Derived.Test.YtclgkgaobjcifaaGreatDoorMx33
import Derived.Test.YtclgkgaobjcifaaGreatDoorMx11
import Derived.Test.YtclgkgaobjcifaaGreatDoorMx17
namespace Go.Proofs.YtclgkgaobjcifaaGreatDoor
open Go.RowKit
/-- a request of a kind, by the bytes of its fields -/
def tkQ (k : Int) (s : ByteArray) : Req :=
  if k = 1 then { Req.bare 1 with te := beN (nums (s.extract 0 1)), qu := beN (nums (s.extract 1 3)) }
  else if k = 2 then { Req.bare 2 with te := beN (nums (s.extract 0 1)) }
  else if k = 3 then { Req.bare 3 with te := beN (nums (s.extract 0 1)) }
  else if k = 4 then { Req.bare 4 with vo := beN (nums (s.extract 0 1)) }
  else if k = 5 then { Req.bare 5 with vo := beN (nums (s.extract 0 1)) }
  else if k = 6 then Req.bare 6
  else if k = 7 then Req.bare 7
  else if k = 8 then { Req.bare 8 with vo := beN (nums (s.extract 0 1)), bl := beN (nums (s.extract 1 2)), di := s.extract 2 34, wr := s.extract 34 82 }
  else if k = 9 then { Req.bare 9 with no := beN (nums (s.extract 0 4)), sa := s.extract 4 12 }
  else if k = 10 then { Req.bare 10 with vo := beN (nums (s.extract 0 1)), bl := beN (nums (s.extract 1 2)), wr := s.extract 2 50, da := s.extract 50 306 }
  else if k = 11 then { Req.bare 11 with vo := beN (nums (s.extract 0 1)), bl := beN (nums (s.extract 1 2)) }
  else if k = 12 then { Req.bare 12 with vo := beN (nums (s.extract 0 1)), bl := beN (nums (s.extract 1 2)) }
  else Req.bare k
set_option maxHeartbeats 4000000 in
theorem taken_1 (s : ByteArray) (hs : s.size = 3) (w : World) : Calls Tryz.prog 56 #[.int .i64 1, .string s] w fun e w' => e = .returned (.agg #[.int .i64 1, .int .i64 (beN (nums (s.extract 0 1))), .int .i64 (beN (nums (s.extract 1 3))), .int .i64 0, .int .i64 0, .int .i64 0, .string ⟨#[]⟩, .string ⟨#[]⟩, .string ⟨#[]⟩, .string ⟨#[]⟩]) ∧ Below w.heap.size w w' := by
  have Hte := hide (value_any (s.extract 0 1) (by simp; omega))
  have Hqu := hide (value_any (s.extract 1 3) (by simp; omega))
  go_enter Tryz.func56, Tryz.ntmps56
  go_wp2_with fail
  refine (unhide Hte _).mono ?_
  rintro e y ⟨rfl, hy⟩
  subst y
  go_wp2_with fail
  refine (unhide Hqu _).mono ?_
  rintro e y ⟨rfl, hy⟩
  subst y
  go_wp2
  (try simp only [Exit.inBlock, Exit.then])
  refine bodyPost_ret (by simp [results, Tryz.results56, go_sem]; try rfl) rfl ?_
  exact ⟨rfl, by go_grown⟩
set_option maxHeartbeats 4000000 in
theorem taken_2 (s : ByteArray) (hs : s.size = 1) (w : World) : Calls Tryz.prog 56 #[.int .i64 2, .string s] w fun e w' => e = .returned (.agg #[.int .i64 2, .int .i64 (beN (nums (s.extract 0 1))), .int .i64 0, .int .i64 0, .int .i64 0, .int .i64 0, .string ⟨#[]⟩, .string ⟨#[]⟩, .string ⟨#[]⟩, .string ⟨#[]⟩]) ∧ Below w.heap.size w w' := by
  have Hte := hide (value_any (s.extract 0 1) (by simp; omega))
  have hall : s.extract 0 1 = s := by
    have := extract_all s
    rwa [hs] at this
  rw [hall] at Hte ⊢
  go_enter Tryz.func56, Tryz.ntmps56
  go_wp2_with fail
  refine (unhide Hte _).mono ?_
  rintro e y ⟨rfl, hy⟩
  subst y
  go_wp2
  (try simp only [Exit.inBlock, Exit.then])
  refine bodyPost_ret (by simp [results, Tryz.results56, go_sem]; try rfl) rfl ?_
  exact ⟨rfl, by go_grown⟩
set_option maxHeartbeats 4000000 in
theorem taken_3 (s : ByteArray) (hs : s.size = 1) (w : World) : Calls Tryz.prog 56 #[.int .i64 3, .string s] w fun e w' => e = .returned (.agg #[.int .i64 3, .int .i64 (beN (nums (s.extract 0 1))), .int .i64 0, .int .i64 0, .int .i64 0, .int .i64 0, .string ⟨#[]⟩, .string ⟨#[]⟩, .string ⟨#[]⟩, .string ⟨#[]⟩]) ∧ Below w.heap.size w w' := by
  have Hte := hide (value_any (s.extract 0 1) (by simp; omega))
  have hall : s.extract 0 1 = s := by
    have := extract_all s
    rwa [hs] at this
  rw [hall] at Hte ⊢
  go_enter Tryz.func56, Tryz.ntmps56
  go_wp2_with fail
  refine (unhide Hte _).mono ?_
  rintro e y ⟨rfl, hy⟩
  subst y
  go_wp2
  (try simp only [Exit.inBlock, Exit.then])
  refine bodyPost_ret (by simp [results, Tryz.results56, go_sem]; try rfl) rfl ?_
  exact ⟨rfl, by go_grown⟩
set_option maxHeartbeats 4000000 in
theorem taken_4 (s : ByteArray) (hs : s.size = 1) (w : World) : Calls Tryz.prog 56 #[.int .i64 4, .string s] w fun e w' => e = .returned (.agg #[.int .i64 4, .int .i64 0, .int .i64 0, .int .i64 (beN (nums (s.extract 0 1))), .int .i64 0, .int .i64 0, .string ⟨#[]⟩, .string ⟨#[]⟩, .string ⟨#[]⟩, .string ⟨#[]⟩]) ∧ Below w.heap.size w w' := by
  have Hvo := hide (value_any (s.extract 0 1) (by simp; omega))
  have hall : s.extract 0 1 = s := by
    have := extract_all s
    rwa [hs] at this
  rw [hall] at Hvo ⊢
  go_enter Tryz.func56, Tryz.ntmps56
  go_wp2_with fail
  refine (unhide Hvo _).mono ?_
  rintro e y ⟨rfl, hy⟩
  subst y
  go_wp2
  (try simp only [Exit.inBlock, Exit.then])
  refine bodyPost_ret (by simp [results, Tryz.results56, go_sem]; try rfl) rfl ?_
  exact ⟨rfl, by go_grown⟩
set_option maxHeartbeats 4000000 in
theorem taken_5 (s : ByteArray) (hs : s.size = 1) (w : World) : Calls Tryz.prog 56 #[.int .i64 5, .string s] w fun e w' => e = .returned (.agg #[.int .i64 5, .int .i64 0, .int .i64 0, .int .i64 (beN (nums (s.extract 0 1))), .int .i64 0, .int .i64 0, .string ⟨#[]⟩, .string ⟨#[]⟩, .string ⟨#[]⟩, .string ⟨#[]⟩]) ∧ Below w.heap.size w w' := by
  have Hvo := hide (value_any (s.extract 0 1) (by simp; omega))
  have hall : s.extract 0 1 = s := by
    have := extract_all s
    rwa [hs] at this
  rw [hall] at Hvo ⊢
  go_enter Tryz.func56, Tryz.ntmps56
  go_wp2_with fail
  refine (unhide Hvo _).mono ?_
  rintro e y ⟨rfl, hy⟩
  subst y
  go_wp2
  (try simp only [Exit.inBlock, Exit.then])
  refine bodyPost_ret (by simp [results, Tryz.results56, go_sem]; try rfl) rfl ?_
  exact ⟨rfl, by go_grown⟩
set_option maxHeartbeats 4000000 in
theorem taken_6 (s : ByteArray) (_hs : s.size = 0) (w : World) : Calls Tryz.prog 56 #[.int .i64 6, .string s] w fun e w' => e = .returned (.agg #[.int .i64 6, .int .i64 0, .int .i64 0, .int .i64 0, .int .i64 0, .int .i64 0, .string ⟨#[]⟩, .string ⟨#[]⟩, .string ⟨#[]⟩, .string ⟨#[]⟩]) ∧ Below w.heap.size w w' := by
  go_enter Tryz.func56, Tryz.ntmps56
  go_wp2
  (try simp only [Exit.inBlock, Exit.then])
  refine bodyPost_ret (by simp [results, Tryz.results56, go_sem]; try rfl) rfl ?_
  exact ⟨rfl, by go_grown⟩
set_option maxHeartbeats 4000000 in
theorem taken_7 (s : ByteArray) (_hs : s.size = 0) (w : World) : Calls Tryz.prog 56 #[.int .i64 7, .string s] w fun e w' => e = .returned (.agg #[.int .i64 7, .int .i64 0, .int .i64 0, .int .i64 0, .int .i64 0, .int .i64 0, .string ⟨#[]⟩, .string ⟨#[]⟩, .string ⟨#[]⟩, .string ⟨#[]⟩]) ∧ Below w.heap.size w w' := by
  go_enter Tryz.func56, Tryz.ntmps56
  go_wp2
  (try simp only [Exit.inBlock, Exit.then])
  refine bodyPost_ret (by simp [results, Tryz.results56, go_sem]; try rfl) rfl ?_
  exact ⟨rfl, by go_grown⟩
set_option maxHeartbeats 4000000 in
theorem taken_8 (s : ByteArray) (hs : s.size = 82) (w : World) : Calls Tryz.prog 56 #[.int .i64 8, .string s] w fun e w' => e = .returned (.agg #[.int .i64 8, .int .i64 0, .int .i64 0, .int .i64 (beN (nums (s.extract 0 1))), .int .i64 (beN (nums (s.extract 1 2))), .int .i64 0, .string (s.extract 2 34), .string (s.extract 34 82), .string ⟨#[]⟩, .string ⟨#[]⟩]) ∧ Below w.heap.size w w' := by
  have Hvo := hide (value_any (s.extract 0 1) (by simp; omega))
  have Hbl := hide (value_any (s.extract 1 2) (by simp; omega))
  go_enter Tryz.func56, Tryz.ntmps56
  go_wp2_with fail
  refine (unhide Hvo _).mono ?_
  rintro e y ⟨rfl, hy⟩
  subst y
  go_wp2_with fail
  refine (unhide Hbl _).mono ?_
  rintro e y ⟨rfl, hy⟩
  subst y
  go_wp2
  (try simp only [Exit.inBlock, Exit.then])
  refine bodyPost_ret (by simp [results, Tryz.results56, go_sem]; try rfl) rfl ?_
  exact ⟨rfl, by go_grown⟩
set_option maxHeartbeats 4000000 in
theorem taken_9 (s : ByteArray) (hs : s.size = 12) (w : World) : Calls Tryz.prog 56 #[.int .i64 9, .string s] w fun e w' => e = .returned (.agg #[.int .i64 9, .int .i64 0, .int .i64 0, .int .i64 0, .int .i64 0, .int .i64 (beN (nums (s.extract 0 4))), .string ⟨#[]⟩, .string ⟨#[]⟩, .string (s.extract 4 12), .string ⟨#[]⟩]) ∧ Below w.heap.size w w' := by
  have Hno := hide (value_any (s.extract 0 4) (by simp; omega))
  go_enter Tryz.func56, Tryz.ntmps56
  go_wp2_with fail
  refine (unhide Hno _).mono ?_
  rintro e y ⟨rfl, hy⟩
  subst y
  go_wp2
  (try simp only [Exit.inBlock, Exit.then])
  refine bodyPost_ret (by simp [results, Tryz.results56, go_sem]; try rfl) rfl ?_
  exact ⟨rfl, by go_grown⟩
set_option maxHeartbeats 4000000 in
theorem taken_10 (s : ByteArray) (hs : s.size = 306) (w : World) : Calls Tryz.prog 56 #[.int .i64 10, .string s] w fun e w' => e = .returned (.agg #[.int .i64 10, .int .i64 0, .int .i64 0, .int .i64 (beN (nums (s.extract 0 1))), .int .i64 (beN (nums (s.extract 1 2))), .int .i64 0, .string ⟨#[]⟩, .string (s.extract 2 50), .string ⟨#[]⟩, .string (s.extract 50 306)]) ∧ Below w.heap.size w w' := by
  have Hvo := hide (value_any (s.extract 0 1) (by simp; omega))
  have Hbl := hide (value_any (s.extract 1 2) (by simp; omega))
  go_enter Tryz.func56, Tryz.ntmps56
  go_wp2_with fail
  refine (unhide Hvo _).mono ?_
  rintro e y ⟨rfl, hy⟩
  subst y
  go_wp2_with fail
  refine (unhide Hbl _).mono ?_
  rintro e y ⟨rfl, hy⟩
  subst y
  go_wp2
  (try simp only [Exit.inBlock, Exit.then])
  refine bodyPost_ret (by simp [results, Tryz.results56, go_sem]; try rfl) rfl ?_
  exact ⟨rfl, by go_grown⟩
set_option maxHeartbeats 4000000 in
theorem taken_11 (s : ByteArray) (hs : s.size = 2) (w : World) : Calls Tryz.prog 56 #[.int .i64 11, .string s] w fun e w' => e = .returned (.agg #[.int .i64 11, .int .i64 0, .int .i64 0, .int .i64 (beN (nums (s.extract 0 1))), .int .i64 (beN (nums (s.extract 1 2))), .int .i64 0, .string ⟨#[]⟩, .string ⟨#[]⟩, .string ⟨#[]⟩, .string ⟨#[]⟩]) ∧ Below w.heap.size w w' := by
  have Hvo := hide (value_any (s.extract 0 1) (by simp; omega))
  have Hbl := hide (value_any (s.extract 1 2) (by simp; omega))
  go_enter Tryz.func56, Tryz.ntmps56
  go_wp2_with fail
  refine (unhide Hvo _).mono ?_
  rintro e y ⟨rfl, hy⟩
  subst y
  go_wp2_with fail
  refine (unhide Hbl _).mono ?_
  rintro e y ⟨rfl, hy⟩
  subst y
  go_wp2
  (try simp only [Exit.inBlock, Exit.then])
  refine bodyPost_ret (by simp [results, Tryz.results56, go_sem]; try rfl) rfl ?_
  exact ⟨rfl, by go_grown⟩
set_option maxHeartbeats 4000000 in
theorem taken_12 (s : ByteArray) (hs : s.size = 2) (w : World) : Calls Tryz.prog 56 #[.int .i64 12, .string s] w fun e w' => e = .returned (.agg #[.int .i64 12, .int .i64 0, .int .i64 0, .int .i64 (beN (nums (s.extract 0 1))), .int .i64 (beN (nums (s.extract 1 2))), .int .i64 0, .string ⟨#[]⟩, .string ⟨#[]⟩, .string ⟨#[]⟩, .string ⟨#[]⟩]) ∧ Below w.heap.size w w' := by
  have Hvo := hide (value_any (s.extract 0 1) (by simp; omega))
  have Hbl := hide (value_any (s.extract 1 2) (by simp; omega))
  go_enter Tryz.func56, Tryz.ntmps56
  go_wp2_with fail
  refine (unhide Hvo _).mono ?_
  rintro e y ⟨rfl, hy⟩
  subst y
  go_wp2_with fail
  refine (unhide Hbl _).mono ?_
  rintro e y ⟨rfl, hy⟩
  subst y
  go_wp2
  (try simp only [Exit.inBlock, Exit.then])
  refine bodyPost_ret (by simp [results, Tryz.results56, go_sem]; try rfl) rfl ?_
  exact ⟨rfl, by go_grown⟩
theorem taken_any (k : Int) (h : 1 ≤ k ∧ k ≤ 12) (s : ByteArray) (hs : s.size = szF (rqF k)) (w : World) : Calls Tryz.prog 56 #[.int .i64 k, .string s] w fun e w' => e = .returned (.agg (tkQ k s).cs) ∧ Below w.heap.size w w' := by
  rcases kinds12 h with rfl | rfl | rfl | rfl | rfl | rfl | rfl | rfl | rfl | rfl | rfl | rfl
  · exact taken_1 s hs w
  · exact taken_2 s hs w
  · exact taken_3 s hs w
  · exact taken_4 s hs w
  · exact taken_5 s hs w
  · exact taken_6 s hs w
  · exact taken_7 s hs w
  · exact taken_8 s hs w
  · exact taken_9 s hs w
  · exact taken_10 s hs w
  · exact taken_11 s hs w
  · exact taken_12 s hs w
end Go.Proofs.YtclgkgaobjcifaaGreatDoor

namespace Go.Proofs.YtclgkgaobjcifaaGreatDoor
open Go.RowKit
set_option maxRecDepth 100000
theorem nums_sub (s : ByteArray) (i b : Nat) : nums (s.extract i (i + b)) = ((nums s).drop i).take b := by
  rw [nums_extract, List.drop_take]
  congr 1
  omega
theorem ex_ex (s : ByteArray) (e a b : Nat) (h : 1 + b ≤ e) : (s.extract 1 e).extract a b = s.extract (1 + a) (1 + b) := by
  apply nums_inj
  rw [nums_extract (s.extract 1 e), nums_extract s 1 e, nums_extract s (1 + a)]
  simp only [List.drop_take, List.take_take, List.drop_drop]
  have h1 : min b (e - 1) - a = 1 + b - (1 + a) := by omega
  rw [h1]
theorem prF_num (f : Fld) (hk : f.k = 0) (s : ByteArray) (i : Nat) : prF f s i = Prt.num (beN (nums (s.extract i (i + f.b)))) := by
  rw [prF, if_pos hk, nums_sub]
theorem prF_txt (f : Fld) (hk : f.k = 1) (s : ByteArray) (i : Nat) : prF f s i = Prt.txt (s.extract i (i + f.b)) := by
  rw [prF, if_neg (by omega)]
set_option maxHeartbeats 4000000 in
theorem tk_1 (s : ByteArray) (hs : s.size = 8) : tqB 1 s = mayQ (tkQ 1 (s.extract 1 (s.size - 4))) ∧ (tqB 1 s = true → tqR 1 s = tkQ 1 (s.extract 1 (s.size - 4))) := by
  have ete : (s.extract 1 (s.size - 4)).extract 0 1 = s.extract 1 2 := ex_ex s _ 0 1 (by omega)
  have equ : (s.extract 1 (s.size - 4)).extract 1 3 = s.extract 2 4 := ex_ex s _ 1 3 (by omega)
  have pte : prF fTen s (1) = Prt.num (beN (nums (s.extract 1 2))) := prF_num fTen rfl s _
  have pqu : prF fQuo s (1 + fTen.b) = Prt.num (beN (nums (s.extract 2 4))) := prF_num fQuo rfl s _
  have ht : tkQ 1 (s.extract 1 (s.size - 4)) = ⟨1, beN (nums (s.extract 1 2)), beN (nums (s.extract 2 4)), 0, 0, 0, ⟨#[]⟩, ⟨#[]⟩, ⟨#[]⟩, ⟨#[]⟩⟩ := by simp [tkQ, Req.bare, ete, equ]
  rw [ht]
  generalize beN (nums (s.extract 1 2)) = Xte at *
  generalize beN (nums (s.extract 2 4)) = Xqu at *
  have hT : takeQ [fTen, fQuo] (Req.bare 1) s 1 = (if okT fTen (Prt.num Xte) then (if okT fQuo (Prt.num Xqu) then some (⟨1, Xte, Xqu, 0, 0, 0, ⟨#[]⟩, ⟨#[]⟩, ⟨#[]⟩, ⟨#[]⟩⟩ : Req) else none) else none) := by
    simp only [takeQ, pte, pqu]
    rfl
  have hB : tqB 1 s = ((if okT fTen (Prt.num Xte) then (if okT fQuo (Prt.num Xqu) then some (⟨1, Xte, Xqu, 0, 0, 0, ⟨#[]⟩, ⟨#[]⟩, ⟨#[]⟩, ⟨#[]⟩⟩ : Req) else none) else none)).isSome := by rw [← hT]; rfl
  have hR : tqR 1 s = (match (if okT fTen (Prt.num Xte) then (if okT fQuo (Prt.num Xqu) then some (⟨1, Xte, Xqu, 0, 0, 0, ⟨#[]⟩, ⟨#[]⟩, ⟨#[]⟩, ⟨#[]⟩⟩ : Req) else none) else none) with | none => Req.bare 0 | some r => r) := by rw [← hT]; rfl
  rw [hB, hR]
  by_cases cte : 1 ≤ Xte ∧ Xte ≤ 8 <;>
  by_cases cqu : 0 ≤ Xqu ∧ Xqu ≤ 65535 <;>
  simp [okT, mayQ, condQ, onlyQ, eqQ, Req.bare, fTen, fQuo, Prt.num, cte, cqu]
set_option maxHeartbeats 4000000 in
theorem tk_2 (s : ByteArray) (hs : s.size = 6) : tqB 2 s = mayQ (tkQ 2 (s.extract 1 (s.size - 4))) ∧ (tqB 2 s = true → tqR 2 s = tkQ 2 (s.extract 1 (s.size - 4))) := by
  have ete : (s.extract 1 (s.size - 4)).extract 0 1 = s.extract 1 2 := ex_ex s _ 0 1 (by omega)
  have pte : prF fTen s (1) = Prt.num (beN (nums (s.extract 1 2))) := prF_num fTen rfl s _
  have ht : tkQ 2 (s.extract 1 (s.size - 4)) = ⟨2, beN (nums (s.extract 1 2)), 0, 0, 0, 0, ⟨#[]⟩, ⟨#[]⟩, ⟨#[]⟩, ⟨#[]⟩⟩ := by simp [tkQ, Req.bare, ete]
  rw [ht]
  generalize beN (nums (s.extract 1 2)) = Xte at *
  have hT : takeQ [fTen] (Req.bare 2) s 1 = (if okT fTen (Prt.num Xte) then some (⟨2, Xte, 0, 0, 0, 0, ⟨#[]⟩, ⟨#[]⟩, ⟨#[]⟩, ⟨#[]⟩⟩ : Req) else none) := by
    simp only [takeQ, pte]
    rfl
  have hB : tqB 2 s = ((if okT fTen (Prt.num Xte) then some (⟨2, Xte, 0, 0, 0, 0, ⟨#[]⟩, ⟨#[]⟩, ⟨#[]⟩, ⟨#[]⟩⟩ : Req) else none)).isSome := by rw [← hT]; rfl
  have hR : tqR 2 s = (match (if okT fTen (Prt.num Xte) then some (⟨2, Xte, 0, 0, 0, 0, ⟨#[]⟩, ⟨#[]⟩, ⟨#[]⟩, ⟨#[]⟩⟩ : Req) else none) with | none => Req.bare 0 | some r => r) := by rw [← hT]; rfl
  rw [hB, hR]
  by_cases cte : 1 ≤ Xte ∧ Xte ≤ 8 <;>
  simp [okT, mayQ, condQ, onlyQ, eqQ, Req.bare, fTen, Prt.num, cte]
set_option maxHeartbeats 4000000 in
theorem tk_3 (s : ByteArray) (hs : s.size = 6) : tqB 3 s = mayQ (tkQ 3 (s.extract 1 (s.size - 4))) ∧ (tqB 3 s = true → tqR 3 s = tkQ 3 (s.extract 1 (s.size - 4))) := by
  have ete : (s.extract 1 (s.size - 4)).extract 0 1 = s.extract 1 2 := ex_ex s _ 0 1 (by omega)
  have pte : prF fTen s (1) = Prt.num (beN (nums (s.extract 1 2))) := prF_num fTen rfl s _
  have ht : tkQ 3 (s.extract 1 (s.size - 4)) = ⟨3, beN (nums (s.extract 1 2)), 0, 0, 0, 0, ⟨#[]⟩, ⟨#[]⟩, ⟨#[]⟩, ⟨#[]⟩⟩ := by simp [tkQ, Req.bare, ete]
  rw [ht]
  generalize beN (nums (s.extract 1 2)) = Xte at *
  have hT : takeQ [fTen] (Req.bare 3) s 1 = (if okT fTen (Prt.num Xte) then some (⟨3, Xte, 0, 0, 0, 0, ⟨#[]⟩, ⟨#[]⟩, ⟨#[]⟩, ⟨#[]⟩⟩ : Req) else none) := by
    simp only [takeQ, pte]
    rfl
  have hB : tqB 3 s = ((if okT fTen (Prt.num Xte) then some (⟨3, Xte, 0, 0, 0, 0, ⟨#[]⟩, ⟨#[]⟩, ⟨#[]⟩, ⟨#[]⟩⟩ : Req) else none)).isSome := by rw [← hT]; rfl
  have hR : tqR 3 s = (match (if okT fTen (Prt.num Xte) then some (⟨3, Xte, 0, 0, 0, 0, ⟨#[]⟩, ⟨#[]⟩, ⟨#[]⟩, ⟨#[]⟩⟩ : Req) else none) with | none => Req.bare 0 | some r => r) := by rw [← hT]; rfl
  rw [hB, hR]
  by_cases cte : 1 ≤ Xte ∧ Xte ≤ 8 <;>
  simp [okT, mayQ, condQ, onlyQ, eqQ, Req.bare, fTen, Prt.num, cte]
set_option maxHeartbeats 4000000 in
theorem tk_4 (s : ByteArray) (hs : s.size = 6) : tqB 4 s = mayQ (tkQ 4 (s.extract 1 (s.size - 4))) ∧ (tqB 4 s = true → tqR 4 s = tkQ 4 (s.extract 1 (s.size - 4))) := by
  have evo : (s.extract 1 (s.size - 4)).extract 0 1 = s.extract 1 2 := ex_ex s _ 0 1 (by omega)
  have pvo : prF fVol s (1) = Prt.num (beN (nums (s.extract 1 2))) := prF_num fVol rfl s _
  have ht : tkQ 4 (s.extract 1 (s.size - 4)) = ⟨4, 0, 0, beN (nums (s.extract 1 2)), 0, 0, ⟨#[]⟩, ⟨#[]⟩, ⟨#[]⟩, ⟨#[]⟩⟩ := by simp [tkQ, Req.bare, evo]
  rw [ht]
  generalize beN (nums (s.extract 1 2)) = Xvo at *
  have hT : takeQ [fVol] (Req.bare 4) s 1 = (if okT fVol (Prt.num Xvo) then some (⟨4, 0, 0, Xvo, 0, 0, ⟨#[]⟩, ⟨#[]⟩, ⟨#[]⟩, ⟨#[]⟩⟩ : Req) else none) := by
    simp only [takeQ, pvo]
    rfl
  have hB : tqB 4 s = ((if okT fVol (Prt.num Xvo) then some (⟨4, 0, 0, Xvo, 0, 0, ⟨#[]⟩, ⟨#[]⟩, ⟨#[]⟩, ⟨#[]⟩⟩ : Req) else none)).isSome := by rw [← hT]; rfl
  have hR : tqR 4 s = (match (if okT fVol (Prt.num Xvo) then some (⟨4, 0, 0, Xvo, 0, 0, ⟨#[]⟩, ⟨#[]⟩, ⟨#[]⟩, ⟨#[]⟩⟩ : Req) else none) with | none => Req.bare 0 | some r => r) := by rw [← hT]; rfl
  rw [hB, hR]
  by_cases cvo : 1 ≤ Xvo ∧ Xvo ≤ 99 <;>
  simp [okT, mayQ, condQ, onlyQ, eqQ, Req.bare, fVol, Prt.num, cvo]
set_option maxHeartbeats 4000000 in
theorem tk_5 (s : ByteArray) (hs : s.size = 6) : tqB 5 s = mayQ (tkQ 5 (s.extract 1 (s.size - 4))) ∧ (tqB 5 s = true → tqR 5 s = tkQ 5 (s.extract 1 (s.size - 4))) := by
  have evo : (s.extract 1 (s.size - 4)).extract 0 1 = s.extract 1 2 := ex_ex s _ 0 1 (by omega)
  have pvo : prF fVol s (1) = Prt.num (beN (nums (s.extract 1 2))) := prF_num fVol rfl s _
  have ht : tkQ 5 (s.extract 1 (s.size - 4)) = ⟨5, 0, 0, beN (nums (s.extract 1 2)), 0, 0, ⟨#[]⟩, ⟨#[]⟩, ⟨#[]⟩, ⟨#[]⟩⟩ := by simp [tkQ, Req.bare, evo]
  rw [ht]
  generalize beN (nums (s.extract 1 2)) = Xvo at *
  have hT : takeQ [fVol] (Req.bare 5) s 1 = (if okT fVol (Prt.num Xvo) then some (⟨5, 0, 0, Xvo, 0, 0, ⟨#[]⟩, ⟨#[]⟩, ⟨#[]⟩, ⟨#[]⟩⟩ : Req) else none) := by
    simp only [takeQ, pvo]
    rfl
  have hB : tqB 5 s = ((if okT fVol (Prt.num Xvo) then some (⟨5, 0, 0, Xvo, 0, 0, ⟨#[]⟩, ⟨#[]⟩, ⟨#[]⟩, ⟨#[]⟩⟩ : Req) else none)).isSome := by rw [← hT]; rfl
  have hR : tqR 5 s = (match (if okT fVol (Prt.num Xvo) then some (⟨5, 0, 0, Xvo, 0, 0, ⟨#[]⟩, ⟨#[]⟩, ⟨#[]⟩, ⟨#[]⟩⟩ : Req) else none) with | none => Req.bare 0 | some r => r) := by rw [← hT]; rfl
  rw [hB, hR]
  by_cases cvo : 1 ≤ Xvo ∧ Xvo ≤ 99 <;>
  simp [okT, mayQ, condQ, onlyQ, eqQ, Req.bare, fVol, Prt.num, cvo]
set_option maxHeartbeats 4000000 in
theorem tk_6 (s : ByteArray) (_hs : s.size = 5) : tqB 6 s = mayQ (tkQ 6 (s.extract 1 (s.size - 4))) ∧ (tqB 6 s = true → tqR 6 s = tkQ 6 (s.extract 1 (s.size - 4))) := by
  have hM : mayQ (tkQ 6 (s.extract 1 (s.size - 4))) = true := by simp [mayQ, condQ, onlyQ, eqQ, tkQ, Req.bare]
  rw [hM]
  exact ⟨rfl, fun _ => rfl⟩
set_option maxHeartbeats 4000000 in
theorem tk_7 (s : ByteArray) (_hs : s.size = 5) : tqB 7 s = mayQ (tkQ 7 (s.extract 1 (s.size - 4))) ∧ (tqB 7 s = true → tqR 7 s = tkQ 7 (s.extract 1 (s.size - 4))) := by
  have hM : mayQ (tkQ 7 (s.extract 1 (s.size - 4))) = true := by simp [mayQ, condQ, onlyQ, eqQ, tkQ, Req.bare]
  rw [hM]
  exact ⟨rfl, fun _ => rfl⟩
set_option maxHeartbeats 4000000 in
theorem tk_8 (s : ByteArray) (hs : s.size = 87) : tqB 8 s = mayQ (tkQ 8 (s.extract 1 (s.size - 4))) ∧ (tqB 8 s = true → tqR 8 s = tkQ 8 (s.extract 1 (s.size - 4))) := by
  have evo : (s.extract 1 (s.size - 4)).extract 0 1 = s.extract 1 2 := ex_ex s _ 0 1 (by omega)
  have ebl : (s.extract 1 (s.size - 4)).extract 1 2 = s.extract 2 3 := ex_ex s _ 1 2 (by omega)
  have edi : (s.extract 1 (s.size - 4)).extract 2 34 = s.extract 3 35 := ex_ex s _ 2 34 (by omega)
  have zdi : (s.extract 3 35).size = 32 := by simp; omega
  have ewr : (s.extract 1 (s.size - 4)).extract 34 82 = s.extract 35 83 := ex_ex s _ 34 82 (by omega)
  have zwr : (s.extract 35 83).size = 48 := by simp; omega
  have pvo : prF fVol s (1) = Prt.num (beN (nums (s.extract 1 2))) := prF_num fVol rfl s _
  have pbl : prF fBlo s (1 + fVol.b) = Prt.num (beN (nums (s.extract 2 3))) := prF_num fBlo rfl s _
  have pdi : prF fDig s (1 + fVol.b + fBlo.b) = Prt.txt (s.extract 3 35) := prF_txt fDig rfl s _
  have pwr : prF fWra s (1 + fVol.b + fBlo.b + fDig.b) = Prt.txt (s.extract 35 83) := prF_txt fWra rfl s _
  have ht : tkQ 8 (s.extract 1 (s.size - 4)) = ⟨8, 0, 0, beN (nums (s.extract 1 2)), beN (nums (s.extract 2 3)), 0, s.extract 3 35, s.extract 35 83, ⟨#[]⟩, ⟨#[]⟩⟩ := by simp [tkQ, Req.bare, evo, ebl, edi, ewr]
  rw [ht]
  generalize beN (nums (s.extract 1 2)) = Xvo at *
  generalize beN (nums (s.extract 2 3)) = Xbl at *
  generalize s.extract 3 35 = Xdi at *
  generalize s.extract 35 83 = Xwr at *
  have hT : takeQ [fVol, fBlo, fDig, fWra] (Req.bare 8) s 1 = (if okT fVol (Prt.num Xvo) then (if okT fBlo (Prt.num Xbl) then (if okT fDig (Prt.txt Xdi) then (if okT fWra (Prt.txt Xwr) then some (⟨8, 0, 0, Xvo, Xbl, 0, Xdi, Xwr, ⟨#[]⟩, ⟨#[]⟩⟩ : Req) else none) else none) else none) else none) := by
    simp only [takeQ, pvo, pbl, pdi, pwr]
    rfl
  have hB : tqB 8 s = ((if okT fVol (Prt.num Xvo) then (if okT fBlo (Prt.num Xbl) then (if okT fDig (Prt.txt Xdi) then (if okT fWra (Prt.txt Xwr) then some (⟨8, 0, 0, Xvo, Xbl, 0, Xdi, Xwr, ⟨#[]⟩, ⟨#[]⟩⟩ : Req) else none) else none) else none) else none)).isSome := by rw [← hT]; rfl
  have hR : tqR 8 s = (match (if okT fVol (Prt.num Xvo) then (if okT fBlo (Prt.num Xbl) then (if okT fDig (Prt.txt Xdi) then (if okT fWra (Prt.txt Xwr) then some (⟨8, 0, 0, Xvo, Xbl, 0, Xdi, Xwr, ⟨#[]⟩, ⟨#[]⟩⟩ : Req) else none) else none) else none) else none) with | none => Req.bare 0 | some r => r) := by rw [← hT]; rfl
  rw [hB, hR]
  by_cases cvo : 1 ≤ Xvo ∧ Xvo ≤ 99 <;>
  by_cases cbl : 0 ≤ Xbl ∧ Xbl ≤ 255 <;>
  simp [okT, mayQ, condQ, onlyQ, eqQ, Req.bare, fVol, fBlo, fDig, fWra, Prt.num, placeQ, cvo, cbl, zdi, zwr]
set_option maxHeartbeats 4000000 in
theorem tk_9 (s : ByteArray) (hs : s.size = 17) : tqB 9 s = mayQ (tkQ 9 (s.extract 1 (s.size - 4))) ∧ (tqB 9 s = true → tqR 9 s = tkQ 9 (s.extract 1 (s.size - 4))) := by
  have eno : (s.extract 1 (s.size - 4)).extract 0 4 = s.extract 1 5 := ex_ex s _ 0 4 (by omega)
  have esa : (s.extract 1 (s.size - 4)).extract 4 12 = s.extract 5 13 := ex_ex s _ 4 12 (by omega)
  have zsa : (s.extract 5 13).size = 8 := by simp; omega
  have pno : prF fNon s (1) = Prt.num (beN (nums (s.extract 1 5))) := prF_num fNon rfl s _
  have psa : prF fSam s (1 + fNon.b) = Prt.txt (s.extract 5 13) := prF_txt fSam rfl s _
  have ht : tkQ 9 (s.extract 1 (s.size - 4)) = ⟨9, 0, 0, 0, 0, beN (nums (s.extract 1 5)), ⟨#[]⟩, ⟨#[]⟩, s.extract 5 13, ⟨#[]⟩⟩ := by simp [tkQ, Req.bare, eno, esa]
  rw [ht]
  generalize beN (nums (s.extract 1 5)) = Xno at *
  generalize s.extract 5 13 = Xsa at *
  have hT : takeQ [fNon, fSam] (Req.bare 9) s 1 = (if okT fNon (Prt.num Xno) then (if okT fSam (Prt.txt Xsa) then some (⟨9, 0, 0, 0, 0, Xno, ⟨#[]⟩, ⟨#[]⟩, Xsa, ⟨#[]⟩⟩ : Req) else none) else none) := by
    simp only [takeQ, pno, psa]
    rfl
  have hB : tqB 9 s = ((if okT fNon (Prt.num Xno) then (if okT fSam (Prt.txt Xsa) then some (⟨9, 0, 0, 0, 0, Xno, ⟨#[]⟩, ⟨#[]⟩, Xsa, ⟨#[]⟩⟩ : Req) else none) else none)).isSome := by rw [← hT]; rfl
  have hR : tqR 9 s = (match (if okT fNon (Prt.num Xno) then (if okT fSam (Prt.txt Xsa) then some (⟨9, 0, 0, 0, 0, Xno, ⟨#[]⟩, ⟨#[]⟩, Xsa, ⟨#[]⟩⟩ : Req) else none) else none) with | none => Req.bare 0 | some r => r) := by rw [← hT]; rfl
  rw [hB, hR]
  by_cases cno : 0 ≤ Xno ∧ Xno ≤ 4294967295 <;>
  simp [okT, mayQ, condQ, onlyQ, eqQ, Req.bare, fNon, fSam, Prt.num, cno, zsa]
set_option maxHeartbeats 4000000 in
theorem tk_10 (s : ByteArray) (hs : s.size = 311) : tqB 10 s = mayQ (tkQ 10 (s.extract 1 (s.size - 4))) ∧ (tqB 10 s = true → tqR 10 s = tkQ 10 (s.extract 1 (s.size - 4))) := by
  have evo : (s.extract 1 (s.size - 4)).extract 0 1 = s.extract 1 2 := ex_ex s _ 0 1 (by omega)
  have ebl : (s.extract 1 (s.size - 4)).extract 1 2 = s.extract 2 3 := ex_ex s _ 1 2 (by omega)
  have ewr : (s.extract 1 (s.size - 4)).extract 2 50 = s.extract 3 51 := ex_ex s _ 2 50 (by omega)
  have zwr : (s.extract 3 51).size = 48 := by simp; omega
  have eda : (s.extract 1 (s.size - 4)).extract 50 306 = s.extract 51 307 := ex_ex s _ 50 306 (by omega)
  have zda : (s.extract 51 307).size = 256 := by simp; omega
  have pvo : prF fVol s (1) = Prt.num (beN (nums (s.extract 1 2))) := prF_num fVol rfl s _
  have pbl : prF fBlo s (1 + fVol.b) = Prt.num (beN (nums (s.extract 2 3))) := prF_num fBlo rfl s _
  have pwr : prF fWra s (1 + fVol.b + fBlo.b) = Prt.txt (s.extract 3 51) := prF_txt fWra rfl s _
  have pda : prF fDat s (1 + fVol.b + fBlo.b + fWra.b) = Prt.txt (s.extract 51 307) := prF_txt fDat rfl s _
  have ht : tkQ 10 (s.extract 1 (s.size - 4)) = ⟨10, 0, 0, beN (nums (s.extract 1 2)), beN (nums (s.extract 2 3)), 0, ⟨#[]⟩, s.extract 3 51, ⟨#[]⟩, s.extract 51 307⟩ := by simp [tkQ, Req.bare, evo, ebl, ewr, eda]
  rw [ht]
  generalize beN (nums (s.extract 1 2)) = Xvo at *
  generalize beN (nums (s.extract 2 3)) = Xbl at *
  generalize s.extract 3 51 = Xwr at *
  generalize s.extract 51 307 = Xda at *
  have hT : takeQ [fVol, fBlo, fWra, fDat] (Req.bare 10) s 1 = (if okT fVol (Prt.num Xvo) then (if okT fBlo (Prt.num Xbl) then (if okT fWra (Prt.txt Xwr) then (if okT fDat (Prt.txt Xda) then some (⟨10, 0, 0, Xvo, Xbl, 0, ⟨#[]⟩, Xwr, ⟨#[]⟩, Xda⟩ : Req) else none) else none) else none) else none) := by
    simp only [takeQ, pvo, pbl, pwr, pda]
    rfl
  have hB : tqB 10 s = ((if okT fVol (Prt.num Xvo) then (if okT fBlo (Prt.num Xbl) then (if okT fWra (Prt.txt Xwr) then (if okT fDat (Prt.txt Xda) then some (⟨10, 0, 0, Xvo, Xbl, 0, ⟨#[]⟩, Xwr, ⟨#[]⟩, Xda⟩ : Req) else none) else none) else none) else none)).isSome := by rw [← hT]; rfl
  have hR : tqR 10 s = (match (if okT fVol (Prt.num Xvo) then (if okT fBlo (Prt.num Xbl) then (if okT fWra (Prt.txt Xwr) then (if okT fDat (Prt.txt Xda) then some (⟨10, 0, 0, Xvo, Xbl, 0, ⟨#[]⟩, Xwr, ⟨#[]⟩, Xda⟩ : Req) else none) else none) else none) else none) with | none => Req.bare 0 | some r => r) := by rw [← hT]; rfl
  rw [hB, hR]
  by_cases cvo : 1 ≤ Xvo ∧ Xvo ≤ 99 <;>
  by_cases cbl : 0 ≤ Xbl ∧ Xbl ≤ 255 <;>
  simp [okT, mayQ, condQ, onlyQ, eqQ, Req.bare, fVol, fBlo, fWra, fDat, Prt.num, placeQ, cvo, cbl, zwr, zda]
set_option maxHeartbeats 4000000 in
theorem tk_11 (s : ByteArray) (hs : s.size = 7) : tqB 11 s = mayQ (tkQ 11 (s.extract 1 (s.size - 4))) ∧ (tqB 11 s = true → tqR 11 s = tkQ 11 (s.extract 1 (s.size - 4))) := by
  have evo : (s.extract 1 (s.size - 4)).extract 0 1 = s.extract 1 2 := ex_ex s _ 0 1 (by omega)
  have ebl : (s.extract 1 (s.size - 4)).extract 1 2 = s.extract 2 3 := ex_ex s _ 1 2 (by omega)
  have pvo : prF fVol s (1) = Prt.num (beN (nums (s.extract 1 2))) := prF_num fVol rfl s _
  have pbl : prF fBlo s (1 + fVol.b) = Prt.num (beN (nums (s.extract 2 3))) := prF_num fBlo rfl s _
  have ht : tkQ 11 (s.extract 1 (s.size - 4)) = ⟨11, 0, 0, beN (nums (s.extract 1 2)), beN (nums (s.extract 2 3)), 0, ⟨#[]⟩, ⟨#[]⟩, ⟨#[]⟩, ⟨#[]⟩⟩ := by simp [tkQ, Req.bare, evo, ebl]
  rw [ht]
  generalize beN (nums (s.extract 1 2)) = Xvo at *
  generalize beN (nums (s.extract 2 3)) = Xbl at *
  have hT : takeQ [fVol, fBlo] (Req.bare 11) s 1 = (if okT fVol (Prt.num Xvo) then (if okT fBlo (Prt.num Xbl) then some (⟨11, 0, 0, Xvo, Xbl, 0, ⟨#[]⟩, ⟨#[]⟩, ⟨#[]⟩, ⟨#[]⟩⟩ : Req) else none) else none) := by
    simp only [takeQ, pvo, pbl]
    rfl
  have hB : tqB 11 s = ((if okT fVol (Prt.num Xvo) then (if okT fBlo (Prt.num Xbl) then some (⟨11, 0, 0, Xvo, Xbl, 0, ⟨#[]⟩, ⟨#[]⟩, ⟨#[]⟩, ⟨#[]⟩⟩ : Req) else none) else none)).isSome := by rw [← hT]; rfl
  have hR : tqR 11 s = (match (if okT fVol (Prt.num Xvo) then (if okT fBlo (Prt.num Xbl) then some (⟨11, 0, 0, Xvo, Xbl, 0, ⟨#[]⟩, ⟨#[]⟩, ⟨#[]⟩, ⟨#[]⟩⟩ : Req) else none) else none) with | none => Req.bare 0 | some r => r) := by rw [← hT]; rfl
  rw [hB, hR]
  by_cases cvo : 1 ≤ Xvo ∧ Xvo ≤ 99 <;>
  by_cases cbl : 0 ≤ Xbl ∧ Xbl ≤ 255 <;>
  simp [okT, mayQ, condQ, onlyQ, eqQ, Req.bare, fVol, fBlo, Prt.num, placeQ, cvo, cbl]
set_option maxHeartbeats 4000000 in
theorem tk_12 (s : ByteArray) (hs : s.size = 7) : tqB 12 s = mayQ (tkQ 12 (s.extract 1 (s.size - 4))) ∧ (tqB 12 s = true → tqR 12 s = tkQ 12 (s.extract 1 (s.size - 4))) := by
  have evo : (s.extract 1 (s.size - 4)).extract 0 1 = s.extract 1 2 := ex_ex s _ 0 1 (by omega)
  have ebl : (s.extract 1 (s.size - 4)).extract 1 2 = s.extract 2 3 := ex_ex s _ 1 2 (by omega)
  have pvo : prF fVol s (1) = Prt.num (beN (nums (s.extract 1 2))) := prF_num fVol rfl s _
  have pbl : prF fBlo s (1 + fVol.b) = Prt.num (beN (nums (s.extract 2 3))) := prF_num fBlo rfl s _
  have ht : tkQ 12 (s.extract 1 (s.size - 4)) = ⟨12, 0, 0, beN (nums (s.extract 1 2)), beN (nums (s.extract 2 3)), 0, ⟨#[]⟩, ⟨#[]⟩, ⟨#[]⟩, ⟨#[]⟩⟩ := by simp [tkQ, Req.bare, evo, ebl]
  rw [ht]
  generalize beN (nums (s.extract 1 2)) = Xvo at *
  generalize beN (nums (s.extract 2 3)) = Xbl at *
  have hT : takeQ [fVol, fBlo] (Req.bare 12) s 1 = (if okT fVol (Prt.num Xvo) then (if okT fBlo (Prt.num Xbl) then some (⟨12, 0, 0, Xvo, Xbl, 0, ⟨#[]⟩, ⟨#[]⟩, ⟨#[]⟩, ⟨#[]⟩⟩ : Req) else none) else none) := by
    simp only [takeQ, pvo, pbl]
    rfl
  have hB : tqB 12 s = ((if okT fVol (Prt.num Xvo) then (if okT fBlo (Prt.num Xbl) then some (⟨12, 0, 0, Xvo, Xbl, 0, ⟨#[]⟩, ⟨#[]⟩, ⟨#[]⟩, ⟨#[]⟩⟩ : Req) else none) else none)).isSome := by rw [← hT]; rfl
  have hR : tqR 12 s = (match (if okT fVol (Prt.num Xvo) then (if okT fBlo (Prt.num Xbl) then some (⟨12, 0, 0, Xvo, Xbl, 0, ⟨#[]⟩, ⟨#[]⟩, ⟨#[]⟩, ⟨#[]⟩⟩ : Req) else none) else none) with | none => Req.bare 0 | some r => r) := by rw [← hT]; rfl
  rw [hB, hR]
  by_cases cvo : 1 ≤ Xvo ∧ Xvo ≤ 99 <;>
  by_cases cbl : 0 ≤ Xbl ∧ Xbl ≤ 255 <;>
  simp [okT, mayQ, condQ, onlyQ, eqQ, Req.bare, fVol, fBlo, Prt.num, placeQ, cvo, cbl]
end Go.Proofs.YtclgkgaobjcifaaGreatDoor
