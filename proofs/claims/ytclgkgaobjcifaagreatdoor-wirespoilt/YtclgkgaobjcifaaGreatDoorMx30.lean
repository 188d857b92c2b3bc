import Derived.Test.YtclgkgaobjcifaaGreatDoorMx21
namespace Go.Proofs.YtclgkgaobjcifaaGreatDoor
open Go.RowKit
set_option maxRecDepth 100000
/-- a request with nothing but what its kind has -/
def onlyQ (r : Req) : Req :=
  if r.kd = 1 then { Req.bare r.kd with te := r.te, qu := r.qu }
  else if r.kd = 2 then { Req.bare r.kd with te := r.te }
  else if r.kd = 3 then { Req.bare r.kd with te := r.te }
  else if r.kd = 4 then { Req.bare r.kd with vo := r.vo }
  else if r.kd = 5 then { Req.bare r.kd with vo := r.vo }
  else if r.kd = 6 then Req.bare r.kd
  else if r.kd = 7 then Req.bare r.kd
  else if r.kd = 8 then { Req.bare r.kd with vo := r.vo, bl := r.bl, di := r.di, wr := r.wr }
  else if r.kd = 9 then { Req.bare r.kd with no := r.no, sa := r.sa }
  else if r.kd = 10 then { Req.bare r.kd with vo := r.vo, bl := r.bl, wr := r.wr, da := r.da }
  else if r.kd = 11 then { Req.bare r.kd with vo := r.vo, bl := r.bl }
  else if r.kd = 12 then { Req.bare r.kd with vo := r.vo, bl := r.bl }
  else Req.bare r.kd
set_option maxHeartbeats 4000000 in
theorem only_1 (te qu vo bl no : Int) (di wr sa da : ByteArray) (w : World) : Calls Tryz.prog 85 #[.agg #[.int .i64 1, .int .i64 te, .int .i64 qu, .int .i64 vo, .int .i64 bl, .int .i64 no, .string di, .string wr, .string sa, .string da]] w fun e w' => e = .returned (.agg #[.int .i64 1, .int .i64 te, .int .i64 qu, .int .i64 0, .int .i64 0, .int .i64 0, .string ⟨#[]⟩, .string ⟨#[]⟩, .string ⟨#[]⟩, .string ⟨#[]⟩]) ∧ Below w.heap.size w w' := by
  go_enter Tryz.func85, Tryz.ntmps85
  go_wp2
  (try simp only [Exit.inBlock, Exit.then])
  refine bodyPost_ret (by simp [results, Tryz.results85, go_sem]; try rfl) rfl ?_
  exact ⟨rfl, by go_grown⟩
set_option maxHeartbeats 4000000 in
theorem only_2 (te qu vo bl no : Int) (di wr sa da : ByteArray) (w : World) : Calls Tryz.prog 85 #[.agg #[.int .i64 2, .int .i64 te, .int .i64 qu, .int .i64 vo, .int .i64 bl, .int .i64 no, .string di, .string wr, .string sa, .string da]] w fun e w' => e = .returned (.agg #[.int .i64 2, .int .i64 te, .int .i64 0, .int .i64 0, .int .i64 0, .int .i64 0, .string ⟨#[]⟩, .string ⟨#[]⟩, .string ⟨#[]⟩, .string ⟨#[]⟩]) ∧ Below w.heap.size w w' := by
  go_enter Tryz.func85, Tryz.ntmps85
  go_wp2
  (try simp only [Exit.inBlock, Exit.then])
  refine bodyPost_ret (by simp [results, Tryz.results85, go_sem]; try rfl) rfl ?_
  exact ⟨rfl, by go_grown⟩
set_option maxHeartbeats 4000000 in
theorem only_3 (te qu vo bl no : Int) (di wr sa da : ByteArray) (w : World) : Calls Tryz.prog 85 #[.agg #[.int .i64 3, .int .i64 te, .int .i64 qu, .int .i64 vo, .int .i64 bl, .int .i64 no, .string di, .string wr, .string sa, .string da]] w fun e w' => e = .returned (.agg #[.int .i64 3, .int .i64 te, .int .i64 0, .int .i64 0, .int .i64 0, .int .i64 0, .string ⟨#[]⟩, .string ⟨#[]⟩, .string ⟨#[]⟩, .string ⟨#[]⟩]) ∧ Below w.heap.size w w' := by
  go_enter Tryz.func85, Tryz.ntmps85
  go_wp2
  (try simp only [Exit.inBlock, Exit.then])
  refine bodyPost_ret (by simp [results, Tryz.results85, go_sem]; try rfl) rfl ?_
  exact ⟨rfl, by go_grown⟩
set_option maxHeartbeats 4000000 in
theorem only_4 (te qu vo bl no : Int) (di wr sa da : ByteArray) (w : World) : Calls Tryz.prog 85 #[.agg #[.int .i64 4, .int .i64 te, .int .i64 qu, .int .i64 vo, .int .i64 bl, .int .i64 no, .string di, .string wr, .string sa, .string da]] w fun e w' => e = .returned (.agg #[.int .i64 4, .int .i64 0, .int .i64 0, .int .i64 vo, .int .i64 0, .int .i64 0, .string ⟨#[]⟩, .string ⟨#[]⟩, .string ⟨#[]⟩, .string ⟨#[]⟩]) ∧ Below w.heap.size w w' := by
  go_enter Tryz.func85, Tryz.ntmps85
  go_wp2
  (try simp only [Exit.inBlock, Exit.then])
  refine bodyPost_ret (by simp [results, Tryz.results85, go_sem]; try rfl) rfl ?_
  exact ⟨rfl, by go_grown⟩
set_option maxHeartbeats 4000000 in
theorem only_5 (te qu vo bl no : Int) (di wr sa da : ByteArray) (w : World) : Calls Tryz.prog 85 #[.agg #[.int .i64 5, .int .i64 te, .int .i64 qu, .int .i64 vo, .int .i64 bl, .int .i64 no, .string di, .string wr, .string sa, .string da]] w fun e w' => e = .returned (.agg #[.int .i64 5, .int .i64 0, .int .i64 0, .int .i64 vo, .int .i64 0, .int .i64 0, .string ⟨#[]⟩, .string ⟨#[]⟩, .string ⟨#[]⟩, .string ⟨#[]⟩]) ∧ Below w.heap.size w w' := by
  go_enter Tryz.func85, Tryz.ntmps85
  go_wp2
  (try simp only [Exit.inBlock, Exit.then])
  refine bodyPost_ret (by simp [results, Tryz.results85, go_sem]; try rfl) rfl ?_
  exact ⟨rfl, by go_grown⟩
set_option maxHeartbeats 4000000 in
theorem only_6 (te qu vo bl no : Int) (di wr sa da : ByteArray) (w : World) : Calls Tryz.prog 85 #[.agg #[.int .i64 6, .int .i64 te, .int .i64 qu, .int .i64 vo, .int .i64 bl, .int .i64 no, .string di, .string wr, .string sa, .string da]] w fun e w' => e = .returned (.agg #[.int .i64 6, .int .i64 0, .int .i64 0, .int .i64 0, .int .i64 0, .int .i64 0, .string ⟨#[]⟩, .string ⟨#[]⟩, .string ⟨#[]⟩, .string ⟨#[]⟩]) ∧ Below w.heap.size w w' := by
  go_enter Tryz.func85, Tryz.ntmps85
  go_wp2
  (try simp only [Exit.inBlock, Exit.then])
  refine bodyPost_ret (by simp [results, Tryz.results85, go_sem]; try rfl) rfl ?_
  exact ⟨rfl, by go_grown⟩
set_option maxHeartbeats 4000000 in
theorem only_7 (te qu vo bl no : Int) (di wr sa da : ByteArray) (w : World) : Calls Tryz.prog 85 #[.agg #[.int .i64 7, .int .i64 te, .int .i64 qu, .int .i64 vo, .int .i64 bl, .int .i64 no, .string di, .string wr, .string sa, .string da]] w fun e w' => e = .returned (.agg #[.int .i64 7, .int .i64 0, .int .i64 0, .int .i64 0, .int .i64 0, .int .i64 0, .string ⟨#[]⟩, .string ⟨#[]⟩, .string ⟨#[]⟩, .string ⟨#[]⟩]) ∧ Below w.heap.size w w' := by
  go_enter Tryz.func85, Tryz.ntmps85
  go_wp2
  (try simp only [Exit.inBlock, Exit.then])
  refine bodyPost_ret (by simp [results, Tryz.results85, go_sem]; try rfl) rfl ?_
  exact ⟨rfl, by go_grown⟩
set_option maxHeartbeats 4000000 in
theorem only_8 (te qu vo bl no : Int) (di wr sa da : ByteArray) (w : World) : Calls Tryz.prog 85 #[.agg #[.int .i64 8, .int .i64 te, .int .i64 qu, .int .i64 vo, .int .i64 bl, .int .i64 no, .string di, .string wr, .string sa, .string da]] w fun e w' => e = .returned (.agg #[.int .i64 8, .int .i64 0, .int .i64 0, .int .i64 vo, .int .i64 bl, .int .i64 0, .string di, .string wr, .string ⟨#[]⟩, .string ⟨#[]⟩]) ∧ Below w.heap.size w w' := by
  go_enter Tryz.func85, Tryz.ntmps85
  go_wp2
  (try simp only [Exit.inBlock, Exit.then])
  refine bodyPost_ret (by simp [results, Tryz.results85, go_sem]; try rfl) rfl ?_
  exact ⟨rfl, by go_grown⟩
set_option maxHeartbeats 4000000 in
theorem only_9 (te qu vo bl no : Int) (di wr sa da : ByteArray) (w : World) : Calls Tryz.prog 85 #[.agg #[.int .i64 9, .int .i64 te, .int .i64 qu, .int .i64 vo, .int .i64 bl, .int .i64 no, .string di, .string wr, .string sa, .string da]] w fun e w' => e = .returned (.agg #[.int .i64 9, .int .i64 0, .int .i64 0, .int .i64 0, .int .i64 0, .int .i64 no, .string ⟨#[]⟩, .string ⟨#[]⟩, .string sa, .string ⟨#[]⟩]) ∧ Below w.heap.size w w' := by
  go_enter Tryz.func85, Tryz.ntmps85
  go_wp2
  (try simp only [Exit.inBlock, Exit.then])
  refine bodyPost_ret (by simp [results, Tryz.results85, go_sem]; try rfl) rfl ?_
  exact ⟨rfl, by go_grown⟩
set_option maxHeartbeats 4000000 in
theorem only_10 (te qu vo bl no : Int) (di wr sa da : ByteArray) (w : World) : Calls Tryz.prog 85 #[.agg #[.int .i64 10, .int .i64 te, .int .i64 qu, .int .i64 vo, .int .i64 bl, .int .i64 no, .string di, .string wr, .string sa, .string da]] w fun e w' => e = .returned (.agg #[.int .i64 10, .int .i64 0, .int .i64 0, .int .i64 vo, .int .i64 bl, .int .i64 0, .string ⟨#[]⟩, .string wr, .string ⟨#[]⟩, .string da]) ∧ Below w.heap.size w w' := by
  go_enter Tryz.func85, Tryz.ntmps85
  go_wp2
  (try simp only [Exit.inBlock, Exit.then])
  refine bodyPost_ret (by simp [results, Tryz.results85, go_sem]; try rfl) rfl ?_
  exact ⟨rfl, by go_grown⟩
set_option maxHeartbeats 4000000 in
theorem only_11 (te qu vo bl no : Int) (di wr sa da : ByteArray) (w : World) : Calls Tryz.prog 85 #[.agg #[.int .i64 11, .int .i64 te, .int .i64 qu, .int .i64 vo, .int .i64 bl, .int .i64 no, .string di, .string wr, .string sa, .string da]] w fun e w' => e = .returned (.agg #[.int .i64 11, .int .i64 0, .int .i64 0, .int .i64 vo, .int .i64 bl, .int .i64 0, .string ⟨#[]⟩, .string ⟨#[]⟩, .string ⟨#[]⟩, .string ⟨#[]⟩]) ∧ Below w.heap.size w w' := by
  go_enter Tryz.func85, Tryz.ntmps85
  go_wp2
  (try simp only [Exit.inBlock, Exit.then])
  refine bodyPost_ret (by simp [results, Tryz.results85, go_sem]; try rfl) rfl ?_
  exact ⟨rfl, by go_grown⟩
set_option maxHeartbeats 4000000 in
theorem only_12 (te qu vo bl no : Int) (di wr sa da : ByteArray) (w : World) : Calls Tryz.prog 85 #[.agg #[.int .i64 12, .int .i64 te, .int .i64 qu, .int .i64 vo, .int .i64 bl, .int .i64 no, .string di, .string wr, .string sa, .string da]] w fun e w' => e = .returned (.agg #[.int .i64 12, .int .i64 0, .int .i64 0, .int .i64 vo, .int .i64 bl, .int .i64 0, .string ⟨#[]⟩, .string ⟨#[]⟩, .string ⟨#[]⟩, .string ⟨#[]⟩]) ∧ Below w.heap.size w w' := by
  go_enter Tryz.func85, Tryz.ntmps85
  go_wp2
  (try simp only [Exit.inBlock, Exit.then])
  refine bodyPost_ret (by simp [results, Tryz.results85, go_sem]; try rfl) rfl ?_
  exact ⟨rfl, by go_grown⟩
theorem only_any (r : Req) (h : 1 ≤ r.kd ∧ r.kd ≤ 12) (w : World) : Calls Tryz.prog 85 #[.agg r.cs] w fun e w' => e = .returned (.agg (onlyQ r).cs) ∧ Below w.heap.size w w' := by
  obtain ⟨kd, te, qu, vo, bl, no, di, wr, sa, da⟩ := r
  rcases kinds12 h with rfl | rfl | rfl | rfl | rfl | rfl | rfl | rfl | rfl | rfl | rfl | rfl
  · exact only_1 te qu vo bl no di wr sa da w
  · exact only_2 te qu vo bl no di wr sa da w
  · exact only_3 te qu vo bl no di wr sa da w
  · exact only_4 te qu vo bl no di wr sa da w
  · exact only_5 te qu vo bl no di wr sa da w
  · exact only_6 te qu vo bl no di wr sa da w
  · exact only_7 te qu vo bl no di wr sa da w
  · exact only_8 te qu vo bl no di wr sa da w
  · exact only_9 te qu vo bl no di wr sa da w
  · exact only_10 te qu vo bl no di wr sa da w
  · exact only_11 te qu vo bl no di wr sa da w
  · exact only_12 te qu vo bl no di wr sa da w
end Go.Proofs.YtclgkgaobjcifaaGreatDoor
