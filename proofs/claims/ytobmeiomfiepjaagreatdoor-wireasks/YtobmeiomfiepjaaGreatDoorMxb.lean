import Derived.Test.YtobmeiomfiepjaaGreatDoorXre
import Derived.Test.YtobmeiomfiepjaaGreatDoorRdi
import Derived.Test.YtobmeiomfiepjaaGreatDoorMxa
import Derived.Test.YtobmeiomfiepjaaGreatDoorXla
import Derived.Lib.SmallJoins
namespace Go.Proofs.YtobmeiomfiepjaaGreatDoor
open Go.RowKit
set_option maxRecDepth 100000
set_option maxHeartbeats 2000000 in
theorem value_any (s : ByteArray) (hs : s.size ≤ 4) (w : World) : Calls Tryz.prog 70 #[.string s] w fun e w' => e = .returned (.int .i64 (beN (nums s))) ∧ w' = w := by
  have HT := hide (fun i (hi : i < (nums s).length) => be_take (nums s) i hi)
  have HBD := hide (fun i => be_bound (nums s) (nums_bytes s) i)
  have HNB := hide (nums_bytes s)
  have HNL := hide (nums_len s)
  have HALL := hide (show (nums s).take s.size = nums s from List.take_of_length_le (by rw [nums_len]; exact Nat.le_refl _))
  have HIX := hide (fun i (hi : i < s.size) W => index_str s i hi W)
  generalize hL : nums s = L at *
  clear hL
  go_enter Tryz.func70, Tryz.ntmps70
  go_wp2
  go_loopw [3, 4] (fun m ix wr => ∃ i : Nat, i ≤ s.size ∧ ix = .int .i64 (i : Int) ∧ m = .int .i64 (beN (L.take i)) ∧ wr = w) (fun _ ix _ => s.size - (intOf ix).toNat)
  case atStart => exact ⟨0, Nat.zero_le _, rfl, rfl, rfl⟩
  case round =>
    obtain ⟨i, hi, rfl, rfl, rfl⟩ := hrel
    by_cases hin : i < s.size
    · have hin' : (i : Int) < (s.size : Int) := by omega
      have hi0 : (0 : Int) ≤ (i : Int) := by omega
      have ht := unhide HT i (by rw [unhide HNL]; exact hin)
      have hb0 := unhide HBD i
      have hb1 := unhide HBD (i + 1)
      have hnb := unhide HNB i
      have hix := unhide HIX i hin
      have hp : (256 : Int) ^ (i + 1) ≤ 256 ^ 4 := by
        have := Nat.pow_le_pow_right (show 0 < 256 by decide) (show i + 1 ≤ 4 by omega)
        exact_mod_cast this
      have hp0 : (256 : Int) ^ i ≤ 256 ^ 4 := by
        have := Nat.pow_le_pow_right (show 0 < 256 by decide) (show i ≤ 4 by omega)
        exact_mod_cast this
      have hq : (256 : Int) ^ 4 = 4294967296 := by decide
      rw [hq] at hp hp0
      obtain ⟨b0, hb0'⟩ : ∃ Z, beN (L.take i) = Z := ⟨_, rfl⟩
      obtain ⟨b1, hb1'⟩ : ∃ Z, beN (L.take (i + 1)) = Z := ⟨_, rfl⟩
      obtain ⟨c, hc⟩ : ∃ Z, L.getD i 0 = Z := ⟨_, rfl⟩
      have HB1 := hide hb1'
      rw [hb0', hb1', hc] at ht
      rw [hb0'] at hb0
      rw [hb1'] at hb1
      rw [hc] at hnb hix
      rw [hb0']
      have w1 : wrap64 (256 * b0) = 256 * b0 := wrap64_eq _ (by omega) (by omega)
      have w2 : wrap64 c = c := wrap64_eq _ (by omega) (by omega)
      have w3 : wrap64 (256 * b0 + c) = b1 := by rw [wrap64_eq _ (by omega) (by omega), ht]
      have wk : wrap64 ((i : Int) + 1) = ((i + 1 : Nat) : Int) := by rw [wrap64_eq _ (by omega) (by omega)]; omega
      clear hb0' hb1' hc ht hb0 hb1 hnb hp hp0 hq
      go_wp2
      exact ⟨⟨i + 1, by omega, rfl, by rw [unhide HB1]; simp [w3], trivial⟩, by simp [intOf]; omega⟩
    · have hin' : ¬ (i : Int) < (s.size : Int) := by omega
      obtain rfl : i = s.size := by omega
      rw [unhide HALL]
      go_wp2
      go_ret
      exact ⟨rfl, rfl⟩
/-- a request of a kind, by the bytes of its fields -/
def tkQ (k : Int) (s : ByteArray) : Req :=
  if k = 1 then { Req.bare 1 with te := beN (nums (s.extract 0 1)), qu := beN (nums (s.extract 1 3)) }
  else if k = 2 then { Req.bare 2 with te := beN (nums (s.extract 0 1)) }
  else if k = 3 then { Req.bare 3 with te := beN (nums (s.extract 0 1)) }
  else if k = 4 then { Req.bare 4 with vo := beN (nums (s.extract 0 1)) }
  else if k = 5 then { Req.bare 5 with vo := beN (nums (s.extract 0 1)) }
  else if k = 6 then Req.bare 6
  else if k = 7 then Req.bare 7
  else if k = 8 then { Req.bare 8 with vo := beN (nums (s.extract 0 1)), bl := beN (nums (s.extract 1 2)), di := s.extract 2 34, wr := s.extract 34 82 }
  else if k = 9 then { Req.bare 9 with no := beN (nums (s.extract 0 4)), sa := s.extract 4 12 }
  else if k = 10 then { Req.bare 10 with vo := beN (nums (s.extract 0 1)), bl := beN (nums (s.extract 1 2)), wr := s.extract 2 50, da := s.extract 50 306 }
  else if k = 11 then { Req.bare 11 with vo := beN (nums (s.extract 0 1)), bl := beN (nums (s.extract 1 2)) }
  else if k = 12 then { Req.bare 12 with vo := beN (nums (s.extract 0 1)), bl := beN (nums (s.extract 1 2)) }
  else Req.bare k
set_option maxHeartbeats 4000000 in
theorem taken_1 (s : ByteArray) (hs : s.size = 3) (w : World) : Calls Tryz.prog 43 #[.int .i64 1, .string s] w fun e w' => e = .returned (.agg #[.int .i64 1, .int .i64 (beN (nums (s.extract 0 1))), .int .i64 (beN (nums (s.extract 1 3))), .int .i64 0, .int .i64 0, .int .i64 0, .string ⟨#[]⟩, .string ⟨#[]⟩, .string ⟨#[]⟩, .string ⟨#[]⟩]) ∧ Below w.heap.size w w' := by
  have Hte := hide (value_any (s.extract 0 1) (by simp; omega))
  have Hqu := hide (value_any (s.extract 1 3) (by simp; omega))
  go_enter Tryz.func43, Tryz.ntmps43
  go_wp2_with fail
  refine (unhide Hte _).mono ?_
  rintro e y ⟨rfl, hy⟩
  subst y
  go_wp2_with fail
  refine (unhide Hqu _).mono ?_
  rintro e y ⟨rfl, hy⟩
  subst y
  go_wp2
  (try simp only [Exit.inBlock, Exit.then])
  refine bodyPost_ret (by simp [results, Tryz.results43, go_sem]; try rfl) rfl ?_
  exact ⟨rfl, by go_grown⟩
set_option maxHeartbeats 4000000 in
theorem taken_2 (s : ByteArray) (hs : s.size = 1) (w : World) : Calls Tryz.prog 43 #[.int .i64 2, .string s] w fun e w' => e = .returned (.agg #[.int .i64 2, .int .i64 (beN (nums (s.extract 0 1))), .int .i64 0, .int .i64 0, .int .i64 0, .int .i64 0, .string ⟨#[]⟩, .string ⟨#[]⟩, .string ⟨#[]⟩, .string ⟨#[]⟩]) ∧ Below w.heap.size w w' := by
  have Hte := hide (value_any (s.extract 0 1) (by simp; omega))
  have hall : s.extract 0 1 = s := by
    have := extract_all s
    rwa [hs] at this
  rw [hall] at Hte ⊢
  go_enter Tryz.func43, Tryz.ntmps43
  go_wp2_with fail
  refine (unhide Hte _).mono ?_
  rintro e y ⟨rfl, hy⟩
  subst y
  go_wp2
  (try simp only [Exit.inBlock, Exit.then])
  refine bodyPost_ret (by simp [results, Tryz.results43, go_sem]; try rfl) rfl ?_
  exact ⟨rfl, by go_grown⟩
set_option maxHeartbeats 4000000 in
theorem taken_3 (s : ByteArray) (hs : s.size = 1) (w : World) : Calls Tryz.prog 43 #[.int .i64 3, .string s] w fun e w' => e = .returned (.agg #[.int .i64 3, .int .i64 (beN (nums (s.extract 0 1))), .int .i64 0, .int .i64 0, .int .i64 0, .int .i64 0, .string ⟨#[]⟩, .string ⟨#[]⟩, .string ⟨#[]⟩, .string ⟨#[]⟩]) ∧ Below w.heap.size w w' := by
  have Hte := hide (value_any (s.extract 0 1) (by simp; omega))
  have hall : s.extract 0 1 = s := by
    have := extract_all s
    rwa [hs] at this
  rw [hall] at Hte ⊢
  go_enter Tryz.func43, Tryz.ntmps43
  go_wp2_with fail
  refine (unhide Hte _).mono ?_
  rintro e y ⟨rfl, hy⟩
  subst y
  go_wp2
  (try simp only [Exit.inBlock, Exit.then])
  refine bodyPost_ret (by simp [results, Tryz.results43, go_sem]; try rfl) rfl ?_
  exact ⟨rfl, by go_grown⟩
set_option maxHeartbeats 4000000 in
theorem taken_4 (s : ByteArray) (hs : s.size = 1) (w : World) : Calls Tryz.prog 43 #[.int .i64 4, .string s] w fun e w' => e = .returned (.agg #[.int .i64 4, .int .i64 0, .int .i64 0, .int .i64 (beN (nums (s.extract 0 1))), .int .i64 0, .int .i64 0, .string ⟨#[]⟩, .string ⟨#[]⟩, .string ⟨#[]⟩, .string ⟨#[]⟩]) ∧ Below w.heap.size w w' := by
  have Hvo := hide (value_any (s.extract 0 1) (by simp; omega))
  have hall : s.extract 0 1 = s := by
    have := extract_all s
    rwa [hs] at this
  rw [hall] at Hvo ⊢
  go_enter Tryz.func43, Tryz.ntmps43
  go_wp2_with fail
  refine (unhide Hvo _).mono ?_
  rintro e y ⟨rfl, hy⟩
  subst y
  go_wp2
  (try simp only [Exit.inBlock, Exit.then])
  refine bodyPost_ret (by simp [results, Tryz.results43, go_sem]; try rfl) rfl ?_
  exact ⟨rfl, by go_grown⟩
set_option maxHeartbeats 4000000 in
theorem taken_5 (s : ByteArray) (hs : s.size = 1) (w : World) : Calls Tryz.prog 43 #[.int .i64 5, .string s] w fun e w' => e = .returned (.agg #[.int .i64 5, .int .i64 0, .int .i64 0, .int .i64 (beN (nums (s.extract 0 1))), .int .i64 0, .int .i64 0, .string ⟨#[]⟩, .string ⟨#[]⟩, .string ⟨#[]⟩, .string ⟨#[]⟩]) ∧ Below w.heap.size w w' := by
  have Hvo := hide (value_any (s.extract 0 1) (by simp; omega))
  have hall : s.extract 0 1 = s := by
    have := extract_all s
    rwa [hs] at this
  rw [hall] at Hvo ⊢
  go_enter Tryz.func43, Tryz.ntmps43
  go_wp2_with fail
  refine (unhide Hvo _).mono ?_
  rintro e y ⟨rfl, hy⟩
  subst y
  go_wp2
  (try simp only [Exit.inBlock, Exit.then])
  refine bodyPost_ret (by simp [results, Tryz.results43, go_sem]; try rfl) rfl ?_
  exact ⟨rfl, by go_grown⟩
set_option maxHeartbeats 4000000 in
theorem taken_6 (s : ByteArray) (_hs : s.size = 0) (w : World) : Calls Tryz.prog 43 #[.int .i64 6, .string s] w fun e w' => e = .returned (.agg #[.int .i64 6, .int .i64 0, .int .i64 0, .int .i64 0, .int .i64 0, .int .i64 0, .string ⟨#[]⟩, .string ⟨#[]⟩, .string ⟨#[]⟩, .string ⟨#[]⟩]) ∧ Below w.heap.size w w' := by
  go_enter Tryz.func43, Tryz.ntmps43
  go_wp2
  (try simp only [Exit.inBlock, Exit.then])
  refine bodyPost_ret (by simp [results, Tryz.results43, go_sem]; try rfl) rfl ?_
  exact ⟨rfl, by go_grown⟩
set_option maxHeartbeats 4000000 in
theorem taken_7 (s : ByteArray) (_hs : s.size = 0) (w : World) : Calls Tryz.prog 43 #[.int .i64 7, .string s] w fun e w' => e = .returned (.agg #[.int .i64 7, .int .i64 0, .int .i64 0, .int .i64 0, .int .i64 0, .int .i64 0, .string ⟨#[]⟩, .string ⟨#[]⟩, .string ⟨#[]⟩, .string ⟨#[]⟩]) ∧ Below w.heap.size w w' := by
  go_enter Tryz.func43, Tryz.ntmps43
  go_wp2
  (try simp only [Exit.inBlock, Exit.then])
  refine bodyPost_ret (by simp [results, Tryz.results43, go_sem]; try rfl) rfl ?_
  exact ⟨rfl, by go_grown⟩
set_option maxHeartbeats 4000000 in
theorem taken_8 (s : ByteArray) (hs : s.size = 82) (w : World) : Calls Tryz.prog 43 #[.int .i64 8, .string s] w fun e w' => e = .returned (.agg #[.int .i64 8, .int .i64 0, .int .i64 0, .int .i64 (beN (nums (s.extract 0 1))), .int .i64 (beN (nums (s.extract 1 2))), .int .i64 0, .string (s.extract 2 34), .string (s.extract 34 82), .string ⟨#[]⟩, .string ⟨#[]⟩]) ∧ Below w.heap.size w w' := by
  have Hvo := hide (value_any (s.extract 0 1) (by simp; omega))
  have Hbl := hide (value_any (s.extract 1 2) (by simp; omega))
  go_enter Tryz.func43, Tryz.ntmps43
  go_wp2_with fail
  refine (unhide Hvo _).mono ?_
  rintro e y ⟨rfl, hy⟩
  subst y
  go_wp2_with fail
  refine (unhide Hbl _).mono ?_
  rintro e y ⟨rfl, hy⟩
  subst y
  go_wp2
  (try simp only [Exit.inBlock, Exit.then])
  refine bodyPost_ret (by simp [results, Tryz.results43, go_sem]; try rfl) rfl ?_
  exact ⟨rfl, by go_grown⟩
set_option maxHeartbeats 4000000 in
theorem taken_9 (s : ByteArray) (hs : s.size = 12) (w : World) : Calls Tryz.prog 43 #[.int .i64 9, .string s] w fun e w' => e = .returned (.agg #[.int .i64 9, .int .i64 0, .int .i64 0, .int .i64 0, .int .i64 0, .int .i64 (beN (nums (s.extract 0 4))), .string ⟨#[]⟩, .string ⟨#[]⟩, .string (s.extract 4 12), .string ⟨#[]⟩]) ∧ Below w.heap.size w w' := by
  have Hno := hide (value_any (s.extract 0 4) (by simp; omega))
  go_enter Tryz.func43, Tryz.ntmps43
  go_wp2_with fail
  refine (unhide Hno _).mono ?_
  rintro e y ⟨rfl, hy⟩
  subst y
  go_wp2
  (try simp only [Exit.inBlock, Exit.then])
  refine bodyPost_ret (by simp [results, Tryz.results43, go_sem]; try rfl) rfl ?_
  exact ⟨rfl, by go_grown⟩
set_option maxHeartbeats 4000000 in
theorem taken_10 (s : ByteArray) (hs : s.size = 306) (w : World) : Calls Tryz.prog 43 #[.int .i64 10, .string s] w fun e w' => e = .returned (.agg #[.int .i64 10, .int .i64 0, .int .i64 0, .int .i64 (beN (nums (s.extract 0 1))), .int .i64 (beN (nums (s.extract 1 2))), .int .i64 0, .string ⟨#[]⟩, .string (s.extract 2 50), .string ⟨#[]⟩, .string (s.extract 50 306)]) ∧ Below w.heap.size w w' := by
  have Hvo := hide (value_any (s.extract 0 1) (by simp; omega))
  have Hbl := hide (value_any (s.extract 1 2) (by simp; omega))
  go_enter Tryz.func43, Tryz.ntmps43
  go_wp2_with fail
  refine (unhide Hvo _).mono ?_
  rintro e y ⟨rfl, hy⟩
  subst y
  go_wp2_with fail
  refine (unhide Hbl _).mono ?_
  rintro e y ⟨rfl, hy⟩
  subst y
  go_wp2
  (try simp only [Exit.inBlock, Exit.then])
  refine bodyPost_ret (by simp [results, Tryz.results43, go_sem]; try rfl) rfl ?_
  exact ⟨rfl, by go_grown⟩
set_option maxHeartbeats 4000000 in
theorem taken_11 (s : ByteArray) (hs : s.size = 2) (w : World) : Calls Tryz.prog 43 #[.int .i64 11, .string s] w fun e w' => e = .returned (.agg #[.int .i64 11, .int .i64 0, .int .i64 0, .int .i64 (beN (nums (s.extract 0 1))), .int .i64 (beN (nums (s.extract 1 2))), .int .i64 0, .string ⟨#[]⟩, .string ⟨#[]⟩, .string ⟨#[]⟩, .string ⟨#[]⟩]) ∧ Below w.heap.size w w' := by
  have Hvo := hide (value_any (s.extract 0 1) (by simp; omega))
  have Hbl := hide (value_any (s.extract 1 2) (by simp; omega))
  go_enter Tryz.func43, Tryz.ntmps43
  go_wp2_with fail
  refine (unhide Hvo _).mono ?_
  rintro e y ⟨rfl, hy⟩
  subst y
  go_wp2_with fail
  refine (unhide Hbl _).mono ?_
  rintro e y ⟨rfl, hy⟩
  subst y
  go_wp2
  (try simp only [Exit.inBlock, Exit.then])
  refine bodyPost_ret (by simp [results, Tryz.results43, go_sem]; try rfl) rfl ?_
  exact ⟨rfl, by go_grown⟩
set_option maxHeartbeats 4000000 in
theorem taken_12 (s : ByteArray) (hs : s.size = 2) (w : World) : Calls Tryz.prog 43 #[.int .i64 12, .string s] w fun e w' => e = .returned (.agg #[.int .i64 12, .int .i64 0, .int .i64 0, .int .i64 (beN (nums (s.extract 0 1))), .int .i64 (beN (nums (s.extract 1 2))), .int .i64 0, .string ⟨#[]⟩, .string ⟨#[]⟩, .string ⟨#[]⟩, .string ⟨#[]⟩]) ∧ Below w.heap.size w w' := by
  have Hvo := hide (value_any (s.extract 0 1) (by simp; omega))
  have Hbl := hide (value_any (s.extract 1 2) (by simp; omega))
  go_enter Tryz.func43, Tryz.ntmps43
  go_wp2_with fail
  refine (unhide Hvo _).mono ?_
  rintro e y ⟨rfl, hy⟩
  subst y
  go_wp2_with fail
  refine (unhide Hbl _).mono ?_
  rintro e y ⟨rfl, hy⟩
  subst y
  go_wp2
  (try simp only [Exit.inBlock, Exit.then])
  refine bodyPost_ret (by simp [results, Tryz.results43, go_sem]; try rfl) rfl ?_
  exact ⟨rfl, by go_grown⟩
theorem taken_any (k : Int) (h : 1 ≤ k ∧ k ≤ 12) (s : ByteArray) (hs : s.size = szF (rqF k)) (w : World) : Calls Tryz.prog 43 #[.int .i64 k, .string s] w fun e w' => e = .returned (.agg (tkQ k s).cs) ∧ Below w.heap.size w w' := by
  rcases kinds12 h with rfl | rfl | rfl | rfl | rfl | rfl | rfl | rfl | rfl | rfl | rfl | rfl
  · exact taken_1 s hs w
  · exact taken_2 s hs w
  · exact taken_3 s hs w
  · exact taken_4 s hs w
  · exact taken_5 s hs w
  · exact taken_6 s hs w
  · exact taken_7 s hs w
  · exact taken_8 s hs w
  · exact taken_9 s hs w
  · exact taken_10 s hs w
  · exact taken_11 s hs w
  · exact taken_12 s hs w
end Go.Proofs.YtobmeiomfiepjaaGreatDoor
namespace Go.Proofs.YtobmeiomfiepjaaGreatDoor
open Go.RowKit
set_option maxRecDepth 100000
theorem nums_sub (s : ByteArray) (i b : Nat) : nums (s.extract i (i + b)) = ((nums s).drop i).take b := by
  rw [nums_extract, List.drop_take]
  congr 1
  omega
theorem ex_ex (s : ByteArray) (e a b : Nat) (h : 1 + b ≤ e) : (s.extract 1 e).extract a b = s.extract (1 + a) (1 + b) := by
  apply nums_inj
  rw [nums_extract (s.extract 1 e), nums_extract s 1 e, nums_extract s (1 + a)]
  simp only [List.drop_take, List.take_take, List.drop_drop]
  have h1 : min b (e - 1) - a = 1 + b - (1 + a) := by omega
  rw [h1]
theorem prF_num (f : Fld) (hk : f.k = 0) (s : ByteArray) (i : Nat) : prF f s i = Prt.num (beN (nums (s.extract i (i + f.b)))) := by
  rw [prF, if_pos hk, nums_sub]
theorem prF_txt (f : Fld) (hk : f.k = 1) (s : ByteArray) (i : Nat) : prF f s i = Prt.txt (s.extract i (i + f.b)) := by
  rw [prF, if_neg (by omega)]
set_option maxHeartbeats 4000000 in
theorem tk_1 (s : ByteArray) (hs : s.size = 8) : tqB 1 s = mayQ (tkQ 1 (s.extract 1 (s.size - 4))) ∧ (tqB 1 s = true → tqR 1 s = tkQ 1 (s.extract 1 (s.size - 4))) := by
  have ete : (s.extract 1 (s.size - 4)).extract 0 1 = s.extract 1 2 := ex_ex s _ 0 1 (by omega)
  have equ : (s.extract 1 (s.size - 4)).extract 1 3 = s.extract 2 4 := ex_ex s _ 1 3 (by omega)
  have pte : prF fTen s (1) = Prt.num (beN (nums (s.extract 1 2))) := prF_num fTen rfl s _
  have pqu : prF fQuo s (1 + fTen.b) = Prt.num (beN (nums (s.extract 2 4))) := prF_num fQuo rfl s _
  have ht : tkQ 1 (s.extract 1 (s.size - 4)) = ⟨1, beN (nums (s.extract 1 2)), beN (nums (s.extract 2 4)), 0, 0, 0, ⟨#[]⟩, ⟨#[]⟩, ⟨#[]⟩, ⟨#[]⟩⟩ := by simp [tkQ, Req.bare, ete, equ]
  rw [ht]
  generalize beN (nums (s.extract 1 2)) = Xte at *
  generalize beN (nums (s.extract 2 4)) = Xqu at *
  have hT : takeQ [fTen, fQuo] (Req.bare 1) s 1 = (if okT fTen (Prt.num Xte) then (if okT fQuo (Prt.num Xqu) then some (⟨1, Xte, Xqu, 0, 0, 0, ⟨#[]⟩, ⟨#[]⟩, ⟨#[]⟩, ⟨#[]⟩⟩ : Req) else none) else none) := by
    simp only [takeQ, pte, pqu]
    rfl
  have hB : tqB 1 s = ((if okT fTen (Prt.num Xte) then (if okT fQuo (Prt.num Xqu) then some (⟨1, Xte, Xqu, 0, 0, 0, ⟨#[]⟩, ⟨#[]⟩, ⟨#[]⟩, ⟨#[]⟩⟩ : Req) else none) else none)).isSome := by rw [← hT]; rfl
  have hR : tqR 1 s = (match (if okT fTen (Prt.num Xte) then (if okT fQuo (Prt.num Xqu) then some (⟨1, Xte, Xqu, 0, 0, 0, ⟨#[]⟩, ⟨#[]⟩, ⟨#[]⟩, ⟨#[]⟩⟩ : Req) else none) else none) with | none => Req.bare 0 | some r => r) := by rw [← hT]; rfl
  rw [hB, hR]
  by_cases cte : 1 ≤ Xte ∧ Xte ≤ 8 <;>
  by_cases cqu : 0 ≤ Xqu ∧ Xqu ≤ 65535 <;>
  simp [okT, mayQ, condQ, onlyQ, eqQ, Req.bare, fTen, fQuo, Prt.num, cte, cqu]
set_option maxHeartbeats 4000000 in
theorem tk_2 (s : ByteArray) (hs : s.size = 6) : tqB 2 s = mayQ (tkQ 2 (s.extract 1 (s.size - 4))) ∧ (tqB 2 s = true → tqR 2 s = tkQ 2 (s.extract 1 (s.size - 4))) := by
  have ete : (s.extract 1 (s.size - 4)).extract 0 1 = s.extract 1 2 := ex_ex s _ 0 1 (by omega)
  have pte : prF fTen s (1) = Prt.num (beN (nums (s.extract 1 2))) := prF_num fTen rfl s _
  have ht : tkQ 2 (s.extract 1 (s.size - 4)) = ⟨2, beN (nums (s.extract 1 2)), 0, 0, 0, 0, ⟨#[]⟩, ⟨#[]⟩, ⟨#[]⟩, ⟨#[]⟩⟩ := by simp [tkQ, Req.bare, ete]
  rw [ht]
  generalize beN (nums (s.extract 1 2)) = Xte at *
  have hT : takeQ [fTen] (Req.bare 2) s 1 = (if okT fTen (Prt.num Xte) then some (⟨2, Xte, 0, 0, 0, 0, ⟨#[]⟩, ⟨#[]⟩, ⟨#[]⟩, ⟨#[]⟩⟩ : Req) else none) := by
    simp only [takeQ, pte]
    rfl
  have hB : tqB 2 s = ((if okT fTen (Prt.num Xte) then some (⟨2, Xte, 0, 0, 0, 0, ⟨#[]⟩, ⟨#[]⟩, ⟨#[]⟩, ⟨#[]⟩⟩ : Req) else none)).isSome := by rw [← hT]; rfl
  have hR : tqR 2 s = (match (if okT fTen (Prt.num Xte) then some (⟨2, Xte, 0, 0, 0, 0, ⟨#[]⟩, ⟨#[]⟩, ⟨#[]⟩, ⟨#[]⟩⟩ : Req) else none) with | none => Req.bare 0 | some r => r) := by rw [← hT]; rfl
  rw [hB, hR]
  by_cases cte : 1 ≤ Xte ∧ Xte ≤ 8 <;>
  simp [okT, mayQ, condQ, onlyQ, eqQ, Req.bare, fTen, Prt.num, cte]
set_option maxHeartbeats 4000000 in
theorem tk_3 (s : ByteArray) (hs : s.size = 6) : tqB 3 s = mayQ (tkQ 3 (s.extract 1 (s.size - 4))) ∧ (tqB 3 s = true → tqR 3 s = tkQ 3 (s.extract 1 (s.size - 4))) := by
  have ete : (s.extract 1 (s.size - 4)).extract 0 1 = s.extract 1 2 := ex_ex s _ 0 1 (by omega)
  have pte : prF fTen s (1) = Prt.num (beN (nums (s.extract 1 2))) := prF_num fTen rfl s _
  have ht : tkQ 3 (s.extract 1 (s.size - 4)) = ⟨3, beN (nums (s.extract 1 2)), 0, 0, 0, 0, ⟨#[]⟩, ⟨#[]⟩, ⟨#[]⟩, ⟨#[]⟩⟩ := by simp [tkQ, Req.bare, ete]
  rw [ht]
  generalize beN (nums (s.extract 1 2)) = Xte at *
  have hT : takeQ [fTen] (Req.bare 3) s 1 = (if okT fTen (Prt.num Xte) then some (⟨3, Xte, 0, 0, 0, 0, ⟨#[]⟩, ⟨#[]⟩, ⟨#[]⟩, ⟨#[]⟩⟩ : Req) else none) := by
    simp only [takeQ, pte]
    rfl
  have hB : tqB 3 s = ((if okT fTen (Prt.num Xte) then some (⟨3, Xte, 0, 0, 0, 0, ⟨#[]⟩, ⟨#[]⟩, ⟨#[]⟩, ⟨#[]⟩⟩ : Req) else none)).isSome := by rw [← hT]; rfl
  have hR : tqR 3 s = (match (if okT fTen (Prt.num Xte) then some (⟨3, Xte, 0, 0, 0, 0, ⟨#[]⟩, ⟨#[]⟩, ⟨#[]⟩, ⟨#[]⟩⟩ : Req) else none) with | none => Req.bare 0 | some r => r) := by rw [← hT]; rfl
  rw [hB, hR]
  by_cases cte : 1 ≤ Xte ∧ Xte ≤ 8 <;>
  simp [okT, mayQ, condQ, onlyQ, eqQ, Req.bare, fTen, Prt.num, cte]
set_option maxHeartbeats 4000000 in
theorem tk_4 (s : ByteArray) (hs : s.size = 6) : tqB 4 s = mayQ (tkQ 4 (s.extract 1 (s.size - 4))) ∧ (tqB 4 s = true → tqR 4 s = tkQ 4 (s.extract 1 (s.size - 4))) := by
  have evo : (s.extract 1 (s.size - 4)).extract 0 1 = s.extract 1 2 := ex_ex s _ 0 1 (by omega)
  have pvo : prF fVol s (1) = Prt.num (beN (nums (s.extract 1 2))) := prF_num fVol rfl s _
  have ht : tkQ 4 (s.extract 1 (s.size - 4)) = ⟨4, 0, 0, beN (nums (s.extract 1 2)), 0, 0, ⟨#[]⟩, ⟨#[]⟩, ⟨#[]⟩, ⟨#[]⟩⟩ := by simp [tkQ, Req.bare, evo]
  rw [ht]
  generalize beN (nums (s.extract 1 2)) = Xvo at *
  have hT : takeQ [fVol] (Req.bare 4) s 1 = (if okT fVol (Prt.num Xvo) then some (⟨4, 0, 0, Xvo, 0, 0, ⟨#[]⟩, ⟨#[]⟩, ⟨#[]⟩, ⟨#[]⟩⟩ : Req) else none) := by
    simp only [takeQ, pvo]
    rfl
  have hB : tqB 4 s = ((if okT fVol (Prt.num Xvo) then some (⟨4, 0, 0, Xvo, 0, 0, ⟨#[]⟩, ⟨#[]⟩, ⟨#[]⟩, ⟨#[]⟩⟩ : Req) else none)).isSome := by rw [← hT]; rfl
  have hR : tqR 4 s = (match (if okT fVol (Prt.num Xvo) then some (⟨4, 0, 0, Xvo, 0, 0, ⟨#[]⟩, ⟨#[]⟩, ⟨#[]⟩, ⟨#[]⟩⟩ : Req) else none) with | none => Req.bare 0 | some r => r) := by rw [← hT]; rfl
  rw [hB, hR]
  by_cases cvo : 1 ≤ Xvo ∧ Xvo ≤ 99 <;>
  simp [okT, mayQ, condQ, onlyQ, eqQ, Req.bare, fVol, Prt.num, cvo]
set_option maxHeartbeats 4000000 in
theorem tk_5 (s : ByteArray) (hs : s.size = 6) : tqB 5 s = mayQ (tkQ 5 (s.extract 1 (s.size - 4))) ∧ (tqB 5 s = true → tqR 5 s = tkQ 5 (s.extract 1 (s.size - 4))) := by
  have evo : (s.extract 1 (s.size - 4)).extract 0 1 = s.extract 1 2 := ex_ex s _ 0 1 (by omega)
  have pvo : prF fVol s (1) = Prt.num (beN (nums (s.extract 1 2))) := prF_num fVol rfl s _
  have ht : tkQ 5 (s.extract 1 (s.size - 4)) = ⟨5, 0, 0, beN (nums (s.extract 1 2)), 0, 0, ⟨#[]⟩, ⟨#[]⟩, ⟨#[]⟩, ⟨#[]⟩⟩ := by simp [tkQ, Req.bare, evo]
  rw [ht]
  generalize beN (nums (s.extract 1 2)) = Xvo at *
  have hT : takeQ [fVol] (Req.bare 5) s 1 = (if okT fVol (Prt.num Xvo) then some (⟨5, 0, 0, Xvo, 0, 0, ⟨#[]⟩, ⟨#[]⟩, ⟨#[]⟩, ⟨#[]⟩⟩ : Req) else none) := by
    simp only [takeQ, pvo]
    rfl
  have hB : tqB 5 s = ((if okT fVol (Prt.num Xvo) then some (⟨5, 0, 0, Xvo, 0, 0, ⟨#[]⟩, ⟨#[]⟩, ⟨#[]⟩, ⟨#[]⟩⟩ : Req) else none)).isSome := by rw [← hT]; rfl
  have hR : tqR 5 s = (match (if okT fVol (Prt.num Xvo) then some (⟨5, 0, 0, Xvo, 0, 0, ⟨#[]⟩, ⟨#[]⟩, ⟨#[]⟩, ⟨#[]⟩⟩ : Req) else none) with | none => Req.bare 0 | some r => r) := by rw [← hT]; rfl
  rw [hB, hR]
  by_cases cvo : 1 ≤ Xvo ∧ Xvo ≤ 99 <;>
  simp [okT, mayQ, condQ, onlyQ, eqQ, Req.bare, fVol, Prt.num, cvo]
set_option maxHeartbeats 4000000 in
theorem tk_6 (s : ByteArray) (_hs : s.size = 5) : tqB 6 s = mayQ (tkQ 6 (s.extract 1 (s.size - 4))) ∧ (tqB 6 s = true → tqR 6 s = tkQ 6 (s.extract 1 (s.size - 4))) := by
  have hM : mayQ (tkQ 6 (s.extract 1 (s.size - 4))) = true := by simp [mayQ, condQ, onlyQ, eqQ, tkQ, Req.bare]
  rw [hM]
  exact ⟨rfl, fun _ => rfl⟩
set_option maxHeartbeats 4000000 in
theorem tk_7 (s : ByteArray) (_hs : s.size = 5) : tqB 7 s = mayQ (tkQ 7 (s.extract 1 (s.size - 4))) ∧ (tqB 7 s = true → tqR 7 s = tkQ 7 (s.extract 1 (s.size - 4))) := by
  have hM : mayQ (tkQ 7 (s.extract 1 (s.size - 4))) = true := by simp [mayQ, condQ, onlyQ, eqQ, tkQ, Req.bare]
  rw [hM]
  exact ⟨rfl, fun _ => rfl⟩
set_option maxHeartbeats 4000000 in
theorem tk_8 (s : ByteArray) (hs : s.size = 87) : tqB 8 s = mayQ (tkQ 8 (s.extract 1 (s.size - 4))) ∧ (tqB 8 s = true → tqR 8 s = tkQ 8 (s.extract 1 (s.size - 4))) := by
  have evo : (s.extract 1 (s.size - 4)).extract 0 1 = s.extract 1 2 := ex_ex s _ 0 1 (by omega)
  have ebl : (s.extract 1 (s.size - 4)).extract 1 2 = s.extract 2 3 := ex_ex s _ 1 2 (by omega)
  have edi : (s.extract 1 (s.size - 4)).extract 2 34 = s.extract 3 35 := ex_ex s _ 2 34 (by omega)
  have zdi : (s.extract 3 35).size = 32 := by simp; omega
  have ewr : (s.extract 1 (s.size - 4)).extract 34 82 = s.extract 35 83 := ex_ex s _ 34 82 (by omega)
  have zwr : (s.extract 35 83).size = 48 := by simp; omega
  have pvo : prF fVol s (1) = Prt.num (beN (nums (s.extract 1 2))) := prF_num fVol rfl s _
  have pbl : prF fBlo s (1 + fVol.b) = Prt.num (beN (nums (s.extract 2 3))) := prF_num fBlo rfl s _
  have pdi : prF fDig s (1 + fVol.b + fBlo.b) = Prt.txt (s.extract 3 35) := prF_txt fDig rfl s _
  have pwr : prF fWra s (1 + fVol.b + fBlo.b + fDig.b) = Prt.txt (s.extract 35 83) := prF_txt fWra rfl s _
  have ht : tkQ 8 (s.extract 1 (s.size - 4)) = ⟨8, 0, 0, beN (nums (s.extract 1 2)), beN (nums (s.extract 2 3)), 0, s.extract 3 35, s.extract 35 83, ⟨#[]⟩, ⟨#[]⟩⟩ := by simp [tkQ, Req.bare, evo, ebl, edi, ewr]
  rw [ht]
  generalize beN (nums (s.extract 1 2)) = Xvo at *
  generalize beN (nums (s.extract 2 3)) = Xbl at *
  generalize s.extract 3 35 = Xdi at *
  generalize s.extract 35 83 = Xwr at *
  have hT : takeQ [fVol, fBlo, fDig, fWra] (Req.bare 8) s 1 = (if okT fVol (Prt.num Xvo) then (if okT fBlo (Prt.num Xbl) then (if okT fDig (Prt.txt Xdi) then (if okT fWra (Prt.txt Xwr) then some (⟨8, 0, 0, Xvo, Xbl, 0, Xdi, Xwr, ⟨#[]⟩, ⟨#[]⟩⟩ : Req) else none) else none) else none) else none) := by
    simp only [takeQ, pvo, pbl, pdi, pwr]
    rfl
  have hB : tqB 8 s = ((if okT fVol (Prt.num Xvo) then (if okT fBlo (Prt.num Xbl) then (if okT fDig (Prt.txt Xdi) then (if okT fWra (Prt.txt Xwr) then some (⟨8, 0, 0, Xvo, Xbl, 0, Xdi, Xwr, ⟨#[]⟩, ⟨#[]⟩⟩ : Req) else none) else none) else none) else none)).isSome := by rw [← hT]; rfl
  have hR : tqR 8 s = (match (if okT fVol (Prt.num Xvo) then (if okT fBlo (Prt.num Xbl) then (if okT fDig (Prt.txt Xdi) then (if okT fWra (Prt.txt Xwr) then some (⟨8, 0, 0, Xvo, Xbl, 0, Xdi, Xwr, ⟨#[]⟩, ⟨#[]⟩⟩ : Req) else none) else none) else none) else none) with | none => Req.bare 0 | some r => r) := by rw [← hT]; rfl
  rw [hB, hR]
  by_cases cvo : 1 ≤ Xvo ∧ Xvo ≤ 99 <;>
  by_cases cbl : 0 ≤ Xbl ∧ Xbl ≤ 255 <;>
  simp [okT, mayQ, condQ, onlyQ, eqQ, Req.bare, fVol, fBlo, fDig, fWra, Prt.num, placeQ, cvo, cbl, zdi, zwr]
set_option maxHeartbeats 4000000 in
theorem tk_9 (s : ByteArray) (hs : s.size = 17) : tqB 9 s = mayQ (tkQ 9 (s.extract 1 (s.size - 4))) ∧ (tqB 9 s = true → tqR 9 s = tkQ 9 (s.extract 1 (s.size - 4))) := by
  have eno : (s.extract 1 (s.size - 4)).extract 0 4 = s.extract 1 5 := ex_ex s _ 0 4 (by omega)
  have esa : (s.extract 1 (s.size - 4)).extract 4 12 = s.extract 5 13 := ex_ex s _ 4 12 (by omega)
  have zsa : (s.extract 5 13).size = 8 := by simp; omega
  have pno : prF fNon s (1) = Prt.num (beN (nums (s.extract 1 5))) := prF_num fNon rfl s _
  have psa : prF fSam s (1 + fNon.b) = Prt.txt (s.extract 5 13) := prF_txt fSam rfl s _
  have ht : tkQ 9 (s.extract 1 (s.size - 4)) = ⟨9, 0, 0, 0, 0, beN (nums (s.extract 1 5)), ⟨#[]⟩, ⟨#[]⟩, s.extract 5 13, ⟨#[]⟩⟩ := by simp [tkQ, Req.bare, eno, esa]
  rw [ht]
  generalize beN (nums (s.extract 1 5)) = Xno at *
  generalize s.extract 5 13 = Xsa at *
  have hT : takeQ [fNon, fSam] (Req.bare 9) s 1 = (if okT fNon (Prt.num Xno) then (if okT fSam (Prt.txt Xsa) then some (⟨9, 0, 0, 0, 0, Xno, ⟨#[]⟩, ⟨#[]⟩, Xsa, ⟨#[]⟩⟩ : Req) else none) else none) := by
    simp only [takeQ, pno, psa]
    rfl
  have hB : tqB 9 s = ((if okT fNon (Prt.num Xno) then (if okT fSam (Prt.txt Xsa) then some (⟨9, 0, 0, 0, 0, Xno, ⟨#[]⟩, ⟨#[]⟩, Xsa, ⟨#[]⟩⟩ : Req) else none) else none)).isSome := by rw [← hT]; rfl
  have hR : tqR 9 s = (match (if okT fNon (Prt.num Xno) then (if okT fSam (Prt.txt Xsa) then some (⟨9, 0, 0, 0, 0, Xno, ⟨#[]⟩, ⟨#[]⟩, Xsa, ⟨#[]⟩⟩ : Req) else none) else none) with | none => Req.bare 0 | some r => r) := by rw [← hT]; rfl
  rw [hB, hR]
  by_cases cno : 0 ≤ Xno ∧ Xno ≤ 4294967295 <;>
  simp [okT, mayQ, condQ, onlyQ, eqQ, Req.bare, fNon, fSam, Prt.num, cno, zsa]
set_option maxHeartbeats 4000000 in
theorem tk_10 (s : ByteArray) (hs : s.size = 311) : tqB 10 s = mayQ (tkQ 10 (s.extract 1 (s.size - 4))) ∧ (tqB 10 s = true → tqR 10 s = tkQ 10 (s.extract 1 (s.size - 4))) := by
  have evo : (s.extract 1 (s.size - 4)).extract 0 1 = s.extract 1 2 := ex_ex s _ 0 1 (by omega)
  have ebl : (s.extract 1 (s.size - 4)).extract 1 2 = s.extract 2 3 := ex_ex s _ 1 2 (by omega)
  have ewr : (s.extract 1 (s.size - 4)).extract 2 50 = s.extract 3 51 := ex_ex s _ 2 50 (by omega)
  have zwr : (s.extract 3 51).size = 48 := by simp; omega
  have eda : (s.extract 1 (s.size - 4)).extract 50 306 = s.extract 51 307 := ex_ex s _ 50 306 (by omega)
  have zda : (s.extract 51 307).size = 256 := by simp; omega
  have pvo : prF fVol s (1) = Prt.num (beN (nums (s.extract 1 2))) := prF_num fVol rfl s _
  have pbl : prF fBlo s (1 + fVol.b) = Prt.num (beN (nums (s.extract 2 3))) := prF_num fBlo rfl s _
  have pwr : prF fWra s (1 + fVol.b + fBlo.b) = Prt.txt (s.extract 3 51) := prF_txt fWra rfl s _
  have pda : prF fDat s (1 + fVol.b + fBlo.b + fWra.b) = Prt.txt (s.extract 51 307) := prF_txt fDat rfl s _
  have ht : tkQ 10 (s.extract 1 (s.size - 4)) = ⟨10, 0, 0, beN (nums (s.extract 1 2)), beN (nums (s.extract 2 3)), 0, ⟨#[]⟩, s.extract 3 51, ⟨#[]⟩, s.extract 51 307⟩ := by simp [tkQ, Req.bare, evo, ebl, ewr, eda]
  rw [ht]
  generalize beN (nums (s.extract 1 2)) = Xvo at *
  generalize beN (nums (s.extract 2 3)) = Xbl at *
  generalize s.extract 3 51 = Xwr at *
  generalize s.extract 51 307 = Xda at *
  have hT : takeQ [fVol, fBlo, fWra, fDat] (Req.bare 10) s 1 = (if okT fVol (Prt.num Xvo) then (if okT fBlo (Prt.num Xbl) then (if okT fWra (Prt.txt Xwr) then (if okT fDat (Prt.txt Xda) then some (⟨10, 0, 0, Xvo, Xbl, 0, ⟨#[]⟩, Xwr, ⟨#[]⟩, Xda⟩ : Req) else none) else none) else none) else none) := by
    simp only [takeQ, pvo, pbl, pwr, pda]
    rfl
  have hB : tqB 10 s = ((if okT fVol (Prt.num Xvo) then (if okT fBlo (Prt.num Xbl) then (if okT fWra (Prt.txt Xwr) then (if okT fDat (Prt.txt Xda) then some (⟨10, 0, 0, Xvo, Xbl, 0, ⟨#[]⟩, Xwr, ⟨#[]⟩, Xda⟩ : Req) else none) else none) else none) else none)).isSome := by rw [← hT]; rfl
  have hR : tqR 10 s = (match (if okT fVol (Prt.num Xvo) then (if okT fBlo (Prt.num Xbl) then (if okT fWra (Prt.txt Xwr) then (if okT fDat (Prt.txt Xda) then some (⟨10, 0, 0, Xvo, Xbl, 0, ⟨#[]⟩, Xwr, ⟨#[]⟩, Xda⟩ : Req) else none) else none) else none) else none) with | none => Req.bare 0 | some r => r) := by rw [← hT]; rfl
  rw [hB, hR]
  by_cases cvo : 1 ≤ Xvo ∧ Xvo ≤ 99 <;>
  by_cases cbl : 0 ≤ Xbl ∧ Xbl ≤ 255 <;>
  simp [okT, mayQ, condQ, onlyQ, eqQ, Req.bare, fVol, fBlo, fWra, fDat, Prt.num, placeQ, cvo, cbl, zwr, zda]
set_option maxHeartbeats 4000000 in
theorem tk_11 (s : ByteArray) (hs : s.size = 7) : tqB 11 s = mayQ (tkQ 11 (s.extract 1 (s.size - 4))) ∧ (tqB 11 s = true → tqR 11 s = tkQ 11 (s.extract 1 (s.size - 4))) := by
  have evo : (s.extract 1 (s.size - 4)).extract 0 1 = s.extract 1 2 := ex_ex s _ 0 1 (by omega)
  have ebl : (s.extract 1 (s.size - 4)).extract 1 2 = s.extract 2 3 := ex_ex s _ 1 2 (by omega)
  have pvo : prF fVol s (1) = Prt.num (beN (nums (s.extract 1 2))) := prF_num fVol rfl s _
  have pbl : prF fBlo s (1 + fVol.b) = Prt.num (beN (nums (s.extract 2 3))) := prF_num fBlo rfl s _
  have ht : tkQ 11 (s.extract 1 (s.size - 4)) = ⟨11, 0, 0, beN (nums (s.extract 1 2)), beN (nums (s.extract 2 3)), 0, ⟨#[]⟩, ⟨#[]⟩, ⟨#[]⟩, ⟨#[]⟩⟩ := by simp [tkQ, Req.bare, evo, ebl]
  rw [ht]
  generalize beN (nums (s.extract 1 2)) = Xvo at *
  generalize beN (nums (s.extract 2 3)) = Xbl at *
  have hT : takeQ [fVol, fBlo] (Req.bare 11) s 1 = (if okT fVol (Prt.num Xvo) then (if okT fBlo (Prt.num Xbl) then some (⟨11, 0, 0, Xvo, Xbl, 0, ⟨#[]⟩, ⟨#[]⟩, ⟨#[]⟩, ⟨#[]⟩⟩ : Req) else none) else none) := by
    simp only [takeQ, pvo, pbl]
    rfl
  have hB : tqB 11 s = ((if okT fVol (Prt.num Xvo) then (if okT fBlo (Prt.num Xbl) then some (⟨11, 0, 0, Xvo, Xbl, 0, ⟨#[]⟩, ⟨#[]⟩, ⟨#[]⟩, ⟨#[]⟩⟩ : Req) else none) else none)).isSome := by rw [← hT]; rfl
  have hR : tqR 11 s = (match (if okT fVol (Prt.num Xvo) then (if okT fBlo (Prt.num Xbl) then some (⟨11, 0, 0, Xvo, Xbl, 0, ⟨#[]⟩, ⟨#[]⟩, ⟨#[]⟩, ⟨#[]⟩⟩ : Req) else none) else none) with | none => Req.bare 0 | some r => r) := by rw [← hT]; rfl
  rw [hB, hR]
  by_cases cvo : 1 ≤ Xvo ∧ Xvo ≤ 99 <;>
  by_cases cbl : 0 ≤ Xbl ∧ Xbl ≤ 255 <;>
  simp [okT, mayQ, condQ, onlyQ, eqQ, Req.bare, fVol, fBlo, Prt.num, placeQ, cvo, cbl]
set_option maxHeartbeats 4000000 in
theorem tk_12 (s : ByteArray) (hs : s.size = 7) : tqB 12 s = mayQ (tkQ 12 (s.extract 1 (s.size - 4))) ∧ (tqB 12 s = true → tqR 12 s = tkQ 12 (s.extract 1 (s.size - 4))) := by
  have evo : (s.extract 1 (s.size - 4)).extract 0 1 = s.extract 1 2 := ex_ex s _ 0 1 (by omega)
  have ebl : (s.extract 1 (s.size - 4)).extract 1 2 = s.extract 2 3 := ex_ex s _ 1 2 (by omega)
  have pvo : prF fVol s (1) = Prt.num (beN (nums (s.extract 1 2))) := prF_num fVol rfl s _
  have pbl : prF fBlo s (1 + fVol.b) = Prt.num (beN (nums (s.extract 2 3))) := prF_num fBlo rfl s _
  have ht : tkQ 12 (s.extract 1 (s.size - 4)) = ⟨12, 0, 0, beN (nums (s.extract 1 2)), beN (nums (s.extract 2 3)), 0, ⟨#[]⟩, ⟨#[]⟩, ⟨#[]⟩, ⟨#[]⟩⟩ := by simp [tkQ, Req.bare, evo, ebl]
  rw [ht]
  generalize beN (nums (s.extract 1 2)) = Xvo at *
  generalize beN (nums (s.extract 2 3)) = Xbl at *
  have hT : takeQ [fVol, fBlo] (Req.bare 12) s 1 = (if okT fVol (Prt.num Xvo) then (if okT fBlo (Prt.num Xbl) then some (⟨12, 0, 0, Xvo, Xbl, 0, ⟨#[]⟩, ⟨#[]⟩, ⟨#[]⟩, ⟨#[]⟩⟩ : Req) else none) else none) := by
    simp only [takeQ, pvo, pbl]
    rfl
  have hB : tqB 12 s = ((if okT fVol (Prt.num Xvo) then (if okT fBlo (Prt.num Xbl) then some (⟨12, 0, 0, Xvo, Xbl, 0, ⟨#[]⟩, ⟨#[]⟩, ⟨#[]⟩, ⟨#[]⟩⟩ : Req) else none) else none)).isSome := by rw [← hT]; rfl
  have hR : tqR 12 s = (match (if okT fVol (Prt.num Xvo) then (if okT fBlo (Prt.num Xbl) then some (⟨12, 0, 0, Xvo, Xbl, 0, ⟨#[]⟩, ⟨#[]⟩, ⟨#[]⟩, ⟨#[]⟩⟩ : Req) else none) else none) with | none => Req.bare 0 | some r => r) := by rw [← hT]; rfl
  rw [hB, hR]
  by_cases cvo : 1 ≤ Xvo ∧ Xvo ≤ 99 <;>
  by_cases cbl : 0 ≤ Xbl ∧ Xbl ≤ 255 <;>
  simp [okT, mayQ, condQ, onlyQ, eqQ, Req.bare, fVol, fBlo, Prt.num, placeQ, cvo, cbl]
end Go.Proofs.YtobmeiomfiepjaaGreatDoor
namespace Go.Proofs.YtobmeiomfiepjaaGreatDoor
open Go.RowKit
set_option maxRecDepth 100000
theorem tk_any (k : Int) (h : 1 ≤ k ∧ k ≤ 12) (s : ByteArray) (hs : s.size = 5 + szF (rqF k)) : tqB k s = mayQ (tkQ k (s.extract 1 (s.size - 4))) ∧ (tqB k s = true → tqR k s = tkQ k (s.extract 1 (s.size - 4))) := by
  rcases kinds12 h with rfl | rfl | rfl | rfl | rfl | rfl | rfl | rfl | rfl | rfl | rfl | rfl
  · exact tk_1 s hs
  · exact tk_2 s hs
  · exact tk_3 s hs
  · exact tk_4 s hs
  · exact tk_5 s hs
  · exact tk_6 s hs
  · exact tk_7 s hs
  · exact tk_8 s hs
  · exact tk_9 s hs
  · exact tk_10 s hs
  · exact tk_11 s hs
  · exact tk_12 s hs
theorem nil_app (s : ByteArray) : (⟨#[]⟩ : ByteArray) ++ s = s := by
  apply ByteArray.ext
  simp
theorem tkQ_kd (k : Int) (h : 1 ≤ k ∧ k ≤ 12) (s : ByteArray) : (tkQ k s).kd = k := by
  rcases kinds12 h with rfl | rfl | rfl | rfl | rfl | rfl | rfl | rfl | rfl | rfl | rfl | rfl <;> rfl
set_option maxHeartbeats 4000000 in
theorem rdec_none (s : ByteArray) (h : s.size = 0) (w : World) : Calls Tryz.prog 12 #[.string s] w fun e w' => e = .returned (.tuple #[.agg (Req.bare 0).cs, .int .i64 120]) ∧ Below w.heap.size w w' := by
  have hse : s = ⟨#[]⟩ := by
    obtain ⟨⟨l⟩⟩ := s
    have : l = [] := List.eq_nil_of_length_eq_zero h
    subst this
    rfl
  have he := empty_eq s hse
  obtain ⟨g, hg⟩ : ∃ g, w.heap.size = g := ⟨_, rfl⟩
  obtain ⟨y, hy⟩ : ∃ Z, w.alloc (.cells #[.int .i64 0, .int .i64 0, .int .i64 0, .int .i64 0, .int .i64 0, .int .i64 0, .string ⟨#[]⟩, .string ⟨#[]⟩, .string ⟨#[]⟩, .string ⟨#[]⟩] 23) = Z := ⟨_, rfl⟩
  have BY : Blk y g #[.int .i64 0, .int .i64 0, .int .i64 0, .int .i64 0, .int .i64 0, .int .i64 0, .string ⟨#[]⟩, .string ⟨#[]⟩, .string ⟨#[]⟩, .string ⟨#[]⟩] 23 := by rw [← hy, ← hg]; exact Blk.new w _ _
  have hby : Below g w y := by rw [← hy, ← hg]; exact (Below.refl _ w).alloc (Nat.le_refl _) _
  have BT := blk_setRow (cells := (Req.bare 0).cs) BY
  have HL := hide (iload_blk 23 _ BT Tryz.underlying23 rfl size_req)
  have HZ := hide BY
  have HBN := hide built_none
  have HO := hide (Req.one (Req.bare 0))
  have HF2 := hide (show Below g w (y.setRow g (Req.bare 0).cs) from below_setRow hby (Nat.le_refl _) _)
  clear BT BY hby h hse
  go_enter Tryz.func12, Tryz.ntmps12
  go_wp2_with (first | refine wpList_buildAs rfl 23 #[] rfl _ rfl (Req.bare 0).cs (unhide HBN) ?_ | refine wpList_store_row rfl 23 (.tmp 2) (.tmp 20) rfl g (Req.bare 0).cs rfl rfl 23 #[.int .i64 0, .int .i64 0, .int .i64 0, .int .i64 0, .int .i64 0, .int .i64 0, .string ⟨#[]⟩, .string ⟨#[]⟩, .string ⟨#[]⟩, .string ⟨#[]⟩] (unhide HZ) size_req rfl (unhide HO) ?_)
  (try simp only [Exit.inBlock, Exit.then])
  refine bodyPost_ret (v := .tuple #[.agg (Req.bare 0).cs, .int .i64 120]) (results_cell2 (p := 2) (q := 3) (ty := 23) rfl _ _ _ ⟨g, 0, none⟩ rfl _ (unhide HL)) rfl ?_
  exact ⟨rfl, by rw [hg]; exact unhide HF2⟩
set_option maxHeartbeats 4000000 in
theorem rdec_kind (s : ByteArray) (h : 0 < s.size) (hk : ¬ (1 ≤ kdS s ∧ kdS s ≤ 12)) (w : World) : Calls Tryz.prog 12 #[.string s] w fun e w' => e = .returned (.tuple #[.agg (Req.bare 0).cs, .int .i64 120]) ∧ Below w.heap.size w w' := by
  have he : s.toList.isEmpty = false := empty_ne (fun e => by rw [e] at h; exact absurd h (by decide))
  have hix : ∀ W, (Instr.index 9 (.string s) (.int .i64 0)).run Tryz.prog W = .ok (.int .u8 (kdS s)) W := fun W => index_str s 0 h W
  generalize kdS s = kd at *
  obtain ⟨g, hg⟩ : ∃ g, w.heap.size = g := ⟨_, rfl⟩
  obtain ⟨y, hy⟩ : ∃ Z, w.alloc (.cells #[.int .i64 0, .int .i64 0, .int .i64 0, .int .i64 0, .int .i64 0, .int .i64 0, .string ⟨#[]⟩, .string ⟨#[]⟩, .string ⟨#[]⟩, .string ⟨#[]⟩] 23) = Z := ⟨_, rfl⟩
  have BY : Blk y g #[.int .i64 0, .int .i64 0, .int .i64 0, .int .i64 0, .int .i64 0, .int .i64 0, .string ⟨#[]⟩, .string ⟨#[]⟩, .string ⟨#[]⟩, .string ⟨#[]⟩] 23 := by rw [← hy, ← hg]; exact Blk.new w _ _
  have hby : Below g w y := by rw [← hy, ← hg]; exact (Below.refl _ w).alloc (Nat.le_refl _) _
  have BT := blk_setRow (cells := (Req.bare 0).cs) BY
  have HL := hide (iload_blk 23 _ BT Tryz.underlying23 rfl size_req)
  have HZ := hide BY
  have HBN := hide built_none
  have HO := hide (Req.one (Req.bare 0))
  have HF2 := hide (show Below g w (y.setRow g (Req.bare 0).cs) from below_setRow hby (Nat.le_refl _) _)
  clear BT BY hby h
  by_cases h0 : kd < 1
  · have h1 : decide (kd < 1) = true := by simpa using h0
    clear hk h0
    go_enter Tryz.func12, Tryz.ntmps12
    go_wp2_with (first | refine wpList_buildAs rfl 23 #[] rfl _ rfl (Req.bare 0).cs (unhide HBN) ?_ | refine wpList_store_row rfl 23 (.tmp 2) (.tmp 20) rfl g (Req.bare 0).cs rfl rfl 23 #[.int .i64 0, .int .i64 0, .int .i64 0, .int .i64 0, .int .i64 0, .int .i64 0, .string ⟨#[]⟩, .string ⟨#[]⟩, .string ⟨#[]⟩, .string ⟨#[]⟩] (unhide HZ) size_req rfl (unhide HO) ?_)
    (try simp only [Exit.inBlock, Exit.then])
    refine bodyPost_ret (v := .tuple #[.agg (Req.bare 0).cs, .int .i64 120]) (results_cell2 (p := 2) (q := 3) (ty := 23) rfl _ _ _ ⟨g, 0, none⟩ rfl _ (unhide HL)) rfl ?_
    exact ⟨rfl, by rw [hg]; exact unhide HF2⟩
  · have h1 : decide (kd < 1) = false := by simpa using h0
    have h2 : decide (kd > 12) = true := by simp; omega
    clear hk h0
    go_enter Tryz.func12, Tryz.ntmps12
    go_wp2_with (first | refine wpList_buildAs rfl 23 #[] rfl _ rfl (Req.bare 0).cs (unhide HBN) ?_ | refine wpList_store_row rfl 23 (.tmp 2) (.tmp 20) rfl g (Req.bare 0).cs rfl rfl 23 #[.int .i64 0, .int .i64 0, .int .i64 0, .int .i64 0, .int .i64 0, .int .i64 0, .string ⟨#[]⟩, .string ⟨#[]⟩, .string ⟨#[]⟩, .string ⟨#[]⟩] (unhide HZ) size_req rfl (unhide HO) ?_)
    (try simp only [Exit.inBlock, Exit.then])
    refine bodyPost_ret (v := .tuple #[.agg (Req.bare 0).cs, .int .i64 120]) (results_cell2 (p := 2) (q := 3) (ty := 23) rfl _ _ _ ⟨g, 0, none⟩ rfl _ (unhide HL)) rfl ?_
    exact ⟨rfl, by rw [hg]; exact unhide HF2⟩
set_option maxHeartbeats 4000000 in
theorem rdec_form (s : ByteArray) (hs : s.size ≤ 140737488351232) (h : 0 < s.size) (hk : 1 ≤ kdS s ∧ kdS s ≤ 12) (hn : ¬ s.size = 5 + szF (rqF (kdS s))) (w : World) : Calls Tryz.prog 12 #[.string s] w fun e w' => e = .returned (.tuple #[.agg (Req.bare 0).cs, .int .i64 121]) ∧ Below w.heap.size w w' := by
  have he : s.toList.isEmpty = false := empty_ne (fun e => by rw [e] at h; exact absurd h (by decide))
  have hix : ∀ W, (Instr.index 9 (.string s) (.int .i64 0)).run Tryz.prog W = .ok (.int .u8 (kdS s)) W := fun W => index_str s 0 h W
  have h1 : decide (kdS s < 1) = false := by simp; omega
  have h2 : decide (kdS s > 12) = false := by simp; omega
  have hw : wrap64 (kdS s) = kdS s := wrap64_eq _ (by omega) (by omega)
  have HSI := hide (fun W => rsize_any (kdS s) hk W)
  have hsz := szF_le (rqF (kdS s)) (fun f hf => (rqF_all (kdS s) f hf).isF)
  have hrl := rqF_len (kdS s)
  generalize szF (rqF (kdS s)) = Z at *
  generalize kdS s = kd at *
  have hM : IntKind.i64.wrap (1 + (Z : Int)) = ((1 + Z : Nat) : Int) := by rw [wrapI_eq _ (by omega) (by omega)]; omega
  have hn4 : wrap64 ((s.size : Int) - 4) = (s.size : Int) - 4 := wrap64_eq _ (by omega) (by omega)
  have hne : ((s.size : Int) - 4 != ((1 + Z : Nat) : Int)) = true := by
    simp
    omega
  generalize (1 + Z : Nat) = M at *
  obtain ⟨g, hg⟩ : ∃ g, w.heap.size = g := ⟨_, rfl⟩
  obtain ⟨y, hy⟩ : ∃ Z, w.alloc (.cells #[.int .i64 0, .int .i64 0, .int .i64 0, .int .i64 0, .int .i64 0, .int .i64 0, .string ⟨#[]⟩, .string ⟨#[]⟩, .string ⟨#[]⟩, .string ⟨#[]⟩] 23) = Z := ⟨_, rfl⟩
  have BY : Blk y g #[.int .i64 0, .int .i64 0, .int .i64 0, .int .i64 0, .int .i64 0, .int .i64 0, .string ⟨#[]⟩, .string ⟨#[]⟩, .string ⟨#[]⟩, .string ⟨#[]⟩] 23 := by rw [← hy, ← hg]; exact Blk.new w _ _
  have hby : Below g w y := by rw [← hy, ← hg]; exact (Below.refl _ w).alloc (Nat.le_refl _) _
  have HY := hide (And.intro BY hby)
  clear BY hby hk hsz hrl hn h
  go_enter Tryz.func12, Tryz.ntmps12
  go_wp2
  refine wp_region_held_drew (S := fun _ => True) (by kernel_rfl) trivial ?_
  intro hS
  refine wpAnyH_takeD 0 (some 27) (.int .i64 ((s.size : Int) - 4)) rfl rfl (by kernel_rfl) (by kernel_rfl) (by kernel_rfl) (fun _ _ _ h => h) (Or.inl ⟨by rfl, fun w hSw => by clear hSw; go_simp⟩) hS ?_
  simp only [Act.put, List.setIfInBounds_toArray, List.set_cons_zero, List.set_cons_succ]
  refine wpAnyH_takeD 1 (some 28) (.int .i64 kd) rfl rfl (by kernel_rfl) (by kernel_rfl) (by kernel_rfl) (fun _ _ _ h => h) (Or.inl ⟨by rfl, fun w hSw => by clear hSw; go_simp⟩) hS ?_
  simp only [Act.put, List.setIfInBounds_toArray, List.set_cons_zero, List.set_cons_succ]
  refine wpAnyH_ready (rs := [2]) (by kernel_rfl) (by simp) ?_
  refine AllReadyH.cons rfl (fun K hK => ?_) AllReadyH.nil
  simp only [List.getElem_toArray, List.getElem_cons_succ, List.getElem_cons_zero]
  go_simp
  refine (unhide HSI _).mono ?_
  rintro e xA ⟨rfl, hbA⟩
  have HPA := hide (show Below y.heap.size y xA from ((Below.refl _ y).drew).trans hbA)
  clear hbA
  refine hK.out _ _ trivial (fun hS => ?_)
  clear hK K
  refine wpAnyH_takeD 3 (some 30) (.int .i64 (M : Int)) rfl rfl (by kernel_rfl) (by kernel_rfl) (by kernel_rfl) (fun _ _ _ h => h) (Or.inl ⟨by rfl, fun w hSw => by clear hSw; go_simp⟩) hS ?_
  simp only [Act.put, List.setIfInBounds_toArray, List.set_cons_zero, List.set_cons_succ]
  refine wpAnyH_takeD 4 (some 31) (.bool true) rfl rfl (by kernel_rfl) (by kernel_rfl) (by kernel_rfl) (fun _ _ _ h => h) (Or.inl ⟨by rfl, fun w hSw => by clear hSw; go_simp⟩) hS ?_
  simp only [Act.put, List.setIfInBounds_toArray, List.set_cons_zero, List.set_cons_succ]
  refine wpAnyH_takeD 5 (some 32) (.bool true) rfl rfl (by kernel_rfl) (by kernel_rfl) (by kernel_rfl) (fun _ _ _ h => h) (Or.inl ⟨by rfl, fun w hSw => by clear hSw; go_simp⟩) hS ?_
  simp only [Act.put, List.setIfInBounds_toArray, List.set_cons_zero, List.set_cons_succ]
  refine wpAnyH_takeD 6 (some 33) undef rfl rfl (by kernel_rfl) (by kernel_rfl) (by kernel_rfl) (fun _ _ _ h => h) (Or.inr ⟨by rfl, rfl⟩) hS ?_
  simp only [Act.put, List.setIfInBounds_toArray, List.set_cons_zero, List.set_cons_succ]
  refine wpAnyH_takeD 7 (some 34) undef rfl rfl (by kernel_rfl) (by kernel_rfl) (by kernel_rfl) (fun _ _ _ h => h) (Or.inr ⟨by rfl, rfl⟩) hS ?_
  simp only [Act.put, List.setIfInBounds_toArray, List.set_cons_zero, List.set_cons_succ]
  refine wpAnyH_takeD 8 (some 35) undef rfl rfl (by kernel_rfl) (by kernel_rfl) (by kernel_rfl) (fun _ _ _ h => h) (Or.inr ⟨by rfl, rfl⟩) hS ?_
  simp only [Act.put, List.setIfInBounds_toArray, List.set_cons_zero, List.set_cons_succ]
  refine wpAnyH_takeD 9 (some 36) undef rfl rfl (by kernel_rfl) (by kernel_rfl) (by kernel_rfl) (fun _ _ _ h => h) (Or.inr ⟨by rfl, rfl⟩) hS ?_
  simp only [Act.put, List.setIfInBounds_toArray, List.set_cons_zero, List.set_cons_succ]
  refine wpAnyH_takeD 10 (some 37) undef rfl rfl (by kernel_rfl) (by kernel_rfl) (by kernel_rfl) (fun _ _ _ h => h) (Or.inr ⟨by rfl, rfl⟩) hS ?_
  simp only [Act.put, List.setIfInBounds_toArray, List.set_cons_zero, List.set_cons_succ]
  refine wpAnyH_takeD 11 (some 38) undef rfl rfl (by kernel_rfl) (by kernel_rfl) (by kernel_rfl) (fun _ _ _ h => h) (Or.inr ⟨by rfl, rfl⟩) hS ?_
  simp only [Act.put, List.setIfInBounds_toArray, List.set_cons_zero, List.set_cons_succ]
  refine wpAnyH_takeD 12 (some 39) undef rfl rfl (by kernel_rfl) (by kernel_rfl) (by kernel_rfl) (fun _ _ _ h => h) (Or.inr ⟨by rfl, rfl⟩) hS ?_
  simp only [Act.put, List.setIfInBounds_toArray, List.set_cons_zero, List.set_cons_succ]
  refine wpAnyH_takeD 13 (some 40) undef rfl rfl (by kernel_rfl) (by kernel_rfl) (by kernel_rfl) (fun _ _ _ h => h) (Or.inr ⟨by rfl, rfl⟩) hS ?_
  simp only [Act.put, List.setIfInBounds_toArray, List.set_cons_zero, List.set_cons_succ]
  refine wpAnyH_takeD 14 (some 41) undef rfl rfl (by kernel_rfl) (by kernel_rfl) (by kernel_rfl) (fun _ _ _ h => h) (Or.inr ⟨by rfl, rfl⟩) hS ?_
  simp only [Act.put, List.setIfInBounds_toArray, List.set_cons_zero, List.set_cons_succ]
  refine wpAnyH_takeD 15 (some 42) (.bool true) rfl rfl (by kernel_rfl) (by kernel_rfl) (by kernel_rfl) (fun _ _ _ h => h) (Or.inl ⟨by rfl, fun w hSw => by clear hSw; go_simp⟩) hS ?_
  simp only [Act.put, List.setIfInBounds_toArray, List.set_cons_zero, List.set_cons_succ]
  refine wpAnyH_done (by kernel_rfl) ?_ _
  obtain ⟨BY, hby⟩ := unhide HY
  have B5 := BY.below (unhide HPA) BY.lt
  have hbw5 : Below g w xA := hby.trans ((unhide HPA).mono (by have := BY.lt; omega))
  have BT := blk_setRow (cells := (Req.bare 0).cs) B5
  have HL := hide (iload_blk 23 _ BT Tryz.underlying23 rfl size_req)
  have HZ := hide B5
  have HBN := hide built_none
  have HO := hide (Req.one (Req.bare 0))
  have HF2 := hide (show Below g w (xA.setRow g (Req.bare 0).cs) from below_setRow hbw5 (Nat.le_refl _) _)
  clear BT BY hby B5 hbw5
  go_wp2_with (first | refine wpList_buildAs rfl 23 #[] rfl _ rfl (Req.bare 0).cs (unhide HBN) ?_ | refine wpList_store_row rfl 23 (.tmp 2) (.tmp 43) rfl g (Req.bare 0).cs rfl rfl 23 #[.int .i64 0, .int .i64 0, .int .i64 0, .int .i64 0, .int .i64 0, .int .i64 0, .string ⟨#[]⟩, .string ⟨#[]⟩, .string ⟨#[]⟩, .string ⟨#[]⟩] (unhide HZ) size_req rfl (unhide HO) ?_)
  (try simp only [Exit.inBlock, Exit.then])
  refine bodyPost_ret (v := .tuple #[.agg (Req.bare 0).cs, .int .i64 121]) (results_cell2 (p := 2) (q := 3) (ty := 23) rfl _ _ _ ⟨g, 0, none⟩ rfl _ (unhide HL)) rfl ?_
  exact ⟨rfl, by rw [hg]; exact unhide HF2⟩
set_option maxHeartbeats 8000000 in
theorem rdec_rest (s : ByteArray) (h : 0 < s.size) (hk : 1 ≤ kdS s ∧ kdS s ≤ 12) (hn : s.size = 5 + szF (rqF (kdS s))) (w : World) : Calls Tryz.prog 12 #[.string s] w fun e w' => e = .returned (.tuple #[.agg (decR s).cs, .int .i64 (decE s)]) ∧ Below w.heap.size w w' := by
  have he : s.toList.isEmpty = false := empty_ne (fun e => by rw [e] at h; exact absurd h (by decide))
  have hix : ∀ W, (Instr.index 9 (.string s) (.int .i64 0)).run Tryz.prog W = .ok (.int .u8 (kdS s)) W := fun W => index_str s 0 h W
  have h1 : decide (kdS s < 1) = false := by simp; omega
  have h2 : decide (kdS s > 12) = false := by simp; omega
  have hw : wrap64 (kdS s) = kdS s := wrap64_eq _ (by omega) (by omega)
  have HSI := hide (fun W => rsize_any (kdS s) hk W)
  have hsz := szF_le (rqF (kdS s)) (fun f hf => (rqF_all (kdS s) f hf).isF)
  have hrl := rqF_len (kdS s)
  have hko : kdO s := ⟨h, hk⟩
  obtain ⟨t1, t2⟩ := tk_any (kdS s) hk s hn
  obtain ⟨E, hE⟩ : ∃ E, s.size = E + 4 := ⟨1 + szF (rqF (kdS s)), by omega⟩
  have hE1 : (1 : Int) ≤ (E : Int) := by omega
  have hE4 : s.size - 4 = E := by omega
  have hZE : 1 + szF (rqF (kdS s)) = E := by omega
  have hTK := fun W => taken_any (kdS s) hk (s.extract 1 E) (by simp; omega) W
  rw [hE4] at t1 t2
  have hMA := fun W => may_any (tkQ (kdS s) (s.extract 1 E)) (by rw [tkQ_kd _ hk]; exact hk) W
  have hfr : frB s (rqF (kdS s)) ⟨#[]⟩ = ckB ⟨#[]⟩ s := by rw [frB, if_pos hn]
  have hdr : decR s = (if ckB ⟨#[]⟩ s = true then (if tqB (kdS s) s = true then tqR (kdS s) s else Req.bare 0) else Req.bare 0) := by rw [decR, if_pos hko, hfr]
  have hde : decE s = (if ckB ⟨#[]⟩ s = true then (if tqB (kdS s) s = true then 0 else 122) else 121) := by rw [decE, if_pos hko, hfr]
  have hck : ckB ⟨#[]⟩ s = ((strOfNums (le4 (chkN (nums (s.extract 0 E))))).toList == (s.extract E s.size).toList) := by rw [ckB, nil_app, hE4]
  have HCK := hide (fun W => rcheck_any (s.extract 0 E) (by simp; omega) W)
  have HLO := hide (fun W => low4_any (chkN (nums (s.extract 0 E))) (chkN_lt _) W)
  obtain ⟨TQ, hTQ⟩ : ∃ Z, tkQ (kdS s) (s.extract 1 E) = Z := ⟨_, rfl⟩
  rw [hTQ] at t1 t2 hTK hMA
  have HTK := hide hTK
  have HMA := hide hMA
  have HDR := hide (And.intro hdr (And.intro hde (And.intro hck (And.intro t1 t2))))
  generalize decR s = DR at *
  generalize decE s = DE at *
  generalize ckB ⟨#[]⟩ s = CB at *
  generalize tqB (kdS s) s = TB at *
  generalize tqR (kdS s) s = TR at *
  generalize mayQ TQ = MB at *
  generalize szF (rqF (kdS s)) = Z at *
  generalize kdS s = kd at *
  generalize chkN (nums (s.extract 0 E)) = C at *
  generalize strOfNums (le4 C) = K4 at *
  obtain ⟨A1, hA1⟩ : ∃ Z, s.extract 0 E = Z := ⟨_, rfl⟩
  obtain ⟨A3, hA3⟩ : ∃ Z, s.extract E (E + 4) = Z := ⟨_, rfl⟩
  obtain ⟨A5, hA5⟩ : ∃ Z, s.extract 1 E = Z := ⟨_, rfl⟩
  rw [hA1] at HCK
  rw [hA5] at HTK
  rw [hE, hA3] at HDR
  have hM : IntKind.i64.wrap (1 + (Z : Int)) = (E : Int) := by rw [wrapI_eq _ (by omega) (by omega)]; omega
  have hwE : wrap64 (E : Int) = (E : Int) := wrap64_eq _ (by omega) (by omega)
  have hle : (E : Int) ≤ (E : Int) + 4 := Int.le_add_of_nonneg_right (by decide)
  have hle2 : E ≤ E + 4 := Nat.le_add_right _ _
  obtain ⟨D, hD⟩ : ∃ Z, (A3.toList != K4.toList) = Z := ⟨_, rfl⟩
  have hD2 : (A3.toList == K4.toList) = !D := by rw [← hD, show (A3.toList != K4.toList) = !(A3.toList == K4.toList) from rfl, Bool.not_not]
  have HDC := hide (show D = !CB by
    have h := (unhide HDR).2.2.1
    rw [h, ← hD, show (A3.toList != K4.toList) = !(A3.toList == K4.toList) from rfl, Bool.beq_comm])
  obtain ⟨g, hg⟩ : ∃ g, w.heap.size = g := ⟨_, rfl⟩
  obtain ⟨y, hy⟩ : ∃ Z, w.alloc (.cells #[.int .i64 0, .int .i64 0, .int .i64 0, .int .i64 0, .int .i64 0, .int .i64 0, .string ⟨#[]⟩, .string ⟨#[]⟩, .string ⟨#[]⟩, .string ⟨#[]⟩] 23) = Z := ⟨_, rfl⟩
  have BY : Blk y g #[.int .i64 0, .int .i64 0, .int .i64 0, .int .i64 0, .int .i64 0, .int .i64 0, .string ⟨#[]⟩, .string ⟨#[]⟩, .string ⟨#[]⟩, .string ⟨#[]⟩] 23 := by rw [← hy, ← hg]; exact Blk.new w _ _
  have hby : Below g w y := by rw [← hy, ← hg]; exact (Below.refl _ w).alloc (Nat.le_refl _) _
  have HY := hide (And.intro BY hby)
  clear BY hby hk hsz hrl hn h hko hfr hdr hde hck t1 t2 hTK hMA hTQ hE4 hZE
  go_enter Tryz.func12, Tryz.ntmps12
  go_wp2
  refine wp_region_held_drew (S := fun _ => True) (by kernel_rfl) trivial ?_
  intro hS
  refine wpAnyH_takeD 0 (some 27) (.int .i64 (E : Int)) rfl rfl (by kernel_rfl) (by kernel_rfl) (by kernel_rfl) (fun _ _ _ h => h) (Or.inl ⟨by rfl, fun w hSw => by clear hSw; go_simp; try omega⟩) hS ?_
  simp only [Act.put, List.setIfInBounds_toArray, List.set_cons_zero, List.set_cons_succ]
  refine wpAnyH_takeD 1 (some 28) (.int .i64 kd) rfl rfl (by kernel_rfl) (by kernel_rfl) (by kernel_rfl) (fun _ _ _ h => h) (Or.inl ⟨by rfl, fun w hSw => by clear hSw; go_simp; try omega⟩) hS ?_
  simp only [Act.put, List.setIfInBounds_toArray, List.set_cons_zero, List.set_cons_succ]
  refine wpAnyH_ready (rs := [2]) (by kernel_rfl) (by simp) ?_
  refine AllReadyH.cons rfl (fun K hK => ?_) AllReadyH.nil
  simp only [List.getElem_toArray, List.getElem_cons_succ, List.getElem_cons_zero]
  go_simp
  refine (unhide HSI _).mono ?_
  rintro e xA ⟨rfl, hbA⟩
  have HPA := hide (show Below y.heap.size y xA from ((Below.refl _ y).drew).trans hbA)
  clear hbA
  refine hK.out _ _ trivial (fun hS => ?_)
  clear hK K
  refine wpAnyH_takeD 3 (some 30) (.int .i64 (E : Int)) rfl rfl (by kernel_rfl) (by kernel_rfl) (by kernel_rfl) (fun _ _ _ h => h) (Or.inl ⟨by rfl, fun w hSw => by clear hSw; go_simp; try omega⟩) hS ?_
  simp only [Act.put, List.setIfInBounds_toArray, List.set_cons_zero, List.set_cons_succ]
  refine wpAnyH_takeD 4 (some 31) (.bool false) rfl rfl (by kernel_rfl) (by kernel_rfl) (by kernel_rfl) (fun _ _ _ h => h) (Or.inl ⟨by rfl, fun w hSw => by clear hSw; go_simp; try omega⟩) hS ?_
  simp only [Act.put, List.setIfInBounds_toArray, List.set_cons_zero, List.set_cons_succ]
  refine wpAnyH_takeD 5 (some 32) (.bool false) rfl rfl (by kernel_rfl) (by kernel_rfl) (by kernel_rfl) (fun _ _ _ h => h) (Or.inl ⟨by rfl, fun w hSw => by clear hSw; go_simp; try omega⟩) hS ?_
  simp only [Act.put, List.setIfInBounds_toArray, List.set_cons_zero, List.set_cons_succ]
  refine wpAnyH_takeD 6 (some 33) (.string s) rfl rfl (by kernel_rfl) (by kernel_rfl) (by kernel_rfl) (fun _ _ _ h => h) (Or.inl ⟨by rfl, fun w hSw => by clear hSw; go_simp; try omega⟩) hS ?_
  simp only [Act.put, List.setIfInBounds_toArray, List.set_cons_zero, List.set_cons_succ]
  refine wpAnyH_takeD 7 (some 34) (.int .i64 (E : Int)) rfl rfl (by kernel_rfl) (by kernel_rfl) (by kernel_rfl) (fun _ _ _ h => h) (Or.inl ⟨by rfl, fun w hSw => by clear hSw; go_simp; try omega⟩) hS ?_
  simp only [Act.put, List.setIfInBounds_toArray, List.set_cons_zero, List.set_cons_succ]
  refine wpAnyH_takeD 8 (some 35) (.string A3) rfl rfl (by kernel_rfl) (by kernel_rfl) (by kernel_rfl) (fun _ _ _ h => h) (Or.inl ⟨by rfl, fun w hSw => by clear hSw; go_simp; try omega⟩) hS ?_
  simp only [Act.put, List.setIfInBounds_toArray, List.set_cons_zero, List.set_cons_succ]
  refine wpAnyH_takeD 9 (some 36) (.string s) rfl rfl (by kernel_rfl) (by kernel_rfl) (by kernel_rfl) (fun _ _ _ h => h) (Or.inl ⟨by rfl, fun w hSw => by clear hSw; go_simp; try omega⟩) hS ?_
  simp only [Act.put, List.setIfInBounds_toArray, List.set_cons_zero, List.set_cons_succ]
  refine wpAnyH_takeD 10 (some 37) (.int .i64 (E : Int)) rfl rfl (by kernel_rfl) (by kernel_rfl) (by kernel_rfl) (fun _ _ _ h => h) (Or.inl ⟨by rfl, fun w hSw => by clear hSw; go_simp; try omega⟩) hS ?_
  simp only [Act.put, List.setIfInBounds_toArray, List.set_cons_zero, List.set_cons_succ]
  refine wpAnyH_takeD 11 (some 38) (.string A1) rfl rfl (by kernel_rfl) (by kernel_rfl) (by kernel_rfl) (fun _ _ _ h => h) (Or.inl ⟨by rfl, fun w hSw => by clear hSw; go_simp; try omega⟩) hS ?_
  simp only [Act.put, List.setIfInBounds_toArray, List.set_cons_zero, List.set_cons_succ]
  refine wpAnyH_ready (rs := [12]) (by kernel_rfl) (by simp) ?_
  refine AllReadyH.cons rfl (fun K hK => ?_) AllReadyH.nil
  simp only [List.getElem_toArray, List.getElem_cons_succ, List.getElem_cons_zero]
  go_simp
  refine (unhide HCK _).mono ?_
  rintro e xB ⟨rfl, hbA⟩
  subst xB
  refine hK.out _ _ trivial (fun hS => ?_)
  clear hK K
  refine wpAnyH_ready (rs := [13]) (by kernel_rfl) (by simp) ?_
  refine AllReadyH.cons rfl (fun K hK => ?_) AllReadyH.nil
  simp only [List.getElem_toArray, List.getElem_cons_succ, List.getElem_cons_zero]
  go_simp
  refine (unhide HLO _).mono ?_
  rintro e xD ⟨rfl, hbA⟩
  have HPD := hide (show Below y.heap.size y xD from (unhide HPA).trans (hbA.mono (unhide HPA).size))
  clear hbA
  refine hK.out _ _ trivial (fun hS => ?_)
  clear hK K
  refine wpAnyH_takeD 14 (some 41) (.bool D) rfl rfl (by kernel_rfl) (by kernel_rfl) (by kernel_rfl) (fun _ _ _ h => h) (Or.inl ⟨by rfl, fun w hSw => by clear hSw; go_simp; try omega⟩) hS ?_
  simp only [Act.put, List.setIfInBounds_toArray, List.set_cons_zero, List.set_cons_succ]
  refine wpAnyH_takeD 15 (some 42) (.bool D) rfl rfl (by kernel_rfl) (by kernel_rfl) (by kernel_rfl) (fun _ _ _ h => h) (Or.inl ⟨by rfl, fun w hSw => by clear hSw; go_simp; try omega⟩) hS ?_
  simp only [Act.put, List.setIfInBounds_toArray, List.set_cons_zero, List.set_cons_succ]
  refine wpAnyH_done (by kernel_rfl) ?_ _
  obtain ⟨BY, hby⟩ := unhide HY
  have B5 := BY.below (unhide HPD) BY.lt
  have hbw5 : Below g w xD := hby.trans ((unhide HPD).mono (by have := BY.lt; omega))
  have hdc := unhide HDC
  cases CB with
  | false =>
    obtain rfl : D = true := hdc
    have HD := hide (show DR = Req.bare 0 ∧ DE = 121 from ⟨(unhide HDR).1, (unhide HDR).2.1⟩)
    have BT := blk_setRow (cells := (Req.bare 0).cs) B5
    have HL := hide (iload_blk 23 _ BT Tryz.underlying23 rfl size_req)
    have HZ := hide B5
    have HBN := hide built_none
    have HO := hide (Req.one (Req.bare 0))
    have HF2 := hide (show Below g w (xD.setRow g (Req.bare 0).cs) from below_setRow hbw5 (Nat.le_refl _) _)
    clear BT BY hby B5 hbw5
    go_wp2_with (first | refine wpList_buildAs rfl 23 #[] rfl _ rfl (Req.bare 0).cs (unhide HBN) ?_ | refine wpList_store_row rfl 23 (.tmp 2) (.tmp 43) rfl g (Req.bare 0).cs rfl rfl 23 #[.int .i64 0, .int .i64 0, .int .i64 0, .int .i64 0, .int .i64 0, .int .i64 0, .string ⟨#[]⟩, .string ⟨#[]⟩, .string ⟨#[]⟩, .string ⟨#[]⟩] (unhide HZ) size_req rfl (unhide HO) ?_)
    (try simp only [Exit.inBlock, Exit.then])
    refine bodyPost_ret (v := .tuple #[.agg (Req.bare 0).cs, .int .i64 121]) (results_cell2 (p := 2) (q := 3) (ty := 23) rfl _ _ _ ⟨g, 0, none⟩ rfl _ (unhide HL)) rfl ?_
    exact ⟨by rw [(unhide HD).1, (unhide HD).2], by rw [hg]; exact unhide HF2⟩
  | true =>
    obtain rfl : D = false := hdc
    have HD := hide (show DR = (if TB = true then TR else Req.bare 0) ∧ DE = (if TB = true then 0 else 122) ∧ TB = MB ∧ (TB = true → TR = TQ) from ⟨(unhide HDR).1, (unhide HDR).2.1, (unhide HDR).2.2.2.1, (unhide HDR).2.2.2.2⟩)
    have H5 := hide (And.intro B5 hbw5)
    clear BY hby B5 hbw5 HDR HDC HY
    go_wp2_with fail
    refine (unhide HTK _).mono ?_
    rintro e x5 ⟨rfl, hO5⟩
    obtain ⟨B4, hbw4⟩ := unhide H5
    have B5 := B4.below hO5 B4.lt
    have hg4 := B4.lt
    have hbw5 : Below g w x5 := hbw4.trans (hO5.mono (by omega))
    obtain ⟨h, hh⟩ : ∃ h, x5.heap.size = h := ⟨_, rfl⟩
    obtain ⟨y6, hy6⟩ : ∃ Z, x5.alloc (.cells #[.int .i64 0, .int .i64 0, .int .i64 0, .int .i64 0, .int .i64 0, .int .i64 0, .string ⟨#[]⟩, .string ⟨#[]⟩, .string ⟨#[]⟩, .string ⟨#[]⟩] 23) = Z := ⟨_, rfl⟩
    have BN6 : Blk y6 h #[.int .i64 0, .int .i64 0, .int .i64 0, .int .i64 0, .int .i64 0, .int .i64 0, .string ⟨#[]⟩, .string ⟨#[]⟩, .string ⟨#[]⟩, .string ⟨#[]⟩] 23 := by rw [← hy6, ← hh]; exact Blk.new x5 _ _
    have hb6 : Below h x5 y6 := by rw [← hy6, ← hh]; exact (Below.refl _ x5).alloc (Nat.le_refl _) _
    have hg5 : g < h := by rw [← hh]; exact B5.lt
    have B6 := B5.below hb6 hg5
    have HZN := hide BN6
    have HON := hide (Req.one TQ)
    have BN7 : Blk (y6.setRow h TQ.cs) h TQ.cs 23 := blk_setRow BN6
    have B7 : Blk (y6.setRow h TQ.cs) g #[.int .i64 0, .int .i64 0, .int .i64 0, .int .i64 0, .int .i64 0, .int .i64 0, .string ⟨#[]⟩, .string ⟨#[]⟩, .string ⟨#[]⟩, .string ⟨#[]⟩] 23 := blk_setRow_other B6 (by omega)
    have hbw7 : Below g w (y6.setRow h TQ.cs) := below_setRow (hbw5.trans (hb6.mono (by omega))) (by omega) _
    obtain ⟨x7, hx7⟩ : ∃ Z, y6.setRow h TQ.cs = Z := ⟨_, rfl⟩
    rw [hx7] at BN7 B7 hbw7
    have HRT := hide (show x7.rangeAt h 0 TQ.cl from blk_range BN7)
    have HRT2 := hide (show (y6.setRow h TQ.cs).rangeAt h 0 TQ.cl by rw [hx7]; exact unhide HRT)
    have HMA7 := hide (unhide HMA x7)
    have H7 := hide (And.intro B7 (And.intro BN7 hbw7))
    clear B4 hbw4 B5 hbw5 BN6 hb6 B6 BN7 hO5 H5 B7 hbw7
    go_wp2_with (first | refine wpList_store_row rfl 23 (.tmp 6) (.tmp 48) rfl h TQ.cs rfl rfl 23 #[.int .i64 0, .int .i64 0, .int .i64 0, .int .i64 0, .int .i64 0, .int .i64 0, .string ⟨#[]⟩, .string ⟨#[]⟩, .string ⟨#[]⟩, .string ⟨#[]⟩] (unhide HZN) size_req rfl (unhide HON) ?_ | refine wpList_load_mid rfl 23 (.tmp 6) rfl h 0 rfl TQ.cl _ (unhide HRT2) Tryz.underlying23 rfl size_req ?_ | refine wpList_load_mid rfl 23 (.tmp 6) rfl h 0 rfl TQ.cl _ (unhide HRT) Tryz.underlying23 rfl size_req ?_)
    (try rw [hx7])
    refine (unhide HMA7).mono ?_
    rintro e x8 ⟨rfl, hb8⟩
    obtain ⟨B7, BN7, hbw7⟩ := unhide H7
    have B8 := B7.below hb8 B7.lt
    have BN8 := BN7.below hb8 BN7.lt
    have hbw8 : Below g w x8 := hbw7.trans (hb8.mono (by have := B7.lt; omega))
    have HR8 := hide (show x8.rangeAt h 0 TQ.cl from blk_range BN8)
    obtain ⟨q1, q2, q3, q4⟩ := unhide HD
    clear B7 BN7 hbw7 BN8 hb8 H7 HMA7 HRT HZN HD
    subst q3
    cases TB with
    | false =>
      have HD2 := hide (show DR = Req.bare 0 ∧ DE = 122 from ⟨q1, q2⟩)
      have BT := blk_setRow (cells := (Req.bare 0).cs) B8
      have HL := hide (iload_blk 23 _ BT Tryz.underlying23 rfl size_req)
      have HZ := hide B8
      have HBN := hide built_none
      have HO := hide (Req.one (Req.bare 0))
      have HF2 := hide (show Below g w (x8.setRow g (Req.bare 0).cs) from below_setRow hbw8 (Nat.le_refl _) _)
      clear BT B8 hbw8 q1 q2 q4
      go_wp2_with (first | refine wpList_buildAs rfl 23 #[] rfl _ rfl (Req.bare 0).cs (unhide HBN) ?_ | refine wpList_store_row rfl 23 (.tmp 2) (.tmp 53) rfl g (Req.bare 0).cs rfl rfl 23 #[.int .i64 0, .int .i64 0, .int .i64 0, .int .i64 0, .int .i64 0, .int .i64 0, .string ⟨#[]⟩, .string ⟨#[]⟩, .string ⟨#[]⟩, .string ⟨#[]⟩] (unhide HZ) size_req rfl (unhide HO) ?_)
      (try simp only [Exit.inBlock, Exit.then])
      refine bodyPost_ret (v := .tuple #[.agg (Req.bare 0).cs, .int .i64 122]) (results_cell2 (p := 2) (q := 3) (ty := 23) rfl _ _ _ ⟨g, 0, none⟩ rfl _ (unhide HL)) rfl ?_
      exact ⟨by rw [(unhide HD2).1, (unhide HD2).2], by rw [hg]; exact unhide HF2⟩
    | true =>
      have HD2 := hide (show DR = TQ ∧ DE = 0 from ⟨q1.trans (q4 rfl), q2⟩)
      have BT := blk_setRow (cells := TQ.cs) B8
      have HL := hide (iload_blk 23 _ BT Tryz.underlying23 rfl size_req)
      have HZ := hide B8
      have HF2 := hide (show Below g w (x8.setRow g TQ.cs) from below_setRow hbw8 (Nat.le_refl _) _)
      clear BT B8 hbw8 q1 q2 q4
      go_wp2_with (first | refine wpList_load_mid rfl 23 (.tmp 6) rfl h 0 rfl TQ.cl _ (unhide HR8) Tryz.underlying23 rfl size_req ?_ | refine wpList_store_row rfl 23 (.tmp 2) (.tmp 54) rfl g TQ.cs rfl rfl 23 #[.int .i64 0, .int .i64 0, .int .i64 0, .int .i64 0, .int .i64 0, .int .i64 0, .string ⟨#[]⟩, .string ⟨#[]⟩, .string ⟨#[]⟩, .string ⟨#[]⟩] (unhide HZ) size_req rfl (unhide HON) ?_)
      (try simp only [Exit.inBlock, Exit.then])
      refine bodyPost_ret (v := .tuple #[.agg TQ.cs, .int .i64 0]) (results_cell2 (p := 2) (q := 3) (ty := 23) rfl _ _ _ ⟨g, 0, none⟩ rfl _ (unhide HL)) rfl ?_
      exact ⟨by rw [(unhide HD2).1, (unhide HD2).2], by rw [hg]; exact unhide HF2⟩
theorem rdecode_any (s : ByteArray) (hs : s.size ≤ 140737488351232) (w : World) : Calls Tryz.prog 12 #[.string s] w fun e w' => e = .returned (.tuple #[.agg (decR s).cs, .int .i64 (decE s)]) ∧ Below w.heap.size w w' := by
  by_cases h : 0 < s.size
  · by_cases hk : 1 ≤ kdS s ∧ kdS s ≤ 12
    · by_cases hn : s.size = 5 + szF (rqF (kdS s))
      · exact rdec_rest s h hk hn w
      · have hko : kdO s := ⟨h, hk⟩
        have hf : ¬ frB s (rqF (kdS s)) ⟨#[]⟩ = true := by rw [frB, if_neg hn]; decide
        rw [decR, decE, if_pos hko, if_pos hko, if_neg hf, if_neg hf]
        exact rdec_form s hs h hk hn w
    · have hn : ¬ kdO s := fun q => hk q.2
      rw [decR, decE, if_neg hn, if_neg hn]
      exact rdec_kind s h hk w
  · have hn : ¬ kdO s := fun q => h q.1
    rw [decR, decE, if_neg hn, if_neg hn]
    exact rdec_none s (by omega) w
end Go.Proofs.YtobmeiomfiepjaaGreatDoor
namespace Go.Proofs.YtobmeiomfiepjaaGreatDoor
open Go.RowKit
set_option maxRecDepth 100000
theorem wpList_eqQG {ops : Array Oper} {rest : List Oper} {op : Oper} {a : Act} {w : World} {Q : Exit → Act → World → Prop} (hw : Region.wanted op (yielded ops a.tmps) = true) (x y : Operand) (ho : op.op = .binOp .eql 23 x y 23) (r s : Req) (hx : a.eval x = .agg r.cs) (hy : a.eval y = .agg s.cs) (D : Bool) (hD : eqQ r s = D) (h : wpList Tryz.prog ops Q rest (a.put op.dst (.bool D)) w) : wpList Tryz.prog ops Q (op :: rest) a w :=
  wpList_step fun K hK => by
    simp only [hw, if_true]
    have e := run_eqQ r s w
    rw [hD] at e
    have e2 := run_eqGuard_agg (P := Tryz.prog) w .eql 23 x y r.cs s.cs guard_req
    unfold Oper.wp execOp
    simp only [ho, hx, hy, Sem.run_bind, e2, Result.andThen_ok, e, Sem.run_pure]
    exact hK _ _ h
theorem eqQ_self (r : Req) : eqQ r r = true := by simp [eqQ]
theorem encQ_size (r : Req) : (encQ r).size ≤ 140737488351232 := by
  have h := (eqL_len r).1
  unfold encQ
  split
  · split
    · rw [ByteArray.size_append, strOfNums_size, strOfNums_size]
      have : (le4 (chkN (eqL r))).length = 4 := rfl
      omega
    · show 0 ≤ _; exact Nat.zero_le _
  · show 0 ≤ _; exact Nat.zero_le _
/-- a request in a box of its own behind a world -/
theorem box_new (x : World) (v : Req) (g : Nat) (w : World) (hb : Below g w x) (hg : g ≤ x.heap.size) : Blk (x.alloc (.cells #[.int .i64 0, .int .i64 0, .int .i64 0, .int .i64 0, .int .i64 0, .int .i64 0, .string ⟨#[]⟩, .string ⟨#[]⟩, .string ⟨#[]⟩, .string ⟨#[]⟩] 23)) x.heap.size #[.int .i64 0, .int .i64 0, .int .i64 0, .int .i64 0, .int .i64 0, .int .i64 0, .string ⟨#[]⟩, .string ⟨#[]⟩, .string ⟨#[]⟩, .string ⟨#[]⟩] 23 ∧ Blk ((x.alloc (.cells #[.int .i64 0, .int .i64 0, .int .i64 0, .int .i64 0, .int .i64 0, .int .i64 0, .string ⟨#[]⟩, .string ⟨#[]⟩, .string ⟨#[]⟩, .string ⟨#[]⟩] 23)).setRow x.heap.size v.cs) x.heap.size v.cs 23 ∧ Below x.heap.size x ((x.alloc (.cells #[.int .i64 0, .int .i64 0, .int .i64 0, .int .i64 0, .int .i64 0, .int .i64 0, .string ⟨#[]⟩, .string ⟨#[]⟩, .string ⟨#[]⟩, .string ⟨#[]⟩] 23)).setRow x.heap.size v.cs) ∧ Below g w ((x.alloc (.cells #[.int .i64 0, .int .i64 0, .int .i64 0, .int .i64 0, .int .i64 0, .int .i64 0, .string ⟨#[]⟩, .string ⟨#[]⟩, .string ⟨#[]⟩, .string ⟨#[]⟩] 23)).setRow x.heap.size v.cs) := by
  have h1 := Blk.new x 23 #[.int .i64 0, .int .i64 0, .int .i64 0, .int .i64 0, .int .i64 0, .int .i64 0, .string ⟨#[]⟩, .string ⟨#[]⟩, .string ⟨#[]⟩, .string ⟨#[]⟩]
  have h3 : Below x.heap.size x ((x.alloc (.cells #[.int .i64 0, .int .i64 0, .int .i64 0, .int .i64 0, .int .i64 0, .int .i64 0, .string ⟨#[]⟩, .string ⟨#[]⟩, .string ⟨#[]⟩, .string ⟨#[]⟩] 23)).setRow x.heap.size v.cs) := below_setRow ((Below.refl _ x).alloc (Nat.le_refl _) _) (Nat.le_refl _) _
  exact ⟨h1, blk_setRow h1, h3, hb.trans (h3.mono hg)⟩
set_option maxHeartbeats 8000000 in
theorem asks12 (r : Req) (s : ByteArray) (hs : s.size ≤ 140737488351232) (w : World) (hE : ETy w) : Calls Tryz.prog 3 #[.agg r.cl.toArray, .string s] w fun e w' => e = .returned (.bool true) ∧ Below w.heap.size w w' := by
  obtain ⟨g, hg⟩ : ∃ g, w.heap.size = g := ⟨_, rfl⟩
  obtain ⟨x2, hx2⟩ : ∃ Z, w.alloc (.cells r.cl.toArray 23) = Z := ⟨_, rfl⟩
  have B : Blk x2 g r.cl.toArray 23 := by rw [← hx2, ← hg]; exact Blk.new w _ _
  have hb : Below g w x2 := by rw [← hx2, ← hg]; exact (Below.refl _ w).alloc (Nat.le_refl _) _
  have HEW := hide (fun W (q : Below g w W) => hE.below q (by rw [← hg]; exact hE.lt))
  have HE1 := hide (encodeRequest_any r)
  have HE2 := hide (rencode_any r)
  have HD1 := hide (fun W (q : ETy W) => decodeRequest_any (encQ r) (encQ_size r) W q)
  have HD2 := hide (rdecode_any (encQ r) (encQ_size r))
  have HD3 := hide (fun W (q : ETy W) => decodeRequest_any s hs W q)
  have HD4 := hide (rdecode_any s hs)
  generalize encQ r = b at *
  generalize errQ r = e0 at *
  generalize decR b = c at *
  generalize decE b = e1 at *
  generalize decR s = d at *
  generalize decE s = e2 at *
  have HS := hide (size_req)
  have H2 := hide (And.intro B hb)
  clear B hb hE hs
  rw [hg]
  go_enter Tryz.func3, Tryz.ntmps3
  go_wp2_with fail
  refine (known12_any _).mono ?_
  rintro e x3 ⟨rfl, hx3⟩
  obtain ⟨B2, hb2⟩ := unhide H2
  have hgl : g ≤ x2.heap.size := Nat.le_of_lt B2.lt
  have B3 := B2.below hx3 B2.lt
  have hb3 : Below g w x3 := hb2.trans (hx3.mono hgl)
  have HR3 := hide (show x3.rangeAt g 0 r.cl from blk_range B3)
  have H3 := hide (And.intro B3 hb3)
  clear B2 hb2 B3 hb3 hx3 H2 hx2
  go_wp2_with (refine wpList_load_mid rfl 23 (.tmp 2) rfl g 0 rfl r.cl _ (unhide HR3) Tryz.underlying23 rfl (unhide HS) ?_)
  refine (unhide HE1 _).mono ?_
  rintro e x4 ⟨rfl, hx4⟩
  obtain ⟨B3, hb3⟩ := unhide H3
  have B4 := B3.below hx4 B3.lt
  have hb4 : Below g w x4 := hb3.trans (hx4.mono (Nat.le_of_lt B3.lt))
  have HR4 := hide (show x4.rangeAt g 0 r.cl from blk_range B4)
  have H4 := hide (And.intro B4 hb4)
  clear B3 hb3 B4 hb4 hx4 H3
  go_wp2_with (refine wpList_load_mid rfl 23 (.tmp 2) rfl g 0 rfl r.cl _ (unhide HR4) Tryz.underlying23 rfl (unhide HS) ?_)
  refine (unhide HE2 _).mono ?_
  rintro e x5 ⟨rfl, hx5⟩
  obtain ⟨B4, hb4⟩ := unhide H4
  have hb5 : Below g w x5 := hb4.trans (hx5.mono (Nat.le_of_lt B4.lt))
  have hg5 : g ≤ x5.heap.size := by rw [← hg]; exact hb5.size
  have H5 := hide (And.intro hb5 hg5)
  have HD1' := hide (unhide HD1 x5 (unhide HEW x5 hb5))
  clear B4 hb4 hb5 hg5 hx5 H4
  go_wp2_with fail
  refine (unhide HD1').mono ?_
  rintro e y1 ⟨rfl, hy1⟩
  obtain ⟨hbp, hgp⟩ := unhide H5
  have hby : Below g w y1 := hbp.trans (hy1.mono hgp)
  have hgy : g ≤ y1.heap.size := Nat.le_trans hgp hy1.size
  obtain ⟨h1, hh1⟩ : ∃ h, y1.heap.size = h := ⟨_, rfl⟩
  obtain ⟨N1, N2, N3, N4⟩ := box_new y1 c g w hby hgy
  rw [hh1] at N1 N2 N3 N4
  obtain ⟨z1, hz1⟩ : ∃ Z, y1.alloc (.cells #[.int .i64 0, .int .i64 0, .int .i64 0, .int .i64 0, .int .i64 0, .int .i64 0, .string ⟨#[]⟩, .string ⟨#[]⟩, .string ⟨#[]⟩, .string ⟨#[]⟩] 23) = Z := ⟨_, rfl⟩
  rw [hz1] at N1 N2 N3 N4
  have HZ1 := hide N1
  have HO1 := hide (Req.one c)
  obtain ⟨q1, hq1⟩ : ∃ Z, z1.setRow h1 c.cs = Z := ⟨_, rfl⟩
  rw [hq1] at N2 N3 N4
  have Q1 := hide (show Below g w q1 ∧ g ≤ q1.heap.size ∧ Blk q1 h1 c.cs 23 from ⟨N4, by rw [← hg]; exact N4.size, N2⟩)
  have HN1 := hide (unhide HD2 q1)
  clear hbp hgp hby hgy N1 N2 N3 N4 hy1 H5
  go_wp2_with (refine wpList_store_row rfl 23 (.tmp 10) (.tmp 32) rfl h1 c.cs rfl rfl 23 #[.int .i64 0, .int .i64 0, .int .i64 0, .int .i64 0, .int .i64 0, .int .i64 0, .string ⟨#[]⟩, .string ⟨#[]⟩, .string ⟨#[]⟩, .string ⟨#[]⟩] (unhide HZ1) (unhide HS) rfl (unhide HO1) ?_)
  (try rw [hq1])
  refine (unhide HN1).mono ?_
  rintro e y2 ⟨rfl, hy2⟩
  obtain ⟨hbp, hgp, P1⟩ := unhide Q1
  have hby : Below g w y2 := hbp.trans (hy2.mono hgp)
  have hgy : g ≤ y2.heap.size := Nat.le_trans hgp hy2.size
  obtain ⟨h2, hh2⟩ : ∃ h, y2.heap.size = h := ⟨_, rfl⟩
  obtain ⟨N1, N2, N3, N4⟩ := box_new y2 c g w hby hgy
  rw [hh2] at N1 N2 N3 N4
  obtain ⟨z2, hz2⟩ : ∃ Z, y2.alloc (.cells #[.int .i64 0, .int .i64 0, .int .i64 0, .int .i64 0, .int .i64 0, .int .i64 0, .string ⟨#[]⟩, .string ⟨#[]⟩, .string ⟨#[]⟩, .string ⟨#[]⟩] 23) = Z := ⟨_, rfl⟩
  rw [hz2] at N1 N2 N3 N4
  have HZ2 := hide N1
  have HO2 := hide (Req.one c)
  obtain ⟨q2, hq2⟩ : ∃ Z, z2.setRow h2 c.cs = Z := ⟨_, rfl⟩
  rw [hq2] at N2 N3 N4
  have Q2 := hide (show Below g w q2 ∧ g ≤ q2.heap.size ∧ Blk q2 h1 c.cs 23 ∧ Blk q2 h2 c.cs 23 from ⟨N4, by rw [← hg]; exact N4.size, (P1.below hy2 P1.lt).below N3 (by rw [← hh2]; exact (P1.below hy2 P1.lt).lt), N2⟩)
  have HN2 := hide (unhide HD3 q2 (unhide HEW q2 N4))
  clear hbp hgp P1 hby hgy N1 N2 N3 N4 hy2 Q1
  go_wp2_with (refine wpList_store_row rfl 23 (.tmp 12) (.tmp 37) rfl h2 c.cs rfl rfl 23 #[.int .i64 0, .int .i64 0, .int .i64 0, .int .i64 0, .int .i64 0, .int .i64 0, .string ⟨#[]⟩, .string ⟨#[]⟩, .string ⟨#[]⟩, .string ⟨#[]⟩] (unhide HZ2) (unhide HS) rfl (unhide HO2) ?_)
  (try rw [hq2])
  refine (unhide HN2).mono ?_
  rintro e y3 ⟨rfl, hy3⟩
  obtain ⟨hbp, hgp, P1, P2⟩ := unhide Q2
  have hby : Below g w y3 := hbp.trans (hy3.mono hgp)
  have hgy : g ≤ y3.heap.size := Nat.le_trans hgp hy3.size
  obtain ⟨h3, hh3⟩ : ∃ h, y3.heap.size = h := ⟨_, rfl⟩
  obtain ⟨N1, N2, N3, N4⟩ := box_new y3 d g w hby hgy
  rw [hh3] at N1 N2 N3 N4
  obtain ⟨z3, hz3⟩ : ∃ Z, y3.alloc (.cells #[.int .i64 0, .int .i64 0, .int .i64 0, .int .i64 0, .int .i64 0, .int .i64 0, .string ⟨#[]⟩, .string ⟨#[]⟩, .string ⟨#[]⟩, .string ⟨#[]⟩] 23) = Z := ⟨_, rfl⟩
  rw [hz3] at N1 N2 N3 N4
  have HZ3 := hide N1
  have HO3 := hide (Req.one d)
  obtain ⟨q3, hq3⟩ : ∃ Z, z3.setRow h3 d.cs = Z := ⟨_, rfl⟩
  rw [hq3] at N2 N3 N4
  have Q3 := hide (show Below g w q3 ∧ g ≤ q3.heap.size ∧ Blk q3 h1 c.cs 23 ∧ Blk q3 h2 c.cs 23 ∧ Blk q3 h3 d.cs 23 from ⟨N4, by rw [← hg]; exact N4.size, (P1.below hy3 P1.lt).below N3 (by rw [← hh3]; exact (P1.below hy3 P1.lt).lt), (P2.below hy3 P2.lt).below N3 (by rw [← hh3]; exact (P2.below hy3 P2.lt).lt), N2⟩)
  have HN3 := hide (unhide HD4 q3)
  clear hbp hgp P1 P2 hby hgy N1 N2 N3 N4 hy3 Q2
  go_wp2_with (refine wpList_store_row rfl 23 (.tmp 14) (.tmp 42) rfl h3 d.cs rfl rfl 23 #[.int .i64 0, .int .i64 0, .int .i64 0, .int .i64 0, .int .i64 0, .int .i64 0, .string ⟨#[]⟩, .string ⟨#[]⟩, .string ⟨#[]⟩, .string ⟨#[]⟩] (unhide HZ3) (unhide HS) rfl (unhide HO3) ?_)
  (try rw [hq3])
  refine (unhide HN3).mono ?_
  rintro e y4 ⟨rfl, hy4⟩
  obtain ⟨hbp, hgp, P1, P2, P3⟩ := unhide Q3
  have hby : Below g w y4 := hbp.trans (hy4.mono hgp)
  have hgy : g ≤ y4.heap.size := Nat.le_trans hgp hy4.size
  obtain ⟨h4, hh4⟩ : ∃ h, y4.heap.size = h := ⟨_, rfl⟩
  obtain ⟨N1, N2, N3, N4⟩ := box_new y4 d g w hby hgy
  rw [hh4] at N1 N2 N3 N4
  obtain ⟨z4, hz4⟩ : ∃ Z, y4.alloc (.cells #[.int .i64 0, .int .i64 0, .int .i64 0, .int .i64 0, .int .i64 0, .int .i64 0, .string ⟨#[]⟩, .string ⟨#[]⟩, .string ⟨#[]⟩, .string ⟨#[]⟩] 23) = Z := ⟨_, rfl⟩
  rw [hz4] at N1 N2 N3 N4
  have HZ4 := hide N1
  have HO4 := hide (Req.one d)
  obtain ⟨q4, hq4⟩ : ∃ Z, z4.setRow h4 d.cs = Z := ⟨_, rfl⟩
  rw [hq4] at N2 N3 N4
  have Q4 := hide (show Below g w q4 ∧ g ≤ q4.heap.size ∧ Blk q4 h1 c.cs 23 ∧ Blk q4 h2 c.cs 23 ∧ Blk q4 h3 d.cs 23 ∧ Blk q4 h4 d.cs 23 from ⟨N4, by rw [← hg]; exact N4.size, (P1.below hy4 P1.lt).below N3 (by rw [← hh4]; exact (P1.below hy4 P1.lt).lt), (P2.below hy4 P2.lt).below N3 (by rw [← hh4]; exact (P2.below hy4 P2.lt).lt), (P3.below hy4 P3.lt).below N3 (by rw [← hh4]; exact (P3.below hy4 P3.lt).lt), N2⟩)
  clear hbp hgp P1 P2 P3 hby hgy N1 N2 N3 N4 hy4 Q3
  obtain ⟨F1, F2, F3, F4, F5, F6⟩ := unhide Q4
  have G1 := hide (show q4.rangeAt h1 0 c.cl from blk_range F3)
  have G2 := hide (show q4.rangeAt h2 0 c.cl from blk_range F4)
  have G3 := hide (show q4.rangeAt h3 0 d.cl from blk_range F5)
  have G4 := hide (show q4.rangeAt h4 0 d.cl from blk_range F6)
  have HF := hide F1
  clear F1 F2 F3 F4 F5 F6 Q4
  go_wp2_with (first | refine wpList_store_row rfl 23 (.tmp 16) (.tmp 47) rfl h4 d.cs rfl rfl 23 #[.int .i64 0, .int .i64 0, .int .i64 0, .int .i64 0, .int .i64 0, .int .i64 0, .string ⟨#[]⟩, .string ⟨#[]⟩, .string ⟨#[]⟩, .string ⟨#[]⟩] (unhide HZ4) (unhide HS) rfl (unhide HO4) ?_ | refine wpList_load_midG (by rfl) 23 (.tmp 10) rfl h1 0 rfl c.cl _ (unhide G1) Tryz.underlying23 rfl (unhide HS) ?_ | refine wpList_load_midG (by rfl) 23 (.tmp 12) rfl h2 0 rfl c.cl _ (unhide G2) Tryz.underlying23 rfl (unhide HS) ?_ | refine wpList_load_midG (by rfl) 23 (.tmp 14) rfl h3 0 rfl d.cl _ (unhide G3) Tryz.underlying23 rfl (unhide HS) ?_ | refine wpList_load_midG (by rfl) 23 (.tmp 16) rfl h4 0 rfl d.cl _ (unhide G4) Tryz.underlying23 rfl (unhide HS) ?_ | refine wpList_eqQG (by rfl) (.tmp 61) (.tmp 62) rfl c c rfl rfl true (eqQ_self c) ?_ | refine wpList_eqQG (by rfl) (.tmp 71) (.tmp 72) rfl d d rfl rfl true (eqQ_self d) ?_)
  go_ret
  exact ⟨rfl, unhide HF⟩
end Go.Proofs.YtobmeiomfiepjaaGreatDoor
namespace Go.Proofs.YtobmeiomfiepjaaGreatDoor
open Go.ChangeShapes Go.WideShapes Go.ChangeAt Go.RowKit
set_option maxRecDepth 100000
theorem list10 {α : Type} {l : List α} (h : l.length = 10) : ∃ c0 c1 c2 c3 c4 c5 c6 c7 c8 c9, l = [c0, c1, c2, c3, c4, c5, c6, c7, c8, c9] := by
  match l, h with
  | [c0, c1, c2, c3, c4, c5, c6, c7, c8, c9], _ => exact ⟨c0, c1, c2, c3, c4, c5, c6, c7, c8, c9, rfl⟩
theorem array10 {α : Type} {cs : Array α} (h : cs.size = 10) : ∃ c0 c1 c2 c3 c4 c5 c6 c7 c8 c9, cs = #[c0, c1, c2, c3, c4, c5, c6, c7, c8, c9] := by
  obtain ⟨l⟩ := cs
  obtain ⟨c0, c1, c2, c3, c4, c5, c6, c7, c8, c9, rfl⟩ := list10 (show l.length = 10 from h)
  exact ⟨c0, c1, c2, c3, c4, c5, c6, c7, c8, c9, rfl⟩
theorem cells3 : Tryz.prog.cellsOf 3 = 1 := by kernel_rfl
theorem cells9 : Tryz.prog.cellsOf 9 = 1 := by kernel_rfl
theorem open_req {H : Type} {enc : TypeId × Value → H} {W : World} {base b0 : Nat} {r : Reach} {spare : Nat → Bool} {held : Bool} {v : Value} {d : DataW H} {p : List MemPlace} (hv : Value.okWide Tryz.prog W r b0 23 v) (h : DataW.Trod enc Tryz.prog W base spare held 23 v d p) : ∃ q : Req, v = .agg q.cl.toArray := by
  obtain ⟨cs, rfl, hsz⟩ := okWide_struct Tryz.underlying23 hv
  obtain ⟨c0, c1, c2, c3, c4, c5, c6, c7, c8, c9, rfl⟩ := array10 (hsz.trans (by kernel_rfl))
  obtain ⟨fuel, hf⟩ := h
  obtain ⟨xs, n, _, hx, hl, hlen, hfs⟩ := DataW.trod_struct Tryz.underlying23 hf
  obtain ⟨y0, y1, y2, y3, y4, y5, y6, y7, y8, y9, rfl⟩ := list10 (show xs.length = 10 from hlen)
  have g0 := hfs 0 _ rfl
  have g1 := hfs 1 _ rfl
  have g2 := hfs 2 _ rfl
  have g3 := hfs 3 _ rfl
  have g4 := hfs 4 _ rfl
  have g5 := hfs 5 _ rfl
  have g6 := hfs 6 _ rfl
  have g7 := hfs 7 _ rfl
  have g8 := hfs 8 _ rfl
  have g9 := hfs 9 _ rfl
  simp [Value.cells, cells3, cells9] at g0 g1 g2 g3 g4 g5 g6 g7 g8 g9
  obtain ⟨k0, e0, _, _⟩ := DataW.trod_int Tryz.underlying3 g0
  obtain ⟨k1, e1, _, _⟩ := DataW.trod_int Tryz.underlying3 g1
  obtain ⟨k2, e2, _, _⟩ := DataW.trod_int Tryz.underlying3 g2
  obtain ⟨k3, e3, _, _⟩ := DataW.trod_int Tryz.underlying3 g3
  obtain ⟨k4, e4, _, _⟩ := DataW.trod_int Tryz.underlying3 g4
  obtain ⟨k5, e5, _, _⟩ := DataW.trod_int Tryz.underlying3 g5
  obtain ⟨k6, e6, _, _⟩ := DataW.trod_string Tryz.underlying9 g6
  obtain ⟨k7, e7, _, _⟩ := DataW.trod_string Tryz.underlying9 g7
  obtain ⟨k8, e8, _, _⟩ := DataW.trod_string Tryz.underlying9 g8
  obtain ⟨k9, e9, _, _⟩ := DataW.trod_string Tryz.underlying9 g9
  simp at e0 e1 e2 e3 e4 e5 e6 e7 e8 e9
  subst e0 e1 e2 e3 e4 e5 e6 e7 e8 e9
  exact ⟨⟨k0, k1, k2, k3, k4, k5, k6, k7, k8, k9⟩, rfl⟩
end Go.Proofs.YtobmeiomfiepjaaGreatDoor
