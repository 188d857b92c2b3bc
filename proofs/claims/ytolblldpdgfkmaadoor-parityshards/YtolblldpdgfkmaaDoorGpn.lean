import Derived.Test.YtolblldpdgfkmaaDoorGpm
namespace Go.Proofs.YtolblldpdgfkmaaDoor
open Go.RowKit
set_option maxRecDepth 100000
theorem pssize_any (w : World) (z d : Nat) (hz : z ≤ 70000) (hd1 : 1 ≤ d) (hd2 : d ≤ 16) : Calls Tryd.prog 35 #[.int .i64 (z : Int), .int .i64 (d : Int)] w fun e w' => e = .returned (.int .i64 ((d * stN z d : Nat) : Int)) ∧ w' = w := by
  have hq := st_quo z d hd1
  have hle := stN_le z d hd1
  have hmul : (stN z d : Int) * (d : Int) = ((d * stN z d : Nat) : Int) := by rw [Int.natCast_mul, Int.mul_comm]
  have hmw : wrap64 ((d * stN z d : Nat) : Int) = ((d * stN z d : Nat) : Int) := wrap64_eq _ (by omega) (by omega)
  generalize d * stN z d = T at *
  generalize stN z d = N at *
  have hd0 : ((d : Int) == 0) = false := by simp; omega
  clear hle
  go_enter Tryd.func35, Tryd.ntmps35
  go_wp2
  go_ret
  exact ⟨by show Ending.returned (.int .i64 (wrap64 (T : Int))) = _; rw [hmw], rfl⟩
/-- the first k of four bytes, and noughts -/
def stK (z T k : Nat) : List Int := (List.range T).map (fun j => if j < k then (hd4 z).getD j 0 else 0)
theorem stK_len (z T k : Nat) : (stK z T k).length = T := by simp [stK]
theorem stK_zero (z T : Nat) : stK z T 0 = List.replicate T 0 := by
  refine List.eq_replicate_iff.2 ⟨stK_len z T 0, fun x hx => ?_⟩
  obtain ⟨j, _, rfl⟩ := List.mem_map.1 hx
  rw [if_neg (by omega)]
theorem stK_set (z T k : Nat) : (stK z T k).set k ((hd4 z).getD k 0) = stK z T (k + 1) := by
  apply List.ext_getElem
  · simp [stK]
  · intro b h1 h2
    simp only [stK, List.getElem_map, List.getElem_range, List.getElem_set]
    by_cases q : k = b
    · rw [if_pos q, if_pos (by omega), q]
    · rw [if_neg q]
      by_cases q2 : b < k
      · rw [if_pos q2, if_pos (by omega)]
      · rw [if_neg q2, if_neg (by omega)]
theorem stK_four (z T : Nat) (hT : 4 ≤ T) : stK z T 4 = hd4 z ++ List.replicate (T - 4) 0 := by
  apply List.ext_getElem
  · simp [stK, hd4]; omega
  · intro b h1 h2
    simp only [stK, List.getElem_map, List.getElem_range, List.getElem_append]
    by_cases q : b < 4
    · rw [if_pos q, dif_pos (by simpa [hd4] using q), List.getD_eq_getElem?_getD, List.getElem?_eq_getElem (by simpa [hd4] using q)]
      rfl
    · rw [if_neg q, dif_neg (by simpa [hd4] using q)]
      simp
theorem stB_nums (s : ByteArray) (d : Nat) (hs : s.size ≤ 70000) : stB s d = strOfNums (hd4 s.size ++ nums s ++ List.replicate (stZ s.size d) 0) := by
  have hz : Bytes (List.replicate (stZ s.size d) 0) := fun j => by
    by_cases h : j < stZ s.size d
    · simp [h]
    · rw [List.getD_eq_getElem?_getD, List.getElem?_eq_none (by simpa using h)]; decide
  rw [← strOfNums_nums (stB s d)]
  unfold stB
  rw [nums_app, nums_app, nums_strOfNums _ (hd4_bytes s.size hs), nums_strOfNums _ hz]
set_option maxHeartbeats 4000000 in
theorem pstream_any (w : World) (s : ByteArray) (d : Nat) (hd1 : 1 ≤ d) (hd2 : d ≤ 16) (hs : s.size ≤ 70000) : Calls Tryd.prog 31 #[.string s, .int .i64 (d : Int)] w fun e w' => e = .returned (.string (stB s d)) ∧ Below w.heap.size w w' := by
  have HS := hide (fun W => pssize_any W s.size d hs hd1 hd2)
  have hle := stN_le s.size d hd1
  have HB := hide (stB_nums s d hs)
  have HZ := hide (show stZ s.size d = d * stN s.size d - (4 + s.size) from rfl)
  obtain ⟨T, hT⟩ : ∃ q, d * stN s.size d = q := ⟨_, rfl⟩
  rw [hT] at HS hle HZ
  obtain ⟨zz, hzz⟩ : ∃ q, stZ s.size d = q := ⟨_, rfl⟩
  rw [hzz] at HB HZ
  have hmk := run_make_u8 T T (Nat.le_refl _) (by omega) w
  have H0 := hide (show KeyInv w (stK s.size T 0) (w.alloc (.cells ((List.replicate T (0 : Int)).map (Value.int .u8)).toArray 5)) from ⟨by rw [stK_zero]; exact arr_new w .u8 _ 5 _ rfl, (Below.refl _ _).alloc (Nat.le_refl _) _, by simp⟩)
  generalize hx : w.alloc (.cells ((List.replicate T (0 : Int)).map (Value.int .u8)).toArray 5) = x2 at *
  have hT4 : 4 + s.size ≤ T := hle.1
  have hT5 : T ≤ 80000 := by omega
  clear hx hT hzz hle
  have hT4' : (4 : Int) ≤ (T : Int) := by omega
  go_enter Tryd.func31, Tryd.ntmps31
  go_wp2_with fail
  refine (unhide HS _).mono ?_
  rintro e w' ⟨rfl, hw'⟩
  subst w'
  go_wp2
  go_loopw [12] (fun i wr => ∃ k : Nat, k ≤ 4 ∧ i = .int .i64 (k : Int) ∧ Hid (KeyInv w (stK s.size T k) wr)) (fun i _ => 4 - (intOf i).toNat)
  case atStart => exact ⟨0, by omega, rfl, H0⟩
  case round =>
  obtain ⟨k, hk, rfl, HK⟩ := hrel
  obtain ⟨wk, rfl⟩ : ∃ q, q = wr := ⟨_, rfl⟩
  clear H0 hmk HS
  by_cases hk4 : k < 4
  case pos =>
    have hk4' : (k : Int) < 4 := by omega
    have hkT : (k : Int) < (T : Int) := by omega
    have c1 := (unhide HK).1.get0 k (by rw [stK_len]; omega)
    have f1 := (unhide HK).1.free0 k (by rw [stK_len]; omega)
    have HP := hide ((unhide HK).put k (by rw [stK_len]; omega) ((hd4 s.size).getD k 0) (stK_set s.size T k))
    obtain ⟨z0, hz0⟩ : ∃ q, (stK s.size T k).getD k 0 = q := ⟨_, rfl⟩
    rw [hz0] at c1
    clear hz0 HK
    rcases (by omega : k = 0 ∨ k = 1 ∨ k = 2 ∨ k = 3) with rfl | rfl | rfl | rfl
    all_goals
      simp only [Int.cast_ofNat_Int] at HP c1 f1 hk4' hkT ⊢
      go_wp2
      go_roundw
      case rel => first | exact ⟨1, by omega, by first | rfl | go_num, HP⟩ | exact ⟨2, by omega, by first | rfl | go_num, HP⟩ | exact ⟨3, by omega, by first | rfl | go_num, HP⟩ | exact ⟨4, by omega, by first | rfl | go_num, HP⟩
      case measure => simp [intOf]
  obtain rfl : k = 4 := by omega
  have hk4' : ¬ ((4 : Nat) : Int) < 4 := by omega
  have hb4 := (unhide HK).2.2
  have HTH := hide (show wk.there w.heap.size 4 s.size from fun j hj => by
    have h9 := (unhide HK).1.there (4 + j) (by rw [stK_len]; omega)
    rw [Nat.zero_add] at h9
    exact h9)
  have HM := hide ((unhide HK).1.mid 4 (nums s) (by rw [stK_len, nums_len]; omega))
  have HFL := hide (show (stK s.size T 4).take 4 ++ nums s ++ (stK s.size T 4).drop (4 + (nums s).length) = hd4 s.size ++ nums s ++ List.replicate zz 0 from by
    rw [stK_four s.size T (by omega), nums_len, List.take_left' (by rfl), ← List.drop_drop, List.drop_left' (by rfl), List.drop_replicate, unhide HZ]
    congr 2
    omega)
  rw [unhide HFL] at HM
  obtain ⟨LL, hLL⟩ : ∃ q, hd4 s.size ++ nums s ++ List.replicate zz 0 = q := ⟨_, rfl⟩
  have hLl : LL.length = T := by
    rw [← hLL, List.length_append, List.length_append, nums_len, List.length_replicate]
    show 4 + s.size + zz = T
    have := unhide HZ
    omega
  rw [hLL] at HM HB
  have HLL := hide hLl
  have HBK := hide (unhide HK).2.1
  clear hLL hLl HFL HK
  have HMIN := hide (show s.size = min s.size (T - 4) by omega)
  by_cases hT9 : T = 4
  · subst hT9
    have hs0 : s.size = 0 := by omega
    have hn0 : nums s = [] := List.eq_nil_of_length_eq_zero (by rw [nums_len]; exact hs0)
    have HMW := hide (show ∀ W, W = wk.setCells w.heap.size 0 (((nums s).take s.size).map (Value.int .u8)) → Arr W w.heap.size 0 .u8 LL ∧ Below w.heap.size w W from fun W hW => by
      have h9 := unhide HM
      rw [hn0, List.take_nil] at hW
      rw [hn0] at h9
      subst hW
      exact ⟨h9, unhide HBK⟩)
    have HTH := hide (show wk.there w.heap.size 0 s.size from fun j hj => by omega)
    have HMIN := hide (show s.size = min s.size 0 by omega)
    clear hn0 hs0 HM
    go_wp2_with (refine wpList_copy_str rfl (.tmp 27) (.tmp 28) rfl w.heap.size 0 0 0 s rfl rfl s.size (unhide HMIN) (unhide HTH) ?_; intro W1 hW1; have HA := hide (unhide HMW W1 hW1); clear hW1; have hcv := run_convert_bytes_arg (P := Tryd.prog) W1 51 5 Tryd.underlying51 Tryd.underlying5 w.heap.size 0 4 4 LL (unhide HLL) (fun i hi => (unhide HA).1.get i (by rw [unhide HLL]; exact hi)) 9 Tryd.underlying9)
    go_ret
    exact ⟨by rw [unhide HB]; rfl, (unhide HA).2⟩
  · have hT8 : ((T : Int) - 4 == 0) = false := by simp; omega
    have HMW := hide (show ∀ W, W = wk.setCells w.heap.size 4 (((nums s).take s.size).map (Value.int .u8)) → Arr W w.heap.size 0 .u8 LL ∧ Below w.heap.size w W from fun W hW => by
      rw [List.take_of_length_le (by rw [nums_len]; omega)] at hW
      subst hW
      exact ⟨unhide HM, below_setCells (Nat.le_refl _) _ _ (unhide HBK)⟩)
    clear HM
    go_wp2_with (refine wpList_copy_str rfl (.tmp 27) (.tmp 28) rfl w.heap.size 4 (T - 4) (T - 4) s rfl rfl s.size (unhide HMIN) (unhide HTH) ?_; intro W1 hW1; have HA := hide (unhide HMW W1 hW1); clear hW1; have hcv := run_convert_bytes_arg (P := Tryd.prog) W1 51 5 Tryd.underlying51 Tryd.underlying5 w.heap.size 0 T T LL (unhide HLL) (fun i hi => (unhide HA).1.get i (by rw [unhide HLL]; exact hi)) 9 Tryd.underlying9)
    go_ret
    exact ⟨by rw [unhide HB]; rfl, (unhide HA).2⟩
end Go.Proofs.YtolblldpdgfkmaaDoor
