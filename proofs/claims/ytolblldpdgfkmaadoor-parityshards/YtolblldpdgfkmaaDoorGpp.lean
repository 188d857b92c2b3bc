import Derived.Test.YtolblldpdgfkmaaDoorGpo
namespace Go.Proofs.YtolblldpdgfkmaaDoor
open Go.RowKit
set_option maxRecDepth 100000
theorem rK_unit (n r : Nat) (y : Nat → G) (hr : r < n) : rK n y (wt n r) = y r := by
  unfold rK
  rw [show sm (fun j => wt n r j * y j) (List.range n) = sm (fun j => if j = r then y r else g0) (List.range n) from sm_congr (fun j _ => by
    unfold wt
    rw [if_pos hr]
    by_cases q : r = j
    · rw [if_pos q, if_pos q.symm, gone_mul, q]
    · rw [if_neg q, if_neg (fun e => q e.symm), gzero_mul]), sm_one n r hr]
theorem stN_pos (z d : Nat) (hd : 1 ≤ d) : 1 ≤ stN z d := by
  have h := (stN_le z d hd).1
  cases hN : stN z d with
  | zero => rw [hN, Nat.mul_zero] at h; omega
  | succ k => omega
/-- the shards of data, and as many empty ones -/
def spE (s : ByteArray) (d m : Nat) : List ByteArray := spD s d ++ List.replicate m ⟨#[]⟩
theorem spE_len (s : ByteArray) (d m : Nat) : (spE s d m).length = d + m := by simp [spE, spD_len]
theorem spE_lt (s : ByteArray) (d m j : Nat) (h : j < d) : (spE s d m).getD j ByteArray.empty = (spD s d).getD j ByteArray.empty := by
  unfold spE
  rw [List.getD_eq_getElem?_getD, List.getElem?_append_left (by rw [spD_len]; exact h), ← List.getD_eq_getElem?_getD]
theorem spE_ge (s : ByteArray) (d m j : Nat) (h : ¬ j < d) : (spE s d m).getD j ByteArray.empty = ⟨#[]⟩ := by
  unfold spE
  rw [List.getD_eq_getElem?_getD, List.getElem?_append_right (by rw [spD_len]; omega), List.getElem?_replicate]
  by_cases q : j - (spD s d).length < m
  · rw [if_pos q]; rfl
  · rw [if_neg q]; rfl
theorem spE_sz (s : ByteArray) (d m j : Nat) (hd : 1 ≤ d) : sz (spE s d m) j = if j < d then stN s.size d else 0 := by
  unfold sz
  by_cases h : j < d
  · rw [if_pos h, spE_lt s d m j h]; exact spD_size s d hd j h
  · rw [if_neg h, spE_ge s d m j h]; rfl
theorem spE_thr (s : ByteArray) (d m : Nat) (hd : 1 ≤ d) : thr (spE s d m) (d + m) = List.range d := by
  unfold thr
  have hp := stN_pos s.size d hd
  induction m with
  | zero =>
    refine List.filter_eq_self.2 (fun j hj => ?_)
    have hj2 := List.mem_range.1 hj
    rw [spE_sz s d 0 j hd, if_pos (by omega)]
    exact decide_eq_true (by omega)
  | succ k ih =>
    rw [show d + (k + 1) = d + k + 1 by omega, List.range_succ, List.filter_append]
    have e : (List.range (d + k)).filter (fun j => decide (sz (spE s d (k + 1)) j ≠ 0)) = (List.range (d + k)).filter (fun j => decide (sz (spE s d k) j ≠ 0)) := List.filter_congr (fun j _ => by rw [spE_sz s d _ j hd, spE_sz s d _ j hd])
    rw [e, ih, List.filter_cons_of_neg (by rw [spE_sz s d _ _ hd, if_neg (by omega)]; decide)]
    simp
theorem spE_frm (s : ByteArray) (d m N : Nat) (hd1 : 1 ≤ d) (hs : s.size ≤ 60000) : frm (spE s d m) N := by
  refine ⟨stN s.size d, ?_, fun j _ hj => ?_⟩
  · have := stN_le s.size d hd1
    have h2 := Nat.mul_le_mul_right (stN s.size d) hd1
    have h3 : (4 + s.size + d - 1) / d ≤ 60004 := by
      refine Nat.le_of_lt_succ ((Nat.div_lt_iff_lt_mul (by omega)).2 ?_)
      have : 60005 * 1 ≤ 60005 * d := Nat.mul_le_mul_left _ hd1
      have h4 : 60005 * d = 60004 * d + d := by omega
      have h5 : 60004 * 1 ≤ 60004 * d := Nat.mul_le_mul_left _ hd1
      show 4 + s.size + d - 1 < (60004 + 1) * d
      omega
    exact h3
  · rw [spE_sz s d m j hd1] at hj ⊢
    by_cases q : j < d
    · rw [if_pos q]
    · rw [if_neg q] at hj; exact absurd rfl hj
theorem fil_spl (s : ByteArray) (d m len : Nat) (y : Nat → Nat → G) (hd1 : 1 ≤ d) (hf : Fits (spE s d m) (d + m) d len y) : filL d len y (spE s d m) (d + m) = (spL s d m).map Value.string := by
  obtain ⟨h1, h2⟩ := hf
  rw [spE_thr s d m hd1] at h1 h2
  have hg : ∀ r, r < d → (List.range d).getD r 0 = r := fun r hr => by simp [hr]
  have hl : len = stN s.size d := by
    have := h1 0 (by omega)
    rw [hg 0 (by omega), spE_sz s d m 0 hd1, if_pos (by omega)] at this
    exact this.symm
  have hy : ∀ q, q < len → ∀ r, r < d → y q r = gB ((spD s d).getD r ByteArray.empty) q := fun q hq r hr => by
    have := h2 q hq r hr
    rw [hg r hr, rK_unit d r _ hr, spE_lt s d m r hr] at this
    exact this
  have hp := stN_pos s.size d hd1
  have one : ∀ j, j < d + m → filT d len y (spE s d m) j = (spL s d m).getD j ByteArray.empty := fun j hj => by
    unfold filT
    rw [spE_sz s d m j hd1]
    unfold spL
    by_cases q : j < d
    · rw [if_pos q, if_neg (by omega), spE_lt s d m j q, List.getD_eq_getElem?_getD (l := spD s d ++ _), List.getElem?_append_left (by rw [spD_len]; exact q), ← List.getD_eq_getElem?_getD]
    · rw [if_neg q, if_pos rfl, List.getD_eq_getElem?_getD, List.getElem?_append_right (by rw [spD_len]; omega), spD_len, List.getElem?_map, List.getElem?_range (by omega)]
      show sayT d len j y = shT d (d + (j - d)) (stN s.size d) (spD s d)
      unfold sayT shT
      rw [hl, show d + (j - d) = j by omega]
      congr 1
      refine gL_congr (fun k hk => ?_)
      unfold shF rK
      exact sm_congr (fun i hi => by rw [hy k (by omega) i (List.mem_range.1 hi)])
  have hlen : (spL s d m).length = d + m := by simp [spL, spD_len]
  apply List.ext_getElem
  · simp [filL, hlen]
  · intro j b1 b2
    have hj : j < d + m := by simpa [filL] using b1
    simp only [filL, List.getElem_map, List.getElem_range]
    rw [one j hj, List.getD_eq_getElem?_getD, List.getElem?_eq_getElem (by omega)]
    rfl
set_option maxHeartbeats 4000000 in
theorem psplit_any (w : World) (s : ByteArray) (n m : Int) : Calls Tryd.prog 17 #[.string s, .int .i64 n, .int .i64 m] w (SplQ w s n m) := by
  have HC := hide (fun W => pmay_any n m W)
  cases hc : cntB n m with
  | false =>
    rw [hc] at HC
    have HE := hide (show SplQ w s n m (.returned (.tuple #[.slice none 0 0, .int .i64 180])) w from ⟨Below.refl _ _, fun _ => rfl, fun q => absurd q (by rw [hc]; decide), fun q => absurd q (by rw [hc]; decide)⟩)
    go_enter Tryd.func17, Tryd.ntmps17
    go_wp2_with fail
    refine (unhide HC _).mono ?_
    rintro e w' ⟨rfl, hw'⟩
    subst w'
    go_wp2
    go_ret2
    exact unhide HE
  | true =>
  rw [hc] at HC
  by_cases hl : 60000 < s.size
  · have hl' : (60000 : Int) < (s.size : Int) := by omega
    have HE := hide (show SplQ w s n m (.returned (.tuple #[.slice none 0 0, .int .i64 183])) w from ⟨Below.refl _ _, fun q => absurd q (by rw [hc]; decide), fun _ _ => rfl, fun _ q => absurd q (by omega)⟩)
    go_enter Tryd.func17, Tryd.ntmps17
    go_wp2_with fail
    refine (unhide HC _).mono ?_
    rintro e w' ⟨rfl, hw'⟩
    subst w'
    go_wp2
    go_ret2
    exact unhide HE
  have hl' : ¬ (60000 : Int) < (s.size : Int) := by omega
  obtain ⟨hn1, hn2, hm1, hm2⟩ := of_decide_eq_true hc
  obtain ⟨d, rfl⟩ := Int.eq_ofNat_of_zero_le (show 0 ≤ n by omega)
  obtain ⟨r, rfl⟩ := Int.eq_ofNat_of_zero_le hm1
  have HQ := hide (show ∀ v w', w'.ownsRow w.heap.size 9 1 v (d + r) ((spL s d r).map Value.string) → Below w.heap.size w w' → SplQ w s (d : Int) (r : Int) (.returned (.tuple #[v, .int .i64 0])) w' from fun v w' h1 h2 => ⟨h2, fun q => absurd q (by rw [hc]; decide), fun _ q => absurd q hl, fun _ _ => ⟨v, rfl, h1⟩⟩)
  have hd1 : 1 ≤ d := by omega
  have hd2 : d ≤ 16 := by omega
  have hr : r ≤ 8 := by omega
  have hsn : s.size ≤ 60000 := by omega
  have hlnN : stN s.size d ≤ 60020 := by
    obtain ⟨ln, h1, h2⟩ := spE_frm s d 0 1 hd1 hsn
    have := h2 0 (by omega) (by rw [spE_sz s d 0 0 hd1, if_pos (by omega)]; have := stN_pos s.size d hd1; omega)
    rw [spE_sz s d 0 0 hd1, if_pos (by omega)] at this
    omega
  have HS := hide (fun W => pstream_any W s d hd1 hd2 (by omega))
  have HCU := hide (fun W => pcut_any W (stB s d) d (stN s.size d) hd1 hd2 (stB_size s d hd1) hlnN)
  clear hn1 hn2 hm1 hm2 hc
  obtain ⟨b, hb⟩ : ∃ q, stB s d = q := ⟨_, rfl⟩
  have HSB := hide (show (List.range d).map (fun i => b.extract (i * stN s.size d) (i * stN s.size d + stN s.size d)) = spD s d from by rw [← hb]; rfl)
  rw [hb] at HS HCU
  clear hb
  go_enter Tryd.func17, Tryd.ntmps17
  go_wp2_with fail
  refine (unhide HC _).mono ?_
  rintro e w' ⟨rfl, hw'⟩
  subst w'
  go_wp2_with fail
  refine (unhide HS _).mono ?_
  rintro e w1 ⟨rfl, hw1⟩
  go_wp2_with fail
  refine (unhide HCU _).mono ?_
  rintro e w2 ⟨v2, rfl, ho2, hw2⟩
  rw [unhide HSB] at ho2
  have HO := hide ho2
  have HB2 := hide (show Below w.heap.size w w2 from hw1.trans (hw2.mono hw1.size))
  have hs12 : w.heap.size ≤ w1.heap.size := hw1.size
  have hs22 := hw2.size
  obtain ⟨p2, c2, rfl, _⟩ := gr_form ho2
  clear HC HS HCU ho2 hw1 hw2
  go_wp2_with (refine wpList_app_zero _ rfl (.tmp 20) (.tmp 21) rfl w1.heap.size _ d r _ rfl rfl (unhide HO) hd1 (by omega) (by omega) hs22 ?_)
  intro v3 w3 ho3 hg3
  have HE3 := hide (show w3.ownsRow w1.heap.size 9 1 v3 (d + r) ((spE s d r).map Value.string) from by
    unfold spE
    rw [List.map_append, List.map_replicate]
    exact ho3)
  have HB3 := hide (show Below w.heap.size w w3 from (unhide HB2).grown hg3 (by omega) (fun q hq => by have := ((unhide HO).lt q hq).1; omega))
  obtain ⟨p3, c3, rfl, _⟩ := gr_form ho3
  have HRB := hide (preb_any w3 (spE s d r) (d + r) d r w3.heap.size c3 p3 (spE_len s d r) rfl hd1 hd2 hr (own_gtx (spE_len s d r) (unhide HE3)) (Nat.le_refl _) (fun j => by
    rw [spE_sz s d r j hd1]
    by_cases q : j < d
    · rw [if_pos q]; omega
    · rw [if_neg q]; omega))
  clear ho3 hg3 HO
  go_wp2_with fail
  refine (unhide HRB).mono ?_
  rintro e w4 ⟨hb4, _, _, h4⟩
  obtain ⟨len, y, p4, c4, _, hfit, rfl, ho4⟩ := h4 (spE_frm s d r _ hd1 hsn) (by rw [spE_thr s d r hd1, List.length_range]; exact Nat.le_refl _)
  rw [fil_spl s d r len y hd1 hfit] at ho4
  have hs3 := (unhide HB3).size
  have HF := hide (unhide HQ _ _ (gr_mono ho4 hs3) ((unhide HB3).trans (hb4.mono hs3)))
  clear hb4 h4 hfit ho4
  go_wp2
  go_ret2
  exact unhide HF
end Go.Proofs.YtolblldpdgfkmaaDoor
