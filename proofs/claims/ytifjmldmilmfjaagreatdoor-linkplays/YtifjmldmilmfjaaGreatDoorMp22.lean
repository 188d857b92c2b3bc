import Derived.Test.YtifjmldmilmfjaaGreatDoorMp20
import Derived.Test.YtifjmldmilmfjaaGreatDoorMp21
import Derived.Deep.AppendLies
namespace Go.Proofs.YtifjmldmilmfjaaGreatDoor
open Go.RowKit
set_option maxRecDepth 100000
/-- a text's keys, by the end's nonces -/
theorem rkeys_any (g : Nat) (e : LE) (v : Value) (ho : e.o.size ≤ 1000) (i : Nat) (hi9 : i < 256) (w : World) (hE : DEnd w g e v) : Calls Tryz.prog 61 #[.pointer (some ⟨g, 0, none⟩), .int .i64 (i : Int)] w fun ev w' => ev = .returned (.tuple #[.string (hiB e.k e.a e.b i), .string (seB e.k e.a e.b i)]) ∧ Below w.heap.size w w' := by
  obtain ⟨hB, _, hk, hn, _, hi, _⟩ := hE
  by_cases h0 : e.i = 0
  · have q := rkeys0 g e.k e.n e.o i hk hn ho hi9 w (hB.cell 0) (by rw [hB.cell 1, show (0 : Int) = (e.i : Int) from by omega]; rfl) (hB.cell 2) (hB.cell 3) hB.lt
    rw [LE.a, LE.b, if_pos h0, if_pos h0]
    exact q
  · have q := rkeys1 g e.k e.n e.o i hk hn ho hi9 w (hB.cell 0) (by rw [hB.cell 1, show (1 : Int) = (e.i : Int) from by omega]; rfl) (hB.cell 2) (hB.cell 3) hB.lt
    rw [LE.a, LE.b, if_neg h0, if_neg h0]
    exact q
theorem ediv_I64 (v : Int) (h : I64 v) (k : Nat) : I64 (v / 2 ^ (8 * k)) := by
  obtain ⟨h1, h2⟩ := h
  have hp0 : (0 : Int) < 2 ^ (8 * k) := Int.pow_pos (by omega)
  obtain ⟨p, hpe⟩ : ∃ p : Int, 2 ^ (8 * k) = p := ⟨_, rfl⟩
  rw [hpe] at hp0 ⊢
  have hp : 1 ≤ p := by omega
  by_cases h0 : 0 ≤ v
  · have a1 := Int.ediv_nonneg h0 (show 0 ≤ p by omega)
    have a2 := Int.ediv_le_self p h0
    exact ⟨by omega, by omega⟩
  · have a1 : v ≤ v / p := by
      rw [Int.le_ediv_iff_mul_le (by omega)]
      have := Int.mul_le_mul_of_nonpos_left (a := v) (b := p) (c := 1) (by omega) hp
      rw [Int.mul_one] at this
      exact this
    have a2 : v / p < 0 := Int.ediv_neg_of_neg_of_pos (by omega) (by omega)
    exact ⟨by omega, by omega⟩
set_option maxHeartbeats 1000000 in
theorem reight_any (v : Int) (hv : I64 v) (w : World) : Calls Tryz.prog 64 #[.int .i64 v] w fun e w' => e = .returned (.string (nuB v)) ∧ Below w.heap.size w w' := by
  have hmk := fun W => run_make_u8 8 8 (by omega) (by omega) W
  simp only [Int.cast_ofNat_Int] at hmk
  unfold nuB
  go_enter Tryz.func64, Tryz.ntmps64
  go_wp2
  clear hmk
  go_loopw [0, 4] (fun u i wr => ∃ (k m : Nat), m + k = 8 ∧ u = .int .i64 (v / 2 ^ (8 * k)) ∧ i = .int .i64 ((m : Int) - 1) ∧ KeyInv w (List.replicate m 0 ++ (numB v 8).drop m) wr) (fun _ i _ => ((intOf i) + 1).toNat)
  case atStart =>
    have h : KeyInv w (List.replicate 8 0) (w.alloc (Obj.cells (Array.replicate 8 (Value.int .u8 0)) 5)) := ⟨arr_new w .u8 (List.replicate 8 0) 5 _ (by simp; rfl), (Below.refl _ _).alloc (Nat.le_refl _) _, by simp⟩
    refine ⟨0, 8, by omega, by simp, by go_num, ?_⟩
    rw [List.drop_of_length_le (by rw [numB_len]; exact Nat.le_refl _), List.append_nil]
    exact h
  case round =>
    obtain ⟨k, m, hmk, rfl, rfl, hI⟩ := hrel
    cases m with
    | zero =>
      rw [List.replicate_zero, List.nil_append, List.drop_zero] at hI
      have hcv := run_convert_bytes_arg (P := Tryz.prog) wr 86 5 Tryz.underlying86 Tryz.underlying5 w.heap.size 0 8 8 (numB v 8) (numB_len v 8) (fun i hi => hI.1.get i (by rw [numB_len]; omega)) 9 Tryz.underlying9
      have HB := hide hI.2.1
      clear hI
      go_wp2
      go_ret
      exact ⟨rfl, unhide HB⟩
    | succ m =>
      obtain ⟨hv0, hv1⟩ := ediv_I64 v hv k
      have hlen : (List.replicate (m + 1) (0 : Int) ++ (numB v 8).drop (m + 1)).length = 8 := by simp [numB_len]; omega
      have c1 := hI.1.get0 m (by omega)
      have f1 := hI.1.free0 m (by omega)
      have HN := hide (num_step v 8 m k (by omega) _ rfl)
      have HS := hide (shr_step v k)
      have HI := hide hI
      have hm : m < 8 := by omega
      generalize (List.replicate (m + 1) (0 : Int) ++ (numB v 8).drop (m + 1)).getD m 0 = y at *
      generalize v / 2 ^ (8 * k) = u at *
      have hmi : ((m + 1 : Nat) : Int) - 1 = (m : Int) := by omega
      rw [hmi]
      clear hI hmi
      go_wp2
      go_roundw
      case rel => exact ⟨k + 1, m, by omega, by rw [← unhide HS], by go_num, (unhide HI).put m (by omega) _ (unhide HN)⟩
      case measure => simp [intOf]
theorem xorB_le (key s : ByteArray) (f : Int) : (xorB key f s).size ≤ 65536 := by
  unfold xorB
  split
  · rename_i h
    have := (errP_zero.1 h)
    rw [← nums_len, nums_strOfNums _ (laidP_bytes _ _), laidP_len, nums_len]
    omega
  · exact Nat.zero_le _
set_option maxHeartbeats 1000000 in
theorem rframe_any (g : Nat) (e : LE) (v : Value) (ho : e.o.size ≤ 1000) (i : Nat) (hi9 : i < 256) (n : Int) (hn : I64 n) (m : ByteArray) (hm : m.size ≤ 140737488355328) (w : World) (hE : DEnd w g e v) : Calls Tryz.prog 40 #[.pointer (some ⟨g, 0, none⟩), .int .i64 (i : Int), .int .i64 n, .string m] w fun ev w' => ev = .returned (.string (frB (hiB e.k e.a e.b i) (seB e.k e.a e.b i) n m)) ∧ Below w.heap.size w w' := by
  have HKY := hide (rkeys_any g e v ho i hi9 w hE)
  have z1 := hiB_size e.k e.a e.b i
  have z2 := seB_size e.k e.a e.b i
  generalize hiB e.k e.a e.b i = hi at *
  generalize seB e.k e.a e.b i = se at *
  have HE8 := hide (fun W => reight_any n hn W)
  have z3 := nuB_size n
  have HM := hide (fun W => rmac_any hi (nuB n) (by omega) (by omega) W)
  rw [show strOfNums (macP (nums hi) (nums (nuB n))) = mcB hi (nuB n) from rfl] at HM
  have HX := hide (fun W => rxor_any (mcB hi (nuB n)) 0 m hm W)
  have z4 := xorB_le (mcB hi (nuB n)) m 0
  have HT := hide (fun W => rtagged_any se (lmB ++ nuB n ++ hdB hi n m) (by omega) (by rw [ByteArray.size_append, ByteArray.size_append, z3]; show 2 + 8 + (xorB (mcB hi (nuB n)) 0 m).size ≤ _; omega) W)
  rw [show tgB se (lmB ++ nuB n ++ hdB hi n m) = frB hi se n m from rfl, show hdB hi n m = xorB (mcB hi (nuB n)) 0 m from rfl] at HT
  have e0 : lmB ++ nuB n ++ xorB (mcB hi (nuB n)) 0 m = (⟨#[76, 77]⟩ : ByteArray) ++ nuB n ++ xorB (mcB hi (nuB n)) 0 m := rfl
  rw [e0] at HT
  generalize frB hi se n m = F at *
  generalize xorB (mcB hi (nuB n)) 0 m = X at *
  generalize mcB hi (nuB n) = mc at *
  generalize nuB n = nu at *
  have e1 : ((⟨#[76, 77]⟩ : ByteArray) ++ nu).size = 10 := by rw [ByteArray.size_append, z3]; rfl
  have e2 : (⟨#[76, 77]⟩ : ByteArray).size = 2 := rfl
  clear e0 z1 z2 hE ho
  go_enter Tryz.func40, Tryz.ntmps40
  go_wp2_with fail
  refine (unhide HKY).mono ?_
  rintro ev y1 ⟨rfl, hb⟩
  have HB1 := hide (show Below w.heap.size w y1 from hb)
  clear hb HKY
  go_wp2_with fail
  refine (unhide HE8 _).mono ?_
  rintro ev y2 ⟨rfl, hb⟩
  have HB2 := hide (show Below w.heap.size w y2 from (unhide HB1).trans (hb.mono (unhide HB1).size))
  clear hb HB1
  go_wp2_with fail
  refine (unhide HM _).mono ?_
  rintro ev y3 ⟨rfl, hb⟩
  have HB3 := hide (show Below w.heap.size w y3 from (unhide HB2).trans (hb.mono (unhide HB2).size))
  clear hb HB2
  go_wp2_with fail
  refine (unhide HX _).mono ?_
  rintro ev y4 ⟨rfl, hb⟩
  have HB4 := hide (show Below w.heap.size w y4 from (unhide HB3).trans (hb.mono (unhide HB3).size))
  clear hb HB3
  go_wp2_with fail
  refine (unhide HE8 _).mono ?_
  rintro ev y5 ⟨rfl, hb⟩
  have HB5 := hide (show Below w.heap.size w y5 from (unhide HB4).trans (hb.mono (unhide HB4).size))
  clear hb HB4
  go_wp2_with fail
  refine (unhide HT _).mono ?_
  rintro ev y6 ⟨rfl, hb⟩
  have HB6 := hide (show Below w.heap.size w y6 from (unhide HB5).trans (hb.mono (unhide HB5).size))
  clear hb HB5
  go_wp2
  go_ret
  exact ⟨rfl, unhide HB6⟩
set_option maxHeartbeats 2000000 in
theorem rsend_any (g : Nat) (e : LE) (v : Value) (m : ByteArray) (hm : m.size ≤ 140737488355000) (w : World) (hE : DEnd w g e v) : Calls Tryz.prog 38 #[.pointer (some ⟨g, 0, none⟩), .string m] w fun ev w' => ev = .returned (.tuple #[.string (e.snF m), .int .i64 (e.snE m)]) ∧ DEnd w' g (e.snN m) v ∧ Only (fun k => k = g) w w' := by
  obtain ⟨h, hh⟩ : ∃ h, w.heap.size = h := ⟨_, rfl⟩
  have hg := hE.lt
  have HRD := hide (rlready_any g e v w hE)
  have HE := hide hE
  have HB0 := hide (show Below h w w from Below.refl _ _)
  have HST := hide (show ∀ y, Below h w y → DEnd y g e v from fun y hy => hE.below hy (by omega))
  have HC := hide (show ∀ y, Below h w y → y.cell? ⟨g, 1, none⟩ = some (.int .i64 (e.i : Int)) ∧ y.cell? ⟨g, 5, none⟩ = some (.int .i64 (e.s : Int)) from fun y hy => ⟨(unhide HST y hy).1.cell 1, (unhide HST y hy).1.cell 5⟩)
  have hsb := hE.2.2.s
  have hib := hE.2.2.i
  clear hE
  by_cases hr : e.r = true
  · obtain ⟨ho, hc⟩ := (unhide HE).2.2.o hr
    have HFR0 := hide (fun y (hy : Below h w y) => rframe_any g e v (by omega) e.i (by omega) (e.s : Int) ⟨by omega, by omega⟩ m (by omega) y (unhide HST y hy))
    have h1 : e.h e.i = hiB e.k e.a e.b e.i := by rw [LE.h, if_pos hr]
    have h2 : e.z e.i = seB e.k e.a e.b e.i := by rw [LE.z, if_pos hr]
    rw [← h1, ← h2] at HFR0
    obtain ⟨F, hF⟩ : ∃ z, frB (e.h e.i) (e.z e.i) (e.s : Int) m = z := ⟨_, rfl⟩
    rw [hF] at HFR0
    have HFR := HFR0
    rw [hr] at HRD
    obtain ⟨ei, hei⟩ : ∃ z, e.i = z := ⟨_, rfl⟩
    obtain ⟨es, hes⟩ : ∃ z, e.s = z := ⟨_, rfl⟩
    have HEI := hide hei
    have HES := hide hes
    rw [hei] at HC HFR
    rw [hes] at HC HFR
    have hsb' : es ≤ 4611686018427387904 := by rw [← hes]; exact hsb
    by_cases hs : 4611686018427387904 ≤ e.s
    · have s1 : e.snE m = 211 := by rw [LE.snE, if_pos (.inr hs)]
      have s2 : e.snF m = ⟨#[]⟩ := by rw [LE.snF, s1, if_neg (by decide)]
      have s3 : e.snN m = e := by rw [LE.snN, s1, if_neg (by decide)]
      rw [s1, s2, s3]
      have d1 : decide ((es : Int) ≥ 4611686018427387904) = true := decide_eq_true (by omega)
      clear h1 h2 hF hei hes hs s1 s2 s3 hsb HFR HFR0
      go_enter Tryz.func38, Tryz.ntmps38
      go_wp2_with fail
      refine (unhide HRD).mono ?_
      rintro ev y1 ⟨rfl, hb⟩
      have HB1 := hide (show Below h w y1 from hb.mono (by omega))
      clear hb HRD
      obtain ⟨q1, q2⟩ := unhide HC y1 (unhide HB1)
      go_wp2
      go_ret2
      exact ⟨rfl, unhide HST _ (unhide HB1), Only.of_below (by rw [hh]; exact unhide HB1)⟩
    · have d1 : decide ((es : Int) ≥ 4611686018427387904) = false := decide_eq_false (by omega)
      by_cases hl : 4096 < m.size
      · have s1 : e.snE m = 214 := by rw [LE.snE, if_neg (fun q => by rcases q with q | q; (rw [hr] at q; cases q); omega), if_pos hl]
        have s2 : e.snF m = ⟨#[]⟩ := by rw [LE.snF, s1, if_neg (by decide)]
        have s3 : e.snN m = e := by rw [LE.snN, s1, if_neg (by decide)]
        rw [s1, s2, s3]
        have d2 : (m.size : Int) > 4096 := by omega
        clear h1 h2 hF hei hes hs s1 s2 s3 hsb HFR HFR0
        go_enter Tryz.func38, Tryz.ntmps38
        go_wp2_with fail
        refine (unhide HRD).mono ?_
        rintro ev y1 ⟨rfl, hb⟩
        have HB1 := hide (show Below h w y1 from hb.mono (by omega))
        clear hb HRD
        obtain ⟨q1, q2⟩ := unhide HC y1 (unhide HB1)
        go_wp2
        go_ret2
        exact ⟨rfl, unhide HST _ (unhide HB1), Only.of_below (by rw [hh]; exact unhide HB1)⟩
      · obtain ⟨s1, s2, s3⟩ := sn_ok e m hr (by omega) (by omega)
        rw [s1, s2, s3, hF]
        have d2 : ¬ (m.size : Int) > 4096 := by omega
        have HFIN := hide (show ∀ y, Below h w y → DEnd (y.setCell ⟨g, 5, none⟩ (.int .i64 ((es : Int) + 1))) g { e with s := e.s + 1 } v ∧ Only (fun k => k = g) w (y.setCell ⟨g, 5, none⟩ (.int .i64 ((es : Int) + 1))) from fun y hy => by
          obtain ⟨q1, q2, q3⟩ := unhide HST y hy
          refine ⟨⟨?_, ⟨q2.o⟩, ⟨q3.k, q3.n, q3.o, q3.i, by show e.s + 1 ≤ _; omega, q3.t, q3.m, q3.q⟩⟩, (Only.of_below (P := fun k => k = g) (by rw [hh]; exact hy)).setCell _ _ (fun _ => rfl)⟩
          have := q1.set 5 (.int .i64 ((es : Int) + 1))
          rw [← unhide HES] at this ⊢
          exact this)
        have HFZ := hide (show ∀ y, Below h w y → y.frozen? ⟨g, 5, none⟩ = false from fun y hy => (unhide HST y hy).1.frozen 5)
        clear h1 h2 hF hei hes s1 s2 s3 hsb HFR0
        go_enter Tryz.func38, Tryz.ntmps38
        go_wp2_with fail
        refine (unhide HRD).mono ?_
        rintro ev y1 ⟨rfl, hb⟩
        have HB1 := hide (show Below h w y1.drew from (hb.mono (by omega)).drew)
        have hB1 : Below h w y1 := hb.mono (by omega)
        clear hb HRD
        obtain ⟨q1, q2⟩ := unhide HC y1 hB1
        clear hB1
        go_wp2_with fail
        refine wp_region_held_drew (S := fun W => Below h w W) (by kernel_rfl) (unhide HB1) ?_
        intro hS
        refine wpAnyH_takeD 0 (some 24) (.pointer (some ⟨g, 0, none⟩)) rfl rfl (by kernel_rfl) (by kernel_rfl) (by kernel_rfl) (fun _ _ _ h => h) (Or.inl ⟨by rfl, fun w hSw => by obtain ⟨hq1, hq2⟩ := unhide HC w hSw; clear hSw; go_simp; try omega⟩) hS ?_
        simp only [Act.put, List.setIfInBounds_toArray, List.set_cons_zero, List.set_cons_succ]
        refine wpAnyH_takeD 1 (some 25) (.pointer (some ⟨g, 0, none⟩)) rfl rfl (by kernel_rfl) (by kernel_rfl) (by kernel_rfl) (fun _ _ _ h => h) (Or.inl ⟨by rfl, fun w hSw => by obtain ⟨hq1, hq2⟩ := unhide HC w hSw; clear hSw; go_simp; try omega⟩) hS ?_
        simp only [Act.put, List.setIfInBounds_toArray, List.set_cons_zero, List.set_cons_succ]
        refine wpAnyH_takeD 2 (some 26) (.pointer (some ⟨g, 0, none⟩)) rfl rfl (by kernel_rfl) (by kernel_rfl) (by kernel_rfl) (fun _ _ _ h => h) (Or.inl ⟨by rfl, fun w hSw => by obtain ⟨hq1, hq2⟩ := unhide HC w hSw; clear hSw; go_simp; try omega⟩) hS ?_
        simp only [Act.put, List.setIfInBounds_toArray, List.set_cons_zero, List.set_cons_succ]
        refine wpAnyH_takeD 3 (some 27) (.pointer (some ⟨g, 1, none⟩)) rfl rfl (by kernel_rfl) (by kernel_rfl) (by kernel_rfl) (fun _ _ _ h => h) (Or.inl ⟨by rfl, fun w hSw => by obtain ⟨hq1, hq2⟩ := unhide HC w hSw; clear hSw; go_simp; try omega⟩) hS ?_
        simp only [Act.put, List.setIfInBounds_toArray, List.set_cons_zero, List.set_cons_succ]
        refine wpAnyH_takeD 4 (some 28) (.int .i64 (ei : Int)) rfl rfl (by kernel_rfl) (by kernel_rfl) (by kernel_rfl) (fun _ _ _ h => h) (Or.inl ⟨by rfl, fun w hSw => by obtain ⟨hq1, hq2⟩ := unhide HC w hSw; clear hSw; go_simp; try omega⟩) hS ?_
        simp only [Act.put, List.setIfInBounds_toArray, List.set_cons_zero, List.set_cons_succ]
        refine wpAnyH_takeD 5 (some 29) (.pointer (some ⟨g, 0, none⟩)) rfl rfl (by kernel_rfl) (by kernel_rfl) (by kernel_rfl) (fun _ _ _ h => h) (Or.inl ⟨by rfl, fun w hSw => by obtain ⟨hq1, hq2⟩ := unhide HC w hSw; clear hSw; go_simp; try omega⟩) hS ?_
        simp only [Act.put, List.setIfInBounds_toArray, List.set_cons_zero, List.set_cons_succ]
        refine wpAnyH_takeD 6 (some 30) (.pointer (some ⟨g, 0, none⟩)) rfl rfl (by kernel_rfl) (by kernel_rfl) (by kernel_rfl) (fun _ _ _ h => h) (Or.inl ⟨by rfl, fun w hSw => by obtain ⟨hq1, hq2⟩ := unhide HC w hSw; clear hSw; go_simp; try omega⟩) hS ?_
        simp only [Act.put, List.setIfInBounds_toArray, List.set_cons_zero, List.set_cons_succ]
        refine wpAnyH_takeD 7 (some 31) (.pointer (some ⟨g, 5, none⟩)) rfl rfl (by kernel_rfl) (by kernel_rfl) (by kernel_rfl) (fun _ _ _ h => h) (Or.inl ⟨by rfl, fun w hSw => by obtain ⟨hq1, hq2⟩ := unhide HC w hSw; clear hSw; go_simp; try omega⟩) hS ?_
        simp only [Act.put, List.setIfInBounds_toArray, List.set_cons_zero, List.set_cons_succ]
        refine wpAnyH_takeD 8 (some 32) (.int .i64 (es : Int)) rfl rfl (by kernel_rfl) (by kernel_rfl) (by kernel_rfl) (fun _ _ _ h => h) (Or.inl ⟨by rfl, fun w hSw => by obtain ⟨hq1, hq2⟩ := unhide HC w hSw; clear hSw; go_simp; try omega⟩) hS ?_
        simp only [Act.put, List.setIfInBounds_toArray, List.set_cons_zero, List.set_cons_succ]
        refine wpAnyH_takeD 9 (some 33) (.string m) rfl rfl (by kernel_rfl) (by kernel_rfl) (by kernel_rfl) (fun _ _ _ h => h) (Or.inl ⟨by rfl, fun w hSw => by obtain ⟨hq1, hq2⟩ := unhide HC w hSw; clear hSw; go_simp; try omega⟩) hS ?_
        simp only [Act.put, List.setIfInBounds_toArray, List.set_cons_zero, List.set_cons_succ]
        refine wpAnyH_ready (rs := [10]) (by kernel_rfl) (by simp) ?_
        refine AllReadyH.cons rfl (fun K hK => ?_) AllReadyH.nil
        simp only [List.getElem_toArray, List.getElem_cons_succ, List.getElem_cons_zero]
        go_simp
        refine (unhide HFR _ hS).mono ?_
        rintro ev y2 ⟨rfl, hb⟩
        have hS9 : Below h w y2 := hS.trans (hb.mono (by have := hS.size; omega))
        clear hb
        refine hK.out _ _ hS9 (fun hS => ?_)
        clear hK K
        refine wpAnyH_takeD 11 (some 7) (.string F) rfl rfl (by kernel_rfl) (by kernel_rfl) (by kernel_rfl) (fun _ _ _ h => h) (Or.inl ⟨by rfl, fun w hSw => by obtain ⟨hq1, hq2⟩ := unhide HC w hSw; clear hSw; go_simp; try omega⟩) hS ?_
        simp only [Act.put, List.setIfInBounds_toArray, List.set_cons_zero, List.set_cons_succ]
        refine wpAnyH_done (by kernel_rfl) ?_ _
        obtain ⟨q1', q2'⟩ := unhide HC _ hS
        have q3 := unhide HFZ _ hS
        obtain ⟨f1, f2⟩ := unhide HFIN _ hS
        have HF1 := hide f1
        have HF2 := hide f2
        clear f1 f2 hS hS9 HB1 q1 q2
        go_wp2
        go_ret2
        exact ⟨rfl, unhide HF1, unhide HF2⟩
  · have s1 : e.snE m = 211 := by rw [LE.snE, if_pos (.inl (by simpa using hr))]
    have s2 : e.snF m = ⟨#[]⟩ := by rw [LE.snF, s1, if_neg (by decide)]
    have s3 : e.snN m = e := by rw [LE.snN, s1, if_neg (by decide)]
    rw [s1, s2, s3]
    have hr' : e.r = false := by simpa using hr
    rw [hr'] at HRD
    clear s1 s2 s3 hr hr'
    go_enter Tryz.func38, Tryz.ntmps38
    go_wp2_with fail
    refine (unhide HRD).mono ?_
    rintro ev y1 ⟨rfl, hb⟩
    have HB1 := hide (show Below h w y1 from hb.mono (by omega))
    clear hb HRD
    go_wp2
    go_ret2
    exact ⟨rfl, unhide HST _ (unhide HB1), Only.of_below (by rw [hh]; exact unhide HB1)⟩
end Go.Proofs.YtifjmldmilmfjaaGreatDoor

namespace Go.Proofs.YtifjmldmilmfjaaGreatDoor
open Go.RowKit
set_option maxRecDepth 100000
end Go.Proofs.YtifjmldmilmfjaaGreatDoor

namespace Go.Proofs.YtifjmldmilmfjaaGreatDoor
open Go.RowKit
set_option maxRecDepth 100000
def upT {α : Type} (f : Nat → α) (k : Nat) (x : α) : Nat → α := fun j => if j = k then x else f j
/-- a window that has taken the numbers T -/
def Win (T : Nat → Bool) (t m : Nat) : Prop := (∀ j, T j = true → j < t) ∧ (0 < t → T (t - 1) = true) ∧ (∀ d, d < 32 → d < t → (m.testBit d = true ↔ T (t - 1 - d) = true))
theorem bit_is (m d : Nat) : (m / 2 ^ d % 2 = 1) ↔ m.testBit d = true := by rw [Nat.testBit_eq_decide_div_mod_eq]; simp
theorem Win.zero : Win (fun _ => false) 0 0 := ⟨fun j h => (by cases h), fun h => absurd h (by omega), fun d _ h => absurd h (by omega)⟩
theorem Win.old {T : Nat → Bool} {t m : Nat} (h : Win T t m) (n : Nat) : decide (n < t ∧ (32 ≤ t - 1 - n ∨ m / 2 ^ (t - 1 - n) % 2 = 1)) = (T n || decide ((32 : Int) ≤ ((t : Int) - 1) - (n : Int))) := by
  by_cases hn : n < t
  · by_cases h32 : 32 ≤ t - 1 - n
    · rw [decide_eq_true ⟨hn, .inl h32⟩, decide_eq_true (show (32 : Int) ≤ ((t : Int) - 1) - (n : Int) by omega)]
      simp
    · rw [decide_eq_false (show ¬ (32 : Int) ≤ ((t : Int) - 1) - (n : Int) by omega)]
      have hd := h.2.2 (t - 1 - n) (by omega) (by omega)
      rw [show t - 1 - (t - 1 - n) = n by omega] at hd
      cases hT : T n
      · rw [decide_eq_false]
        · rfl
        · rintro ⟨_, q | q⟩
          · exact h32 q
          · rw [bit_is, hd, hT] at q
            cases q
      · rw [decide_eq_true ⟨hn, .inr ((bit_is _ _).2 (hd.2 hT))⟩]
        rfl
  · have hT : T n = false := by
      cases hT : T n
      · rfl
      · exact absurd (h.1 n hT) hn
    rw [decide_eq_false (fun q => hn q.1), hT, decide_eq_false (show ¬ (32 : Int) ≤ ((t : Int) - 1) - (n : Int) by omega)]
    rfl
theorem Win.mark {T : Nat → Bool} {t m : Nat} (h : Win T t m) (n : Nat) : Win (upT T n true) (mkT t n) (mkM t m n) := by
  obtain ⟨h1, h2, h3⟩ := h
  by_cases hn : n < t
  · rw [mkT, mkM, if_pos hn, if_pos hn]
    refine ⟨fun j hj => ?_, fun _ => ?_, fun d hd hdt => ?_⟩
    · unfold upT at hj
      split at hj
      · omega
      · exact h1 j hj
    · unfold upT
      split
      · rfl
      · exact h2 (by omega)
    · rw [Nat.testBit_or, Nat.testBit_two_pow]
      unfold upT
      by_cases e : t - 1 - d = n
      · rw [if_pos e, decide_eq_true (show t - 1 - n = d by omega)]
        simp
      · rw [if_neg e, decide_eq_false (show ¬ t - 1 - n = d by omega), Bool.or_false]
        exact h3 d hd hdt
  · rw [mkT, mkM, if_neg hn, if_neg hn]
    refine ⟨fun j hj => ?_, fun _ => ?_, fun d hd hdt => ?_⟩
    · unfold upT at hj
      split at hj
      · omega
      · have := h1 j hj
        omega
    · unfold upT
      rw [if_pos (by omega)]
    · rw [Nat.testBit_or, show (4294967296 : Nat) = 2 ^ 32 from rfl, Nat.testBit_mod_two_pow, ← Nat.shiftLeft_eq, Nat.testBit_shiftLeft]
      unfold upT
      by_cases hd0 : d = 0
      · subst hd0
        rw [if_pos (by omega)]
        simp
      · have hb1 : (1 : Nat).testBit d = false := by
          cases d with
          | zero => exact absurd rfl hd0
          | succ d => rw [Nat.testBit_succ]; simp
        rw [hb1, Bool.or_false, decide_eq_true hd, Bool.true_and, if_neg (by omega)]
        by_cases hk : min (n + 1 - t) 32 ≤ d
        · rw [decide_eq_true hk, Bool.true_and]
          have e := h3 (d - min (n + 1 - t) 32) (by omega) (by omega)
          rw [show t - 1 - (d - min (n + 1 - t) 32) = n + 1 - 1 - d by omega] at e
          exact e
        · rw [decide_eq_false hk, Bool.false_and]
          constructor
          · intro q; cases q
          · intro q
            have := h1 _ q
            omega
end Go.Proofs.YtifjmldmilmfjaaGreatDoor

namespace Go.Proofs.YtifjmldmilmfjaaGreatDoor
open Go.RowKit
set_option maxRecDepth 100000
/-- texts in memory, in a block below B -/
def SB (w : World) (B : Nat) (p : Option Addr) (l : List ByteArray) : Prop := ∀ j, j < l.length → ∃ g o, p = some ⟨g, o, none⟩ ∧ g < B ∧ w.cell? ⟨g, o + j, none⟩ = some (.string (l.getD j ⟨#[]⟩))
theorem SB.below {w w' : World} {B : Nat} {p : Option Addr} {l : List ByteArray} (h : SB w B p l) (hb : Below B w w') : SB w' B p l := fun j hj => by
  obtain ⟨g, o, e, hg, hc⟩ := h j hj
  exact ⟨g, o, e, hg, (hb.cell (p := ⟨g, o + j, none⟩) hg).trans hc⟩
theorem SB.nil (w : World) (B : Nat) (p : Option Addr) : SB w B p [] := fun j hj => absurd hj (by simp)
theorem getD_take (l : List ByteArray) (k j : Nat) (h : j < k) : (l.take k).getD j ⟨#[]⟩ = l.getD j ⟨#[]⟩ := by
  rw [List.getD_eq_getElem?_getD, List.getD_eq_getElem?_getD, List.getElem?_take, if_pos h]
theorem gr_form {w : World} {base n : Nat} {e : TypeId} {k : Nat} {v : Value} {xs : List Value} (h : w.ownsRow base e k v n xs) : ∃ p cap, v = .slice p n cap ∧ n ≤ cap := by
  rcases h.2 with ⟨h1, h0⟩ | ⟨g, cap, cur, h1, hb, hg, hn, hc, hs, hx⟩
  · exact ⟨none, 0, by rw [h1, h0], by omega⟩
  · exact ⟨_, cap, h1, by omega⟩
theorem gr_cell {w : World} {base : Nat} {e : TypeId} {n c : Nat} {p : Option Addr} {xs : List Value} (h : w.ownsRow base e 1 (.slice p n c) n xs) (j : Nat) (hj : j < n) : ∃ g, p = some ⟨g, 0, none⟩ ∧ w.cell? ⟨g, j, none⟩ = xs[j]? ∧ w.frozen? ⟨g, j, none⟩ = false ∧ base ≤ g ∧ g < w.heap.size := by
  rcases h.2 with ⟨h1, h0⟩ | ⟨g, cap, cur, h1, hb, hg, hn, hc, hs, hx⟩
  · omega
  · have e0 : p = some ⟨g, 0, none⟩ := by injection h1
    have hB : Blk w g cur e := hg
    refine ⟨g, e0, ?_, hB.frozen j, hb, hB.lt⟩
    rw [hB.cell, ← hx, List.getElem?_take, if_pos (by omega)]
    simp
theorem gr_new (w : World) (T : TypeId) (x : Value) (j : Nat) (u : Value) (hu : [x][j]? = some u) : (w.alloc (.cells #[x] T)).cell? (Addr.add ⟨w.heap.size, 0, none⟩ j) = some u := by
  rw [Addr.add_mid, Nat.zero_add, (Blk.new w T #[x]).cell j, ← hu]
  simp
theorem gr_str : (Tryz.prog.info? 9).map (fun i => (i.zero, i.size, i.bytes)) = some (some (.string ⟨#[]⟩), 1, 16) := by kernel_rfl
theorem own_bel {w w' : World} {B : Nat} {e : TypeId} {k n : Nat} {v : Value} {xs : List Value} (h : w.ownsRow B e k v n xs) (hb : Below w.heap.size w w') : w'.ownsRow B e k v n xs := owns_only h (Only.of_below (P := fun _ => False) hb) (fun _ _ q => q)
end Go.Proofs.YtifjmldmilmfjaaGreatDoor

namespace Go.Proofs.YtifjmldmilmfjaaGreatDoor
open Go.RowKit
set_option maxRecDepth 100000
def dropSeqL : Nat → Code → Code
  | 0, c => c
  | n + 1, .seq _ b => dropSeqL n b
  | _, c => c
set_option maxHeartbeats 400000 in
theorem pick21 (c : Int) (n : Nat) (hn : 0 < n) (hc : I64 c) (w : World) : Calls Tryz.prog 11 #[.int .i64 c, .int .i64 (n : Int)] w fun e w' => ∃ r : Nat, r < n ∧ e = .returned (.int .i64 (r : Int)) ∧ w' = w := by
  obtain ⟨hc1, hc2⟩ := hc
  have hz : ((n : Int) == 0) = false := by simp; omega
  by_cases h : c < 0
  · have e1 : (-(c + 1)).tmod (n : Int) = (-(c + 1)) % (n : Int) := Int.tmod_eq_emod_of_nonneg (by omega)
    have hp : 0 ≤ (-(c + 1)) % (n : Int) := Int.emod_nonneg _ (by omega)
    have hl : (-(c + 1)) % (n : Int) < (n : Int) := Int.emod_lt_of_pos _ (by omega)
    go_enter Tryz.func11, Tryz.ntmps11
    go_wp2
    go_ret
    exact ⟨((-(c + 1)) % (n : Int)).toNat, by omega, by simp; omega, rfl⟩
  · have e1 : c.tmod (n : Int) = c % (n : Int) := Int.tmod_eq_emod_of_nonneg (by omega)
    have hp : 0 ≤ c % (n : Int) := Int.emod_nonneg _ (by omega)
    have hl : c % (n : Int) < (n : Int) := Int.emod_lt_of_pos _ (by omega)
    go_enter Tryz.func11, Tryz.ntmps11
    go_wp2
    go_ret
    exact ⟨(c % (n : Int)).toNat, by omega, by simp; omega, rfl⟩
end Go.Proofs.YtifjmldmilmfjaaGreatDoor

namespace Go.Proofs.YtifjmldmilmfjaaGreatDoor
open Go.RowKit
set_option maxRecDepth 100000
theorem upT_self {α : Type} (f : Nat → α) (k : Nat) (x : α) : upT f k x k = x := if_pos rfl
theorem upT_ne {α : Type} (f : Nat → α) (k : Nat) (x : α) (j : Nat) (h : j ≠ k) : upT f k x j = f j := if_neg h
theorem gr_int : (Tryz.prog.info? 3).map (fun i => (i.zero, i.size, i.bytes)) = some (some (.int .i64 0), 1, 8) := by kernel_rfl
theorem oTyp {w : World} {b1 b2 n1 n2 s1 s2 : Nat} {e1 e2 : TypeId} {v1 v2 : Value} {x1 x2 : List Value} (h : w.ownsRow b1 e1 s1 v1 n1 x1) (k : w.ownsRow b2 e2 s2 v2 n2 x2) (he : e1 ≠ e2) (x : Nat) (hx : v1.ownBlock = some x) : v2.ownBlock ≠ some x := by
  rcases h.2 with ⟨rfl, _⟩ | ⟨g, cap, cur, rfl, _, hg, _⟩
  · simp [Value.ownBlock] at hx
  · have e : g = x := by simpa [Value.ownBlock] using hx
    subst e
    exact (show Blk w g cur e1 from hg).not_row he k
end Go.Proofs.YtifjmldmilmfjaaGreatDoor
