import Derived.Test.YtnfcnpolflfpfaaGreatDoorMr44
import Derived.Test.YtnfcnpolflfpfaaGreatDoorMr48
namespace Go.Proofs.YtnfcnpolflfpfaaGreatDoor
open Go.RowKit Go.Maps Go.Sort Go.Shelf
/-- So many zeros. -/
def zB (m : Nat) : ByteArray := strOfNums (List.replicate m 0)
theorem zB_add (a b : Nat) : zB a ++ zB b = zB (a + b) := by
  unfold zB
  rw [← strOfNums_app, List.replicate_append_replicate]
theorem zB_zero : zB 0 = ⟨#[]⟩ := rfl
theorem rzeros8 (m : Nat) (hm : m ≤ 244) (w : World) : Calls Tryz.prog 115 #[.int .i64 (m : Int)] w fun e w' => e = .returned (.string (zB m)) ∧ Below w.heap.size w w' := rzeros_any m hm w
theorem rslot_zero (w : World) : Calls Tryz.prog 114 #[.agg #[.int .i64 0, .string ⟨#[]⟩, .int .i64 0]] w fun e w' => e = .returned (.string (zB 37)) ∧ Below w.heap.size w w' := by
  have HZ := hide (fun W => rzeros8 37 (by decide) W)
  simp only [Int.cast_ofNat_Int] at HZ
  have HZE := hide (show zB 37 = zB 37 from rfl)
  obtain ⟨z, hz⟩ : ∃ q, zB 37 = q := ⟨_, rfl⟩
  rw [hz] at HZ ⊢
  clear hz HZE
  obtain ⟨x2, hx2⟩ : ∃ q, w.alloc (.cells #[.int .i64 0, .string ⟨#[]⟩, .int .i64 0] 46) = q := ⟨_, rfl⟩
  have HB := hide (show Below w.heap.size w x2 from by rw [← hx2]; exact (Below.refl _ _).alloc (Nat.le_refl _) _)
  have c2 : x2.cell? ⟨w.heap.size, 2, none⟩ = some (.int .i64 0) := by rw [← hx2]; exact (Blk.new w _ _).cell 2
  go_enter Tryz.func114, Tryz.ntmps114
  go_wp2_with fail
  refine (unhide HZ _).mono ?_
  rintro e x3 ⟨rfl, hb3⟩
  have HB3 := hide (show Below w.heap.size w x3 from (unhide HB).trans (hb3.mono (unhide HB).size))
  clear hb3 HZ
  go_wp2
  go_ret
  exact ⟨rfl, unhide HB3⟩
theorem rpagesN_any (n : Nat) (hn : n ≤ 1024) (w : World) : Calls Tryz.prog 59 #[.int .i64 (n : Int)] w fun e w' => e = .returned (.int .i64 (ipgs n : Int)) ∧ w' = w := by
  have e1 : ((n : Int) + 6 - 1).tdiv 6 = (ipgs n : Int) := by
    rw [Int.tdiv_eq_ediv_of_nonneg (by omega)]; unfold ipgs; omega
  have hq := ipgs_le hn
  generalize ipgs n = q at *
  go_enter Tryz.func59, Tryz.ntmps59
  go_wp2
  go_ret
  exact ⟨rfl, rfl⟩
set_option maxRecDepth 100000 in
set_option maxHeartbeats 2000000 in
theorem rpage_zero (k : Nat) (hk : k ≤ 1000) (n g : Nat) (_hn : n ≤ 1024) (w : World) (hW : WR w g n (fun _ => none)) : Calls Tryz.prog 60 #[.int .i64 (k : Int), .slice (some ⟨g, 0, none⟩) n n] w fun e w' => e = .returned (.string (pgI k ib0)) ∧ Below w.heap.size w w' := by
  have HZ := hide (fun W => rzeros8 37 (by decide) W)
  simp only [Int.cast_ofNat_Int] at HZ
  have HSL := hide (fun W => rslot_zero W)
  have HAD := hide (fun t => zB_add (37 * t) 37)
  have HMK := hide (fun W => rmake_any 4 (k : Int) (zB 222) W)
  have HPG := hide (show makeB 4 (k : Int) (zB 222) = pgI k ib0 from rfl)
  obtain ⟨pg, hpg⟩ : ∃ q, makeB 4 (k : Int) (zB 222) = q := ⟨_, rfl⟩
  rw [hpg] at HMK HPG
  rw [← unhide HPG]
  generalize errM 4 (k : Int) (zB 222).size = er at *
  obtain ⟨z, hz⟩ : ∃ q, zB 37 = q := ⟨_, rfl⟩
  rw [hz] at HZ HSL HAD
  have HW := hide hW
  have em : (k : Int) * 6 = ((6 * k : Nat) : Int) := by omega
  have em2 : ((k : Int) + 1) * 6 = ((6 * k + 6 : Nat) : Int) := by omega
  have hz37 : z.size ≤ 37 := by rw [← hz, zB, strOfNums_size, List.length_replicate]; exact Nat.le_refl _
  clear hW hz hpg
  obtain ⟨s, hs⟩ : ∃ q, 6 * k = q := ⟨_, rfl⟩
  rw [hs] at em em2
  have hs6 : s ≤ 6000 := by omega
  have HS0 := hide zB_zero
  clear hs
  go_enter Tryz.func60, Tryz.ntmps60
  go_wp2
  go_loopw [5, 6] (fun u i wr => ∃ t : Nat, t ≤ 6 ∧ u = .string (zB (37 * t)) ∧ i = .int .i64 ((s + t : Nat) : Int) ∧ Below w.heap.size w wr) (fun _ i _ => s + 6 - (intOf i).toNat)
  case atStart => exact ⟨0, by omega, by rw [Nat.mul_zero, unhide HS0], rfl, Below.refl _ _⟩
  case round =>
    obtain ⟨t, ht, rfl, rfl, hB⟩ := hrel
    obtain ⟨wo, rfl⟩ : ∃ wo, wo = wr := ⟨_, rfl⟩
    by_cases ht6 : t < 6
    · obtain ⟨zt, hzt⟩ : ∃ q, zB (37 * t) = q := ⟨_, rfl⟩
      have HZT := hide (show zt ++ z = zB (37 * (t + 1)) from by rw [← hzt, unhide HAD, Nat.mul_succ])
      have hz222 : zt.size ≤ 222 := by rw [← hzt, zB, strOfNums_size, List.length_replicate]; omega
      rw [hzt]
      clear hzt
      have h1 : ((s + t : Nat) : Int) < ((s + 6 : Nat) : Int) := by omega
      obtain ⟨i, hi⟩ : ∃ q, s + t = q := ⟨_, rfl⟩
      have hi6 : i ≤ 7000 := by omega
      have HI := hide hi
      rw [hi] at h1 ⊢
      clear hi
      by_cases hin : i < n
      · have hin' : (i : Int) < (n : Int) := by omega
        have i0 : (0 : Int) ≤ (i : Int) := by omega
        obtain ⟨a0, _⟩ := ((unhide HW).below hB).at i hin 0 (by decide)
        obtain ⟨a1, _⟩ := ((unhide HW).below hB).at i hin 1 (by decide)
        obtain ⟨a2, _⟩ := ((unhide HW).below hB).at i hin 2 (by decide)
        rw [Nat.add_zero] at a0
        simp only [slC, List.getElem?_cons_zero, List.getElem?_cons_succ] at a0 a1 a2
        have HB := hide hB
        clear hB
        go_wp2_with fail
        refine (unhide HSL _).mono ?_
        rintro e y1 ⟨rfl, hb1⟩
        have HB1 := hide ((unhide HB).trans (hb1.mono (unhide HB).size))
        clear hb1 a0 a1 a2
        go_wp2
        go_roundw
        case rel => exact ⟨t + 1, by omega, by rw [unhide HZT], by rw [← unhide HI]; go_num, unhide HB1⟩
        case measure => have := unhide HI; simp [intOf]; omega
      · have hin' : ¬ (i : Int) < (n : Int) := by omega
        have HB := hide hB
        clear hB
        go_wp2_with fail
        refine (unhide HZ _).mono ?_
        rintro e y1 ⟨rfl, hb1⟩
        have HB1 := hide ((unhide HB).trans (hb1.mono (unhide HB).size))
        clear hb1
        go_wp2
        go_roundw
        case rel => exact ⟨t + 1, by omega, by rw [unhide HZT], by rw [← unhide HI]; go_num, unhide HB1⟩
        case measure => have := unhide HI; simp [intOf]; omega
    · obtain rfl : t = 6 := by omega
      have h1 : ¬ ((s + 6 : Nat) : Int) < ((s + 6 : Nat) : Int) := by omega
      have HB := hide hB
      clear hB HAD
      simp only [Nat.reduceMul]
      obtain ⟨zz, hzz⟩ : ∃ q, zB 222 = q := ⟨_, rfl⟩
      rw [hzz] at HMK ⊢
      clear hzz
      go_wp2_with fail
      refine (unhide HMK _).mono ?_
      rintro e y1 ⟨rfl, hb1⟩
      have HB1 := hide ((unhide HB).trans (hb1.mono (unhide HB).size))
      clear hb1
      go_wp2
      go_ret
      exact ⟨rfl, unhide HB1⟩
theorem wmakeN (n : Nat) (hn : n ≤ 1024) (w : World) : (Instr.makeSlice 29 (.int .i64 (n : Int)) (.int .i64 (n : Int))).run Tryz.prog w = .ok (.slice (some ⟨w.heap.size, 0, none⟩) n n) (w.alloc (.cells (madeCells #[.int .i64 0, .string ⟨#[]⟩, .int .i64 0] (n * 3)) 46)) := by
  have h := infoSlot
  cases hq : Tryz.prog.info? 46 with
  | none => rw [hq] at h; cases h
  | some i =>
    rw [hq] at h
    simp only [Option.map_some, Option.some.injEq, Prod.mk.injEq] at h
    obtain ⟨hz, hs, hbt⟩ := h
    have := run_makeSlice (P := Tryz.prog) w 29 46 i _ Tryz.underlying29 hq hz .i64 .i64 (n : Int) (n : Int) (by omega) (by omega) (by rw [hs, Int.toNat_natCast]; omega) (by rw [hbt]; omega) (by omega)
    rw [Int.toNat_natCast, hs] at this
    exact this
set_option maxRecDepth 100000 in
set_option maxHeartbeats 2000000 in
theorem rinitial8_ok (n : Nat) (hn1 : 1 ≤ n) (hn2 : n ≤ 1024) (w : World) : Calls Tryz.prog 20 #[.int .i64 (n : Int)] w fun e w' => ∃ v, e = .returned (.tuple #[v, .int .i64 0]) ∧ InII w (ipgs n) v w' := by
  obtain ⟨i0, hi, hz0, hz1, hz2⟩ := info_parts infoS
  have HI := hide (And.intro hi (And.intro hz0 (And.intro hz1 hz2)))
  clear hi hz0 hz1 hz2
  have HPO := hide (fun W => rpagesN_any n hn2 W)
  have h4 := ipgs_le hn2
  have d1 : decide ((n : Int) < 1) = false := decide_eq_false (by omega)
  have d2 : decide ((1024 : Int) < (n : Int)) = false := decide_eq_false (by omega)
  generalize ipgs n = P0 at *
  go_enter Tryz.func20, Tryz.ntmps20
  go_wp2
  go_loopw [4, 5] (fun u i wr => ∃ k : Nat, k ≤ P0 ∧ i = .int .i64 (k : Int) ∧ InII w k u wr) (fun _ i _ => P0 - (intOf i).toNat)
  case atStart => exact ⟨0, by omega, rfl, World.ownsRow_nil _ _ _ _, Below.refl _ _⟩
  case round =>
    obtain ⟨k, hk, rfl, hR, hB⟩ := hrel
    obtain ⟨wo, rfl⟩ : ∃ wo, wo = wr := ⟨_, rfl⟩
    obtain ⟨pv, cv, rfl, hcv⟩ := row_form hR
    have HR := hide hR
    have HB := hide hB
    clear hR hB hcv
    by_cases hkn : k < P0
    · have hkn' : (k : Int) < (P0 : Int) := by omega
      have hmk := wmakeN n hn2 wo
      obtain ⟨gb, hgb⟩ : ∃ q, wo.heap.size = q := ⟨_, rfl⟩
      obtain ⟨y1, hy1⟩ : ∃ q, wo.alloc (.cells (madeCells #[.int .i64 0, .string ⟨#[]⟩, .int .i64 0] (n * 3)) 46) = q := ⟨_, rfl⟩
      have hW1 : WR y1 gb n (fun _ => none) := by rw [← hy1, ← hgb]; exact wr_made wo n
      have hb1 : Below wo.heap.size wo y1 := by rw [← hy1]; exact (Below.refl _ _).alloc (Nat.le_refl _) _
      rw [hy1, hgb] at hmk
      have HPG := hide (rpage_zero k (by omega) n gb hn2 y1 hW1)
      have HB1 := hide hb1
      obtain ⟨t, ht⟩ : ∃ t, pgI k ib0 = t := ⟨_, rfl⟩
      rw [ht] at HPG
      have HT := hide ht
      clear hy1 hW1 hb1 ht hgb
      go_wp2_with (go_at_call 59; refine (unhide HPO _).mono ?_; rintro e w' ⟨rfl, hw'⟩; subst w')
      refine (unhide HPG).mono ?_
      rintro e y2 ⟨rfl, hb2⟩
      have hB2 : Below wo.heap.size wo y2 := (unhide HB1).trans (hb2.mono (unhide HB1).size)
      have HRA := hide (show (y2.alloc (.cells #[.string t] 9)).ownsRow w.heap.size 9 1 (.slice pv k cv) k (strs (pgZI k)) from (owns_only (unhide HR) (Only.of_below (P := fun _ => False) hB2) (fun _ _ q => q)).alloc _)
      have HXB := hide ((unhide HB).trans ((hB2.alloc hB2.size (.cells #[.string t] 9)).mono (unhide HB).size))
      clear hb2 hB2 HPG HB1 hmk
      go_wp2_with (refine wpList_append_own _ rfl (.tmp 18) (.tmp 23) 35 rfl w.heap.size 9 i0 (.string ⟨#[]⟩) 1 16 Tryz.underlying35 (unhide HI).1 (unhide HI).2.1 (unhide HI).2.2.1 (unhide HI).2.2.2 rfl (by decide) _ k (strs (pgZI k)) rfl (unhide HRA) ⟨y2.heap.size, 0, none⟩ 1 1 [.string t] rfl rfl (fun q u hu => news_one y2 9 _ q u hu) (by simp [Value.oneCell']) (by unfold maxLen; omega) (by omega) (unhide HXB).size ?_)
      intro v5 x5 ho5 hg5 _
      have HRR := hide (show InII w (k + 1) v5 x5 from ⟨by rw [pgZI_succ, unhide HT]; exact ho5, (unhide HXB).grown hg5 (unhide HXB).size (fun q hq => ((unhide HRA).lt q hq).1)⟩)
      clear ho5 hg5 HRA HXB HT
      go_wp2
      go_roundw
      case rel => exact ⟨k + 1, by omega, by go_num, unhide HRR⟩
      case measure => simp [intOf]; omega
    · have hke : k = P0 := by omega
      have hkn' : ¬ (k : Int) < (P0 : Int) := by omega
      subst hke
      have HF := hide (show InII w k (.slice pv k cv) wo from ⟨unhide HR, unhide HB⟩)
      clear HR HB
      go_wp2_with (go_at_call 59; refine (unhide HPO _).mono ?_; rintro e w' ⟨rfl, hw'⟩; subst w')
      go_ret2
      exact ⟨_, rfl, unhide HF⟩
theorem rinitial8_bad (z : Int) (hz : ¬ (1 ≤ z ∧ z ≤ 1024)) (w : World) : Calls Tryz.prog 20 #[.int .i64 z] w fun e w' => e = .returned (.tuple #[.slice none 0 0, .int .i64 1]) ∧ w' = w := by
  by_cases h1 : z < 1
  · have d1 : decide (z < 1) = true := decide_eq_true h1
    clear hz h1
    go_enter Tryz.func20, Tryz.ntmps20
    go_wp2
    go_ret2
    exact ⟨rfl, rfl⟩
  · have d1 : decide (z < 1) = false := decide_eq_false h1
    have d2 : decide ((1024 : Int) < z) = true := decide_eq_true (by omega)
    clear hz h1
    go_enter Tryz.func20, Tryz.ntmps20
    go_wp2
    go_ret2
    exact ⟨rfl, rfl⟩
theorem iinitial_bad (z : Int) (hz : ¬ (1 ≤ z ∧ z ≤ 1024)) (w : World) : Calls Tryz.prog 19 #[.int .i64 z] w fun e w' => e = .returned (.tuple #[.slice none 0 0, .int .i64 1]) ∧ w' = w := by
  have HM := hide (fun W => iisCount_any z W)
  rw [show (decide (1 ≤ z) && decide (z ≤ 1024)) = false from by
    by_cases q : 1 ≤ z
    · rw [decide_eq_false (fun r => hz ⟨q, r⟩)]; simp
    · rw [decide_eq_false q]; rfl] at HM
  clear hz
  go_enter Tryz.func19, Tryz.ntmps19
  go_wp2_with (go_at_call 56; refine (unhide HM _).mono ?_; rintro e w' ⟨rfl, hw'⟩; subst w')
  go_ret2
  exact ⟨rfl, rfl⟩
def okI (z : Int) : Prop := 1 ≤ z ∧ z ≤ 1024
instance (z : Int) : Decidable (okI z) := inferInstanceAs (Decidable (_ ∧ _))
/-- The pages of an empty index of so many, if there is one. -/
def PLi (z : Int) : List ByteArray := if okI z then pgZI (ipgs z.toNat) else []
def erI (z : Int) : Int := if okI z then 0 else 1
theorem PLi_len (z : Int) : (PLi z).length ≤ 171 := by
  unfold PLi
  split
  · rename_i h
    rw [pgZI_len]
    exact ipgs_le (by unfold okI at h; omega)
  · exact Nat.zero_le _
theorem iinit_all (z : Int) (w : World) : Calls Tryz.prog 19 #[.int .i64 z] w fun e w' => ∃ v, e = .returned (.tuple #[v, .int .i64 (erI z)]) ∧ w'.ownsRow w.heap.size 9 1 v (PLi z).length (strs (PLi z)) ∧ Below w.heap.size w w' := by
  by_cases h : okI z
  · have e : z = ((z.toNat : Nat) : Int) := by unfold okI at h; omega
    have hc := iinitial_any z.toNat (by unfold okI at h; omega) (by unfold okI at h; omega) w
    rw [← e] at hc
    rw [erI, if_pos h, PLi, if_pos h]
    refine hc.mono ?_
    rintro ev w' ⟨v, rfl, h1, h2⟩
    exact ⟨v, rfl, by rw [pgZI_len]; exact h1, h2⟩
  · rw [erI, if_neg h, PLi, if_neg h]
    refine (iinitial_bad z h w).mono ?_
    rintro ev w' ⟨rfl, rfl⟩
    exact ⟨_, rfl, World.ownsRow_nil _ _ _ _, Below.refl _ _⟩
theorem rinit8_all (z : Int) (w : World) : Calls Tryz.prog 20 #[.int .i64 z] w fun e w' => ∃ v, e = .returned (.tuple #[v, .int .i64 (erI z)]) ∧ w'.ownsRow w.heap.size 9 1 v (PLi z).length (strs (PLi z)) ∧ Below w.heap.size w w' := by
  by_cases h : okI z
  · have e : z = ((z.toNat : Nat) : Int) := by unfold okI at h; omega
    have hc := rinitial8_ok z.toNat (by unfold okI at h; omega) (by unfold okI at h; omega) w
    rw [← e] at hc
    rw [erI, if_pos h, PLi, if_pos h]
    refine hc.mono ?_
    rintro ev w' ⟨v, rfl, h1, h2⟩
    exact ⟨v, rfl, by rw [pgZI_len]; exact h1, h2⟩
  · rw [erI, if_neg h, PLi, if_neg h]
    refine (rinitial8_bad z h w).mono ?_
    rintro ev w' ⟨rfl, rfl⟩
    exact ⟨_, rfl, World.ownsRow_nil _ _ _ _, Below.refl _ _⟩
end Go.Proofs.YtnfcnpolflfpfaaGreatDoor
