import Derived.Test.YtnfcnpolflfpfaaGreatDoorMr43
import Derived.Test.YtnfcnpolflfpfaaGreatDoorMr24
namespace Go.Proofs.YtnfcnpolflfpfaaGreatDoor
open Go.RowKit Go.Maps Go.Sort Go.Shelf
theorem ISt.image {w0 w : World} {b jb pb xb : Nat} {Y : Nat → Prop} {a n kp : Nat} {op : Bool} {L : List ByteArray} {A : List (Nat × Nat)} {hn : Nat} {Tw T U : Nat → En} (h : ISt w0 w b jb pb xb Y a n kp op L A hn Tw T U) : Calls Tryz.prog 13 #[.pointer (some ⟨b, 0, none⟩)] w fun e w' => ∃ g cap, e = .returned (.slice (some ⟨g, 0, none⟩) 128 cap) ∧ w.heap.size ≤ g ∧ Strs w' (some ⟨g, 0, none⟩) L ∧ Below w.heap.size w w' := by
  obtain ⟨S, eb, bm, Mw, Mn, h1, h2, h2o, h3, h4⟩ := h
  obtain ⟨bw, bv, ov, K⟩ := h1.pk
  have k1 := K.jk
  rw [h1.seen.rst.s] at k1
  refine (imageK k1 h1.seen.len).mono ?_
  rintro e w' ⟨g, cap, rfl, q1, q2, q3, q4⟩
  exact ⟨g, cap, rfl, q1, q3, q4⟩
theorem infoSlot : (Tryz.prog.info? 46).map (fun i => (i.zero, i.size, i.bytes)) = some (some (.agg #[.int .i64 0, .string ⟨#[]⟩, .int .i64 0]), 3, 32) := by kernel_rfl
theorem wr_made (w : World) (n : Nat) : WR (w.alloc (.cells (madeCells #[.int .i64 0, .string ⟨#[]⟩, .int .i64 0] (n * 3)) 46)) w.heap.size n (fun _ => none) := by
  refine ⟨(madeCells #[.int .i64 0, .string ⟨#[]⟩, .int .i64 0] (n * 3)).toList, by rw [Array.toArray_toList]; exact Blk.new w _ _, by rw [Array.length_toList, size_madeCells]; omega, fun i hi => ?_⟩
  apply List.ext_getElem
  · rw [List.length_take, List.length_drop, Array.length_toList, size_madeCells]
    show _ = 3
    omega
  · intro j h1 h2
    have h2' : j < 3 := h2
    rw [List.getElem_take, List.getElem_drop]
    simp only [madeCells, Array.getElem_toList, Array.getElem_map, Array.getElem_range]
    have e : (i * 3 + j) % (#[.int .i64 0, .string ⟨#[]⟩, .int .i64 0] : Array Value).size = j := by
      show (i * 3 + j) % 3 = j
      omega
    rw [e]
    rcases (show j = 0 ∨ j = 1 ∨ j = 2 by omega) with rfl | rfl | rfl <;> rfl
theorem wmake (n : Nat) (hn : n ≤ 24) (w : World) : (Instr.makeSlice 29 (.int .i64 (n : Int)) (.int .i64 (n : Int))).run Tryz.prog w = .ok (.slice (some ⟨w.heap.size, 0, none⟩) n n) (w.alloc (.cells (madeCells #[.int .i64 0, .string ⟨#[]⟩, .int .i64 0] (n * 3)) 46)) := by
  have h := infoSlot
  cases hq : Tryz.prog.info? 46 with
  | none => rw [hq] at h; cases h
  | some i =>
    rw [hq] at h
    simp only [Option.map_some, Option.some.injEq, Prod.mk.injEq] at h
    obtain ⟨hz, hs, hbt⟩ := h
    have := run_makeSlice (P := Tryz.prog) w 29 46 i _ Tryz.underlying29 hq hz .i64 .i64 (n : Int) (n : Int) (by omega) (by omega) (by rw [hs, Int.toNat_natCast]; omega) (by rw [hbt]; omega) (by omega)
    rw [Int.toNat_natCast, hs] at this
    exact this
/-- A list of changes, as it lies there. -/
def Raws (w : World) (p : Option Addr) (m : Nat) : Prop := ∀ i, i < m → ∃ g o k pl dg ct, p = some ⟨g, o, none⟩ ∧ g < w.heap.size ∧ w.cell? ⟨g, o + i * 4, none⟩ = some (.int .i64 k) ∧ w.cell? ⟨g, o + i * 4 + 1, none⟩ = some (.int .i64 pl) ∧ w.cell? ⟨g, o + i * 4 + 2, none⟩ = some (.int .i64 dg) ∧ w.cell? ⟨g, o + i * 4 + 3, none⟩ = some (.int .i64 ct) ∧ I64 pl ∧ I64 dg ∧ I64 ct
theorem Raws.below {w w' : World} {p : Option Addr} {m : Nat} (h : Raws w p m) (hb : Below w.heap.size w w') : Raws w' p m := fun i hi => by
  obtain ⟨g, o, k, pl, dg, ct, e, hg, c0, c1, c2, c3, r⟩ := h i hi
  refine ⟨g, o, k, pl, dg, ct, e, Nat.lt_of_lt_of_le hg hb.size, ?_, ?_, ?_, ?_, r⟩
  · rw [hb.cell (p := ⟨g, _, none⟩) hg]; exact c0
  · rw [hb.cell (p := ⟨g, _, none⟩) hg]; exact c1
  · rw [hb.cell (p := ⟨g, _, none⟩) hg]; exact c2
  · rw [hb.cell (p := ⟨g, _, none⟩) hg]; exact c3
/-- An index under change, and the row that follows it. -/
def Run (x0 : World) (b jb pb xb : Nat) (Y : Nat → Prop) (a n kp : Nat) (L : List ByteArray) (A : List (Nat × Nat)) (hn : Nat) (Tw : Nat → En) (wb : Nat) (wr : World) : Prop :=
  ∃ T, ISt x0 wr b jb pb xb Y a n kp true L A hn Tw T T ∧ WR wr wb n T
theorem Chg.run {w0 w : World} {b jb pb xb : Nat} {Y : Nat → Prop} {a n kp : Nat} {L : List ByteArray} {A : List (Nat × Nat)} {hn : Nat} {Tw : Nat → En} {wb : Nat} {w' : World} (h : Chg w0 w b jb pb xb Y a n kp L A hn Tw wb w') : Run w0 b jb pb xb Y a n kp L A hn Tw wb w' := by
  obtain ⟨T, h1, h2, _⟩ := h
  exact ⟨T, h1, h2⟩
/-- The bytes of the first j slots of page k. -/
def catL (T : Nat → En) (k j : Nat) : List Int := nums (catI (fun i => slB (T (6 * k + i))) j)
theorem catL_step (T : Nat → En) (k j : Nat) : catL T k j ++ slL (T (6 * k + j)) = catL T k (j + 1) := by
  unfold catL
  rw [catI, nums_app, slB_nums]
theorem catL_len (T : Nat → En) (hT : AllOk T) (k j : Nat) : (catL T k j).length = 37 * j := by
  unfold catL
  rw [nums_len, catI_size _ j (fun _ _ => slB_size _ (hT _))]
theorem catL_all (T : Nat → En) (k : Nat) : strOfNums (catL T k 6) = ibd T k := by unfold catL; rw [strOfNums_nums]; rfl
set_option maxRecDepth 100000 in
set_option maxHeartbeats 8000000 in
theorem pages8_walk (p : Option Addr) (m c : Nat) (w : World) (hg : ETy w) (hR : Raws w p m) (hm : m ≤ 9223372036854775807) :
    Calls Tryz.prog 3 #[.slice p m c] w fun e w' => e = .returned (.bool true) ∧ Below w.heap.size w w' := by
  have HAW := hide (awake8_any w hg)
  have HH := hide (And.intro hg hR)
  clear hg hR
  go_enter Tryz.func3, Tryz.ntmps3
  go_wp2_with fail
  refine (unhide HAW).mono ?_
  rintro e x0 ⟨rfl, hb0⟩
  have hg0 : ETy x0 := (unhide HH).1.below hb0 (unhide HH).1.lt
  have HOP := hide (opened_any 20 (by decide) (by decide) x0 hg0)
  simp only [Int.cast_ofNat_Int] at HOP
  have H0 := hide (And.intro hb0 ((unhide HH).2.below hb0))
  clear hb0 hg0 HAW
  go_wp2_with fail
  refine (unhide HOP).mono ?_
  rintro e x1 ⟨b, pb, xb, rfl, jb, L, A, hn, hA, hS⟩
  have hmk := wmake 20 (by decide) x1
  simp only [Int.cast_ofNat_Int] at hmk
  obtain ⟨wb, hwb⟩ : ∃ q, x1.heap.size = q := ⟨_, rfl⟩
  obtain ⟨x2, hx2⟩ : ∃ q, x1.alloc (.cells (madeCells #[.int .i64 0, .string ⟨#[]⟩, .int .i64 0] (20 * 3)) 46) = q := ⟨_, rfl⟩
  rw [hx2, hwb] at hmk
  have hW2 : WR x2 wb 20 (fun _ => none) := by rw [← hx2, ← hwb]; exact wr_made x1 20
  have hb2 : Below x1.heap.size x1 x2 := by rw [← hx2]; exact (Below.refl _ _).alloc (Nat.le_refl _) _
  have hS2 := hS.more (Z := fun x => x = wb) hb2 (fun x q => by rw [q, hwb]; exact .inr ⟨Nat.le_refl _, hW2.lt⟩)
  have HBE := hide hS2.begin
  have H2 := hide (And.intro hW2 (And.intro hA (show x0.heap.size ≤ wb from by rw [← hwb]; exact hS.bel.size)))
  clear hS hb2 hW2 hS2 hA HOP hx2 hwb
  go_wp2_with fail
  refine (unhide HBE).mono ?_
  rintro e x3 ⟨rfl, hS3, hO3⟩
  have X3 := hide (show Run x0 b jb pb xb (fun x => x = wb) 30 20 4 L A hn (fun _ => none) wb x3 from ⟨_, hS3, (unhide H2).1.only hO3 (fun q => q rfl)⟩)
  clear hS3 hO3 HBE hmk
  go_wp2
  rename_i KL aKL
  have hKK : ∀ (k : Nat) (u2 u11 u37 u38 u39 u40 u41 u42 u43 u44 u45 u46 u47 u48 u49 u50 u51 u52 u53 u54 u55 : Value) (wo : World), Run x0 b jb pb xb (fun x => x = wb) 30 20 4 L A hn (fun _ => none) wb wo → KL ⟨#[.slice p m c, undef, u2, .bool true, .pointer (some ⟨b, 0, none⟩), .pointer (some ⟨pb, 0, none⟩), .pointer (some ⟨xb, 0, none⟩), .bool true, .slice (some ⟨wb, 0, none⟩) 20 20, .int .i64 0, .int .i64 (k : Int), u11, undef, undef, undef, undef, undef, undef, undef, undef, undef, .bool true, .tuple #[.pointer (some ⟨b, 0, none⟩), .pointer (some ⟨pb, 0, none⟩), .pointer (some ⟨xb, 0, none⟩), .bool true], .tuple #[.pointer (some ⟨b, 0, none⟩), .pointer (some ⟨pb, 0, none⟩), .pointer (some ⟨xb, 0, none⟩), .bool true], .pointer (some ⟨b, 0, none⟩), .pointer (some ⟨pb, 0, none⟩), .pointer (some ⟨xb, 0, none⟩), .bool true, .bool true, .bool false, .bool false, .bool true, .bool false, .bool false, .slice (some ⟨wb, 0, none⟩) 20 20, .pointer (some ⟨pb, 0, none⟩), .int .i64 0, u37, u38, u39, u40, u41, u42, u43, u44, u45, u46, u47, u48, u49, u50, u51, u52, u53, u54, u55, undef, undef, undef, undef, undef, undef, undef, undef, undef, undef, undef, undef, undef, undef, undef, undef, undef, undef, undef, undef, undef, undef, undef, undef, undef, undef, undef, undef, undef, undef, undef, undef, undef, undef, undef, undef, undef, undef, undef, undef, undef, undef, undef, undef, undef, undef, undef, undef, undef, undef, undef, undef, undef, undef, undef, undef, undef, undef, undef, undef, undef, undef, undef, undef, undef, undef, undef, undef, undef, undef, undef, undef, undef, undef, undef, undef, undef, undef, undef, undef, undef, undef, undef, undef, undef, undef, undef, undef, undef, undef], []⟩ wo := by
    intro k u2 u11 u37 u38 u39 u40 u41 u42 u43 u44 u45 u46 u47 u48 u49 u50 u51 u52 u53 u54 u55 wo hRun
    refine aKL _ _ ?_
    clear aKL X3
    obtain ⟨T, hS, hW⟩ := hRun
    have HCM := hide (hS.commit (by have := (unhide H2).2.1; omega))
    have HWR := hide hW
    have HTO := hide hS.ok.1
    clear hS hW
    go_wp2_with fail
    refine (unhide HCM).mono ?_
    rintro e y1 ⟨rfl, ⟨L', A', hA', hS1⟩, hO1⟩
    have HIM := hide hS1.image
    have hls := hS1.lasts
    have HL := hide (And.intro hls.1 (And.intro hls.2.1 (And.intro ((unhide HWR).only hO1 (fun q => q rfl)) hS1.bel)))
    clear hS1 hO1 hls HCM hA'
    go_wp2_with fail
    refine (unhide HIM).mono ?_
    rintro e z0 ⟨gi, ci, rfl, hgi, hST, hbz⟩
    obtain ⟨hIS, hLl, hW1, hbe1⟩ := unhide HL
    have HZ := hide (And.intro hIS (And.intro hLl (And.intro (hW1.below hbz) (And.intro (hbe1.trans (hbz.mono hbe1.size)) hST))))
    clear hgi hST hbz hIS hLl hW1 hbe1 HIM HL HWR
    go_wp2
    go_loopw [14] (fun i wr => ∃ k : Nat, k ≤ 4 ∧ i = .int .i64 (k : Int) ∧ Below z0.heap.size z0 wr) (fun i _ => 4 - (intOf i).toNat)
    case atStart => exact ⟨0, by omega, rfl, Below.refl _ _⟩
    case round =>
      obtain ⟨k, hk4, rfl, hbk⟩ := hrel
      obtain ⟨wo, rfl⟩ : ∃ wo, wo = wr := ⟨_, rfl⟩
      by_cases hkn : k < 4
      · have hkn' : (k : Int) < 4 := by omega
        have HBK := hide hbk
        have HNW := hide (newWriter_any wo)
        obtain ⟨k6, hk6⟩ : ∃ q, 6 * k = q := ⟨_, rfl⟩
        have e6 : (6 : Int) * (k : Int) = (k6 : Int) := by omega
        have hk6l : k6 ≤ 18 := by omega
        have HK6 := hide hk6
        clear hbk hk6
        go_wp2_with fail
        refine (unhide HNW).mono ?_
        rintro e y1 ⟨rfl, hW1, hb1, hs1⟩
        obtain ⟨bw, hbw⟩ : ∃ q, wo.heap.size = q := ⟨_, rfl⟩
        rw [hbw] at hW1
        have hbs : bw ≤ y1.heap.size := by omega
        have P0 := hide (show WPost bw bw (.slice none 0 0) (catL T k 0) 0 y1 y1 from WPost.refl hW1)
        have HY1 := hide (And.intro ((unhide HBK).trans (hb1.mono (unhide HBK).size)) (show z0.heap.size ≤ bw from by rw [← hbw]; exact (unhide HBK).size))
        rw [hbw]
        clear hW1 hb1 hs1 hbw HNW
        go_wp2
        go_loopw [16] (fun i wr => ∃ j : Nat, j ≤ 6 ∧ i = .int .i64 ((k6 + j : Nat) : Int) ∧ WPost bw bw (.slice none 0 0) (catL T k j) 0 y1 wr) (fun i _ => k6 + 6 - (intOf i).toNat)
        case atStart => exact ⟨0, by omega, rfl, unhide P0⟩
        case round =>
          obtain ⟨j, hj6, rfl, hP⟩ := hrel
          obtain ⟨wq, rfl⟩ : ∃ wq, wq = wr := ⟨_, rfl⟩
          clear P0
          have PJ := hide hP
          have hOP : Only (Fp bw (.slice none 0 0)) y1 wq := by obtain ⟨_, _, q, _⟩ := hP; exact q
          have hbq : Below z0.heap.size z0 wq := (unhide HY1).1.trans (hOP.below (unhide HY1).1.size (fun x hx q => by
            rcases q with q | q
            · have := (unhide HY1).2
              omega
            · cases q))
          have HBQ := hide hbq
          have hll := catL_len T (unhide HTO).ok k j
          have HLL := hide (show (catL T k j).length ≤ 222 from by omega)
          have HST := hide (catL_step T k j)
          rw [unhide HK6] at HST
          clear hP hOP hll
          obtain ⟨ij, hij⟩ : ∃ q, k6 + j = q := ⟨_, rfl⟩
          have hijl : ij ≤ 24 := by omega
          rw [hij] at HST ⊢
          have HIJ := hide hij
          by_cases hjn : j < 6
          · have hc1 : (ij : Int) < (k6 : Int) + 6 := by omega
            have j0 : (0 : Int) ≤ (ij : Int) := by omega
            cases hTi : T ij with
            | none =>
              rw [hTi] at HST
              have hmk := run_make_u8 37 37 (by omega) (by omega) wq
              simp only [Int.cast_ofNat_Int] at hmk
              obtain ⟨x2, hx2⟩ : ∃ q, wq.alloc (.cells ((List.replicate 37 (0 : Int)).map (Value.int .u8)).toArray 5) = q := ⟨_, rfl⟩
              have hA2 : Arr x2 wq.heap.size 0 .u8 (List.replicate 37 0) := by rw [← hx2]; exact arr_new wq .u8 _ 5 _ rfl
              have hcv := run_convert_bytes_arg (P := Tryz.prog) x2 49 5 Tryz.underlying49 Tryz.underlying5 wq.heap.size 0 37 37 (List.replicate 37 0) (by simp) (fun i hi => hA2.get i (by simpa using hi)) 9 Tryz.underlying9
              have HP2 := hide (rawK ((unhide PJ).below (w2 := x2) (by rw [← hx2]; exact (Below.refl _ _).alloc (Nat.le_refl _) _)) hbs (strOfNums (List.replicate 37 0)) (by rw [strOfNums_size, List.length_replicate]; have := unhide HLL; omega))
              rw [hx2] at hmk
              have HN0 := hide (show nums (strOfNums (List.replicate 37 0)) = slL none from nums_strOfNums _ (zeros_byte 37))
              generalize strOfNums (List.replicate 37 0) = s37 at *
              have HX2 := hide hx2
              clear hA2 hx2 hbq
              by_cases h20 : ij < 20
              · have hd1 : decide ((ij : Int) < 20) = true := decide_eq_true (by omega)
                have hi1 : (ij : Int) < 20 := by omega
                obtain ⟨a2, f2⟩ := ((unhide HZ).2.2.1.below (unhide HBQ)).at ij h20 2 (by decide)
                rw [hTi] at a2
                simp only [slC, List.getElem?_cons_zero, List.getElem?_cons_succ] at a2
                clear f2 hTi
                go_wp2_with fail
                refine (unhide HP2).mono ?_
                rintro e y3 ⟨rfl, hP3⟩
                rw [wl_good, unhide HN0, unhide HST] at hP3
                have P3 := hide hP3
                clear hP3 HP2 hcv hmk a2
                go_wp2
                go_roundw
                case rel => exact ⟨j + 1, by omega, by rw [← Nat.add_assoc, unhide HIJ]; go_num, unhide P3⟩
                case measure => simp [intOf]; omega
              · have hd1 : decide ((ij : Int) < 20) = false := decide_eq_false (by omega)
                have hn1 : ¬ ij < 20 := h20
                clear hTi
                go_wp2_with fail
                refine (unhide HP2).mono ?_
                rintro e y3 ⟨rfl, hP3⟩
                rw [wl_good, unhide HN0, unhide HST] at hP3
                have P3 := hide hP3
                clear hP3 HP2 hcv hmk
                go_wp2
                go_roundw
                case rel => exact ⟨j + 1, by omega, by rw [← Nat.add_assoc, unhide HIJ]; go_num, unhide P3⟩
                case measure => simp [intOf]; omega
            | some q =>
              obtain ⟨d, c2⟩ := q
              rw [hTi] at HST
              have h20 : ij < 20 := (unhide HTO).lt hTi
              obtain ⟨hd, hc2a, hc2b⟩ := (unhide HTO).ok ij d c2 hTi
              have hd1 : decide ((ij : Int) < 20) = true := decide_eq_true (by omega)
              have hi1 : (ij : Int) < 20 := by omega
              have hcn : 0 < c2 := hc2a
              have hcd : decide ((0 : Int) < (c2 : Int)) = true := decide_eq_true (by omega)
              obtain ⟨a1, f1⟩ := ((unhide HZ).2.2.1.below (unhide HBQ)).at ij h20 1 (by decide)
              obtain ⟨a2, f2⟩ := ((unhide HZ).2.2.1.below (unhide HBQ)).at ij h20 2 (by decide)
              rw [hTi] at a1 a2
              simp only [slC, List.getElem?_cons_zero, List.getElem?_cons_succ] at a1 a2
              have HDC := hide (And.intro hd (And.intro hc2b (And.intro hTi h20)))
              clear f1 f2 hTi hbq hd hc2b
              go_wp2_with fail
              refine (wnumK (unhide PJ) hbs 1 (by decide) (by decide) 1 ((fits1 1).2 (by omega)) (by have := unhide HLL; omega) 1 rfl _ rfl).mono ?_
              rintro e y3 ⟨rfl, hP3⟩
              have P3 := hide hP3
              have hO3 : Only (Fp bw (.slice none 0 0)) y1 y3 := by obtain ⟨_, _, q, _⟩ := hP3; exact q
              have hb3 : Below z0.heap.size z0 y3 := (unhide HY1).1.trans (hO3.below (unhide HY1).1.size (fun x hx q => by
                rcases q with q | q
                · have := (unhide HY1).2
                  omega
                · cases q))
              obtain ⟨b1, f1⟩ := ((unhide HZ).2.2.1.below hb3).at ij (unhide HDC).2.2.2 1 (by decide)
              rw [(unhide HDC).2.2.1] at b1
              simp only [slC, List.getElem?_cons_zero, List.getElem?_cons_succ] at b1
              clear hP3 hO3 hb3 f1 a1 a2
              go_wp2_with fail
              refine (rawK (unhide P3) hbs d (by rw [(unhide HDC).1, List.length_append, numB_len]; have := unhide HLL; omega)).mono ?_
              rintro e y4 ⟨rfl, hP4⟩
              rw [wl_good] at hP4
              have P4 := hide hP4
              have hO4 : Only (Fp bw (.slice none 0 0)) y1 y4 := by obtain ⟨_, _, q, _⟩ := hP4; exact q
              have hb4 : Below z0.heap.size z0 y4 := (unhide HY1).1.trans (hO4.below (unhide HY1).1.size (fun x hx q => by
                rcases q with q | q
                · have := (unhide HY1).2
                  omega
                · cases q))
              obtain ⟨g2, f2⟩ := ((unhide HZ).2.2.1.below hb4).at ij (unhide HDC).2.2.2 2 (by decide)
              rw [(unhide HDC).2.2.1] at g2
              simp only [slC, List.getElem?_cons_zero, List.getElem?_cons_succ] at g2
              clear hP4 hO4 hb4 f2 b1 P3
              go_wp2_with fail
              refine (wnumK (unhide P4) hbs 4 (by decide) (by decide) (c2 : Int) (fits4c c2 (unhide HDC).2.1) (by rw [List.length_append, List.length_append, numB_len, nums_len, (unhide HDC).1]; have := unhide HLL; omega) 4 rfl _ rfl).mono ?_
              rintro e y5 ⟨rfl, hP5⟩
              have hcat : catL T k j ++ numB 1 1 ++ nums d ++ numB (c2 : Int) 4 = catL T k (j + 1) := by
                rw [← unhide HST, numB_1]
                simp [slL]
              rw [hcat] at hP5
              have P5 := hide hP5
              clear hP5 P4 g2 hcat
              go_wp2
              go_roundw
              case rel => exact ⟨j + 1, by omega, by rw [← Nat.add_assoc, unhide HIJ]; go_num, unhide P5⟩
              case measure => simp [intOf]; omega
          · have hc1 : ¬ (ij : Int) < (k6 : Int) + 6 := by omega
            have hj : j = 6 := by omega
            have HJ := hide hj
            have HDN := hide (doneK (unhide PJ))
            rw [hj, catL_all] at HDN
            have hbs2 := ibd_size T (unhide HTO).ok k
            have HMK := hide (fun W => make_any rep_ok 4 (k : Int) (ibd T k) W)
            rw [pgI_err k (by omega) _ hbs2, show makeB 4 (k : Int) (ibd T k) = pgI k (ibd T k) from rfl] at HMK
            have hkp : k < ipgs 20 := by show k < 4; exact hkn
            have hLk := (unhide HZ).1 k hkp
            have HLK := hide hLk
            clear hj hbs2 hbq hkp hLk
            generalize ibd T k = bd at *
            go_wp2_with fail
            refine (unhide HDN).mono ?_
            rintro e y3 ⟨rfl, hP3⟩
            have hO3 : Only (Fp bw (.slice none 0 0)) y1 y3 := by obtain ⟨_, _, q, _⟩ := hP3; exact q
            have hb3 : Below z0.heap.size z0 y3 := (unhide HY1).1.trans (hO3.below (unhide HY1).1.size (fun x hx q => by
              rcases q with q | q
              · have := (unhide HY1).2
                omega
              · cases q))
            have HB3 := hide hb3
            clear hP3 hO3 hb3 HDN
            obtain ⟨pg, hpg⟩ : ∃ q, pgI k bd = q := ⟨_, rfl⟩
            rw [hpg] at HMK HLK
            clear hpg
            go_wp2_with fail
            refine (unhide HMK _).mono ?_
            rintro e y4 ⟨rfl, hb4⟩
            have hb04 : Below z0.heap.size z0 y4 := (unhide HB3).trans (hb4.mono (unhide HB3).size)
            obtain ⟨gx, ox, ex, hgx, hcx⟩ := (unhide HZ).2.2.2.2 (30 + k) (by rw [(unhide HZ).2.1]; omega)
            rw [unhide HLK] at hcx
            have egx : gi = gx ∧ ox = 0 := by
              injection ex with ex
              injection ex with e1 e2
              exact ⟨e1, e2.symm⟩
            obtain ⟨rfl, rfl⟩ := egx
            rw [← hb04.cell (p := ⟨gi, _, none⟩) hgx, Nat.zero_add] at hcx
            have e30 : (30 : Int) + (k : Int) = ((30 + k : Nat) : Int) := by omega
            have h30 : 30 + k < 128 := by omega
            have hse : (pg.toList == pg.toList) = true := by simp
            have HB4 := hide hb04
            clear hb4 hb04 ex hgx HMK
            obtain ⟨k30, hk30⟩ : ∃ q, 30 + k = q := ⟨_, rfl⟩
            rw [hk30] at hcx e30 h30
            have h0 : (0 : Int) ≤ (k30 : Int) := by omega
            have h1 : (k30 : Int) < 128 := by omega
            clear hk30
            go_wp2
            go_roundw
            case rel => exact ⟨k + 1, by omega, by go_num, unhide HB4⟩
            case measure => simp [intOf]; omega
      · have hkn' : ¬ (k : Int) < 4 := by omega
        have HB := hide ((unhide H0).1.trans (((unhide HZ).2.2.2.1.trans (hbk.mono (unhide HZ).2.2.2.1.size)).mono (unhide H0).1.size))
        clear hbk
        go_wp2
        go_ret
        exact ⟨rfl, unhide HB⟩
  clear aKL
  go_loopw [10] (fun i wr => ∃ k : Nat, k ≤ m ∧ k ≤ 60 ∧ i = .int .i64 (k : Int) ∧ Run x0 b jb pb xb (fun x => x = wb) 30 20 4 L A hn (fun _ => none) wb wr) (fun i _ => m - (intOf i).toNat)
  case atStart => exact ⟨0, by omega, by omega, rfl, unhide X3⟩
  case round =>
    obtain ⟨k, hk, hk60, rfl, T, hS, hW⟩ := hrel
    obtain ⟨wo, rfl⟩ : ∃ wo, wo = wr := ⟨_, rfl⟩
    clear X3
    by_cases hkn : k < m ∧ k < 60
    · have hd1 : decide ((k : Int) < (m : Int)) = true := decide_eq_true (by omega)
      have hd2 : decide ((k : Int) < 60) = true := decide_eq_true (by omega)
      have k0 : (0 : Int) ≤ (k : Int) := by omega
      have k1 : (k : Int) < (m : Int) := by omega
      obtain ⟨g, o, kd, pl, dg, ct, rfl, hgl, c0, c1, c2, c3, i1, i2, i3⟩ := (unhide H0).2 k hkn.1
      have hbel := hS.bel
      rw [← hbel.cell (p := ⟨g, _, none⟩) hgl] at c0 c1 c2 c3
      have HCH := hide (change_any hS (by decide) (by decide) rfl (unhide H2).2.2 hW kd pl dg ct i1 i2 i3)
      clear hS hW hbel hgl i1 i2 i3
      have HKK := hide hKK
      clear hKK
      go_wp2_with fail
      refine (unhide HCH).mono ?_
      rintro e y1 ⟨rfl, hC⟩
      have HC := hide hC.run
      clear hC HCH
      go_wp2
      go_roundw
      case rel => exact ⟨k + 1, by omega, by omega, by go_num, unhide HC⟩
      case measure => simp [intOf]; omega
    · have hdd : (¬ k < m ∧ decide ((k : Int) < (m : Int)) = false) ∨ (decide ((k : Int) < (m : Int)) = true ∧ decide ((k : Int) < 60) = false ∧ k < m ∧ ¬ k < 60) := by
        by_cases q : k < m
        · exact .inr ⟨decide_eq_true (by omega), decide_eq_false (by omega), q, by omega⟩
        · exact .inl ⟨q, decide_eq_false (by omega)⟩
      have HRN := hide (show Run x0 b jb pb xb (fun x => x = wb) 30 20 4 L A hn (fun _ => none) wb wo from ⟨T, hS, hW⟩)
      have HKK := hide hKK
      clear hS hW hkn hKK
      rcases hdd with ⟨hq1, hd1⟩ | ⟨hd1, hd2, hq1, hq2⟩
      · go_wp2
        exact unhide HKK _ _ _ _ _ _ _ _ _ _ _ _ _ _ _ _ _ _ _ _ _ _ _ (unhide HRN)
      · go_wp2
        exact unhide HKK _ _ _ _ _ _ _ _ _ _ _ _ _ _ _ _ _ _ _ _ _ _ _ (unhide HRN)
end Go.Proofs.YtnfcnpolflfpfaaGreatDoor
