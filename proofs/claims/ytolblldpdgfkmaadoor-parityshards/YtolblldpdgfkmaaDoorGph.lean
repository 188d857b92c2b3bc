import Derived.Test.YtolblldpdgfkmaaDoorGpg
namespace Go.Proofs.YtolblldpdgfkmaaDoor
open Go.RowKit
set_option maxRecDepth 100000
theorem pweight_any (n k i : Nat) (hn : n ≤ 16) (hk : k < n + 8) (hi : i < n) (w : World) : Calls Tryd.prog 57 #[.int .i64 (k : Int), .int .i64 (i : Int), .int .i64 (n : Int)] w fun e w' => e = .returned (.int .u8 ((wt n k i).v : Int)) ∧ w' = w := by
  by_cases h1 : k < n
  · have h1' : ¬ (n : Int) ≤ (k : Int) := by omega
    by_cases h2 : k = i
    · have HE := hide (show (wt n k i).v = 1 from by unfold wt; rw [if_pos h1, if_pos h2]; rfl)
      have h2' : ((k : Int) == (i : Int)) = true := by simp; omega
      rw [unhide HE]
      clear h2 hi hk
      go_enter Tryd.func57, Tryd.ntmps57
      go_wp2
      go_ret
      exact ⟨rfl, rfl⟩
    · have HE := hide (show (wt n k i).v = 0 from by unfold wt; rw [if_pos h1, if_neg h2]; rfl)
      have h2' : ((k : Int) == (i : Int)) = false := by simp; omega
      rw [unhide HE]
      clear hi hk
      go_enter Tryd.func57, Tryd.ntmps57
      go_wp2
      go_ret
      exact ⟨rfl, rfl⟩
  · have h1' : (n : Int) ≤ (k : Int) := by omega
    have hx : (16 + (k - n)) ^^^ i < 256 := Nat.xor_lt_two_pow (n := 8) (by omega) (by omega)
    have HV := hide (show (wt n k i).v = giv ((16 + (k - n)) ^^^ i) from by
      unfold wt
      rw [if_neg h1]
      show giv ((16 + (k - n)) % 256 ^^^ i % 256) = _
      rw [Nat.mod_eq_of_lt (by omega : 16 + (k - n) < 256), Nat.mod_eq_of_lt (by omega : i < 256)])
    have e1 : IntKind.i64.wrap (16 + (k : Int)) = 16 + (k : Int) := wrapI_eq _ (by omega) (by omega)
    have e2 : IntKind.i64.wrap (16 + (k : Int) - (n : Int)) = ((16 + (k - n) : Nat) : Int) := by rw [wrapI_eq _ (by omega) (by omega)]; omega
    have e3 := xor64n (16 + (k - n)) i (by omega) (by omega)
    have HM := hide (fun W => pinverse_any _ hx W)
    rw [unhide HV]
    obtain ⟨q, hq⟩ : ∃ q, 16 + (k - n) = q := ⟨_, rfl⟩
    rw [hq] at e2 e3 HM ⊢
    obtain ⟨r, hr⟩ : ∃ r, q ^^^ i = r := ⟨_, rfl⟩
    rw [hq, hr] at hx
    rw [hr] at e3 HM ⊢
    have e4 : (r : Int) % 256 = (r : Int) := by omega
    clear HV hq hr hx h1
    go_enter Tryd.func57, Tryd.ntmps57
    go_wp2_with fail
    refine (unhide HM _).mono ?_
    rintro e w' ⟨rfl, hw'⟩
    subst w'
    go_wp2
    go_ret
    exact ⟨rfl, rfl⟩
theorem pmay_any (n m : Int) (w : World) : Calls Tryd.prog 29 #[.int .i64 n, .int .i64 m] w fun e w' => e = .returned (.bool (cntB n m)) ∧ w' = w := by
  obtain ⟨B, hB⟩ : ∃ B, cntB n m = B := ⟨_, rfl⟩
  rw [hB]
  have HB := hide hB
  clear hB
  by_cases h1 : 1 ≤ n
  · by_cases h2 : n ≤ 16
    · by_cases h3 : 0 ≤ m
      · by_cases h4 : m ≤ 8
        · obtain rfl : B = true := by rw [← unhide HB]; exact decide_eq_true ⟨h1, h2, h3, h4⟩
          go_enter Tryd.func29, Tryd.ntmps29
          go_wp2
          go_ret
          exact ⟨rfl, rfl⟩
        · obtain rfl : B = false := by rw [← unhide HB]; exact decide_eq_false (fun q => h4 q.2.2.2)
          go_enter Tryd.func29, Tryd.ntmps29
          go_wp2
          go_ret
          exact ⟨rfl, rfl⟩
      · obtain rfl : B = false := by rw [← unhide HB]; exact decide_eq_false (fun q => h3 q.2.2.1)
        go_enter Tryd.func29, Tryd.ntmps29
        go_wp2
        go_ret
        exact ⟨rfl, rfl⟩
    · obtain rfl : B = false := by rw [← unhide HB]; exact decide_eq_false (fun q => h2 q.2.1)
      go_enter Tryd.func29, Tryd.ntmps29
      go_wp2
      go_ret
      exact ⟨rfl, rfl⟩
  · obtain rfl : B = false := by rw [← unhide HB]; exact decide_eq_false (fun q => h1 q.1)
    go_enter Tryd.func29, Tryd.ntmps29
    go_wp2
    go_ret
    exact ⟨rfl, rfl⟩
/-- the first ones in memory: their numbers, their bytes; in blocks below B -/
structure FoM (w : World) (B n len : Nat) (pn ps : Option Addr) (f : Nat → Nat) (D : Nat → Nat → G) : Prop where
  nums : ∀ r, r < n → ∃ g o, pn = some ⟨g, o, none⟩ ∧ g < B ∧ w.cell? ⟨g, o + r, none⟩ = some (.int .i64 (f r : Int))
  shs : ∀ r, r < n → ∃ g o q c, ps = some ⟨g, o, none⟩ ∧ g < B ∧ w.cell? ⟨g, o + r, none⟩ = some (.slice (some ⟨q, 0, none⟩) len c) ∧ q < B ∧ ∀ k, k < len → w.cell? ⟨q, k, none⟩ = some (.int .u8 ((D r k).v : Int))
theorem FoM.below {w w' : World} {B n len : Nat} {pn ps : Option Addr} {f : Nat → Nat} {D : Nat → Nat → G} (h : FoM w B n len pn ps f D) (hb : Below B w w') : FoM w' B n len pn ps f D := by
  refine ⟨fun r hr => ?_, fun r hr => ?_⟩
  · obtain ⟨g, o, e, hg, hc⟩ := h.nums r hr
    exact ⟨g, o, e, hg, (hb.cell (p := ⟨g, o + r, none⟩) hg).trans hc⟩
  · obtain ⟨g, o, q, c, e, hg, hc, hq, hk⟩ := h.shs r hr
    exact ⟨g, o, q, c, e, hg, (hb.cell (p := ⟨g, o + r, none⟩) hg).trans hc, hq, fun k hkl => (hb.cell (p := ⟨q, k, none⟩) hq).trans (hk k hkl)⟩
theorem wE_lt (n : Nat) (f : Nat → Nat) (k i r : Nat) (hr : r < n) : wE n f k i r = wt n (f r) i := by
  unfold wE
  rw [if_pos hr]
theorem wE_last (n : Nat) (f : Nat → Nat) (k i : Nat) : wE n f k i n = wt n k i := by
  unfold wE
  rw [if_neg (Nat.lt_irrefl n)]
/-- what weights answers -/
def WgQ (n : Nat) (f : Nat → Nat) (k : Nat) (w : World) (e : Ending) (w' : World) : Prop := Below w.heap.size w w' ∧ ∃ C x, Ga n 0 (wE n f k) true C ∧ e = .returned x ∧ w'.ownsRow w.heap.size 5 1 x n (gW n (fun r => C r n))
set_option maxHeartbeats 16000000 in
theorem pweights_any (w : World) (B n len k cn cs : Nat) (pn ps : Option Addr) (f : Nat → Nat) (D : Nat → Nat → G) (hf : Fst n f) (hk : k < n + 8) (hM : FoM w B n len pn ps f D) (hB : B ≤ w.heap.size) : Calls Tryd.prog 41 #[.agg #[.slice pn n cn, .slice ps n cs], .int .i64 (k : Int)] w (WgQ n f k w) := by
  have hn2 := hf.n2
  have hn1 := hf.n1
  have HF := hide hf
  clear hf
  obtain ⟨i0, hi, hz0, hz1, hz2⟩ := info_parts info5
  have HI := hide (And.intro hi (And.intro hz0 (And.intro hz1 hz2)))
  clear hi hz0 hz1 hz2
  obtain ⟨i9, hi, hz0, hz1, hz2⟩ := info_parts gr_brow
  have HJ := hide (And.intro hi (And.intro hz0 (And.intro hz1 hz2)))
  clear hi hz0 hz1 hz2
  obtain ⟨wb, hwb⟩ : ∃ q, w.alloc (.cells #[.slice pn n cn, .slice ps n cs] 43) = q := ⟨_, rfl⟩
  have HW := hide (show Below w.heap.size w wb ∧ w.heap.size < wb.heap.size ∧ wb.cell? ⟨w.heap.size, 0, none⟩ = some (.slice pn n cn) from by
    subst hwb
    exact ⟨(Below.refl _ _).alloc (Nat.le_refl _) _, by simp, (Blk.new w _ _).cell 0⟩)
  have hc0 := (unhide HW).2.2
  have HM := hide (And.intro hM hB)
  clear hM hB
  have hbs := (unhide HW).2.1
  go_enter Tryd.func41, Tryd.ntmps41
  go_wp2
  clear hwb
  go_loopw [6, 17] (fun u i wx => ∃ (r : Nat) (vx : Nat → Value), r ≤ n ∧ i = .int .i64 (r : Int) ∧ Hid (RR wb.heap.size 51 5 wx u r vx (fun i => gW (n + 1) (wE n f k i)) ∧ Below wb.heap.size wb wx)) (fun _ i _ => n - (intOf i).toNat)
  case atStart => exact ⟨0, fun _ => .slice none 0 0, by omega, rfl, hide ⟨RR.new _ _ _ _ _ _, Below.refl _ _⟩⟩
  case round =>
    obtain ⟨i, vx, hi, rfl, HR⟩ := hrel
    obtain ⟨wk, rfl⟩ : ∃ q, q = wr := ⟨_, rfl⟩
    obtain ⟨pu, cu, rfl, _⟩ := gr_form (unhide HR).1.row
    by_cases hin : i < n
    case neg =>
      obtain rfl : i = n := by omega
      have hin' : ¬ (i : Int) < (i : Int) := by omega
      have HS := hide (psolve_any wk wb.heap.size i cu pu vx (wE i f k) (by omega) (unhide HR).1 (unhide HR).2.size)
      have HRB := hide (unhide HR).2
      clear HR hc0
      go_wp2_with fail
      refine (unhide HS).mono ?_
      rintro e w2 ⟨ok, C, hga, hb2, h3, h4⟩
      obtain rfl := (unhide HF).ga k hga
      obtain ⟨x, rfl, hx⟩ := h3 rfl
      have hsw := (unhide HRB).size
      have HE := hide (show WgQ i f k w (.returned x) w2 from ⟨(unhide HW).1.trans (((unhide HRB).trans hb2).mono (by omega)), C, x, hga, rfl, gr_mono hx (by omega)⟩)
      clear h3 h4 hga hb2 hx hsw HS
      go_wp2
      go_ret
      exact unhide HE
    have hin' : (i : Int) < (n : Int) := by omega
    have hks := (unhide HR).2.size
    have hck0 : wk.cell? ⟨w.heap.size, 0, none⟩ = some (.slice pn n cn) := ((unhide HR).2.cell (p := ⟨w.heap.size, 0, none⟩) hbs).trans hc0
    have hmk : (Instr.makeSlice 51 (.int .i64 0) (.int .i64 ((n : Int) + 1))).run Tryd.prog wk = .ok (.slice (some ⟨wk.heap.size, 0, none⟩) 0 (n + 1)) (wk.alloc (.cells ((List.replicate (n + 1) (0 : Int)).map (Value.int .u8)).toArray 5)) := by
      have h := run_make_u8 0 (n + 1) (by omega) (by omega) wk
      rw [show ((n : Int) + 1) = ((n + 1 : Nat) : Int) by omega]
      exact h
    obtain ⟨w0, hw0⟩ : ∃ q, wk.alloc (.cells ((List.replicate (n + 1) (0 : Int)).map (Value.int .u8)).toArray 5) = q := ⟨_, rfl⟩
    have HO0 := hide (show w0.ownsRow wk.heap.size 5 1 (.slice (some ⟨wk.heap.size, 0, none⟩) 0 (n + 1)) 0 (gW 0 (wE n f k i)) ∧ Below wk.heap.size wk w0 from by
      subst hw0
      exact ⟨own_made wk wk.heap.size 0 (n + 1) (by omega) (by unfold maxLen; omega) (Nat.le_refl _), (Below.refl _ _).alloc (Nat.le_refl _) _⟩)
    rw [hw0] at hmk
    clear hw0
    have hcw0 : w0.cell? ⟨w.heap.size, 0, none⟩ = some (.slice pn n cn) := ((unhide HO0).2.cell (p := ⟨w.heap.size, 0, none⟩) (by show w.heap.size < wk.heap.size; omega)).trans hck0
    have hwk : w.heap.size < wk.heap.size := by omega
    have hbk9 : wb.heap.size ≤ wk.heap.size := hks
    obtain ⟨bk, hbk⟩ : ∃ q, wk.heap.size = q := ⟨_, rfl⟩
    rw [hbk] at hmk HO0 hwk hbk9
    have HBK := hide hbk
    clear hbk hks
    go_wp2
    go_loopw [8, 26] (fun u i' wx => ∃ j : Nat, j ≤ n ∧ i' = .int .i64 (j : Int) ∧ Hid (wx.ownsRow bk 5 1 u j (gW j (wE n f k i)) ∧ Below bk wk wx)) (fun _ i _ => n - (intOf i).toNat)
    case atStart => exact ⟨0, by omega, rfl, HO0⟩
    case round =>
    obtain ⟨j, hj, rfl, HA⟩ := hrel
    obtain ⟨wj, rfl⟩ : ∃ q, q = wr := ⟨_, rfl⟩
    obtain ⟨pr, cr, rfl, _⟩ := gr_form (unhide HA).1
    have hjs := (unhide HA).2.size
    rw [unhide HBK] at hjs
    clear HO0 hmk hcw0
    by_cases hjn : j < n
    case pos =>
      have hjn' : (j : Int) < (n : Int) := by omega
      obtain ⟨ge, oe, rfl, hge, hce0⟩ := (unhide HM).1.nums j hjn
      have hce : wj.cell? ⟨ge, oe + j, none⟩ = some (.int .i64 (f j : Int)) := by
        have q1 := (unhide HW).1.cell (p := ⟨ge, oe + j, none⟩) (show ge < w.heap.size by have := (unhide HM).2; omega)
        have q2 := (unhide HR).2.cell (p := ⟨ge, oe + j, none⟩) (show ge < wb.heap.size by have := (unhide HM).2; omega)
        have q3 := (unhide HA).2.cell (p := ⟨ge, oe + j, none⟩) (show ge < bk by have := (unhide HM).2; omega)
        exact q3.trans (q2.trans (q1.trans hce0))
      have HWT := hide (fun W => pweight_any n (f j) i hn2 ((unhide HF).lt j hjn) hin W)
      have HV := hide (show gW (j + 1) (wE n f k i) = gW j (wE n f k i) ++ [.int .u8 ((wt n (f j) i).v : Int)] from by rw [gW_succ, wE_lt n f k i j hjn])
      obtain ⟨fj, hfj⟩ : ∃ q, f j = q := ⟨_, rfl⟩
      rw [hfj] at hce HWT HV
      obtain ⟨sq, hsq⟩ : ∃ q, (wt n fj i).v = q := ⟨_, rfl⟩
      rw [hsq] at HWT HV
      have HO := hide (show (wj.alloc (.cells #[.int .u8 (sq : Int)] 5)).ownsRow bk 5 1 (.slice pr j cr) j (gW j (wE n f k i)) from (unhide HA).1.alloc _)
      have HB := hide (unhide HA).2
      clear hfj hsq HA hce0
      go_wp2_with fail
      refine (unhide HWT _).mono ?_
      rintro e w' ⟨rfl, hw'⟩
      subst w'
      go_wp2_with (refine wpList_append_lies _ rfl (.tmp 30) (.tmp 35) 51 rfl bk 5 i0 (.int .u8 0) 1 1 Tryd.underlying51 (unhide HI).1 (unhide HI).2.1 (unhide HI).2.2.1 (unhide HI).2.2.2 rfl (by decide) _ j _ rfl (unhide HO) ⟨wj.heap.size, 0, none⟩ 1 1 [.int .u8 (sq : Int)] rfl rfl (fun q u hu => gr_new wj 5 _ q u hu) (by simp [Value.oneCell']) (by decide) (by unfold maxLen; omega) (by omega) (by simp; omega) (wj.heap.size + 1) (by simp) ?_)
      intro g5 cap5 x5 ho5 hg5 hgg hgl
      have HN := hide (show x5.ownsRow bk 5 1 (.slice (some ⟨g5, 0, none⟩) (j + 1) cap5) (j + 1) (gW (j + 1) (wE n f k i)) ∧ Below bk wk x5 from ⟨by rw [unhide HV]; exact ho5, ((unhide HB).alloc (by omega) _).grown hg5 (by simp; omega) (fun q hq => ((unhide HO).lt q hq).1)⟩)
      clear ho5 hg5 hgg hgl HO HB
      go_wp2
      go_roundw
      case rel => exact ⟨j + 1, by omega, by go_num, HN⟩
      case measure => simp [intOf] <;> omega
    obtain rfl : j = n := by omega
    have hjn' : ¬ (j : Int) < (j : Int) := by omega
    have HWT := hide (fun W => pweight_any j k i hn2 hk hin W)
    have HV := hide (show gW (j + 1) (wE j f k i) = gW j (wE j f k i) ++ [.int .u8 ((wt j k i).v : Int)] from by rw [gW_succ, wE_last])
    obtain ⟨x, hx⟩ : ∃ q, (wt j k i).v = q := ⟨_, rfl⟩
    rw [hx] at HWT HV
    have HO := hide (show (wj.alloc (.cells #[.int .u8 (x : Int)] 5)).ownsRow bk 5 1 (.slice pr j cr) j (gW j (wE j f k i)) from (unhide HA).1.alloc _)
    have HB := hide (unhide HA).2
    have HRb := hide (unhide HR)
    clear hx HA HR hck0
    go_wp2_with fail
    refine (unhide HWT _).mono ?_
    rintro e w' ⟨rfl, hw'⟩
    subst w'
    go_wp2_with (refine wpList_append_lies _ rfl (.tmp 39) (.tmp 44) 51 rfl bk 5 i0 (.int .u8 0) 1 1 Tryd.underlying51 (unhide HI).1 (unhide HI).2.1 (unhide HI).2.2.1 (unhide HI).2.2.2 rfl (by decide) _ j _ rfl (unhide HO) ⟨wj.heap.size, 0, none⟩ 1 1 [.int .u8 (x : Int)] rfl rfl (fun q u hu => gr_new wj 5 _ q u hu) (by simp [Value.oneCell']) (by decide) (by unfold maxLen; omega) (by omega) (by simp; omega) (wj.heap.size + 1) (by simp) ?_)
    intro g2 c2 w2 ho2 hg2 _ _
    have hbw2 : Below bk wk w2 := ((unhide HB).alloc (by omega) _).grown hg2 (by simp; omega) (fun q hq => ((unhide HO).lt q hq).1)
    have HD := hide (show w2.ownsRow bk 5 1 (.slice (some ⟨g2, 0, none⟩) (j + 1) c2) (j + 1) (gW (j + 1) (wE j f k i)) from by rw [unhide HV]; exact ho2)
    have HB2 := hide (show Below wk.heap.size wk w2 from by rw [unhide HBK]; exact hbw2)
    have HR2 := hide ((((unhide HRb).1.below (unhide HB2)).congrV (x := fun q => if q = i then .slice (some ⟨g2, 0, none⟩) (j + 1) c2 else vx q) (fun q hq => by rw [if_neg (by omega)])).below ((Below.refl _ w2).alloc (Nat.le_refl _) (.cells #[.slice (some ⟨g2, 0, none⟩) (j + 1) c2] 51)))
    have HRO := hide (unhide HR2).row
    have hb2s := (unhide HB2).size
    have hwk2 : bk ≤ w2.heap.size := by rw [← unhide HBK]; exact hb2s
    clear ho2 hg2 hbw2 HO HB hb2s
    go_wp2_with (refine wpList_append_lies _ rfl (.tmp 38) (.tmp 46) 90 rfl wb.heap.size 51 i9 (.slice none 0 0) 1 24 Tryd.underlying90 (unhide HJ).1 (unhide HJ).2.1 (unhide HJ).2.2.1 (unhide HJ).2.2.2 rfl (by decide) _ i _ rfl (unhide HRO) ⟨w2.heap.size, 0, none⟩ 1 1 [.slice (some ⟨g2, 0, none⟩) (j + 1) c2] rfl rfl (fun q u hu => gr_new w2 51 _ q u hu) (by simp [Value.oneCell']) (by decide) (by unfold maxLen; omega) (by omega) (by simp; omega) (w2.heap.size + 1) (by simp) ?_)
    intro g3 c3 w3 ho3 hg3 _ _
    have HN := hide (show RR wb.heap.size 51 5 w3 (.slice (some ⟨g3, 0, none⟩) (i + 1) c3) (i + 1) (fun q => if q = i then .slice (some ⟨g2, 0, none⟩) (j + 1) c2 else vx q) (fun i => gW (j + 1) (wE j f k i)) ∧ Below wb.heap.size wb w3 from by
      have hwb : Below wb.heap.size wb w2 := (unhide HRb).2.trans ((unhide HB2).mono (by rw [unhide HBK]; exact hbk9))
      refine ⟨(unhide HR2).push (by decide) (.slice (some ⟨g2, 0, none⟩) (j + 1) c2) (gW (j + 1) (wE j f k i)) ?_ ?_ (by simp) rfl ho3 hg3, (hwb.alloc hwb.size _).grown hg3 (by have := hwb.size; simp; omega) (fun q hq => ((unhide HRO).lt q hq).1)⟩
      · rw [gW_len]
        exact gr_mono ((unhide HD).alloc _) hbk9
      · intro q hq y hy z
        rw [if_neg (by omega)] at hy
        have h1 := (((unhide HRb).1.own q hq).lt y hy).2
        have h2 := ((unhide HD).lt y z).1
        rw [← unhide HBK] at h2
        omega)
    clear ho3 hg3 HR2 HRO HD HB2 HRb
    go_wp2
    go_roundw
    case rel => exact ⟨i + 1, _, by omega, by go_num, HN⟩
    case measure => simp [intOf] <;> omega
end Go.Proofs.YtolblldpdgfkmaaDoor
