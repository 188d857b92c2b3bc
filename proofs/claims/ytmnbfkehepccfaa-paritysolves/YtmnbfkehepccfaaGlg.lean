import Derived.Test.YtmnbfkehepccfaaGlf
import Derived.StillTailTactics
import Derived.Laws.CopyOwn
namespace Go.Proofs.Ytmnbfkehepccfaa
open Go.RowKit
set_option maxRecDepth 100000
/-- the numbers at a place, as far as they are below some block -/
theorem GLs.mono {w : World} {B C : Nat} {p : Option Addr} {L : List Int} (h : GLs w B p L) (hc : B ≤ C) : GLs w C p L := fun j hj => by
  obtain ⟨g, o, e, hg, hc2⟩ := h j hj
  exact ⟨g, o, e, by omega, hc2⟩
theorem own_setRow {w : World} {base g n cap : Nat} {e : TypeId} {xs : List Value} (h : w.ownsRow base e 1 (.slice (some ⟨g, 0, none⟩) n cap) n xs) : ∃ cur : Array Value, w.heap[g]? = some (.cells cur e (0, 0)) ∧ n ≤ cur.size ∧ ∀ ys : List Value, ys.length = n → (w.setRow g (cur.toList.take 0 ++ (ys ++ cur.toList.drop (0 + ys.length))).toArray).ownsRow base e 1 (.slice (some ⟨g, 0, none⟩) n cap) n ys ∧ w.grownBy (w.setRow g (cur.toList.take 0 ++ (ys ++ cur.toList.drop (0 + ys.length))).toArray) (some g) := by
  rcases h.2 with ⟨h1, _⟩ | ⟨g', cap', cur, h1, hb, hg, hn, hc, hs, hx⟩
  · cases h1
  · obtain ⟨rfl, rfl⟩ : g' = g ∧ cap' = cap := by injection h1 with e1 e2 e3; injection e1 with e1; injection e1 with e1; exact ⟨e1.symm, e3.symm⟩
    refine ⟨cur, hg, by omega, fun ys hy => ⟨⟨by omega, .inr ⟨g', cap', _, rfl, hb, setRow_heap w g' cur _ e _ hg, hn, hc, ?_, ?_⟩⟩, ⟨rfl, rfl, rfl, by simp [World.setRow], fun k _ hk => setRow_other w g' k _ (fun q => hk (by rw [q]))⟩⟩⟩
    · simp
      omega
    · rw [Nat.mul_one, List.take_zero, List.nil_append, ← hy]
      exact List.take_left
theorem SoI.copy {n gx gs gl : Nat} {X : Nat → G} {w1 wr : World} {v : Nat → Value} {A : Nat → Nat → G} {LF : Nat → G} (h : SoI n gx gs gl X w1 wr v (fun i => gV n (A i)) LF) (a g cap : Nat) (ha : a < n) (hv : v a = .slice (some ⟨g, 0, none⟩) n cap) (F : Nat → G) (w2 : World) (h2 : w2.ownsRow (gx + 1) 3 1 (.slice (some ⟨g, 0, none⟩) n cap) n (gV n F)) (hg : wr.grownBy w2 (some g)) : SoI n gx gs gl X w1 w2 v (fun i => gV n (if i = a then F else A i)) LF := by
  have hga := ((h.sq.own a ha).lt g (by rw [hv]; rfl)).1
  have hgl : gl ≠ g := fun e => h.ap a ha (by rw [hv, e]; rfl)
  have l1 := h.l1
  have l2 := h.l2
  have hs := hg.size
  refine ⟨h.x.kept hg (.inr (ne_blk (by omega))), ⟨h.sq.row.kept hg (.inr (fun e => own_types (h.sq.own a ha) h.sq.row (by decide) g (by rw [hv]; rfl) e)), fun i hi => ?_, h.sq.dis⟩, h.ls.kept hg (.inr (ne_blk hgl)), h.ap, h.l1, h.l2, by have := h.l3; omega, h.bel.grown hg (by have := h.l3; omega) (fun q hq => by injection hq with hq; omega)⟩
  by_cases e : i = a
  · subst e
    simp only [if_true]
    rw [hv, gV_len]
    exact h2
  · simp only [if_neg e]
    refine (h.sq.own i hi).kept hg ?_
    cases hy : (v i).ownBlock with
    | none => exact .inl rfl
    | some x => exact .inr (fun q => by
        injection q with q
        subst q
        exact h.sq.dis i a hi ha e x hy (by rw [hv]; rfl))
theorem SoI.below {n gx gs gl : Nat} {X : Nat → G} {w1 wr w' : World} {v : Nat → Value} {C : Nat → List Value} {LF : Nat → G} (h : SoI n gx gs gl X w1 wr v C LF) (hb : Below wr.heap.size wr w') : SoI n gx gs gl X w1 w' v C LF :=
  have hs := hb.size
  have ho : Only (fun _ => False) wr w' := Only.of_below hb
  ⟨owns_only h.x ho (fun _ _ q => q), h.sq.below hb, owns_only h.ls ho (fun _ _ q => q), h.ap, h.l1, h.l2, by have := h.l3; omega, h.bel.trans (hb.mono (by have := h.l1; have := h.l2; have := h.l3; omega))⟩
/-- rows that are whole, and none -/
def fjC (n : Nat) (R : List Int) (i k : Nat) : List Value := if k < i then gV n (solA n R k) else []
theorem soL_eq {n : Nat} {A B : Nat → G} (h : ∀ i, i < n → A i = B i) : soL n A = soL n B := by
  unfold soL
  exact List.map_congr_left (fun i hi => by rw [h i (List.mem_range.1 hi)])
theorem row_gls {w : World} {b g n c : Nat} {F : Nat → G} (ho : w.ownsRow b 3 1 (.slice (some ⟨g, 0, none⟩) n c) n (gV n F)) : GLs w w.heap.size (some ⟨g, 0, none⟩) (soL n F) := fun j hj => by
  rw [soL_len] at hj
  obtain ⟨g2, e, h1, _, _, h4⟩ := gr_cell ho j hj
  injection e with e
  injection e with e
  subst e
  refine ⟨g, 0, rfl, h4, ?_⟩
  rw [Nat.zero_add, h1, gV_at _ hj, soL_get _ hj]
set_option maxHeartbeats 32000000 in
theorem solution18 (p0 p1 : Option Addr) (cr0 cu0 : Nat) (R U : List Int) (at' tw : Int) (hat : I64 at') (htw : I64 tw) (W : World) (hR : GLs W W.heap.size p0 R) (hU : GLs W W.heap.size p1 U) (hRb : ∀ z ∈ R, I64 z) (hUb : ∀ z ∈ U, I64 z) (hRl : R.length ≤ 9223372036854775807) (hUl : U.length ≤ 9223372036854775807) : Calls Try.prog 5 #[.slice p0 R.length cr0, .slice p1 U.length cu0, .int .i64 at', .int .i64 tw] W fun e w' => e = .returned (.bool true) ∧ Below W.heap.size W w' := by
  have HK := hide (known18 W)
  obtain ⟨rl, hrl⟩ : ∃ q, R.length = q := ⟨_, rfl⟩
  obtain ⟨n, hn⟩ : ∃ q, U.length = q := ⟨_, rfl⟩
  have HLN := hide (And.intro hrl hn)
  rw [hrl] at hRl ⊢
  rw [hn] at hUl ⊢
  have HRU := hide (And.intro hR (And.intro hU (And.intro hRb hUb)))
  clear hR hU hRb hUb hrl hn
  by_cases hsmall : 1 ≤ n ∧ n ≤ 24
  case neg =>
    by_cases h1 : n < 1
    · have h1' : (n : Int) < 1 := by omega
      clear hsmall
      go_enter Try.func5, Try.ntmps5
      go_wp2_with fail
      refine (unhide HK).mono ?_
      rintro e w1 ⟨rfl, hb1⟩
      have HB := hide hb1
      clear hb1
      go_wp2
      go_ret
      exact ⟨rfl, unhide HB⟩
    · have h1' : ¬ (n : Int) < 1 := by omega
      have h2' : (24 : Int) < (n : Int) := by omega
      clear hsmall
      go_enter Try.func5, Try.ntmps5
      go_wp2_with fail
      refine (unhide HK).mono ?_
      rintro e w1 ⟨rfl, hb1⟩
      have HB := hide hb1
      clear hb1
      go_wp2
      go_ret
      exact ⟨rfl, unhide HB⟩
  obtain ⟨hn1, hn2⟩ := hsmall
  have h1' : ¬ (n : Int) < 1 := by omega
  have h2' : ¬ (24 : Int) < (n : Int) := by omega
  obtain ⟨i0, hi, hz0, hz1, hz2⟩ := info_parts gr_int
  have HI := hide (And.intro hi (And.intro hz0 (And.intro hz1 hz2)))
  clear hi hz0 hz1 hz2
  obtain ⟨i9, hi, hz0, hz1, hz2⟩ := info_parts gr_rows
  have HJ := hide (And.intro hi (And.intro hz0 (And.intro hz1 hz2)))
  clear hi hz0 hz1 hz2
  go_enter Try.func5, Try.ntmps5
  go_wp2_with fail
  refine (unhide HK).mono ?_
  rintro e w1 ⟨rfl, hb1⟩
  have HB1 := hide hb1
  have hs1 := hb1.size
  clear hb1 HK
  obtain ⟨wx, hmk1, hx1, hx2⟩ := run_make_full (P := Try.prog) w1 w1.heap.size 32 3 i0 (.int .i64 0) 1 Try.underlying32 (unhide HI).1 (unhide HI).2.1 (unhide HI).2.2.1 .i64 .i64 n (by rw [(unhide HI).2.2.2]; omega) (by unfold maxLen; omega) (Nat.le_refl _)
  obtain ⟨ws, hmk2, hy1, hy2⟩ := run_make_full (P := Try.prog) wx wx.heap.size 33 32 i9 (.slice none 0 0) 1 Try.underlying33 (unhide HJ).1 (unhide HJ).2.1 (unhide HJ).2.2.1 .i64 .i64 n (by rw [(unhide HJ).2.2.2]; omega) (by unfold maxLen; omega) (Nat.le_refl _)
  obtain ⟨wl, hmk3, hz1, hz2⟩ := run_make_full (P := Try.prog) ws ws.heap.size 32 3 i0 (.int .i64 0) 1 Try.underlying32 (unhide HI).1 (unhide HI).2.1 (unhide HI).2.2.1 .i64 .i64 n (by rw [(unhide HI).2.2.2]; omega) (by unfold maxLen; omega) (Nat.le_refl _)
  rw [made_ints] at hx1 hz1
  rw [made_rows] at hy1
  have HS0 := hide (show SoI n w1.heap.size wx.heap.size ws.heap.size (fun _ => g0) w1 wl (fun _ => .slice none 0 0) (fun _ => []) (fun _ => g0) from by
    have a1 := (hx1.lt w1.heap.size rfl).2
    have a2 := (hy1.lt wx.heap.size rfl).2
    have a3 := (hz1.lt ws.heap.size rfl).2
    have bx : Below w1.heap.size w1 wx := (Below.refl _ _).grown hx2 (Nat.le_refl _) (fun q hq => by cases hq)
    have bs : Below wx.heap.size wx ws := (Below.refl _ _).grown hy2 (Nat.le_refl _) (fun q hq => by cases hq)
    have bl : Below ws.heap.size ws wl := (Below.refl _ _).grown hz2 (Nat.le_refl _) (fun q hq => by cases hq)
    refine ⟨(hx1.kept hy2 (.inr (by simp [Value.ownBlock]))).kept hz2 (.inr (by simp [Value.ownBlock])), ⟨gr_mono (hy1.kept hz2 (.inr (by simp [Value.ownBlock]))) (by omega), fun i _ => World.ownsRow_nil _ _ _ _, fun i j _ _ _ x hx => by simp [Value.ownBlock] at hx⟩, hz1, fun i _ => by simp [Value.ownBlock], a1, a2, a3, bx.trans ((bs.trans (bl.mono (by omega))).mono (by omega))⟩)
  have hgl0 := (unhide HS0).l3
  have hl10 := (unhide HS0).l1
  have hl20 := (unhide HS0).l2
  clear hx1 hx2 hy1 hy2 hz1 hz2
  go_wp2
  clear hmk1 hmk2 hmk3
  obtain ⟨gx, hgx⟩ : ∃ q, w1.heap.size = q := ⟨_, rfl⟩
  obtain ⟨gs, hgs⟩ : ∃ q, wx.heap.size = q := ⟨_, rfl⟩
  obtain ⟨gl, hgl⟩ : ∃ q, ws.heap.size = q := ⟨_, rfl⟩
  rw [hgx, hgs, hgl] at HS0 ⊢
  rw [hgx] at hs1
  have HGX := hide hgx
  clear hgx hgs hgl hgl0 hl10 hl20
  obtain ⟨X, hX⟩ : ∃ q : Nat → G, solX U = q := ⟨_, rfl⟩
  have HX := hide hX
  clear hX
  go_loopw [14] (fun i wr => ∃ k : Nat, k ≤ n ∧ i = .int .i64 (k : Int) ∧ Hid (SoI n gx gs gl (fun q => if q < k then X q else g0) w1 wr (fun _ => .slice none 0 0) (fun _ => []) (fun _ => g0))) (fun i _ => n - (intOf i).toNat)
  case atStart => exact ⟨0, by omega, rfl, HS0⟩
  case round =>
  obtain ⟨k, hk, rfl, HS⟩ := hrel
  obtain ⟨wk, rfl⟩ : ∃ q, q = wr := ⟨_, rfl⟩
  clear HS0
  by_cases hkn : k < n
  case pos =>
    have hkn' : (k : Int) < (n : Int) := by omega
    obtain ⟨gu, ou, rfl, hgu, hcu0⟩ := (unhide HRU).2.1 k (by rw [(unhide HLN).2]; exact hkn)
    have hcu : wk.cell? ⟨gu, ou + k, none⟩ = some (.int .i64 (U.getD k 0)) := ((unhide HS).bel.cell (p := ⟨gu, ou + k, none⟩) (by show gu < gx; omega)).trans (((unhide HB1).cell (p := ⟨gu, ou + k, none⟩) hgu).trans hcu0)
    have HPK := hide (fun w => pick18_c (U.getD k 0) 256 (by decide) ((unhide HRU).2.2.2 _ (by
      rw [List.getD_eq_getElem?_getD, List.getElem?_eq_getElem (by rw [(unhide HLN).2]; exact hkn)]
      exact List.getElem_mem _)) 256 rfl w)
    obtain ⟨gx2, ex2, hcx, hfx, _, _⟩ := gr_cell (unhide HS).x k hkn
    obtain rfl : gx2 = gx := by injection ex2 with e; injection e with e; exact e.symm
    rw [gV_at _ hkn] at hcx
    have hxk : (X k).v = pickP (U.getD k 0) 256 := by rw [← unhide HX]; exact gN_pick _
    have HP := hide (show SoI n gx2 gs gl (fun q => if q < k + 1 then X q else g0) w1 (wk.setCell ⟨gx2, k, none⟩ (.int .i64 ((X k).v : Int))) (fun _ => .slice none 0 0) (fun _ => []) (fun _ => g0) from by
      have hst := (unhide HS).x.stored k (.int .i64 ((X k).v : Int))
      have l1 := (unhide HS).l1
      have l2 := (unhide HS).l2
      have e : gV n (fun q => if q < k + 1 then X q else g0) = (gV n (fun q => if q < k then X q else g0)).set k (.int .i64 ((X k).v : Int)) := by
        rw [gV_set]
        refine gV_congr (fun q _ => ?_)
        by_cases e1 : q = k
        · rw [if_pos e1, if_pos (by omega), e1]
        · rw [if_neg e1]
          by_cases e2 : q < k
          · rw [if_pos e2, if_pos (by omega)]
          · rw [if_neg e2, if_neg (by omega)]
      refine ⟨by rw [e]; exact hst.1, ⟨(unhide HS).sq.row.kept hst.2 (.inr (ne_blk (by omega))), fun i hi => ((unhide HS).sq.own i hi).kept hst.2 (.inl rfl), (unhide HS).sq.dis⟩, (unhide HS).ls.kept hst.2 (.inr (ne_blk (by omega))), (unhide HS).ap, l1, l2, by have := (unhide HS).l3; simpa using this, (unhide HS).bel.setCell (p := ⟨gx2, k, none⟩) (Nat.le_refl _) _⟩)
    rw [hxk] at HP
    obtain ⟨uv, huv⟩ : ∃ q, U.getD k 0 = q := ⟨_, rfl⟩
    rw [huv] at hcu HPK HP
    obtain ⟨pv, hpv⟩ : ∃ q, pickP uv 256 = q := ⟨_, rfl⟩
    rw [hpv] at HPK HP
    obtain ⟨zv, hzv⟩ : ∃ q, ((if k < k then X k else g0).v : Int) = q := ⟨_, rfl⟩
    rw [hzv] at hcx
    clear huv hpv hzv hxk ex2 hcu0 HS
    go_wp2_with fail
    refine (unhide HPK _).mono ?_
    rintro e w9 ⟨rfl, hw9⟩
    subst w9
    go_wp2
    go_roundw
    case rel => exact ⟨k + 1, by omega, by go_num, HP⟩
    case measure => simp [intOf] <;> omega
  obtain rfl : n = k := by omega
  have hkn' : ¬ (n : Int) < (n : Int) := by omega
  have HS1 := hide (show SoI n gx gs gl X w1 wk (fun _ => .slice none 0 0) (fjC n R 0) (fiL n R X 0 0) from by
    have h9 := unhide HS
    refine ⟨?_, ?_, ?_, h9.ap, h9.l1, h9.l2, h9.l3, h9.bel⟩
    · rw [gV_congr (R := X) (S := fun q => if q < n then X q else g0) (fun q hq => (if_pos hq).symm)]
      exact h9.x
    · exact ⟨h9.sq.row, fun i hi => h9.sq.own i hi, h9.sq.dis⟩
    · rw [gV_congr (R := fiL n R X 0 0) (S := fun _ => g0) (fun q _ => by
        unfold fiL
        rw [if_neg (by omega)]
        by_cases e : q = 0
        · rw [if_pos e]; rfl
        · rw [if_neg e])]
      exact h9.ls)
  clear HS
  go_wp2
  clear hkn'
  go_loopw [15] (fun iv wr => ∃ (i : Nat) (v : Nat → Value), i ≤ n ∧ iv = .int .i64 (i : Int) ∧ Hid (SoI n gx gs gl X w1 wr v (fjC n R i) (fiL n R X i 0))) (fun iv _ => n - (intOf iv).toNat)
  case atStart => exact ⟨0, _, by omega, rfl, HS1⟩
  case round =>
  obtain ⟨i, vx, hi, rfl, HS⟩ := hrel
  obtain ⟨wi, rfl⟩ : ∃ q, q = wr := ⟨_, rfl⟩
  clear HS1
  by_cases hin : i < n
  case pos =>
    have hin' : (i : Int) < (n : Int) := by omega
    obtain ⟨wm, hmk, hm1, hm2⟩ := run_make_full (P := Try.prog) wi wi.heap.size 32 3 i0 (.int .i64 0) 1 Try.underlying32 (unhide HI).1 (unhide HI).2.1 (unhide HI).2.2.1 .i64 .i64 n (by rw [(unhide HI).2.2.2]; omega) (by unfold maxLen; omega) (Nat.le_refl _)
    rw [made_ints] at hm1
    have hbm : Below wi.heap.size wi wm := (Below.refl _ _).grown hm2 (Nat.le_refl _) (fun q hq => by cases hq)
    obtain ⟨gs2, es2, hcs0, hfs0, _, hgs4⟩ := (unhide HS).sq.at i hin
    obtain rfl : gs2 = gs := by injection es2 with e; injection e with e; exact e.symm
    have hcm : wm.cell? ⟨gs2, i, none⟩ = some (vx i) := (hbm.cell (p := ⟨gs2, i, none⟩) hgs4).trans hcs0
    have hfm : wm.frozen? ⟨gs2, i, none⟩ = false := (hbm.frozen (p := ⟨gs2, i, none⟩) hgs4).trans hfs0
    have HSR := hide ((unhide HS).row i hin wm hm1 hm2)
    have hgi : gs2 < wi.heap.size := hgs4
    obtain ⟨gi, hgi2⟩ : ∃ q, wi.heap.size = q := ⟨_, rfl⟩
    rw [hgi2] at HSR hmk hgi
    obtain ⟨vi, hvi⟩ : ∃ q : Nat → Value, (fun k => if k = i then .slice (some ⟨gi, 0, none⟩) n n else vx k) = q := ⟨_, rfl⟩
    rw [hvi] at HSR
    have HVI := hide (show vi i = .slice (some ⟨gi, 0, none⟩) n n from by rw [← hvi]; exact if_pos rfl)
    have HCI : ∀ j, Hid (fiC n R i j i = gV n (fiR n R i j)) := fun j => hide (by unfold fiC; rw [if_neg (Nat.lt_irrefl i), if_pos rfl])
    have HS3 := hide (show SoI n gx gs2 gl X w1 (wm.setCell ⟨gs2, i, none⟩ (.slice (some ⟨gi, 0, none⟩) n n)) vi (fiC n R i 0) (fiL n R X i 0) from (unhide HSR).congr (fun k _ => by
      unfold fiC fjC
      by_cases e : k = i
      · rw [if_pos e, if_neg (by omega), if_pos e]
        exact gV_congr (fun q _ => (if_neg (by omega)).symm)
      · rw [if_neg e]
        by_cases e2 : k < i
        · rw [if_pos e2, if_pos e2]
        · rw [if_neg e2, if_neg e2, if_neg e]) (fun _ _ => rfl))
    have hmul : (i : Int) * (n : Int) = ((i * n : Nat) : Int) := by rw [Int.natCast_mul]
    have hipb : i * n ≤ 24 * 24 := Nat.mul_le_mul (by omega) hn2
    have HIP := hide (show ∀ j, solA n R i j = if i * n + j < R.length then gN (pickP (R.getD (i * n + j) 0) 256) else if i = j then g1 else g0 from fun _ => rfl)
    obtain ⟨ip, hip⟩ : ∃ q, i * n = q := ⟨_, rfl⟩
    rw [hip] at hmul hipb HIP
    have hwip : wrap64 (ip : Int) = (ip : Int) := wrap64_eq _ (by omega) (by omega)
    clear HSR hvi hgi2 hm1 hm2 hbm hcs0 hfs0 es2 HS hip
    go_wp2
    clear hmk hcm hfm
    go_loopw [16] (fun jv wr => ∃ j : Nat, j ≤ n ∧ jv = .int .i64 (j : Int) ∧ Hid (SoI n gx gs2 gl X w1 wr vi (fiC n R i j) (fiL n R X i j))) (fun jv _ => n - (intOf jv).toNat)
    case atStart => exact ⟨0, by omega, rfl, HS3⟩
    case round =>
    obtain ⟨j, hj, rfl, HT⟩ := hrel
    obtain ⟨wj, rfl⟩ : ∃ q, q = wr := ⟨_, rfl⟩
    clear HS3
    obtain ⟨gs, hgseq⟩ : ∃ q, q = gs2 := ⟨_, rfl⟩
    subst hgseq
    by_cases hjn : j < n
    case neg =>
      have hjn' : ¬ (j : Int) < (n : Int) := by omega
      have HN := hide (show SoI n gx gs gl X w1 wj vi (fjC n R (i + 1)) (fiL n R X (i + 1) 0) from by
        have hje : j = n := by omega
        have h9 := unhide HT
        rw [hje] at h9
        refine h9.congr (fun k _ => ?_) (fun k _ => ?_)
        · unfold fiC fjC
          by_cases e : k = i
          · rw [if_neg (by omega), if_pos e, if_pos (by omega), e]
            exact gV_congr (fun q hq => if_pos hq)
          · by_cases e2 : k < i
            · rw [if_pos e2, if_pos (by omega)]
            · rw [if_neg e2, if_neg e, if_neg (by omega)]
        · unfold fiL
          by_cases e : k = i
          · rw [if_neg (by omega), if_pos e, if_pos (by omega), e]
            rfl
          · by_cases e2 : k < i
            · rw [if_pos e2, if_pos (by omega)]
            · rw [if_neg e2, if_neg e, if_neg (by omega)]
              by_cases e3 : k = i + 1
              · rw [if_pos e3]; rfl
              · rw [if_neg e3])
      clear HT
      go_wp2
      go_roundw
      case rel => exact ⟨i + 1, vi, by omega, by go_num, HN⟩
      case measure => simp [intOf] <;> omega
    have hjn' : (j : Int) < (n : Int) := by omega
    obtain ⟨gs4, es4, hcs, _, _, hgsw⟩ := (unhide HT).sq.at i hin
    obtain rfl : gs4 = gs := by injection es4 with e; injection e with e; exact e.symm
    rw [unhide HVI] at hcs
    have hoi := (unhide HT).sq.own i hin
    rw [unhide HVI, unhide (HCI j), gV_len] at hoi
    obtain ⟨gi4, ei4, hcij, hfij, _, hgiw⟩ := gr_cell hoi j hjn
    obtain rfl : gi4 = gi := by injection ei4 with e; injection e with e; exact e.symm
    rw [gV_at _ hjn, show fiR n R i j j = g0 from if_neg (by omega)] at hcij
    have hne1 : gi4 ≠ gs4 := by omega
    have hsv := unhide HIP j
    have HSET := hide (show ∀ (wq : World) (y : G), SoI n gx gs4 gl X w1 wq vi (fiC n R i j) (fiL n R X i j) → solA n R i j = y → SoI n gx gs4 gl X w1 (wq.setCell ⟨gi4, j, none⟩ (.int .i64 (y.v : Int))) vi (fiC n R i (j + 1)) (fiL n R X i j) from fun wq y h9 hy => (h9.cell i hin gi4 n (by rw [unhide HVI, unhide (HCI j), gV_len]) j (.int .i64 (y.v : Int))).congr (fun k _ => by
      by_cases e : k = i
      · rw [if_pos e, e, unhide (HCI j), unhide (HCI (j + 1)), ← hy]
        exact fiR_set n R i j
      · rw [if_neg e]
        unfold fiC
        by_cases e2 : k < i
        · rw [if_pos e2, if_pos e2]
        · rw [if_neg e2, if_neg e2, if_neg e, if_neg e]) (fun _ _ => rfl))
    clear es4 ei4 hoi
    obtain ⟨gi, hgieq⟩ : ∃ q, q = gi4 := ⟨_, rfl⟩
    subst hgieq
    obtain ⟨gs, hgseq⟩ : ∃ q, q = gs4 := ⟨_, rfl⟩
    subst hgseq
    by_cases hlt : ip + j < rl
    case pos =>
      have hlt' : (ip : Int) + (j : Int) < (rl : Int) := by omega
      rw [if_pos (by rw [(unhide HLN).1]; exact hlt)] at hsv
      obtain ⟨gr, orr, rfl, hgr, hcr0⟩ := (unhide HRU).1 (ip + j) (by rw [(unhide HLN).1]; exact hlt)
      have hcr : wj.cell? ⟨gr, orr + (ip + j), none⟩ = some (.int .i64 (R.getD (ip + j) 0)) := ((unhide HT).bel.cell (p := ⟨gr, orr + (ip + j), none⟩) (by show gr < gx; omega)).trans (((unhide HB1).cell (p := ⟨gr, orr + (ip + j), none⟩) hgr).trans hcr0)
      have hne2 : gi ≠ gr := by
        have l1 := (unhide HT).l1
        omega
      have HPK := hide (fun w => pick18_c (R.getD (ip + j) 0) 256 (by decide) ((unhide HRU).2.2.1 _ (by
        rw [List.getD_eq_getElem?_getD, List.getElem?_eq_getElem (by rw [(unhide HLN).1]; exact hlt)]
        exact List.getElem_mem _)) 256 rfl w)
      have HNEW := hide (unhide HSET wj.drew _ (unhide HT).drew hsv)
      rw [gN_pick] at HNEW
      obtain ⟨rv, hrv⟩ : ∃ q, R.getD (ip + j) 0 = q := ⟨_, rfl⟩
      rw [hrv] at hcr HPK HNEW
      obtain ⟨pv, hpv⟩ : ∃ q, pickP rv 256 = q := ⟨_, rfl⟩
      rw [hpv] at HPK HNEW
      clear hrv hpv hsv hcr0 HSET HT
      have hwi1 : IntKind.i64.wrap (ip : Int) = (ip : Int) := wrapI_eq _ (by omega) (by omega)
      have hwi2 : IntKind.i64.wrap ((ip : Int) + (j : Int)) = (ip : Int) + (j : Int) := wrapI_eq _ (by omega) (by omega)
      have hnn0 : 0 ≤ (ip : Int) + (j : Int) := by omega
      have htn0 : ((ip : Int) + (j : Int)).toNat = ip + j := by omega
      have i0' : 0 ≤ (i : Int) := by omega
      have i1' : 0 ≤ (j : Int) := by omega
      go_wp2
      refine wp_region_held_drew (S := fun W => W.cell? ⟨gs, i, none⟩ = some (.slice (some ⟨gi, 0, none⟩) n n) ∧ W.cell? ⟨gr, orr + (ip + j), none⟩ = some (.int .i64 rv)) (by kernel_rfl) ⟨hcs, hcr⟩ ?_
      intro hS
      refine wpAnyH_takeD 0 (some 81) (.slice (some ⟨gs, 0, none⟩) n n) rfl rfl (by kernel_rfl) (by kernel_rfl) (by kernel_rfl) (fun _ _ _ h => h) (Or.inl ⟨by rfl, fun w hSw => by have q1 := hSw.1; have q2 := hSw.2; clear hSw; go_simp; try (intro hbad; omega)⟩) hS ?_
      simp only [Act.put, List.setIfInBounds_toArray, List.set_cons_zero, List.set_cons_succ]
      refine wpAnyH_takeD 1 (some 82) (.int .i64 (i : Int)) rfl rfl (by kernel_rfl) (by kernel_rfl) (by kernel_rfl) (fun _ _ _ h => h) (Or.inl ⟨by rfl, fun w hSw => by have q1 := hSw.1; have q2 := hSw.2; clear hSw; go_simp; try (intro hbad; omega)⟩) hS ?_
      simp only [Act.put, List.setIfInBounds_toArray, List.set_cons_zero, List.set_cons_succ]
      refine wpAnyH_takeD 2 (some 83) (.pointer (some ⟨gs, i, none⟩)) rfl rfl (by kernel_rfl) (by kernel_rfl) (by kernel_rfl) (fun _ _ _ h => h) (Or.inl ⟨by rfl, fun w hSw => by have q1 := hSw.1; have q2 := hSw.2; clear hSw; go_simp; try (intro hbad; omega)⟩) hS ?_
      simp only [Act.put, List.setIfInBounds_toArray, List.set_cons_zero, List.set_cons_succ]
      refine wpAnyH_takeD 3 (some 84) (.slice (some ⟨gi, 0, none⟩) n n) rfl rfl (by kernel_rfl) (by kernel_rfl) (by kernel_rfl) (fun _ _ _ h => h) (Or.inl ⟨by rfl, fun w hSw => by have q1 := hSw.1; have q2 := hSw.2; clear hSw; go_simp; try (intro hbad; omega)⟩) hS ?_
      simp only [Act.put, List.setIfInBounds_toArray, List.set_cons_zero, List.set_cons_succ]
      refine wpAnyH_takeD 4 (some 85) (.int .i64 (j : Int)) rfl rfl (by kernel_rfl) (by kernel_rfl) (by kernel_rfl) (fun _ _ _ h => h) (Or.inl ⟨by rfl, fun w hSw => by have q1 := hSw.1; have q2 := hSw.2; clear hSw; go_simp; try (intro hbad; omega)⟩) hS ?_
      simp only [Act.put, List.setIfInBounds_toArray, List.set_cons_zero, List.set_cons_succ]
      refine wpAnyH_takeD 5 (some 86) (.slice (some ⟨gr, orr, none⟩) rl cr0) rfl rfl (by kernel_rfl) (by kernel_rfl) (by kernel_rfl) (fun _ _ _ h => h) (Or.inl ⟨by rfl, fun w hSw => by have q1 := hSw.1; have q2 := hSw.2; clear hSw; go_simp; try (intro hbad; omega)⟩) hS ?_
      simp only [Act.put, List.setIfInBounds_toArray, List.set_cons_zero, List.set_cons_succ]
      refine wpAnyH_takeD 6 (some 87) (.int .i64 (i : Int)) rfl rfl (by kernel_rfl) (by kernel_rfl) (by kernel_rfl) (fun _ _ _ h => h) (Or.inl ⟨by rfl, fun w hSw => by have q1 := hSw.1; have q2 := hSw.2; clear hSw; go_simp; try (intro hbad; omega)⟩) hS ?_
      simp only [Act.put, List.setIfInBounds_toArray, List.set_cons_zero, List.set_cons_succ]
      refine wpAnyH_takeD 7 (some 88) (.int .i64 (n : Int)) rfl rfl (by kernel_rfl) (by kernel_rfl) (by kernel_rfl) (fun _ _ _ h => h) (Or.inl ⟨by rfl, fun w hSw => by have q1 := hSw.1; have q2 := hSw.2; clear hSw; go_simp; try (intro hbad; omega)⟩) hS ?_
      simp only [Act.put, List.setIfInBounds_toArray, List.set_cons_zero, List.set_cons_succ]
      refine wpAnyH_takeD 8 (some 89) (.int .i64 (ip : Int)) rfl rfl (by kernel_rfl) (by kernel_rfl) (by kernel_rfl) (fun _ _ _ h => h) (Or.inl ⟨by rfl, fun w hSw => by have q1 := hSw.1; have q2 := hSw.2; clear hSw; go_simp; try (intro hbad; omega)⟩) hS ?_
      simp only [Act.put, List.setIfInBounds_toArray, List.set_cons_zero, List.set_cons_succ]
      refine wpAnyH_takeD 9 (some 90) (.int .i64 (j : Int)) rfl rfl (by kernel_rfl) (by kernel_rfl) (by kernel_rfl) (fun _ _ _ h => h) (Or.inl ⟨by rfl, fun w hSw => by have q1 := hSw.1; have q2 := hSw.2; clear hSw; go_simp; try (intro hbad; omega)⟩) hS ?_
      simp only [Act.put, List.setIfInBounds_toArray, List.set_cons_zero, List.set_cons_succ]
      refine wpAnyH_takeD 10 (some 91) (.int .i64 ((ip : Int) + (j : Int))) rfl rfl (by kernel_rfl) (by kernel_rfl) (by kernel_rfl) (fun _ _ _ h => h) (Or.inl ⟨by rfl, fun w hSw => by have q1 := hSw.1; have q2 := hSw.2; clear hSw; go_simp; try (intro hbad; omega)⟩) hS ?_
      simp only [Act.put, List.setIfInBounds_toArray, List.set_cons_zero, List.set_cons_succ]
      refine wpAnyH_takeD 11 (some 92) (.pointer (some ⟨gr, orr + (ip + j), none⟩)) rfl rfl (by kernel_rfl) (by kernel_rfl) (by kernel_rfl) (fun _ _ _ h => h) (Or.inl ⟨by rfl, fun w hSw => by have q1 := hSw.1; have q2 := hSw.2; clear hSw; go_simp; try (intro hbad; omega)⟩) hS ?_
      simp only [Act.put, List.setIfInBounds_toArray, List.set_cons_zero, List.set_cons_succ]
      refine wpAnyH_takeD 12 (some 93) (.int .i64 rv) rfl rfl (by kernel_rfl) (by kernel_rfl) (by kernel_rfl) (fun _ _ _ h => h) (Or.inl ⟨by rfl, fun w hSw => by have q1 := hSw.1; have q2 := hSw.2; clear hSw; go_simp; try (intro hbad; omega)⟩) hS ?_
      simp only [Act.put, List.setIfInBounds_toArray, List.set_cons_zero, List.set_cons_succ]
      refine wpAnyH_ready (rs := [13]) (by kernel_rfl) (by simp) ?_
      refine AllReadyH.cons rfl (fun K hK => ?_) AllReadyH.nil
      simp only [List.getElem_toArray, List.getElem_cons_succ, List.getElem_cons_zero]
      go_simp
      refine (unhide HPK _).mono ?_
      rintro e w9 ⟨rfl, hw9⟩
      subst w9
      refine hK.out _ _ hS (fun hS => ?_)
      clear hK K
      refine wpAnyH_takeD 14 (some 95) (.pointer (some ⟨gi, j, none⟩)) rfl rfl (by kernel_rfl) (by kernel_rfl) (by kernel_rfl) (fun _ _ _ h => h) (Or.inl ⟨by rfl, fun w hSw => by have q1 := hSw.1; have q2 := hSw.2; clear hSw; go_simp; try (intro hbad; omega)⟩) hS ?_
      simp only [Act.put, List.setIfInBounds_toArray, List.set_cons_zero, List.set_cons_succ]
      refine wpAnyH_ready (rs := [15]) (by kernel_rfl) (by simp) ?_
      refine AllReadyH.cons rfl (fun K hK => ?_) AllReadyH.nil
      simp only [List.getElem_toArray, List.getElem_cons_succ, List.getElem_cons_zero]
      go_simp
      refine hK.out _ _ ⟨(World.cell?_setCell_far _ _ _ _ hne1).trans hcs, (World.cell?_setCell_far _ _ _ _ hne2).trans hcr⟩ (fun hS => ?_)
      clear hK K
      refine wpAnyH_done (by kernel_rfl) ?_ _
      have HS2 := HNEW
      obtain ⟨wz, hwz⟩ : ∃ q, wj.drew.setCell ⟨gi, j, none⟩ (.int .i64 (pv : Int)) = q := ⟨_, rfl⟩
      rw [hwz] at HS2
      (first | rw [hwz] | rw [show (wj.setCell ⟨gi, j, none⟩ (.int .i64 (pv : Int))).drew = wz from hwz])
      clear hwz HNEW
      obtain ⟨gs3, es3, hzs, _, _, _⟩ := (unhide HS2).sq.at i hin
      obtain rfl : gs3 = gs := by injection es3 with e; injection e with e; exact e.symm
      have hoz := (unhide HS2).sq.own i hin
      rw [unhide HVI] at hzs hoz
      rw [show fiC n R i (j + 1) i = gV n (fiR n R i (j + 1)) from unhide (HCI (j + 1)), gV_len] at hoz
      obtain ⟨gi3, ei3, hzc, _, _, _⟩ := gr_cell hoz j hjn
      obtain rfl : gi3 = gi := by injection ei3 with e; injection e with e; exact e.symm
      rw [gV_at _ hjn, show fiR n R i (j + 1) j = solA n R i j from if_pos (by omega)] at hzc
      obtain ⟨gx3, ex3, hzx, _, _, _⟩ := gr_cell (unhide HS2).x j hjn
      obtain rfl : gx3 = gx := by injection ex3 with e; injection e with e; exact e.symm
      rw [gV_at _ hjn] at hzx
      have HML := hide (fun w => mul18 (solA n R i j).v (X j).v (solA n R i j).h (X j).h w)
      have hpr : gm (solA n R i j).v (X j).v = (solA n R i j * X j).v := rfl
      rw [hpr] at HML
      obtain ⟨gl3, el3, hzl, hfl, _, _⟩ := gr_cell (unhide HS2).ls i hin
      obtain rfl : gl3 = gl := by injection el3 with e; injection e with e; exact e.symm
      rw [gV_at _ hin] at hzl
      have hxr := xor64n (fiL n R X i j i).v (solA n R i j * X j).v (by have := (fiL n R X i j i).h; omega) (by have := (solA n R i j * X j).h; omega)
      have hnv : (fiL n R X i j i).v ^^^ (solA n R i j * X j).v = (fiL n R X i (j + 1) i).v := by
        have e1 : fiL n R X i (j + 1) i = fiL n R X i j i + solA n R i j * X j := by
          unfold fiL
          rw [if_neg (Nat.lt_irrefl i), if_pos rfl, if_neg (Nat.lt_irrefl i), if_pos rfl, List.range_succ, sm_snoc]
        rw [e1]; rfl
      have HNX := hide (show SoI n gx3 gs3 gl3 X w1 (wz.drew.setCell ⟨gl3, i, none⟩ (.int .i64 ((fiL n R X i (j + 1) i).v : Int))) vi (fiC n R i (j + 1)) (fiL n R X i (j + 1)) from ((unhide HS2).drew.lst i (fiL n R X i (j + 1) i)).congr (fun _ _ => rfl) (fun k _ => by
        by_cases e : k = i
        · rw [if_pos e, e]
        · rw [if_neg e]
          unfold fiL
          by_cases e2 : k < i
          · rw [if_pos e2, if_pos e2]
          · rw [if_neg e2, if_neg e2, if_neg e, if_neg e]))
      rw [hnv] at hxr
      obtain ⟨av, hav⟩ : ∃ q, (solA n R i j).v = q := ⟨_, rfl⟩
      rw [hav] at hzc HML
      obtain ⟨xv, hxv⟩ : ∃ q, (X j).v = q := ⟨_, rfl⟩
      rw [hxv] at hzx HML
      obtain ⟨mv, hmv⟩ : ∃ q, (solA n R i j * X j).v = q := ⟨_, rfl⟩
      rw [hmv] at hxr HML
      obtain ⟨lv, hlv⟩ : ∃ q, (fiL n R X i j i).v = q := ⟨_, rfl⟩
      rw [hlv] at hzl hxr
      obtain ⟨nv, hnv2⟩ : ∃ q, (fiL n R X i (j + 1) i).v = q := ⟨_, rfl⟩
      rw [hnv2] at hxr HNX
      clear hav hxv hmv hlv hnv2 hnv hpr hoz es3 ei3 ex3 el3 HS2
      have i0 : 0 ≤ (i : Int) := by omega
      have i1 : 0 ≤ (j : Int) := by omega
      go_wp2_with fail
      go_still_tail 11, (by kernel_rfl)
      change wpList _ _ _ _ _ wz.drew
      go_wp2_with fail
      refine (unhide HML _).mono ?_
      rintro e w8 ⟨rfl, hw8⟩
      subst w8
      have hzl2 : wz.drew.cell? ⟨gl3, i, none⟩ = some (.int .i64 (lv : Int)) := hzl
      have hfl2 : wz.drew.frozen? ⟨gl3, i, none⟩ = false := hfl
      go_wp2
      go_roundw
      case rel => exact ⟨j + 1, by omega, by go_num, HNX⟩
      case measure => simp [intOf] <;> omega
    have hlt' : ¬ (ip : Int) + (j : Int) < (rl : Int) := by omega
    rw [if_neg (by rw [(unhide HLN).1]; exact hlt)] at hsv
    by_cases hij : i = j
    case pos =>
      have hij' : ((i : Int) == (j : Int)) = true := by simp; omega
      rw [if_pos hij] at hsv
      have HNEW := hide (unhide HSET wj _ (unhide HT) hsv)
      rw [show ((g1.v : Nat) : Int) = 1 from rfl] at HNEW
      clear hsv HSET HT hij
      go_wp2
      have HS2 := HNEW
      obtain ⟨wz, hwz⟩ : ∃ q, wj.setCell ⟨gi, j, none⟩ (.int .i64 1) = q := ⟨_, rfl⟩
      rw [hwz] at HS2
      (first | rw [hwz] | skip)
      clear hwz HNEW
      obtain ⟨gs3, es3, hzs, _, _, _⟩ := (unhide HS2).sq.at i hin
      obtain rfl : gs3 = gs := by injection es3 with e; injection e with e; exact e.symm
      have hoz := (unhide HS2).sq.own i hin
      rw [unhide HVI] at hzs hoz
      rw [show fiC n R i (j + 1) i = gV n (fiR n R i (j + 1)) from unhide (HCI (j + 1)), gV_len] at hoz
      obtain ⟨gi3, ei3, hzc, _, _, _⟩ := gr_cell hoz j hjn
      obtain rfl : gi3 = gi := by injection ei3 with e; injection e with e; exact e.symm
      rw [gV_at _ hjn, show fiR n R i (j + 1) j = solA n R i j from if_pos (by omega)] at hzc
      obtain ⟨gx3, ex3, hzx, _, _, _⟩ := gr_cell (unhide HS2).x j hjn
      obtain rfl : gx3 = gx := by injection ex3 with e; injection e with e; exact e.symm
      rw [gV_at _ hjn] at hzx
      have HML := hide (fun w => mul18 (solA n R i j).v (X j).v (solA n R i j).h (X j).h w)
      have hpr : gm (solA n R i j).v (X j).v = (solA n R i j * X j).v := rfl
      rw [hpr] at HML
      obtain ⟨gl3, el3, hzl, hfl, _, _⟩ := gr_cell (unhide HS2).ls i hin
      obtain rfl : gl3 = gl := by injection el3 with e; injection e with e; exact e.symm
      rw [gV_at _ hin] at hzl
      have hxr := xor64n (fiL n R X i j i).v (solA n R i j * X j).v (by have := (fiL n R X i j i).h; omega) (by have := (solA n R i j * X j).h; omega)
      have hnv : (fiL n R X i j i).v ^^^ (solA n R i j * X j).v = (fiL n R X i (j + 1) i).v := by
        have e1 : fiL n R X i (j + 1) i = fiL n R X i j i + solA n R i j * X j := by
          unfold fiL
          rw [if_neg (Nat.lt_irrefl i), if_pos rfl, if_neg (Nat.lt_irrefl i), if_pos rfl, List.range_succ, sm_snoc]
        rw [e1]; rfl
      have HNX := hide (show SoI n gx3 gs3 gl3 X w1 (wz.drew.setCell ⟨gl3, i, none⟩ (.int .i64 ((fiL n R X i (j + 1) i).v : Int))) vi (fiC n R i (j + 1)) (fiL n R X i (j + 1)) from ((unhide HS2).drew.lst i (fiL n R X i (j + 1) i)).congr (fun _ _ => rfl) (fun k _ => by
        by_cases e : k = i
        · rw [if_pos e, e]
        · rw [if_neg e]
          unfold fiL
          by_cases e2 : k < i
          · rw [if_pos e2, if_pos e2]
          · rw [if_neg e2, if_neg e2, if_neg e, if_neg e]))
      rw [hnv] at hxr
      obtain ⟨av, hav⟩ : ∃ q, (solA n R i j).v = q := ⟨_, rfl⟩
      rw [hav] at hzc HML
      obtain ⟨xv, hxv⟩ : ∃ q, (X j).v = q := ⟨_, rfl⟩
      rw [hxv] at hzx HML
      obtain ⟨mv, hmv⟩ : ∃ q, (solA n R i j * X j).v = q := ⟨_, rfl⟩
      rw [hmv] at hxr HML
      obtain ⟨lv, hlv⟩ : ∃ q, (fiL n R X i j i).v = q := ⟨_, rfl⟩
      rw [hlv] at hzl hxr
      obtain ⟨nv, hnv2⟩ : ∃ q, (fiL n R X i (j + 1) i).v = q := ⟨_, rfl⟩
      rw [hnv2] at hxr HNX
      clear hav hxv hmv hlv hnv2 hnv hpr hoz es3 ei3 ex3 el3 HS2
      have i0 : 0 ≤ (i : Int) := by omega
      have i1 : 0 ≤ (j : Int) := by omega
      go_wp2_with fail
      go_still_tail 11, (by kernel_rfl)
      change wpList _ _ _ _ _ wz.drew
      go_wp2_with fail
      refine (unhide HML _).mono ?_
      rintro e w8 ⟨rfl, hw8⟩
      subst w8
      have hzl2 : wz.drew.cell? ⟨gl3, i, none⟩ = some (.int .i64 (lv : Int)) := hzl
      have hfl2 : wz.drew.frozen? ⟨gl3, i, none⟩ = false := hfl
      go_wp2
      go_roundw
      case rel => exact ⟨j + 1, by omega, by go_num, HNX⟩
      case measure => simp [intOf] <;> omega
    have hij' : ((i : Int) == (j : Int)) = false := by simp; omega
    rw [if_neg hij] at hsv
    have HNEW := hide (show SoI n gx gs gl X w1 wj vi (fiC n R i (j + 1)) (fiL n R X i j) from (unhide HT).congr (fun k _ => by
      by_cases e : k = i
      · rw [e, unhide (HCI j), unhide (HCI (j + 1))]
        refine gV_congr (fun q _ => ?_)
        unfold fiR
        by_cases e2 : q = j
        · rw [if_neg (by omega), if_pos (by omega), e2, hsv]
        · by_cases e3 : q < j
          · rw [if_pos e3, if_pos (by omega)]
          · rw [if_neg e3, if_neg (by omega)]
      · unfold fiC
        by_cases e2 : k < i
        · rw [if_pos e2, if_pos e2]
        · rw [if_neg e2, if_neg e2, if_neg e, if_neg e]) (fun _ _ => rfl))
    clear hsv HSET HT hij
    go_wp2
    have HS2 := HNEW
    obtain ⟨wz, hwz⟩ : ∃ q, wj = q := ⟨_, rfl⟩
    rw [hwz] at HS2
    (first | rw [hwz] | skip)
    clear hwz HNEW
    obtain ⟨gs3, es3, hzs, _, _, _⟩ := (unhide HS2).sq.at i hin
    obtain rfl : gs3 = gs := by injection es3 with e; injection e with e; exact e.symm
    have hoz := (unhide HS2).sq.own i hin
    rw [unhide HVI] at hzs hoz
    rw [show fiC n R i (j + 1) i = gV n (fiR n R i (j + 1)) from unhide (HCI (j + 1)), gV_len] at hoz
    obtain ⟨gi3, ei3, hzc, _, _, _⟩ := gr_cell hoz j hjn
    obtain rfl : gi3 = gi := by injection ei3 with e; injection e with e; exact e.symm
    rw [gV_at _ hjn, show fiR n R i (j + 1) j = solA n R i j from if_pos (by omega)] at hzc
    obtain ⟨gx3, ex3, hzx, _, _, _⟩ := gr_cell (unhide HS2).x j hjn
    obtain rfl : gx3 = gx := by injection ex3 with e; injection e with e; exact e.symm
    rw [gV_at _ hjn] at hzx
    have HML := hide (fun w => mul18 (solA n R i j).v (X j).v (solA n R i j).h (X j).h w)
    have hpr : gm (solA n R i j).v (X j).v = (solA n R i j * X j).v := rfl
    rw [hpr] at HML
    obtain ⟨gl3, el3, hzl, hfl, _, _⟩ := gr_cell (unhide HS2).ls i hin
    obtain rfl : gl3 = gl := by injection el3 with e; injection e with e; exact e.symm
    rw [gV_at _ hin] at hzl
    have hxr := xor64n (fiL n R X i j i).v (solA n R i j * X j).v (by have := (fiL n R X i j i).h; omega) (by have := (solA n R i j * X j).h; omega)
    have hnv : (fiL n R X i j i).v ^^^ (solA n R i j * X j).v = (fiL n R X i (j + 1) i).v := by
      have e1 : fiL n R X i (j + 1) i = fiL n R X i j i + solA n R i j * X j := by
        unfold fiL
        rw [if_neg (Nat.lt_irrefl i), if_pos rfl, if_neg (Nat.lt_irrefl i), if_pos rfl, List.range_succ, sm_snoc]
      rw [e1]; rfl
    have HNX := hide (show SoI n gx3 gs3 gl3 X w1 (wz.drew.setCell ⟨gl3, i, none⟩ (.int .i64 ((fiL n R X i (j + 1) i).v : Int))) vi (fiC n R i (j + 1)) (fiL n R X i (j + 1)) from ((unhide HS2).drew.lst i (fiL n R X i (j + 1) i)).congr (fun _ _ => rfl) (fun k _ => by
      by_cases e : k = i
      · rw [if_pos e, e]
      · rw [if_neg e]
        unfold fiL
        by_cases e2 : k < i
        · rw [if_pos e2, if_pos e2]
        · rw [if_neg e2, if_neg e2, if_neg e, if_neg e]))
    rw [hnv] at hxr
    obtain ⟨av, hav⟩ : ∃ q, (solA n R i j).v = q := ⟨_, rfl⟩
    rw [hav] at hzc HML
    obtain ⟨xv, hxv⟩ : ∃ q, (X j).v = q := ⟨_, rfl⟩
    rw [hxv] at hzx HML
    obtain ⟨mv, hmv⟩ : ∃ q, (solA n R i j * X j).v = q := ⟨_, rfl⟩
    rw [hmv] at hxr HML
    obtain ⟨lv, hlv⟩ : ∃ q, (fiL n R X i j i).v = q := ⟨_, rfl⟩
    rw [hlv] at hzl hxr
    obtain ⟨nv, hnv2⟩ : ∃ q, (fiL n R X i (j + 1) i).v = q := ⟨_, rfl⟩
    rw [hnv2] at hxr HNX
    clear hav hxv hmv hlv hnv2 hnv hpr hoz es3 ei3 ex3 el3 HS2
    have i0 : 0 ≤ (i : Int) := by omega
    have i1 : 0 ≤ (j : Int) := by omega
    go_wp2_with fail
    go_still_tail 11, (by kernel_rfl)
    change wpList _ _ _ _ _ wz.drew
    go_wp2_with fail
    refine (unhide HML _).mono ?_
    rintro e w8 ⟨rfl, hw8⟩
    subst w8
    have hzl2 : wz.drew.cell? ⟨gl3, i, none⟩ = some (.int .i64 (lv : Int)) := hzl
    have hfl2 : wz.drew.frozen? ⟨gl3, i, none⟩ = false := hfl
    go_wp2
    go_roundw
    case rel => exact ⟨j + 1, by omega, by go_num, HNX⟩
    case measure => simp [intOf] <;> omega
  obtain rfl : n = i := by omega
  have hin' : ¬ (n : Int) < (n : Int) := by omega
  have HS5 := hide (show SoI n gx gs gl X w1 wi vx (fun k => gV n (solA n R k)) (fun k => rK n X (solA n R k)) from (unhide HS).congr (fun k hk => if_pos hk) (fun k hk => if_pos hk))
  have hGQ := (unhide HS5).gsq
  have HSO := hide (psol_any wi (soQ n (solA n R)) (soL n (fun k => rK n X (solA n R k))) wi.heap.size n n n n (some ⟨gs, 0, none⟩) (some ⟨gl, 0, none⟩) (soQ_len _ _) (soL_len _ _) hGQ.1 hGQ.2 (Nat.le_refl _))
  have HPA := hide (fun w => pick18_any at' n (by omega) hat w)
  have HPB := hide (fun w => pick18_any tw n (by omega) htw w)
  have ha := pickP_lt at' n (by omega)
  have hb := pickP_lt tw n (by omega)
  generalize pickP at' n = a at *
  generalize pickP tw n = b at *
  have HFIN := hide (show ∀ w', Below gx w1 w' → Below W.heap.size W w' from fun w' h => (unhide HB1).trans (h.mono hs1))
  clear HS hGQ hi hin hat htw
  go_wp2_with fail
  refine (unhide HSO).mono ?_
  rintro e w2 ⟨h1, _⟩
  obtain ⟨ok, B, hga, hres, hb2⟩ := h1 (so_ok n hn2 _ _)
  rw [soL_len] at hga hres
  have HS6 := hide ((unhide HS5).below hb2)
  have HGA := hide hga
  clear h1 hb2 hga HSO HS5
  rcases hres with ⟨rfl, x, rfl, hx⟩ | ⟨rfl, rfl⟩
  · obtain ⟨px, cx, rfl, _⟩ := gr_form hx
    obtain ⟨gf, rfl, _, _, _, _⟩ := gr_cell hx 0 (by omega)
    have heq : soL n (fun i => B i n) = soL n X := (soL_eq (so_found (unhide HGA))).symm
    have HSM := hide (same18_any w2 (some ⟨gf, 0, none⟩) (some ⟨gx, 0, none⟩) cx n (soL n (fun i => B i n)) (soL n X) n n (soL_len _ _).symm (soL_len _ _).symm (by omega) (row_gls hx) (row_gls (unhide HS6).x))
    rw [decide_eq_true heq] at HSM
    clear hx heq HGA
    go_wp2_with fail
    refine (unhide HSM).mono ?_
    rintro e wq ⟨rfl, hb3⟩
    have HSQ := hide ((unhide HS6).below hb3)
    clear hb3 HSM HS6
    by_cases hr0 : rl = 0
    · have hr0' : ((rl : Int) == 0) = true := by simp; omega
      clear hr0
      go_wp2_with fail
      refine (unhide HPA _).mono ?_
      rintro e w9 ⟨rfl, hw9⟩
      subst w9
      go_wp2_with fail
      refine (unhide HPB _).mono ?_
      rintro e w9 ⟨rfl, hw9⟩
      subst w9
      by_cases hab : a = b
      · have hab' : ((a : Int) == (b : Int)) = true := by simp; omega
        go_wp2
        go_ret
        exact ⟨rfl, unhide HFIN _ (unhide HSQ).bel⟩
      have hab' : ((a : Int) == (b : Int)) = false := by simp; omega
      have HQd := hide (unhide HSQ).drew
      obtain ⟨gsa, esa, hcsa, _, _, _⟩ := (unhide HQd).sq.at a ha
      obtain rfl : gsa = gs := by injection esa with e; injection e with e; exact e.symm
      obtain ⟨gsb, esb, hcsb, _, _, _⟩ := (unhide HQd).sq.at b hb
      obtain rfl : gsb = gsa := by injection esb with e; injection e with e; exact e.symm
      have hoa := (unhide HQd).sq.own a ha
      have hob := (unhide HQd).sq.own b hb
      rw [gV_len] at hoa hob
      obtain ⟨pa, ca, hva, _⟩ := gr_form hoa
      obtain ⟨pb, cb, hvb, _⟩ := gr_form hob
      rw [hva] at hcsa hoa
      rw [hvb] at hcsb hob
      obtain ⟨ga, rfl, _, _, _, _⟩ := gr_cell hoa 0 (by omega)
      obtain ⟨gb, rfl, _, _, _, _⟩ := gr_cell hob 0 (by omega)
      obtain ⟨cur, hcur, hcurs, hys⟩ := own_setRow hoa
      obtain ⟨y1, y2⟩ := hys (gV n (solA n R b)) (gV_len _ _)
      have HCUR := hide (And.intro hcur hcurs)
      have HSRC := hide (show ∀ t u, (gV n (solA n R b))[t]? = some u → wq.drew.cell? (Addr.add ⟨gb, 0, none⟩ t) = some u from hob.cells (g := gb) rfl)
      have HS7 := hide ((unhide HQd).copy a ga ca ha hva (solA n R b) _ y1 y2)
      have hca : wq.cell? ⟨gsb, a, none⟩ = some (.slice (some ⟨ga, 0, none⟩) n ca) := hcsa
      have hcb : wq.cell? ⟨gsb, b, none⟩ = some (.slice (some ⟨gb, 0, none⟩) n cb) := hcsb
      obtain ⟨w7, hw7⟩ : ∃ q, wq.drew.setRow ga (cur.toList.take 0 ++ (gV n (solA n R b) ++ cur.toList.drop (0 + (gV n (solA n R b)).length))).toArray = q := ⟨_, rfl⟩
      rw [hw7] at HS7
      have HW7 := hide hw7
      clear hw7 y1 y2 hys hcur hcurs hoa hob hva hvb esa esb hcsa hcsb HQd HSQ
      have ha' : (a : Int) < (n : Int) := by omega
      have hb' : (b : Int) < (n : Int) := by omega
      have a0' : 0 ≤ (a : Int) := by omega
      have b0' : 0 ≤ (b : Int) := by omega
      go_wp2_with fail
      go_still_tail 8, (by kernel_rfl)
      change wpList _ _ _ _ _ wq.drew
      refine wpList_copy_own rfl (.tmp 160) (.tmp 164) 32 32 rfl 3 Try.underlying32 (by kernel_rfl) ga 0 n ca ⟨gb, 0, none⟩ n cb rfl rfl cur 3 (unhide HCUR).1 (gV n (solA n R b)) (by rw [gV_len]; exact (Nat.min_self n).symm) (unhide HSRC) (by rw [gV_len]; have := (unhide HCUR).2; omega) (gV_one _ _) ?_
      rw [unhide HW7]
      clear HW7 HCUR HSRC hca hcb
      obtain ⟨gl4, el4, hlb, _, _, _⟩ := gr_cell (unhide HS7).ls b hb
      obtain rfl : gl4 = gl := by injection el4 with e; injection e with e; exact e.symm
      rw [gV_at _ hb] at hlb
      obtain ⟨gl5, el5, hla, hlf, _, _⟩ := gr_cell (unhide HS7).ls a ha
      obtain rfl : gl5 = gl4 := by injection el5 with e; injection e with e; exact e.symm
      rw [gV_at _ ha] at hla
      have HS8 := hide ((unhide HS7).lst a (rK n X (solA n R b)))
      have hGQ := (unhide HS8).gsq
      have HSO := hide (psol_any _ (soQ n (fun i => if i = a then solA n R b else solA n R i)) (soL n (fun q => if q = a then rK n X (solA n R b) else rK n X (solA n R q))) _ n n n n (some ⟨gsb, 0, none⟩) (some ⟨gl5, 0, none⟩) (soQ_len _ _) (soL_len _ _) hGQ.1 hGQ.2 (Nat.le_refl _))
      obtain ⟨bv, hbv⟩ : ∃ q, (rK n X (solA n R b)).v = q := ⟨_, rfl⟩
      rw [hbv] at hlb HSO HS8
      obtain ⟨av2, hav2⟩ : ∃ q, (rK n X (solA n R a)).v = q := ⟨_, rfl⟩
      rw [hav2] at hla
      clear hGQ hbv hav2 el4 el5 HS7
      go_wp2_with fail
      refine (unhide HSO).mono ?_
      rintro e w9 ⟨h1, _⟩
      obtain ⟨ok9, B9, hga9, hres9, hb9⟩ := h1 (so_ok n hn2 _ _)
      rw [soL_len] at hga9 hres9
      have hz9 : ok9 = false := by
        obtain ⟨y, hy1, hy2⟩ := twin (n := n) (M := fun i => if i = a then solA n R b else solA n R i) ha hb hab (fun j _ => by
          show (if a = a then solA n R b else solA n R a) j = (if b = a then solA n R b else solA n R b) j
          rw [if_pos rfl]
          by_cases q : b = a
          · rw [if_pos q]
          · rw [if_neg q])
        exact so_zero hga9 y hy1 hy2
      rcases hres9 with ⟨q, _⟩ | ⟨_, rfl⟩
      · rw [hz9] at q; cases q
      have HF9 := hide (unhide HFIN _ ((unhide HS8).bel.trans (hb9.mono (by have q1 := (unhide HS8).l1; have q2 := (unhide HS8).l2; have q3 := (unhide HS8).l3; omega))))
      clear h1 hga9 hb9 hz9 HS8
      go_wp2
      go_ret
      exact ⟨rfl, unhide HF9⟩
    have hr0' : ((rl : Int) == 0) = false := by simp; omega
    go_wp2_with fail
    refine (unhide HPA _).mono ?_
    rintro e w9 ⟨rfl, hw9⟩
    subst w9
    go_wp2_with fail
    refine (unhide HPB _).mono ?_
    rintro e w9 ⟨rfl, hw9⟩
    subst w9
    by_cases hab : a = b
    · have hab' : ((a : Int) == (b : Int)) = true := by simp; omega
      go_wp2
      go_ret
      exact ⟨rfl, unhide HFIN _ (unhide HSQ).bel⟩
    have hab' : ((a : Int) == (b : Int)) = false := by simp; omega
    have HQd := hide (unhide HSQ).drew
    obtain ⟨gsa, esa, hcsa, _, _, _⟩ := (unhide HQd).sq.at a ha
    obtain rfl : gsa = gs := by injection esa with e; injection e with e; exact e.symm
    obtain ⟨gsb, esb, hcsb, _, _, _⟩ := (unhide HQd).sq.at b hb
    obtain rfl : gsb = gsa := by injection esb with e; injection e with e; exact e.symm
    have hoa := (unhide HQd).sq.own a ha
    have hob := (unhide HQd).sq.own b hb
    rw [gV_len] at hoa hob
    obtain ⟨pa, ca, hva, _⟩ := gr_form hoa
    obtain ⟨pb, cb, hvb, _⟩ := gr_form hob
    rw [hva] at hcsa hoa
    rw [hvb] at hcsb hob
    obtain ⟨ga, rfl, _, _, _, _⟩ := gr_cell hoa 0 (by omega)
    obtain ⟨gb, rfl, _, _, _, _⟩ := gr_cell hob 0 (by omega)
    obtain ⟨cur, hcur, hcurs, hys⟩ := own_setRow hoa
    obtain ⟨y1, y2⟩ := hys (gV n (solA n R b)) (gV_len _ _)
    have HCUR := hide (And.intro hcur hcurs)
    have HSRC := hide (show ∀ t u, (gV n (solA n R b))[t]? = some u → wq.drew.cell? (Addr.add ⟨gb, 0, none⟩ t) = some u from hob.cells (g := gb) rfl)
    have HS7 := hide ((unhide HQd).copy a ga ca ha hva (solA n R b) _ y1 y2)
    have hca : wq.cell? ⟨gsb, a, none⟩ = some (.slice (some ⟨ga, 0, none⟩) n ca) := hcsa
    have hcb : wq.cell? ⟨gsb, b, none⟩ = some (.slice (some ⟨gb, 0, none⟩) n cb) := hcsb
    obtain ⟨w7, hw7⟩ : ∃ q, wq.drew.setRow ga (cur.toList.take 0 ++ (gV n (solA n R b) ++ cur.toList.drop (0 + (gV n (solA n R b)).length))).toArray = q := ⟨_, rfl⟩
    rw [hw7] at HS7
    have HW7 := hide hw7
    clear hw7 y1 y2 hys hcur hcurs hoa hob hva hvb esa esb hcsa hcsb HQd HSQ
    have ha' : (a : Int) < (n : Int) := by omega
    have hb' : (b : Int) < (n : Int) := by omega
    have a0' : 0 ≤ (a : Int) := by omega
    have b0' : 0 ≤ (b : Int) := by omega
    go_wp2_with fail
    go_still_tail 8, (by kernel_rfl)
    change wpList _ _ _ _ _ wq.drew
    refine wpList_copy_own rfl (.tmp 160) (.tmp 164) 32 32 rfl 3 Try.underlying32 (by kernel_rfl) ga 0 n ca ⟨gb, 0, none⟩ n cb rfl rfl cur 3 (unhide HCUR).1 (gV n (solA n R b)) (by rw [gV_len]; exact (Nat.min_self n).symm) (unhide HSRC) (by rw [gV_len]; have := (unhide HCUR).2; omega) (gV_one _ _) ?_
    rw [unhide HW7]
    clear HW7 HCUR HSRC hca hcb
    obtain ⟨gl4, el4, hlb, _, _, _⟩ := gr_cell (unhide HS7).ls b hb
    obtain rfl : gl4 = gl := by injection el4 with e; injection e with e; exact e.symm
    rw [gV_at _ hb] at hlb
    obtain ⟨gl5, el5, hla, hlf, _, _⟩ := gr_cell (unhide HS7).ls a ha
    obtain rfl : gl5 = gl4 := by injection el5 with e; injection e with e; exact e.symm
    rw [gV_at _ ha] at hla
    have HS8 := hide ((unhide HS7).lst a (rK n X (solA n R b)))
    have hGQ := (unhide HS8).gsq
    have HSO := hide (psol_any _ (soQ n (fun i => if i = a then solA n R b else solA n R i)) (soL n (fun q => if q = a then rK n X (solA n R b) else rK n X (solA n R q))) _ n n n n (some ⟨gsb, 0, none⟩) (some ⟨gl5, 0, none⟩) (soQ_len _ _) (soL_len _ _) hGQ.1 hGQ.2 (Nat.le_refl _))
    obtain ⟨bv, hbv⟩ : ∃ q, (rK n X (solA n R b)).v = q := ⟨_, rfl⟩
    rw [hbv] at hlb HSO HS8
    obtain ⟨av2, hav2⟩ : ∃ q, (rK n X (solA n R a)).v = q := ⟨_, rfl⟩
    rw [hav2] at hla
    clear hGQ hbv hav2 el4 el5 HS7
    go_wp2_with fail
    refine (unhide HSO).mono ?_
    rintro e w9 ⟨h1, _⟩
    obtain ⟨ok9, B9, hga9, hres9, hb9⟩ := h1 (so_ok n hn2 _ _)
    rw [soL_len] at hga9 hres9
    have hz9 : ok9 = false := by
      obtain ⟨y, hy1, hy2⟩ := twin (n := n) (M := fun i => if i = a then solA n R b else solA n R i) ha hb hab (fun j _ => by
        show (if a = a then solA n R b else solA n R a) j = (if b = a then solA n R b else solA n R b) j
        rw [if_pos rfl]
        by_cases q : b = a
        · rw [if_pos q]
        · rw [if_neg q])
      exact so_zero hga9 y hy1 hy2
    rcases hres9 with ⟨q, _⟩ | ⟨_, rfl⟩
    · rw [hz9] at q; cases q
    have HF9 := hide (unhide HFIN _ ((unhide HS8).bel.trans (hb9.mono (by have q1 := (unhide HS8).l1; have q2 := (unhide HS8).l2; have q3 := (unhide HS8).l3; omega))))
    clear h1 hga9 hb9 hz9 HS8
    go_wp2
    go_ret
    exact ⟨rfl, unhide HF9⟩
  · have hr0' : ((rl : Int) == 0) = false := by
      have : rl ≠ 0 := fun h0 => by
        have hRn : R = [] := List.eq_nil_of_length_eq_zero (by rw [(unhide HLN).1]; exact h0)
        have h9 := unhide HGA
        rw [hRn] at h9
        cases so_unit h9
      simp; omega
    have HSQ := HS6
    clear HGA
    go_wp2_with fail
    refine (unhide HPA _).mono ?_
    rintro e w9 ⟨rfl, hw9⟩
    subst w9
    go_wp2_with fail
    refine (unhide HPB _).mono ?_
    rintro e w9 ⟨rfl, hw9⟩
    subst w9
    by_cases hab : a = b
    · have hab' : ((a : Int) == (b : Int)) = true := by simp; omega
      go_wp2
      go_ret
      exact ⟨rfl, unhide HFIN _ (unhide HSQ).bel⟩
    have hab' : ((a : Int) == (b : Int)) = false := by simp; omega
    have HQd := hide (unhide HSQ).drew
    obtain ⟨gsa, esa, hcsa, _, _, _⟩ := (unhide HQd).sq.at a ha
    obtain rfl : gsa = gs := by injection esa with e; injection e with e; exact e.symm
    obtain ⟨gsb, esb, hcsb, _, _, _⟩ := (unhide HQd).sq.at b hb
    obtain rfl : gsb = gsa := by injection esb with e; injection e with e; exact e.symm
    have hoa := (unhide HQd).sq.own a ha
    have hob := (unhide HQd).sq.own b hb
    rw [gV_len] at hoa hob
    obtain ⟨pa, ca, hva, _⟩ := gr_form hoa
    obtain ⟨pb, cb, hvb, _⟩ := gr_form hob
    rw [hva] at hcsa hoa
    rw [hvb] at hcsb hob
    obtain ⟨ga, rfl, _, _, _, _⟩ := gr_cell hoa 0 (by omega)
    obtain ⟨gb, rfl, _, _, _, _⟩ := gr_cell hob 0 (by omega)
    obtain ⟨cur, hcur, hcurs, hys⟩ := own_setRow hoa
    obtain ⟨y1, y2⟩ := hys (gV n (solA n R b)) (gV_len _ _)
    have HCUR := hide (And.intro hcur hcurs)
    have HSRC := hide (show ∀ t u, (gV n (solA n R b))[t]? = some u → w2.drew.cell? (Addr.add ⟨gb, 0, none⟩ t) = some u from hob.cells (g := gb) rfl)
    have HS7 := hide ((unhide HQd).copy a ga ca ha hva (solA n R b) _ y1 y2)
    have hca : w2.cell? ⟨gsb, a, none⟩ = some (.slice (some ⟨ga, 0, none⟩) n ca) := hcsa
    have hcb : w2.cell? ⟨gsb, b, none⟩ = some (.slice (some ⟨gb, 0, none⟩) n cb) := hcsb
    obtain ⟨w7, hw7⟩ : ∃ q, w2.drew.setRow ga (cur.toList.take 0 ++ (gV n (solA n R b) ++ cur.toList.drop (0 + (gV n (solA n R b)).length))).toArray = q := ⟨_, rfl⟩
    rw [hw7] at HS7
    have HW7 := hide hw7
    clear hw7 y1 y2 hys hcur hcurs hoa hob hva hvb esa esb hcsa hcsb HQd HSQ
    have ha' : (a : Int) < (n : Int) := by omega
    have hb' : (b : Int) < (n : Int) := by omega
    have a0' : 0 ≤ (a : Int) := by omega
    have b0' : 0 ≤ (b : Int) := by omega
    go_wp2_with fail
    go_still_tail 8, (by kernel_rfl)
    change wpList _ _ _ _ _ w2.drew
    refine wpList_copy_own rfl (.tmp 160) (.tmp 164) 32 32 rfl 3 Try.underlying32 (by kernel_rfl) ga 0 n ca ⟨gb, 0, none⟩ n cb rfl rfl cur 3 (unhide HCUR).1 (gV n (solA n R b)) (by rw [gV_len]; exact (Nat.min_self n).symm) (unhide HSRC) (by rw [gV_len]; have := (unhide HCUR).2; omega) (gV_one _ _) ?_
    rw [unhide HW7]
    clear HW7 HCUR HSRC hca hcb
    obtain ⟨gl4, el4, hlb, _, _, _⟩ := gr_cell (unhide HS7).ls b hb
    obtain rfl : gl4 = gl := by injection el4 with e; injection e with e; exact e.symm
    rw [gV_at _ hb] at hlb
    obtain ⟨gl5, el5, hla, hlf, _, _⟩ := gr_cell (unhide HS7).ls a ha
    obtain rfl : gl5 = gl4 := by injection el5 with e; injection e with e; exact e.symm
    rw [gV_at _ ha] at hla
    have HS8 := hide ((unhide HS7).lst a (rK n X (solA n R b)))
    have hGQ := (unhide HS8).gsq
    have HSO := hide (psol_any _ (soQ n (fun i => if i = a then solA n R b else solA n R i)) (soL n (fun q => if q = a then rK n X (solA n R b) else rK n X (solA n R q))) _ n n n n (some ⟨gsb, 0, none⟩) (some ⟨gl5, 0, none⟩) (soQ_len _ _) (soL_len _ _) hGQ.1 hGQ.2 (Nat.le_refl _))
    obtain ⟨bv, hbv⟩ : ∃ q, (rK n X (solA n R b)).v = q := ⟨_, rfl⟩
    rw [hbv] at hlb HSO HS8
    obtain ⟨av2, hav2⟩ : ∃ q, (rK n X (solA n R a)).v = q := ⟨_, rfl⟩
    rw [hav2] at hla
    clear hGQ hbv hav2 el4 el5 HS7
    go_wp2_with fail
    refine (unhide HSO).mono ?_
    rintro e w9 ⟨h1, _⟩
    obtain ⟨ok9, B9, hga9, hres9, hb9⟩ := h1 (so_ok n hn2 _ _)
    rw [soL_len] at hga9 hres9
    have hz9 : ok9 = false := by
      obtain ⟨y, hy1, hy2⟩ := twin (n := n) (M := fun i => if i = a then solA n R b else solA n R i) ha hb hab (fun j _ => by
        show (if a = a then solA n R b else solA n R a) j = (if b = a then solA n R b else solA n R b) j
        rw [if_pos rfl]
        by_cases q : b = a
        · rw [if_pos q]
        · rw [if_neg q])
      exact so_zero hga9 y hy1 hy2
    rcases hres9 with ⟨q, _⟩ | ⟨_, rfl⟩
    · rw [hz9] at q; cases q
    have HF9 := hide (unhide HFIN _ ((unhide HS8).bel.trans (hb9.mono (by have q1 := (unhide HS8).l1; have q2 := (unhide HS8).l2; have q3 := (unhide HS8).l3; omega))))
    clear h1 hga9 hb9 hz9 HS8
    go_wp2
    go_ret
    exact ⟨rfl, unhide HF9⟩
end Go.Proofs.Ytmnbfkehepccfaa
