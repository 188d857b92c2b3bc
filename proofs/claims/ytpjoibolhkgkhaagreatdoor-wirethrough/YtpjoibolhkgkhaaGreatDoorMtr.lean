import Derived.Test.YtpjoibolhkgkhaaGreatDoorXgb
import Derived.Test.YtpjoibolhkgkhaaGreatDoorXgc
import Derived.Test.YtpjoibolhkgkhaaGreatDoorMrp
import Derived.Test.YtpjoibolhkgkhaaGreatDoorXga
import Derived.BigQuiet
namespace Go.Proofs.YtpjoibolhkgkhaaGreatDoor
open Go.RowKit
set_option maxRecDepth 100000
/-- the first byte of a text -/
def kdS (s : ByteArray) : Int := (nums s).getD 0 0
def kdO (s : ByteArray) : Prop := 0 < s.size ∧ 1 ≤ kdS s ∧ kdS s ≤ 12
instance (s : ByteArray) : Decidable (kdO s) := inferInstanceAs (Decidable (_ ∧ _ ∧ _))
/-- what a text is as a request, and what is wrong -/
def decR (s : ByteArray) : Req := if kdO s then (if frB s (rqF (kdS s)) ⟨#[]⟩ = true then (if tqB (kdS s) s = true then tqR (kdS s) s else Req.bare 0) else Req.bare 0) else Req.bare 0
def decE (s : ByteArray) : Int := if kdO s then (if frB s (rqF (kdS s)) ⟨#[]⟩ = true then (if tqB (kdS s) s = true then 0 else 122) else 121) else 120
set_option maxHeartbeats 4000000 in
theorem decode_none (s : ByteArray) (h : s.size = 0) (w : World) : Calls Tryz.prog 15 #[.string s] w fun e w' => e = .returned (.tuple #[.agg (Req.bare 0).cs, .int .i64 120]) ∧ Below w.heap.size w w' := by
  have hse : s = ⟨#[]⟩ := by
    obtain ⟨⟨l⟩⟩ := s
    have : l = [] := List.eq_nil_of_length_eq_zero h
    subst this
    rfl
  have he := empty_eq s hse
  obtain ⟨g, hg⟩ : ∃ g, w.heap.size = g := ⟨_, rfl⟩
  obtain ⟨y, hy⟩ : ∃ Z, w.alloc (.cells #[.int .i64 0, .int .i64 0, .int .i64 0, .int .i64 0, .int .i64 0, .int .i64 0, .string ⟨#[]⟩, .string ⟨#[]⟩, .string ⟨#[]⟩, .string ⟨#[]⟩] 29) = Z := ⟨_, rfl⟩
  have BY : Blk y g #[.int .i64 0, .int .i64 0, .int .i64 0, .int .i64 0, .int .i64 0, .int .i64 0, .string ⟨#[]⟩, .string ⟨#[]⟩, .string ⟨#[]⟩, .string ⟨#[]⟩] 29 := by rw [← hy, ← hg]; exact Blk.new w _ _
  have hby : Below g w y := by rw [← hy, ← hg]; exact (Below.refl _ w).alloc (Nat.le_refl _) _
  have hsy : y.heap.size = g + 1 := by rw [← hy, ← hg]; simp
  have BT := blk_setRow (cells := (Req.bare 0).cs) BY
  have HL := hide (iload_blk 29 _ BT Tryz.underlying29 rfl size_req)
  have HZ := hide BY
  have HBN := hide built_none
  have HO := hide (Req.one (Req.bare 0))
  have HF2 := hide (show Below g w (y.setRow g (Req.bare 0).cs) from below_setRow hby (Nat.le_refl _) _)
  clear BT BY hby hsy h hse
  go_enter Tryz.func15, Tryz.ntmps15
  go_wp2_with (first | refine wpList_buildAs rfl 29 #[] rfl _ rfl (Req.bare 0).cs (unhide HBN) ?_ | refine wpList_store_row rfl 29 (.tmp 2) (.tmp 17) rfl g (Req.bare 0).cs rfl rfl 29 #[.int .i64 0, .int .i64 0, .int .i64 0, .int .i64 0, .int .i64 0, .int .i64 0, .string ⟨#[]⟩, .string ⟨#[]⟩, .string ⟨#[]⟩, .string ⟨#[]⟩] (unhide HZ) size_req rfl (unhide HO) ?_)
  (try simp only [Exit.inBlock, Exit.then])
  refine bodyPost_ret (v := .tuple #[.agg (Req.bare 0).cs, .int .i64 120]) (results_cell2 (p := 2) (q := 3) (ty := 29) rfl _ _ _ ⟨g, 0, none⟩ rfl _ (unhide HL)) rfl ?_
  exact ⟨rfl, by rw [hg]; exact unhide HF2⟩
set_option maxHeartbeats 4000000 in
theorem decode_kind (s : ByteArray) (h : 0 < s.size) (hk : ¬ (1 ≤ kdS s ∧ kdS s ≤ 12)) (w : World) : Calls Tryz.prog 15 #[.string s] w fun e w' => e = .returned (.tuple #[.agg (Req.bare 0).cs, .int .i64 120]) ∧ Below w.heap.size w w' := by
  have he : s.toList.isEmpty = false := empty_ne (fun e => by rw [e] at h; exact absurd h (by decide))
  have hix : ∀ W, (Instr.index 9 (.string s) (.int .i64 0)).run Tryz.prog W = .ok (.int .u8 (kdS s)) W := fun W => index_str s 0 h W
  have HK := hide (isKind_any (kdS s))
  rw [decide_eq_false hk] at HK
  have hbb := nums_bytes s 0
  have hw : wrap64 (kdS s) = kdS s := wrap64_eq _ (by unfold kdS; omega) (by unfold kdS; omega)
  generalize kdS s = kd at *
  obtain ⟨g, hg⟩ : ∃ g, w.heap.size = g := ⟨_, rfl⟩
  obtain ⟨y, hy⟩ : ∃ Z, w.alloc (.cells #[.int .i64 0, .int .i64 0, .int .i64 0, .int .i64 0, .int .i64 0, .int .i64 0, .string ⟨#[]⟩, .string ⟨#[]⟩, .string ⟨#[]⟩, .string ⟨#[]⟩] 29) = Z := ⟨_, rfl⟩
  have BY : Blk y g #[.int .i64 0, .int .i64 0, .int .i64 0, .int .i64 0, .int .i64 0, .int .i64 0, .string ⟨#[]⟩, .string ⟨#[]⟩, .string ⟨#[]⟩, .string ⟨#[]⟩] 29 := by rw [← hy, ← hg]; exact Blk.new w _ _
  have hby : Below g w y := by rw [← hy, ← hg]; exact (Below.refl _ w).alloc (Nat.le_refl _) _
  have hsy : y.heap.size = g + 1 := by rw [← hy, ← hg]; simp
  have BT := blk_setRow (cells := (Req.bare 0).cs) BY
  have HL := hide (iload_blk 29 _ BT Tryz.underlying29 rfl size_req)
  have HZ := hide BY
  have HBN := hide built_none
  have HO := hide (Req.one (Req.bare 0))
  have HF2 := hide (show Below g w (y.setRow g (Req.bare 0).cs) from below_setRow hby (Nat.le_refl _) _)
  clear BT BY hby hsy h hk hbb
  go_enter Tryz.func15, Tryz.ntmps15
  go_wp2_with (first | (go_at_call 27; refine (unhide HK _).mono ?_; rintro e x ⟨rfl, hx⟩; subst x) | refine wpList_buildAs rfl 29 #[] rfl _ rfl (Req.bare 0).cs (unhide HBN) ?_ | refine wpList_store_row rfl 29 (.tmp 2) (.tmp 17) rfl g (Req.bare 0).cs rfl rfl 29 #[.int .i64 0, .int .i64 0, .int .i64 0, .int .i64 0, .int .i64 0, .int .i64 0, .string ⟨#[]⟩, .string ⟨#[]⟩, .string ⟨#[]⟩, .string ⟨#[]⟩] (unhide HZ) size_req rfl (unhide HO) ?_)
  (try simp only [Exit.inBlock, Exit.then])
  refine bodyPost_ret (v := .tuple #[.agg (Req.bare 0).cs, .int .i64 120]) (results_cell2 (p := 2) (q := 3) (ty := 29) rfl _ _ _ ⟨g, 0, none⟩ rfl _ (unhide HL)) rfl ?_
  exact ⟨rfl, by rw [hg]; exact unhide HF2⟩
set_option maxHeartbeats 8000000 in
theorem decode_rest (s : ByteArray) (hs : s.size ≤ 150000000000000) (h : 0 < s.size) (hk : 1 ≤ kdS s ∧ kdS s ≤ 12) (w : World) (hE : ETy w) : Calls Tryz.prog 15 #[.string s] w fun e w' => e = .returned (.tuple #[.agg (decR s).cs, .int .i64 (decE s)]) ∧ Below w.heap.size w w' := by
  have he : s.toList.isEmpty = false := empty_ne (fun e => by rw [e] at h; exact absurd h (by decide))
  have hix : ∀ W, (Instr.index 9 (.string s) (.int .i64 0)).run Tryz.prog W = .ok (.int .u8 (kdS s)) W := fun W => index_str s 0 h W
  have HK := hide (isKind_any (kdS s))
  rw [decide_eq_true hk] at HK
  have hko : kdO s := ⟨h, hk⟩
  have hw : wrap64 (kdS s) = kdS s := wrap64_eq _ (by omega) (by omega)
  have hbe : beN (((nums s).drop 0).take 1) = kdS s := by
    unfold kdS
    cases hq : nums s with
    | nil => rw [← nums_len, hq] at h; exact absurd h (by decide)
    | cons a l => simp [beN]
  have HDR := hide (show decR s = (if frB s (rqF (kdS s)) ⟨#[]⟩ = true then (if tqB (kdS s) s = true then tqR (kdS s) s else Req.bare 0) else Req.bare 0) by rw [decR, if_pos hko])
  have HDE := hide (show decE s = (if frB s (rqF (kdS s)) ⟨#[]⟩ = true then (if tqB (kdS s) s = true then 0 else 122) else 121) by rw [decE, if_pos hko])
  have HIF := hide (fun v W hR => isFrame_any s hs (rqF (kdS s)) (fun f hf => (rqF_all (kdS s) f hf).isF) (rqF_len (kdS s)) ⟨#[]⟩ (by decide) v W hR)
  have HFR := hide (show frB s (rqF (kdS s)) ⟨#[]⟩ = true → 1 + szF (rqF (kdS s)) ≤ s.size by
    intro q
    unfold frB at q
    by_cases e : s.size = 5 + szF (rqF (kdS s))
    · omega
    · rw [if_neg e] at q; exact absurd q (by decide))
  have HTK := hide (fun W b (q : 1 + szF (rqF (kdS s)) ≤ s.size) hA hEE => takeRequest_any (kdS s) s hs q W b hA hEE)
  have HRF := hide (rqf_any (kdS s))
  generalize decR s = DR at *
  generalize decE s = DE at *
  generalize hfb : frB s (rqF (kdS s)) ⟨#[]⟩ = FB at *
  generalize tqB (kdS s) s = TB at *
  generalize tqR (kdS s) s = TR at *
  have HBE := hide hbe
  generalize rqF (kdS s) = fs at *
  generalize kdS s = kd at *
  obtain ⟨g, hg⟩ : ∃ g, w.heap.size = g := ⟨_, rfl⟩
  obtain ⟨y, hy⟩ : ∃ Z, w.alloc (.cells #[.int .i64 0, .int .i64 0, .int .i64 0, .int .i64 0, .int .i64 0, .int .i64 0, .string ⟨#[]⟩, .string ⟨#[]⟩, .string ⟨#[]⟩, .string ⟨#[]⟩] 29) = Z := ⟨_, rfl⟩
  have BY : Blk y g #[.int .i64 0, .int .i64 0, .int .i64 0, .int .i64 0, .int .i64 0, .int .i64 0, .string ⟨#[]⟩, .string ⟨#[]⟩, .string ⟨#[]⟩, .string ⟨#[]⟩] 29 := by rw [← hy, ← hg]; exact Blk.new w _ _
  have hby : Below g w y := by rw [← hy, ← hg]; exact (Below.refl _ w).alloc (Nat.le_refl _) _
  have hsy : y.heap.size = g + 1 := by rw [← hy, ← hg]; simp
  have HEW := hide (fun W (q : Below g w W) => hE.below q (by rw [← hg]; exact hE.lt))
  have HY := hide (And.intro BY (And.intro hby hsy))
  clear BY hby hsy hk hko hbe hE hfb
  go_enter Tryz.func15, Tryz.ntmps15
  go_wp2_with (first | (go_at_call 27; refine (unhide HK _).mono ?_; rintro e x ⟨rfl, hx⟩; subst x))
  refine (newReader_any s _).mono ?_
  rintro e x1 ⟨rfl, hR1, hb1, hs1⟩
  obtain ⟨BY, hby, hsy⟩ := unhide HY
  rw [hsy] at hR1 hb1 hs1 ⊢
  have B1 := BY.below hb1 (by omega)
  have hbw1 : Below g w x1 := hby.trans (hb1.mono (by omega))
  have hA1 : At x1 (g + 1) s 0 := by unfold At Rds; rw [extract_all]; exact hR1
  have HN := hide (numA x1 (g + 1) s 0 1 hA1 (unhide HEW x1 hbw1) hs (by decide) (by decide) (by omega))
  rw [unhide HBE] at HN
  have H1 := hide (And.intro B1 (And.intro hbw1 hs1))
  clear BY hby hsy hR1 hb1 hs1 B1 hbw1 hA1 HY hy HBE
  go_wp2_with fail
  refine (unhide HN).mono ?_
  rintro e x2 ⟨rfl, hA2, hO2⟩
  obtain ⟨B1, hbw1, hs1⟩ := unhide H1
  have B2 := B1.only hO2 (by omega)
  have hbw2 : Below g w x2 := hbw1.trans (hO2.below (B := g) (by omega) (fun q hq e => by omega))
  have H2 := hide (And.intro B2 (And.intro hbw2 hA2))
  clear B1 hbw1 hs1 B2 hbw2 hA2 hO2 HN H1
  go_wp2_with fail
  refine (unhide HRF _).mono ?_
  rintro e x3 ⟨fvv, rfl, hR3, hb3⟩
  obtain ⟨B2, hbw2, hA2⟩ := unhide H2
  have HIF3 := hide (unhide HIF fvv x3 hR3)
  have H3 := hide (And.intro (B2.below hb3 B2.lt) (And.intro (hbw2.trans (hb3.mono (by have := B2.lt; omega))) (hA2.below hb3 hA2.lt)))
  clear B2 hbw2 hA2 hR3 hb3 H2 HIF HRF
  go_wp2_with fail
  refine (unhide HIF3).mono ?_
  rintro e x4 ⟨rfl, hb4⟩
  obtain ⟨B3, hbw3, hA3⟩ := unhide H3
  have B4 := B3.below hb4 B3.lt
  have hbw4 : Below g w x4 := hbw3.trans (hb4.mono (by have := B3.lt; omega))
  have hA4 := hA3.below hb4 hA3.lt
  clear B3 hbw3 hA3 hb4 H3 HIF3
  cases FB with
  | false =>
    have HD := hide (show DR = Req.bare 0 ∧ DE = 121 from ⟨unhide HDR, unhide HDE⟩)
    have BT := blk_setRow (cells := (Req.bare 0).cs) B4
    have HL := hide (iload_blk 29 _ BT Tryz.underlying29 rfl size_req)
    have HZ := hide B4
    have HBN := hide built_none
    have HO := hide (Req.one (Req.bare 0))
    have HF2 := hide (show Below g w (x4.setRow g (Req.bare 0).cs) from below_setRow hbw4 (Nat.le_refl _) _)
    clear BT B4 hbw4 hA4
    go_wp2_with (first | refine wpList_buildAs rfl 29 #[] rfl _ rfl (Req.bare 0).cs (unhide HBN) ?_ | refine wpList_store_row rfl 29 (.tmp 2) (.tmp 27) rfl g (Req.bare 0).cs rfl rfl 29 #[.int .i64 0, .int .i64 0, .int .i64 0, .int .i64 0, .int .i64 0, .int .i64 0, .string ⟨#[]⟩, .string ⟨#[]⟩, .string ⟨#[]⟩, .string ⟨#[]⟩] (unhide HZ) size_req rfl (unhide HO) ?_)
    (try simp only [Exit.inBlock, Exit.then])
    refine bodyPost_ret (v := .tuple #[.agg (Req.bare 0).cs, .int .i64 121]) (results_cell2 (p := 2) (q := 3) (ty := 29) rfl _ _ _ ⟨g, 0, none⟩ rfl _ (unhide HL)) rfl ?_
    exact ⟨by rw [(unhide HD).1, (unhide HD).2], by rw [hg]; exact unhide HF2⟩
  | true =>
    have HD := hide (show DR = (if TB = true then TR else Req.bare 0) ∧ DE = (if TB = true then 0 else 122) from ⟨unhide HDR, unhide HDE⟩)
    have HT := hide (unhide HTK x4 (g + 1) (unhide HFR rfl) hA4 (unhide HEW x4 hbw4))
    have H4 := hide (And.intro B4 hbw4)
    clear B4 hbw4 hA4 HDR HDE HTK HFR
    go_wp2_with fail
    refine (unhide HT).mono ?_
    rintro e x5 ⟨rfl, hO5⟩
    obtain ⟨B4, hbw4⟩ := unhide H4
    have B5 := B4.only hO5 (by omega)
    have hg4 := B4.lt
    have hbw5 : Below g w x5 := hbw4.trans (hO5.below (B := g) (by omega) (fun q hq e => by omega))
    obtain ⟨h, hh⟩ : ∃ h, x5.heap.size = h := ⟨_, rfl⟩
    obtain ⟨y6, hy6⟩ : ∃ Z, x5.alloc (.cells #[.int .i64 0, .int .i64 0, .int .i64 0, .int .i64 0, .int .i64 0, .int .i64 0, .string ⟨#[]⟩, .string ⟨#[]⟩, .string ⟨#[]⟩, .string ⟨#[]⟩] 29) = Z := ⟨_, rfl⟩
    have BN6 : Blk y6 h #[.int .i64 0, .int .i64 0, .int .i64 0, .int .i64 0, .int .i64 0, .int .i64 0, .string ⟨#[]⟩, .string ⟨#[]⟩, .string ⟨#[]⟩, .string ⟨#[]⟩] 29 := by rw [← hy6, ← hh]; exact Blk.new x5 _ _
    have hb6 : Below h x5 y6 := by rw [← hy6, ← hh]; exact (Below.refl _ x5).alloc (Nat.le_refl _) _
    have hg5 : g < h := by rw [← hh]; exact B5.lt
    have B6 := B5.below hb6 hg5
    have HZN := hide BN6
    have HON := hide (Req.one TR)
    have BN7 : Blk (y6.setRow h TR.cs) h TR.cs 29 := blk_setRow BN6
    have B7 : Blk (y6.setRow h TR.cs) g #[.int .i64 0, .int .i64 0, .int .i64 0, .int .i64 0, .int .i64 0, .int .i64 0, .string ⟨#[]⟩, .string ⟨#[]⟩, .string ⟨#[]⟩, .string ⟨#[]⟩] 29 := blk_setRow_other B6 (by omega)
    have hbw7 : Below g w (y6.setRow h TR.cs) := below_setRow (hbw5.trans (hb6.mono (by omega))) (by omega) _
    obtain ⟨x7, hx7⟩ : ∃ Z, y6.setRow h TR.cs = Z := ⟨_, rfl⟩
    rw [hx7] at BN7 B7 hbw7
    have HRT := hide (show x7.rangeAt h 0 TR.cl from blk_range BN7)
    clear B4 hbw4 B5 hbw5 BN6 hb6 B6 BN7 hO5 H4 HT
    cases TB with
    | false =>
      have HD2 := hide (show DR = Req.bare 0 ∧ DE = 122 from ⟨(unhide HD).1, (unhide HD).2⟩)
      have BT := blk_setRow (cells := (Req.bare 0).cs) B7
      have HL := hide (iload_blk 29 _ BT Tryz.underlying29 rfl size_req)
      have HZ := hide B7
      have HBN := hide built_none
      have HO := hide (Req.one (Req.bare 0))
      have HF2 := hide (show Below g w (x7.setRow g (Req.bare 0).cs) from below_setRow hbw7 (Nat.le_refl _) _)
      clear BT B7 hbw7
      go_wp2_with (first | refine wpList_store_row rfl 29 (.tmp 6) (.tmp 32) rfl h TR.cs rfl rfl 29 #[.int .i64 0, .int .i64 0, .int .i64 0, .int .i64 0, .int .i64 0, .int .i64 0, .string ⟨#[]⟩, .string ⟨#[]⟩, .string ⟨#[]⟩, .string ⟨#[]⟩] (unhide HZN) size_req rfl (unhide HON) ?_ | refine wpList_buildAs rfl 29 #[] rfl _ rfl (Req.bare 0).cs (unhide HBN) ?_ | refine wpList_store_row rfl 29 (.tmp 2) (.tmp 36) rfl g (Req.bare 0).cs rfl rfl 29 #[.int .i64 0, .int .i64 0, .int .i64 0, .int .i64 0, .int .i64 0, .int .i64 0, .string ⟨#[]⟩, .string ⟨#[]⟩, .string ⟨#[]⟩, .string ⟨#[]⟩] (unhide HZ) size_req rfl (unhide HO) ?_)
      (try simp only [Exit.inBlock, Exit.then])
      refine bodyPost_ret (v := .tuple #[.agg (Req.bare 0).cs, .int .i64 122]) (results_cell2 (p := 2) (q := 3) (ty := 29) rfl _ _ _ ⟨g, 0, none⟩ rfl _ (unhide HL)) rfl ?_
      exact ⟨by rw [(unhide HD2).1, (unhide HD2).2], by rw [hg]; exact unhide HF2⟩
    | true =>
      have HD2 := hide (show DR = TR ∧ DE = 0 from ⟨(unhide HD).1, (unhide HD).2⟩)
      have BT := blk_setRow (cells := TR.cs) B7
      have HL := hide (iload_blk 29 _ BT Tryz.underlying29 rfl size_req)
      have HZ := hide B7
      have HF2 := hide (show Below g w (x7.setRow g TR.cs) from below_setRow hbw7 (Nat.le_refl _) _)
      clear BT B7 hbw7
      go_wp2_with (first | refine wpList_store_row rfl 29 (.tmp 6) (.tmp 32) rfl h TR.cs rfl rfl 29 #[.int .i64 0, .int .i64 0, .int .i64 0, .int .i64 0, .int .i64 0, .int .i64 0, .string ⟨#[]⟩, .string ⟨#[]⟩, .string ⟨#[]⟩, .string ⟨#[]⟩] (unhide HZN) size_req rfl (unhide HON) ?_ | refine wpList_load_mid rfl 29 (.tmp 6) rfl h 0 rfl TR.cl _ (unhide HRT) Tryz.underlying29 rfl size_req ?_ | refine wpList_store_row rfl 29 (.tmp 2) (.tmp 37) rfl g TR.cs rfl rfl 29 #[.int .i64 0, .int .i64 0, .int .i64 0, .int .i64 0, .int .i64 0, .int .i64 0, .string ⟨#[]⟩, .string ⟨#[]⟩, .string ⟨#[]⟩, .string ⟨#[]⟩] (unhide HZ) size_req rfl (unhide HON) ?_)
      (try simp only [Exit.inBlock, Exit.then])
      refine bodyPost_ret (v := .tuple #[.agg TR.cs, .int .i64 0]) (results_cell2 (p := 2) (q := 3) (ty := 29) rfl _ _ _ ⟨g, 0, none⟩ rfl _ (unhide HL)) rfl ?_
      exact ⟨by rw [(unhide HD2).1, (unhide HD2).2], by rw [hg]; exact unhide HF2⟩
theorem decodeRequest_any (s : ByteArray) (hs : s.size ≤ 150000000000000) (w : World) (hE : ETy w) : Calls Tryz.prog 15 #[.string s] w fun e w' => e = .returned (.tuple #[.agg (decR s).cs, .int .i64 (decE s)]) ∧ Below w.heap.size w w' := by
  by_cases h : 0 < s.size
  · by_cases hk : 1 ≤ kdS s ∧ kdS s ≤ 12
    · exact decode_rest s hs h hk w hE
    · have hn : ¬ kdO s := fun q => hk q.2
      rw [decR, decE, if_neg hn, if_neg hn]
      exact decode_kind s h hk w
  · have hn : ¬ kdO s := fun q => h q.1
    rw [decR, decE, if_neg hn, if_neg hn]
    exact decode_none s (by omega) w
end Go.Proofs.YtpjoibolhkgkhaaGreatDoor
namespace Go.Proofs.YtpjoibolhkgkhaaGreatDoor
open Go.RowKit
set_option maxRecDepth 100000
/-- bytes of a frame at a place, as numbers -/
def tkB (s : ByteArray) (i n : Nat) : List Int := ((nums s).drop i).take n
theorem tkB_len {s : ByteArray} {i n : Nat} (h : i + n ≤ s.size) : (tkB s i n).length = n := by
  simp only [tkB, List.length_take, List.length_drop, nums_len]
  omega
theorem beN1 (s : ByteArray) (i : Nat) (h : i < s.size) : beN (((nums s).drop i).take 1) = (nums s).getD i 0 := by
  have hl : i < (nums s).length := by rw [nums_len]; exact h
  have e : ((nums s).drop i).take 1 = [(nums s)[i]] := by
    rw [List.drop_eq_getElem_cons hl]
    rfl
  rw [e, List.getD_eq_getElem?_getD, List.getElem?_eq_getElem hl]
  show 256 * 0 + (nums s)[i] = (nums s)[i]
  omega
theorem own_lstN {w : World} {N c n : Nat} {p : Option Addr} {V : List Int} (hn : V.length = n) (h : w.ownsRow N 3 1 (.slice p n c) n (V.map (Value.int .i64))) : Lst w w.heap.size p V := by
  subst hn
  exact own_lst h
theorem own_baseW {w : World} {base base' : Nat} {e : TypeId} {k n : Nat} {v : Value} {xs : List Value} (h : w.ownsRow base e k v n xs) (hb : base' ≤ base) : w.ownsRow base' e k v n xs := by
  refine ⟨h.1, ?_⟩
  rcases h.2 with q | ⟨g, cap, cur, e1, e2, r⟩
  · exact .inl q
  · exact .inr ⟨g, cap, cur, e1, Nat.le_trans hb e2, r⟩
theorem tkB_succ {s : ByteArray} {i j : Nat} (h : i + j < s.size) : tkB s i (j + 1) = tkB s i j ++ [(nums s).getD (i + j) 0] := by
  have hl : j < ((nums s).drop i).length := by rw [List.length_drop, nums_len]; omega
  have hl2 : i + j < (nums s).length := by rw [nums_len]; exact h
  rw [tkB, tkB, List.take_add_one, List.getElem?_eq_getElem hl, List.getD_eq_getElem?_getD, List.getElem?_eq_getElem hl2]
  simp
theorem tkB_getD {s : ByteArray} {i n j : Nat} (h : j < n) : (tkB s i n).getD j 0 = (nums s).getD (i + j) 0 := by
  rw [tkB, List.getD_eq_getElem?_getD, List.getElem?_take, if_pos h, List.getElem?_drop, List.getD_eq_getElem?_getD]
set_option maxHeartbeats 2000000 in
theorem takeBytes_any (w : World) (b : Nat) (s : ByteArray) (i n : Nat) (hA : At w b s i) (hE : ETy w) (hs : s.size ≤ 150000000000000) (hk : i + n ≤ s.size) (h8 : n ≤ 8) (K : Int) (hK : K = (n : Int)) :
    Calls Tryz.prog 140 #[.pointer (some ⟨b, 0, none⟩), .int .i64 K] w fun e w' => ∃ p c, e = .returned (.slice p n c) ∧ w'.ownsRow w.heap.size 3 1 (.slice p n c) n ((tkB s i n).map (Value.int .i64)) ∧ At w' b s (i + n) ∧ Only (fun j => j = b) w w' := by
  subst hK
  obtain ⟨i0, hi, hx0, hx1, hx2⟩ := info_parts info3w
  have HIN := hide (And.intro hi (And.intro hx0 (And.intro hx1 hx2)))
  have hne := Rds.ne hA hE
  have HEW := hide (fun W (h : Only (fun j => j = b) w W) => hE.only h (fun q => hne q.symm))
  have hbw := hA.lt
  have HA := hide hA
  clear hi hx0 hx1 hx2 hA hE hne
  go_enter Tryz.func140, Tryz.ntmps140
  go_wp2
  go_loopw [5, 7] (fun u v wr => ∃ (j : Nat) (p : Option Addr) (c : Nat), j ≤ n ∧ v = .int .i64 (j : Int) ∧ u = .slice p j c ∧ wr.ownsRow w.heap.size 3 1 (.slice p j c) j ((tkB s i j).map (Value.int .i64)) ∧ At wr b s (i + j) ∧ Only (fun j => j = b) w wr) (fun _ v _ => n - (intOf v).toNat)
  case atStart => exact ⟨0, none, 0, Nat.zero_le _, rfl, rfl, World.ownsRow_nil _ _ _ _, unhide HA, Only.refl _ _⟩
  case round =>
    obtain ⟨j, p, c, hj, rfl, rfl, hr, hAj, hO⟩ := hrel
    clear HA
    by_cases q : j < n
    · have i1 : (j : Int) < (n : Int) := by omega
      have HN := hide (numA wr b s (i + j) 1 hAj (unhide HEW wr hO) hs (by decide) (by decide) (by omega))
      rw [beN1 s (i + j) (by omega)] at HN
      have HSU := hide (tkB_succ (s := s) (i := i) (j := j) (by omega))
      obtain ⟨X, hX⟩ : ∃ X, (nums s).getD (i + j) 0 = X := ⟨_, rfl⟩
      rw [hX] at HN HSU
      have HR := hide (And.intro hr hO)
      clear hr hAj hO hX
      go_wp2_with fail
      refine (unhide HN).mono ?_
      rintro e z ⟨rfl, hAz, hOz⟩
      have hs1 := (unhide HR).2.size
      have HRZ := hide (show (z.alloc (.cells #[.int .i64 X] 3)).ownsRow w.heap.size 3 1 (.slice p j c) j ((tkB s i j).map (Value.int .i64)) from own_onlyW (own_onlyW (unhide HR).1 hOz (fun q hq e => by have := ((unhide HR).1.lt q hq).1; omega)) (Only.of_below (P := fun _ => False) (show Below z.heap.size z (z.alloc (.cells #[.int .i64 X] 3)) from (Below.refl _ _).alloc (Nat.le_refl _) _)) (fun _ _ q => q))
      have HZ := hide (And.intro hAz ((unhide HR).2.trans hOz (fun _ _ q => q)))
      have HLE := hide (show w.heap.size ≤ (z.alloc (.cells #[.int .i64 X] 3)).heap.size from by rw [World.size_alloc]; have := hOz.size; omega)
      clear hAz hOz HN HR
      go_wp2_with (refine wpList_append_lies _ rfl (.tmp 9) (.tmp 12) 22 rfl w.heap.size 3 i0 (.int .i64 0) 1 8 Tryz.underlying22 (unhide HIN).1 (unhide HIN).2.1 (unhide HIN).2.2.1 (unhide HIN).2.2.2 rfl (by decide) _ j ((tkB s i j).map (Value.int .i64)) rfl (unhide HRZ) ⟨z.heap.size, 0, none⟩ 1 1 [.int .i64 X] rfl rfl (fun q u hu => news_oneW z 3 _ q u hu) (by simp [Value.oneCell']) (by omega) (by unfold maxLen; omega) (by omega) (unhide HLE) _ rfl ?_)
      intro g1 c1 y9 ho9 hg9 hor9 hlt9
      have hO9 := grown_onlyW hg9
      have HF := hide (show y9.ownsRow w.heap.size 3 1 (.slice (some ⟨g1, 0, none⟩) (j + 1) c1) (j + 1) ((tkB s i (j + 1)).map (Value.int .i64)) ∧ At y9 b s (i + (j + 1)) ∧ Only (fun j => j = b) w y9 from by
        refine ⟨by rw [unhide HSU, List.map_append]; exact ho9, ?_, ?_⟩
        · exact ((unhide HZ).1.alloc _).only hO9 (fun e => by have := ((unhide HRZ).lt b e).1; omega)
        · exact ((unhide HZ).2.alloc _).trans hO9 (fun q hq e => by have := ((unhide HRZ).lt q e).1; omega))
      clear ho9 hg9 hor9 hlt9 hO9 HRZ HLE HZ
      go_wp2
      go_roundw
      case rel => exact ⟨j + 1, _, c1, by omega, by go_num, rfl, unhide HF⟩
      case measure => simp [intOf]; omega
    · obtain rfl : j = n := by omega
      have i1 : ¬ ((j : Int) < (j : Int)) := by omega
      have HR := hide (And.intro hr (And.intro hAj hO))
      clear hr hAj hO q
      go_wp2
      go_ret
      exact ⟨p, c, rfl, unhide HR⟩
theorem built_lst (p : Option Addr) (n c : Nat) : Tryz.prog.built 103 [(2, .slice p n c)] = some (⟨0, ⟨#[]⟩, p, n, c⟩ : Prt).cs := by kernel_rfl
theorem built_prt : Tryz.prog.built 103 [] = some Prt.nil.cs := by kernel_rfl
/-- what places.take answers -/
def PlQ (N b : Nat) (s : ByteArray) (i : Nat) (w : World) (e : Ending) (w' : World) : Prop := ∃ p c, e = .returned (.tuple #[.agg (⟨0, ⟨#[]⟩, p, 8, c⟩ : Prt).cs, .bool true]) ∧ w'.ownsRow N 3 1 (.slice p 8 c) 8 ((tkB s i 8).map (Value.int .i64)) ∧ At w' b s (i + 8) ∧ Only (fun j => j = b) w w'
set_option maxHeartbeats 2000000 in
theorem plTake_any (w : World) (b : Nat) (s : ByteArray) (i : Nat) (hA : At w b s i) (hE : ETy w) (hs : s.size ≤ 150000000000000) (hk : i + 8 ≤ s.size) :
    Calls Tryz.prog 139 #[.agg #[], .pointer (some ⟨b, 0, none⟩)] w fun e w' => PlQ w.heap.size b s i w e w' := by
  obtain ⟨B1, B2, hbl, hs2⟩ := two_boxes w #[] #[.int .i64 0, .string ⟨#[]⟩, .slice none 0 0] 135 103
  obtain ⟨g, hgg⟩ : ∃ g, w.heap.size = g := ⟨_, rfl⟩
  obtain ⟨y, hy⟩ : ∃ Z, (w.alloc (.cells #[] 135)).alloc (.cells #[.int .i64 0, .string ⟨#[]⟩, .slice none 0 0] 103) = Z := ⟨_, rfl⟩
  rw [hgg] at B1 B2 hs2 hbl ⊢
  rw [hy] at B1 B2 hbl hs2
  have hbg : b < g := by rw [← hgg]; exact hA.lt
  have HT := hide (takeBytes_any y b s i 8 (hA.below hbl hbg) (hE.below hbl (by rw [← hgg]; exact hE.lt)) hs hk (by decide) 8 rfl)
  rw [hs2] at HT
  have HY := hide (And.intro B2 hbl)
  clear B1 B2 hbl hs2 hA hE
  go_enter Tryz.func139, Tryz.ntmps139
  go_wp2_with fail
  refine (unhide HT).mono ?_
  rintro e x ⟨p, c, rfl, hr, hAx, hOx⟩
  obtain ⟨B2, hbl⟩ := unhide HY
  have C2 := B2.only hOx (by omega)
  have HO := hide (Prt.one (⟨0, ⟨#[]⟩, p, 8, c⟩ : Prt))
  have BT := blk_setRow (cells := #[.int .i64 0, .string ⟨#[]⟩, .slice p 8 c]) C2
  have HL := hide (iload_blk 103 _ BT Tryz.underlying103 rfl size_prt)
  have HZ := hide C2
  have oS : Only (fun j => j = g + 1) x (x.setRow (g + 1) #[.int .i64 0, .string ⟨#[]⟩, .slice p 8 c]) := only_setRow (P := fun j => j = g + 1) (g + 1) _ rfl
  have HF := hide (show (x.setRow (g + 1) #[.int .i64 0, .string ⟨#[]⟩, .slice p 8 c]).ownsRow g 3 1 (.slice p 8 c) 8 ((tkB s i 8).map (Value.int .i64)) ∧ At (x.setRow (g + 1) #[.int .i64 0, .string ⟨#[]⟩, .slice p 8 c]) b s (i + 8) ∧ Only (fun j => j = b) w (x.setRow (g + 1) #[.int .i64 0, .string ⟨#[]⟩, .slice p 8 c]) from
    ⟨own_onlyW (own_baseW hr (by omega)) oS (fun q hq e => by have := (hr.lt q hq).1; omega), hAx.only oS (by omega), ((Only.of_below (P := fun j => j = b) (by rw [hgg]; exact hbl)).trans hOx (fun _ _ q => q)).trans oS (fun k hk q => by omega)⟩)
  clear B2 hbl C2 BT hAx hOx hy hr oS HT HY
  go_wp2_with (refine wpList_store_row rfl 103 (.tmp 4) (.tmp 8) rfl (g + 1) #[.int .i64 0, .string ⟨#[]⟩, .slice p 8 c] rfl rfl 103 #[.int .i64 0, .string ⟨#[]⟩, .slice none 0 0] (unhide HZ) size_prt rfl (unhide HO) ?_)
  (try simp only [Exit.inBlock, Exit.then])
  refine bodyPost_ret (v := .tuple #[.agg #[.int .i64 0, .string ⟨#[]⟩, .slice p 8 c], .bool true]) (results_cell2 (p := 4) (q := 5) (ty := 103) rfl _ _ _ ⟨g + 1, 0, none⟩ rfl _ (unhide HL)) rfl ?_
  exact ⟨p, c, rfl, unhide HF⟩
/-- may what stands at a place be a list of volumes? -/
def vtN (s : ByteArray) (i : Nat) : Nat := ((nums s).getD i 0).toNat
def vtB (s : ByteArray) (i : Nat) : Bool := decide (vtN s i ≤ 8) && (((s.extract (i + 1 + vtN s i) (i + 9)).toList == (strOfNums (List.replicate (8 - vtN s i) 0)).toList) && areV (tkB s (i + 1) (vtN s i)))
/-- what volumes.take answers -/
def VoQ (N b : Nat) (s : ByteArray) (i : Nat) (w : World) (e : Ending) (w' : World) : Prop := ∃ P : Prt, e = .returned (.tuple #[.agg P.cs, .bool (vtB s i)]) ∧ Only (fun j => j = b) w w' ∧ (vtB s i = true → ∃ p c, P = ⟨0, ⟨#[]⟩, p, vtN s i, c⟩ ∧ w'.ownsRow N 3 1 (.slice p (vtN s i) c) (vtN s i) ((tkB s (i + 1) (vtN s i)).map (Value.int .i64)) ∧ At w' b s (i + 9))
set_option maxHeartbeats 4000000 in
theorem voTake_any (w : World) (b : Nat) (s : ByteArray) (i : Nat) (hA : At w b s i) (hE : ETy w) (hs : s.size ≤ 150000000000000) (hk : i + 9 ≤ s.size) :
    Calls Tryz.prog 143 #[.agg #[], .pointer (some ⟨b, 0, none⟩)] w fun e w' => VoQ w.heap.size b s i w e w' := by
  obtain ⟨B1, B2, hbl, hs2⟩ := two_boxes w #[] #[.int .i64 0, .string ⟨#[]⟩, .slice none 0 0] 136 103
  obtain ⟨g, hgg⟩ : ∃ g, w.heap.size = g := ⟨_, rfl⟩
  obtain ⟨y, hy⟩ : ∃ Z, (w.alloc (.cells #[] 136)).alloc (.cells #[.int .i64 0, .string ⟨#[]⟩, .slice none 0 0] 103) = Z := ⟨_, rfl⟩
  rw [hgg] at B1 B2 hs2 hbl ⊢
  rw [hy] at B1 B2 hbl hs2
  have hbg : b < g := by rw [← hgg]; exact hA.lt
  have hne := Rds.ne hA hE
  have HEW := hide (fun W (h : Only (fun j => j = b) w W) => hE.only h (fun q => hne q.symm))
  have hOy : Only (fun j => j = b) w y := Only.of_below (by rw [hgg]; exact hbl)
  have HN := hide (numA y b s i 1 (hA.below hbl hbg) (unhide HEW y hOy) hs (by decide) (by decide) (by omega))
  rw [beN1 s i (by omega)] at HN
  have hbb := nums_bytes s i
  obtain ⟨n, hn⟩ : ∃ n, vtN s i = n := ⟨_, rfl⟩
  have hnI : (nums s).getD i 0 = (n : Int) := by rw [← hn, vtN]; omega
  rw [hnI] at HN
  have HNV := hide hn
  have HY := hide (And.intro B2 hOy)
  clear B1 B2 hbl hA hE hne hnI hn hbb
  go_enter Tryz.func143, Tryz.ntmps143
  go_wp2_with fail
  refine (unhide HN).mono ?_
  rintro e x ⟨rfl, hAx, hOx⟩
  have C2 := (unhide HY).1.only hOx (by omega)
  have hO := (unhide HY).2.trans hOx (fun _ _ q => q)
  have hxs : g + 2 ≤ x.heap.size := by have := hOx.size; omega
  clear HN HY hOx
  by_cases h8 : n ≤ 8
  · have q1 : ¬ ((n : Int) > 8) := by omega
    have HT := hide (takeBytes_any x b s (i + 1) n hAx (unhide HEW x hO) hs (by omega) h8 (n : Int) rfl)
    have HX := hide (And.intro C2 hO)
    clear hy C2 hO hAx
    go_wp2_with fail
    refine (unhide HT).mono ?_
    rintro e x1 ⟨p, c, rfl, hr, hA1, hO1⟩
    obtain ⟨h, hh⟩ : ∃ h, x1.heap.size = h := ⟨_, rfl⟩
    obtain ⟨xa, hxa⟩ : ∃ X, x1.alloc (.cells #[.int .i64 0, .string ⟨#[]⟩, .slice none 0 0] 103) = X := ⟨_, rfl⟩
    obtain ⟨x2, hx2⟩ : ∃ X, xa.setRow h #[.int .i64 0, .string ⟨#[]⟩, .slice p n c] = X := ⟨_, rfl⟩
    have hs1 := hO1.size
    have HBA := hide (show Blk xa h #[.int .i64 0, .string ⟨#[]⟩, .slice none 0 0] 103 from by rw [← hxa, ← hh]; exact Blk.new _ _ _)
    have hba : Below h x1 xa := by rw [← hxa, ← hh]; exact (Below.refl _ _).alloc (Nat.le_refl _) _
    have oR : Only (fun j => j = h) xa x2 := by rw [← hx2]; exact only_setRow (P := fun j => j = h) h _ rfl
    have hba' : Below x1.heap.size x1 xa := by rw [hh]; exact hba
    have HX2 := hide (show Blk x2 h #[.int .i64 0, .string ⟨#[]⟩, .slice p n c] 103 ∧ Blk x2 (g + 1) #[.int .i64 0, .string ⟨#[]⟩, .slice none 0 0] 103 ∧ At x2 b s (i + 1 + n) ∧ x2.ownsRow (g + 2) 3 1 (.slice p n c) n ((tkB s (i + 1) n).map (Value.int .i64)) ∧ Only (fun j => j = b) w x2 from
      ⟨by rw [← hx2]; exact blk_setRow (unhide HBA), (((unhide HX).1.only hO1 (by omega)).below hba (by omega)).only oR (by omega), (hA1.below hba (by have := hA1.lt; omega)).only oR (by have := hA1.lt; omega), own_onlyW (own_onlyW (own_baseW hr (by omega)) (Only.of_below (P := fun _ => False) hba') (fun _ _ q => q)) oR (fun q hq e => by have := (hr.lt q hq).2; omega), (((unhide HX).2.trans hO1 (fun _ _ q => q)).trans (Only.of_below (P := fun _ => False) hba') (fun _ _ e => e.elim)).trans oR (fun k hk q => by omega)⟩)
    have HOP := hide (Prt.one (⟨0, ⟨#[]⟩, p, n, c⟩ : Prt))
    obtain ⟨d, hd⟩ : ∃ d, 8 - n = d := ⟨_, rfl⟩
    have hd8 : n + d = 8 := by omega
    have w1 : IntKind.i64.wrap (8 - (n : Int)) = (d : Int) := by rw [wrapI_eq _ (by omega) (by omega)]; omega
    have w2 : IntKind.i64.wrap (1 * (d : Int)) = (d : Int) := by rw [wrapI_eq _ (by omega) (by omega)]; omega
    have HLN := hide (tkB_len (s := s) (i := i + 1) (n := n) (by omega))
    have HNO := hide (fun W => noughts_any d (by omega) W)
    obtain ⟨T1, hT1⟩ : ∃ T, s.extract (i + 1 + n) (i + 1 + n + d) = T := ⟨_, rfl⟩
    obtain ⟨Z1, hZ1⟩ : ∃ Z, strOfNums (List.replicate d (0 : Int)) = Z := ⟨_, rfl⟩
    obtain ⟨AV, hAV⟩ : ∃ A, areV (tkB s (i + 1) n) = A := ⟨_, rfl⟩
    rw [hZ1] at HNO
    have HT1 := hide hT1
    have HI9 := hide (show i + 1 + n + d = i + 9 by omega)
    have HAE := hide hAV
    have HVB := hide (show vtB s i = ((T1.toList == Z1.toList) && AV) from by
      rw [vtB, unhide HNV, decide_eq_true h8, Bool.true_and, ← hT1, ← hZ1, ← hAV, hd, show i + 1 + n + d = i + 9 by omega])
    have hhg : g + 2 ≤ h := by omega
    clear hr hA1 hO1 hba oR hba' hT1 hZ1 hAV hd HX HT hs1
    go_wp2_with (refine wpList_store_row rfl 103 (.tmp 7) (.tmp 17) rfl h #[.int .i64 0, .string ⟨#[]⟩, .slice p n c] rfl rfl 103 #[.int .i64 0, .string ⟨#[]⟩, .slice none 0 0] (unhide HBA) size_prt rfl (unhide HOP) ?_)
    clear hxa hx2 HBA w1 w2
    cases hD : (T1.toList == Z1.toList) with
    | true =>
      rw [hD, Bool.true_and] at HVB
      refine wp_region_held_drew (S := fun x => x.cell? ⟨h, 0, none⟩ = some (.int .i64 0) ∧ x.cell? ⟨h, 1, none⟩ = some (.string ⟨#[]⟩) ∧ x.cell? ⟨h, 2, none⟩ = some (.slice p n c)) (by kernel_rfl) ⟨by rw [World.cell?_drew]; exact (unhide HX2).1.cell 0, by rw [World.cell?_drew]; exact (unhide HX2).1.cell 1, by rw [World.cell?_drew]; exact (unhide HX2).1.cell 2⟩ ?_
      intro hS
      obtain ⟨xd, hxd⟩ : ∃ X, x2.drew = X := ⟨_, rfl⟩
      rw [hxd] at hS ⊢
      have HX3 := hide (show Blk xd h #[.int .i64 0, .string ⟨#[]⟩, .slice p n c] 103 ∧ Blk xd (g + 1) #[.int .i64 0, .string ⟨#[]⟩, .slice none 0 0] 103 ∧ At xd b s (i + 1 + n) ∧ xd.ownsRow (g + 2) 3 1 (.slice p n c) n ((tkB s (i + 1) n).map (Value.int .i64)) ∧ Only (fun j => j = b) w xd from by
        rw [← hxd]
        obtain ⟨u1, u2, u3, u4, u5⟩ := unhide HX2
        exact ⟨u1, u2, u3, u4.drew, u5.drew⟩)
      have HRW := hide (rawA xd b s (i + 1 + n) d (unhide HX3).2.2.1 (unhide HEW xd (unhide HX3).2.2.2.2) hs (by omega))
      rw [unhide HT1, unhide HI9] at HRW
      clear hxd HX2
      refine wpAnyH_takeD 0 (some 21) (.agg #[.int .i64 0, .string ⟨#[]⟩, .slice p n c]) rfl rfl (by kernel_rfl) (by kernel_rfl) (by kernel_rfl) (fun _ _ _ h => h) (Or.inl ⟨by rfl, fun w hSw => by obtain ⟨s0, s1, s2⟩ := hSw; go_simp⟩) hS ?_
      simp only [Act.put, List.setIfInBounds_toArray, List.set_cons_zero, List.set_cons_succ]
      refine wpAnyH_takeD 1 (some 22) (.pointer (some ⟨b, 0, none⟩)) rfl rfl (by kernel_rfl) (by kernel_rfl) (by kernel_rfl) (fun _ _ _ h => h) (Or.inl ⟨by rfl, fun w hSw => by obtain ⟨s0, s1, s2⟩ := hSw; go_simp⟩) hS ?_
      simp only [Act.put, List.setIfInBounds_toArray, List.set_cons_zero, List.set_cons_succ]
      refine wpAnyH_takeD 2 (some 23) (.int .i64 (d : Int)) rfl rfl (by kernel_rfl) (by kernel_rfl) (by kernel_rfl) (fun _ _ _ h => h) (Or.inl ⟨by rfl, fun w hSw => by obtain ⟨s0, s1, s2⟩ := hSw; go_simp⟩) hS ?_
      simp only [Act.put, List.setIfInBounds_toArray, List.set_cons_zero, List.set_cons_succ]
      refine wpAnyH_takeD 4 (some 25) (.int .i64 (d : Int)) rfl rfl (by kernel_rfl) (by kernel_rfl) (by kernel_rfl) (fun _ _ _ h => h) (Or.inl ⟨by rfl, fun w hSw => by obtain ⟨s0, s1, s2⟩ := hSw; go_simp⟩) hS ?_
      simp only [Act.put, List.setIfInBounds_toArray, List.set_cons_zero, List.set_cons_succ]
      refine wpAnyH_ready (rs := [3]) (by kernel_rfl) (by simp) ?_
      refine AllReadyH.cons rfl (fun K hK => ?_) AllReadyH.nil
      simp only [List.getElem_toArray, List.getElem_cons_succ, List.getElem_cons_zero]
      go_simp
      refine (unhide HRW).mono ?_
      rintro e z1 ⟨rfl, hA1, hO1⟩
      have hB1 := (unhide HX3).1.only hO1 (by omega)
      have hG1 := (unhide HX3).2.1.only hO1 (by omega)
      have HZ1 := hide (And.intro hB1 (And.intro hG1 (And.intro hA1 (And.intro (own_onlyW (unhide HX3).2.2.2.1 hO1 (fun q hq e => by have := ((unhide HX3).2.2.2.1.lt q hq).1; omega)) ((unhide HX3).2.2.2.2.trans hO1 (fun _ _ q => q))))))
      clear hB1 hG1 hA1 hO1 HRW
      refine hK.out _ _ ⟨(unhide HZ1).1.cell 0, (unhide HZ1).1.cell 1, (unhide HZ1).1.cell 2⟩ (fun hS => ?_)
      clear hK K
      refine wpAnyH_ready (rs := [5]) (by kernel_rfl) (by simp) ?_
      refine AllReadyH.cons rfl (fun K hK => ?_) AllReadyH.nil
      simp only [List.getElem_toArray, List.getElem_cons_succ, List.getElem_cons_zero]
      go_simp
      refine (unhide HNO z1).mono ?_
      rintro e z2 ⟨rfl, hb2⟩
      have HZ2 := hide (And.intro ((unhide HZ1).1.below hb2 (unhide HZ1).1.lt) (And.intro ((unhide HZ1).2.1.below hb2 (unhide HZ1).2.1.lt) (And.intro ((unhide HZ1).2.2.1.below hb2 (unhide HZ1).2.2.1.lt) (And.intro (own_onlyW (unhide HZ1).2.2.2.1 (Only.of_below (P := fun _ => False) hb2) (fun _ _ q => q)) ((unhide HZ1).2.2.2.2.trans (Only.of_below (P := fun _ => False) hb2) (fun _ _ e => e.elim))))))
      clear hb2 HZ1
      refine hK.out _ _ ⟨(unhide HZ2).1.cell 0, (unhide HZ2).1.cell 1, (unhide HZ2).1.cell 2⟩ (fun hS => ?_)
      clear hK K
      refine wpAnyH_takeD 6 (some 27) (.bool true) rfl rfl (by kernel_rfl) (by kernel_rfl) (by kernel_rfl) (fun _ _ _ h => h) (Or.inl ⟨by rfl, fun w hSw => by obtain ⟨s0, s1, s2⟩ := hSw; go_simp⟩) hS ?_
      simp only [Act.put, List.setIfInBounds_toArray, List.set_cons_zero, List.set_cons_succ]
      refine wpAnyH_takeD 7 (some 28) (.bool true) rfl rfl (by kernel_rfl) (by kernel_rfl) (by kernel_rfl) (fun _ _ _ h => h) (Or.inl ⟨by rfl, fun w hSw => by obtain ⟨s0, s1, s2⟩ := hSw; go_simp⟩) hS ?_
      simp only [Act.put, List.setIfInBounds_toArray, List.set_cons_zero, List.set_cons_succ]
      refine wpAnyH_takeD 8 (some 29) (.pointer (some ⟨h, 2, none⟩)) rfl rfl (by kernel_rfl) (by kernel_rfl) (by kernel_rfl) (fun _ _ _ h => h) (Or.inl ⟨by rfl, fun w hSw => by obtain ⟨s0, s1, s2⟩ := hSw; go_simp⟩) hS ?_
      simp only [Act.put, List.setIfInBounds_toArray, List.set_cons_zero, List.set_cons_succ]
      refine wpAnyH_takeD 9 (some 30) (.slice p n c) rfl rfl (by kernel_rfl) (by kernel_rfl) (by kernel_rfl) (fun _ _ _ h => h) (Or.inl ⟨by rfl, fun w hSw => by obtain ⟨s0, s1, s2⟩ := hSw; go_simp⟩) hS ?_
      simp only [Act.put, List.setIfInBounds_toArray, List.set_cons_zero, List.set_cons_succ]
      refine wpAnyH_ready (rs := [10]) (by kernel_rfl) (by simp) ?_
      refine AllReadyH.cons rfl (fun K hK => ?_) AllReadyH.nil
      simp only [List.getElem_toArray, List.getElem_cons_succ, List.getElem_cons_zero]
      go_simp
      have HAV := hide (areVolumes_any z2 z2.heap.size p c n (tkB s (i + 1) n) (unhide HLN) (own_lstN (unhide HLN) (unhide HZ2).2.2.2.1) (Nat.le_refl _) h8)
      rw [unhide HAE] at HAV
      refine (unhide HAV).mono ?_
      rintro e z3 ⟨rfl, hb3⟩
      have HZ3 := hide (And.intro ((unhide HZ2).1.below hb3 (unhide HZ2).1.lt) (And.intro ((unhide HZ2).2.1.below hb3 (unhide HZ2).2.1.lt) (And.intro ((unhide HZ2).2.2.1.below hb3 (unhide HZ2).2.2.1.lt) (And.intro (own_onlyW (unhide HZ2).2.2.2.1 (Only.of_below (P := fun _ => False) hb3) (fun _ _ q => q)) ((unhide HZ2).2.2.2.2.trans (Only.of_below (P := fun _ => False) hb3) (fun _ _ e => e.elim))))))
      clear hb3 HZ2 HAV
      refine hK.out _ _ ⟨(unhide HZ3).1.cell 0, (unhide HZ3).1.cell 1, (unhide HZ3).1.cell 2⟩ (fun hS => ?_)
      clear hK K
      refine wpAnyH_takeD 11 (some 32) (.bool AV) rfl rfl (by kernel_rfl) (by kernel_rfl) (by kernel_rfl) (fun _ _ _ h => h) (Or.inl ⟨by rfl, fun w hSw => by obtain ⟨s0, s1, s2⟩ := hSw; go_simp⟩) hS ?_
      simp only [Act.put, List.setIfInBounds_toArray, List.set_cons_zero, List.set_cons_succ]
      obtain ⟨z5, hz5⟩ : ∃ Z, ((z3.setCell ⟨g + 1, 0, none⟩ (.int .i64 0)).setCell ⟨g + 1, 1, none⟩ (.string ⟨#[]⟩)).setCell ⟨g + 1, 2, none⟩ (.slice p n c) = Z := ⟨_, rfl⟩
      have e0 : z3.cell? ⟨g + 1, 0, none⟩ = some (.int .i64 0) := (unhide HZ3).2.1.cell 0
      have e1 : z3.cell? ⟨g + 1, 1, none⟩ = some (.string ⟨#[]⟩) := (unhide HZ3).2.1.cell 1
      have e2 : z3.cell? ⟨g + 1, 2, none⟩ = some (.slice none 0 0) := (unhide HZ3).2.1.cell 2
      have f0 : z3.frozen? ⟨g + 1, 0, none⟩ = false := (unhide HZ3).2.1.frozen 0
      have f1 : z3.frozen? ⟨g + 1, 1, none⟩ = false := (unhide HZ3).2.1.frozen 1
      have f2 : z3.frozen? ⟨g + 1, 2, none⟩ = false := (unhide HZ3).2.1.frozen 2
      have o1 := (Only.refl (fun j => j = g + 1) z3).setCell ⟨g + 1, 0, none⟩ (.int .i64 0) (fun _ => rfl)
      have o2 := o1.setCell ⟨g + 1, 1, none⟩ (.string ⟨#[]⟩) (fun _ => rfl)
      have oS := o2.setCell ⟨g + 1, 2, none⟩ (.slice p n c) (fun _ => rfl)
      rw [hz5] at oS
      clear o1 o2
      have HZ5 := hide (show Blk z5 h #[.int .i64 0, .string ⟨#[]⟩, .slice p n c] 103 ∧ Blk z5 (g + 1) #[.int .i64 0, .string ⟨#[]⟩, .slice p n c] 103 ∧ At z5 b s (i + 9) ∧ z5.ownsRow g 3 1 (.slice p n c) n ((tkB s (i + 1) n).map (Value.int .i64)) ∧ Only (fun j => j = b) w z5 from
        ⟨(unhide HZ3).1.only oS (by omega), by rw [← hz5]; exact ((((unhide HZ3).2.1.set 0 (.int .i64 0)).set 1 (.string ⟨#[]⟩)).set 2 (.slice p n c)), (unhide HZ3).2.2.1.only oS (by omega), own_onlyW (own_baseW (unhide HZ3).2.2.2.1 (by omega)) oS (fun q hq e => by have := ((unhide HZ3).2.2.2.1.lt q hq).1; omega), (unhide HZ3).2.2.2.2.trans oS (fun k hk q => by omega)⟩)
      have HE5 := hide hz5
      clear oS
      refine wpAnyH_ready (rs := [12]) (by kernel_rfl) (by simp) ?_
      refine AllReadyH.cons rfl (fun K hK => ?_) AllReadyH.nil
      simp only [List.getElem_toArray, List.getElem_cons_succ, List.getElem_cons_zero]
      go_simp
      (try rw [unhide HE5])
      refine hK.out _ _ ⟨(unhide HZ5).1.cell 0, (unhide HZ5).1.cell 1, (unhide HZ5).1.cell 2⟩ (fun hS => ?_)
      clear hK K
      refine wpAnyH_takeD 13 (some 5) (.bool AV) rfl rfl (by kernel_rfl) (by kernel_rfl) (by kernel_rfl) (fun _ _ _ h => h) (Or.inl ⟨by rfl, fun w hSw => by obtain ⟨s0, s1, s2⟩ := hSw; go_simp⟩) hS ?_
      simp only [Act.put, List.setIfInBounds_toArray, List.set_cons_zero, List.set_cons_succ]
      refine wpAnyH_done (by kernel_rfl) ?_ _
      clear hS
      have HL := hide (iload_blk 103 _ (unhide HZ5).2.1 Tryz.underlying103 rfl size_prt)
      go_wp2
      (try simp only [Exit.inBlock, Exit.then])
      refine bodyPost_ret (v := .tuple #[.agg #[.int .i64 0, .string ⟨#[]⟩, .slice p n c], .bool AV]) (results_cell2 (p := 4) (q := 5) (ty := 103) rfl _ _ _ ⟨g + 1, 0, none⟩ rfl _ (unhide HL)) rfl ?_
      refine ⟨⟨0, ⟨#[]⟩, p, n, c⟩, by rw [unhide HVB]; rfl, (unhide HZ5).2.2.2.2, fun _ => ⟨p, c, by rw [unhide HNV], by rw [unhide HNV]; exact (unhide HZ5).2.2.2.1, (unhide HZ5).2.2.1⟩⟩
    | false =>
      rw [hD, Bool.false_and] at HVB
      refine wp_region_held_drew (S := fun x => x.cell? ⟨h, 0, none⟩ = some (.int .i64 0) ∧ x.cell? ⟨h, 1, none⟩ = some (.string ⟨#[]⟩) ∧ x.cell? ⟨h, 2, none⟩ = some (.slice p n c)) (by kernel_rfl) ⟨by rw [World.cell?_drew]; exact (unhide HX2).1.cell 0, by rw [World.cell?_drew]; exact (unhide HX2).1.cell 1, by rw [World.cell?_drew]; exact (unhide HX2).1.cell 2⟩ ?_
      intro hS
      obtain ⟨xd, hxd⟩ : ∃ X, x2.drew = X := ⟨_, rfl⟩
      rw [hxd] at hS ⊢
      have HX3 := hide (show Blk xd h #[.int .i64 0, .string ⟨#[]⟩, .slice p n c] 103 ∧ Blk xd (g + 1) #[.int .i64 0, .string ⟨#[]⟩, .slice none 0 0] 103 ∧ At xd b s (i + 1 + n) ∧ xd.ownsRow (g + 2) 3 1 (.slice p n c) n ((tkB s (i + 1) n).map (Value.int .i64)) ∧ Only (fun j => j = b) w xd from by
        rw [← hxd]
        obtain ⟨u1, u2, u3, u4, u5⟩ := unhide HX2
        exact ⟨u1, u2, u3, u4.drew, u5.drew⟩)
      have HRW := hide (rawA xd b s (i + 1 + n) d (unhide HX3).2.2.1 (unhide HEW xd (unhide HX3).2.2.2.2) hs (by omega))
      rw [unhide HT1, unhide HI9] at HRW
      clear hxd HX2
      refine wpAnyH_takeD 0 (some 21) (.agg #[.int .i64 0, .string ⟨#[]⟩, .slice p n c]) rfl rfl (by kernel_rfl) (by kernel_rfl) (by kernel_rfl) (fun _ _ _ h => h) (Or.inl ⟨by rfl, fun w hSw => by obtain ⟨s0, s1, s2⟩ := hSw; go_simp⟩) hS ?_
      simp only [Act.put, List.setIfInBounds_toArray, List.set_cons_zero, List.set_cons_succ]
      refine wpAnyH_takeD 1 (some 22) (.pointer (some ⟨b, 0, none⟩)) rfl rfl (by kernel_rfl) (by kernel_rfl) (by kernel_rfl) (fun _ _ _ h => h) (Or.inl ⟨by rfl, fun w hSw => by obtain ⟨s0, s1, s2⟩ := hSw; go_simp⟩) hS ?_
      simp only [Act.put, List.setIfInBounds_toArray, List.set_cons_zero, List.set_cons_succ]
      refine wpAnyH_takeD 2 (some 23) (.int .i64 (d : Int)) rfl rfl (by kernel_rfl) (by kernel_rfl) (by kernel_rfl) (fun _ _ _ h => h) (Or.inl ⟨by rfl, fun w hSw => by obtain ⟨s0, s1, s2⟩ := hSw; go_simp⟩) hS ?_
      simp only [Act.put, List.setIfInBounds_toArray, List.set_cons_zero, List.set_cons_succ]
      refine wpAnyH_takeD 4 (some 25) (.int .i64 (d : Int)) rfl rfl (by kernel_rfl) (by kernel_rfl) (by kernel_rfl) (fun _ _ _ h => h) (Or.inl ⟨by rfl, fun w hSw => by obtain ⟨s0, s1, s2⟩ := hSw; go_simp⟩) hS ?_
      simp only [Act.put, List.setIfInBounds_toArray, List.set_cons_zero, List.set_cons_succ]
      refine wpAnyH_ready (rs := [3]) (by kernel_rfl) (by simp) ?_
      refine AllReadyH.cons rfl (fun K hK => ?_) AllReadyH.nil
      simp only [List.getElem_toArray, List.getElem_cons_succ, List.getElem_cons_zero]
      go_simp
      refine (unhide HRW).mono ?_
      rintro e z1 ⟨rfl, hA1, hO1⟩
      have hB1 := (unhide HX3).1.only hO1 (by omega)
      have hG1 := (unhide HX3).2.1.only hO1 (by omega)
      have HZ1 := hide (And.intro hB1 (And.intro hG1 (And.intro hA1 (And.intro (own_onlyW (unhide HX3).2.2.2.1 hO1 (fun q hq e => by have := ((unhide HX3).2.2.2.1.lt q hq).1; omega)) ((unhide HX3).2.2.2.2.trans hO1 (fun _ _ q => q))))))
      clear hB1 hG1 hA1 hO1 HRW
      refine hK.out _ _ ⟨(unhide HZ1).1.cell 0, (unhide HZ1).1.cell 1, (unhide HZ1).1.cell 2⟩ (fun hS => ?_)
      clear hK K
      refine wpAnyH_ready (rs := [5]) (by kernel_rfl) (by simp) ?_
      refine AllReadyH.cons rfl (fun K hK => ?_) AllReadyH.nil
      simp only [List.getElem_toArray, List.getElem_cons_succ, List.getElem_cons_zero]
      go_simp
      refine (unhide HNO z1).mono ?_
      rintro e z2 ⟨rfl, hb2⟩
      have HZ2 := hide (And.intro ((unhide HZ1).1.below hb2 (unhide HZ1).1.lt) (And.intro ((unhide HZ1).2.1.below hb2 (unhide HZ1).2.1.lt) (And.intro ((unhide HZ1).2.2.1.below hb2 (unhide HZ1).2.2.1.lt) (And.intro (own_onlyW (unhide HZ1).2.2.2.1 (Only.of_below (P := fun _ => False) hb2) (fun _ _ q => q)) ((unhide HZ1).2.2.2.2.trans (Only.of_below (P := fun _ => False) hb2) (fun _ _ e => e.elim))))))
      clear hb2 HZ1
      refine hK.out _ _ ⟨(unhide HZ2).1.cell 0, (unhide HZ2).1.cell 1, (unhide HZ2).1.cell 2⟩ (fun hS => ?_)
      clear hK K
      refine wpAnyH_takeD 6 (some 27) (.bool false) rfl rfl (by kernel_rfl) (by kernel_rfl) (by kernel_rfl) (fun _ _ _ h => h) (Or.inl ⟨by rfl, fun w hSw => by obtain ⟨s0, s1, s2⟩ := hSw; go_simp⟩) hS ?_
      simp only [Act.put, List.setIfInBounds_toArray, List.set_cons_zero, List.set_cons_succ]
      refine wpAnyH_takeD 7 (some 28) (.bool false) rfl rfl (by kernel_rfl) (by kernel_rfl) (by kernel_rfl) (fun _ _ _ h => h) (Or.inl ⟨by rfl, fun w hSw => by obtain ⟨s0, s1, s2⟩ := hSw; go_simp⟩) hS ?_
      simp only [Act.put, List.setIfInBounds_toArray, List.set_cons_zero, List.set_cons_succ]
      refine wpAnyH_takeD 8 (some 29) undef rfl rfl (by kernel_rfl) (by kernel_rfl) (by kernel_rfl) (fun _ _ _ h => h) (Or.inr ⟨by rfl, rfl⟩) hS ?_
      simp only [Act.put, List.setIfInBounds_toArray, List.set_cons_zero, List.set_cons_succ]
      refine wpAnyH_takeD 9 (some 30) undef rfl rfl (by kernel_rfl) (by kernel_rfl) (by kernel_rfl) (fun _ _ _ h => h) (Or.inr ⟨by rfl, rfl⟩) hS ?_
      simp only [Act.put, List.setIfInBounds_toArray, List.set_cons_zero, List.set_cons_succ]
      refine wpAnyH_takeD 10 (some 31) undef rfl rfl (by kernel_rfl) (by kernel_rfl) (by kernel_rfl) (fun _ _ _ h => h) (Or.inr ⟨by rfl, rfl⟩) hS ?_
      simp only [Act.put, List.setIfInBounds_toArray, List.set_cons_zero, List.set_cons_succ]
      refine wpAnyH_takeD 11 (some 32) (.bool false) rfl rfl (by kernel_rfl) (by kernel_rfl) (by kernel_rfl) (fun _ _ _ h => h) (Or.inl ⟨by rfl, fun w hSw => by obtain ⟨s0, s1, s2⟩ := hSw; go_simp⟩) hS ?_
      simp only [Act.put, List.setIfInBounds_toArray, List.set_cons_zero, List.set_cons_succ]
      obtain ⟨z5, hz5⟩ : ∃ Z, ((z2.setCell ⟨g + 1, 0, none⟩ (.int .i64 0)).setCell ⟨g + 1, 1, none⟩ (.string ⟨#[]⟩)).setCell ⟨g + 1, 2, none⟩ (.slice p n c) = Z := ⟨_, rfl⟩
      have e0 : z2.cell? ⟨g + 1, 0, none⟩ = some (.int .i64 0) := (unhide HZ2).2.1.cell 0
      have e1 : z2.cell? ⟨g + 1, 1, none⟩ = some (.string ⟨#[]⟩) := (unhide HZ2).2.1.cell 1
      have e2 : z2.cell? ⟨g + 1, 2, none⟩ = some (.slice none 0 0) := (unhide HZ2).2.1.cell 2
      have f0 : z2.frozen? ⟨g + 1, 0, none⟩ = false := (unhide HZ2).2.1.frozen 0
      have f1 : z2.frozen? ⟨g + 1, 1, none⟩ = false := (unhide HZ2).2.1.frozen 1
      have f2 : z2.frozen? ⟨g + 1, 2, none⟩ = false := (unhide HZ2).2.1.frozen 2
      have o1 := (Only.refl (fun j => j = g + 1) z2).setCell ⟨g + 1, 0, none⟩ (.int .i64 0) (fun _ => rfl)
      have o2 := o1.setCell ⟨g + 1, 1, none⟩ (.string ⟨#[]⟩) (fun _ => rfl)
      have oS := o2.setCell ⟨g + 1, 2, none⟩ (.slice p n c) (fun _ => rfl)
      rw [hz5] at oS
      clear o1 o2
      have HZ5 := hide (show Blk z5 h #[.int .i64 0, .string ⟨#[]⟩, .slice p n c] 103 ∧ Blk z5 (g + 1) #[.int .i64 0, .string ⟨#[]⟩, .slice p n c] 103 ∧ At z5 b s (i + 9) ∧ z5.ownsRow g 3 1 (.slice p n c) n ((tkB s (i + 1) n).map (Value.int .i64)) ∧ Only (fun j => j = b) w z5 from
        ⟨(unhide HZ2).1.only oS (by omega), by rw [← hz5]; exact ((((unhide HZ2).2.1.set 0 (.int .i64 0)).set 1 (.string ⟨#[]⟩)).set 2 (.slice p n c)), (unhide HZ2).2.2.1.only oS (by omega), own_onlyW (own_baseW (unhide HZ2).2.2.2.1 (by omega)) oS (fun q hq e => by have := ((unhide HZ2).2.2.2.1.lt q hq).1; omega), (unhide HZ2).2.2.2.2.trans oS (fun k hk q => by omega)⟩)
      have HE5 := hide hz5
      clear oS
      refine wpAnyH_ready (rs := [12]) (by kernel_rfl) (by simp) ?_
      refine AllReadyH.cons rfl (fun K hK => ?_) AllReadyH.nil
      simp only [List.getElem_toArray, List.getElem_cons_succ, List.getElem_cons_zero]
      go_simp
      (try rw [unhide HE5])
      refine hK.out _ _ ⟨(unhide HZ5).1.cell 0, (unhide HZ5).1.cell 1, (unhide HZ5).1.cell 2⟩ (fun hS => ?_)
      clear hK K
      refine wpAnyH_takeD 13 (some 5) (.bool false) rfl rfl (by kernel_rfl) (by kernel_rfl) (by kernel_rfl) (fun _ _ _ h => h) (Or.inl ⟨by rfl, fun w hSw => by obtain ⟨s0, s1, s2⟩ := hSw; go_simp⟩) hS ?_
      simp only [Act.put, List.setIfInBounds_toArray, List.set_cons_zero, List.set_cons_succ]
      refine wpAnyH_done (by kernel_rfl) ?_ _
      clear hS
      have HL := hide (iload_blk 103 _ (unhide HZ5).2.1 Tryz.underlying103 rfl size_prt)
      go_wp2
      (try simp only [Exit.inBlock, Exit.then])
      refine bodyPost_ret (v := .tuple #[.agg #[.int .i64 0, .string ⟨#[]⟩, .slice p n c], .bool false]) (results_cell2 (p := 4) (q := 5) (ty := 103) rfl _ _ _ ⟨g + 1, 0, none⟩ rfl _ (unhide HL)) rfl ?_
      refine ⟨⟨0, ⟨#[]⟩, p, n, c⟩, by rw [unhide HVB]; rfl, (unhide HZ5).2.2.2.2, fun q => by rw [unhide HVB] at q; cases q⟩
  · have q1 : ((n : Int) > 8) := by omega
    have HVB := hide (show vtB s i = false from by rw [vtB, unhide HNV, decide_eq_false h8, Bool.false_and])
    have BT := blk_setRow (cells := Prt.nil.cs) C2
    have HL := hide (iload_blk 103 _ BT Tryz.underlying103 rfl size_prt)
    have HZ := hide C2
    have HOP := hide (Prt.one Prt.nil)
    have HF := hide (show Only (fun j => j = b) w (x.setRow (g + 1) Prt.nil.cs) from hO.trans (only_setRow (P := fun j => j = g + 1) (g + 1) _ rfl) (fun k hk q => by omega))
    have HBN := hide built_prt
    clear hy C2 hO hAx BT h8
    go_wp2_with (first | refine wpList_buildAs rfl 103 #[] rfl _ rfl Prt.nil.cs (unhide HBN) ?_ | refine wpList_store_row rfl 103 (.tmp 4) (.tmp 13) rfl (g + 1) Prt.nil.cs rfl rfl 103 #[.int .i64 0, .string ⟨#[]⟩, .slice none 0 0] (unhide HZ) size_prt rfl (unhide HOP) ?_)
    (try simp only [Exit.inBlock, Exit.then])
    refine bodyPost_ret (v := .tuple #[.agg Prt.nil.cs, .bool false]) (results_cell2 (p := 4) (q := 5) (ty := 103) rfl _ _ _ ⟨g + 1, 0, none⟩ rfl _ (unhide HL)) rfl ?_
    exact ⟨Prt.nil, by rw [unhide HVB], unhide HF, fun q => by rw [unhide HVB] at q; cases q⟩
end Go.Proofs.YtpjoibolhkgkhaaGreatDoor
namespace Go.Proofs.YtpjoibolhkgkhaaGreatDoor
open Go.RowKit
set_option maxRecDepth 100000
theorem built_norep : Tryz.prog.built 34 [] = some (Rep.bare 0).cs := by kernel_rfl
/-- what a field's take answers, as far as it is wanted here -/
def TkF (b : Nat) (s : ByteArray) (i m : Nat) (w : World) (e : Ending) (w' : World) : Prop := ∃ (P : Prt) (B : Bool), e = .returned (.tuple #[.agg P.cs, .bool B]) ∧ (B = true → At w' b s (i + m)) ∧ Only (fun j => j = b) w w'
/-- what takeReply answers, as far as it is wanted here -/
def TrQ (b : Nat) (w : World) (e : Ending) (w' : World) : Prop := ∃ (r : Rep) (B : Bool), e = .returned (.tuple #[.agg r.cs, .bool B]) ∧ Only (fun j => j = b) w w'
theorem TrQ.of {b : Nat} {w w' : World} (r : Rep) (B : Bool) (h : Only (fun j => j = b) w w') : TrQ b w (.returned (.tuple #[.agg r.cs, .bool B])) w' := ⟨r, B, rfl, h⟩
set_option maxHeartbeats 8000000 in
theorem takeReplyN (kd st : Int) (hfull : fullP kd st = false) (s : ByteArray) (hs : s.size ≤ 150000000000000) (hsz : 1 + szF (rpF kd) ≤ s.size) (w : World) (b : Nat) (hA : At w b s 1) (hE : ETy w) :
    Calls Tryz.prog 44 #[.pointer (some ⟨b, 0, none⟩), .int .i64 kd, .int .i64 st] w fun e w' => TrQ b w e w' := by
  obtain ⟨B1, B2, hbl, hs2⟩ := two_boxes w #[.int .i64 0, .int .i64 0, .int .i64 0, .slice none 0 0, .int .i64 0, .slice none 0 0, .string ⟨#[]⟩, .string ⟨#[]⟩] #[.int .i64 0, .int .i64 0, .int .i64 0, .slice none 0 0, .int .i64 0, .slice none 0 0, .string ⟨#[]⟩, .string ⟨#[]⟩] 34 34
  obtain ⟨g, hg⟩ : ∃ g, w.heap.size = g := ⟨_, rfl⟩
  obtain ⟨y0, hy0⟩ : ∃ Z, w.alloc (.cells #[.int .i64 0, .int .i64 0, .int .i64 0, .slice none 0 0, .int .i64 0, .slice none 0 0, .string ⟨#[]⟩, .string ⟨#[]⟩] 34) = Z := ⟨_, rfl⟩
  have B0 : Blk y0 g #[.int .i64 0, .int .i64 0, .int .i64 0, .slice none 0 0, .int .i64 0, .slice none 0 0, .string ⟨#[]⟩, .string ⟨#[]⟩] 34 := by rw [← hy0, ← hg]; exact Blk.new w _ _
  have hb0 : Below g w y0 := by rw [← hy0, ← hg]; exact (Below.refl _ w).alloc (Nat.le_refl _) _
  have hs0 : y0.heap.size = g + 1 := by rw [← hy0, World.size_alloc, hg]
  have hbg : b < g := by rw [← hg]; exact hA.lt
  have hne := Rds.ne hA hE
  have HEW := hide (fun W (h : Only (fun j => j = b) w W) => hE.only h (fun q => hne q.symm))
  have hO0 : Only (fun j => j = b) w y0 := Only.of_below (by rw [hg]; exact hb0)
  have HY := hide (And.intro B0 (And.intro (hA.below hb0 hbg) hO0))
  have HF := hide (rpf_any kd)
  have HALL := hide (rpF_all kd)
  have HLEN := hide (rpF_len kd)
  have HB0 := hide (built_rep st)
  have HO1 := hide (Rep.one (Rep.bare st))
  have HFU := hide (isFull_any kd st)
  have HSZ := hide hsz
  have hs9 : szF (rpF kd) ≤ 1000 := by
    unfold rpF
    (repeat' split) <;> decide
  generalize rpF kd = fs at *
  clear B1 B2 hbl hs2 hA hE B0 hb0 hO0 hsz hne
  rw [hfull] at HFU
  go_enter Tryz.func44, Tryz.ntmps44
  go_wp2_with fail
  clear hy0
  refine (unhide HF _).mono ?_
  rintro e x ⟨fvv, rfl, hR, hx⟩
  obtain ⟨p, rfl, hp⟩ := hR.form
  obtain ⟨C0, hA0, hO0⟩ := unhide HY
  have hxs : g + 1 ≤ x.heap.size := by have := hx.size; omega
  obtain ⟨h, hh⟩ : ∃ h, x.heap.size = h := ⟨_, rfl⟩
  obtain ⟨xa, hxa⟩ : ∃ Z, x.alloc (.cells #[.int .i64 0, .int .i64 0, .int .i64 0, .slice none 0 0, .int .i64 0, .slice none 0 0, .string ⟨#[]⟩, .string ⟨#[]⟩] 34) = Z := ⟨_, rfl⟩
  obtain ⟨x2, hx2⟩ : ∃ Z, xa.setRow h (Rep.bare st).cs = Z := ⟨_, rfl⟩
  have HBA := hide (show Blk xa h #[.int .i64 0, .int .i64 0, .int .i64 0, .slice none 0 0, .int .i64 0, .slice none 0 0, .string ⟨#[]⟩, .string ⟨#[]⟩] 34 from by rw [← hxa, ← hh]; exact Blk.new _ _ _)
  have hba : Below h x xa := by rw [← hxa, ← hh]; exact (Below.refl _ _).alloc (Nat.le_refl _) _
  have hba' : Below x.heap.size x xa := by rw [hh]; exact hba
  have oR : Only (fun j => j = h) xa x2 := by rw [← hx2]; exact only_setRow (P := fun j => j = h) h _ rfl
  have hfl := hR.lt
  have hyl := hA0.lt
  have HX := hide (show Blk x2 g #[.int .i64 0, .int .i64 0, .int .i64 0, .slice none 0 0, .int .i64 0, .slice none 0 0, .string ⟨#[]⟩, .string ⟨#[]⟩] 34 ∧ Blk x2 h (Rep.bare st).cs 34 ∧ At x2 b s 1 ∧ Only (fun j => j = b) w x2 ∧ FR x2 (.slice p fs.length fs.length) fs from
    ⟨((C0.below hx C0.lt).below hba (by omega)).only oR (by omega), by rw [← hx2]; exact blk_setRow (unhide HBA), ((hA0.below hx hA0.lt).below hba (by omega)).only oR (by omega), ((hO0.trans (Only.of_below (P := fun _ => False) hx) (fun _ _ e => e.elim)).trans (Only.of_below (P := fun _ => False) hba') (fun _ _ e => e.elim)).trans oR (fun k hk q => by omega), (hR.below hba (fun q hq => by have := hfl q hq; omega)).only oR (fun q hq e => by have := hfl q hq; omega)⟩)
  have hgh : g + 1 ≤ h := by omega
  obtain ⟨n, hn⟩ : ∃ n, fs.length = n := ⟨_, rfl⟩
  have HN := hide hn
  rw [hn]
  clear hp hR C0 hA0 hO0 hx hn HY hba hba' oR hfl hyl hs0 hxs
  go_wp2_with (first | refine wpList_buildAs rfl 34 #[(0, .tmp 17)] rfl _ rfl (Rep.bare st).cs (unhide HB0) ?_ | refine wpList_store_row rfl 34 (.tmp 9) (.tmp 18) rfl h (Rep.bare st).cs rfl rfl 34 #[.int .i64 0, .int .i64 0, .int .i64 0, .slice none 0 0, .int .i64 0, .slice none 0 0, .string ⟨#[]⟩, .string ⟨#[]⟩] (unhide HBA) size_rep rfl (unhide HO1) ?_)
  clear hxa hx2 HBA
  refine (unhide HFU _).mono ?_
  rintro e x' ⟨rfl, hx'⟩
  subst x'
  obtain ⟨C1, C2, hA1, hO1, hR1⟩ := unhide HX
  rw [unhide HN] at hR1
  have HFS := hide (fieldsSize_any fs (fun f hf => (unhide HALL f hf).isF) (by have := unhide HLEN; omega) (.slice p n n) x2 hR1)
  obtain ⟨d, hd⟩ : ∃ d, szF fs = d := ⟨_, rfl⟩
  rw [hd] at HFS hs9
  have HD := hide (show 1 + d ≤ s.size from by rw [← hd]; exact unhide HSZ)
  have HC := hide (And.intro C1 (And.intro C2 (And.intro hA1 hO1)))
  clear C1 C2 hA1 hO1 hR1 HX hd
  go_wp2_with fail
  refine (unhide HFS).mono ?_
  rintro e x3 ⟨rfl, hx3⟩
  have HC3 := hide (show Blk x3 g #[.int .i64 0, .int .i64 0, .int .i64 0, .slice none 0 0, .int .i64 0, .slice none 0 0, .string ⟨#[]⟩, .string ⟨#[]⟩] 34 ∧ Blk x3 h (Rep.bare st).cs 34 ∧ At x3 b s 1 ∧ Only (fun j => j = b) w x3 from ⟨(unhide HC).1.below hx3 (unhide HC).1.lt, (unhide HC).2.1.below hx3 (unhide HC).2.1.lt, (unhide HC).2.2.1.below hx3 (unhide HC).2.2.1.lt, (unhide HC).2.2.2.trans (Only.of_below (P := fun _ => False) hx3) (fun _ _ e => e.elim)⟩)
  clear hx3 HC HFS
  go_wp2_with fail
  obtain ⟨rl, hrl⟩ : ∃ l, (Rep.bare st).cl = l := ⟨_, rfl⟩
  have hrc : (Rep.bare st).cs = rl.toArray := by rw [← hrl]; rfl
  have hl8 : rl.length = 8 := by rw [← hrl]; rfl
  have HRS := hide (show (Tryz.prog.info? 34).map (·.size) = some rl.length from by rw [hl8]; exact size_rep)
  have HONE := hide (show rl.toArray.all (·.oneCell') = true from by rw [← hrc]; exact Rep.one _)
  have HRC := hide hrc
  refine wp_region_held_drew (S := fun x => x.rangeAt h 0 rl) (by kernel_rfl) (by have h9 := (unhide HC3).2.1; rw [hrc] at h9; exact blk_range h9) ?_
  intro hS
  obtain ⟨xd, hxd⟩ : ∃ X, x3.drew = X := ⟨_, rfl⟩
  rw [hxd] at hS ⊢
  have HX3 := hide (show Blk xd g #[.int .i64 0, .int .i64 0, .int .i64 0, .slice none 0 0, .int .i64 0, .slice none 0 0, .string ⟨#[]⟩, .string ⟨#[]⟩] 34 ∧ Blk xd h rl.toArray 34 ∧ At xd b s 1 ∧ Only (fun j => j = b) w xd from by
    rw [← hxd]
    obtain ⟨u1, u2, u3, u4⟩ := unhide HC3
    exact ⟨u1, by rw [hrc] at u2; exact u2, u3, u4.drew⟩)
  have HRW := hide (rawA xd b s 1 d (unhide HX3).2.2.1 (unhide HEW xd (unhide HX3).2.2.2) hs (unhide HD))
  have HNO := hide (fun W => noughts_any d hs9 W)
  obtain ⟨T1, hT1⟩ : ∃ T, s.extract 1 (1 + d) = T := ⟨_, rfl⟩
  obtain ⟨Z1, hZ1⟩ : ∃ Z, strOfNums (List.replicate d (0 : Int)) = Z := ⟨_, rfl⟩
  obtain ⟨D1, hD1⟩ : ∃ D, (T1.toList == Z1.toList) = D := ⟨_, rfl⟩
  rw [hT1] at HRW
  rw [hZ1] at HNO
  clear hxd hT1 hZ1 hrl hrc HC3 hl8
  refine wpAnyH_takeD 0 (some 25) (.agg rl.toArray) rfl rfl (by kernel_rfl) (by kernel_rfl) (by kernel_rfl) (fun _ _ _ h => h) (yieldsIf_load_mid (by rfl) 34 (.tmp 9) rfl h 0 rfl rl _ (fun _ hq => hq) Tryz.underlying34 rfl (unhide HRS)) hS ?_
  simp only [Act.put, List.setIfInBounds_toArray, List.set_cons_zero, List.set_cons_succ]
  refine wpAnyH_takeD 1 (some 26) (.pointer (some ⟨b, 0, none⟩)) rfl rfl (by kernel_rfl) (by kernel_rfl) (by kernel_rfl) (fun _ _ _ h => h) (Or.inl ⟨by rfl, fun w hSw => by clear hSw; go_simp⟩) hS ?_
  simp only [Act.put, List.setIfInBounds_toArray, List.set_cons_zero, List.set_cons_succ]
  refine wpAnyH_takeD 2 (some 27) (.int .i64 (d : Int)) rfl rfl (by kernel_rfl) (by kernel_rfl) (by kernel_rfl) (fun _ _ _ h => h) (Or.inl ⟨by rfl, fun w hSw => by clear hSw; go_simp⟩) hS ?_
  simp only [Act.put, List.setIfInBounds_toArray, List.set_cons_zero, List.set_cons_succ]
  refine wpAnyH_takeD 4 (some 29) (.int .i64 (d : Int)) rfl rfl (by kernel_rfl) (by kernel_rfl) (by kernel_rfl) (fun _ _ _ h => h) (Or.inl ⟨by rfl, fun w hSw => by clear hSw; go_simp⟩) hS ?_
  simp only [Act.put, List.setIfInBounds_toArray, List.set_cons_zero, List.set_cons_succ]
  refine wpAnyH_ready (rs := [3]) (by kernel_rfl) (by simp) ?_
  refine AllReadyH.cons rfl (fun K hK => ?_) AllReadyH.nil
  simp only [List.getElem_toArray, List.getElem_cons_succ, List.getElem_cons_zero]
  go_simp
  refine (unhide HRW).mono ?_
  rintro e z1 ⟨rfl, hA1, hO1⟩
  have HZ1 := hide (show Blk z1 g #[.int .i64 0, .int .i64 0, .int .i64 0, .slice none 0 0, .int .i64 0, .slice none 0 0, .string ⟨#[]⟩, .string ⟨#[]⟩] 34 ∧ Blk z1 h rl.toArray 34 ∧ Only (fun j => j = b) w z1 from ⟨(unhide HX3).1.only hO1 (by omega), (unhide HX3).2.1.only hO1 (by omega), (unhide HX3).2.2.2.trans hO1 (fun _ _ q => q)⟩)
  clear hA1 hO1 HRW HX3
  refine hK.out _ _ (blk_range (unhide HZ1).2.1) (fun hS => ?_)
  clear hK K
  refine wpAnyH_ready (rs := [5]) (by kernel_rfl) (by simp) ?_
  refine AllReadyH.cons rfl (fun K hK => ?_) AllReadyH.nil
  simp only [List.getElem_toArray, List.getElem_cons_succ, List.getElem_cons_zero]
  go_simp
  refine (unhide HNO z1).mono ?_
  rintro e z2 ⟨rfl, hb2⟩
  have HZ2 := hide (show Blk z2 g #[.int .i64 0, .int .i64 0, .int .i64 0, .slice none 0 0, .int .i64 0, .slice none 0 0, .string ⟨#[]⟩, .string ⟨#[]⟩] 34 ∧ Blk z2 h rl.toArray 34 ∧ Only (fun j => j = b) w z2 from ⟨(unhide HZ1).1.below hb2 (unhide HZ1).1.lt, (unhide HZ1).2.1.below hb2 (unhide HZ1).2.1.lt, (unhide HZ1).2.2.trans (Only.of_below (P := fun _ => False) hb2) (fun _ _ e => e.elim)⟩)
  clear hb2 HZ1
  refine hK.out _ _ (blk_range (unhide HZ2).2.1) (fun hS => ?_)
  clear hK K
  refine wpAnyH_takeD 6 (some 31) (.bool D1) rfl rfl (by kernel_rfl) (by kernel_rfl) (by kernel_rfl) (fun _ _ _ h => h) (Or.inl ⟨by rfl, fun w hSw => by clear hSw; go_simp⟩) hS ?_
  simp only [Act.put, List.setIfInBounds_toArray, List.set_cons_zero, List.set_cons_succ]
  refine wpAnyH_ready (rs := [7]) (by kernel_rfl) (by simp) ?_
  refine AllReadyH.cons rfl (fun K hK => ?_) AllReadyH.nil
  simp only [List.getElem_toArray, List.getElem_cons_succ, List.getElem_cons_zero]
  rw [if_pos (by rfl)]
  refine wp_store_mid 34 (.tmp 6) (.tmp 25) rfl g 0 rl.toArray rfl rfl (blk_there (unhide HZ2).1 _ (by have := unhide HRS; rw [size_rep] at this; injection this with this; simp; omega)) (by have := unhide HRS; simpa using this) (unhide HONE) ?_
  have HZ5 := hide (show Blk (z2.setCells g 0 rl) g rl.toArray 34 ∧ Blk (z2.setCells g 0 rl) h rl.toArray 34 ∧ Only (fun j => j = b) w (z2.setCells g 0 rl) from ⟨setCells_all (unhide HZ2).1 rl (by have h9 := unhide HRS; rw [size_rep] at h9; exact Option.some.inj h9), blk_cells_other rl 0 (unhide HZ2).2.1 g (by omega), (unhide HZ2).2.2.trans (only_cells (P := fun j => j = g) g 0 rl rfl) (fun k hk q => by omega)⟩)
  simp only
  obtain ⟨z5, hz5⟩ : ∃ Z, z2.setCells g 0 rl = Z := ⟨_, rfl⟩
  rw [hz5] at HZ5 ⊢
  clear hz5 HZ2
  simp only [Act.put]
  refine hK.out _ _ (blk_range (unhide HZ5).2.1) (fun hS => ?_)
  clear hK K
  refine wpAnyH_takeD 8 (some 7) (.bool D1) rfl rfl (by kernel_rfl) (by kernel_rfl) (by kernel_rfl) (fun _ _ _ h => h) (Or.inl ⟨by rfl, fun w hSw => by clear hSw; go_simp⟩) hS ?_
  simp only [Act.put, List.setIfInBounds_toArray, List.set_cons_zero, List.set_cons_succ]
  refine wpAnyH_done (by kernel_rfl) ?_ _
  clear hS
  have HL := hide (iload_blk 34 _ (unhide HZ5).1 Tryz.underlying34 rfl (by have := unhide HRS; simpa using this))
  go_wp2
  (try simp only [Exit.inBlock, Exit.then])
  refine bodyPost_ret (v := .tuple #[.agg rl.toArray, .bool D1]) (results_cell2 (p := 6) (q := 7) (ty := 34) rfl _ _ _ ⟨g, 0, none⟩ rfl _ (unhide HL)) rfl ?_
  exact ⟨Rep.bare st, D1, by rw [unhide HRC], (unhide HZ5).2.2⟩
theorem blkT {w : World} {b : Nat} {c c' : Array Value} {T T' : TypeId} (h : Blk w b c T) (h' : Blk w b c' T') : T = T' := by
  have e1 := (show w.heap[b]? = _ from h).symm.trans (show w.heap[b]? = _ from h')
  injection e1 with e1
  injection e1
set_option maxHeartbeats 8000000 in
theorem takeReplyF (kd st : Int) (hfull : fullP kd st = true) (s : ByteArray) (hs : s.size ≤ 150000000000000) (hsz : 1 + szF (rpF kd) ≤ s.size) (w : World) (b : Nat) (hA : At w b s 1) (hE : ETy w) :
    Calls Tryz.prog 44 #[.pointer (some ⟨b, 0, none⟩), .int .i64 kd, .int .i64 st] w fun e w' => TrQ b w e w' := by
  obtain ⟨B1, B2, hbl, hs2⟩ := two_boxes w #[.int .i64 0, .int .i64 0, .int .i64 0, .slice none 0 0, .int .i64 0, .slice none 0 0, .string ⟨#[]⟩, .string ⟨#[]⟩] #[.int .i64 0, .int .i64 0, .int .i64 0, .slice none 0 0, .int .i64 0, .slice none 0 0, .string ⟨#[]⟩, .string ⟨#[]⟩] 34 34
  obtain ⟨g, hg⟩ : ∃ g, w.heap.size = g := ⟨_, rfl⟩
  obtain ⟨y0, hy0⟩ : ∃ Z, w.alloc (.cells #[.int .i64 0, .int .i64 0, .int .i64 0, .slice none 0 0, .int .i64 0, .slice none 0 0, .string ⟨#[]⟩, .string ⟨#[]⟩] 34) = Z := ⟨_, rfl⟩
  have B0 : Blk y0 g #[.int .i64 0, .int .i64 0, .int .i64 0, .slice none 0 0, .int .i64 0, .slice none 0 0, .string ⟨#[]⟩, .string ⟨#[]⟩] 34 := by rw [← hy0, ← hg]; exact Blk.new w _ _
  have hb0 : Below g w y0 := by rw [← hy0, ← hg]; exact (Below.refl _ w).alloc (Nat.le_refl _) _
  have hs0 : y0.heap.size = g + 1 := by rw [← hy0, World.size_alloc, hg]
  have hbg : b < g := by rw [← hg]; exact hA.lt
  have hne := Rds.ne hA hE
  have HEW := hide (fun W (h : Only (fun j => j = b) w W) => hE.only h (fun q => hne q.symm))
  have hO0 : Only (fun j => j = b) w y0 := Only.of_below (by rw [hg]; exact hb0)
  have HY := hide (And.intro B0 (And.intro (hA.below hb0 hbg) hO0))
  have HF := hide (rpf_any kd)
  have HALL := hide (rpF_all kd)
  have HLEN := hide (rpF_len kd)
  have HB0 := hide (built_rep st)
  have HO1 := hide (Rep.one (Rep.bare st))
  have HFU := hide (isFull_any kd st)
  have HSZ := hide hsz
  have hs9 : szF (rpF kd) ≤ 1000 := by
    unfold rpF
    (repeat' split) <;> decide
  generalize rpF kd = fs at *
  clear B1 B2 hbl hs2 hA hE B0 hb0 hO0 hsz hne
  rw [hfull] at HFU
  go_enter Tryz.func44, Tryz.ntmps44
  go_wp2_with fail
  clear hy0
  refine (unhide HF _).mono ?_
  rintro e x ⟨fvv, rfl, hR, hx⟩
  obtain ⟨p, rfl, hp⟩ := hR.form
  obtain ⟨C0, hA0, hO0⟩ := unhide HY
  have hxs : g + 1 ≤ x.heap.size := by have := hx.size; omega
  obtain ⟨h, hh⟩ : ∃ h, x.heap.size = h := ⟨_, rfl⟩
  obtain ⟨xa, hxa⟩ : ∃ Z, x.alloc (.cells #[.int .i64 0, .int .i64 0, .int .i64 0, .slice none 0 0, .int .i64 0, .slice none 0 0, .string ⟨#[]⟩, .string ⟨#[]⟩] 34) = Z := ⟨_, rfl⟩
  obtain ⟨x2, hx2⟩ : ∃ Z, xa.setRow h (Rep.bare st).cs = Z := ⟨_, rfl⟩
  have HBA := hide (show Blk xa h #[.int .i64 0, .int .i64 0, .int .i64 0, .slice none 0 0, .int .i64 0, .slice none 0 0, .string ⟨#[]⟩, .string ⟨#[]⟩] 34 from by rw [← hxa, ← hh]; exact Blk.new _ _ _)
  have hba : Below h x xa := by rw [← hxa, ← hh]; exact (Below.refl _ _).alloc (Nat.le_refl _) _
  have hba' : Below x.heap.size x xa := by rw [hh]; exact hba
  have oR : Only (fun j => j = h) xa x2 := by rw [← hx2]; exact only_setRow (P := fun j => j = h) h _ rfl
  have hfl := hR.lt
  have hyl := hA0.lt
  have HX := hide (show Blk x2 g #[.int .i64 0, .int .i64 0, .int .i64 0, .slice none 0 0, .int .i64 0, .slice none 0 0, .string ⟨#[]⟩, .string ⟨#[]⟩] 34 ∧ Blk x2 h (Rep.bare st).cs 34 ∧ At x2 b s 1 ∧ Only (fun j => j = b) w x2 ∧ FR x2 (.slice p fs.length fs.length) fs from
    ⟨((C0.below hx C0.lt).below hba (by omega)).only oR (by omega), by rw [← hx2]; exact blk_setRow (unhide HBA), ((hA0.below hx hA0.lt).below hba (by omega)).only oR (by omega), ((hO0.trans (Only.of_below (P := fun _ => False) hx) (fun _ _ e => e.elim)).trans (Only.of_below (P := fun _ => False) hba') (fun _ _ e => e.elim)).trans oR (fun k hk q => by omega), (hR.below hba (fun q hq => by have := hfl q hq; omega)).only oR (fun q hq e => by have := hfl q hq; omega)⟩)
  have hgh : g + 1 ≤ h := by omega
  obtain ⟨n, hn⟩ : ∃ n, fs.length = n := ⟨_, rfl⟩
  have HN := hide hn
  rw [hn]
  clear hp hR C0 hA0 hO0 hx hn HY hba hba' oR hfl hyl hs0 hxs
  go_wp2_with (first | refine wpList_buildAs rfl 34 #[(0, .tmp 17)] rfl _ rfl (Rep.bare st).cs (unhide HB0) ?_ | refine wpList_store_row rfl 34 (.tmp 9) (.tmp 18) rfl h (Rep.bare st).cs rfl rfl 34 #[.int .i64 0, .int .i64 0, .int .i64 0, .slice none 0 0, .int .i64 0, .slice none 0 0, .string ⟨#[]⟩, .string ⟨#[]⟩] (unhide HBA) size_rep rfl (unhide HO1) ?_)
  clear hxa hx2 HBA
  refine (unhide HFU _).mono ?_
  rintro e x' ⟨rfl, hx'⟩
  subst x'
  go_wp2_with fail
  go_loopw [34] (fun ix wr => ∃ (k : Nat) (rk : Rep) (i : Nat), k ≤ n ∧ ix = .int .i64 (k : Int) ∧ i + szF (fs.drop k) ≤ s.size ∧ Blk wr g #[.int .i64 0, .int .i64 0, .int .i64 0, .slice none 0 0, .int .i64 0, .slice none 0 0, .string ⟨#[]⟩, .string ⟨#[]⟩] 34 ∧ Blk wr h rk.cs 34 ∧ FR wr (.slice p n n) fs ∧ At wr b s i ∧ Only (fun j => j = b) w wr) (fun ix _ => n - (intOf ix).toNat)
  case atStart =>
    obtain ⟨C1, C2, hA1, hO1, hR⟩ := unhide HX
    refine ⟨0, Rep.bare st, 1, Nat.zero_le _, rfl, by rw [List.drop_zero]; exact unhide HSZ, C1, C2, ?_, hA1, hO1⟩
    rw [unhide HN] at hR
    exact hR
  case round =>
    obtain ⟨k, rk, i, hk, rfl, hisz, BR, BK, hRk, hAk, hOk⟩ := hrel
    by_cases hkn : k < n
    · have hkn' : (k : Int) < (n : Int) := by omega
      have hk0 : (0 : Int) ≤ (k : Int) := by omega
      have hlen := unhide HN
      have hn4 := unhide HLEN
      obtain ⟨q, hq, hqb⟩ := FR.form (show FR wr (.slice p fs.length fs.length) fs by rw [hlen]; exact hRk)
      obtain ⟨fb, hqe, Bf⟩ := hqb (by omega)
      obtain rfl : p = q := by simpa using hq
      subst hqe
      have hf : IsP (fs[k]'(by omega)) := unhide HALL _ (List.getElem_mem _)
      have hc : wr.cell? ⟨fb, k, none⟩ = some (fv (fs[k]'(by omega))) := fr_cell Bf k (by omega)
      rw [szF_drop fs k (by omega)] at hisz
      have hEr := unhide HEW wr hOk
      clear hq hqb hRk
      generalize fs[k]'(by omega) = f at *
      have hfv : fv f = .iface f.ty (.agg f.cs) := rfl
      rw [hfv] at hc
      clear hfv
      have hbr := hAk.lt
      have HK := hide (And.intro BR (And.intro BK (And.intro Bf (And.intro hAk (And.intro hOk hEr)))))
      have hwk : IntKind.i64.wrap ((k : Int) + 1) = ((k + 1 : Nat) : Int) := by rw [wrapI_eq _ (by omega) (by omega)]; omega
      have HISZ := hide hisz
      clear BR BK Bf hAk hOk hEr hisz
      rcases hf with rfl | rfl | rfl | rfl | rfl | rfl | rfl
      · obtain ⟨BR, BK, Bf, hAk, hOk, hEr⟩ := unhide HK
        have hib : i + 2 ≤ s.size := by have h := unhide HISZ; have e : (fQuo).b = 2 := rfl; rw [e] at h; omega
        have hC : Calls Tryz.prog 132 #[.agg #[.int .i64 2, .int .i64 0, .int .i64 65535], .pointer (some ⟨b, 0, none⟩)] wr fun e w' => TkF b s i 2 wr e w' := (ntake_any 2 0 65535 (by decide) (by decide) wr b s i hAk hEr hs hib _ rfl).mono (fun e w' h9 => ⟨_, _, h9.1, fun _ => h9.2.1, h9.2.2⟩)
        have HC := hide hC
        have hc' : wr.cell? ⟨fb, k, none⟩ = some (.iface 122 (.agg #[.int .i64 2, .int .i64 0, .int .i64 65535])) := hc
        have HBF0 := hide (And.intro BR (And.intro BK (And.intro Bf hOk)))
        clear hC hib BR BK Bf hAk hOk hEr hc
        as_aux_lemma =>
          go_wp2_with fail
          refine (unhide HC).mono ?_
          rintro e z ⟨p2, B2, rfl, hAz, hOz⟩
          obtain ⟨BR, BK, Bf, hOk⟩ := unhide HBF0
          obtain ⟨v, hv⟩ : ∃ v, z.heap.size = v := ⟨_, rfl⟩
          obtain ⟨y1, hy1⟩ : ∃ Z, z.alloc (.cells #[.int .i64 0, .string ⟨#[]⟩, .slice none 0 0] 103) = Z := ⟨_, rfl⟩
          have hzk := hOz.size
          have hgk : h < wr.heap.size := BK.lt
          have hgr : g < wr.heap.size := BR.lt
          have hfk : fb < wr.heap.size := Bf.lt
          have hfb : fb ≠ b := by
            intro e
            subst e
            obtain ⟨_, _, _, hAk, _, _⟩ := unhide HK
            exact absurd (blkT Bf (show Blk wr fb _ _ from hAk)) (by decide)
          have hfg : fb ≠ g ∧ fb ≠ h := by
            constructor
            · intro e
              subst e
              exact absurd (blkT Bf BR) (by decide)
            · intro e
              subst e
              exact absurd (blkT Bf BK) (by decide)
          have HFG := hide hfg
          have hb1 : Below v z y1 := by rw [← hy1, ← hv]; exact (Below.refl _ z).alloc (Nat.le_refl _) _
          have hb1' : Below z.heap.size z y1 := by rw [hv]; exact hb1
          have BZ1 : Blk y1 v #[.int .i64 0, .string ⟨#[]⟩, .slice none 0 0] 103 := by rw [← hy1, ← hv]; exact Blk.new z _ _
          have HZ3 := hide BZ1
          have HO3 := hide (Prt.one p2)
          obtain ⟨y2, hy2⟩ : ∃ Z, y1.setRow v p2.cs = Z := ⟨_, rfl⟩
          have oV : Only (fun j => j = v) y1 y2 := by rw [← hy2]; exact only_setRow (P := fun j => j = v) v _ rfl
          have hd : Blk y2 g #[.int .i64 0, .int .i64 0, .int .i64 0, .slice none 0 0, .int .i64 0, .slice none 0 0, .string ⟨#[]⟩, .string ⟨#[]⟩] 34 ∧ Blk y2 h rk.cs 34 ∧ Blk y2 fb (fs.map fv).toArray 101 ∧ (B2 = true → At y2 b s (i + 2)) ∧ Only (fun j => j = b) w y2 := by
            refine ⟨((BR.only hOz (by omega)).below hb1 (by omega)).only oV (by omega), ((BK.only hOz (by omega)).below hb1 (by omega)).only oV (by omega), ((Bf.only hOz hfb).below hb1 (by omega)).only oV (by omega), fun q => ((hAz q).below hb1 (by omega)).only oV (by omega), ?_⟩
            exact ((hOk.trans hOz (fun _ _ q => q)).trans (Only.of_below (P := fun _ => False) hb1') (fun _ _ q => q.elim)).trans oV (fun j hj q => by have := hOk.size; omega)
          have BP2 : Blk y2 v p2.cs 103 := by rw [← hy2]; exact blk_setRow BZ1
          have HRP := hide (show y2.rangeAt v 0 p2.cl from blk_range BP2)
          have HRG := hide (show y2.rangeAt h 0 rk.cl from blk_range hd.2.1)
          have HD := hide hd
          clear BR BK Bf hOk hb1 hb1' BZ1 BP2 hd hAz hOz hfg hfb hzk oV
          cases B2 with
          | true =>
            obtain ⟨r2, hr2⟩ : ∃ Z, (exr fQuo rk p2).1 = Z := ⟨_, rfl⟩
            obtain ⟨q2, hq2⟩ : ∃ Z, (exr fQuo rk p2).2 = Z := ⟨_, rfl⟩
            have hEX := exr_any fQuo (by simp [IsP]) rk p2
            rw [hr2, hq2] at hEX
            have HEX := hide hEX
            have HI2 := hide (show i + 2 + szF (fs.drop (k + 1)) ≤ s.size by
              have h := unhide HISZ
              have e : (fQuo).b = 2 := rfl
              rw [e] at h
              omega)
            have HO2 := hide (Rep.one r2)
            clear hEX hr2 hq2 HISZ HC HK
            go_wp2_with (first | refine wpList_store_row rfl 103 (.tmp 13) (.tmp 42) rfl v p2.cs rfl rfl 103 #[.int .i64 0, .string ⟨#[]⟩, .slice none 0 0] (unhide HZ3) size_prt rfl (unhide HO3) ?_ | refine wpList_load_mid rfl 34 (.tmp 9) rfl h 0 rfl rk.cl _ (unhide HRG) Tryz.underlying34 rfl size_rep ?_ | refine wpList_load_mid rfl 103 (.tmp 13) rfl v 0 rfl p2.cl _ (unhide HRP) Tryz.underlying103 rfl size_prt ?_)
            refine (unhide HEX _).mono ?_
            rintro e x3 ⟨rfl, hx3⟩
            obtain ⟨D1, D2, D3, D4, D5⟩ := unhide HD
            have E2 := D2.below hx3 D2.lt
            have HZ4 := hide E2
            have oH : Only (fun j => j = h) x3 (x3.setRow h r2.cs) := only_setRow (P := fun j => j = h) h _ rfl
            have HFIN := hide (show Blk (x3.setRow h r2.cs) g #[.int .i64 0, .int .i64 0, .int .i64 0, .slice none 0 0, .int .i64 0, .slice none 0 0, .string ⟨#[]⟩, .string ⟨#[]⟩] 34 ∧ Blk (x3.setRow h r2.cs) h r2.cs 34 ∧ FR (x3.setRow h r2.cs) (.slice (some ⟨fb, 0, none⟩) n n) fs ∧ At (x3.setRow h r2.cs) b s (i + 2) ∧ Only (fun j => j = b) w (x3.setRow h r2.cs) from
              ⟨(D1.below hx3 D1.lt).only oH (by omega), blk_setRow E2, .inr ⟨fb, by rw [hlen], (D3.below hx3 D3.lt).only oH (by have := unhide HFG; omega)⟩, ((D4 (by trivial)).below hx3 (D4 (by trivial)).lt).only oH (by omega), (D5.trans (Only.of_below (P := fun _ => False) hx3) (fun _ _ q => q.elim)).trans oH (fun j hj q => by omega)⟩)
            clear D1 D2 D3 D4 D5 E2 hx3 HD oH
            go_wp2_with (refine wpList_store_row rfl 34 (.tmp 9) (.tmp 52) rfl h r2.cs rfl rfl 34 rk.cs (unhide HZ4) size_rep rfl (unhide HO2) ?_)
            obtain ⟨F1, F2, F3, F4, F5⟩ := unhide HFIN
            exact ⟨⟨k + 1, r2, i + 2, by omega, rfl, unhide HI2, F1, F2, F3, F4, F5⟩, by simp [intOf]; omega⟩
          | false =>
            obtain ⟨D1, D2, D3, D4, D5⟩ := unhide HD
            have BT := blk_setRow (cells := (Rep.bare 0).cs) D1
            have HL := hide (iload_blk 34 _ BT Tryz.underlying34 rfl size_rep)
            have HZ5 := hide D1
            have HO5 := hide (Rep.one (Rep.bare 0))
            have HBN := hide built_norep
            have HF2 := hide (show Only (fun j => j = b) w (y2.setRow g (Rep.bare 0).cs) from D5.trans (only_setRow (P := fun j => j = g) g _ rfl) (fun j hj q => by omega))
            clear D1 D2 D3 D4 D5 BT HD HISZ HC HK
            go_wp2_with (first | refine wpList_store_row rfl 103 (.tmp 13) (.tmp 42) rfl v p2.cs rfl rfl 103 #[.int .i64 0, .string ⟨#[]⟩, .slice none 0 0] (unhide HZ3) size_prt rfl (unhide HO3) ?_ | refine wpList_buildAs rfl 34 #[] rfl _ rfl (Rep.bare 0).cs (unhide HBN) ?_ | refine wpList_store_row rfl 34 (.tmp 6) (.tmp 46) rfl g (Rep.bare 0).cs rfl rfl 34 #[.int .i64 0, .int .i64 0, .int .i64 0, .slice none 0 0, .int .i64 0, .slice none 0 0, .string ⟨#[]⟩, .string ⟨#[]⟩] (unhide HZ5) size_rep rfl (unhide HO5) ?_)
            (try simp only [Exit.inBlock, Exit.then])
            refine bodyPost_ret (v := .tuple #[.agg (Rep.bare 0).cs, .bool false]) (results_cell2 (p := 6) (q := 7) (ty := 34) rfl _ _ _ ⟨g, 0, none⟩ rfl _ (unhide HL)) rfl ?_
            exact TrQ.of _ _ (unhide HF2)
      · obtain ⟨BR, BK, Bf, hAk, hOk, hEr⟩ := unhide HK
        have hib : i + 2 ≤ s.size := by have h := unhide HISZ; have e : (fCha).b = 2 := rfl; rw [e] at h; omega
        have hC : Calls Tryz.prog 132 #[.agg #[.int .i64 2, .int .i64 0, .int .i64 65535], .pointer (some ⟨b, 0, none⟩)] wr fun e w' => TkF b s i 2 wr e w' := (ntake_any 2 0 65535 (by decide) (by decide) wr b s i hAk hEr hs hib _ rfl).mono (fun e w' h9 => ⟨_, _, h9.1, fun _ => h9.2.1, h9.2.2⟩)
        have HC := hide hC
        have hc' : wr.cell? ⟨fb, k, none⟩ = some (.iface 123 (.agg #[.int .i64 2, .int .i64 0, .int .i64 65535])) := hc
        have HBF0 := hide (And.intro BR (And.intro BK (And.intro Bf hOk)))
        clear hC hib BR BK Bf hAk hOk hEr hc
        as_aux_lemma =>
          go_wp2_with fail
          refine (unhide HC).mono ?_
          rintro e z ⟨p2, B2, rfl, hAz, hOz⟩
          obtain ⟨BR, BK, Bf, hOk⟩ := unhide HBF0
          obtain ⟨v, hv⟩ : ∃ v, z.heap.size = v := ⟨_, rfl⟩
          obtain ⟨y1, hy1⟩ : ∃ Z, z.alloc (.cells #[.int .i64 0, .string ⟨#[]⟩, .slice none 0 0] 103) = Z := ⟨_, rfl⟩
          have hzk := hOz.size
          have hgk : h < wr.heap.size := BK.lt
          have hgr : g < wr.heap.size := BR.lt
          have hfk : fb < wr.heap.size := Bf.lt
          have hfb : fb ≠ b := by
            intro e
            subst e
            obtain ⟨_, _, _, hAk, _, _⟩ := unhide HK
            exact absurd (blkT Bf (show Blk wr fb _ _ from hAk)) (by decide)
          have hfg : fb ≠ g ∧ fb ≠ h := by
            constructor
            · intro e
              subst e
              exact absurd (blkT Bf BR) (by decide)
            · intro e
              subst e
              exact absurd (blkT Bf BK) (by decide)
          have HFG := hide hfg
          have hb1 : Below v z y1 := by rw [← hy1, ← hv]; exact (Below.refl _ z).alloc (Nat.le_refl _) _
          have hb1' : Below z.heap.size z y1 := by rw [hv]; exact hb1
          have BZ1 : Blk y1 v #[.int .i64 0, .string ⟨#[]⟩, .slice none 0 0] 103 := by rw [← hy1, ← hv]; exact Blk.new z _ _
          have HZ3 := hide BZ1
          have HO3 := hide (Prt.one p2)
          obtain ⟨y2, hy2⟩ : ∃ Z, y1.setRow v p2.cs = Z := ⟨_, rfl⟩
          have oV : Only (fun j => j = v) y1 y2 := by rw [← hy2]; exact only_setRow (P := fun j => j = v) v _ rfl
          have hd : Blk y2 g #[.int .i64 0, .int .i64 0, .int .i64 0, .slice none 0 0, .int .i64 0, .slice none 0 0, .string ⟨#[]⟩, .string ⟨#[]⟩] 34 ∧ Blk y2 h rk.cs 34 ∧ Blk y2 fb (fs.map fv).toArray 101 ∧ (B2 = true → At y2 b s (i + 2)) ∧ Only (fun j => j = b) w y2 := by
            refine ⟨((BR.only hOz (by omega)).below hb1 (by omega)).only oV (by omega), ((BK.only hOz (by omega)).below hb1 (by omega)).only oV (by omega), ((Bf.only hOz hfb).below hb1 (by omega)).only oV (by omega), fun q => ((hAz q).below hb1 (by omega)).only oV (by omega), ?_⟩
            exact ((hOk.trans hOz (fun _ _ q => q)).trans (Only.of_below (P := fun _ => False) hb1') (fun _ _ q => q.elim)).trans oV (fun j hj q => by have := hOk.size; omega)
          have BP2 : Blk y2 v p2.cs 103 := by rw [← hy2]; exact blk_setRow BZ1
          have HRP := hide (show y2.rangeAt v 0 p2.cl from blk_range BP2)
          have HRG := hide (show y2.rangeAt h 0 rk.cl from blk_range hd.2.1)
          have HD := hide hd
          clear BR BK Bf hOk hb1 hb1' BZ1 BP2 hd hAz hOz hfg hfb hzk oV
          cases B2 with
          | true =>
            obtain ⟨r2, hr2⟩ : ∃ Z, (exr fCha rk p2).1 = Z := ⟨_, rfl⟩
            obtain ⟨q2, hq2⟩ : ∃ Z, (exr fCha rk p2).2 = Z := ⟨_, rfl⟩
            have hEX := exr_any fCha (by simp [IsP]) rk p2
            rw [hr2, hq2] at hEX
            have HEX := hide hEX
            have HI2 := hide (show i + 2 + szF (fs.drop (k + 1)) ≤ s.size by
              have h := unhide HISZ
              have e : (fCha).b = 2 := rfl
              rw [e] at h
              omega)
            have HO2 := hide (Rep.one r2)
            clear hEX hr2 hq2 HISZ HC HK
            go_wp2_with (first | refine wpList_store_row rfl 103 (.tmp 13) (.tmp 42) rfl v p2.cs rfl rfl 103 #[.int .i64 0, .string ⟨#[]⟩, .slice none 0 0] (unhide HZ3) size_prt rfl (unhide HO3) ?_ | refine wpList_load_mid rfl 34 (.tmp 9) rfl h 0 rfl rk.cl _ (unhide HRG) Tryz.underlying34 rfl size_rep ?_ | refine wpList_load_mid rfl 103 (.tmp 13) rfl v 0 rfl p2.cl _ (unhide HRP) Tryz.underlying103 rfl size_prt ?_)
            refine (unhide HEX _).mono ?_
            rintro e x3 ⟨rfl, hx3⟩
            obtain ⟨D1, D2, D3, D4, D5⟩ := unhide HD
            have E2 := D2.below hx3 D2.lt
            have HZ4 := hide E2
            have oH : Only (fun j => j = h) x3 (x3.setRow h r2.cs) := only_setRow (P := fun j => j = h) h _ rfl
            have HFIN := hide (show Blk (x3.setRow h r2.cs) g #[.int .i64 0, .int .i64 0, .int .i64 0, .slice none 0 0, .int .i64 0, .slice none 0 0, .string ⟨#[]⟩, .string ⟨#[]⟩] 34 ∧ Blk (x3.setRow h r2.cs) h r2.cs 34 ∧ FR (x3.setRow h r2.cs) (.slice (some ⟨fb, 0, none⟩) n n) fs ∧ At (x3.setRow h r2.cs) b s (i + 2) ∧ Only (fun j => j = b) w (x3.setRow h r2.cs) from
              ⟨(D1.below hx3 D1.lt).only oH (by omega), blk_setRow E2, .inr ⟨fb, by rw [hlen], (D3.below hx3 D3.lt).only oH (by have := unhide HFG; omega)⟩, ((D4 (by trivial)).below hx3 (D4 (by trivial)).lt).only oH (by omega), (D5.trans (Only.of_below (P := fun _ => False) hx3) (fun _ _ q => q.elim)).trans oH (fun j hj q => by omega)⟩)
            clear D1 D2 D3 D4 D5 E2 hx3 HD oH
            go_wp2_with (refine wpList_store_row rfl 34 (.tmp 9) (.tmp 52) rfl h r2.cs rfl rfl 34 rk.cs (unhide HZ4) size_rep rfl (unhide HO2) ?_)
            obtain ⟨F1, F2, F3, F4, F5⟩ := unhide HFIN
            exact ⟨⟨k + 1, r2, i + 2, by omega, rfl, unhide HI2, F1, F2, F3, F4, F5⟩, by simp [intOf]; omega⟩
          | false =>
            obtain ⟨D1, D2, D3, D4, D5⟩ := unhide HD
            have BT := blk_setRow (cells := (Rep.bare 0).cs) D1
            have HL := hide (iload_blk 34 _ BT Tryz.underlying34 rfl size_rep)
            have HZ5 := hide D1
            have HO5 := hide (Rep.one (Rep.bare 0))
            have HBN := hide built_norep
            have HF2 := hide (show Only (fun j => j = b) w (y2.setRow g (Rep.bare 0).cs) from D5.trans (only_setRow (P := fun j => j = g) g _ rfl) (fun j hj q => by omega))
            clear D1 D2 D3 D4 D5 BT HD HISZ HC HK
            go_wp2_with (first | refine wpList_store_row rfl 103 (.tmp 13) (.tmp 42) rfl v p2.cs rfl rfl 103 #[.int .i64 0, .string ⟨#[]⟩, .slice none 0 0] (unhide HZ3) size_prt rfl (unhide HO3) ?_ | refine wpList_buildAs rfl 34 #[] rfl _ rfl (Rep.bare 0).cs (unhide HBN) ?_ | refine wpList_store_row rfl 34 (.tmp 6) (.tmp 46) rfl g (Rep.bare 0).cs rfl rfl 34 #[.int .i64 0, .int .i64 0, .int .i64 0, .slice none 0 0, .int .i64 0, .slice none 0 0, .string ⟨#[]⟩, .string ⟨#[]⟩] (unhide HZ5) size_rep rfl (unhide HO5) ?_)
            (try simp only [Exit.inBlock, Exit.then])
            refine bodyPost_ret (v := .tuple #[.agg (Rep.bare 0).cs, .bool false]) (results_cell2 (p := 6) (q := 7) (ty := 34) rfl _ _ _ ⟨g, 0, none⟩ rfl _ (unhide HL)) rfl ?_
            exact TrQ.of _ _ (unhide HF2)
      · obtain ⟨BR, BK, Bf, hAk, hOk, hEr⟩ := unhide HK
        have hib : i + 9 ≤ s.size := by have h := unhide HISZ; have e : (fVos).b = 9 := rfl; rw [e] at h; omega
        have hC : Calls Tryz.prog 143 #[.agg #[], .pointer (some ⟨b, 0, none⟩)] wr fun e w' => TkF b s i 9 wr e w' := (voTake_any wr b s i hAk hEr hs hib).mono (fun e w' h9 => by obtain ⟨P9, q1, q2, q3⟩ := h9; exact ⟨_, _, q1, fun q => (let ⟨_, _, _, _, q5⟩ := q3 q; q5), q2⟩)
        have HC := hide hC
        have hc' : wr.cell? ⟨fb, k, none⟩ = some (.iface 136 (.agg #[])) := hc
        have HBF0 := hide (And.intro BR (And.intro BK (And.intro Bf hOk)))
        clear hC hib BR BK Bf hAk hOk hEr hc
        as_aux_lemma =>
          go_wp2_with fail
          refine (unhide HC).mono ?_
          rintro e z ⟨p2, B2, rfl, hAz, hOz⟩
          obtain ⟨BR, BK, Bf, hOk⟩ := unhide HBF0
          obtain ⟨v, hv⟩ : ∃ v, z.heap.size = v := ⟨_, rfl⟩
          obtain ⟨y1, hy1⟩ : ∃ Z, z.alloc (.cells #[.int .i64 0, .string ⟨#[]⟩, .slice none 0 0] 103) = Z := ⟨_, rfl⟩
          have hzk := hOz.size
          have hgk : h < wr.heap.size := BK.lt
          have hgr : g < wr.heap.size := BR.lt
          have hfk : fb < wr.heap.size := Bf.lt
          have hfb : fb ≠ b := by
            intro e
            subst e
            obtain ⟨_, _, _, hAk, _, _⟩ := unhide HK
            exact absurd (blkT Bf (show Blk wr fb _ _ from hAk)) (by decide)
          have hfg : fb ≠ g ∧ fb ≠ h := by
            constructor
            · intro e
              subst e
              exact absurd (blkT Bf BR) (by decide)
            · intro e
              subst e
              exact absurd (blkT Bf BK) (by decide)
          have HFG := hide hfg
          have hb1 : Below v z y1 := by rw [← hy1, ← hv]; exact (Below.refl _ z).alloc (Nat.le_refl _) _
          have hb1' : Below z.heap.size z y1 := by rw [hv]; exact hb1
          have BZ1 : Blk y1 v #[.int .i64 0, .string ⟨#[]⟩, .slice none 0 0] 103 := by rw [← hy1, ← hv]; exact Blk.new z _ _
          have HZ3 := hide BZ1
          have HO3 := hide (Prt.one p2)
          obtain ⟨y2, hy2⟩ : ∃ Z, y1.setRow v p2.cs = Z := ⟨_, rfl⟩
          have oV : Only (fun j => j = v) y1 y2 := by rw [← hy2]; exact only_setRow (P := fun j => j = v) v _ rfl
          have hd : Blk y2 g #[.int .i64 0, .int .i64 0, .int .i64 0, .slice none 0 0, .int .i64 0, .slice none 0 0, .string ⟨#[]⟩, .string ⟨#[]⟩] 34 ∧ Blk y2 h rk.cs 34 ∧ Blk y2 fb (fs.map fv).toArray 101 ∧ (B2 = true → At y2 b s (i + 9)) ∧ Only (fun j => j = b) w y2 := by
            refine ⟨((BR.only hOz (by omega)).below hb1 (by omega)).only oV (by omega), ((BK.only hOz (by omega)).below hb1 (by omega)).only oV (by omega), ((Bf.only hOz hfb).below hb1 (by omega)).only oV (by omega), fun q => ((hAz q).below hb1 (by omega)).only oV (by omega), ?_⟩
            exact ((hOk.trans hOz (fun _ _ q => q)).trans (Only.of_below (P := fun _ => False) hb1') (fun _ _ q => q.elim)).trans oV (fun j hj q => by have := hOk.size; omega)
          have BP2 : Blk y2 v p2.cs 103 := by rw [← hy2]; exact blk_setRow BZ1
          have HRP := hide (show y2.rangeAt v 0 p2.cl from blk_range BP2)
          have HRG := hide (show y2.rangeAt h 0 rk.cl from blk_range hd.2.1)
          have HD := hide hd
          clear BR BK Bf hOk hb1 hb1' BZ1 BP2 hd hAz hOz hfg hfb hzk oV
          cases B2 with
          | true =>
            obtain ⟨r2, hr2⟩ : ∃ Z, (exr fVos rk p2).1 = Z := ⟨_, rfl⟩
            obtain ⟨q2, hq2⟩ : ∃ Z, (exr fVos rk p2).2 = Z := ⟨_, rfl⟩
            have hEX := exr_any fVos (by simp [IsP]) rk p2
            rw [hr2, hq2] at hEX
            have HEX := hide hEX
            have HI2 := hide (show i + 9 + szF (fs.drop (k + 1)) ≤ s.size by
              have h := unhide HISZ
              have e : (fVos).b = 9 := rfl
              rw [e] at h
              omega)
            have HO2 := hide (Rep.one r2)
            clear hEX hr2 hq2 HISZ HC HK
            go_wp2_with (first | refine wpList_store_row rfl 103 (.tmp 13) (.tmp 42) rfl v p2.cs rfl rfl 103 #[.int .i64 0, .string ⟨#[]⟩, .slice none 0 0] (unhide HZ3) size_prt rfl (unhide HO3) ?_ | refine wpList_load_mid rfl 34 (.tmp 9) rfl h 0 rfl rk.cl _ (unhide HRG) Tryz.underlying34 rfl size_rep ?_ | refine wpList_load_mid rfl 103 (.tmp 13) rfl v 0 rfl p2.cl _ (unhide HRP) Tryz.underlying103 rfl size_prt ?_)
            refine (unhide HEX _).mono ?_
            rintro e x3 ⟨rfl, hx3⟩
            obtain ⟨D1, D2, D3, D4, D5⟩ := unhide HD
            have E2 := D2.below hx3 D2.lt
            have HZ4 := hide E2
            have oH : Only (fun j => j = h) x3 (x3.setRow h r2.cs) := only_setRow (P := fun j => j = h) h _ rfl
            have HFIN := hide (show Blk (x3.setRow h r2.cs) g #[.int .i64 0, .int .i64 0, .int .i64 0, .slice none 0 0, .int .i64 0, .slice none 0 0, .string ⟨#[]⟩, .string ⟨#[]⟩] 34 ∧ Blk (x3.setRow h r2.cs) h r2.cs 34 ∧ FR (x3.setRow h r2.cs) (.slice (some ⟨fb, 0, none⟩) n n) fs ∧ At (x3.setRow h r2.cs) b s (i + 9) ∧ Only (fun j => j = b) w (x3.setRow h r2.cs) from
              ⟨(D1.below hx3 D1.lt).only oH (by omega), blk_setRow E2, .inr ⟨fb, by rw [hlen], (D3.below hx3 D3.lt).only oH (by have := unhide HFG; omega)⟩, ((D4 (by trivial)).below hx3 (D4 (by trivial)).lt).only oH (by omega), (D5.trans (Only.of_below (P := fun _ => False) hx3) (fun _ _ q => q.elim)).trans oH (fun j hj q => by omega)⟩)
            clear D1 D2 D3 D4 D5 E2 hx3 HD oH
            go_wp2_with (refine wpList_store_row rfl 34 (.tmp 9) (.tmp 52) rfl h r2.cs rfl rfl 34 rk.cs (unhide HZ4) size_rep rfl (unhide HO2) ?_)
            obtain ⟨F1, F2, F3, F4, F5⟩ := unhide HFIN
            exact ⟨⟨k + 1, r2, i + 9, by omega, rfl, unhide HI2, F1, F2, F3, F4, F5⟩, by simp [intOf]; omega⟩
          | false =>
            obtain ⟨D1, D2, D3, D4, D5⟩ := unhide HD
            have BT := blk_setRow (cells := (Rep.bare 0).cs) D1
            have HL := hide (iload_blk 34 _ BT Tryz.underlying34 rfl size_rep)
            have HZ5 := hide D1
            have HO5 := hide (Rep.one (Rep.bare 0))
            have HBN := hide built_norep
            have HF2 := hide (show Only (fun j => j = b) w (y2.setRow g (Rep.bare 0).cs) from D5.trans (only_setRow (P := fun j => j = g) g _ rfl) (fun j hj q => by omega))
            clear D1 D2 D3 D4 D5 BT HD HISZ HC HK
            go_wp2_with (first | refine wpList_store_row rfl 103 (.tmp 13) (.tmp 42) rfl v p2.cs rfl rfl 103 #[.int .i64 0, .string ⟨#[]⟩, .slice none 0 0] (unhide HZ3) size_prt rfl (unhide HO3) ?_ | refine wpList_buildAs rfl 34 #[] rfl _ rfl (Rep.bare 0).cs (unhide HBN) ?_ | refine wpList_store_row rfl 34 (.tmp 6) (.tmp 46) rfl g (Rep.bare 0).cs rfl rfl 34 #[.int .i64 0, .int .i64 0, .int .i64 0, .slice none 0 0, .int .i64 0, .slice none 0 0, .string ⟨#[]⟩, .string ⟨#[]⟩] (unhide HZ5) size_rep rfl (unhide HO5) ?_)
            (try simp only [Exit.inBlock, Exit.then])
            refine bodyPost_ret (v := .tuple #[.agg (Rep.bare 0).cs, .bool false]) (results_cell2 (p := 6) (q := 7) (ty := 34) rfl _ _ _ ⟨g, 0, none⟩ rfl _ (unhide HL)) rfl ?_
            exact TrQ.of _ _ (unhide HF2)
      · obtain ⟨BR, BK, Bf, hAk, hOk, hEr⟩ := unhide HK
        have hib : i + 4 ≤ s.size := by have h := unhide HISZ; have e : (fNon).b = 4 := rfl; rw [e] at h; omega
        have hC : Calls Tryz.prog 132 #[.agg #[.int .i64 4, .int .i64 0, .int .i64 4294967295], .pointer (some ⟨b, 0, none⟩)] wr fun e w' => TkF b s i 4 wr e w' := (ntake_any 4 0 4294967295 (by decide) (by decide) wr b s i hAk hEr hs hib _ rfl).mono (fun e w' h9 => ⟨_, _, h9.1, fun _ => h9.2.1, h9.2.2⟩)
        have HC := hide hC
        have hc' : wr.cell? ⟨fb, k, none⟩ = some (.iface 126 (.agg #[.int .i64 4, .int .i64 0, .int .i64 4294967295])) := hc
        have HBF0 := hide (And.intro BR (And.intro BK (And.intro Bf hOk)))
        clear hC hib BR BK Bf hAk hOk hEr hc
        as_aux_lemma =>
          go_wp2_with fail
          refine (unhide HC).mono ?_
          rintro e z ⟨p2, B2, rfl, hAz, hOz⟩
          obtain ⟨BR, BK, Bf, hOk⟩ := unhide HBF0
          obtain ⟨v, hv⟩ : ∃ v, z.heap.size = v := ⟨_, rfl⟩
          obtain ⟨y1, hy1⟩ : ∃ Z, z.alloc (.cells #[.int .i64 0, .string ⟨#[]⟩, .slice none 0 0] 103) = Z := ⟨_, rfl⟩
          have hzk := hOz.size
          have hgk : h < wr.heap.size := BK.lt
          have hgr : g < wr.heap.size := BR.lt
          have hfk : fb < wr.heap.size := Bf.lt
          have hfb : fb ≠ b := by
            intro e
            subst e
            obtain ⟨_, _, _, hAk, _, _⟩ := unhide HK
            exact absurd (blkT Bf (show Blk wr fb _ _ from hAk)) (by decide)
          have hfg : fb ≠ g ∧ fb ≠ h := by
            constructor
            · intro e
              subst e
              exact absurd (blkT Bf BR) (by decide)
            · intro e
              subst e
              exact absurd (blkT Bf BK) (by decide)
          have HFG := hide hfg
          have hb1 : Below v z y1 := by rw [← hy1, ← hv]; exact (Below.refl _ z).alloc (Nat.le_refl _) _
          have hb1' : Below z.heap.size z y1 := by rw [hv]; exact hb1
          have BZ1 : Blk y1 v #[.int .i64 0, .string ⟨#[]⟩, .slice none 0 0] 103 := by rw [← hy1, ← hv]; exact Blk.new z _ _
          have HZ3 := hide BZ1
          have HO3 := hide (Prt.one p2)
          obtain ⟨y2, hy2⟩ : ∃ Z, y1.setRow v p2.cs = Z := ⟨_, rfl⟩
          have oV : Only (fun j => j = v) y1 y2 := by rw [← hy2]; exact only_setRow (P := fun j => j = v) v _ rfl
          have hd : Blk y2 g #[.int .i64 0, .int .i64 0, .int .i64 0, .slice none 0 0, .int .i64 0, .slice none 0 0, .string ⟨#[]⟩, .string ⟨#[]⟩] 34 ∧ Blk y2 h rk.cs 34 ∧ Blk y2 fb (fs.map fv).toArray 101 ∧ (B2 = true → At y2 b s (i + 4)) ∧ Only (fun j => j = b) w y2 := by
            refine ⟨((BR.only hOz (by omega)).below hb1 (by omega)).only oV (by omega), ((BK.only hOz (by omega)).below hb1 (by omega)).only oV (by omega), ((Bf.only hOz hfb).below hb1 (by omega)).only oV (by omega), fun q => ((hAz q).below hb1 (by omega)).only oV (by omega), ?_⟩
            exact ((hOk.trans hOz (fun _ _ q => q)).trans (Only.of_below (P := fun _ => False) hb1') (fun _ _ q => q.elim)).trans oV (fun j hj q => by have := hOk.size; omega)
          have BP2 : Blk y2 v p2.cs 103 := by rw [← hy2]; exact blk_setRow BZ1
          have HRP := hide (show y2.rangeAt v 0 p2.cl from blk_range BP2)
          have HRG := hide (show y2.rangeAt h 0 rk.cl from blk_range hd.2.1)
          have HD := hide hd
          clear BR BK Bf hOk hb1 hb1' BZ1 BP2 hd hAz hOz hfg hfb hzk oV
          cases B2 with
          | true =>
            obtain ⟨r2, hr2⟩ : ∃ Z, (exr fNon rk p2).1 = Z := ⟨_, rfl⟩
            obtain ⟨q2, hq2⟩ : ∃ Z, (exr fNon rk p2).2 = Z := ⟨_, rfl⟩
            have hEX := exr_any fNon (by simp [IsP]) rk p2
            rw [hr2, hq2] at hEX
            have HEX := hide hEX
            have HI2 := hide (show i + 4 + szF (fs.drop (k + 1)) ≤ s.size by
              have h := unhide HISZ
              have e : (fNon).b = 4 := rfl
              rw [e] at h
              omega)
            have HO2 := hide (Rep.one r2)
            clear hEX hr2 hq2 HISZ HC HK
            go_wp2_with (first | refine wpList_store_row rfl 103 (.tmp 13) (.tmp 42) rfl v p2.cs rfl rfl 103 #[.int .i64 0, .string ⟨#[]⟩, .slice none 0 0] (unhide HZ3) size_prt rfl (unhide HO3) ?_ | refine wpList_load_mid rfl 34 (.tmp 9) rfl h 0 rfl rk.cl _ (unhide HRG) Tryz.underlying34 rfl size_rep ?_ | refine wpList_load_mid rfl 103 (.tmp 13) rfl v 0 rfl p2.cl _ (unhide HRP) Tryz.underlying103 rfl size_prt ?_)
            refine (unhide HEX _).mono ?_
            rintro e x3 ⟨rfl, hx3⟩
            obtain ⟨D1, D2, D3, D4, D5⟩ := unhide HD
            have E2 := D2.below hx3 D2.lt
            have HZ4 := hide E2
            have oH : Only (fun j => j = h) x3 (x3.setRow h r2.cs) := only_setRow (P := fun j => j = h) h _ rfl
            have HFIN := hide (show Blk (x3.setRow h r2.cs) g #[.int .i64 0, .int .i64 0, .int .i64 0, .slice none 0 0, .int .i64 0, .slice none 0 0, .string ⟨#[]⟩, .string ⟨#[]⟩] 34 ∧ Blk (x3.setRow h r2.cs) h r2.cs 34 ∧ FR (x3.setRow h r2.cs) (.slice (some ⟨fb, 0, none⟩) n n) fs ∧ At (x3.setRow h r2.cs) b s (i + 4) ∧ Only (fun j => j = b) w (x3.setRow h r2.cs) from
              ⟨(D1.below hx3 D1.lt).only oH (by omega), blk_setRow E2, .inr ⟨fb, by rw [hlen], (D3.below hx3 D3.lt).only oH (by have := unhide HFG; omega)⟩, ((D4 (by trivial)).below hx3 (D4 (by trivial)).lt).only oH (by omega), (D5.trans (Only.of_below (P := fun _ => False) hx3) (fun _ _ q => q.elim)).trans oH (fun j hj q => by omega)⟩)
            clear D1 D2 D3 D4 D5 E2 hx3 HD oH
            go_wp2_with (refine wpList_store_row rfl 34 (.tmp 9) (.tmp 52) rfl h r2.cs rfl rfl 34 rk.cs (unhide HZ4) size_rep rfl (unhide HO2) ?_)
            obtain ⟨F1, F2, F3, F4, F5⟩ := unhide HFIN
            exact ⟨⟨k + 1, r2, i + 4, by omega, rfl, unhide HI2, F1, F2, F3, F4, F5⟩, by simp [intOf]; omega⟩
          | false =>
            obtain ⟨D1, D2, D3, D4, D5⟩ := unhide HD
            have BT := blk_setRow (cells := (Rep.bare 0).cs) D1
            have HL := hide (iload_blk 34 _ BT Tryz.underlying34 rfl size_rep)
            have HZ5 := hide D1
            have HO5 := hide (Rep.one (Rep.bare 0))
            have HBN := hide built_norep
            have HF2 := hide (show Only (fun j => j = b) w (y2.setRow g (Rep.bare 0).cs) from D5.trans (only_setRow (P := fun j => j = g) g _ rfl) (fun j hj q => by omega))
            clear D1 D2 D3 D4 D5 BT HD HISZ HC HK
            go_wp2_with (first | refine wpList_store_row rfl 103 (.tmp 13) (.tmp 42) rfl v p2.cs rfl rfl 103 #[.int .i64 0, .string ⟨#[]⟩, .slice none 0 0] (unhide HZ3) size_prt rfl (unhide HO3) ?_ | refine wpList_buildAs rfl 34 #[] rfl _ rfl (Rep.bare 0).cs (unhide HBN) ?_ | refine wpList_store_row rfl 34 (.tmp 6) (.tmp 46) rfl g (Rep.bare 0).cs rfl rfl 34 #[.int .i64 0, .int .i64 0, .int .i64 0, .slice none 0 0, .int .i64 0, .slice none 0 0, .string ⟨#[]⟩, .string ⟨#[]⟩] (unhide HZ5) size_rep rfl (unhide HO5) ?_)
            (try simp only [Exit.inBlock, Exit.then])
            refine bodyPost_ret (v := .tuple #[.agg (Rep.bare 0).cs, .bool false]) (results_cell2 (p := 6) (q := 7) (ty := 34) rfl _ _ _ ⟨g, 0, none⟩ rfl _ (unhide HL)) rfl ?_
            exact TrQ.of _ _ (unhide HF2)
      · obtain ⟨BR, BK, Bf, hAk, hOk, hEr⟩ := unhide HK
        have hib : i + 8 ≤ s.size := by have h := unhide HISZ; have e : (fPla).b = 8 := rfl; rw [e] at h; omega
        have hC : Calls Tryz.prog 139 #[.agg #[], .pointer (some ⟨b, 0, none⟩)] wr fun e w' => TkF b s i 8 wr e w' := (plTake_any wr b s i hAk hEr hs hib).mono (fun e w' h9 => by obtain ⟨p9, c9, q1, q2, q3, q4⟩ := h9; exact ⟨_, _, q1, fun _ => q3, q4⟩)
        have HC := hide hC
        have hc' : wr.cell? ⟨fb, k, none⟩ = some (.iface 135 (.agg #[])) := hc
        have HBF0 := hide (And.intro BR (And.intro BK (And.intro Bf hOk)))
        clear hC hib BR BK Bf hAk hOk hEr hc
        as_aux_lemma =>
          go_wp2_with fail
          refine (unhide HC).mono ?_
          rintro e z ⟨p2, B2, rfl, hAz, hOz⟩
          obtain ⟨BR, BK, Bf, hOk⟩ := unhide HBF0
          obtain ⟨v, hv⟩ : ∃ v, z.heap.size = v := ⟨_, rfl⟩
          obtain ⟨y1, hy1⟩ : ∃ Z, z.alloc (.cells #[.int .i64 0, .string ⟨#[]⟩, .slice none 0 0] 103) = Z := ⟨_, rfl⟩
          have hzk := hOz.size
          have hgk : h < wr.heap.size := BK.lt
          have hgr : g < wr.heap.size := BR.lt
          have hfk : fb < wr.heap.size := Bf.lt
          have hfb : fb ≠ b := by
            intro e
            subst e
            obtain ⟨_, _, _, hAk, _, _⟩ := unhide HK
            exact absurd (blkT Bf (show Blk wr fb _ _ from hAk)) (by decide)
          have hfg : fb ≠ g ∧ fb ≠ h := by
            constructor
            · intro e
              subst e
              exact absurd (blkT Bf BR) (by decide)
            · intro e
              subst e
              exact absurd (blkT Bf BK) (by decide)
          have HFG := hide hfg
          have hb1 : Below v z y1 := by rw [← hy1, ← hv]; exact (Below.refl _ z).alloc (Nat.le_refl _) _
          have hb1' : Below z.heap.size z y1 := by rw [hv]; exact hb1
          have BZ1 : Blk y1 v #[.int .i64 0, .string ⟨#[]⟩, .slice none 0 0] 103 := by rw [← hy1, ← hv]; exact Blk.new z _ _
          have HZ3 := hide BZ1
          have HO3 := hide (Prt.one p2)
          obtain ⟨y2, hy2⟩ : ∃ Z, y1.setRow v p2.cs = Z := ⟨_, rfl⟩
          have oV : Only (fun j => j = v) y1 y2 := by rw [← hy2]; exact only_setRow (P := fun j => j = v) v _ rfl
          have hd : Blk y2 g #[.int .i64 0, .int .i64 0, .int .i64 0, .slice none 0 0, .int .i64 0, .slice none 0 0, .string ⟨#[]⟩, .string ⟨#[]⟩] 34 ∧ Blk y2 h rk.cs 34 ∧ Blk y2 fb (fs.map fv).toArray 101 ∧ (B2 = true → At y2 b s (i + 8)) ∧ Only (fun j => j = b) w y2 := by
            refine ⟨((BR.only hOz (by omega)).below hb1 (by omega)).only oV (by omega), ((BK.only hOz (by omega)).below hb1 (by omega)).only oV (by omega), ((Bf.only hOz hfb).below hb1 (by omega)).only oV (by omega), fun q => ((hAz q).below hb1 (by omega)).only oV (by omega), ?_⟩
            exact ((hOk.trans hOz (fun _ _ q => q)).trans (Only.of_below (P := fun _ => False) hb1') (fun _ _ q => q.elim)).trans oV (fun j hj q => by have := hOk.size; omega)
          have BP2 : Blk y2 v p2.cs 103 := by rw [← hy2]; exact blk_setRow BZ1
          have HRP := hide (show y2.rangeAt v 0 p2.cl from blk_range BP2)
          have HRG := hide (show y2.rangeAt h 0 rk.cl from blk_range hd.2.1)
          have HD := hide hd
          clear BR BK Bf hOk hb1 hb1' BZ1 BP2 hd hAz hOz hfg hfb hzk oV
          cases B2 with
          | true =>
            obtain ⟨r2, hr2⟩ : ∃ Z, (exr fPla rk p2).1 = Z := ⟨_, rfl⟩
            obtain ⟨q2, hq2⟩ : ∃ Z, (exr fPla rk p2).2 = Z := ⟨_, rfl⟩
            have hEX := exr_any fPla (by simp [IsP]) rk p2
            rw [hr2, hq2] at hEX
            have HEX := hide hEX
            have HI2 := hide (show i + 8 + szF (fs.drop (k + 1)) ≤ s.size by
              have h := unhide HISZ
              have e : (fPla).b = 8 := rfl
              rw [e] at h
              omega)
            have HO2 := hide (Rep.one r2)
            clear hEX hr2 hq2 HISZ HC HK
            go_wp2_with (first | refine wpList_store_row rfl 103 (.tmp 13) (.tmp 42) rfl v p2.cs rfl rfl 103 #[.int .i64 0, .string ⟨#[]⟩, .slice none 0 0] (unhide HZ3) size_prt rfl (unhide HO3) ?_ | refine wpList_load_mid rfl 34 (.tmp 9) rfl h 0 rfl rk.cl _ (unhide HRG) Tryz.underlying34 rfl size_rep ?_ | refine wpList_load_mid rfl 103 (.tmp 13) rfl v 0 rfl p2.cl _ (unhide HRP) Tryz.underlying103 rfl size_prt ?_)
            refine (unhide HEX _).mono ?_
            rintro e x3 ⟨rfl, hx3⟩
            obtain ⟨D1, D2, D3, D4, D5⟩ := unhide HD
            have E2 := D2.below hx3 D2.lt
            have HZ4 := hide E2
            have oH : Only (fun j => j = h) x3 (x3.setRow h r2.cs) := only_setRow (P := fun j => j = h) h _ rfl
            have HFIN := hide (show Blk (x3.setRow h r2.cs) g #[.int .i64 0, .int .i64 0, .int .i64 0, .slice none 0 0, .int .i64 0, .slice none 0 0, .string ⟨#[]⟩, .string ⟨#[]⟩] 34 ∧ Blk (x3.setRow h r2.cs) h r2.cs 34 ∧ FR (x3.setRow h r2.cs) (.slice (some ⟨fb, 0, none⟩) n n) fs ∧ At (x3.setRow h r2.cs) b s (i + 8) ∧ Only (fun j => j = b) w (x3.setRow h r2.cs) from
              ⟨(D1.below hx3 D1.lt).only oH (by omega), blk_setRow E2, .inr ⟨fb, by rw [hlen], (D3.below hx3 D3.lt).only oH (by have := unhide HFG; omega)⟩, ((D4 (by trivial)).below hx3 (D4 (by trivial)).lt).only oH (by omega), (D5.trans (Only.of_below (P := fun _ => False) hx3) (fun _ _ q => q.elim)).trans oH (fun j hj q => by omega)⟩)
            clear D1 D2 D3 D4 D5 E2 hx3 HD oH
            go_wp2_with (refine wpList_store_row rfl 34 (.tmp 9) (.tmp 52) rfl h r2.cs rfl rfl 34 rk.cs (unhide HZ4) size_rep rfl (unhide HO2) ?_)
            obtain ⟨F1, F2, F3, F4, F5⟩ := unhide HFIN
            exact ⟨⟨k + 1, r2, i + 8, by omega, rfl, unhide HI2, F1, F2, F3, F4, F5⟩, by simp [intOf]; omega⟩
          | false =>
            obtain ⟨D1, D2, D3, D4, D5⟩ := unhide HD
            have BT := blk_setRow (cells := (Rep.bare 0).cs) D1
            have HL := hide (iload_blk 34 _ BT Tryz.underlying34 rfl size_rep)
            have HZ5 := hide D1
            have HO5 := hide (Rep.one (Rep.bare 0))
            have HBN := hide built_norep
            have HF2 := hide (show Only (fun j => j = b) w (y2.setRow g (Rep.bare 0).cs) from D5.trans (only_setRow (P := fun j => j = g) g _ rfl) (fun j hj q => by omega))
            clear D1 D2 D3 D4 D5 BT HD HISZ HC HK
            go_wp2_with (first | refine wpList_store_row rfl 103 (.tmp 13) (.tmp 42) rfl v p2.cs rfl rfl 103 #[.int .i64 0, .string ⟨#[]⟩, .slice none 0 0] (unhide HZ3) size_prt rfl (unhide HO3) ?_ | refine wpList_buildAs rfl 34 #[] rfl _ rfl (Rep.bare 0).cs (unhide HBN) ?_ | refine wpList_store_row rfl 34 (.tmp 6) (.tmp 46) rfl g (Rep.bare 0).cs rfl rfl 34 #[.int .i64 0, .int .i64 0, .int .i64 0, .slice none 0 0, .int .i64 0, .slice none 0 0, .string ⟨#[]⟩, .string ⟨#[]⟩] (unhide HZ5) size_rep rfl (unhide HO5) ?_)
            (try simp only [Exit.inBlock, Exit.then])
            refine bodyPost_ret (v := .tuple #[.agg (Rep.bare 0).cs, .bool false]) (results_cell2 (p := 6) (q := 7) (ty := 34) rfl _ _ _ ⟨g, 0, none⟩ rfl _ (unhide HL)) rfl ?_
            exact TrQ.of _ _ (unhide HF2)
      · obtain ⟨BR, BK, Bf, hAk, hOk, hEr⟩ := unhide HK
        have hib : i + 48 ≤ s.size := by have h := unhide HISZ; have e : (fWra).b = 48 := rfl; rw [e] at h; omega
        have hC : Calls Tryz.prog 136 #[.agg #[.int .i64 48], .pointer (some ⟨b, 0, none⟩)] wr fun e w' => TkF b s i 48 wr e w' := (ttake_any 48 wr b s i hAk hEr hs hib).mono (fun e w' h9 => ⟨_, _, h9.1, fun _ => h9.2.1, h9.2.2⟩)
        have HC := hide hC
        have hc' : wr.cell? ⟨fb, k, none⟩ = some (.iface 131 (.agg #[.int .i64 48])) := hc
        have HBF0 := hide (And.intro BR (And.intro BK (And.intro Bf hOk)))
        clear hC hib BR BK Bf hAk hOk hEr hc
        as_aux_lemma =>
          go_wp2_with fail
          refine (unhide HC).mono ?_
          rintro e z ⟨p2, B2, rfl, hAz, hOz⟩
          obtain ⟨BR, BK, Bf, hOk⟩ := unhide HBF0
          obtain ⟨v, hv⟩ : ∃ v, z.heap.size = v := ⟨_, rfl⟩
          obtain ⟨y1, hy1⟩ : ∃ Z, z.alloc (.cells #[.int .i64 0, .string ⟨#[]⟩, .slice none 0 0] 103) = Z := ⟨_, rfl⟩
          have hzk := hOz.size
          have hgk : h < wr.heap.size := BK.lt
          have hgr : g < wr.heap.size := BR.lt
          have hfk : fb < wr.heap.size := Bf.lt
          have hfb : fb ≠ b := by
            intro e
            subst e
            obtain ⟨_, _, _, hAk, _, _⟩ := unhide HK
            exact absurd (blkT Bf (show Blk wr fb _ _ from hAk)) (by decide)
          have hfg : fb ≠ g ∧ fb ≠ h := by
            constructor
            · intro e
              subst e
              exact absurd (blkT Bf BR) (by decide)
            · intro e
              subst e
              exact absurd (blkT Bf BK) (by decide)
          have HFG := hide hfg
          have hb1 : Below v z y1 := by rw [← hy1, ← hv]; exact (Below.refl _ z).alloc (Nat.le_refl _) _
          have hb1' : Below z.heap.size z y1 := by rw [hv]; exact hb1
          have BZ1 : Blk y1 v #[.int .i64 0, .string ⟨#[]⟩, .slice none 0 0] 103 := by rw [← hy1, ← hv]; exact Blk.new z _ _
          have HZ3 := hide BZ1
          have HO3 := hide (Prt.one p2)
          obtain ⟨y2, hy2⟩ : ∃ Z, y1.setRow v p2.cs = Z := ⟨_, rfl⟩
          have oV : Only (fun j => j = v) y1 y2 := by rw [← hy2]; exact only_setRow (P := fun j => j = v) v _ rfl
          have hd : Blk y2 g #[.int .i64 0, .int .i64 0, .int .i64 0, .slice none 0 0, .int .i64 0, .slice none 0 0, .string ⟨#[]⟩, .string ⟨#[]⟩] 34 ∧ Blk y2 h rk.cs 34 ∧ Blk y2 fb (fs.map fv).toArray 101 ∧ (B2 = true → At y2 b s (i + 48)) ∧ Only (fun j => j = b) w y2 := by
            refine ⟨((BR.only hOz (by omega)).below hb1 (by omega)).only oV (by omega), ((BK.only hOz (by omega)).below hb1 (by omega)).only oV (by omega), ((Bf.only hOz hfb).below hb1 (by omega)).only oV (by omega), fun q => ((hAz q).below hb1 (by omega)).only oV (by omega), ?_⟩
            exact ((hOk.trans hOz (fun _ _ q => q)).trans (Only.of_below (P := fun _ => False) hb1') (fun _ _ q => q.elim)).trans oV (fun j hj q => by have := hOk.size; omega)
          have BP2 : Blk y2 v p2.cs 103 := by rw [← hy2]; exact blk_setRow BZ1
          have HRP := hide (show y2.rangeAt v 0 p2.cl from blk_range BP2)
          have HRG := hide (show y2.rangeAt h 0 rk.cl from blk_range hd.2.1)
          have HD := hide hd
          clear BR BK Bf hOk hb1 hb1' BZ1 BP2 hd hAz hOz hfg hfb hzk oV
          cases B2 with
          | true =>
            obtain ⟨r2, hr2⟩ : ∃ Z, (exr fWra rk p2).1 = Z := ⟨_, rfl⟩
            obtain ⟨q2, hq2⟩ : ∃ Z, (exr fWra rk p2).2 = Z := ⟨_, rfl⟩
            have hEX := exr_any fWra (by simp [IsP]) rk p2
            rw [hr2, hq2] at hEX
            have HEX := hide hEX
            have HI2 := hide (show i + 48 + szF (fs.drop (k + 1)) ≤ s.size by
              have h := unhide HISZ
              have e : (fWra).b = 48 := rfl
              rw [e] at h
              omega)
            have HO2 := hide (Rep.one r2)
            clear hEX hr2 hq2 HISZ HC HK
            go_wp2_with (first | refine wpList_store_row rfl 103 (.tmp 13) (.tmp 42) rfl v p2.cs rfl rfl 103 #[.int .i64 0, .string ⟨#[]⟩, .slice none 0 0] (unhide HZ3) size_prt rfl (unhide HO3) ?_ | refine wpList_load_mid rfl 34 (.tmp 9) rfl h 0 rfl rk.cl _ (unhide HRG) Tryz.underlying34 rfl size_rep ?_ | refine wpList_load_mid rfl 103 (.tmp 13) rfl v 0 rfl p2.cl _ (unhide HRP) Tryz.underlying103 rfl size_prt ?_)
            refine (unhide HEX _).mono ?_
            rintro e x3 ⟨rfl, hx3⟩
            obtain ⟨D1, D2, D3, D4, D5⟩ := unhide HD
            have E2 := D2.below hx3 D2.lt
            have HZ4 := hide E2
            have oH : Only (fun j => j = h) x3 (x3.setRow h r2.cs) := only_setRow (P := fun j => j = h) h _ rfl
            have HFIN := hide (show Blk (x3.setRow h r2.cs) g #[.int .i64 0, .int .i64 0, .int .i64 0, .slice none 0 0, .int .i64 0, .slice none 0 0, .string ⟨#[]⟩, .string ⟨#[]⟩] 34 ∧ Blk (x3.setRow h r2.cs) h r2.cs 34 ∧ FR (x3.setRow h r2.cs) (.slice (some ⟨fb, 0, none⟩) n n) fs ∧ At (x3.setRow h r2.cs) b s (i + 48) ∧ Only (fun j => j = b) w (x3.setRow h r2.cs) from
              ⟨(D1.below hx3 D1.lt).only oH (by omega), blk_setRow E2, .inr ⟨fb, by rw [hlen], (D3.below hx3 D3.lt).only oH (by have := unhide HFG; omega)⟩, ((D4 (by trivial)).below hx3 (D4 (by trivial)).lt).only oH (by omega), (D5.trans (Only.of_below (P := fun _ => False) hx3) (fun _ _ q => q.elim)).trans oH (fun j hj q => by omega)⟩)
            clear D1 D2 D3 D4 D5 E2 hx3 HD oH
            go_wp2_with (refine wpList_store_row rfl 34 (.tmp 9) (.tmp 52) rfl h r2.cs rfl rfl 34 rk.cs (unhide HZ4) size_rep rfl (unhide HO2) ?_)
            obtain ⟨F1, F2, F3, F4, F5⟩ := unhide HFIN
            exact ⟨⟨k + 1, r2, i + 48, by omega, rfl, unhide HI2, F1, F2, F3, F4, F5⟩, by simp [intOf]; omega⟩
          | false =>
            obtain ⟨D1, D2, D3, D4, D5⟩ := unhide HD
            have BT := blk_setRow (cells := (Rep.bare 0).cs) D1
            have HL := hide (iload_blk 34 _ BT Tryz.underlying34 rfl size_rep)
            have HZ5 := hide D1
            have HO5 := hide (Rep.one (Rep.bare 0))
            have HBN := hide built_norep
            have HF2 := hide (show Only (fun j => j = b) w (y2.setRow g (Rep.bare 0).cs) from D5.trans (only_setRow (P := fun j => j = g) g _ rfl) (fun j hj q => by omega))
            clear D1 D2 D3 D4 D5 BT HD HISZ HC HK
            go_wp2_with (first | refine wpList_store_row rfl 103 (.tmp 13) (.tmp 42) rfl v p2.cs rfl rfl 103 #[.int .i64 0, .string ⟨#[]⟩, .slice none 0 0] (unhide HZ3) size_prt rfl (unhide HO3) ?_ | refine wpList_buildAs rfl 34 #[] rfl _ rfl (Rep.bare 0).cs (unhide HBN) ?_ | refine wpList_store_row rfl 34 (.tmp 6) (.tmp 46) rfl g (Rep.bare 0).cs rfl rfl 34 #[.int .i64 0, .int .i64 0, .int .i64 0, .slice none 0 0, .int .i64 0, .slice none 0 0, .string ⟨#[]⟩, .string ⟨#[]⟩] (unhide HZ5) size_rep rfl (unhide HO5) ?_)
            (try simp only [Exit.inBlock, Exit.then])
            refine bodyPost_ret (v := .tuple #[.agg (Rep.bare 0).cs, .bool false]) (results_cell2 (p := 6) (q := 7) (ty := 34) rfl _ _ _ ⟨g, 0, none⟩ rfl _ (unhide HL)) rfl ?_
            exact TrQ.of _ _ (unhide HF2)
      · obtain ⟨BR, BK, Bf, hAk, hOk, hEr⟩ := unhide HK
        have hib : i + 256 ≤ s.size := by have h := unhide HISZ; have e : (fDat).b = 256 := rfl; rw [e] at h; omega
        have hC : Calls Tryz.prog 136 #[.agg #[.int .i64 256], .pointer (some ⟨b, 0, none⟩)] wr fun e w' => TkF b s i 256 wr e w' := (ttake_any 256 wr b s i hAk hEr hs hib).mono (fun e w' h9 => ⟨_, _, h9.1, fun _ => h9.2.1, h9.2.2⟩)
        have HC := hide hC
        have hc' : wr.cell? ⟨fb, k, none⟩ = some (.iface 133 (.agg #[.int .i64 256])) := hc
        have HBF0 := hide (And.intro BR (And.intro BK (And.intro Bf hOk)))
        clear hC hib BR BK Bf hAk hOk hEr hc
        as_aux_lemma =>
          go_wp2_with fail
          refine (unhide HC).mono ?_
          rintro e z ⟨p2, B2, rfl, hAz, hOz⟩
          obtain ⟨BR, BK, Bf, hOk⟩ := unhide HBF0
          obtain ⟨v, hv⟩ : ∃ v, z.heap.size = v := ⟨_, rfl⟩
          obtain ⟨y1, hy1⟩ : ∃ Z, z.alloc (.cells #[.int .i64 0, .string ⟨#[]⟩, .slice none 0 0] 103) = Z := ⟨_, rfl⟩
          have hzk := hOz.size
          have hgk : h < wr.heap.size := BK.lt
          have hgr : g < wr.heap.size := BR.lt
          have hfk : fb < wr.heap.size := Bf.lt
          have hfb : fb ≠ b := by
            intro e
            subst e
            obtain ⟨_, _, _, hAk, _, _⟩ := unhide HK
            exact absurd (blkT Bf (show Blk wr fb _ _ from hAk)) (by decide)
          have hfg : fb ≠ g ∧ fb ≠ h := by
            constructor
            · intro e
              subst e
              exact absurd (blkT Bf BR) (by decide)
            · intro e
              subst e
              exact absurd (blkT Bf BK) (by decide)
          have HFG := hide hfg
          have hb1 : Below v z y1 := by rw [← hy1, ← hv]; exact (Below.refl _ z).alloc (Nat.le_refl _) _
          have hb1' : Below z.heap.size z y1 := by rw [hv]; exact hb1
          have BZ1 : Blk y1 v #[.int .i64 0, .string ⟨#[]⟩, .slice none 0 0] 103 := by rw [← hy1, ← hv]; exact Blk.new z _ _
          have HZ3 := hide BZ1
          have HO3 := hide (Prt.one p2)
          obtain ⟨y2, hy2⟩ : ∃ Z, y1.setRow v p2.cs = Z := ⟨_, rfl⟩
          have oV : Only (fun j => j = v) y1 y2 := by rw [← hy2]; exact only_setRow (P := fun j => j = v) v _ rfl
          have hd : Blk y2 g #[.int .i64 0, .int .i64 0, .int .i64 0, .slice none 0 0, .int .i64 0, .slice none 0 0, .string ⟨#[]⟩, .string ⟨#[]⟩] 34 ∧ Blk y2 h rk.cs 34 ∧ Blk y2 fb (fs.map fv).toArray 101 ∧ (B2 = true → At y2 b s (i + 256)) ∧ Only (fun j => j = b) w y2 := by
            refine ⟨((BR.only hOz (by omega)).below hb1 (by omega)).only oV (by omega), ((BK.only hOz (by omega)).below hb1 (by omega)).only oV (by omega), ((Bf.only hOz hfb).below hb1 (by omega)).only oV (by omega), fun q => ((hAz q).below hb1 (by omega)).only oV (by omega), ?_⟩
            exact ((hOk.trans hOz (fun _ _ q => q)).trans (Only.of_below (P := fun _ => False) hb1') (fun _ _ q => q.elim)).trans oV (fun j hj q => by have := hOk.size; omega)
          have BP2 : Blk y2 v p2.cs 103 := by rw [← hy2]; exact blk_setRow BZ1
          have HRP := hide (show y2.rangeAt v 0 p2.cl from blk_range BP2)
          have HRG := hide (show y2.rangeAt h 0 rk.cl from blk_range hd.2.1)
          have HD := hide hd
          clear BR BK Bf hOk hb1 hb1' BZ1 BP2 hd hAz hOz hfg hfb hzk oV
          cases B2 with
          | true =>
            obtain ⟨r2, hr2⟩ : ∃ Z, (exr fDat rk p2).1 = Z := ⟨_, rfl⟩
            obtain ⟨q2, hq2⟩ : ∃ Z, (exr fDat rk p2).2 = Z := ⟨_, rfl⟩
            have hEX := exr_any fDat (by simp [IsP]) rk p2
            rw [hr2, hq2] at hEX
            have HEX := hide hEX
            have HI2 := hide (show i + 256 + szF (fs.drop (k + 1)) ≤ s.size by
              have h := unhide HISZ
              have e : (fDat).b = 256 := rfl
              rw [e] at h
              omega)
            have HO2 := hide (Rep.one r2)
            clear hEX hr2 hq2 HISZ HC HK
            go_wp2_with (first | refine wpList_store_row rfl 103 (.tmp 13) (.tmp 42) rfl v p2.cs rfl rfl 103 #[.int .i64 0, .string ⟨#[]⟩, .slice none 0 0] (unhide HZ3) size_prt rfl (unhide HO3) ?_ | refine wpList_load_mid rfl 34 (.tmp 9) rfl h 0 rfl rk.cl _ (unhide HRG) Tryz.underlying34 rfl size_rep ?_ | refine wpList_load_mid rfl 103 (.tmp 13) rfl v 0 rfl p2.cl _ (unhide HRP) Tryz.underlying103 rfl size_prt ?_)
            refine (unhide HEX _).mono ?_
            rintro e x3 ⟨rfl, hx3⟩
            obtain ⟨D1, D2, D3, D4, D5⟩ := unhide HD
            have E2 := D2.below hx3 D2.lt
            have HZ4 := hide E2
            have oH : Only (fun j => j = h) x3 (x3.setRow h r2.cs) := only_setRow (P := fun j => j = h) h _ rfl
            have HFIN := hide (show Blk (x3.setRow h r2.cs) g #[.int .i64 0, .int .i64 0, .int .i64 0, .slice none 0 0, .int .i64 0, .slice none 0 0, .string ⟨#[]⟩, .string ⟨#[]⟩] 34 ∧ Blk (x3.setRow h r2.cs) h r2.cs 34 ∧ FR (x3.setRow h r2.cs) (.slice (some ⟨fb, 0, none⟩) n n) fs ∧ At (x3.setRow h r2.cs) b s (i + 256) ∧ Only (fun j => j = b) w (x3.setRow h r2.cs) from
              ⟨(D1.below hx3 D1.lt).only oH (by omega), blk_setRow E2, .inr ⟨fb, by rw [hlen], (D3.below hx3 D3.lt).only oH (by have := unhide HFG; omega)⟩, ((D4 (by trivial)).below hx3 (D4 (by trivial)).lt).only oH (by omega), (D5.trans (Only.of_below (P := fun _ => False) hx3) (fun _ _ q => q.elim)).trans oH (fun j hj q => by omega)⟩)
            clear D1 D2 D3 D4 D5 E2 hx3 HD oH
            go_wp2_with (refine wpList_store_row rfl 34 (.tmp 9) (.tmp 52) rfl h r2.cs rfl rfl 34 rk.cs (unhide HZ4) size_rep rfl (unhide HO2) ?_)
            obtain ⟨F1, F2, F3, F4, F5⟩ := unhide HFIN
            exact ⟨⟨k + 1, r2, i + 256, by omega, rfl, unhide HI2, F1, F2, F3, F4, F5⟩, by simp [intOf]; omega⟩
          | false =>
            obtain ⟨D1, D2, D3, D4, D5⟩ := unhide HD
            have BT := blk_setRow (cells := (Rep.bare 0).cs) D1
            have HL := hide (iload_blk 34 _ BT Tryz.underlying34 rfl size_rep)
            have HZ5 := hide D1
            have HO5 := hide (Rep.one (Rep.bare 0))
            have HBN := hide built_norep
            have HF2 := hide (show Only (fun j => j = b) w (y2.setRow g (Rep.bare 0).cs) from D5.trans (only_setRow (P := fun j => j = g) g _ rfl) (fun j hj q => by omega))
            clear D1 D2 D3 D4 D5 BT HD HISZ HC HK
            go_wp2_with (first | refine wpList_store_row rfl 103 (.tmp 13) (.tmp 42) rfl v p2.cs rfl rfl 103 #[.int .i64 0, .string ⟨#[]⟩, .slice none 0 0] (unhide HZ3) size_prt rfl (unhide HO3) ?_ | refine wpList_buildAs rfl 34 #[] rfl _ rfl (Rep.bare 0).cs (unhide HBN) ?_ | refine wpList_store_row rfl 34 (.tmp 6) (.tmp 46) rfl g (Rep.bare 0).cs rfl rfl 34 #[.int .i64 0, .int .i64 0, .int .i64 0, .slice none 0 0, .int .i64 0, .slice none 0 0, .string ⟨#[]⟩, .string ⟨#[]⟩] (unhide HZ5) size_rep rfl (unhide HO5) ?_)
            (try simp only [Exit.inBlock, Exit.then])
            refine bodyPost_ret (v := .tuple #[.agg (Rep.bare 0).cs, .bool false]) (results_cell2 (p := 6) (q := 7) (ty := 34) rfl _ _ _ ⟨g, 0, none⟩ rfl _ (unhide HL)) rfl ?_
            exact TrQ.of _ _ (unhide HF2)
    · obtain rfl : k = n := by omega
      have hkn' : ¬ (k : Int) < (k : Int) := by omega
      have HRG := hide (show wr.rangeAt h 0 rk.cl from blk_range BK)
      have BT := blk_setRow (cells := rk.cs) BR
      have HL := hide (iload_blk 34 _ BT Tryz.underlying34 rfl size_rep)
      have HZ := hide BR
      have HO := hide (Rep.one rk)
      have HF2 := hide (show Only (fun j => j = b) w (wr.setRow g rk.cs) from hOk.trans (only_setRow (P := fun j => j = g) g _ rfl) (fun j hj q => by omega))
      clear BR BK hRk hAk hOk hisz BT
      go_wp2_with (first | refine wpList_load_mid rfl 34 (.tmp 9) rfl h 0 rfl rk.cl _ (unhide HRG) Tryz.underlying34 rfl size_rep ?_ | refine wpList_store_row rfl 34 (.tmp 6) (.tmp 55) rfl g rk.cs rfl rfl 34 #[.int .i64 0, .int .i64 0, .int .i64 0, .slice none 0 0, .int .i64 0, .slice none 0 0, .string ⟨#[]⟩, .string ⟨#[]⟩] (unhide HZ) size_rep rfl (unhide HO) ?_)
      (try simp only [Exit.inBlock, Exit.then])
      refine bodyPost_ret (v := .tuple #[.agg rk.cs, .bool true]) (results_cell2 (p := 6) (q := 7) (ty := 34) rfl _ _ _ ⟨g, 0, none⟩ rfl _ (unhide HL)) rfl ?_
      exact TrQ.of _ _ (unhide HF2)
theorem takeReply_some (kd st : Int) (s : ByteArray) (hs : s.size ≤ 150000000000000) (hsz : 1 + szF (rpF kd) ≤ s.size) (w : World) (b : Nat) (hA : At w b s 1) (hE : ETy w) :
    Calls Tryz.prog 44 #[.pointer (some ⟨b, 0, none⟩), .int .i64 kd, .int .i64 st] w fun e w' => TrQ b w e w' := by
  cases h : fullP kd st with
  | true => exact takeReplyF kd st h s hs hsz w b hA hE
  | false => exact takeReplyN kd st h s hs hsz w b hA hE
end Go.Proofs.YtpjoibolhkgkhaaGreatDoor
