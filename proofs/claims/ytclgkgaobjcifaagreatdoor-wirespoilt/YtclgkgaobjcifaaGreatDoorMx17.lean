import Derived.Test.YtclgkgaobjcifaaGreatDoorMx12
import Derived.Test.YtclgkgaobjcifaaGreatDoorMx08
import Derived.Test.YtclgkgaobjcifaaGreatDoorMx16
namespace Go.Proofs.YtclgkgaobjcifaaGreatDoor
open Go.RowKit
set_option maxRecDepth 100000
/-- the first byte of a text -/
def kdS (s : ByteArray) : Int := (nums s).getD 0 0
def kdO (s : ByteArray) : Prop := 0 < s.size ∧ 1 ≤ kdS s ∧ kdS s ≤ 12
instance (s : ByteArray) : Decidable (kdO s) := inferInstanceAs (Decidable (_ ∧ _ ∧ _))
/-- what a text is as a request, and what is wrong -/
def decR (s : ByteArray) : Req := if kdO s then (if frB s (rqF (kdS s)) ⟨#[]⟩ = true then (if tqB (kdS s) s = true then tqR (kdS s) s else Req.bare 0) else Req.bare 0) else Req.bare 0
def decE (s : ByteArray) : Int := if kdO s then (if frB s (rqF (kdS s)) ⟨#[]⟩ = true then (if tqB (kdS s) s = true then 0 else 122) else 121) else 120
set_option maxHeartbeats 4000000 in
theorem decode_none (s : ByteArray) (h : s.size = 0) (w : World) : Calls Tryz.prog 15 #[.string s] w fun e w' => e = .returned (.tuple #[.agg (Req.bare 0).cs, .int .i64 120]) ∧ Below w.heap.size w w' := by
  have hse : s = ⟨#[]⟩ := by
    obtain ⟨⟨l⟩⟩ := s
    have : l = [] := List.eq_nil_of_length_eq_zero h
    subst this
    rfl
  have he := empty_eq s hse
  obtain ⟨g, hg⟩ : ∃ g, w.heap.size = g := ⟨_, rfl⟩
  obtain ⟨y, hy⟩ : ∃ Z, w.alloc (.cells #[.int .i64 0, .int .i64 0, .int .i64 0, .int .i64 0, .int .i64 0, .int .i64 0, .string ⟨#[]⟩, .string ⟨#[]⟩, .string ⟨#[]⟩, .string ⟨#[]⟩] 29) = Z := ⟨_, rfl⟩
  have BY : Blk y g #[.int .i64 0, .int .i64 0, .int .i64 0, .int .i64 0, .int .i64 0, .int .i64 0, .string ⟨#[]⟩, .string ⟨#[]⟩, .string ⟨#[]⟩, .string ⟨#[]⟩] 29 := by rw [← hy, ← hg]; exact Blk.new w _ _
  have hby : Below g w y := by rw [← hy, ← hg]; exact (Below.refl _ w).alloc (Nat.le_refl _) _
  have hsy : y.heap.size = g + 1 := by rw [← hy, ← hg]; simp
  have BT := blk_setRow (cells := (Req.bare 0).cs) BY
  have HL := hide (iload_blk 29 _ BT Tryz.underlying29 rfl size_req)
  have HZ := hide BY
  have HBN := hide built_none
  have HO := hide (Req.one (Req.bare 0))
  have HF2 := hide (show Below g w (y.setRow g (Req.bare 0).cs) from below_setRow hby (Nat.le_refl _) _)
  clear BT BY hby hsy h hse
  go_enter Tryz.func15, Tryz.ntmps15
  go_wp2_with (first | refine wpList_buildAs rfl 29 #[] rfl _ rfl (Req.bare 0).cs (unhide HBN) ?_ | refine wpList_store_row rfl 29 (.tmp 2) (.tmp 17) rfl g (Req.bare 0).cs rfl rfl 29 #[.int .i64 0, .int .i64 0, .int .i64 0, .int .i64 0, .int .i64 0, .int .i64 0, .string ⟨#[]⟩, .string ⟨#[]⟩, .string ⟨#[]⟩, .string ⟨#[]⟩] (unhide HZ) size_req rfl (unhide HO) ?_)
  (try simp only [Exit.inBlock, Exit.then])
  refine bodyPost_ret (v := .tuple #[.agg (Req.bare 0).cs, .int .i64 120]) (results_cell2 (p := 2) (q := 3) (ty := 29) rfl _ _ _ ⟨g, 0, none⟩ rfl _ (unhide HL)) rfl ?_
  exact ⟨rfl, by rw [hg]; exact unhide HF2⟩
set_option maxHeartbeats 4000000 in
theorem decode_kind (s : ByteArray) (h : 0 < s.size) (hk : ¬ (1 ≤ kdS s ∧ kdS s ≤ 12)) (w : World) : Calls Tryz.prog 15 #[.string s] w fun e w' => e = .returned (.tuple #[.agg (Req.bare 0).cs, .int .i64 120]) ∧ Below w.heap.size w w' := by
  have he : s.toList.isEmpty = false := empty_ne (fun e => by rw [e] at h; exact absurd h (by decide))
  have hix : ∀ W, (Instr.index 9 (.string s) (.int .i64 0)).run Tryz.prog W = .ok (.int .u8 (kdS s)) W := fun W => index_str s 0 h W
  have HK := hide (isKind_any (kdS s))
  rw [decide_eq_false hk] at HK
  have hbb := nums_bytes s 0
  have hw : wrap64 (kdS s) = kdS s := wrap64_eq _ (by unfold kdS; omega) (by unfold kdS; omega)
  generalize kdS s = kd at *
  obtain ⟨g, hg⟩ : ∃ g, w.heap.size = g := ⟨_, rfl⟩
  obtain ⟨y, hy⟩ : ∃ Z, w.alloc (.cells #[.int .i64 0, .int .i64 0, .int .i64 0, .int .i64 0, .int .i64 0, .int .i64 0, .string ⟨#[]⟩, .string ⟨#[]⟩, .string ⟨#[]⟩, .string ⟨#[]⟩] 29) = Z := ⟨_, rfl⟩
  have BY : Blk y g #[.int .i64 0, .int .i64 0, .int .i64 0, .int .i64 0, .int .i64 0, .int .i64 0, .string ⟨#[]⟩, .string ⟨#[]⟩, .string ⟨#[]⟩, .string ⟨#[]⟩] 29 := by rw [← hy, ← hg]; exact Blk.new w _ _
  have hby : Below g w y := by rw [← hy, ← hg]; exact (Below.refl _ w).alloc (Nat.le_refl _) _
  have hsy : y.heap.size = g + 1 := by rw [← hy, ← hg]; simp
  have BT := blk_setRow (cells := (Req.bare 0).cs) BY
  have HL := hide (iload_blk 29 _ BT Tryz.underlying29 rfl size_req)
  have HZ := hide BY
  have HBN := hide built_none
  have HO := hide (Req.one (Req.bare 0))
  have HF2 := hide (show Below g w (y.setRow g (Req.bare 0).cs) from below_setRow hby (Nat.le_refl _) _)
  clear BT BY hby hsy h hk hbb
  go_enter Tryz.func15, Tryz.ntmps15
  go_wp2_with (first | (go_at_call 27; refine (unhide HK _).mono ?_; rintro e x ⟨rfl, hx⟩; subst x) | refine wpList_buildAs rfl 29 #[] rfl _ rfl (Req.bare 0).cs (unhide HBN) ?_ | refine wpList_store_row rfl 29 (.tmp 2) (.tmp 17) rfl g (Req.bare 0).cs rfl rfl 29 #[.int .i64 0, .int .i64 0, .int .i64 0, .int .i64 0, .int .i64 0, .int .i64 0, .string ⟨#[]⟩, .string ⟨#[]⟩, .string ⟨#[]⟩, .string ⟨#[]⟩] (unhide HZ) size_req rfl (unhide HO) ?_)
  (try simp only [Exit.inBlock, Exit.then])
  refine bodyPost_ret (v := .tuple #[.agg (Req.bare 0).cs, .int .i64 120]) (results_cell2 (p := 2) (q := 3) (ty := 29) rfl _ _ _ ⟨g, 0, none⟩ rfl _ (unhide HL)) rfl ?_
  exact ⟨rfl, by rw [hg]; exact unhide HF2⟩
set_option maxHeartbeats 8000000 in
theorem decode_rest (s : ByteArray) (hs : s.size ≤ 150000000000000) (h : 0 < s.size) (hk : 1 ≤ kdS s ∧ kdS s ≤ 12) (w : World) (hE : ETy w) : Calls Tryz.prog 15 #[.string s] w fun e w' => e = .returned (.tuple #[.agg (decR s).cs, .int .i64 (decE s)]) ∧ Below w.heap.size w w' := by
  have he : s.toList.isEmpty = false := empty_ne (fun e => by rw [e] at h; exact absurd h (by decide))
  have hix : ∀ W, (Instr.index 9 (.string s) (.int .i64 0)).run Tryz.prog W = .ok (.int .u8 (kdS s)) W := fun W => index_str s 0 h W
  have HK := hide (isKind_any (kdS s))
  rw [decide_eq_true hk] at HK
  have hko : kdO s := ⟨h, hk⟩
  have hw : wrap64 (kdS s) = kdS s := wrap64_eq _ (by omega) (by omega)
  have hbe : beN (((nums s).drop 0).take 1) = kdS s := by
    unfold kdS
    cases hq : nums s with
    | nil => rw [← nums_len, hq] at h; exact absurd h (by decide)
    | cons a l => simp [beN]
  have HDR := hide (show decR s = (if frB s (rqF (kdS s)) ⟨#[]⟩ = true then (if tqB (kdS s) s = true then tqR (kdS s) s else Req.bare 0) else Req.bare 0) by rw [decR, if_pos hko])
  have HDE := hide (show decE s = (if frB s (rqF (kdS s)) ⟨#[]⟩ = true then (if tqB (kdS s) s = true then 0 else 122) else 121) by rw [decE, if_pos hko])
  have HIF := hide (fun v W hR => isFrame_any s hs (rqF (kdS s)) (fun f hf => (rqF_all (kdS s) f hf).isF) (rqF_len (kdS s)) ⟨#[]⟩ (by decide) v W hR)
  have HFR := hide (show frB s (rqF (kdS s)) ⟨#[]⟩ = true → 1 + szF (rqF (kdS s)) ≤ s.size by
    intro q
    unfold frB at q
    by_cases e : s.size = 5 + szF (rqF (kdS s))
    · omega
    · rw [if_neg e] at q; exact absurd q (by decide))
  have HTK := hide (fun W b (q : 1 + szF (rqF (kdS s)) ≤ s.size) hA hEE => takeRequest_any (kdS s) s hs q W b hA hEE)
  have HRF := hide (rqf_any (kdS s))
  generalize decR s = DR at *
  generalize decE s = DE at *
  generalize hfb : frB s (rqF (kdS s)) ⟨#[]⟩ = FB at *
  generalize tqB (kdS s) s = TB at *
  generalize tqR (kdS s) s = TR at *
  have HBE := hide hbe
  generalize rqF (kdS s) = fs at *
  generalize kdS s = kd at *
  obtain ⟨g, hg⟩ : ∃ g, w.heap.size = g := ⟨_, rfl⟩
  obtain ⟨y, hy⟩ : ∃ Z, w.alloc (.cells #[.int .i64 0, .int .i64 0, .int .i64 0, .int .i64 0, .int .i64 0, .int .i64 0, .string ⟨#[]⟩, .string ⟨#[]⟩, .string ⟨#[]⟩, .string ⟨#[]⟩] 29) = Z := ⟨_, rfl⟩
  have BY : Blk y g #[.int .i64 0, .int .i64 0, .int .i64 0, .int .i64 0, .int .i64 0, .int .i64 0, .string ⟨#[]⟩, .string ⟨#[]⟩, .string ⟨#[]⟩, .string ⟨#[]⟩] 29 := by rw [← hy, ← hg]; exact Blk.new w _ _
  have hby : Below g w y := by rw [← hy, ← hg]; exact (Below.refl _ w).alloc (Nat.le_refl _) _
  have hsy : y.heap.size = g + 1 := by rw [← hy, ← hg]; simp
  have HEW := hide (fun W (q : Below g w W) => hE.below q (by rw [← hg]; exact hE.lt))
  have HY := hide (And.intro BY (And.intro hby hsy))
  clear BY hby hsy hk hko hbe hE hfb
  go_enter Tryz.func15, Tryz.ntmps15
  go_wp2_with (first | (go_at_call 27; refine (unhide HK _).mono ?_; rintro e x ⟨rfl, hx⟩; subst x))
  refine (newReader_any s _).mono ?_
  rintro e x1 ⟨rfl, hR1, hb1, hs1⟩
  obtain ⟨BY, hby, hsy⟩ := unhide HY
  rw [hsy] at hR1 hb1 hs1 ⊢
  have B1 := BY.below hb1 (by omega)
  have hbw1 : Below g w x1 := hby.trans (hb1.mono (by omega))
  have hA1 : At x1 (g + 1) s 0 := by unfold At Rds; rw [extract_all]; exact hR1
  have HN := hide (numA x1 (g + 1) s 0 1 hA1 (unhide HEW x1 hbw1) hs (by decide) (by decide) (by omega))
  rw [unhide HBE] at HN
  have H1 := hide (And.intro B1 (And.intro hbw1 hs1))
  clear BY hby hsy hR1 hb1 hs1 B1 hbw1 hA1 HY hy HBE
  go_wp2_with fail
  refine (unhide HN).mono ?_
  rintro e x2 ⟨rfl, hA2, hO2⟩
  obtain ⟨B1, hbw1, hs1⟩ := unhide H1
  have B2 := B1.only hO2 (by omega)
  have hbw2 : Below g w x2 := hbw1.trans (hO2.below (B := g) (by omega) (fun q hq e => by omega))
  have H2 := hide (And.intro B2 (And.intro hbw2 hA2))
  clear B1 hbw1 hs1 B2 hbw2 hA2 hO2 HN H1
  go_wp2_with fail
  refine (unhide HRF _).mono ?_
  rintro e x3 ⟨fvv, rfl, hR3, hb3⟩
  obtain ⟨B2, hbw2, hA2⟩ := unhide H2
  have HIF3 := hide (unhide HIF fvv x3 hR3)
  have H3 := hide (And.intro (B2.below hb3 B2.lt) (And.intro (hbw2.trans (hb3.mono (by have := B2.lt; omega))) (hA2.below hb3 hA2.lt)))
  clear B2 hbw2 hA2 hR3 hb3 H2 HIF HRF
  go_wp2_with fail
  refine (unhide HIF3).mono ?_
  rintro e x4 ⟨rfl, hb4⟩
  obtain ⟨B3, hbw3, hA3⟩ := unhide H3
  have B4 := B3.below hb4 B3.lt
  have hbw4 : Below g w x4 := hbw3.trans (hb4.mono (by have := B3.lt; omega))
  have hA4 := hA3.below hb4 hA3.lt
  clear B3 hbw3 hA3 hb4 H3 HIF3
  cases FB with
  | false =>
    have HD := hide (show DR = Req.bare 0 ∧ DE = 121 from ⟨unhide HDR, unhide HDE⟩)
    have BT := blk_setRow (cells := (Req.bare 0).cs) B4
    have HL := hide (iload_blk 29 _ BT Tryz.underlying29 rfl size_req)
    have HZ := hide B4
    have HBN := hide built_none
    have HO := hide (Req.one (Req.bare 0))
    have HF2 := hide (show Below g w (x4.setRow g (Req.bare 0).cs) from below_setRow hbw4 (Nat.le_refl _) _)
    clear BT B4 hbw4 hA4
    go_wp2_with (first | refine wpList_buildAs rfl 29 #[] rfl _ rfl (Req.bare 0).cs (unhide HBN) ?_ | refine wpList_store_row rfl 29 (.tmp 2) (.tmp 27) rfl g (Req.bare 0).cs rfl rfl 29 #[.int .i64 0, .int .i64 0, .int .i64 0, .int .i64 0, .int .i64 0, .int .i64 0, .string ⟨#[]⟩, .string ⟨#[]⟩, .string ⟨#[]⟩, .string ⟨#[]⟩] (unhide HZ) size_req rfl (unhide HO) ?_)
    (try simp only [Exit.inBlock, Exit.then])
    refine bodyPost_ret (v := .tuple #[.agg (Req.bare 0).cs, .int .i64 121]) (results_cell2 (p := 2) (q := 3) (ty := 29) rfl _ _ _ ⟨g, 0, none⟩ rfl _ (unhide HL)) rfl ?_
    exact ⟨by rw [(unhide HD).1, (unhide HD).2], by rw [hg]; exact unhide HF2⟩
  | true =>
    have HD := hide (show DR = (if TB = true then TR else Req.bare 0) ∧ DE = (if TB = true then 0 else 122) from ⟨unhide HDR, unhide HDE⟩)
    have HT := hide (unhide HTK x4 (g + 1) (unhide HFR rfl) hA4 (unhide HEW x4 hbw4))
    have H4 := hide (And.intro B4 hbw4)
    clear B4 hbw4 hA4 HDR HDE HTK HFR
    go_wp2_with fail
    refine (unhide HT).mono ?_
    rintro e x5 ⟨rfl, hO5⟩
    obtain ⟨B4, hbw4⟩ := unhide H4
    have B5 := B4.only hO5 (by omega)
    have hg4 := B4.lt
    have hbw5 : Below g w x5 := hbw4.trans (hO5.below (B := g) (by omega) (fun q hq e => by omega))
    obtain ⟨h, hh⟩ : ∃ h, x5.heap.size = h := ⟨_, rfl⟩
    obtain ⟨y6, hy6⟩ : ∃ Z, x5.alloc (.cells #[.int .i64 0, .int .i64 0, .int .i64 0, .int .i64 0, .int .i64 0, .int .i64 0, .string ⟨#[]⟩, .string ⟨#[]⟩, .string ⟨#[]⟩, .string ⟨#[]⟩] 29) = Z := ⟨_, rfl⟩
    have BN6 : Blk y6 h #[.int .i64 0, .int .i64 0, .int .i64 0, .int .i64 0, .int .i64 0, .int .i64 0, .string ⟨#[]⟩, .string ⟨#[]⟩, .string ⟨#[]⟩, .string ⟨#[]⟩] 29 := by rw [← hy6, ← hh]; exact Blk.new x5 _ _
    have hb6 : Below h x5 y6 := by rw [← hy6, ← hh]; exact (Below.refl _ x5).alloc (Nat.le_refl _) _
    have hg5 : g < h := by rw [← hh]; exact B5.lt
    have B6 := B5.below hb6 hg5
    have HZN := hide BN6
    have HON := hide (Req.one TR)
    have BN7 : Blk (y6.setRow h TR.cs) h TR.cs 29 := blk_setRow BN6
    have B7 : Blk (y6.setRow h TR.cs) g #[.int .i64 0, .int .i64 0, .int .i64 0, .int .i64 0, .int .i64 0, .int .i64 0, .string ⟨#[]⟩, .string ⟨#[]⟩, .string ⟨#[]⟩, .string ⟨#[]⟩] 29 := blk_setRow_other B6 (by omega)
    have hbw7 : Below g w (y6.setRow h TR.cs) := below_setRow (hbw5.trans (hb6.mono (by omega))) (by omega) _
    obtain ⟨x7, hx7⟩ : ∃ Z, y6.setRow h TR.cs = Z := ⟨_, rfl⟩
    rw [hx7] at BN7 B7 hbw7
    have HRT := hide (show x7.rangeAt h 0 TR.cl from blk_range BN7)
    clear B4 hbw4 B5 hbw5 BN6 hb6 B6 BN7 hO5 H4 HT
    cases TB with
    | false =>
      have HD2 := hide (show DR = Req.bare 0 ∧ DE = 122 from ⟨(unhide HD).1, (unhide HD).2⟩)
      have BT := blk_setRow (cells := (Req.bare 0).cs) B7
      have HL := hide (iload_blk 29 _ BT Tryz.underlying29 rfl size_req)
      have HZ := hide B7
      have HBN := hide built_none
      have HO := hide (Req.one (Req.bare 0))
      have HF2 := hide (show Below g w (x7.setRow g (Req.bare 0).cs) from below_setRow hbw7 (Nat.le_refl _) _)
      clear BT B7 hbw7
      go_wp2_with (first | refine wpList_store_row rfl 29 (.tmp 6) (.tmp 32) rfl h TR.cs rfl rfl 29 #[.int .i64 0, .int .i64 0, .int .i64 0, .int .i64 0, .int .i64 0, .int .i64 0, .string ⟨#[]⟩, .string ⟨#[]⟩, .string ⟨#[]⟩, .string ⟨#[]⟩] (unhide HZN) size_req rfl (unhide HON) ?_ | refine wpList_buildAs rfl 29 #[] rfl _ rfl (Req.bare 0).cs (unhide HBN) ?_ | refine wpList_store_row rfl 29 (.tmp 2) (.tmp 36) rfl g (Req.bare 0).cs rfl rfl 29 #[.int .i64 0, .int .i64 0, .int .i64 0, .int .i64 0, .int .i64 0, .int .i64 0, .string ⟨#[]⟩, .string ⟨#[]⟩, .string ⟨#[]⟩, .string ⟨#[]⟩] (unhide HZ) size_req rfl (unhide HO) ?_)
      (try simp only [Exit.inBlock, Exit.then])
      refine bodyPost_ret (v := .tuple #[.agg (Req.bare 0).cs, .int .i64 122]) (results_cell2 (p := 2) (q := 3) (ty := 29) rfl _ _ _ ⟨g, 0, none⟩ rfl _ (unhide HL)) rfl ?_
      exact ⟨by rw [(unhide HD2).1, (unhide HD2).2], by rw [hg]; exact unhide HF2⟩
    | true =>
      have HD2 := hide (show DR = TR ∧ DE = 0 from ⟨(unhide HD).1, (unhide HD).2⟩)
      have BT := blk_setRow (cells := TR.cs) B7
      have HL := hide (iload_blk 29 _ BT Tryz.underlying29 rfl size_req)
      have HZ := hide B7
      have HF2 := hide (show Below g w (x7.setRow g TR.cs) from below_setRow hbw7 (Nat.le_refl _) _)
      clear BT B7 hbw7
      go_wp2_with (first | refine wpList_store_row rfl 29 (.tmp 6) (.tmp 32) rfl h TR.cs rfl rfl 29 #[.int .i64 0, .int .i64 0, .int .i64 0, .int .i64 0, .int .i64 0, .int .i64 0, .string ⟨#[]⟩, .string ⟨#[]⟩, .string ⟨#[]⟩, .string ⟨#[]⟩] (unhide HZN) size_req rfl (unhide HON) ?_ | refine wpList_load_mid rfl 29 (.tmp 6) rfl h 0 rfl TR.cl _ (unhide HRT) Tryz.underlying29 rfl size_req ?_ | refine wpList_store_row rfl 29 (.tmp 2) (.tmp 37) rfl g TR.cs rfl rfl 29 #[.int .i64 0, .int .i64 0, .int .i64 0, .int .i64 0, .int .i64 0, .int .i64 0, .string ⟨#[]⟩, .string ⟨#[]⟩, .string ⟨#[]⟩, .string ⟨#[]⟩] (unhide HZ) size_req rfl (unhide HON) ?_)
      (try simp only [Exit.inBlock, Exit.then])
      refine bodyPost_ret (v := .tuple #[.agg TR.cs, .int .i64 0]) (results_cell2 (p := 2) (q := 3) (ty := 29) rfl _ _ _ ⟨g, 0, none⟩ rfl _ (unhide HL)) rfl ?_
      exact ⟨by rw [(unhide HD2).1, (unhide HD2).2], by rw [hg]; exact unhide HF2⟩
theorem decodeRequest_any (s : ByteArray) (hs : s.size ≤ 150000000000000) (w : World) (hE : ETy w) : Calls Tryz.prog 15 #[.string s] w fun e w' => e = .returned (.tuple #[.agg (decR s).cs, .int .i64 (decE s)]) ∧ Below w.heap.size w w' := by
  by_cases h : 0 < s.size
  · by_cases hk : 1 ≤ kdS s ∧ kdS s ≤ 12
    · exact decode_rest s hs h hk w hE
    · have hn : ¬ kdO s := fun q => hk q.2
      rw [decR, decE, if_neg hn, if_neg hn]
      exact decode_kind s h hk w
  · have hn : ¬ kdO s := fun q => h q.1
    rw [decR, decE, if_neg hn, if_neg hn]
    exact decode_none s (by omega) w
end Go.Proofs.YtclgkgaobjcifaaGreatDoor

namespace Go.Proofs.YtclgkgaobjcifaaGreatDoor
open Go.RowKit
set_option maxRecDepth 100000
theorem built_norep : Tryz.prog.built 34 [] = some (Rep.bare 0).cs := by kernel_rfl
theorem blkT {w : World} {b : Nat} {c c' : Array Value} {T T' : TypeId} (h : Blk w b c T) (h' : Blk w b c' T') : T = T' := by
  have e1 := (show w.heap[b]? = _ from h).symm.trans (show w.heap[b]? = _ from h')
  injection e1 with e1
  injection e1
end Go.Proofs.YtclgkgaobjcifaaGreatDoor

namespace Go.Proofs.YtclgkgaobjcifaaGreatDoor
open Go.RowKit
set_option maxRecDepth 100000
end Go.Proofs.YtclgkgaobjcifaaGreatDoor

namespace Go.Proofs.YtclgkgaobjcifaaGreatDoor
open Go.RowKit
set_option maxRecDepth 100000
/-- what a reply's frame says -/
structure PR where
  qu : Int
  ch : Int
  no : Int
  wr : ByteArray
  da : ByteArray
  V : List Int
  Pl : List Int
def PR.bare : PR := ⟨0, 0, 0, ⟨#[]⟩, ⟨#[]⟩, [], []⟩
/-- may a field be taken here? and what is said then -/
def okP (f : Fld) (s : ByteArray) (i : Nat) : Bool := if f.k = 0 then decide ((f.lo : Int) ≤ beN (tkB s i f.b) ∧ beN (tkB s i f.b) ≤ (f.hi : Int)) else if f.k = 3 then vtB s i else true
def upP (f : Fld) (a : PR) (s : ByteArray) (i : Nat) : PR :=
  if f.ty = 122 then { a with qu := beN (tkB s i f.b) }
  else if f.ty = 123 then { a with ch := beN (tkB s i f.b) }
  else if f.ty = 136 then { a with V := tkB s (i + 1) (vtN s i) }
  else if f.ty = 126 then { a with no := beN (tkB s i f.b) }
  else if f.ty = 135 then { a with Pl := tkB s i 8 }
  else if f.ty = 131 then { a with wr := s.extract i (i + f.b) }
  else { a with da := s.extract i (i + f.b) }
def takeP : List Fld → PR → ByteArray → Nat → Option PR
  | [], a, _, _ => some a
  | f :: fs, a, s, i => if okP f s i = true then takeP fs (upP f a s i) s (i + f.b) else none
/-- numbers in a row of one's own -/
def OwnL (w : World) (N : Nat) (p : Option Addr) (m c : Nat) (V : List Int) : Prop := m = V.length ∧ w.ownsRow N 3 1 (.slice p m c) m (V.map (Value.int .i64))
theorem OwnL.nil (w : World) (N : Nat) : OwnL w N none 0 0 [] := ⟨rfl, World.ownsRow_nil _ _ _ _⟩
theorem OwnL.only {w w' : World} {P : Nat → Prop} {N : Nat} {p : Option Addr} {m c : Nat} {V : List Int} (h : OwnL w N p m c V) (ho : Only P w w') (hp : ∀ k, N ≤ k → k < w.heap.size → ¬ P k) : OwnL w' N p m c V := by
  refine ⟨h.1, own_onlyW h.2 ho (fun k hk => ?_)⟩
  rcases h.2.2 with ⟨h1, h0⟩ | ⟨g, cap, cur, h1, hb, hg, hn, hc, hs, hx⟩
  · rw [h1] at hk; simp [Value.ownBlock] at hk
  · rw [h1] at hk
    have e : k = g := by simpa [Value.ownBlock, eq_comm] using hk
    subst e
    exact hp k hb (show Blk w k cur 3 from hg).lt
theorem OwnL.below {w w' : World} {B N : Nat} {p : Option Addr} {m c : Nat} {V : List Int} (h : OwnL w N p m c V) (hb : Below B w w') (hB : w.heap.size ≤ B) : OwnL w' N p m c V := h.only (Only.of_below (P := fun _ => False) (hb.mono hB)) (fun _ _ _ q => q)
theorem OwnL.base {w : World} {N N' : Nat} {p : Option Addr} {m c : Nat} {V : List Int} (h : OwnL w N p m c V) (hb : N' ≤ N) : OwnL w N' p m c V := ⟨h.1, own_baseW h.2 hb⟩
theorem OwnL.lst {w : World} {N : Nat} {p : Option Addr} {m c : Nat} {V : List Int} (h : OwnL w N p m c V) : Lst w w.heap.size p V := own_lstN h.1.symm h.2
/-- a reply in memory that says this -/
structure RM (st : Int) (N : Nat) (r : Rep) (a : PR) (w : World) : Prop where
  st : r.st = st
  qu : r.qu = a.qu
  ch : r.ch = a.ch
  no : r.no = a.no
  wr : r.wr = a.wr
  da : r.da = a.da
  v : OwnL w N r.vp r.vm r.vc a.V
  p : OwnL w N r.pp r.pm r.pc a.Pl
theorem RM.bare (st : Int) (N : Nat) (w : World) : RM st N (Rep.bare st) PR.bare w := ⟨rfl, rfl, rfl, rfl, rfl, rfl, OwnL.nil _ _, OwnL.nil _ _⟩
theorem RM.only {st : Int} {w w' : World} {P : Nat → Prop} {N : Nat} {r : Rep} {a : PR} (h : RM st N r a w) (ho : Only P w w') (hp : ∀ k, N ≤ k → k < w.heap.size → ¬ P k) : RM st N r a w' := ⟨h.st, h.qu, h.ch, h.no, h.wr, h.da, h.v.only ho hp, h.p.only ho hp⟩
theorem RM.below {st : Int} {w w' : World} {B : Nat} {N : Nat} {r : Rep} {a : PR} (h : RM st N r a w) (hb : Below B w w') (hB : w.heap.size ≤ B) : RM st N r a w' := ⟨h.st, h.qu, h.ch, h.no, h.wr, h.da, h.v.below hb hB, h.p.below hb hB⟩
theorem RM.base {st : Int} {w : World} {N N' : Nat} {r : Rep} {a : PR} (h : RM st N r a w) (hb : N' ≤ N) : RM st N' r a w := ⟨h.st, h.qu, h.ch, h.no, h.wr, h.da, h.v.base hb, h.p.base hb⟩
/-- what a part is that was taken -/
def PM (f : Fld) (p : Prt) (s : ByteArray) (i N : Nat) (w : World) : Prop := if f.k = 0 then p.n = beN (tkB s i f.b) else if f.k = 1 then p.t = s.extract i (i + f.b) else if f.k = 2 then OwnL w N p.p p.m p.c (tkB s i 8) else OwnL w N p.p p.m p.c (tkB s (i + 1) (vtN s i))
theorem RM.step {st : Int} {N M : Nat} {r : Rep} {a : PR} {w : World} (h : RM st N r a w) {f : Fld} (hf : IsP f) {p : Prt} {s : ByteArray} {i : Nat} (hp : PM f p s i M w) (hM : N ≤ M) : RM st N (exr f r p).1 (upP f a s i) w := by
  rcases hf with rfl | rfl | rfl | rfl | rfl | rfl | rfl
  · exact ⟨h.st, hp, h.ch, h.no, h.wr, h.da, h.v, h.p⟩
  · exact ⟨h.st, h.qu, hp, h.no, h.wr, h.da, h.v, h.p⟩
  · exact ⟨h.st, h.qu, h.ch, h.no, h.wr, h.da, OwnL.base hp hM, h.p⟩
  · exact ⟨h.st, h.qu, h.ch, hp, h.wr, h.da, h.v, h.p⟩
  · exact ⟨h.st, h.qu, h.ch, h.no, h.wr, h.da, h.v, OwnL.base hp hM⟩
  · exact ⟨h.st, h.qu, h.ch, h.no, hp, h.da, h.v, h.p⟩
  · exact ⟨h.st, h.qu, h.ch, h.no, h.wr, hp, h.v, h.p⟩
/-- what a field's take answers -/
def TkP (f : Fld) (b : Nat) (s : ByteArray) (i m N : Nat) (w : World) (e : Ending) (w' : World) : Prop := ∃ (P : Prt) (B : Bool), e = .returned (.tuple #[.agg P.cs, .bool B]) ∧ B = okP f s i ∧ (B = true → At w' b s (i + m)) ∧ Only (fun j => j = b) w w' ∧ (B = true → PM f P s i N w')
/-- what takeReply answers -/
def TrP (O : Option PR) (st : Int) (N b : Nat) (w : World) (e : Ending) (w' : World) : Prop := ∃ (r : Rep) (B : Bool), e = .returned (.tuple #[.agg r.cs, .bool B]) ∧ Only (fun j => j = b) w w' ∧ ((O = none ∧ B = false ∧ r = Rep.bare 0) ∨ ∃ a, O = some a ∧ B = true ∧ RM st N r a w')
theorem TrP.no {O : Option PR} {st : Int} {N b : Nat} {w w' : World} (h : none = O) (ho : Only (fun j => j = b) w w') : TrP O st N b w (.returned (.tuple #[.agg (Rep.bare 0).cs, .bool false])) w' := ⟨Rep.bare 0, false, rfl, ho, .inl ⟨h.symm, rfl, rfl⟩⟩
theorem TrP.yes {O : Option PR} {st : Int} {N b : Nat} {w w' : World} {r : Rep} {a : PR} (h : some a = O) (ho : Only (fun j => j = b) w w') (hm : RM st N r a w') : TrP O st N b w (.returned (.tuple #[.agg r.cs, .bool true])) w' := ⟨r, true, rfl, ho, .inr ⟨a, h.symm, rfl, hm⟩⟩
end Go.Proofs.YtclgkgaobjcifaaGreatDoor
