import Derived.Test.YtobmeiomfiepjaaGreatDoorXfj
import Derived.Test.YtobmeiomfiepjaaGreatDoorTkd
import Derived.Test.YtobmeiomfiepjaaGreatDoorXgb
namespace Go.Proofs.YtobmeiomfiepjaaGreatDoor
open Go.RowKit
set_option maxRecDepth 100000
/-- is the check at the frame's end that of what is ahead of it? -/
def ckB (ah s : ByteArray) : Bool := ((strOfNums (le4 (chkN (nums (ah ++ s.extract 0 (s.size - 4)))))).toList == (s.extract (s.size - 4) s.size).toList)
def frB (s : ByteArray) (fs : List Fld) (ah : ByteArray) : Bool := if s.size = 5 + szF fs then ckB ah s else false
set_option maxHeartbeats 4000000 in
theorem isFrame_any (s : ByteArray) (hs : s.size ≤ 140737488351232) (fs : List Fld) (hF : ∀ f ∈ fs, IsF f) (hl : fs.length ≤ 4) (ah : ByteArray) (hah : ah.size ≤ 10) (v : Value) (w : World) (hR : FR w v fs) : Calls Tryz.prog 39 #[.string s, v, .string ah] w fun e w' => e = .returned (.bool (frB s fs ah)) ∧ Below w.heap.size w w' := by
  have HFS := hide (frameSize_any fs hF hl v w hR)
  have hsz := szF_le fs hF
  obtain ⟨g, hg⟩ : ∃ g, w.heap.size = g := ⟨_, rfl⟩
  by_cases hq : s.size = 5 + szF fs
  · rw [frB, if_pos hq]
    have hne : ((s.size : Int) != ((5 + szF fs : Nat) : Int)) = false := by simp; omega
    obtain ⟨E, hE⟩ : ∃ E, s.size = E + 4 := ⟨1 + szF fs, by omega⟩
    have hw : wrap64 ((s.size : Int) - 4) = (E : Int) := by rw [wrap64_eq _ (by omega) (by omega)]; omega
    have hE4 : s.size - 4 = E := by omega
    have hEs : E ≤ s.size := by omega
    rw [ckB, hE4]
    have hx : (ah ++ s.extract 0 E).size ≤ 100000 := by simp; omega
    have hadd : ¬ 9223372036854775807 < ah.size + (s.extract 0 E).size := by simp; omega
    have HC := hide (fun W => checkOf_any (ah ++ s.extract 0 E) hx W)
    obtain ⟨A1, hA1⟩ : ∃ Z, s.extract 0 E = Z := ⟨_, rfl⟩
    obtain ⟨A3, hA3⟩ : ∃ Z, s.extract E s.size = Z := ⟨_, rfl⟩
    rw [hA1] at HC hadd ⊢
    rw [hA3]
    rw [hE] at hA3
    have hle : (E : Int) ≤ (E : Int) + 4 := by omega
    obtain ⟨A2, hA2⟩ : ∃ Z, ah ++ A1 = Z := ⟨_, rfl⟩
    rw [hA2] at HC ⊢
    generalize strOfNums (le4 (chkN (nums A2))) = K4 at *
    obtain ⟨D, hD⟩ : ∃ Z, (K4.toList == A3.toList) = Z := ⟨_, rfl⟩
    rw [hD]
    clear hq hx hsz hE4 hF hR hah
    generalize (5 + szF fs : Nat) = M at *
    go_enter Tryz.func39, Tryz.ntmps39
    go_wp2_with (go_at_call 51; refine (unhide HFS).mono ?_; rintro e x ⟨rfl, hx⟩; have HX := hide hx; clear hx)
    have HBX := hide (show Below g w x by rw [← hg]; exact unhide HX)
    have HGX := hide (show g ≤ x.heap.size by rw [← hg]; exact (unhide HX).size)
    refine wp_region_held_drew (S := fun _ => True) (by kernel_rfl) trivial ?_
    intro hS
    refine wpAnyH_takeD 0 (some 16) (.string ah) rfl rfl (by kernel_rfl) (by kernel_rfl) (by kernel_rfl) (fun _ _ _ h => h) (Or.inl ⟨by rfl, fun w hSw => by clear hSw; go_simp; try omega⟩) hS ?_
    simp only [Act.put, List.setIfInBounds_toArray, List.set_cons_zero, List.set_cons_succ]
    refine wpAnyH_takeD 1 (some 17) (.string s) rfl rfl (by kernel_rfl) (by kernel_rfl) (by kernel_rfl) (fun _ _ _ h => h) (Or.inl ⟨by rfl, fun w hSw => by clear hSw; go_simp; try omega⟩) hS ?_
    simp only [Act.put, List.setIfInBounds_toArray, List.set_cons_zero, List.set_cons_succ]
    refine wpAnyH_takeD 2 (some 18) (.int .i64 (E : Int)) rfl rfl (by kernel_rfl) (by kernel_rfl) (by kernel_rfl) (fun _ _ _ h => h) (Or.inl ⟨by rfl, fun w hSw => by clear hSw; go_simp; try omega⟩) hS ?_
    simp only [Act.put, List.setIfInBounds_toArray, List.set_cons_zero, List.set_cons_succ]
    refine wpAnyH_takeD 3 (some 19) (.string A1) rfl rfl (by kernel_rfl) (by kernel_rfl) (by kernel_rfl) (fun _ _ _ h => h) (Or.inl ⟨by rfl, fun w hSw => by clear hSw; go_simp; try omega⟩) hS ?_
    simp only [Act.put, List.setIfInBounds_toArray, List.set_cons_zero, List.set_cons_succ]
    refine wpAnyH_takeD 4 (some 20) (.string A2) rfl rfl (by kernel_rfl) (by kernel_rfl) (by kernel_rfl) (fun _ _ _ h => h) (Or.inl ⟨by rfl, fun w hSw => by clear hSw; go_simp; try omega⟩) hS ?_
    simp only [Act.put, List.setIfInBounds_toArray, List.set_cons_zero, List.set_cons_succ]
    refine wpAnyH_takeD 6 (some 22) (.string s) rfl rfl (by kernel_rfl) (by kernel_rfl) (by kernel_rfl) (fun _ _ _ h => h) (Or.inl ⟨by rfl, fun w hSw => by clear hSw; go_simp; try omega⟩) hS ?_
    simp only [Act.put, List.setIfInBounds_toArray, List.set_cons_zero, List.set_cons_succ]
    refine wpAnyH_takeD 7 (some 23) (.int .i64 (E : Int)) rfl rfl (by kernel_rfl) (by kernel_rfl) (by kernel_rfl) (fun _ _ _ h => h) (Or.inl ⟨by rfl, fun w hSw => by clear hSw; go_simp; try omega⟩) hS ?_
    simp only [Act.put, List.setIfInBounds_toArray, List.set_cons_zero, List.set_cons_succ]
    refine wpAnyH_takeD 8 (some 24) (.string A3) rfl rfl (by kernel_rfl) (by kernel_rfl) (by kernel_rfl) (fun _ _ _ h => h) (Or.inl ⟨by rfl, fun w hSw => by clear hSw; go_simp; try omega⟩) hS ?_
    simp only [Act.put, List.setIfInBounds_toArray, List.set_cons_zero, List.set_cons_succ]
    refine wpAnyH_ready (rs := [5]) (by kernel_rfl) (by simp) ?_
    refine AllReadyH.cons rfl (fun K hK => ?_) AllReadyH.nil
    simp only [List.getElem_toArray, List.getElem_cons_succ, List.getElem_cons_zero]
    go_simp
    refine (unhide HC _).mono ?_
    rintro e x4 ⟨rfl, hb4⟩
    have HB4 := hide (show Below g w x4 from (unhide HBX).trans ((((Below.refl _ x).drew).trans hb4).mono (unhide HGX)))
    clear hb4
    refine hK.out _ _ trivial (fun hS => ?_)
    clear hK K
    refine wpAnyH_takeD 9 (some 25) (.bool D) rfl rfl (by kernel_rfl) (by kernel_rfl) (by kernel_rfl) (fun _ _ _ h => h) (Or.inl ⟨by rfl, fun w hSw => by clear hSw; go_simp; try omega⟩) hS ?_
    simp only [Act.put, List.setIfInBounds_toArray, List.set_cons_zero, List.set_cons_succ]
    refine wpAnyH_takeD 10 (some 6) (.bool D) rfl rfl (by kernel_rfl) (by kernel_rfl) (by kernel_rfl) (fun _ _ _ h => h) (Or.inl ⟨by rfl, fun w hSw => by clear hSw; go_simp; try omega⟩) hS ?_
    simp only [Act.put, List.setIfInBounds_toArray, List.set_cons_zero, List.set_cons_succ]
    refine wpAnyH_done (by kernel_rfl) ?_ _
    go_wp2
    go_ret
    exact ⟨rfl, by rw [hg]; exact unhide HB4⟩
  · rw [frB, if_neg hq]
    have hne : ((s.size : Int) != ((5 + szF fs : Nat) : Int)) = true := by simp; omega
    clear hq hF hR hsz
    generalize (5 + szF fs : Nat) = M at *
    go_enter Tryz.func39, Tryz.ntmps39
    go_wp2_with (go_at_call 51; refine (unhide HFS).mono ?_; rintro e x ⟨rfl, hx⟩; have HX := hide hx; clear hx)
    go_ret
    exact ⟨rfl, unhide HX⟩
end Go.Proofs.YtobmeiomfiepjaaGreatDoor
namespace Go.Proofs.YtobmeiomfiepjaaGreatDoor
open Go.RowKit
set_option maxRecDepth 100000
/-- the first byte of a text -/
def kdS (s : ByteArray) : Int := (nums s).getD 0 0
def kdO (s : ByteArray) : Prop := 0 < s.size ∧ 1 ≤ kdS s ∧ kdS s ≤ 12
instance (s : ByteArray) : Decidable (kdO s) := inferInstanceAs (Decidable (_ ∧ _ ∧ _))
/-- what a text is as a request, and what is wrong -/
def decR (s : ByteArray) : Req := if kdO s then (if frB s (rqF (kdS s)) ⟨#[]⟩ = true then (if tqB (kdS s) s = true then tqR (kdS s) s else Req.bare 0) else Req.bare 0) else Req.bare 0
def decE (s : ByteArray) : Int := if kdO s then (if frB s (rqF (kdS s)) ⟨#[]⟩ = true then (if tqB (kdS s) s = true then 0 else 122) else 121) else 120
set_option maxHeartbeats 4000000 in
theorem decode_none (s : ByteArray) (h : s.size = 0) (w : World) : Calls Tryz.prog 11 #[.string s] w fun e w' => e = .returned (.tuple #[.agg (Req.bare 0).cs, .int .i64 120]) ∧ Below w.heap.size w w' := by
  have hse : s = ⟨#[]⟩ := by
    obtain ⟨⟨l⟩⟩ := s
    have : l = [] := List.eq_nil_of_length_eq_zero h
    subst this
    rfl
  have he := empty_eq s hse
  obtain ⟨g, hg⟩ : ∃ g, w.heap.size = g := ⟨_, rfl⟩
  obtain ⟨y, hy⟩ : ∃ Z, w.alloc (.cells #[.int .i64 0, .int .i64 0, .int .i64 0, .int .i64 0, .int .i64 0, .int .i64 0, .string ⟨#[]⟩, .string ⟨#[]⟩, .string ⟨#[]⟩, .string ⟨#[]⟩] 23) = Z := ⟨_, rfl⟩
  have BY : Blk y g #[.int .i64 0, .int .i64 0, .int .i64 0, .int .i64 0, .int .i64 0, .int .i64 0, .string ⟨#[]⟩, .string ⟨#[]⟩, .string ⟨#[]⟩, .string ⟨#[]⟩] 23 := by rw [← hy, ← hg]; exact Blk.new w _ _
  have hby : Below g w y := by rw [← hy, ← hg]; exact (Below.refl _ w).alloc (Nat.le_refl _) _
  have hsy : y.heap.size = g + 1 := by rw [← hy, ← hg]; simp
  have BT := blk_setRow (cells := (Req.bare 0).cs) BY
  have HL := hide (iload_blk 23 _ BT Tryz.underlying23 rfl size_req)
  have HZ := hide BY
  have HBN := hide built_none
  have HO := hide (Req.one (Req.bare 0))
  have HF2 := hide (show Below g w (y.setRow g (Req.bare 0).cs) from below_setRow hby (Nat.le_refl _) _)
  clear BT BY hby hsy h hse
  go_enter Tryz.func11, Tryz.ntmps11
  go_wp2_with (first | refine wpList_buildAs rfl 23 #[] rfl _ rfl (Req.bare 0).cs (unhide HBN) ?_ | refine wpList_store_row rfl 23 (.tmp 2) (.tmp 17) rfl g (Req.bare 0).cs rfl rfl 23 #[.int .i64 0, .int .i64 0, .int .i64 0, .int .i64 0, .int .i64 0, .int .i64 0, .string ⟨#[]⟩, .string ⟨#[]⟩, .string ⟨#[]⟩, .string ⟨#[]⟩] (unhide HZ) size_req rfl (unhide HO) ?_)
  (try simp only [Exit.inBlock, Exit.then])
  refine bodyPost_ret (v := .tuple #[.agg (Req.bare 0).cs, .int .i64 120]) (results_cell2 (p := 2) (q := 3) (ty := 23) rfl _ _ _ ⟨g, 0, none⟩ rfl _ (unhide HL)) rfl ?_
  exact ⟨rfl, by rw [hg]; exact unhide HF2⟩
set_option maxHeartbeats 4000000 in
theorem decode_kind (s : ByteArray) (h : 0 < s.size) (hk : ¬ (1 ≤ kdS s ∧ kdS s ≤ 12)) (w : World) : Calls Tryz.prog 11 #[.string s] w fun e w' => e = .returned (.tuple #[.agg (Req.bare 0).cs, .int .i64 120]) ∧ Below w.heap.size w w' := by
  have he : s.toList.isEmpty = false := empty_ne (fun e => by rw [e] at h; exact absurd h (by decide))
  have hix : ∀ W, (Instr.index 9 (.string s) (.int .i64 0)).run Tryz.prog W = .ok (.int .u8 (kdS s)) W := fun W => index_str s 0 h W
  have HK := hide (isKind_any (kdS s))
  rw [decide_eq_false hk] at HK
  have hbb := nums_bytes s 0
  have hw : wrap64 (kdS s) = kdS s := wrap64_eq _ (by unfold kdS; omega) (by unfold kdS; omega)
  generalize kdS s = kd at *
  obtain ⟨g, hg⟩ : ∃ g, w.heap.size = g := ⟨_, rfl⟩
  obtain ⟨y, hy⟩ : ∃ Z, w.alloc (.cells #[.int .i64 0, .int .i64 0, .int .i64 0, .int .i64 0, .int .i64 0, .int .i64 0, .string ⟨#[]⟩, .string ⟨#[]⟩, .string ⟨#[]⟩, .string ⟨#[]⟩] 23) = Z := ⟨_, rfl⟩
  have BY : Blk y g #[.int .i64 0, .int .i64 0, .int .i64 0, .int .i64 0, .int .i64 0, .int .i64 0, .string ⟨#[]⟩, .string ⟨#[]⟩, .string ⟨#[]⟩, .string ⟨#[]⟩] 23 := by rw [← hy, ← hg]; exact Blk.new w _ _
  have hby : Below g w y := by rw [← hy, ← hg]; exact (Below.refl _ w).alloc (Nat.le_refl _) _
  have hsy : y.heap.size = g + 1 := by rw [← hy, ← hg]; simp
  have BT := blk_setRow (cells := (Req.bare 0).cs) BY
  have HL := hide (iload_blk 23 _ BT Tryz.underlying23 rfl size_req)
  have HZ := hide BY
  have HBN := hide built_none
  have HO := hide (Req.one (Req.bare 0))
  have HF2 := hide (show Below g w (y.setRow g (Req.bare 0).cs) from below_setRow hby (Nat.le_refl _) _)
  clear BT BY hby hsy h hk hbb
  go_enter Tryz.func11, Tryz.ntmps11
  go_wp2_with (first | (go_at_call 26; refine (unhide HK _).mono ?_; rintro e x ⟨rfl, hx⟩; subst x) | refine wpList_buildAs rfl 23 #[] rfl _ rfl (Req.bare 0).cs (unhide HBN) ?_ | refine wpList_store_row rfl 23 (.tmp 2) (.tmp 17) rfl g (Req.bare 0).cs rfl rfl 23 #[.int .i64 0, .int .i64 0, .int .i64 0, .int .i64 0, .int .i64 0, .int .i64 0, .string ⟨#[]⟩, .string ⟨#[]⟩, .string ⟨#[]⟩, .string ⟨#[]⟩] (unhide HZ) size_req rfl (unhide HO) ?_)
  (try simp only [Exit.inBlock, Exit.then])
  refine bodyPost_ret (v := .tuple #[.agg (Req.bare 0).cs, .int .i64 120]) (results_cell2 (p := 2) (q := 3) (ty := 23) rfl _ _ _ ⟨g, 0, none⟩ rfl _ (unhide HL)) rfl ?_
  exact ⟨rfl, by rw [hg]; exact unhide HF2⟩
set_option maxHeartbeats 8000000 in
theorem decode_rest (s : ByteArray) (hs : s.size ≤ 140737488351232) (h : 0 < s.size) (hk : 1 ≤ kdS s ∧ kdS s ≤ 12) (w : World) (hE : ETy w) : Calls Tryz.prog 11 #[.string s] w fun e w' => e = .returned (.tuple #[.agg (decR s).cs, .int .i64 (decE s)]) ∧ Below w.heap.size w w' := by
  have he : s.toList.isEmpty = false := empty_ne (fun e => by rw [e] at h; exact absurd h (by decide))
  have hix : ∀ W, (Instr.index 9 (.string s) (.int .i64 0)).run Tryz.prog W = .ok (.int .u8 (kdS s)) W := fun W => index_str s 0 h W
  have HK := hide (isKind_any (kdS s))
  rw [decide_eq_true hk] at HK
  have hko : kdO s := ⟨h, hk⟩
  have hw : wrap64 (kdS s) = kdS s := wrap64_eq _ (by omega) (by omega)
  have hbe : beN (((nums s).drop 0).take 1) = kdS s := by
    unfold kdS
    cases hq : nums s with
    | nil => rw [← nums_len, hq] at h; exact absurd h (by decide)
    | cons a l => simp [beN]
  have HDR := hide (show decR s = (if frB s (rqF (kdS s)) ⟨#[]⟩ = true then (if tqB (kdS s) s = true then tqR (kdS s) s else Req.bare 0) else Req.bare 0) by rw [decR, if_pos hko])
  have HDE := hide (show decE s = (if frB s (rqF (kdS s)) ⟨#[]⟩ = true then (if tqB (kdS s) s = true then 0 else 122) else 121) by rw [decE, if_pos hko])
  have HIF := hide (fun v W hR => isFrame_any s hs (rqF (kdS s)) (fun f hf => (rqF_all (kdS s) f hf).isF) (rqF_len (kdS s)) ⟨#[]⟩ (by decide) v W hR)
  have HFR := hide (show frB s (rqF (kdS s)) ⟨#[]⟩ = true → 1 + szF (rqF (kdS s)) ≤ s.size by
    intro q
    unfold frB at q
    by_cases e : s.size = 5 + szF (rqF (kdS s))
    · omega
    · rw [if_neg e] at q; exact absurd q (by decide))
  have HTK := hide (fun W b (q : 1 + szF (rqF (kdS s)) ≤ s.size) hA hEE => takeRequest_any (kdS s) s hs q W b hA hEE)
  have HRF := hide (rqf_any (kdS s))
  generalize decR s = DR at *
  generalize decE s = DE at *
  generalize hfb : frB s (rqF (kdS s)) ⟨#[]⟩ = FB at *
  generalize tqB (kdS s) s = TB at *
  generalize tqR (kdS s) s = TR at *
  have HBE := hide hbe
  generalize rqF (kdS s) = fs at *
  generalize kdS s = kd at *
  obtain ⟨g, hg⟩ : ∃ g, w.heap.size = g := ⟨_, rfl⟩
  obtain ⟨y, hy⟩ : ∃ Z, w.alloc (.cells #[.int .i64 0, .int .i64 0, .int .i64 0, .int .i64 0, .int .i64 0, .int .i64 0, .string ⟨#[]⟩, .string ⟨#[]⟩, .string ⟨#[]⟩, .string ⟨#[]⟩] 23) = Z := ⟨_, rfl⟩
  have BY : Blk y g #[.int .i64 0, .int .i64 0, .int .i64 0, .int .i64 0, .int .i64 0, .int .i64 0, .string ⟨#[]⟩, .string ⟨#[]⟩, .string ⟨#[]⟩, .string ⟨#[]⟩] 23 := by rw [← hy, ← hg]; exact Blk.new w _ _
  have hby : Below g w y := by rw [← hy, ← hg]; exact (Below.refl _ w).alloc (Nat.le_refl _) _
  have hsy : y.heap.size = g + 1 := by rw [← hy, ← hg]; simp
  have HEW := hide (fun W (q : Below g w W) => hE.below q (by rw [← hg]; exact hE.lt))
  have HY := hide (And.intro BY (And.intro hby hsy))
  clear BY hby hsy hk hko hbe hE hfb
  go_enter Tryz.func11, Tryz.ntmps11
  go_wp2_with (first | (go_at_call 26; refine (unhide HK _).mono ?_; rintro e x ⟨rfl, hx⟩; subst x))
  refine (newReader_any s _).mono ?_
  rintro e x1 ⟨rfl, hR1, hb1, hs1⟩
  obtain ⟨BY, hby, hsy⟩ := unhide HY
  rw [hsy] at hR1 hb1 hs1 ⊢
  have B1 := BY.below hb1 (by omega)
  have hbw1 : Below g w x1 := hby.trans (hb1.mono (by omega))
  have hA1 : At x1 (g + 1) s 0 := by unfold At Rds; rw [extract_all]; exact hR1
  have HN := hide (numA x1 (g + 1) s 0 1 hA1 (unhide HEW x1 hbw1) hs (by decide) (by decide) (by omega))
  rw [unhide HBE] at HN
  have H1 := hide (And.intro B1 (And.intro hbw1 hs1))
  clear BY hby hsy hR1 hb1 hs1 B1 hbw1 hA1 HY hy HBE
  go_wp2_with fail
  refine (unhide HN).mono ?_
  rintro e x2 ⟨rfl, hA2, hO2⟩
  obtain ⟨B1, hbw1, hs1⟩ := unhide H1
  have B2 := B1.only hO2 (by omega)
  have hbw2 : Below g w x2 := hbw1.trans (hO2.below (B := g) (by omega) (fun q hq e => by omega))
  have H2 := hide (And.intro B2 (And.intro hbw2 hA2))
  clear B1 hbw1 hs1 B2 hbw2 hA2 hO2 HN H1
  go_wp2_with fail
  refine (unhide HRF _).mono ?_
  rintro e x3 ⟨fvv, rfl, hR3, hb3⟩
  obtain ⟨B2, hbw2, hA2⟩ := unhide H2
  have HIF3 := hide (unhide HIF fvv x3 hR3)
  have H3 := hide (And.intro (B2.below hb3 B2.lt) (And.intro (hbw2.trans (hb3.mono (by have := B2.lt; omega))) (hA2.below hb3 hA2.lt)))
  clear B2 hbw2 hA2 hR3 hb3 H2 HIF HRF
  go_wp2_with fail
  refine (unhide HIF3).mono ?_
  rintro e x4 ⟨rfl, hb4⟩
  obtain ⟨B3, hbw3, hA3⟩ := unhide H3
  have B4 := B3.below hb4 B3.lt
  have hbw4 : Below g w x4 := hbw3.trans (hb4.mono (by have := B3.lt; omega))
  have hA4 := hA3.below hb4 hA3.lt
  clear B3 hbw3 hA3 hb4 H3 HIF3
  cases FB with
  | false =>
    have HD := hide (show DR = Req.bare 0 ∧ DE = 121 from ⟨unhide HDR, unhide HDE⟩)
    have BT := blk_setRow (cells := (Req.bare 0).cs) B4
    have HL := hide (iload_blk 23 _ BT Tryz.underlying23 rfl size_req)
    have HZ := hide B4
    have HBN := hide built_none
    have HO := hide (Req.one (Req.bare 0))
    have HF2 := hide (show Below g w (x4.setRow g (Req.bare 0).cs) from below_setRow hbw4 (Nat.le_refl _) _)
    clear BT B4 hbw4 hA4
    go_wp2_with (first | refine wpList_buildAs rfl 23 #[] rfl _ rfl (Req.bare 0).cs (unhide HBN) ?_ | refine wpList_store_row rfl 23 (.tmp 2) (.tmp 27) rfl g (Req.bare 0).cs rfl rfl 23 #[.int .i64 0, .int .i64 0, .int .i64 0, .int .i64 0, .int .i64 0, .int .i64 0, .string ⟨#[]⟩, .string ⟨#[]⟩, .string ⟨#[]⟩, .string ⟨#[]⟩] (unhide HZ) size_req rfl (unhide HO) ?_)
    (try simp only [Exit.inBlock, Exit.then])
    refine bodyPost_ret (v := .tuple #[.agg (Req.bare 0).cs, .int .i64 121]) (results_cell2 (p := 2) (q := 3) (ty := 23) rfl _ _ _ ⟨g, 0, none⟩ rfl _ (unhide HL)) rfl ?_
    exact ⟨by rw [(unhide HD).1, (unhide HD).2], by rw [hg]; exact unhide HF2⟩
  | true =>
    have HD := hide (show DR = (if TB = true then TR else Req.bare 0) ∧ DE = (if TB = true then 0 else 122) from ⟨unhide HDR, unhide HDE⟩)
    have HT := hide (unhide HTK x4 (g + 1) (unhide HFR rfl) hA4 (unhide HEW x4 hbw4))
    have H4 := hide (And.intro B4 hbw4)
    clear B4 hbw4 hA4 HDR HDE HTK HFR
    go_wp2_with fail
    refine (unhide HT).mono ?_
    rintro e x5 ⟨rfl, hO5⟩
    obtain ⟨B4, hbw4⟩ := unhide H4
    have B5 := B4.only hO5 (by omega)
    have hg4 := B4.lt
    have hbw5 : Below g w x5 := hbw4.trans (hO5.below (B := g) (by omega) (fun q hq e => by omega))
    obtain ⟨h, hh⟩ : ∃ h, x5.heap.size = h := ⟨_, rfl⟩
    obtain ⟨y6, hy6⟩ : ∃ Z, x5.alloc (.cells #[.int .i64 0, .int .i64 0, .int .i64 0, .int .i64 0, .int .i64 0, .int .i64 0, .string ⟨#[]⟩, .string ⟨#[]⟩, .string ⟨#[]⟩, .string ⟨#[]⟩] 23) = Z := ⟨_, rfl⟩
    have BN6 : Blk y6 h #[.int .i64 0, .int .i64 0, .int .i64 0, .int .i64 0, .int .i64 0, .int .i64 0, .string ⟨#[]⟩, .string ⟨#[]⟩, .string ⟨#[]⟩, .string ⟨#[]⟩] 23 := by rw [← hy6, ← hh]; exact Blk.new x5 _ _
    have hb6 : Below h x5 y6 := by rw [← hy6, ← hh]; exact (Below.refl _ x5).alloc (Nat.le_refl _) _
    have hg5 : g < h := by rw [← hh]; exact B5.lt
    have B6 := B5.below hb6 hg5
    have HZN := hide BN6
    have HON := hide (Req.one TR)
    have BN7 : Blk (y6.setRow h TR.cs) h TR.cs 23 := blk_setRow BN6
    have B7 : Blk (y6.setRow h TR.cs) g #[.int .i64 0, .int .i64 0, .int .i64 0, .int .i64 0, .int .i64 0, .int .i64 0, .string ⟨#[]⟩, .string ⟨#[]⟩, .string ⟨#[]⟩, .string ⟨#[]⟩] 23 := blk_setRow_other B6 (by omega)
    have hbw7 : Below g w (y6.setRow h TR.cs) := below_setRow (hbw5.trans (hb6.mono (by omega))) (by omega) _
    obtain ⟨x7, hx7⟩ : ∃ Z, y6.setRow h TR.cs = Z := ⟨_, rfl⟩
    rw [hx7] at BN7 B7 hbw7
    have HRT := hide (show x7.rangeAt h 0 TR.cl from blk_range BN7)
    clear B4 hbw4 B5 hbw5 BN6 hb6 B6 BN7 hO5 H4 HT
    cases TB with
    | false =>
      have HD2 := hide (show DR = Req.bare 0 ∧ DE = 122 from ⟨(unhide HD).1, (unhide HD).2⟩)
      have BT := blk_setRow (cells := (Req.bare 0).cs) B7
      have HL := hide (iload_blk 23 _ BT Tryz.underlying23 rfl size_req)
      have HZ := hide B7
      have HBN := hide built_none
      have HO := hide (Req.one (Req.bare 0))
      have HF2 := hide (show Below g w (x7.setRow g (Req.bare 0).cs) from below_setRow hbw7 (Nat.le_refl _) _)
      clear BT B7 hbw7
      go_wp2_with (first | refine wpList_store_row rfl 23 (.tmp 6) (.tmp 32) rfl h TR.cs rfl rfl 23 #[.int .i64 0, .int .i64 0, .int .i64 0, .int .i64 0, .int .i64 0, .int .i64 0, .string ⟨#[]⟩, .string ⟨#[]⟩, .string ⟨#[]⟩, .string ⟨#[]⟩] (unhide HZN) size_req rfl (unhide HON) ?_ | refine wpList_buildAs rfl 23 #[] rfl _ rfl (Req.bare 0).cs (unhide HBN) ?_ | refine wpList_store_row rfl 23 (.tmp 2) (.tmp 36) rfl g (Req.bare 0).cs rfl rfl 23 #[.int .i64 0, .int .i64 0, .int .i64 0, .int .i64 0, .int .i64 0, .int .i64 0, .string ⟨#[]⟩, .string ⟨#[]⟩, .string ⟨#[]⟩, .string ⟨#[]⟩] (unhide HZ) size_req rfl (unhide HO) ?_)
      (try simp only [Exit.inBlock, Exit.then])
      refine bodyPost_ret (v := .tuple #[.agg (Req.bare 0).cs, .int .i64 122]) (results_cell2 (p := 2) (q := 3) (ty := 23) rfl _ _ _ ⟨g, 0, none⟩ rfl _ (unhide HL)) rfl ?_
      exact ⟨by rw [(unhide HD2).1, (unhide HD2).2], by rw [hg]; exact unhide HF2⟩
    | true =>
      have HD2 := hide (show DR = TR ∧ DE = 0 from ⟨(unhide HD).1, (unhide HD).2⟩)
      have BT := blk_setRow (cells := TR.cs) B7
      have HL := hide (iload_blk 23 _ BT Tryz.underlying23 rfl size_req)
      have HZ := hide B7
      have HF2 := hide (show Below g w (x7.setRow g TR.cs) from below_setRow hbw7 (Nat.le_refl _) _)
      clear BT B7 hbw7
      go_wp2_with (first | refine wpList_store_row rfl 23 (.tmp 6) (.tmp 32) rfl h TR.cs rfl rfl 23 #[.int .i64 0, .int .i64 0, .int .i64 0, .int .i64 0, .int .i64 0, .int .i64 0, .string ⟨#[]⟩, .string ⟨#[]⟩, .string ⟨#[]⟩, .string ⟨#[]⟩] (unhide HZN) size_req rfl (unhide HON) ?_ | refine wpList_load_mid rfl 23 (.tmp 6) rfl h 0 rfl TR.cl _ (unhide HRT) Tryz.underlying23 rfl size_req ?_ | refine wpList_store_row rfl 23 (.tmp 2) (.tmp 37) rfl g TR.cs rfl rfl 23 #[.int .i64 0, .int .i64 0, .int .i64 0, .int .i64 0, .int .i64 0, .int .i64 0, .string ⟨#[]⟩, .string ⟨#[]⟩, .string ⟨#[]⟩, .string ⟨#[]⟩] (unhide HZ) size_req rfl (unhide HON) ?_)
      (try simp only [Exit.inBlock, Exit.then])
      refine bodyPost_ret (v := .tuple #[.agg TR.cs, .int .i64 0]) (results_cell2 (p := 2) (q := 3) (ty := 23) rfl _ _ _ ⟨g, 0, none⟩ rfl _ (unhide HL)) rfl ?_
      exact ⟨by rw [(unhide HD2).1, (unhide HD2).2], by rw [hg]; exact unhide HF2⟩
theorem decodeRequest_any (s : ByteArray) (hs : s.size ≤ 140737488351232) (w : World) (hE : ETy w) : Calls Tryz.prog 11 #[.string s] w fun e w' => e = .returned (.tuple #[.agg (decR s).cs, .int .i64 (decE s)]) ∧ Below w.heap.size w w' := by
  by_cases h : 0 < s.size
  · by_cases hk : 1 ≤ kdS s ∧ kdS s ≤ 12
    · exact decode_rest s hs h hk w hE
    · have hn : ¬ kdO s := fun q => hk q.2
      rw [decR, decE, if_neg hn, if_neg hn]
      exact decode_kind s h hk w
  · have hn : ¬ kdO s := fun q => h q.1
    rw [decR, decE, if_neg hn, if_neg hn]
    exact decode_none s (by omega) w
end Go.Proofs.YtobmeiomfiepjaaGreatDoor
