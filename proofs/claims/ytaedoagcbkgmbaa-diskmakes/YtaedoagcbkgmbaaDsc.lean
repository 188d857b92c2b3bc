import Derived.Test.YtaedoagcbkgmbaaDsl
import Derived.Test.YtaedoagcbkgmbaaShf
import Derived.Test.YtaedoagcbkgmbaaTkd
namespace Go.Proofs.Ytaedoagcbkgmbaa
open Go.RowKit
set_option maxRecDepth 100000 in
set_option maxHeartbeats 1000000 in
theorem sclone_any (t : ByteArray) (w : World) (ht : t.size ≤ 281474976710656) :
    Calls Try.prog 60 #[.string t] w fun e w' => e = .returned (.string t) ∧ Below w.heap.size w w' := by
  go_enter Try.func60, Try.ntmps60
  go_wp2_with fail
  refine (Try.stringslite_Clone t w ht).mono ?_
  rintro ev x1 ⟨rfl, hb⟩
  have HB := hide hb
  clear hb
  go_wp2
  go_ret
  exact ⟨rfl, unhide HB⟩
set_option maxRecDepth 100000 in
set_option maxHeartbeats 1000000 in
theorem own_any (t : ByteArray) (w : World) (ht : t.size ≤ 281474976710656) :
    Calls Try.prog 40 #[.string t] w fun e w' => e = .returned (.string t) ∧ Below w.heap.size w w' := by
  go_enter Try.func40, Try.ntmps40
  go_wp2_with fail
  refine (sclone_any t w ht).mono ?_
  rintro ev x1 ⟨rfl, hb⟩
  have HB := hide hb
  clear hb
  go_wp2
  go_ret
  exact ⟨rfl, unhide HB⟩
def isOk (s : DSt) (i : Int) : Prop := 0 ≤ i ∧ i < (s.last.length : Int)
instance (s : DSt) (i : Int) : Decidable (isOk s i) := by unfold isOk; infer_instance
def readE (s : DSt) (i : Int) : Int := if isOk s i then (if s.dead then 2 else 0) else 41
def readT (s : DSt) (i : Int) : ByteArray := if isOk s i then (if s.dead then ⟨#[]⟩ else s.now.getD i.toNat ByteArray.empty) else ⟨#[]⟩
set_option maxRecDepth 100000 in
set_option maxHeartbeats 1000000 in
theorem read_any (w : World) (base b : Nat) (v : DV) (s : DSt) (h : Dk w base b v s) (hln : s.now.length = s.last.length) (i : Int) :
    Calls Try.prog 16 #[.pointer (some ⟨b, 0, none⟩), .int .i64 i] w fun e w' => e = .returned (.tuple #[.string (readT s i), .int .i64 (readE s i)]) ∧ w' = w := by
  have c5 : w.cell? ⟨b, 5, none⟩ = some (.bool s.dead) := by rw [h.blk.cell 5]; rfl
  have H := hide h
  by_cases hi : isOk s i
  · rw [readT, readE, if_pos hi, if_pos hi]
    by_cases hd : s.dead = true
    · rw [if_pos hd, if_pos hd]
      rw [hd] at c5
      have e : decide (0 ≤ i ∧ i < (s.last.length : Int)) = true := by simpa [isOk] using hi
      clear h hd hi
      go_enter Try.func16, Try.ntmps16
      go_wp2_with fail
      refine (has_any w base b v s (unhide H) i).mono ?_
      rintro ev x1 ⟨rfl, rfl⟩
      rw [e]
      clear e
      go_wp2
      go_ret2
      exact ⟨rfl, rfl⟩
    · rw [if_neg hd, if_neg hd]
      rw [Bool.not_eq_true] at hd
      rw [hd] at c5
      have e : decide (0 ≤ i ∧ i < (s.last.length : Int)) = true := by simpa [isOk] using hi
      obtain ⟨j, rfl⟩ := Int.eq_ofNat_of_zero_le hi.1
      have hj : j < s.now.length := by have := hi.2; omega
      obtain ⟨gn, capn, evn, _⟩ := h.rn.form (by omega)
      have hgn : v.n.ownBlock = some gn := by rw [evn]; rfl
      have c1 : w.cell? ⟨b, 1, none⟩ = some (.slice (some ⟨gn, 0, none⟩) s.now.length capn) := by rw [h.blk.cell 1, ← evn]; rfl
      have cj : w.cell? ⟨gn, j, none⟩ = some (.string (s.now.getD j ByteArray.empty)) := by rw [(own_at h.rn hgn j hj).1]; exact strs_at _ _ hj
      rw [Int.toNat_natCast]
      generalize s.now.getD j ByteArray.empty = T at *
      generalize s.now.length = n at *
      clear h hd hi hln hgn evn
      go_enter Try.func16, Try.ntmps16
      go_wp2_with fail
      refine (has_any w base b v s (unhide H) (j : Int)).mono ?_
      rintro ev x1 ⟨rfl, rfl⟩
      rw [e]
      clear e
      go_wp2
      go_ret2
      exact ⟨rfl, rfl⟩
  · rw [readT, readE, if_neg hi, if_neg hi]
    have e : decide (0 ≤ i ∧ i < (s.last.length : Int)) = false := by simpa [isOk] using hi
    clear h hi
    go_enter Try.func16, Try.ntmps16
    go_wp2_with fail
    refine (has_any w base b v s (unhide H) i).mono ?_
    rintro ev x1 ⟨rfl, rfl⟩
    rw [e]
    clear e
    go_wp2
    go_ret2
    exact ⟨rfl, rfl⟩
/-- What holds of every disk. -/
structure Sane (s : DSt) : Prop where
  pos : 0 < s.last.length
  cap : s.last.length ≤ 1024
  same : s.now.length = s.last.length
  pend : pendOk s
  fuse : 0 ≤ s.fuse ∧ s.fuse ≤ 9223372036854775807
  acts : ∀ p ∈ s.acts, p.2 < 1024
def writeE (s : DSt) (i : Int) (t : ByteArray) : Int := if isOk s i then (if t.size = 256 then (if (diesS s).dead then 2 else 0) else 42) else 41
def writeS (s : DSt) (i : Int) (t : ByteArray) : DSt := if isOk s i then (if t.size = 256 then (if (diesS s).dead then diesS s else { diesS s with now := s.now.set i.toNat t, pend := s.pend ++ [(i.toNat, t)], acts := s.acts ++ [(0, i.toNat)] }) else s) else s
theorem diesS_last (s : DSt) : (diesS s).last = s.last := by unfold diesS; split <;> rfl
theorem diesS_now (s : DSt) : (diesS s).now = s.now := by unfold diesS; split <;> rfl
theorem diesS_pend (s : DSt) : (diesS s).pend = s.pend := by unfold diesS; split <;> rfl
theorem diesS_acts (s : DSt) : (diesS s).acts = s.acts := by unfold diesS; split <;> rfl
theorem diesS_fuse (s : DSt) (h : 0 ≤ s.fuse ∧ s.fuse ≤ 9223372036854775807) : 0 ≤ (diesS s).fuse ∧ (diesS s).fuse ≤ 9223372036854775807 := by
  unfold diesS
  split
  · show 0 ≤ s.fuse - 1 ∧ s.fuse - 1 ≤ _
    omega
  · exact h
theorem Sane.dies {s : DSt} (h : Sane s) : Sane (diesS s) :=
  ⟨by rw [diesS_last]; exact h.pos, by rw [diesS_last]; exact h.cap, by rw [diesS_last, diesS_now]; exact h.same, by intro p hp; rw [diesS_pend] at hp; rw [diesS_last]; exact h.pend p hp, diesS_fuse s h.fuse, by rw [diesS_acts]; exact h.acts⟩
set_option maxRecDepth 100000 in
set_option maxHeartbeats 2000000 in
theorem write_any (w : World) (base b : Nat) (v : DV) (s : DSt) (h : Dk w base b v s) (hb : base ≤ w.heap.size) (hS : Sane s) (hp : s.pend.length ≤ 1000000000) (ha : s.acts.length ≤ 1000000000) (i : Int) (t : ByteArray) :
    Calls Try.prog 13 #[.pointer (some ⟨b, 0, none⟩), .int .i64 i, .string t] w fun e w' => e = .returned (.int .i64 (writeE s i t)) ∧ DPost base b v (writeS s i t) w w' := by
  have H := hide h
  have HS := hide hS
  clear h hS
  by_cases hi : isOk s i
  · have e : decide (0 ≤ i ∧ i < (s.last.length : Int)) = true := by simpa [isOk] using hi
    rw [writeE, writeS, if_pos hi, if_pos hi]
    by_cases ht : t.size = 256
    · rw [if_pos ht, if_pos ht]
      have e2 : decide (t.size = 256) = true := by simpa using ht
      by_cases hd : (diesS s).dead = true
      · rw [if_pos hd, if_pos hd]
        have HI := hide hi
        have HD := hide hd
        clear hi ht hd
        go_enter Try.func13, Try.ntmps13
        go_wp2_with fail
        refine (has_any w base b v s (unhide H) i).mono ?_
        rintro ev x1 ⟨rfl, rfl⟩
        rw [e]
        clear e
        go_wp2_with fail
        refine (isSector_any t _).mono ?_
        rintro ev x2 ⟨rfl, rfl⟩
        rw [e2]
        clear e2
        go_wp2_with fail
        refine (dies_any _ base b v s (unhide H) ⟨by have := (unhide HS).fuse.1; omega, (unhide HS).fuse.2⟩).mono ?_
        rintro ev x3 ⟨rfl, hD3, hO3⟩
        rw [unhide HD]
        have XD := hide hD3
        have XO := hide hO3
        clear hD3 hO3
        go_wp2
        go_ret
        exact ⟨rfl, v, unhide XD, unhide XO, fun _ q => .inl q⟩
      · rw [if_neg hd, if_neg hd]
        rw [Bool.not_eq_true] at hd
        obtain ⟨j, rfl⟩ := Int.eq_ofNat_of_zero_le hi.1
        have hj : j < s.last.length := by have := hi.2; omega
        rw [Int.toNat_natCast]
        have HI := hide hi
        have HD := hide hd
        have HT := hide ht
        have hj2 : j < 1024 := by have := (unhide HS).cap; omega
        clear hi hd ht
        go_enter Try.func13, Try.ntmps13
        go_wp2_with fail
        refine (has_any w base b v s (unhide H) (j : Int)).mono ?_
        rintro ev x1 ⟨rfl, rfl⟩
        rw [e]
        clear e
        go_wp2_with fail
        refine (isSector_any t _).mono ?_
        rintro ev x2 ⟨rfl, rfl⟩
        rw [e2]
        clear e2
        go_wp2_with fail
        refine (dies_any _ base b v s (unhide H) ⟨by have := (unhide HS).fuse.1; omega, (unhide HS).fuse.2⟩).mono ?_
        rintro ev x3 ⟨rfl, hD3, hO3⟩
        rw [unhide HD]
        have hs3 := hO3.size
        have XD := hide hD3
        have XO := hide hO3
        clear hD3 hO3
        go_wp2_with fail
        refine wp_region_held_drew (S := fun _ => True) (by kernel_rfl) trivial ?_
        intro hS
        refine wpAnyH_takeD 0 (some 18) (.pointer (some ⟨b, 0, none⟩)) rfl rfl (by kernel_rfl) (by kernel_rfl) (by kernel_rfl) (fun _ _ _ h => h) (Or.inl ⟨by rfl, fun w hSw => by go_simp⟩) hS ?_
        simp only [Act.put, List.setIfInBounds_toArray, List.set_cons_zero, List.set_cons_succ]
        refine wpAnyH_takeD 1 (some 19) (.pointer (some ⟨b, 0, none⟩)) rfl rfl (by kernel_rfl) (by kernel_rfl) (by kernel_rfl) (fun _ _ _ h => h) (Or.inl ⟨by rfl, fun w hSw => by go_simp⟩) hS ?_
        simp only [Act.put, List.setIfInBounds_toArray, List.set_cons_zero, List.set_cons_succ]
        refine wpAnyH_takeD 2 (some 20) (.pointer (some ⟨b, 0, none⟩)) rfl rfl (by kernel_rfl) (by kernel_rfl) (by kernel_rfl) (fun _ _ _ h => h) (Or.inl ⟨by rfl, fun w hSw => by go_simp⟩) hS ?_
        simp only [Act.put, List.setIfInBounds_toArray, List.set_cons_zero, List.set_cons_succ]
        refine wpAnyH_takeD 3 (some 21) (.int .i64 (j : Int)) rfl rfl (by kernel_rfl) (by kernel_rfl) (by kernel_rfl) (fun _ _ _ h => h) (Or.inl ⟨by rfl, fun w hSw => by go_simp⟩) hS ?_
        simp only [Act.put, List.setIfInBounds_toArray, List.set_cons_zero, List.set_cons_succ]
        refine wpAnyH_takeD 4 (some 22) (.string t) rfl rfl (by kernel_rfl) (by kernel_rfl) (by kernel_rfl) (fun _ _ _ h => h) (Or.inl ⟨by rfl, fun w hSw => by go_simp⟩) hS ?_
        simp only [Act.put, List.setIfInBounds_toArray, List.set_cons_zero, List.set_cons_succ]
        refine wpAnyH_ready (rs := [5]) (by kernel_rfl) (by simp) ?_
        refine AllReadyH.cons rfl (fun K hK => ?_) AllReadyH.nil
        simp only [List.getElem_toArray, List.getElem_cons_succ, List.getElem_cons_zero]
        go_simp
        refine (own_any t _ (by rw [unhide HT]; decide)).mono ?_
        rintro ev x4 ⟨rfl, hB4⟩
        have XD4 := hide ((unhide XD).drew.below hB4)
        have XO4 := hide (show Only (Fd b v) _ x4 from (unhide XO).drew.trans (Q := fun _ => False) (Only.of_below hB4) (fun _ _ q => q.elim))
        have hs4 : x3.heap.size ≤ x4.heap.size := hB4.size
        clear hB4 XD XO
        refine hK.out _ _ trivial (fun hS => ?_)
        clear hK K
        refine wpAnyH_ready (rs := [6]) (by kernel_rfl) (by simp) ?_
        refine AllReadyH.cons rfl (fun K hK => ?_) AllReadyH.nil
        simp only [List.getElem_toArray, List.getElem_cons_succ, List.getElem_cons_zero]
        go_simp
        refine (put_any _ base b v (diesS s) (unhide XD4) (by omega) t j (by rw [diesS_now, (unhide HS).same]; exact hj) (by rw [diesS_pend]; exact hp)).mono ?_
        rintro ev x5 ⟨rfl, v5, hD5, hO5, hF5⟩
        have hs5 := hO5.size
        have XD5 := hide hD5
        have XO5 := hide hO5
        have XF5 := hide hF5
        clear hD5 hO5 hF5
        refine hK.out _ _ trivial (fun hS => ?_)
        clear hK K
        refine wpAnyH_done (by kernel_rfl) ?_ _
        clear hS
        go_wp2_with fail
        refine (note_any _ base b v5 _ (unhide XD5) (by omega) 0 j (by omega) (by show (diesS s).acts.length ≤ _; rw [diesS_acts]; exact ha)).mono ?_
        rintro ev x6 ⟨rfl, hP6⟩
        have XP6 := hide hP6
        clear hP6
        go_wp2
        go_ret
        refine ⟨rfl, DPost.trans (unhide XO4) (fun _ q => .inl q) (DPost.trans (unhide XO5) (unhide XF5) ?_)⟩
        have := unhide XP6
        simpa [diesS_now, diesS_pend, diesS_acts] using this
    · rw [if_neg ht, if_neg ht]
      have e2 : decide (t.size = 256) = false := by simpa using ht
      clear hi ht
      go_enter Try.func13, Try.ntmps13
      go_wp2_with fail
      refine (has_any w base b v s (unhide H) i).mono ?_
      rintro ev x1 ⟨rfl, rfl⟩
      rw [e]
      clear e
      go_wp2_with fail
      refine (isSector_any t _).mono ?_
      rintro ev x2 ⟨rfl, rfl⟩
      rw [e2]
      clear e2
      go_wp2
      go_ret
      exact ⟨rfl, DPost.refl (unhide H)⟩
  · have e : decide (0 ≤ i ∧ i < (s.last.length : Int)) = false := by simpa [isOk] using hi
    rw [writeE, writeS, if_neg hi, if_neg hi]
    clear hi
    go_enter Try.func13, Try.ntmps13
    go_wp2_with fail
    refine (has_any w base b v s (unhide H) i).mono ?_
    rintro ev x1 ⟨rfl, rfl⟩
    rw [e]
    clear e
    go_wp2
    go_ret
    exact ⟨rfl, DPost.refl (unhide H)⟩
end Go.Proofs.Ytaedoagcbkgmbaa
