import Derived.Test.YtnkaooafenakdaaGreatDoorMr03
import Derived.Test.YtnkaooafenakdaaGreatDoorMr04
namespace Go.Proofs.YtnkaooafenakdaaGreatDoor
open Go.RowKit
set_option maxRecDepth 100000 in
set_option maxHeartbeats 1000000 in
theorem sclone_any (t : ByteArray) (w : World) (ht : t.size ≤ 281474976710656) :
    Calls Tryz.prog 45 #[.string t] w fun e w' => e = .returned (.string t) ∧ Below w.heap.size w w' := by
  go_enter Tryz.func45, Tryz.ntmps45
  go_wp2_with fail
  refine (Tryz.stringslite_Clone t w ht).mono ?_
  rintro ev x1 ⟨rfl, hb⟩
  have HB := hide hb
  clear hb
  go_wp2
  go_ret
  exact ⟨rfl, unhide HB⟩
set_option maxRecDepth 100000 in
set_option maxHeartbeats 1000000 in
theorem own_any (t : ByteArray) (w : World) (ht : t.size ≤ 281474976710656) :
    Calls Tryz.prog 61 #[.string t] w fun e w' => e = .returned (.string t) ∧ Below w.heap.size w w' := by
  go_enter Tryz.func61, Tryz.ntmps61
  go_wp2_with fail
  refine (sclone_any t w ht).mono ?_
  rintro ev x1 ⟨rfl, hb⟩
  have HB := hide hb
  clear hb
  go_wp2
  go_ret
  exact ⟨rfl, unhide HB⟩
def isOk (s : DSt) (i : Int) : Prop := 0 ≤ i ∧ i < (s.last.length : Int)
instance (s : DSt) (i : Int) : Decidable (isOk s i) := by unfold isOk; infer_instance
def readE (s : DSt) (i : Int) : Int := if isOk s i then (if s.dead then 2 else 0) else 41
def readT (s : DSt) (i : Int) : ByteArray := if isOk s i then (if s.dead then ⟨#[]⟩ else s.now.getD i.toNat ByteArray.empty) else ⟨#[]⟩
set_option maxRecDepth 100000 in
set_option maxHeartbeats 1000000 in
theorem read_any (w : World) (base b : Nat) (v : DV) (s : DSt) (h : Dk w base b v s) (hln : s.now.length = s.last.length) (i : Int) :
    Calls Tryz.prog 71 #[.pointer (some ⟨b, 0, none⟩), .int .i64 i] w fun e w' => e = .returned (.tuple #[.string (readT s i), .int .i64 (readE s i)]) ∧ w' = w := by
  have c5 : w.cell? ⟨b, 5, none⟩ = some (.bool s.dead) := by rw [h.blk.cell 5]; rfl
  have H := hide h
  by_cases hi : isOk s i
  · rw [readT, readE, if_pos hi, if_pos hi]
    by_cases hd : s.dead = true
    · rw [if_pos hd, if_pos hd]
      rw [hd] at c5
      have e : decide (0 ≤ i ∧ i < (s.last.length : Int)) = true := by simpa [isOk] using hi
      clear h hd hi
      go_enter Tryz.func71, Tryz.ntmps71
      go_wp2_with fail
      refine (has_any w base b v s (unhide H) i).mono ?_
      rintro ev x1 ⟨rfl, rfl⟩
      rw [e]
      clear e
      go_wp2
      go_ret2
      exact ⟨rfl, rfl⟩
    · rw [if_neg hd, if_neg hd]
      rw [Bool.not_eq_true] at hd
      rw [hd] at c5
      have e : decide (0 ≤ i ∧ i < (s.last.length : Int)) = true := by simpa [isOk] using hi
      obtain ⟨j, rfl⟩ := Int.eq_ofNat_of_zero_le hi.1
      have hj : j < s.now.length := by have := hi.2; omega
      obtain ⟨gn, capn, evn, _⟩ := h.rn.form (by omega)
      have hgn : v.n.ownBlock = some gn := by rw [evn]; rfl
      have c1 : w.cell? ⟨b, 1, none⟩ = some (.slice (some ⟨gn, 0, none⟩) s.now.length capn) := by rw [h.blk.cell 1, ← evn]; rfl
      have cj : w.cell? ⟨gn, j, none⟩ = some (.string (s.now.getD j ByteArray.empty)) := by rw [(own_at h.rn hgn j hj).1]; exact strs_at _ _ hj
      rw [Int.toNat_natCast]
      generalize s.now.getD j ByteArray.empty = T at *
      generalize s.now.length = n at *
      clear h hd hi hln hgn evn
      go_enter Tryz.func71, Tryz.ntmps71
      go_wp2_with fail
      refine (has_any w base b v s (unhide H) (j : Int)).mono ?_
      rintro ev x1 ⟨rfl, rfl⟩
      rw [e]
      clear e
      go_wp2
      go_ret2
      exact ⟨rfl, rfl⟩
  · rw [readT, readE, if_neg hi, if_neg hi]
    have e : decide (0 ≤ i ∧ i < (s.last.length : Int)) = false := by simpa [isOk] using hi
    clear h hi
    go_enter Tryz.func71, Tryz.ntmps71
    go_wp2_with fail
    refine (has_any w base b v s (unhide H) i).mono ?_
    rintro ev x1 ⟨rfl, rfl⟩
    rw [e]
    clear e
    go_wp2
    go_ret2
    exact ⟨rfl, rfl⟩
/-- What holds of every disk. -/
structure Sane (s : DSt) : Prop where
  pos : 0 < s.last.length
  cap : s.last.length ≤ 1024
  same : s.now.length = s.last.length
  pend : pendOk s
  fuse : 0 ≤ s.fuse ∧ s.fuse ≤ 9223372036854775807
  acts : ∀ p ∈ s.acts, p.2 < 1024
def writeE (s : DSt) (i : Int) (t : ByteArray) : Int := if isOk s i then (if t.size = 256 then (if (diesS s).dead then 2 else 0) else 42) else 41
def writeS (s : DSt) (i : Int) (t : ByteArray) : DSt := if isOk s i then (if t.size = 256 then (if (diesS s).dead then diesS s else { diesS s with now := s.now.set i.toNat t, pend := s.pend ++ [(i.toNat, t)], acts := s.acts ++ [(0, i.toNat)] }) else s) else s
theorem diesS_last (s : DSt) : (diesS s).last = s.last := by unfold diesS; split <;> rfl
theorem diesS_now (s : DSt) : (diesS s).now = s.now := by unfold diesS; split <;> rfl
theorem diesS_pend (s : DSt) : (diesS s).pend = s.pend := by unfold diesS; split <;> rfl
theorem diesS_acts (s : DSt) : (diesS s).acts = s.acts := by unfold diesS; split <;> rfl
theorem diesS_fuse (s : DSt) (h : 0 ≤ s.fuse ∧ s.fuse ≤ 9223372036854775807) : 0 ≤ (diesS s).fuse ∧ (diesS s).fuse ≤ 9223372036854775807 := by
  unfold diesS
  split
  · show 0 ≤ s.fuse - 1 ∧ s.fuse - 1 ≤ _
    omega
  · exact h
theorem Sane.dies {s : DSt} (h : Sane s) : Sane (diesS s) :=
  ⟨by rw [diesS_last]; exact h.pos, by rw [diesS_last]; exact h.cap, by rw [diesS_last, diesS_now]; exact h.same, by intro p hp; rw [diesS_pend] at hp; rw [diesS_last]; exact h.pend p hp, diesS_fuse s h.fuse, by rw [diesS_acts]; exact h.acts⟩
set_option maxRecDepth 100000 in
set_option maxHeartbeats 2000000 in
theorem write_any (w : World) (base b : Nat) (v : DV) (s : DSt) (h : Dk w base b v s) (hb : base ≤ w.heap.size) (hS : Sane s) (hp : s.pend.length ≤ 1000000000) (ha : s.acts.length ≤ 1000000000) (i : Int) (t : ByteArray) :
    Calls Tryz.prog 39 #[.pointer (some ⟨b, 0, none⟩), .int .i64 i, .string t] w fun e w' => e = .returned (.int .i64 (writeE s i t)) ∧ DPost base b v (writeS s i t) w w' := by
  have H := hide h
  have HS := hide hS
  clear h hS
  by_cases hi : isOk s i
  · have e : decide (0 ≤ i ∧ i < (s.last.length : Int)) = true := by simpa [isOk] using hi
    rw [writeE, writeS, if_pos hi, if_pos hi]
    by_cases ht : t.size = 256
    · rw [if_pos ht, if_pos ht]
      have e2 : decide (t.size = 256) = true := by simpa using ht
      by_cases hd : (diesS s).dead = true
      · rw [if_pos hd, if_pos hd]
        have HI := hide hi
        have HD := hide hd
        clear hi ht hd
        go_enter Tryz.func39, Tryz.ntmps39
        go_wp2_with fail
        refine (has_any w base b v s (unhide H) i).mono ?_
        rintro ev x1 ⟨rfl, rfl⟩
        rw [e]
        clear e
        go_wp2_with fail
        refine (isSector_any t _).mono ?_
        rintro ev x2 ⟨rfl, rfl⟩
        rw [e2]
        clear e2
        go_wp2_with fail
        refine (dies_any _ base b v s (unhide H) ⟨by have := (unhide HS).fuse.1; omega, (unhide HS).fuse.2⟩).mono ?_
        rintro ev x3 ⟨rfl, hD3, hO3⟩
        rw [unhide HD]
        have XD := hide hD3
        have XO := hide hO3
        clear hD3 hO3
        go_wp2
        go_ret
        exact ⟨rfl, v, unhide XD, unhide XO, fun _ q => .inl q⟩
      · rw [if_neg hd, if_neg hd]
        rw [Bool.not_eq_true] at hd
        obtain ⟨j, rfl⟩ := Int.eq_ofNat_of_zero_le hi.1
        have hj : j < s.last.length := by have := hi.2; omega
        rw [Int.toNat_natCast]
        have HI := hide hi
        have HD := hide hd
        have HT := hide ht
        have hj2 : j < 1024 := by have := (unhide HS).cap; omega
        clear hi hd ht
        go_enter Tryz.func39, Tryz.ntmps39
        go_wp2_with fail
        refine (has_any w base b v s (unhide H) (j : Int)).mono ?_
        rintro ev x1 ⟨rfl, rfl⟩
        rw [e]
        clear e
        go_wp2_with fail
        refine (isSector_any t _).mono ?_
        rintro ev x2 ⟨rfl, rfl⟩
        rw [e2]
        clear e2
        go_wp2_with fail
        refine (dies_any _ base b v s (unhide H) ⟨by have := (unhide HS).fuse.1; omega, (unhide HS).fuse.2⟩).mono ?_
        rintro ev x3 ⟨rfl, hD3, hO3⟩
        rw [unhide HD]
        have hs3 := hO3.size
        have XD := hide hD3
        have XO := hide hO3
        clear hD3 hO3
        go_wp2_with fail
        refine wp_region_held_drew (S := fun _ => True) (by kernel_rfl) trivial ?_
        intro hS
        refine wpAnyH_takeD 0 (some 18) (.pointer (some ⟨b, 0, none⟩)) rfl rfl (by kernel_rfl) (by kernel_rfl) (by kernel_rfl) (fun _ _ _ h => h) (Or.inl ⟨by rfl, fun w hSw => by go_simp⟩) hS ?_
        simp only [Act.put, List.setIfInBounds_toArray, List.set_cons_zero, List.set_cons_succ]
        refine wpAnyH_takeD 1 (some 19) (.pointer (some ⟨b, 0, none⟩)) rfl rfl (by kernel_rfl) (by kernel_rfl) (by kernel_rfl) (fun _ _ _ h => h) (Or.inl ⟨by rfl, fun w hSw => by go_simp⟩) hS ?_
        simp only [Act.put, List.setIfInBounds_toArray, List.set_cons_zero, List.set_cons_succ]
        refine wpAnyH_takeD 2 (some 20) (.pointer (some ⟨b, 0, none⟩)) rfl rfl (by kernel_rfl) (by kernel_rfl) (by kernel_rfl) (fun _ _ _ h => h) (Or.inl ⟨by rfl, fun w hSw => by go_simp⟩) hS ?_
        simp only [Act.put, List.setIfInBounds_toArray, List.set_cons_zero, List.set_cons_succ]
        refine wpAnyH_takeD 3 (some 21) (.int .i64 (j : Int)) rfl rfl (by kernel_rfl) (by kernel_rfl) (by kernel_rfl) (fun _ _ _ h => h) (Or.inl ⟨by rfl, fun w hSw => by go_simp⟩) hS ?_
        simp only [Act.put, List.setIfInBounds_toArray, List.set_cons_zero, List.set_cons_succ]
        refine wpAnyH_takeD 4 (some 22) (.string t) rfl rfl (by kernel_rfl) (by kernel_rfl) (by kernel_rfl) (fun _ _ _ h => h) (Or.inl ⟨by rfl, fun w hSw => by go_simp⟩) hS ?_
        simp only [Act.put, List.setIfInBounds_toArray, List.set_cons_zero, List.set_cons_succ]
        refine wpAnyH_ready (rs := [5]) (by kernel_rfl) (by simp) ?_
        refine AllReadyH.cons rfl (fun K hK => ?_) AllReadyH.nil
        simp only [List.getElem_toArray, List.getElem_cons_succ, List.getElem_cons_zero]
        go_simp
        refine (own_any t _ (by rw [unhide HT]; decide)).mono ?_
        rintro ev x4 ⟨rfl, hB4⟩
        have XD4 := hide ((unhide XD).drew.below hB4)
        have XO4 := hide (show Only (Fd b v) _ x4 from (unhide XO).drew.trans (Q := fun _ => False) (Only.of_below hB4) (fun _ _ q => q.elim))
        have hs4 : x3.heap.size ≤ x4.heap.size := hB4.size
        clear hB4 XD XO
        refine hK.out _ _ trivial (fun hS => ?_)
        clear hK K
        refine wpAnyH_ready (rs := [6]) (by kernel_rfl) (by simp) ?_
        refine AllReadyH.cons rfl (fun K hK => ?_) AllReadyH.nil
        simp only [List.getElem_toArray, List.getElem_cons_succ, List.getElem_cons_zero]
        go_simp
        refine (put_any _ base b v (diesS s) (unhide XD4) (by omega) t j (by rw [diesS_now, (unhide HS).same]; exact hj) (by rw [diesS_pend]; exact hp)).mono ?_
        rintro ev x5 ⟨rfl, v5, hD5, hO5, hF5⟩
        have hs5 := hO5.size
        have XD5 := hide hD5
        have XO5 := hide hO5
        have XF5 := hide hF5
        clear hD5 hO5 hF5
        refine hK.out _ _ trivial (fun hS => ?_)
        clear hK K
        refine wpAnyH_done (by kernel_rfl) ?_ _
        clear hS
        go_wp2_with fail
        refine (note_any _ base b v5 _ (unhide XD5) (by omega) 0 j (by omega) (by show (diesS s).acts.length ≤ _; rw [diesS_acts]; exact ha)).mono ?_
        rintro ev x6 ⟨rfl, hP6⟩
        have XP6 := hide hP6
        clear hP6
        go_wp2
        go_ret
        refine ⟨rfl, DPost.trans (unhide XO4) (fun _ q => .inl q) (DPost.trans (unhide XO5) (unhide XF5) ?_)⟩
        have := unhide XP6
        simpa [diesS_now, diesS_pend, diesS_acts] using this
    · rw [if_neg ht, if_neg ht]
      have e2 : decide (t.size = 256) = false := by simpa using ht
      clear hi ht
      go_enter Tryz.func39, Tryz.ntmps39
      go_wp2_with fail
      refine (has_any w base b v s (unhide H) i).mono ?_
      rintro ev x1 ⟨rfl, rfl⟩
      rw [e]
      clear e
      go_wp2_with fail
      refine (isSector_any t _).mono ?_
      rintro ev x2 ⟨rfl, rfl⟩
      rw [e2]
      clear e2
      go_wp2
      go_ret
      exact ⟨rfl, DPost.refl (unhide H)⟩
  · have e : decide (0 ≤ i ∧ i < (s.last.length : Int)) = false := by simpa [isOk] using hi
    rw [writeE, writeS, if_neg hi, if_neg hi]
    clear hi
    go_enter Tryz.func39, Tryz.ntmps39
    go_wp2_with fail
    refine (has_any w base b v s (unhide H) i).mono ?_
    rintro ev x1 ⟨rfl, rfl⟩
    rw [e]
    clear e
    go_wp2
    go_ret
    exact ⟨rfl, DPost.refl (unhide H)⟩
end Go.Proofs.YtnkaooafenakdaaGreatDoor

namespace Go.Proofs.YtnkaooafenakdaaGreatDoor
open Go.RowKit
def flushE (s : DSt) : Int := if (diesS s).dead then 2 else 0
def flushS (s : DSt) : DSt := if (diesS s).dead then diesS s else { diesS s with last := layP s.last s.pend, pend := [], acts := s.acts ++ [(1, 0)] }
set_option maxRecDepth 100000 in
set_option maxHeartbeats 2000000 in
theorem flush_any (w : World) (base b : Nat) (v : DV) (s : DSt) (h : Dk w base b v s) (hb : base ≤ w.heap.size) (hS : Sane s) (hp : s.pend.length ≤ 1000000000) (ha : s.acts.length ≤ 1000000000) :
    Calls Tryz.prog 106 #[.pointer (some ⟨b, 0, none⟩)] w fun e w' => e = .returned (.int .i64 (flushE s)) ∧ DPost base b v (flushS s) w w' := by
  have H := hide h
  have HS := hide hS
  clear h hS
  by_cases hd : (diesS s).dead = true
  · rw [flushE, flushS, if_pos hd, if_pos hd]
    have HD := hide hd
    clear hd
    go_enter Tryz.func106, Tryz.ntmps106
    go_wp2_with fail
    refine (dies_any _ base b v s (unhide H) ⟨by have := (unhide HS).fuse.1; omega, (unhide HS).fuse.2⟩).mono ?_
    rintro ev x3 ⟨rfl, hD3, hO3⟩
    rw [unhide HD]
    have XD := hide hD3
    have XO := hide hO3
    clear hD3 hO3
    go_wp2
    go_ret
    exact ⟨rfl, v, unhide XD, unhide XO, fun _ q => .inl q⟩
  · rw [flushE, flushS, if_neg hd, if_neg hd]
    rw [Bool.not_eq_true] at hd
    have HD := hide hd
    clear hd
    go_enter Tryz.func106, Tryz.ntmps106
    go_wp2_with fail
    refine (dies_any _ base b v s (unhide H) ⟨by have := (unhide HS).fuse.1; omega, (unhide HS).fuse.2⟩).mono ?_
    rintro ev x3 ⟨rfl, hD3, hO3⟩
    rw [unhide HD]
    have hs3 := hO3.size
    have XD := hide hD3
    have XO := hide hO3
    clear hD3 hO3
    go_wp2_with fail
    refine (settle_any _ base b v _ (unhide XD) (unhide HS).dies.pend (by rw [diesS_pend]; exact hp) (unhide HS).dies.pos).mono ?_
    rintro ev x4 ⟨rfl, v4, hD4, hO4, hF4⟩
    have hs4 := hO4.size
    have XD4 := hide hD4
    have XO4 := hide hO4
    have XF4 := hide hF4
    clear hD4 hO4 hF4
    go_wp2_with fail
    refine (note_any _ base b v4 _ (unhide XD4) (by omega) 1 0 (by omega) (by show (diesS s).acts.length ≤ _; rw [diesS_acts]; exact ha)).mono ?_
    rintro ev x6 ⟨rfl, hP6⟩
    have XP6 := hide hP6
    clear hP6
    go_wp2
    go_ret
    refine ⟨rfl, DPost.trans (unhide XO) (fun _ q => .inl q) (DPost.trans (unhide XO4) (unhide XF4) ?_)⟩
    have := unhide XP6
    simpa [diesS_last, diesS_now, diesS_pend, diesS_acts] using this
/-- Which of m writes are named by the numbers l. -/
def keptL (m : Nat) (l : List Int) : List Bool := (List.range m).map (fun i : Nat => decide ((i : Int) ∈ l))
def pickOk (m : Nat) (z : Int) : Prop := 0 ≤ z ∧ z < (m : Int)
instance (m : Nat) (z : Int) : Decidable (pickOk m z) := by unfold pickOk; infer_instance
def crashE (s : DSt) (l : List Int) : Int := if ∀ z ∈ l, pickOk s.pend.length z then 0 else 43
def crashS (s : DSt) (l : List Int) : DSt := if ∀ z ∈ l, pickOk s.pend.length z then { s with last := layP s.last (keepP s.pend (keptL s.pend.length l)), now := layP s.last (keepP s.pend (keptL s.pend.length l)), pend := [], fuse := 0, dead := false } else s
/-- A slice of ints that was handed in. -/
def Ints (w : World) (p : Option Addr) (l : List Int) : Prop := ∀ j, j < l.length → ∃ g o, p = some ⟨g, o, none⟩ ∧ g < w.heap.size ∧ w.cell? ⟨g, o + j, none⟩ = some (.int .i64 (l.getD j 0))
theorem infoB : (Tryz.prog.info? 4).map (fun i => (i.zero, i.size, i.bytes)) = some (some (.bool false), 1, 1) := by kernel_rfl
theorem keptL_len (m : Nat) (l : List Int) : (keptL m l).length = m := by simp [keptL]
theorem keptL_nil (m : Nat) : keptL m [] = List.replicate m false := by
  apply List.ext_getElem
  · simp [keptL]
  · intro j h1 h2
    simp [keptL]
theorem keptL_snoc (m : Nat) (l : List Int) (z : Nat) : keptL m (l ++ [(z : Int)]) = (keptL m l).set z true := by
  apply List.ext_getElem
  · simp [keptL]
  · intro j h1 h2
    simp only [keptL, List.getElem_map, List.getElem_range, List.getElem_set]
    by_cases hj : z = j
    · subst hj; simp
    · have : ¬ (j : Int) = (z : Int) := by omega
      simp [hj, this]
def bools (l : List Bool) : Array Value := (l.map Value.bool).toArray
set_option maxRecDepth 100000 in
theorem run_make_b (l : Nat) (hc : l ≤ 281474976710656) (w : World) : (Instr.makeSlice 113 (.int .i64 (l : Int)) (.int .i64 (l : Int))).run Tryz.prog w = .ok (.slice (some ⟨w.heap.size, 0, none⟩) l l) (w.alloc (.cells (bools (List.replicate l false)) 4)) := by
  obtain ⟨i0, hi, hz0, hz1, hz2⟩ := info_parts infoB
  have := run_make (P := Tryz.prog) w 113 4 i0 (.bool false) Tryz.underlying113 hi hz0 .i64 .i64 (l : Int) (l : Int) (by omega) (by omega) (by rw [hz2]; omega) (by omega)
  rw [this, hz1]
  simp only [Int.toNat_natCast, Nat.mul_one]
  congr 3
  apply Array.ext
  · simp [size_madeCells, bools]
  · intro j h1 h2
    simp [madeCells, Value.cells, Nat.mod_one, bools]
theorem bools_set (l : List Bool) (j : Nat) (x : Bool) : (bools l).setIfInBounds j (.bool x) = bools (l.set j x) := by
  simp [bools, List.map_set]
theorem bools_at (l : List Bool) (j : Nat) (hj : j < l.length) : (bools l)[j]? = some (.bool (l.getD j false)) := by
  simp [bools, hj]
def KInv (w : World) (m : Nat) (l : List Int) (wr : World) : Prop := Blk wr w.heap.size (bools (keptL m l)) 4 ∧ Below w.heap.size w wr ∧ ∀ z ∈ l, pickOk m z
theorem KInv.step {w wr : World} {m : Nat} {l : List Int} (h : KInv w m l wr) (z : Nat) (hz : z < m) : KInv w m (l ++ [(z : Int)]) (wr.setCell ⟨w.heap.size, z, none⟩ (.bool true)) := by
  refine ⟨?_, h.2.1.setCell (Nat.le_refl _) _, fun y hy => ?_⟩
  · rw [keptL_snoc, ← bools_set]; exact h.1.set z _
  · rcases List.mem_append.1 hy with hy | hy
    · exact h.2.2 y hy
    · simp at hy; subst hy; exact ⟨by omega, by omega⟩
set_option maxRecDepth 100000 in
set_option maxHeartbeats 2000000 in
theorem crash_any (w : World) (base b : Nat) (v : DV) (s : DSt) (h : Dk w base b v s) (hb : base ≤ w.heap.size) (hS : Sane s) (hp : s.pend.length ≤ 1000000000) (p : Option Addr) (l : List Int) (c : Nat) (hl : Ints w p l) (hll : l.length ≤ 9223372036854775807) :
    Calls Tryz.prog 26 #[.pointer (some ⟨b, 0, none⟩), .slice p l.length c] w fun e w' => e = .returned (.int .i64 (crashE s l)) ∧ DPost base b v (crashS s l) w w' := by
  have H := hide h
  have HS := hide hS
  have HL := hide hl
  clear h hS hl
  go_enter Tryz.func26, Tryz.ntmps26
  go_wp2_with fail
  refine (pending_any _ base b v s (unhide H)).mono ?_
  rintro ev x1 ⟨rfl, rfl⟩
  have hmk := run_make_b s.pend.length (by omega) x1
  have X0 := hide (show KInv x1 s.pend.length [] (x1.alloc (.cells (bools (List.replicate s.pend.length false)) 4)) from ⟨by rw [keptL_nil]; exact Blk.new _ _ _, (Below.refl _ _).alloc (Nat.le_refl _) _, fun z hz => by simp at hz⟩)
  generalize hx2 : x1.alloc (.cells (bools (List.replicate s.pend.length false)) 4) = x2 at *
  clear hx2
  go_wp2
  clear hmk
  go_loopw [15] (fun i wr => ∃ k : Nat, k ≤ l.length ∧ i = .int .i64 (k : Int) ∧ KInv x1 s.pend.length (l.take k) wr) (fun i _ => l.length - (intOf i).toNat)
  case atStart => exact ⟨0, by omega, rfl, unhide X0⟩
  case round =>
    obtain ⟨k, hk, rfl, hI⟩ := hrel
    obtain ⟨wo, rfl⟩ : ∃ wo, wo = wr := ⟨_, rfl⟩
    have XI := hide hI
    clear hI X0
    by_cases hkl : k < l.length
    · obtain ⟨g, o, rfl, hg, hc⟩ := unhide HL k hkl
      have ck : wo.cell? ⟨g, o + k, none⟩ = some (.int .i64 (l.getD k 0)) := by rw [(unhide XI).2.1.cell (p := ⟨g, o + k, none⟩) hg]; exact hc
      have HT := hide (show l.take (k + 1) = l.take k ++ [l.getD k 0] by
        rw [List.take_succ_eq_append_getElem hkl]
        simp [List.getD_eq_getElem?_getD, hkl])
      have HM := hide (show l.getD k 0 ∈ l by
        simp [List.getD_eq_getElem?_getD, hkl])
      generalize l.getD k 0 = z at *
      clear hc
      by_cases hz : pickOk s.pend.length z
      · obtain ⟨y, rfl⟩ := Int.eq_ofNat_of_zero_le hz.1
        have hy : y < s.pend.length := by have := hz.2; omega
        have cy : wo.cell? ⟨x1.heap.size, y, none⟩ = some (.bool ((keptL s.pend.length (l.take k)).getD y false)) := by rw [(unhide XI).1.cell y]; exact bools_at _ _ (by rw [keptL_len]; exact hy)
        have fy := (unhide XI).1.frozen y
        generalize (keptL s.pend.length (l.take k)).getD y false = ob at *
        clear hz
        go_wp2
        go_roundw
        case rel =>
          refine ⟨k + 1, by omega, by go_num, ?_⟩
          rw [unhide HT]
          exact (unhide XI).step y hy
        case measure => simp [intOf]; omega
      · have hE : ¬ ∀ z ∈ l, pickOk s.pend.length z := fun h => hz (h z (unhide HM))
        have HBE := hide (unhide XI).2.1
        have HEE := hide hE
        clear hE HS HL
        by_cases hz0 : z < 0
        · clear hz
          go_wp2
          go_ret
          exact ⟨by rw [crashE, if_neg (unhide HEE)]; rfl, by rw [crashS, if_neg (unhide HEE)]; exact ⟨v, (unhide H).below (unhide HBE), Only.of_below (unhide HBE), fun _ q => .inl q⟩⟩
        · have hz1 : (s.pend.length : Int) ≤ z := by
            have : ¬ (0 ≤ z ∧ z < (s.pend.length : Int)) := hz
            omega
          clear hz
          go_wp2
          go_ret
          exact ⟨by rw [crashE, if_neg (unhide HEE)]; rfl, by rw [crashS, if_neg (unhide HEE)]; exact ⟨v, (unhide H).below (unhide HBE), Only.of_below (unhide HBE), fun _ q => .inl q⟩⟩
    · have hk' : k = l.length := by omega
      subst hk'
      rw [List.take_length] at XI
      have hE : ∀ z ∈ l, pickOk s.pend.length z := (unhide XI).2.2
      have XD := hide ((unhide H).below (unhide XI).2.1)
      have hsz := (unhide XI).2.1.size
      have hgk : x1.heap.size < wo.heap.size := (unhide XI).1.lt
      have HBo := hide (show Bools wo x1.heap.size (keptL s.pend.length l) from fun j hj => by rw [(unhide XI).1.cell j]; exact bools_at _ _ hj)
      have XO := hide (show Only (Fd b v) x1 wo from Only.of_below (unhide XI).2.1)
      have HE := hide hE
      clear hE XI HL hkl hk
      go_wp2_with fail
      refine (lose_any _ base b v s (unhide XD) (by omega) (unhide HS).pend hp (unhide HS).pos (unhide HS).same x1.heap.size hgk (keptL s.pend.length l) (keptL_len _ _) (unhide HBo) s.pend.length).mono ?_
      rintro ev x3 ⟨rfl, v3, hD3, hO3, hF3⟩
      have f4 := hD3.blk.frozen 4
      have f5 := hD3.blk.frozen 5
      have c4 : x3.cell? ⟨b, 4, none⟩ = some (.int .i64 s.fuse) := by rw [hD3.blk.cell 4]; rfl
      have c5 : x3.cell? ⟨b, 5, none⟩ = some (.bool s.dead) := by rw [hD3.blk.cell 5]; rfl
      have XD3 := hide hD3
      have XO3 := hide hO3
      have XF3 := hide hF3
      clear hD3 hO3 hF3 HBo
      go_wp2
      go_ret
      refine ⟨by rw [crashE, if_pos (unhide HE)]; rfl, DPost.trans (unhide XO) (fun _ q => .inl q) ?_⟩
      rw [crashS, if_pos (unhide HE)]
      refine DPost.trans (unhide XO3) (unhide XF3) ⟨v3, ((unhide XD3).setFuse 0).setDead false, only_b (only_b (Only.refl _ _) _ _) _ _, fun _ q => .inl q⟩
end Go.Proofs.YtnkaooafenakdaaGreatDoor
