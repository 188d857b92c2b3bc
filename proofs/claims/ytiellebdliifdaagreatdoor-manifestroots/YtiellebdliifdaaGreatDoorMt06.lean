import Derived.Test.YtiellebdliifdaaGreatDoorMt05
import Derived.Test.YtiellebdliifdaaGreatDoorMt00
namespace Go.Proofs.YtiellebdliifdaaGreatDoor
open Go.RowKit
set_option maxRecDepth 100000 in
set_option maxHeartbeats 1000000 in
theorem sclone_any (t : ByteArray) (w : World) (ht : t.size ≤ 281474976710656) :
  Calls Tryz.prog 115 #[.string t] w fun e w' => e = .returned (.string t) ∧ Below w.heap.size w w' := by
 go_enter Tryz.func115, Tryz.ntmps115
 go_wp2_with fail
 refine (Tryz.stringslite_Clone t w ht).mono ?_
 rintro ev x1 ⟨rfl, hb⟩
 have HB := hide hb
 clear hb
 go_wp2
 go_ret
 exact ⟨rfl, unhide HB⟩
set_option maxRecDepth 100000 in
set_option maxHeartbeats 1000000 in
theorem own_any (t : ByteArray) (w : World) (ht : t.size ≤ 281474976710656) :
  Calls Tryz.prog 70 #[.string t] w fun e w' => e = .returned (.string t) ∧ Below w.heap.size w w' := by
 go_enter Tryz.func70, Tryz.ntmps70
 go_wp2_with fail
 refine (sclone_any t w ht).mono ?_
 rintro ev x1 ⟨rfl, hb⟩
 have HB := hide hb
 clear hb
 go_wp2
 go_ret
 exact ⟨rfl, unhide HB⟩
def isOk (s : DSt) (i : Int) : Prop := 0 ≤ i ∧ i < (s.last.length : Int)
instance (s : DSt) (i : Int) : Decidable (isOk s i) := by unfold isOk; infer_instance
def readE (s : DSt) (i : Int) : Int := if isOk s i then (if s.dead then 2 else 0) else 41
def readT (s : DSt) (i : Int) : ByteArray := if isOk s i then (if s.dead then ⟨#[]⟩ else s.now.getD i.toNat ByteArray.empty) else ⟨#[]⟩
set_option maxRecDepth 100000 in
set_option maxHeartbeats 1000000 in
theorem read_any (w : World) (base b : Nat) (v : DV) (s : DSt) (h : Dk w base b v s) (hln : s.now.length = s.last.length) (i : Int) :
  Calls Tryz.prog 163 #[.pointer (some ⟨b, 0, none⟩), .int .i64 i] w fun e w' => e = .returned (.tuple #[.string (readT s i), .int .i64 (readE s i)]) ∧ w' = w := by
 have c5 : w.cell? ⟨b, 5, none⟩ = some (.bool s.dead) := by rw [h.blk.cell 5]; rfl
 have H := hide h
 by_cases hi : isOk s i
 ·rw [readT, readE, if_pos hi, if_pos hi]
  by_cases hd : s.dead = true
  ·rw [if_pos hd, if_pos hd]
   rw [hd] at c5
   have e : decide (0 ≤ i ∧ i < (s.last.length : Int)) = true := by simpa [isOk] using hi
   clear h hd hi
   go_enter Tryz.func163, Tryz.ntmps163
   go_wp2_with fail
   refine (has_any w base b v s (unhide H) i).mono ?_
   rintro ev x1 ⟨rfl, rfl⟩
   rw [e]
   clear e
   go_wp2
   go_ret2
   exact ⟨rfl, rfl⟩
  ·rw [if_neg hd, if_neg hd]
   rw [Bool.not_eq_true] at hd
   rw [hd] at c5
   have e : decide (0 ≤ i ∧ i < (s.last.length : Int)) = true := by simpa [isOk] using hi
   obtain ⟨j, rfl⟩ := Int.eq_ofNat_of_zero_le hi.1
   have hj : j < s.now.length := by have := hi.2; omega
   obtain ⟨gn, capn, evn, _⟩ := h.rn.form (by omega)
   have hgn : v.n.ownBlock = some gn := by rw [evn]; rfl
   have c1 : w.cell? ⟨b, 1, none⟩ = some (.slice (some ⟨gn, 0, none⟩) s.now.length capn) := by rw [h.blk.cell 1, ← evn]; rfl
   have cj : w.cell? ⟨gn, j, none⟩ = some (.string (s.now.getD j ByteArray.empty)) := by rw [(own_at h.rn hgn j hj).1]; exact strs_at _ _ hj
   rw [Int.toNat_natCast]
   generalize s.now.getD j ByteArray.empty = T at *
   generalize s.now.length = n at *
   clear h hd hi hln hgn evn
   go_enter Tryz.func163, Tryz.ntmps163
   go_wp2_with fail
   refine (has_any w base b v s (unhide H) (j : Int)).mono ?_
   rintro ev x1 ⟨rfl, rfl⟩
   rw [e]
   clear e
   go_wp2
   go_ret2
   exact ⟨rfl, rfl⟩
 ·rw [readT, readE, if_neg hi, if_neg hi]
  have e : decide (0 ≤ i ∧ i < (s.last.length : Int)) = false := by simpa [isOk] using hi
  clear h hi
  go_enter Tryz.func163, Tryz.ntmps163
  go_wp2_with fail
  refine (has_any w base b v s (unhide H) i).mono ?_
  rintro ev x1 ⟨rfl, rfl⟩
  rw [e]
  clear e
  go_wp2
  go_ret2
  exact ⟨rfl, rfl⟩
structure Sane (s : DSt) : Prop where
 pos : 0 < s.last.length
 cap : s.last.length ≤ 1024
 same : s.now.length = s.last.length
 pend : pendOk s
 fuse : 0 ≤ s.fuse ∧ s.fuse ≤ 9223372036854775807
 acts : ∀ p ∈ s.acts, p.2 < 1024
def writeE (s : DSt) (i : Int) (t : ByteArray) : Int := if isOk s i then (if t.size = 256 then (if (diesS s).dead then 2 else 0) else 42) else 41
def writeS (s : DSt) (i : Int) (t : ByteArray) : DSt := if isOk s i then (if t.size = 256 then (if (diesS s).dead then diesS s else { diesS s with now := s.now.set i.toNat t, pend := s.pend ++ [(i.toNat, t)], acts := s.acts ++ [(0, i.toNat)] }) else s) else s
theorem diesS_last (s : DSt) : (diesS s).last = s.last := by unfold diesS; split <;> rfl
theorem diesS_now (s : DSt) : (diesS s).now = s.now := by unfold diesS; split <;> rfl
theorem diesS_pend (s : DSt) : (diesS s).pend = s.pend := by unfold diesS; split <;> rfl
theorem diesS_acts (s : DSt) : (diesS s).acts = s.acts := by unfold diesS; split <;> rfl
theorem diesS_fuse (s : DSt) (h : 0 ≤ s.fuse ∧ s.fuse ≤ 9223372036854775807) : 0 ≤ (diesS s).fuse ∧ (diesS s).fuse ≤ 9223372036854775807 := by
 unfold diesS
 split
 ·show 0 ≤ s.fuse - 1 ∧ s.fuse - 1 ≤ _
  omega
 ·exact h
theorem Sane.dies {s : DSt} (h : Sane s) : Sane (diesS s) :=
 ⟨by rw [diesS_last]; exact h.pos, by rw [diesS_last]; exact h.cap, by rw [diesS_last, diesS_now]; exact h.same, by intro p hp; rw [diesS_pend] at hp; rw [diesS_last]; exact h.pend p hp, diesS_fuse s h.fuse, by rw [diesS_acts]; exact h.acts⟩
set_option maxRecDepth 100000 in
set_option maxHeartbeats 2000000 in
theorem write_any (w : World) (base b : Nat) (v : DV) (s : DSt) (h : Dk w base b v s) (hb : base ≤ w.heap.size) (hS : Sane s) (hp : s.pend.length ≤ 1000000000) (ha : s.acts.length ≤ 1000000000) (i : Int) (t : ByteArray) :
  Calls Tryz.prog 22 #[.pointer (some ⟨b, 0, none⟩), .int .i64 i, .string t] w fun e w' => e = .returned (.int .i64 (writeE s i t)) ∧ DPost base b v (writeS s i t) w w' := by
 have H := hide h
 have HS := hide hS
 clear h hS
 by_cases hi : isOk s i
 ·have e : decide (0 ≤ i ∧ i < (s.last.length : Int)) = true := by simpa [isOk] using hi
  rw [writeE, writeS, if_pos hi, if_pos hi]
  by_cases ht : t.size = 256
  ·rw [if_pos ht, if_pos ht]
   have e2 : decide (t.size = 256) = true := by simpa using ht
   by_cases hd : (diesS s).dead = true
   ·rw [if_pos hd, if_pos hd]
    have HI := hide hi
    have HD := hide hd
    clear hi ht hd
    go_enter Tryz.func22, Tryz.ntmps22
    go_wp2_with fail
    refine (has_any w base b v s (unhide H) i).mono ?_
    rintro ev x1 ⟨rfl, rfl⟩
    rw [e]
    clear e
    go_wp2_with fail
    refine (isSector_any t _).mono ?_
    rintro ev x2 ⟨rfl, rfl⟩
    rw [e2]
    clear e2
    go_wp2_with fail
    refine (dies_any _ base b v s (unhide H) ⟨by have := (unhide HS).fuse.1; omega, (unhide HS).fuse.2⟩).mono ?_
    rintro ev x3 ⟨rfl, hD3, hO3⟩
    rw [unhide HD]
    have XD := hide hD3
    have XO := hide hO3
    clear hD3 hO3
    go_wp2
    go_ret
    exact ⟨rfl, v, unhide XD, unhide XO, fun _ q => .inl q⟩
   ·rw [if_neg hd, if_neg hd]
    rw [Bool.not_eq_true] at hd
    obtain ⟨j, rfl⟩ := Int.eq_ofNat_of_zero_le hi.1
    have hj : j < s.last.length := by have := hi.2; omega
    rw [Int.toNat_natCast]
    have HI := hide hi
    have HD := hide hd
    have HT := hide ht
    have hj2 : j < 1024 := by have := (unhide HS).cap; omega
    clear hi hd ht
    go_enter Tryz.func22, Tryz.ntmps22
    go_wp2_with fail
    refine (has_any w base b v s (unhide H) (j : Int)).mono ?_
    rintro ev x1 ⟨rfl, rfl⟩
    rw [e]
    clear e
    go_wp2_with fail
    refine (isSector_any t _).mono ?_
    rintro ev x2 ⟨rfl, rfl⟩
    rw [e2]
    clear e2
    go_wp2_with fail
    refine (dies_any _ base b v s (unhide H) ⟨by have := (unhide HS).fuse.1; omega, (unhide HS).fuse.2⟩).mono ?_
    rintro ev x3 ⟨rfl, hD3, hO3⟩
    rw [unhide HD]
    have hs3 := hO3.size
    have XD := hide hD3
    have XO := hide hO3
    clear hD3 hO3
    go_wp2_with fail
    refine wp_region_held_drew (S := fun _ => True) (by kernel_rfl) trivial ?_
    intro hS
    refine wpAnyH_takeD 0 (some 18) (.pointer (some ⟨b, 0, none⟩)) rfl rfl (by kernel_rfl) (by kernel_rfl) (by kernel_rfl) (fun _ _ _ h => h) (Or.inl ⟨by rfl, fun w hSw => by go_simp⟩) hS ?_
    simp only [Act.put, List.setIfInBounds_toArray, List.set_cons_zero, List.set_cons_succ]
    refine wpAnyH_takeD 1 (some 19) (.pointer (some ⟨b, 0, none⟩)) rfl rfl (by kernel_rfl) (by kernel_rfl) (by kernel_rfl) (fun _ _ _ h => h) (Or.inl ⟨by rfl, fun w hSw => by go_simp⟩) hS ?_
    simp only [Act.put, List.setIfInBounds_toArray, List.set_cons_zero, List.set_cons_succ]
    refine wpAnyH_takeD 2 (some 20) (.pointer (some ⟨b, 0, none⟩)) rfl rfl (by kernel_rfl) (by kernel_rfl) (by kernel_rfl) (fun _ _ _ h => h) (Or.inl ⟨by rfl, fun w hSw => by go_simp⟩) hS ?_
    simp only [Act.put, List.setIfInBounds_toArray, List.set_cons_zero, List.set_cons_succ]
    refine wpAnyH_takeD 3 (some 21) (.int .i64 (j : Int)) rfl rfl (by kernel_rfl) (by kernel_rfl) (by kernel_rfl) (fun _ _ _ h => h) (Or.inl ⟨by rfl, fun w hSw => by go_simp⟩) hS ?_
    simp only [Act.put, List.setIfInBounds_toArray, List.set_cons_zero, List.set_cons_succ]
    refine wpAnyH_takeD 4 (some 22) (.string t) rfl rfl (by kernel_rfl) (by kernel_rfl) (by kernel_rfl) (fun _ _ _ h => h) (Or.inl ⟨by rfl, fun w hSw => by go_simp⟩) hS ?_
    simp only [Act.put, List.setIfInBounds_toArray, List.set_cons_zero, List.set_cons_succ]
    refine wpAnyH_ready (rs := [5]) (by kernel_rfl) (by simp) ?_
    refine AllReadyH.cons rfl (fun K hK => ?_) AllReadyH.nil
    simp only [List.getElem_toArray, List.getElem_cons_succ, List.getElem_cons_zero]
    go_simp
    refine (own_any t _ (by rw [unhide HT]; decide)).mono ?_
    rintro ev x4 ⟨rfl, hB4⟩
    have XD4 := hide ((unhide XD).drew.below hB4)
    have XO4 := hide (show Only (Fd b v) _ x4 from (unhide XO).drew.trans (Q := fun _ => False) (Only.of_below hB4) (fun _ _ q => q.elim))
    have hs4 : x3.heap.size ≤ x4.heap.size := hB4.size
    clear hB4 XD XO
    refine hK.out _ _ trivial (fun hS => ?_)
    clear hK K
    refine wpAnyH_ready (rs := [6]) (by kernel_rfl) (by simp) ?_
    refine AllReadyH.cons rfl (fun K hK => ?_) AllReadyH.nil
    simp only [List.getElem_toArray, List.getElem_cons_succ, List.getElem_cons_zero]
    go_simp
    refine (put_any _ base b v (diesS s) (unhide XD4) (by omega) t j (by rw [diesS_now, (unhide HS).same]; exact hj) (by rw [diesS_pend]; exact hp)).mono ?_
    rintro ev x5 ⟨rfl, v5, hD5, hO5, hF5⟩
    have hs5 := hO5.size
    have XD5 := hide hD5
    have XO5 := hide hO5
    have XF5 := hide hF5
    clear hD5 hO5 hF5
    refine hK.out _ _ trivial (fun hS => ?_)
    clear hK K
    refine wpAnyH_done (by kernel_rfl) ?_ _
    clear hS
    go_wp2_with fail
    refine (note_any _ base b v5 _ (unhide XD5) (by omega) 0 j (by omega) (by show (diesS s).acts.length ≤ _; rw [diesS_acts]; exact ha)).mono ?_
    rintro ev x6 ⟨rfl, hP6⟩
    have XP6 := hide hP6
    clear hP6
    go_wp2
    go_ret
    refine ⟨rfl, DPost.trans (unhide XO4) (fun _ q => .inl q) (DPost.trans (unhide XO5) (unhide XF5) ?_)⟩
    have := unhide XP6
    simpa [diesS_now, diesS_pend, diesS_acts] using this
  ·rw [if_neg ht, if_neg ht]
   have e2 : decide (t.size = 256) = false := by simpa using ht
   clear hi ht
   go_enter Tryz.func22, Tryz.ntmps22
   go_wp2_with fail
   refine (has_any w base b v s (unhide H) i).mono ?_
   rintro ev x1 ⟨rfl, rfl⟩
   rw [e]
   clear e
   go_wp2_with fail
   refine (isSector_any t _).mono ?_
   rintro ev x2 ⟨rfl, rfl⟩
   rw [e2]
   clear e2
   go_wp2
   go_ret
   exact ⟨rfl, DPost.refl (unhide H)⟩
 ·have e : decide (0 ≤ i ∧ i < (s.last.length : Int)) = false := by simpa [isOk] using hi
  rw [writeE, writeS, if_neg hi, if_neg hi]
  clear hi
  go_enter Tryz.func22, Tryz.ntmps22
  go_wp2_with fail
  refine (has_any w base b v s (unhide H) i).mono ?_
  rintro ev x1 ⟨rfl, rfl⟩
  rw [e]
  clear e
  go_wp2
  go_ret
  exact ⟨rfl, DPost.refl (unhide H)⟩
end Go.Proofs.YtiellebdliifdaaGreatDoor
namespace Go.Proofs.YtiellebdliifdaaGreatDoor
open Go.RowKit
def flushE (s : DSt) : Int := if (diesS s).dead then 2 else 0
def flushS (s : DSt) : DSt := if (diesS s).dead then diesS s else { diesS s with last := layP s.last s.pend, pend := [], acts := s.acts ++ [(1, 0)] }
set_option maxRecDepth 100000 in
set_option maxHeartbeats 2000000 in
theorem flush_any (w : World) (base b : Nat) (v : DV) (s : DSt) (h : Dk w base b v s) (hb : base ≤ w.heap.size) (hS : Sane s) (hp : s.pend.length ≤ 1000000000) (ha : s.acts.length ≤ 1000000000) :
  Calls Tryz.prog 23 #[.pointer (some ⟨b, 0, none⟩)] w fun e w' => e = .returned (.int .i64 (flushE s)) ∧ DPost base b v (flushS s) w w' := by
 have H := hide h
 have HS := hide hS
 clear h hS
 by_cases hd : (diesS s).dead = true
 ·rw [flushE, flushS, if_pos hd, if_pos hd]
  have HD := hide hd
  clear hd
  go_enter Tryz.func23, Tryz.ntmps23
  go_wp2_with fail
  refine (dies_any _ base b v s (unhide H) ⟨by have := (unhide HS).fuse.1; omega, (unhide HS).fuse.2⟩).mono ?_
  rintro ev x3 ⟨rfl, hD3, hO3⟩
  rw [unhide HD]
  have XD := hide hD3
  have XO := hide hO3
  clear hD3 hO3
  go_wp2
  go_ret
  exact ⟨rfl, v, unhide XD, unhide XO, fun _ q => .inl q⟩
 ·rw [flushE, flushS, if_neg hd, if_neg hd]
  rw [Bool.not_eq_true] at hd
  have HD := hide hd
  clear hd
  go_enter Tryz.func23, Tryz.ntmps23
  go_wp2_with fail
  refine (dies_any _ base b v s (unhide H) ⟨by have := (unhide HS).fuse.1; omega, (unhide HS).fuse.2⟩).mono ?_
  rintro ev x3 ⟨rfl, hD3, hO3⟩
  rw [unhide HD]
  have hs3 := hO3.size
  have XD := hide hD3
  have XO := hide hO3
  clear hD3 hO3
  go_wp2_with fail
  refine (settle_any _ base b v _ (unhide XD) (unhide HS).dies.pend (by rw [diesS_pend]; exact hp) (unhide HS).dies.pos).mono ?_
  rintro ev x4 ⟨rfl, v4, hD4, hO4, hF4⟩
  have hs4 := hO4.size
  have XD4 := hide hD4
  have XO4 := hide hO4
  have XF4 := hide hF4
  clear hD4 hO4 hF4
  go_wp2_with fail
  refine (note_any _ base b v4 _ (unhide XD4) (by omega) 1 0 (by omega) (by show (diesS s).acts.length ≤ _; rw [diesS_acts]; exact ha)).mono ?_
  rintro ev x6 ⟨rfl, hP6⟩
  have XP6 := hide hP6
  clear hP6
  go_wp2
  go_ret
  refine ⟨rfl, DPost.trans (unhide XO) (fun _ q => .inl q) (DPost.trans (unhide XO4) (unhide XF4) ?_)⟩
  have := unhide XP6
  simpa [diesS_last, diesS_now, diesS_pend, diesS_acts] using this
def Ints (w : World) (p : Option Addr) (l : List Int) : Prop := ∀ j, j < l.length → ∃ g o, p = some ⟨g, o, none⟩ ∧ g < w.heap.size ∧ w.cell? ⟨g, o + j, none⟩ = some (.int .i64 (l.getD j 0))
end Go.Proofs.YtiellebdliifdaaGreatDoor
namespace Go.Proofs.YtiellebdliifdaaGreatDoor
open Go.RowKit
theorem infoS : (Tryz.prog.info? 9).map (fun i => (i.zero, i.size, i.bytes)) = some (some (.string ⟨#[]⟩), 1, 16) := by kernel_rfl
set_option maxRecDepth 100000 in
theorem run_make_s (l : Nat) (hc : l ≤ 17592186044416) (w : World) : (Instr.makeSlice 55 (.int .i64 (l : Int)) (.int .i64 (l : Int))).run Tryz.prog w = .ok (.slice (some ⟨w.heap.size, 0, none⟩) l l) (w.alloc (.cells (strs (List.replicate l ⟨#[]⟩)).toArray 9)) := by
 obtain ⟨i0, hi, hz0, hz1, hz2⟩ := info_parts infoS
 have := run_make (P := Tryz.prog) w 55 9 i0 (.string ⟨#[]⟩) Tryz.underlying55 hi hz0 .i64 .i64 (l : Int) (l : Int) (by omega) (by omega) (by rw [hz2]; omega) (by omega)
 rw [this, hz1]
 simp only [Int.toNat_natCast, Nat.mul_one]
 congr 3
 apply Array.ext
 ·simp [size_madeCells, strs]
 ·intro j h1 h2
  simp [madeCells, Value.cells, Nat.mod_one, strs]
def halfR (t : ByteArray) (n m : Nat) : List Value := strs (List.replicate n t ++ List.replicate (m - n) ⟨#[]⟩)
def RpI (w : World) (t : ByteArray) (n m : Nat) (wr : World) : Prop := Blk wr w.heap.size (halfR t n m).toArray 9 ∧ Below w.heap.size w wr
theorem halfR_len (t : ByteArray) (n m : Nat) (h : n ≤ m) : (halfR t n m).length = m := by simp [halfR, strs]; omega
theorem halfR_step (t : ByteArray) (n k m : Nat) : (halfR t n m).take n ++ (strs (List.replicate k t) ++ (halfR t n m).drop (n + k)) = halfR t (n + k) m := by
 have e1 : (halfR t n m).take n = strs (List.replicate n t) := by
  simp [halfR, strs]
 have e2 : (halfR t n m).drop (n + k) = strs (List.replicate (m - (n + k)) ⟨#[]⟩) := by
  simp only [halfR, strs, List.map_append, List.map_replicate]
  rw [List.drop_append, List.drop_of_length_le (by simp), List.nil_append, List.drop_replicate]
  congr 1
  simp
  omega
 rw [e1, e2]
 simp only [halfR, strs, ← List.map_append]
 rw [← List.append_assoc, List.replicate_append_replicate]
theorem halfR_at (t : ByteArray) (n m j : Nat) (h : j < n) : (halfR t n m)[j]? = some (.string t) := by
 simp [halfR, strs, List.getElem?_append, h]
theorem wp_copy_rp {o : Oper} {a : Act} {K : Act → World → Prop} {Q : Exit → Act → World → Prop} (d x : Operand) (hop : o.op = .call { callee := .builtin .copy, args := #[d, x], argTypes := #[55, 55] })
  {w wr : World} {t : ByteArray} {n m : Nat} (hI : RpI w t n m wr) (k : Nat) (hnk : n + k ≤ m) (dLen dCap sLen sCap : Nat) (ad : Addr) (hd : a.eval d = .slice (some ⟨w.heap.size, n, none⟩) dLen dCap) (hs : a.eval x = .slice (some ad) sLen sCap) (hk : k = Nat.min sLen dLen)
  (hsrc : ∀ j, j < k → wr.cell? (ad.add j) = some (.string t)) (h : ∀ W', RpI w t (n + k) m W' → K (a.put o.dst (.int .i64 (k : Int))) W') : o.wp Tryz.prog a wr K Q := by
 have hl : (strs (List.replicate k t)).length = k := by simp [strs]
 have hrun := run_copy_row (P := Tryz.prog) wr 55 55 o.type 9 w.heap.size n dLen dCap ad sLen sCap (halfR t n m).toArray 9 (strs (List.replicate k t)) Tryz.underlying55 (by kernel_rfl) hI.1 (by rw [hl]; exact hk) (fun j u hu => by
  have hj : j < k := by
   have := (List.getElem?_eq_some_iff.1 hu).1
   rwa [hl] at this
  simp [strs, hj] at hu
  rw [hsrc j hj, hu]) (by rw [hl]; simp [halfR_len t n m (by omega)]; exact hnk) (by simp [strs, Value.oneCell'])
 rw [hl] at hrun
 have e := setRow_heap wr w.heap.size (halfR t n m).toArray ((halfR t n m).toArray.toList.take n ++ strs (List.replicate k t) ++ (halfR t n m).toArray.toList.drop (n + k)).toArray 9 (0, 0) hI.1
 have hW := h _ ⟨by rw [← halfR_step t n k m, ← List.append_assoc]; exact e, below_setRow hI.2 (Nat.le_refl _) _⟩
 unfold Oper.wp
 simp only [execOp, hop]
 simp only [resolve, invoke, builtin, Sem.run_bind, Sem.run_pure, Result.andThen_ok, List.map_toArray, List.map_cons, List.map_nil, hd, hs, hrun]
 exact hW
theorem wpList_copy_rp {ops : Array Oper} {rest : List Oper} {o : Oper} {a : Act} {Q : Exit → Act → World → Prop} (hgd : o.guard = none) (d x : Operand) (hop : o.op = .call { callee := .builtin .copy, args := #[d, x], argTypes := #[55, 55] })
  {w wr : World} {t : ByteArray} {n m : Nat} (hI : RpI w t n m wr) (k : Nat) (hnk : n + k ≤ m) (dLen dCap sLen sCap : Nat) (ad : Addr) (hd : a.eval d = .slice (some ⟨w.heap.size, n, none⟩) dLen dCap) (hs : a.eval x = .slice (some ad) sLen sCap) (hk : k = Nat.min sLen dLen)
  (hsrc : ∀ j, j < k → wr.cell? (ad.add j) = some (.string t)) (h : ∀ W', RpI w t (n + k) m W' → wpList Tryz.prog ops Q rest (a.put o.dst (.int .i64 (k : Int))) W') : wpList Tryz.prog ops Q (o :: rest) a wr :=
 wpList_plain hgd fun _ hK => wp_copy_rp d x hop hI k hnk dLen dCap sLen sCap ad hd hs hk hsrc fun W' hI' => hK _ _ (h W' hI')
set_option maxRecDepth 100000 in
set_option maxHeartbeats 2000000 in
theorem srepeat_any (t : ByteArray) (m : Nat) (h1 : 1 ≤ m) (h2 : m ≤ 1024) (w : World) (g0 : Nat) (hg0 : g0 < w.heap.size) (hc : w.cell? ⟨g0, 0, none⟩ = some (.string t)) :
  Calls Tryz.prog 59 #[.slice (some ⟨g0, 0, none⟩) 1 1, .int .i64 (m : Int)] w fun e w' => e = .returned (.slice (some ⟨w.heap.size, 0, none⟩) m m) ∧ Blk w' w.heap.size (strs (List.replicate m t)).toArray 9 ∧ Below w.heap.size w w' := by
 have hmk := run_make_s m (by omega) w
 have X0 := hide (show RpI w t 0 m (w.alloc (.cells (strs (List.replicate m ⟨#[]⟩)).toArray 9)) from ⟨by simpa [halfR] using Blk.new w 9 (strs (List.replicate m ⟨#[]⟩)).toArray, (Below.refl _ _).alloc (Nat.le_refl _) _⟩)
 generalize hx2 : w.alloc (.cells (strs (List.replicate m ⟨#[]⟩)).toArray 9) = x2 at *
 clear hx2
 have HC := hide hc
 have HM := hide hmk
 clear hc hmk
 go_enter Tryz.func59, Tryz.ntmps59
 go_wp2_with fail
 refine (Tryz.bits_Mul 1 m (by omega) (by omega) w).mono ?_
 rintro ev x1 ⟨rfl, rfl⟩
 rw [show (1 * m / 18446744073709551616 : Nat) = 0 by omega, show (1 * m % 18446744073709551616 : Nat) = m by omega]
 have hmk := unhide HM
 have wv : IntKind.i64.wrap (m : Int) = (m : Int) := wrapI_eq _ (by omega) (by omega)
 have HX := hide (show x2.cell? ⟨g0, 0, none⟩ = some (.string t) by rw [(unhide X0).2.cell (p := ⟨g0, 0, none⟩) hg0]; exact unhide HC)
 go_wp2_with (refine wpList_copy_rp rfl (.tmp 31) (.tmp 32) rfl (unhide X0) 1 (by omega) m m 1 1 ⟨g0, 0, none⟩ rfl rfl (by show 1 = min 1 m; omega) (fun j hj => by have hj0 : j = 0 := (by omega); subst hj0; rw [Addr.add_mid]; exact unhide HX) ?_; intro W1 hI1; have X1 := hide hI1; clear hI1)
 clear X0 HX HC HM hmk
 go_loopw [8] (fun i wr => ∃ n : Nat, 1 ≤ n ∧ n ≤ m ∧ i = .int .i64 (n : Int) ∧ RpI x1 t n m wr) (fun i _ => m - (intOf i).toNat)
 case atStart => exact ⟨1, by omega, by omega, rfl, by simpa using unhide X1⟩
 case round =>
  obtain ⟨n, hn1, hn, rfl, hI⟩ := hrel
  have XI := hide hI
  clear hI X1
  by_cases hnm : n < m
  ·obtain ⟨k, hk⟩ : ∃ k, k = Nat.min n (m - n) := ⟨_, rfl⟩
   have hk1 : 1 ≤ k := by rw [hk]; simp only [Nat.min_def]; split <;> omega
   have hk2 : k ≤ n := by rw [hk]; exact Nat.min_le_left _ _
   have hk3 : n + k ≤ m := by
    have : k ≤ m - n := by rw [hk]; exact Nat.min_le_right _ _
    omega
   have HK := hide hk
   clear hk
   have i0 : 0 ≤ (n : Int) := by omega
   have i1 : (n : Int) ≤ (m : Int) := by omega
   have i2 : ¬ m = n := by omega
   have hw1 : IntKind.i64.wrap ((n : Int) + (k : Int)) = (n : Int) + (k : Int) := wrapI_eq _ (by omega) (by omega)
   go_wp2_with fail
   refine wp_region_held_drew (S := fun _ => True) (by kernel_rfl) trivial ?_
   intro hS
   refine wpAnyH_takeD 0 (some 38) (.int .i64 (n : Int)) rfl rfl (by kernel_rfl) (by kernel_rfl) (by kernel_rfl) (fun _ _ _ h => h) (Or.inl ⟨by rfl, fun w hSw => by go_simp⟩) hS ?_
   simp only [Act.put, List.setIfInBounds_toArray, List.set_cons_zero, List.set_cons_succ]
   refine wpAnyH_takeD 1 (some 39) (.slice (some ⟨x1.heap.size, 0, none⟩) m m) rfl rfl (by kernel_rfl) (by kernel_rfl) (by kernel_rfl) (fun _ _ _ h => h) (Or.inl ⟨by rfl, fun w hSw => by go_simp⟩) hS ?_
   simp only [Act.put, List.setIfInBounds_toArray, List.set_cons_zero, List.set_cons_succ]
   refine wpAnyH_takeD 2 (some 40) (.int .i64 (n : Int)) rfl rfl (by kernel_rfl) (by kernel_rfl) (by kernel_rfl) (fun _ _ _ h => h) (Or.inl ⟨by rfl, fun w hSw => by go_simp⟩) hS ?_
   simp only [Act.put, List.setIfInBounds_toArray, List.set_cons_zero, List.set_cons_succ]
   refine wpAnyH_takeD 3 (some 41) (.slice (some ⟨x1.heap.size, n, none⟩) (m - n) (m - n)) rfl rfl (by kernel_rfl) (by kernel_rfl) (by kernel_rfl) (fun _ _ _ h => h) (Or.inl ⟨by rfl, fun w hSw => by go_simp⟩) hS ?_
   simp only [Act.put, List.setIfInBounds_toArray, List.set_cons_zero, List.set_cons_succ]
   refine wpAnyH_takeD 4 (some 42) (.slice (some ⟨x1.heap.size, 0, none⟩) m m) rfl rfl (by kernel_rfl) (by kernel_rfl) (by kernel_rfl) (fun _ _ _ h => h) (Or.inl ⟨by rfl, fun w hSw => by go_simp⟩) hS ?_
   simp only [Act.put, List.setIfInBounds_toArray, List.set_cons_zero, List.set_cons_succ]
   refine wpAnyH_takeD 5 (some 43) (.int .i64 (n : Int)) rfl rfl (by kernel_rfl) (by kernel_rfl) (by kernel_rfl) (fun _ _ _ h => h) (Or.inl ⟨by rfl, fun w hSw => by go_simp⟩) hS ?_
   simp only [Act.put, List.setIfInBounds_toArray, List.set_cons_zero, List.set_cons_succ]
   refine wpAnyH_takeD 6 (some 44) (.slice (some ⟨x1.heap.size, 0, none⟩) n m) rfl rfl (by kernel_rfl) (by kernel_rfl) (by kernel_rfl) (fun _ _ _ h => h) (Or.inl ⟨by rfl, fun w hSw => by go_simp⟩) hS ?_
   simp only [Act.put, List.setIfInBounds_toArray, List.set_cons_zero, List.set_cons_succ]
   refine wpAnyH_ready (rs := [7]) (by kernel_rfl) (by simp) ?_
   refine AllReadyH.cons rfl (fun K hK => ?_) AllReadyH.nil
   simp only [List.getElem_toArray, List.getElem_cons_succ, List.getElem_cons_zero]
   refine wp_copy_rp (.tmp 41) (.tmp 44) rfl (show RpI x1 t n m wr.drew from ⟨(unhide XI).1, (unhide XI).2.drew⟩) k hk3 (m - n) (m - n) n m ⟨x1.heap.size, 0, none⟩ rfl rfl (unhide HK) (fun j hj => by rw [Addr.add_mid, Nat.zero_add]; exact ((unhide XI).1.cell j).trans (by have := halfR_at t n m j (by omega); simpa using this)) ?_
   intro W2 hI2
   have X2 := hide hI2
   clear hI2
   refine hK.out _ _ trivial (fun hS => ?_)
   clear hK K
   simp only [Act.put, List.setIfInBounds_toArray, List.set_cons_zero, List.set_cons_succ]
   refine wpAnyH_takeD 8 (some 46) (.int .i64 ((n : Int) + (k : Int))) rfl rfl (by kernel_rfl) (by kernel_rfl) (by kernel_rfl) (fun _ _ _ h => h) (Or.inl ⟨by rfl, fun w hSw => by go_simp⟩) hS ?_
   simp only [Act.put, List.setIfInBounds_toArray, List.set_cons_zero, List.set_cons_succ]
   refine wpAnyH_takeD 9 (some 8) (.int .i64 ((n : Int) + (k : Int))) rfl rfl (by kernel_rfl) (by kernel_rfl) (by kernel_rfl) (fun _ _ _ h => h) (Or.inl ⟨by rfl, fun w hSw => by go_simp⟩) hS ?_
   simp only [Act.put, List.setIfInBounds_toArray, List.set_cons_zero, List.set_cons_succ]
   refine wpAnyH_done (by kernel_rfl) ?_ _
   clear hS
   go_wp2
   go_roundw
   case rel => exact ⟨n + k, by omega, by omega, by go_num, unhide X2⟩
   case measure => simp [intOf]; omega
  ·obtain rfl : n = m := by omega
   clear hnm
   go_wp2
   go_ret
   refine ⟨rfl, ?_, (unhide XI).2⟩
   have := (unhide XI).1
   simpa [halfR] using this
end Go.Proofs.YtiellebdliifdaaGreatDoor
namespace Go.Proofs.YtiellebdliifdaaGreatDoor
open Go.RowKit
theorem own_row (w : World) (base g : Nat) (l : List ByteArray) (h : Blk w g (strs l).toArray 9) (hb : base ≤ g) (hl : l.length ≤ 1000000) : w.ownsRow base 9 1 (.slice (some ⟨g, 0, none⟩) l.length l.length) l.length (strs l) :=
 ⟨by simp [strs_len], .inr ⟨g, l.length, _, rfl, hb, h, Nat.le_refl _, by unfold maxLen; omega, by simp [strs_len], by rw [Nat.mul_one]; exact List.take_of_length_le (by simp [strs_len])⟩⟩
theorem clone_any (w : World) (base : Nat) (v : Value) (l : List ByteArray) (h : w.ownsRow base 9 1 v l.length (strs l)) (hl : 0 < l.length) (hl2 : l.length ≤ 1000000) :
  Calls Tryz.prog 113 #[v] w fun e w' => ∃ v', e = .returned v' ∧ w'.ownsRow w.heap.size 9 1 v' l.length (strs l) ∧ Below w.heap.size w w' := by
 obtain ⟨g, cap, rfl, _, _⟩ := h.form hl
 refine (Tryz.slices_Clone_string g 0 l.length cap l w (Nat.le_refl _) (by omega) (fun j hj => by
  rw [Nat.zero_add, (own_at h rfl j hj).1]
  exact strs_at _ _ hj)).mono ?_
 rintro e w' ⟨v', h1, h2, _, h3⟩
 exact ⟨v', h1, by rw [List.take_length] at h2; exact h2, h3⟩
theorem load_blk {W : World} {b : Nat} {cur : Array Value} {T : TypeId} (ty : TypeId) (d : TypeDesc) (h : Blk W b cur T) (hu : Tryz.prog.underlying ty = some d) (hd : d.isRow = true) (hi : (Tryz.prog.info? ty).map (·.size) = some cur.size) : (loadVar ty ⟨b, 0, none⟩).run Tryz.prog W = .ok (.agg cur) W := by
 have := run_loadVar_mid (P := Tryz.prog) W b 0 ty cur.toList d (fun j v hv => by rw [Nat.zero_add, h.cell j]; simpa using hv) hu hd (by simpa using hi)
 simpa using this
set_option maxRecDepth 100000 in
set_option maxHeartbeats 1000000 in
theorem holding_any (w : World) (g : Nat) (l : List ByteArray) (h : Blk w g (strs l).toArray 9) (hl : 0 < l.length) (hl2 : l.length ≤ 1024) :
  Calls Tryz.prog 58 #[.slice (some ⟨g, 0, none⟩) l.length l.length] w fun e w' => ∃ g1 cap1, e = .returned (.agg #[.slice (some ⟨g, 0, none⟩) l.length l.length, .slice (some ⟨g1, 0, none⟩) l.length cap1, .slice none 0 0]) ∧ w'.ownsRow w.heap.size 9 1 (.slice (some ⟨g1, 0, none⟩) l.length cap1) l.length (strs l) ∧ Below w.heap.size w w' := by
 have HR := hide (own_row w 0 g l h (Nat.zero_le _) (by omega))
 clear h
 go_enter Tryz.func58, Tryz.ntmps58
 go_wp2_with fail
 refine (clone_any (w.alloc (Obj.cells #[Value.slice none 0 0, Value.slice none 0 0, Value.slice none 0 0] 104)) 0 _ l ((unhide HR).alloc _) hl (by omega)).mono ?_
 rintro ev x1 ⟨v', rfl, hr, hb⟩
 have hx : x1.heap[w.heap.size]? = some (.cells #[Value.slice none 0 0, Value.slice none 0 0, Value.slice none 0 0] 104 (0, 0)) := (hb.block w.heap.size (by simp)).trans (Blk.new w 104 #[Value.slice none 0 0, Value.slice none 0 0, Value.slice none 0 0])
 obtain ⟨g1, cap1, rfl, hg1, _⟩ := hr.form hl
 have q0 : x1.cell? ⟨w.heap.size, 0, none⟩ = some (.slice none 0 0) := Blk.cell hx 0
 have q1 : x1.cell? ⟨w.heap.size, 1, none⟩ = some (.slice none 0 0) := Blk.cell hx 1
 have q2 : x1.cell? ⟨w.heap.size, 2, none⟩ = some (.slice none 0 0) := Blk.cell hx 2
 have p0 : x1.frozen? ⟨w.heap.size, 0, none⟩ = false := Blk.frozen hx 0
 have p1 : x1.frozen? ⟨w.heap.size, 1, none⟩ = false := Blk.frozen hx 1
 have p2 : x1.frozen? ⟨w.heap.size, 2, none⟩ = false := Blk.frozen hx 2
 have H1 := hide hr
 have H2 := hide hb
 have H3 := hide hx
 clear hr hb hx
 go_wp2
 have B3 := ((Blk.set (unhide H3) 0 (.slice (some ⟨g, 0, none⟩) l.length l.length)).set 1 (.slice (some ⟨g1, 0, none⟩) l.length cap1)).set 2 (.slice none 0 0)
 have hld := load_blk 104 _ B3 Tryz.underlying104 rfl (by kernel_rfl)
 refine bodyPost_ret (v := .agg #[.slice (some ⟨g, 0, none⟩) l.length l.length, .slice (some ⟨g1, 0, none⟩) l.length cap1, .slice none 0 0]) ?_ rfl ⟨g1, cap1, rfl, ?_, ?_⟩
 ·exact results_cell rfl _ _ _ ⟨w.heap.size, 0, none⟩ rfl _ hld
 ·have hne : (Value.slice (some ⟨g1, 0, none⟩) l.length cap1).ownBlock ≠ some w.heap.size := by
   simp [Value.ownBlock]
   simp at hg1
   omega
  exact owns_base (owns_setO (owns_setO (owns_setO (unhide H1) _ _ hne) _ _ hne) _ _ hne) (by simp)
 ·exact ((((Below.refl _ w).alloc (Nat.le_refl _) _).trans ((unhide H2).mono (by simp))).setCell (Nat.le_refl _) _ |>.setCell (Nat.le_refl _) _ |>.setCell (Nat.le_refl _) _)
def freshS (l : List ByteArray) : DSt := ⟨l, l, [], [], 0, false⟩
def zero256 : ByteArray := ⟨(List.replicate 256 0).toArray⟩
theorem rep_zero4 : (⟨(Lib.repeatL (ByteArray.mk #[0]).data.toList 256).toArray⟩ : ByteArray) = zero256 := by
 have h : Lib.repeatL (ByteArray.mk #[0]).data.toList 256 = List.replicate 256 0 := by
  have := Lib.repeatL_replicate 0 1 256
  rw [Nat.mul_one] at this
  exact this
 rw [h, zero256]
def NewPost (n : Int) (w : World) (e : Ending) (w' : World) : Prop :=
 if 128 ≤ n ∧ n ≤ 1024 then ∃ b v, e = .returned (.tuple #[.pointer (some ⟨b, 0, none⟩), .int .i64 0]) ∧ Dk w' w.heap.size b v (freshS (List.replicate n.toNat zero256)) ∧ Below w.heap.size w w'
 else e = .returned (.tuple #[.pointer none, .int .i64 40]) ∧ w' = w
set_option maxRecDepth 100000 in
set_option maxHeartbeats 1000000 in
theorem new_any (n : Int) (w : World) : Calls Tryz.prog 19 #[.int .i64 n] w (NewPost n w) := by
 by_cases hn : 128 ≤ n ∧ n ≤ 1024
 ·have e : decide (128 ≤ n ∧ n ≤ 1024) = true := by simpa using hn
  obtain ⟨m, rfl⟩ := Int.eq_ofNat_of_zero_le (show 0 ≤ n by omega)
  have hm1 : 128 ≤ m := by omega
  have hm2 : m ≤ 1024 := by omega
  have HN := hide hn
  clear hn
  go_enter Tryz.func19, Tryz.ntmps19
  go_wp2_with fail
  refine (isSize_any _ _).mono ?_
  rintro ev x1 ⟨rfl, rfl⟩
  rw [e]
  clear e
  go_wp2_with fail
  have hrep := Tryz.strings_Repeat ⟨#[0]⟩ 256 x1 (by decide) (by decide)
  rw [rep_zero4] at hrep
  refine hrep.mono ?_
  rintro ev x2 ⟨rfl, hb2⟩
  generalize hZ : zero256 = Z at *
  have HZ := hide hZ
  clear hZ
  have HB2 := hide hb2
  have hs2 := hb2.size
  clear hb2 hrep
  go_wp2_with fail
  refine (srepeat_any Z m (by omega) hm2 _ x2.heap.size (by simp) (by simp)).mono ?_
  rintro ev x3 ⟨rfl, hk3, hb3⟩
  obtain ⟨L, hL⟩ : ∃ L, L = List.replicate m Z := ⟨_, rfl⟩
  have hLm : L.length = m := by rw [hL]; simp
  rw [← hL] at hk3
  have HL := hide hL
  have hg : (x2.alloc (Obj.cells #[Value.string Z] 9)).heap.size = x2.heap.size + 1 := by simp
  rw [hg] at hk3 hb3 ⊢
  have HK3 := hide hk3
  have HB3 := hide (show Below x1.heap.size x1 x3 from ((unhide HB2).alloc hs2 _).trans (hb3.mono (by omega)))
  have hs3 := hb3.size
  rw [hg] at hs3
  clear hL hk3 hb3 hg HB2
  subst hLm
  go_wp2_with fail
  refine (holding_any _ _ L (unhide HK3) (by omega) hm2).mono ?_
  rintro ev x4 ⟨g1, cap1, rfl, hr4, hb4⟩
  have hk4 := (unhide HK3).below hb4 (unhide HK3).lt
  have D := hide (show Dk (x4.alloc (Obj.cells #[.slice (some ⟨x2.heap.size + 1, 0, none⟩) L.length L.length, .slice (some ⟨g1, 0, none⟩) L.length cap1, .slice none 0 0, .slice none 0 0, .int .i64 0, .bool false] 109)) x1.heap.size x4.heap.size ⟨.slice (some ⟨x2.heap.size + 1, 0, none⟩) L.length L.length, .slice (some ⟨g1, 0, none⟩) L.length cap1, .slice none 0 0, .slice none 0 0⟩ (freshS L) from by
   have hg1 := (hr4.lt g1 rfl).1
   have hlt := (unhide HK3).lt
   refine ⟨Blk.new _ _ _, (own_row x4 x1.heap.size _ L hk4 (by omega) (by omega)).alloc _, (owns_base hr4 (by omega)).alloc _, World.ownsRow_nil _ _ _ _, World.ownsRow_nil _ _ _ _, fun k hk1 hk2 => ?_, ?_⟩
   ·simp [Value.ownBlock] at hk1 hk2
    omega
   ·have := hb4.size
    omega)
  have HB4 := hide ((unhide HB3).trans (hb4.mono (unhide HB3).size))
  clear hr4 hb4 hk4 HK3 HB3
  go_wp2
  go_ret2
  rw [NewPost, if_pos (unhide HN)]
  have D2 := unhide D
  have e2 : freshS L = freshS (List.replicate (L.length : Int).toNat zero256) := by
   rw [Int.toNat_natCast, unhide HZ, ← unhide HL]
  rw [e2] at D2
  exact ⟨_, _, rfl, D2, (unhide HB4).alloc (unhide HB4).size _⟩
 ·have e : decide (128 ≤ n ∧ n ≤ 1024) = false := by simpa using hn
  have HN := hide hn
  clear hn
  go_enter Tryz.func19, Tryz.ntmps19
  go_wp2_with fail
  refine (isSize_any _ _).mono ?_
  rintro ev x1 ⟨rfl, rfl⟩
  rw [e]
  clear e
  go_wp2
  go_ret2
  rw [NewPost, if_neg (unhide HN)]
  exact ⟨rfl, rfl⟩
end Go.Proofs.YtiellebdliifdaaGreatDoor
namespace Go.Proofs.YtiellebdliifdaaGreatDoor
open Go.RowKit
def Strs (w : World) (p : Option Addr) (l : List ByteArray) : Prop := ∀ j, j < l.length → ∃ g o, p = some ⟨g, o, none⟩ ∧ g < w.heap.size ∧ w.cell? ⟨g, o + j, none⟩ = some (.string (l.getD j ByteArray.empty))
end Go.Proofs.YtiellebdliifdaaGreatDoor
namespace Go.Proofs.YtiellebdliifdaaGreatDoor
open Go.RowKit
end Go.Proofs.YtiellebdliifdaaGreatDoor
namespace Go.Proofs.YtiellebdliifdaaGreatDoor
open Go.RowKit
def pickP (c : Int) (n : Nat) : Nat := ((if c < 0 then -(c + 1) else c) % (n : Int)).toNat
theorem pickP_lt (c : Int) (n : Nat) (hn : 0 < n) : pickP c n < n := by
 have h1 := Int.emod_nonneg (if c < 0 then -(c + 1) else c) (show (n : Int) ≠ 0 by omega)
 have h2 := Int.emod_lt_of_pos (if c < 0 then -(c + 1) else c) (show 0 < (n : Int) by omega)
 unfold pickP
 omega
end Go.Proofs.YtiellebdliifdaaGreatDoor
namespace Go.Proofs.YtiellebdliifdaaGreatDoor
open Go.RowKit
end Go.Proofs.YtiellebdliifdaaGreatDoor
namespace Go.Proofs.YtiellebdliifdaaGreatDoor
open Go.RowKit
theorem Dk.fd {w : World} {base b : Nat} {v : DV} {s : DSt} (h : Dk w base b v s) (k : Nat) (hk : Fd b v k) : base ≤ k ∧ k < w.heap.size := by
 rcases hk with rfl | hk | hk | hk | hk
 ·exact ⟨h.lo, h.blk.lt⟩
 ·exact h.rl.lt k hk
 ·exact h.rn.lt k hk
 ·exact h.rp.lt k hk
 ·exact h.ra.lt k hk
theorem Sane.write {s : DSt} (h : Sane s) (i : Int) (t : ByteArray) : Sane (writeS s i t) := by
 unfold writeS
 split
 ·rename_i hi
  split
  ·split
   ·exact h.dies
   ·have hj : i.toNat < s.last.length := by have := hi.1; have := hi.2; omega
    refine ⟨?_, ?_, ?_, ?_, ?_, ?_⟩
    ·show 0 < (diesS s).last.length; rw [diesS_last]; exact h.pos
    ·show (diesS s).last.length ≤ 1024; rw [diesS_last]; exact h.cap
    ·show (s.now.set i.toNat t).length = (diesS s).last.length; rw [diesS_last, List.length_set]; exact h.same
    ·intro p hp
     show p.1 < (diesS s).last.length
     rw [diesS_last]
     rcases List.mem_append.1 hp with hp | hp
     ·exact h.pend p hp
     ·simp at hp; subst hp; exact hj
    ·exact (diesS_fuse s h.fuse)
    ·intro p hp
     rcases List.mem_append.1 hp with hp | hp
     ·exact h.acts p hp
     ·simp at hp; subst hp; have := h.cap; show i.toNat < 1024; omega
  ·exact h
 ·exact h
theorem Sane.flush {s : DSt} (h : Sane s) : Sane (flushS s) := by
 unfold flushS
 split
 ·exact h.dies
 ·refine ⟨?_, ?_, ?_, ?_, diesS_fuse s h.fuse, ?_⟩
  ·show 0 < (layP s.last s.pend).length; rw [layP_len]; exact h.pos
  ·show (layP s.last s.pend).length ≤ 1024; rw [layP_len]; exact h.cap
  ·show (diesS s).now.length = (layP s.last s.pend).length; rw [layP_len, diesS_now]; exact h.same
  ·intro p hp; cases hp
  ·intro p hp
   rcases List.mem_append.1 hp with hp | hp
   ·exact h.acts p hp
   ·simp at hp; subst hp; decide
theorem Sane.fresh (l : List ByteArray) (h1 : 0 < l.length) (h2 : l.length ≤ 1024) : Sane (freshS l) :=
 ⟨h1, h2, rfl, fun p hp => (by cases hp), ⟨show (0 : Int) ≤ 0 by decide, show (0 : Int) ≤ 9223372036854775807 by decide⟩, fun p hp => (by cases hp)⟩
def DI (w0 w : World) (b : Nat) (s : DSt) : Prop := ∃ v, Dk w w0.heap.size b v s ∧ Below w0.heap.size w0 w ∧ Sane s
theorem DI.below {w0 w w' : World} {b : Nat} {s : DSt} (h : DI w0 w b s) (hb : Below w.heap.size w w') : DI w0 w' b s := by
 obtain ⟨v, h1, h2, h3⟩ := h
 exact ⟨v, h1.below hb, h2.trans (hb.mono h2.size), h3⟩
theorem DI.drew {w0 w : World} {b : Nat} {s : DSt} (h : DI w0 w b s) : DI w0 w.drew b s := h.below ((Below.refl _ w).drew)
theorem DI.size {w0 w : World} {b : Nat} {s : DSt} (h : DI w0 w b s) : w0.heap.size ≤ w.heap.size := by
 obtain ⟨v, h1, h2, h3⟩ := h
 exact h2.size
theorem DI.bel {w0 w : World} {b : Nat} {s : DSt} (h : DI w0 w b s) : Below w0.heap.size w0 w := by
 obtain ⟨v, h1, h2, h3⟩ := h
 exact h2
theorem DI.sane {w0 w : World} {b : Nat} {s : DSt} (h : DI w0 w b s) : Sane s := by
 obtain ⟨v, h1, h2, h3⟩ := h
 exact h3
theorem DI.only {w0 w w' : World} {b : Nat} {v : DV} {s : DSt} (h1 : Dk w w0.heap.size b v s) (h2 : Below w0.heap.size w0 w) (ho : Only (Fd b v) w w') : Below w0.heap.size w0 w' :=
 h2.trans (ho.below h2.size (fun k hk q => by have := (h1.fd k q).1; omega))
theorem writeD {w0 w : World} {b : Nat} {s : DSt} (h : DI w0 w b s) (hp : s.pend.length ≤ 1000000000) (ha : s.acts.length ≤ 1000000000) (i : Int) (t : ByteArray) :
  Calls Tryz.prog 22 #[.pointer (some ⟨b, 0, none⟩), .int .i64 i, .string t] w fun e w' => e = .returned (.int .i64 (writeE s i t)) ∧ DI w0 w' b (writeS s i t) := by
 obtain ⟨v, h1, h2, h3⟩ := h
 refine (write_any w _ b v s h1 h2.size h3 hp ha i t).mono ?_
 rintro ev w' ⟨rfl, v', g1, g2, _⟩
 exact ⟨rfl, v', g1, DI.only h1 h2 g2, h3.write i t⟩
theorem flushD {w0 w : World} {b : Nat} {s : DSt} (h : DI w0 w b s) (hp : s.pend.length ≤ 1000000000) (ha : s.acts.length ≤ 1000000000) :
  Calls Tryz.prog 23 #[.pointer (some ⟨b, 0, none⟩)] w fun e w' => e = .returned (.int .i64 (flushE s)) ∧ DI w0 w' b (flushS s) := by
 obtain ⟨v, h1, h2, h3⟩ := h
 refine (flush_any w _ b v s h1 h2.size h3 hp ha).mono ?_
 rintro ev w' ⟨rfl, v', g1, g2, _⟩
 exact ⟨rfl, v', g1, DI.only h1 h2 g2, h3.flush⟩
def Alive (s : DSt) : Prop := s.fuse = 0 ∧ s.dead = false
theorem Alive.dies {s : DSt} (h : Alive s) : diesS s = s := by rw [diesS, if_neg (by rw [h.1]; decide)]
theorem writeA {s : DSt} (h : Alive s) (j : Nat) (hj : j < s.last.length) (t : ByteArray) (ht : t.size = 256) : writeE s (j : Int) t = 0 ∧ writeS s (j : Int) t = { s with now := s.now.set j t, pend := s.pend ++ [(j, t)], acts := s.acts ++ [(0, j)] } := by
 have hi : isOk s (j : Int) := ⟨by omega, by omega⟩
 have hd : ¬ (diesS s).dead = true := by rw [h.dies, h.2]; decide
 rw [writeE, writeS, if_pos hi, if_pos hi, if_pos ht, if_pos ht, if_neg hd, if_neg hd, h.dies, Int.toNat_natCast]
 exact ⟨rfl, rfl⟩
theorem flushA {s : DSt} (h : Alive s) : flushE s = 0 ∧ flushS s = { s with last := layP s.last s.pend, pend := [], acts := s.acts ++ [(1, 0)] } := by
 have hd : ¬ (diesS s).dead = true := by rw [h.dies, h.2]; decide
 rw [flushE, flushS, if_neg hd, if_neg hd, h.dies]
 exact ⟨rfl, rfl⟩
theorem readA {s : DSt} (h : Alive s) (j : Nat) (hj : j < s.last.length) : readE s (j : Int) = 0 ∧ readT s (j : Int) = s.now.getD j ByteArray.empty := by
 have hi : isOk s (j : Int) := ⟨by omega, by omega⟩
 have hd : ¬ s.dead = true := by rw [h.2]; decide
 rw [readE, readT, if_pos hi, if_pos hi, if_neg hd, if_neg hd, Int.toNat_natCast]
 exact ⟨rfl, rfl⟩
theorem Ints.nil (w : World) (p : Option Addr) : Ints w p [] := fun j hj => by cases hj
end Go.Proofs.YtiellebdliifdaaGreatDoor
