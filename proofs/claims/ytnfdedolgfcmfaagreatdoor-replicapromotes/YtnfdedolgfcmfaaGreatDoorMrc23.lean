import Derived.Test.YtnfdedolgfcmfaaGreatDoorMrc22
import Derived.Test.YtnfdedolgfcmfaaGreatDoorMrc07
import Derived.Test.YtnfdedolgfcmfaaGreatDoorMrc03
import Derived.Test.YtnfdedolgfcmfaaGreatDoorMrc12
import Derived.Test.YtnfdedolgfcmfaaGreatDoorMrc21
import Derived.Test.YtnfdedolgfcmfaaGreatDoorMrc00
import Derived.Test.YtnfdedolgfcmfaaGreatDoorMrc01
import Derived.Test.YtnfdedolgfcmfaaGreatDoorCards
import Derived.Test.YtnfdedolgfcmfaaGreatDoorTie
import Derived.ProofKit
import Derived.OpenShut
import Derived.ShutString
import Derived.SizedLaws
import Derived.Deep.DeepHandedRow
import Derived.LaidLaws
import Derived.LaidHandle
import Derived.Lib.LaidTab
import Derived.Deep.Slices
import Derived.Deep.Strs
import Derived.Lib.SmallJoins
import Derived.Stop.LaidErr
import Derived.Stop.LaidTwo
import Derived.Deep.SlicePairs
namespace Go.Proofs.YtnfdedolgfcmfaaGreatDoor
open Go.RowKit
set_option maxRecDepth 100000 in
set_option maxHeartbeats 1000000 in
theorem sclone_any (t : ByteArray) (w : World) (ht : t.size ≤ 281474976710656) :
    Calls Tryz.prog 73 #[.string t] w fun e w' => e = .returned (.string t) ∧ Below w.heap.size w w' := by
  go_enter Tryz.func73, Tryz.ntmps73
  go_wp2_with fail
  refine (Tryz.stringslite_Clone t w ht).mono ?_
  rintro ev x1 ⟨rfl, hb⟩
  have HB := hide hb
  clear hb
  go_wp2
  go_ret
  exact ⟨rfl, unhide HB⟩
set_option maxRecDepth 100000 in
set_option maxHeartbeats 1000000 in
theorem own_any (t : ByteArray) (w : World) (ht : t.size ≤ 281474976710656) :
    Calls Tryz.prog 61 #[.string t] w fun e w' => e = .returned (.string t) ∧ Below w.heap.size w w' := by
  go_enter Tryz.func61, Tryz.ntmps61
  go_wp2_with fail
  refine (sclone_any t w ht).mono ?_
  rintro ev x1 ⟨rfl, hb⟩
  have HB := hide hb
  clear hb
  go_wp2
  go_ret
  exact ⟨rfl, unhide HB⟩
def isOk (s : DSt) (i : Int) : Prop := 0 ≤ i ∧ i < (s.last.length : Int)
instance (s : DSt) (i : Int) : Decidable (isOk s i) := by unfold isOk; infer_instance
def readE (s : DSt) (i : Int) : Int := if isOk s i then (if s.dead then 2 else 0) else 41
def readT (s : DSt) (i : Int) : ByteArray := if isOk s i then (if s.dead then ⟨#[]⟩ else s.now.getD i.toNat ByteArray.empty) else ⟨#[]⟩
set_option maxRecDepth 100000 in
set_option maxHeartbeats 1000000 in
theorem read_any (w : World) (base b : Nat) (v : DV) (s : DSt) (h : Dk w base b v s) (hln : s.now.length = s.last.length) (i : Int) :
    Calls Tryz.prog 27 #[.pointer (some ⟨b, 0, none⟩), .int .i64 i] w fun e w' => e = .returned (.tuple #[.string (readT s i), .int .i64 (readE s i)]) ∧ w' = w := by
  have c5 : w.cell? ⟨b, 5, none⟩ = some (.bool s.dead) := by rw [h.blk.cell 5]; rfl
  have H := hide h
  by_cases hi : isOk s i
  · rw [readT, readE, if_pos hi, if_pos hi]
    by_cases hd : s.dead = true
    · rw [if_pos hd, if_pos hd]
      rw [hd] at c5
      have e : decide (0 ≤ i ∧ i < (s.last.length : Int)) = true := by simpa [isOk] using hi
      clear h hd hi
      go_enter Tryz.func27, Tryz.ntmps27
      go_wp2_with fail
      refine (has_any w base b v s (unhide H) i).mono ?_
      rintro ev x1 ⟨rfl, rfl⟩
      rw [e]
      clear e
      go_wp2
      go_ret2
      exact ⟨rfl, rfl⟩
    · rw [if_neg hd, if_neg hd]
      rw [Bool.not_eq_true] at hd
      rw [hd] at c5
      have e : decide (0 ≤ i ∧ i < (s.last.length : Int)) = true := by simpa [isOk] using hi
      obtain ⟨j, rfl⟩ := Int.eq_ofNat_of_zero_le hi.1
      have hj : j < s.now.length := by have := hi.2; omega
      obtain ⟨gn, capn, evn, _⟩ := h.rn.form (by omega)
      have hgn : v.n.ownBlock = some gn := by rw [evn]; rfl
      have c1 : w.cell? ⟨b, 1, none⟩ = some (.slice (some ⟨gn, 0, none⟩) s.now.length capn) := by rw [h.blk.cell 1, ← evn]; rfl
      have cj : w.cell? ⟨gn, j, none⟩ = some (.string (s.now.getD j ByteArray.empty)) := by rw [(own_at h.rn hgn j hj).1]; exact strs_at _ _ hj
      rw [Int.toNat_natCast]
      generalize s.now.getD j ByteArray.empty = T at *
      generalize s.now.length = n at *
      clear h hd hi hln hgn evn
      go_enter Tryz.func27, Tryz.ntmps27
      go_wp2_with fail
      refine (has_any w base b v s (unhide H) (j : Int)).mono ?_
      rintro ev x1 ⟨rfl, rfl⟩
      rw [e]
      clear e
      go_wp2
      go_ret2
      exact ⟨rfl, rfl⟩
  · rw [readT, readE, if_neg hi, if_neg hi]
    have e : decide (0 ≤ i ∧ i < (s.last.length : Int)) = false := by simpa [isOk] using hi
    clear h hi
    go_enter Tryz.func27, Tryz.ntmps27
    go_wp2_with fail
    refine (has_any w base b v s (unhide H) i).mono ?_
    rintro ev x1 ⟨rfl, rfl⟩
    rw [e]
    clear e
    go_wp2
    go_ret2
    exact ⟨rfl, rfl⟩
/-- What holds of every disk. -/
structure Sane (s : DSt) : Prop where
  pos : 0 < s.last.length
  cap : s.last.length ≤ 1024
  same : s.now.length = s.last.length
  pend : pendOk s
  fuse : 0 ≤ s.fuse ∧ s.fuse ≤ 9223372036854775807
  acts : ∀ p ∈ s.acts, p.2 < 1024
def writeE (s : DSt) (i : Int) (t : ByteArray) : Int := if isOk s i then (if t.size = 256 then (if (diesS s).dead then 2 else 0) else 42) else 41
def writeS (s : DSt) (i : Int) (t : ByteArray) : DSt := if isOk s i then (if t.size = 256 then (if (diesS s).dead then diesS s else { diesS s with now := s.now.set i.toNat t, pend := s.pend ++ [(i.toNat, t)], acts := s.acts ++ [(0, i.toNat)] }) else s) else s
theorem diesS_last (s : DSt) : (diesS s).last = s.last := by unfold diesS; split <;> rfl
theorem diesS_now (s : DSt) : (diesS s).now = s.now := by unfold diesS; split <;> rfl
theorem diesS_pend (s : DSt) : (diesS s).pend = s.pend := by unfold diesS; split <;> rfl
theorem diesS_acts (s : DSt) : (diesS s).acts = s.acts := by unfold diesS; split <;> rfl
theorem diesS_fuse (s : DSt) (h : 0 ≤ s.fuse ∧ s.fuse ≤ 9223372036854775807) : 0 ≤ (diesS s).fuse ∧ (diesS s).fuse ≤ 9223372036854775807 := by
  unfold diesS
  split
  · show 0 ≤ s.fuse - 1 ∧ s.fuse - 1 ≤ _
    omega
  · exact h
theorem Sane.dies {s : DSt} (h : Sane s) : Sane (diesS s) :=
  ⟨by rw [diesS_last]; exact h.pos, by rw [diesS_last]; exact h.cap, by rw [diesS_last, diesS_now]; exact h.same, by intro p hp; rw [diesS_pend] at hp; rw [diesS_last]; exact h.pend p hp, diesS_fuse s h.fuse, by rw [diesS_acts]; exact h.acts⟩
set_option maxRecDepth 100000 in
set_option maxHeartbeats 2000000 in
theorem write_any (w : World) (base b : Nat) (v : DV) (s : DSt) (h : Dk w base b v s) (hb : base ≤ w.heap.size) (hS : Sane s) (hp : s.pend.length ≤ 1000000000) (ha : s.acts.length ≤ 1000000000) (i : Int) (t : ByteArray) :
    Calls Tryz.prog 24 #[.pointer (some ⟨b, 0, none⟩), .int .i64 i, .string t] w fun e w' => e = .returned (.int .i64 (writeE s i t)) ∧ DPost base b v (writeS s i t) w w' := by
  have H := hide h
  have HS := hide hS
  clear h hS
  by_cases hi : isOk s i
  · have e : decide (0 ≤ i ∧ i < (s.last.length : Int)) = true := by simpa [isOk] using hi
    rw [writeE, writeS, if_pos hi, if_pos hi]
    by_cases ht : t.size = 256
    · rw [if_pos ht, if_pos ht]
      have e2 : decide (t.size = 256) = true := by simpa using ht
      by_cases hd : (diesS s).dead = true
      · rw [if_pos hd, if_pos hd]
        have HI := hide hi
        have HD := hide hd
        clear hi ht hd
        go_enter Tryz.func24, Tryz.ntmps24
        go_wp2_with fail
        refine (has_any w base b v s (unhide H) i).mono ?_
        rintro ev x1 ⟨rfl, rfl⟩
        rw [e]
        clear e
        go_wp2_with fail
        refine (isSector_any t _).mono ?_
        rintro ev x2 ⟨rfl, rfl⟩
        rw [e2]
        clear e2
        go_wp2_with fail
        refine (dies_any _ base b v s (unhide H) ⟨by have := (unhide HS).fuse.1; omega, (unhide HS).fuse.2⟩).mono ?_
        rintro ev x3 ⟨rfl, hD3, hO3⟩
        rw [unhide HD]
        have XD := hide hD3
        have XO := hide hO3
        clear hD3 hO3
        go_wp2
        go_ret
        exact ⟨rfl, v, unhide XD, unhide XO, fun _ q => .inl q⟩
      · rw [if_neg hd, if_neg hd]
        rw [Bool.not_eq_true] at hd
        obtain ⟨j, rfl⟩ := Int.eq_ofNat_of_zero_le hi.1
        have hj : j < s.last.length := by have := hi.2; omega
        rw [Int.toNat_natCast]
        have HI := hide hi
        have HD := hide hd
        have HT := hide ht
        have hj2 : j < 1024 := by have := (unhide HS).cap; omega
        clear hi hd ht
        go_enter Tryz.func24, Tryz.ntmps24
        go_wp2_with fail
        refine (has_any w base b v s (unhide H) (j : Int)).mono ?_
        rintro ev x1 ⟨rfl, rfl⟩
        rw [e]
        clear e
        go_wp2_with fail
        refine (isSector_any t _).mono ?_
        rintro ev x2 ⟨rfl, rfl⟩
        rw [e2]
        clear e2
        go_wp2_with fail
        refine (dies_any _ base b v s (unhide H) ⟨by have := (unhide HS).fuse.1; omega, (unhide HS).fuse.2⟩).mono ?_
        rintro ev x3 ⟨rfl, hD3, hO3⟩
        rw [unhide HD]
        have hs3 := hO3.size
        have XD := hide hD3
        have XO := hide hO3
        clear hD3 hO3
        go_wp2_with fail
        refine wp_region_held_drew (S := fun _ => True) (by kernel_rfl) trivial ?_
        intro hS
        refine wpAnyH_takeD 0 (some 18) (.pointer (some ⟨b, 0, none⟩)) rfl rfl (by kernel_rfl) (by kernel_rfl) (by kernel_rfl) (fun _ _ _ h => h) (Or.inl ⟨by rfl, fun w hSw => by go_simp⟩) hS ?_
        simp only [Act.put, List.setIfInBounds_toArray, List.set_cons_zero, List.set_cons_succ]
        refine wpAnyH_takeD 1 (some 19) (.pointer (some ⟨b, 0, none⟩)) rfl rfl (by kernel_rfl) (by kernel_rfl) (by kernel_rfl) (fun _ _ _ h => h) (Or.inl ⟨by rfl, fun w hSw => by go_simp⟩) hS ?_
        simp only [Act.put, List.setIfInBounds_toArray, List.set_cons_zero, List.set_cons_succ]
        refine wpAnyH_takeD 2 (some 20) (.pointer (some ⟨b, 0, none⟩)) rfl rfl (by kernel_rfl) (by kernel_rfl) (by kernel_rfl) (fun _ _ _ h => h) (Or.inl ⟨by rfl, fun w hSw => by go_simp⟩) hS ?_
        simp only [Act.put, List.setIfInBounds_toArray, List.set_cons_zero, List.set_cons_succ]
        refine wpAnyH_takeD 3 (some 21) (.int .i64 (j : Int)) rfl rfl (by kernel_rfl) (by kernel_rfl) (by kernel_rfl) (fun _ _ _ h => h) (Or.inl ⟨by rfl, fun w hSw => by go_simp⟩) hS ?_
        simp only [Act.put, List.setIfInBounds_toArray, List.set_cons_zero, List.set_cons_succ]
        refine wpAnyH_takeD 4 (some 22) (.string t) rfl rfl (by kernel_rfl) (by kernel_rfl) (by kernel_rfl) (fun _ _ _ h => h) (Or.inl ⟨by rfl, fun w hSw => by go_simp⟩) hS ?_
        simp only [Act.put, List.setIfInBounds_toArray, List.set_cons_zero, List.set_cons_succ]
        refine wpAnyH_ready (rs := [5]) (by kernel_rfl) (by simp) ?_
        refine AllReadyH.cons rfl (fun K hK => ?_) AllReadyH.nil
        simp only [List.getElem_toArray, List.getElem_cons_succ, List.getElem_cons_zero]
        go_simp
        refine (own_any t _ (by rw [unhide HT]; decide)).mono ?_
        rintro ev x4 ⟨rfl, hB4⟩
        have XD4 := hide ((unhide XD).drew.below hB4)
        have XO4 := hide (show Only (Fd b v) _ x4 from (unhide XO).drew.trans (Q := fun _ => False) (Only.of_below hB4) (fun _ _ q => q.elim))
        have hs4 : x3.heap.size ≤ x4.heap.size := hB4.size
        clear hB4 XD XO
        refine hK.out _ _ trivial (fun hS => ?_)
        clear hK K
        refine wpAnyH_ready (rs := [6]) (by kernel_rfl) (by simp) ?_
        refine AllReadyH.cons rfl (fun K hK => ?_) AllReadyH.nil
        simp only [List.getElem_toArray, List.getElem_cons_succ, List.getElem_cons_zero]
        go_simp
        refine (put_any _ base b v (diesS s) (unhide XD4) (by omega) t j (by rw [diesS_now, (unhide HS).same]; exact hj) (by rw [diesS_pend]; exact hp)).mono ?_
        rintro ev x5 ⟨rfl, v5, hD5, hO5, hF5⟩
        have hs5 := hO5.size
        have XD5 := hide hD5
        have XO5 := hide hO5
        have XF5 := hide hF5
        clear hD5 hO5 hF5
        refine hK.out _ _ trivial (fun hS => ?_)
        clear hK K
        refine wpAnyH_done (by kernel_rfl) ?_ _
        clear hS
        go_wp2_with fail
        refine (note_any _ base b v5 _ (unhide XD5) (by omega) 0 j (by omega) (by show (diesS s).acts.length ≤ _; rw [diesS_acts]; exact ha)).mono ?_
        rintro ev x6 ⟨rfl, hP6⟩
        have XP6 := hide hP6
        clear hP6
        go_wp2
        go_ret
        refine ⟨rfl, DPost.trans (unhide XO4) (fun _ q => .inl q) (DPost.trans (unhide XO5) (unhide XF5) ?_)⟩
        have := unhide XP6
        simpa [diesS_now, diesS_pend, diesS_acts] using this
    · rw [if_neg ht, if_neg ht]
      have e2 : decide (t.size = 256) = false := by simpa using ht
      clear hi ht
      go_enter Tryz.func24, Tryz.ntmps24
      go_wp2_with fail
      refine (has_any w base b v s (unhide H) i).mono ?_
      rintro ev x1 ⟨rfl, rfl⟩
      rw [e]
      clear e
      go_wp2_with fail
      refine (isSector_any t _).mono ?_
      rintro ev x2 ⟨rfl, rfl⟩
      rw [e2]
      clear e2
      go_wp2
      go_ret
      exact ⟨rfl, DPost.refl (unhide H)⟩
  · have e : decide (0 ≤ i ∧ i < (s.last.length : Int)) = false := by simpa [isOk] using hi
    rw [writeE, writeS, if_neg hi, if_neg hi]
    clear hi
    go_enter Tryz.func24, Tryz.ntmps24
    go_wp2_with fail
    refine (has_any w base b v s (unhide H) i).mono ?_
    rintro ev x1 ⟨rfl, rfl⟩
    rw [e]
    clear e
    go_wp2
    go_ret
    exact ⟨rfl, DPost.refl (unhide H)⟩
end Go.Proofs.YtnfdedolgfcmfaaGreatDoor

namespace Go.Proofs.YtnfdedolgfcmfaaGreatDoor
open Go.RowKit
def flushE (s : DSt) : Int := if (diesS s).dead then 2 else 0
def flushS (s : DSt) : DSt := if (diesS s).dead then diesS s else { diesS s with last := layP s.last s.pend, pend := [], acts := s.acts ++ [(1, 0)] }
set_option maxRecDepth 100000 in
set_option maxHeartbeats 2000000 in
theorem flush_any (w : World) (base b : Nat) (v : DV) (s : DSt) (h : Dk w base b v s) (hb : base ≤ w.heap.size) (hS : Sane s) (hp : s.pend.length ≤ 1000000000) (ha : s.acts.length ≤ 1000000000) :
    Calls Tryz.prog 26 #[.pointer (some ⟨b, 0, none⟩)] w fun e w' => e = .returned (.int .i64 (flushE s)) ∧ DPost base b v (flushS s) w w' := by
  have H := hide h
  have HS := hide hS
  clear h hS
  by_cases hd : (diesS s).dead = true
  · rw [flushE, flushS, if_pos hd, if_pos hd]
    have HD := hide hd
    clear hd
    go_enter Tryz.func26, Tryz.ntmps26
    go_wp2_with fail
    refine (dies_any _ base b v s (unhide H) ⟨by have := (unhide HS).fuse.1; omega, (unhide HS).fuse.2⟩).mono ?_
    rintro ev x3 ⟨rfl, hD3, hO3⟩
    rw [unhide HD]
    have XD := hide hD3
    have XO := hide hO3
    clear hD3 hO3
    go_wp2
    go_ret
    exact ⟨rfl, v, unhide XD, unhide XO, fun _ q => .inl q⟩
  · rw [flushE, flushS, if_neg hd, if_neg hd]
    rw [Bool.not_eq_true] at hd
    have HD := hide hd
    clear hd
    go_enter Tryz.func26, Tryz.ntmps26
    go_wp2_with fail
    refine (dies_any _ base b v s (unhide H) ⟨by have := (unhide HS).fuse.1; omega, (unhide HS).fuse.2⟩).mono ?_
    rintro ev x3 ⟨rfl, hD3, hO3⟩
    rw [unhide HD]
    have hs3 := hO3.size
    have XD := hide hD3
    have XO := hide hO3
    clear hD3 hO3
    go_wp2_with fail
    refine (settle_any _ base b v _ (unhide XD) (unhide HS).dies.pend (by rw [diesS_pend]; exact hp) (unhide HS).dies.pos).mono ?_
    rintro ev x4 ⟨rfl, v4, hD4, hO4, hF4⟩
    have hs4 := hO4.size
    have XD4 := hide hD4
    have XO4 := hide hO4
    have XF4 := hide hF4
    clear hD4 hO4 hF4
    go_wp2_with fail
    refine (note_any _ base b v4 _ (unhide XD4) (by omega) 1 0 (by omega) (by show (diesS s).acts.length ≤ _; rw [diesS_acts]; exact ha)).mono ?_
    rintro ev x6 ⟨rfl, hP6⟩
    have XP6 := hide hP6
    clear hP6
    go_wp2
    go_ret
    refine ⟨rfl, DPost.trans (unhide XO) (fun _ q => .inl q) (DPost.trans (unhide XO4) (unhide XF4) ?_)⟩
    have := unhide XP6
    simpa [diesS_last, diesS_now, diesS_pend, diesS_acts] using this
end Go.Proofs.YtnfdedolgfcmfaaGreatDoor

namespace Go.Proofs.YtnfdedolgfcmfaaGreatDoor
open Go.RowKit
end Go.Proofs.YtnfdedolgfcmfaaGreatDoor

namespace Go.Proofs.YtnfdedolgfcmfaaGreatDoor
open Go.RowKit
theorem own_row (w : World) (base g : Nat) (l : List ByteArray) (h : Blk w g (strs l).toArray 9) (hb : base ≤ g) (hl : l.length ≤ 1000000) : w.ownsRow base 9 1 (.slice (some ⟨g, 0, none⟩) l.length l.length) l.length (strs l) :=
  ⟨by simp [strs_len], .inr ⟨g, l.length, _, rfl, hb, h, Nat.le_refl _, by unfold maxLen; omega, by simp [strs_len], by rw [Nat.mul_one]; exact List.take_of_length_le (by simp [strs_len])⟩⟩
theorem clone_any (w : World) (base : Nat) (v : Value) (l : List ByteArray) (h : w.ownsRow base 9 1 v l.length (strs l)) (hl : 0 < l.length) (hl2 : l.length ≤ 1000000) :
    Calls Tryz.prog 45 #[v] w fun e w' => ∃ v', e = .returned v' ∧ w'.ownsRow w.heap.size 9 1 v' l.length (strs l) ∧ Below w.heap.size w w' := by
  obtain ⟨g, cap, rfl, _, _⟩ := h.form hl
  refine (Tryz.slices_Clone_string g 0 l.length cap l w (Nat.le_refl _) (by omega) (fun j hj => by
    rw [Nat.zero_add, (own_at h rfl j hj).1]
    exact strs_at _ _ hj)).mono ?_
  rintro e w' ⟨v', h1, h2, _, h3⟩
  exact ⟨v', h1, by rw [List.take_length] at h2; exact h2, h3⟩
theorem load_blk {W : World} {b : Nat} {cur : Array Value} {T : TypeId} (ty : TypeId) (d : TypeDesc) (h : Blk W b cur T) (hu : Tryz.prog.underlying ty = some d) (hd : d.isRow = true) (hi : (Tryz.prog.info? ty).map (·.size) = some cur.size) : (loadVar ty ⟨b, 0, none⟩).run Tryz.prog W = .ok (.agg cur) W := by
  have := run_loadVar_mid (P := Tryz.prog) W b 0 ty cur.toList d (fun j v hv => by rw [Nat.zero_add, h.cell j]; simpa using hv) hu hd (by simpa using hi)
  simpa using this
set_option maxRecDepth 100000 in
set_option maxHeartbeats 1000000 in
theorem holding_any (w : World) (g : Nat) (l : List ByteArray) (h : Blk w g (strs l).toArray 9) (hl : 0 < l.length) (hl2 : l.length ≤ 1024) :
    Calls Tryz.prog 93 #[.slice (some ⟨g, 0, none⟩) l.length l.length] w fun e w' => ∃ g1 cap1, e = .returned (.agg #[.slice (some ⟨g, 0, none⟩) l.length l.length, .slice (some ⟨g1, 0, none⟩) l.length cap1, .slice none 0 0]) ∧ w'.ownsRow w.heap.size 9 1 (.slice (some ⟨g1, 0, none⟩) l.length cap1) l.length (strs l) ∧ Below w.heap.size w w' := by
  have HR := hide (own_row w 0 g l h (Nat.zero_le _) (by omega))
  clear h
  go_enter Tryz.func93, Tryz.ntmps93
  go_wp2_with fail
  refine (clone_any (w.alloc (Obj.cells #[Value.slice none 0 0, Value.slice none 0 0, Value.slice none 0 0] 126)) 0 _ l ((unhide HR).alloc _) hl (by omega)).mono ?_
  rintro ev x1 ⟨v', rfl, hr, hb⟩
  have hx : x1.heap[w.heap.size]? = some (.cells #[Value.slice none 0 0, Value.slice none 0 0, Value.slice none 0 0] 126 (0, 0)) := (hb.block w.heap.size (by simp)).trans (Blk.new w 126 #[Value.slice none 0 0, Value.slice none 0 0, Value.slice none 0 0])
  obtain ⟨g1, cap1, rfl, hg1, _⟩ := hr.form hl
  have q0 : x1.cell? ⟨w.heap.size, 0, none⟩ = some (.slice none 0 0) := Blk.cell hx 0
  have q1 : x1.cell? ⟨w.heap.size, 1, none⟩ = some (.slice none 0 0) := Blk.cell hx 1
  have q2 : x1.cell? ⟨w.heap.size, 2, none⟩ = some (.slice none 0 0) := Blk.cell hx 2
  have p0 : x1.frozen? ⟨w.heap.size, 0, none⟩ = false := Blk.frozen hx 0
  have p1 : x1.frozen? ⟨w.heap.size, 1, none⟩ = false := Blk.frozen hx 1
  have p2 : x1.frozen? ⟨w.heap.size, 2, none⟩ = false := Blk.frozen hx 2
  have H1 := hide hr
  have H2 := hide hb
  have H3 := hide hx
  clear hr hb hx
  go_wp2
  have B3 := ((Blk.set (unhide H3) 0 (.slice (some ⟨g, 0, none⟩) l.length l.length)).set 1 (.slice (some ⟨g1, 0, none⟩) l.length cap1)).set 2 (.slice none 0 0)
  have hld := load_blk 126 _ B3 Tryz.underlying126 rfl (by kernel_rfl)
  refine bodyPost_ret (v := .agg #[.slice (some ⟨g, 0, none⟩) l.length l.length, .slice (some ⟨g1, 0, none⟩) l.length cap1, .slice none 0 0]) ?_ rfl ⟨g1, cap1, rfl, ?_, ?_⟩
  · exact results_cell rfl _ _ _ ⟨w.heap.size, 0, none⟩ rfl _ hld
  · have hne : (Value.slice (some ⟨g1, 0, none⟩) l.length cap1).ownBlock ≠ some w.heap.size := by
      simp [Value.ownBlock]
      simp at hg1
      omega
    exact owns_base (owns_setO (owns_setO (owns_setO (unhide H1) _ _ hne) _ _ hne) _ _ hne) (by simp)
  · exact ((((Below.refl _ w).alloc (Nat.le_refl _) _).trans ((unhide H2).mono (by simp))).setCell (Nat.le_refl _) _ |>.setCell (Nat.le_refl _) _ |>.setCell (Nat.le_refl _) _)
def freshS (l : List ByteArray) : DSt := ⟨l, l, [], [], 0, false⟩
end Go.Proofs.YtnfdedolgfcmfaaGreatDoor

namespace Go.Proofs.YtnfdedolgfcmfaaGreatDoor
open Go.RowKit
/-- A slice of texts that was handed in. -/
def Strs (w : World) (p : Option Addr) (l : List ByteArray) : Prop := ∀ j, j < l.length → ∃ g o, p = some ⟨g, o, none⟩ ∧ g < w.heap.size ∧ w.cell? ⟨g, o + j, none⟩ = some (.string (l.getD j ByteArray.empty))
def LoadPost (l : List ByteArray) (w : World) (e : Ending) (w' : World) : Prop :=
  if 128 ≤ l.length ∧ l.length ≤ 1024 then
    (if ∀ t ∈ l, t.size = 256 then ∃ b v, e = .returned (.tuple #[.pointer (some ⟨b, 0, none⟩), .int .i64 0]) ∧ Dk w' w.heap.size b v (freshS l) ∧ Below w.heap.size w w'
     else e = .returned (.tuple #[.pointer none, .int .i64 42]) ∧ Below w.heap.size w w')
  else e = .returned (.tuple #[.pointer none, .int .i64 40]) ∧ w' = w
def partL (l : List ByteArray) (k : Nat) : List ByteArray := l.take k ++ List.replicate (l.length - k) ⟨#[]⟩
theorem partL_len (l : List ByteArray) (k : Nat) (h : k ≤ l.length) : (partL l k).length = l.length := by simp [partL]; omega
theorem partL_step (l : List ByteArray) (k : Nat) (h : k < l.length) : (partL l k).set k (l.getD k ByteArray.empty) = partL l (k + 1) := by
  have e1 : l.take (k + 1) = l.take k ++ [l.getD k ByteArray.empty] := by
    rw [List.take_succ_eq_append_getElem h]
    simp [List.getD_eq_getElem?_getD, h]
  have e2 : List.replicate (l.length - k) (⟨#[]⟩ : ByteArray) = ⟨#[]⟩ :: List.replicate (l.length - (k + 1)) ⟨#[]⟩ := by
    rw [show l.length - k = (l.length - (k + 1)) + 1 by omega, List.replicate_succ]
  rw [partL, partL, e1, e2, List.set_append]
  have hl : (l.take k).length = k := by simp; omega
  simp [hl]
def LdI (w : World) (l : List ByteArray) (k : Nat) (wr : World) : Prop := Blk wr w.heap.size (strs (partL l k)).toArray 9 ∧ Below w.heap.size w wr ∧ ∀ t ∈ l.take k, t.size = 256
theorem LdI.step {w wr x : World} {l : List ByteArray} {k : Nat} (h : LdI w l k wr) (hk : k < l.length) (hb : Below wr.heap.size wr x) (ht : (l.getD k ByteArray.empty).size = 256) : LdI w l (k + 1) (x.setCell ⟨w.heap.size, k, none⟩ (.string (l.getD k ByteArray.empty))) := by
  refine ⟨?_, (h.2.1.trans (hb.mono h.2.1.size)).setCell (Nat.le_refl _) _, fun t hm => ?_⟩
  · have := (h.1.below hb h.1.lt).set k (.string (l.getD k ByteArray.empty))
    have e : (strs (partL l k)).toArray.setIfInBounds k (.string (l.getD k ByteArray.empty)) = (strs (partL l (k + 1))).toArray := by
      rw [← partL_step l k hk, ← dstrs_set]
      simp
    rw [e] at this
    exact this
  · rw [List.take_succ_eq_append_getElem hk] at hm
    rcases List.mem_append.1 hm with hm | hm
    · exact h.2.2 t hm
    · simp at hm
      subst hm
      simpa [List.getD_eq_getElem?_getD, hk] using ht
set_option maxRecDepth 100000 in
set_option maxHeartbeats 2000000 in
theorem load_any (p : Option Addr) (c : Nat) (l : List ByteArray) (w : World) (h : Strs w p l) : Calls Tryz.prog 56 #[.slice p l.length c] w (LoadPost l w) := by
  have H := hide h
  clear h
  by_cases hn : 128 ≤ l.length ∧ l.length ≤ 1024
  · have e : decide (128 ≤ (l.length : Int) ∧ (l.length : Int) ≤ 1024) = true := by simp; omega
    have hm1 := hn.1
    have hm2 := hn.2
    have HN := hide hn
    clear hn
    go_enter Tryz.func56, Tryz.ntmps56
    go_wp2_with fail
    refine (isSize_any _ _).mono ?_
    rintro ev x1 ⟨rfl, rfl⟩
    rw [e]
    clear e
    have hmk := run_make_s l.length (by omega) x1
    have X0 := hide (show LdI x1 l 0 (x1.alloc (.cells (strs (List.replicate l.length ⟨#[]⟩)).toArray 9)) from ⟨by simpa [partL] using Blk.new x1 9 (strs (List.replicate l.length ⟨#[]⟩)).toArray, (Below.refl _ _).alloc (Nat.le_refl _) _, fun t ht => by simp at ht⟩)
    generalize hx2 : x1.alloc (.cells (strs (List.replicate l.length ⟨#[]⟩)).toArray 9) = x2 at *
    clear hx2
    go_wp2
    clear hmk
    go_loopw [16] (fun i wr => ∃ k : Nat, k ≤ l.length ∧ i = .int .i64 (k : Int) ∧ LdI x1 l k wr) (fun i _ => l.length - (intOf i).toNat)
    case atStart => exact ⟨0, by omega, rfl, unhide X0⟩
    case round =>
      obtain ⟨k, hk, rfl, hI⟩ := hrel
      obtain ⟨wo, rfl⟩ : ∃ wo, wo = wr := ⟨_, rfl⟩
      have XI := hide hI
      clear hI X0
      by_cases hkl : k < l.length
      · obtain ⟨g, o, rfl, hg, hc⟩ := unhide H k hkl
        have ck : wo.cell? ⟨g, o + k, none⟩ = some (.string (l.getD k ByteArray.empty)) := by rw [(unhide XI).2.1.cell (p := ⟨g, o + k, none⟩) hg]; exact hc
        have HM := hide (show l.getD k ByteArray.empty ∈ l by simp [List.getD_eq_getElem?_getD, hkl])
        have HST := hide (fun x (hb : Below wo.heap.size wo x) (ht : (l.getD k ByteArray.empty).size = 256) => (unhide XI).step hkl hb ht)
        have HB := hide (unhide XI).2.1
        have hbk := (unhide XI).1
        have hpl := partL_len l k hk
        have hold : ∃ ov, (strs (partL l k))[k]? = some ov := ⟨_, strs_at _ _ (by omega)⟩
        obtain ⟨ov, hov⟩ := hold
        have HK := hide hbk
        clear hc hbk XI
        generalize l.getD k ByteArray.empty = t at *
        by_cases ht : t.size = 256
        · have e2 : decide (t.size = 256) = true := by simpa using ht
          have HT := hide ht
          clear ht
          go_wp2_with fail
          refine (isSector_any t _).mono ?_
          rintro ev x2 ⟨rfl, rfl⟩
          rw [e2]
          clear e2
          go_wp2_with fail
          refine (own_any t _ (by rw [unhide HT]; decide)).mono ?_
          rintro ev x3 ⟨rfl, hb3⟩
          have hk3 := (unhide HK).below hb3 (unhide HK).lt
          have cx : x3.cell? ⟨x1.heap.size, k, none⟩ = some ov := by rw [hk3.cell k]; simpa using hov
          have fx := hk3.frozen k
          have HR := hide (unhide HST x3 hb3 (unhide HT))
          clear hb3 hk3 hov ck
          go_wp2
          go_roundw
          case rel => exact ⟨k + 1, by omega, by go_num, unhide HR⟩
          case measure => simp [intOf]; omega
        · have e2 : decide (t.size = 256) = false := by simpa using ht
          have HE := hide (show ¬ ∀ t ∈ l, t.size = 256 from fun h => ht (h t (unhide HM)))
          clear ht hov
          go_wp2_with fail
          refine (isSector_any t _).mono ?_
          rintro ev x2 ⟨rfl, rfl⟩
          rw [e2]
          clear e2
          go_wp2
          go_ret2
          rw [LoadPost, if_pos (unhide HN), if_neg (unhide HE)]
          exact ⟨rfl, unhide HB⟩
      · have hk' : k = l.length := by omega
        subst hk'
        have hall : ∀ t ∈ l, t.size = 256 := by have := (unhide XI).2.2; rwa [List.take_length] at this
        have HA := hide hall
        have hk3 : Blk wo x1.heap.size (strs l).toArray 9 := by have := (unhide XI).1; simpa [partL] using this
        have HK3 := hide hk3
        have HB3 := hide (unhide XI).2.1
        have hs3 := (unhide XI).2.1.size
        clear hall hk3 XI hkl hk
        go_wp2_with fail
        refine (holding_any _ _ l (unhide HK3) (by omega) hm2).mono ?_
        rintro ev x4 ⟨g1, cap1, rfl, hr4, hb4⟩
        have hk4 := (unhide HK3).below hb4 (unhide HK3).lt
        have D := hide (show Dk (x4.alloc (Obj.cells #[.slice (some ⟨x1.heap.size, 0, none⟩) l.length l.length, .slice (some ⟨g1, 0, none⟩) l.length cap1, .slice none 0 0, .slice none 0 0, .int .i64 0, .bool false] 129)) x1.heap.size x4.heap.size ⟨.slice (some ⟨x1.heap.size, 0, none⟩) l.length l.length, .slice (some ⟨g1, 0, none⟩) l.length cap1, .slice none 0 0, .slice none 0 0⟩ (freshS l) from by
          have hg1 := (hr4.lt g1 rfl).1
          have hlt := (unhide HK3).lt
          refine ⟨Blk.new _ _ _, (own_row x4 x1.heap.size _ l hk4 (by omega) (by omega)).alloc _, (owns_base hr4 (by omega)).alloc _, World.ownsRow_nil _ _ _ _, World.ownsRow_nil _ _ _ _, fun k hk1 hk2 => ?_, ?_⟩
          · simp [Value.ownBlock] at hk1 hk2
            omega
          · have := hb4.size
            omega)
        have HB4 := hide ((unhide HB3).trans (hb4.mono (unhide HB3).size))
        clear hr4 hb4 hk4 HK3 HB3
        go_wp2
        go_ret2
        rw [LoadPost, if_pos (unhide HN), if_pos (unhide HA)]
        exact ⟨_, _, rfl, unhide D, (unhide HB4).alloc (unhide HB4).size _⟩
  · have e : decide (128 ≤ (l.length : Int) ∧ (l.length : Int) ≤ 1024) = false := by simp; omega
    have HN := hide hn
    clear hn
    go_enter Tryz.func56, Tryz.ntmps56
    go_wp2_with fail
    refine (isSize_any _ _).mono ?_
    rintro ev x1 ⟨rfl, rfl⟩
    rw [e]
    clear e
    go_wp2
    go_ret2
    rw [LoadPost, if_neg (unhide HN)]
    exact ⟨rfl, rfl⟩
end Go.Proofs.YtnfdedolgfcmfaaGreatDoor

namespace Go.Proofs.YtnfdedolgfcmfaaGreatDoor
open Go.RowKit
end Go.Proofs.YtnfdedolgfcmfaaGreatDoor

namespace Go.Proofs.YtnfdedolgfcmfaaGreatDoor
open Go.RowKit
end Go.Proofs.YtnfdedolgfcmfaaGreatDoor

namespace Go.Proofs.YtnfdedolgfcmfaaGreatDoor
open Go.RowKit
end Go.Proofs.YtnfdedolgfcmfaaGreatDoor

namespace Go.Proofs.YtnfdedolgfcmfaaGreatDoor
open Go.RowKit
theorem Dk.fd {w : World} {base b : Nat} {v : DV} {s : DSt} (h : Dk w base b v s) (k : Nat) (hk : Fd b v k) : base ≤ k ∧ k < w.heap.size := by
  rcases hk with rfl | hk | hk | hk | hk
  · exact ⟨h.lo, h.blk.lt⟩
  · exact h.rl.lt k hk
  · exact h.rn.lt k hk
  · exact h.rp.lt k hk
  · exact h.ra.lt k hk
theorem Sane.write {s : DSt} (h : Sane s) (i : Int) (t : ByteArray) : Sane (writeS s i t) := by
  unfold writeS
  split
  · rename_i hi
    split
    · split
      · exact h.dies
      · have hj : i.toNat < s.last.length := by have := hi.1; have := hi.2; omega
        refine ⟨?_, ?_, ?_, ?_, ?_, ?_⟩
        · show 0 < (diesS s).last.length; rw [diesS_last]; exact h.pos
        · show (diesS s).last.length ≤ 1024; rw [diesS_last]; exact h.cap
        · show (s.now.set i.toNat t).length = (diesS s).last.length; rw [diesS_last, List.length_set]; exact h.same
        · intro p hp
          show p.1 < (diesS s).last.length
          rw [diesS_last]
          rcases List.mem_append.1 hp with hp | hp
          · exact h.pend p hp
          · simp at hp; subst hp; exact hj
        · exact (diesS_fuse s h.fuse)
        · intro p hp
          rcases List.mem_append.1 hp with hp | hp
          · exact h.acts p hp
          · simp at hp; subst hp; have := h.cap; show i.toNat < 1024; omega
    · exact h
  · exact h
theorem Sane.flush {s : DSt} (h : Sane s) : Sane (flushS s) := by
  unfold flushS
  split
  · exact h.dies
  · refine ⟨?_, ?_, ?_, ?_, diesS_fuse s h.fuse, ?_⟩
    · show 0 < (layP s.last s.pend).length; rw [layP_len]; exact h.pos
    · show (layP s.last s.pend).length ≤ 1024; rw [layP_len]; exact h.cap
    · show (diesS s).now.length = (layP s.last s.pend).length; rw [layP_len, diesS_now]; exact h.same
    · intro p hp; cases hp
    · intro p hp
      rcases List.mem_append.1 hp with hp | hp
      · exact h.acts p hp
      · simp at hp; subst hp; decide
theorem Sane.fresh (l : List ByteArray) (h1 : 0 < l.length) (h2 : l.length ≤ 1024) : Sane (freshS l) :=
  ⟨h1, h2, rfl, fun p hp => (by cases hp), ⟨show (0 : Int) ≤ 0 by decide, show (0 : Int) ≤ 9223372036854775807 by decide⟩, fun p hp => (by cases hp)⟩
/-- A disk that lives and is not armed. -/
def Alive (s : DSt) : Prop := s.fuse = 0 ∧ s.dead = false
theorem Alive.dies {s : DSt} (h : Alive s) : diesS s = s := by rw [diesS, if_neg (by rw [h.1]; decide)]
theorem writeA {s : DSt} (h : Alive s) (j : Nat) (hj : j < s.last.length) (t : ByteArray) (ht : t.size = 256) : writeE s (j : Int) t = 0 ∧ writeS s (j : Int) t = { s with now := s.now.set j t, pend := s.pend ++ [(j, t)], acts := s.acts ++ [(0, j)] } := by
  have hi : isOk s (j : Int) := ⟨by omega, by omega⟩
  have hd : ¬ (diesS s).dead = true := by rw [h.dies, h.2]; decide
  rw [writeE, writeS, if_pos hi, if_pos hi, if_pos ht, if_pos ht, if_neg hd, if_neg hd, h.dies, Int.toNat_natCast]
  exact ⟨rfl, rfl⟩
theorem flushA {s : DSt} (h : Alive s) : flushE s = 0 ∧ flushS s = { s with last := layP s.last s.pend, pend := [], acts := s.acts ++ [(1, 0)] } := by
  have hd : ¬ (diesS s).dead = true := by rw [h.dies, h.2]; decide
  rw [flushE, flushS, if_neg hd, if_neg hd, h.dies]
  exact ⟨rfl, rfl⟩
theorem readA {s : DSt} (h : Alive s) (j : Nat) (hj : j < s.last.length) : readE s (j : Int) = 0 ∧ readT s (j : Int) = s.now.getD j ByteArray.empty := by
  have hi : isOk s (j : Int) := ⟨by omega, by omega⟩
  have hd : ¬ s.dead = true := by rw [h.2]; decide
  rw [readE, readT, if_pos hi, if_pos hi, if_neg hd, if_neg hd, Int.toNat_natCast]
  exact ⟨rfl, rfl⟩
end Go.Proofs.YtnfdedolgfcmfaaGreatDoor

namespace Go.Proofs.YtnfdedolgfcmfaaGreatDoor
open Go.ChangeShapes Go.WideShapes Go.ChangeAt Go.RowKit
theorem own : ownKnob Tryz.prog.godebug = none := by kernel_rfl
theorem laidOut : laidOutB Tryz.prog = true := by kernel_rfl
theorem gEt : Tryz.prog.globalNamed "errors.errorType" = some 0 := by kernel_rfl
theorem gRt : (Tryz.prog.cutTypes.find? (·.1 == "internal/reflectlite.rtype")).map (·.2) = some 257 := by kernel_rfl
theorem gOne : ((List.range 311).filter fun t => Tryz.prog.rowNamed t [101, 114, 114, 111, 114]) = [200] := by kernel_rfl
theorem gSize : Tryz.prog.types.size = 311 := by kernel_rfl
theorem gTab : Tryz.prog.globalNamed "strongbox/hash.roundWords" = some 2 := by kernel_rfl
theorem gTabType : (Tryz.prog.globals[2]?).map (·.type) = some 245 := by kernel_rfl
theorem cells54 : Tryz.prog.cellsOf 245 = 64 := by kernel_rfl
theorem cells44 : Tryz.prog.cellsOf 162 = 1 := by kernel_rfl
theorem wf_I64 {z : Int} (h : (Lit.int .i64 z).wf = true) : I64 z := by
  simpa [I64, Lit.wf, IntKind.min, IntKind.max, IntKind.signed, IntKind.bits] using h
def laidQm : List (String × DataW Unit) := []
def laidPm : List (String × DataW Unit) := ("strongbox/hash.roundWords", Rows.laid_strongbox_hash_roundWords) :: laidQm
def laidL : List (String × DataW Unit) := ("strongbox/hash.roundWords", Rows.laid_strongbox_hash_roundWords) :: ("errors.errorType", Rows.laid_errors_errorType) :: laidQm
theorem laid_parts {W : World} (h : laidMetH Tryz.prog laidL W) : laidMet Tryz.prog laidPm W ∧ handlesMet Tryz.prog [("errors.errorType", Rows.laid_errors_errorType)] W := h
/-- What the row's list gives. -/
theorem ety_of {W : World} (h : laidMetH Tryz.prog laidL W) : ETy W := by
  obtain ⟨name, u, ty, e1, e2, e3, e4, e5⟩ := (laid_parts h).2 _ (List.mem_singleton.2 rfl)
  have en : name = [101, 114, 114, 111, 114] := (Option.some.inj e1).symm
  subst en
  obtain rfl := Option.some.inj (gRt.symm.trans e2)
  have hm : ty ∈ (List.range 311).filter fun t => Tryz.prog.rowNamed t [101, 114, 114, 111, 114] := List.mem_filter.2 ⟨List.mem_range.2 (by rw [← gSize]; exact e3), e4⟩
  rw [gOne] at hm
  obtain rfl := List.mem_singleton.1 hm
  have hh : typeHandle Tryz.prog 200 = .pointer (some ⟨3, 200, none⟩) := by kernel_rfl
  rw [hh] at e5
  have := World.var?_cell gEt e5 0
  unfold ETy
  simpa using this
set_option maxRecDepth 100000 in
theorem ktab_of {W : World} (h : laidMetH Tryz.prog laidL W) : KTab W := by
  have hT : Lib.TabIs Tryz.prog W "strongbox/hash.roundWords" .u32 kWords :=
    Lib.tabIs_of_head (rest := laidQm) gTab gTabType Tryz.underlying245 Tryz.underlying162 cells44 cells54 (laid_parts h).1
  have hc : ∀ j, j < 64 → W.cell? ⟨2, j, none⟩ = some (.int .u32 (kWords.getD j 0)) := fun j hj => hT.cell gTab j hj
  exact ⟨World.block_lt_of_cell? W _ (hc 0 (by decide)), hc⟩
/-- A world for the witness: the settled one, the variables laid. -/
noncomputable def laidWorld (os : Os) : World :=
  let w0 := World.holding Tryz.prog os ⟨#[], #[], []⟩
  { w0 with heap := (w0.heap.modify 0 fun
      | .cells _ t frozen => .cells #[.iface 257 (.agg #[.pointer (some ⟨3, 200, none⟩)])] t frozen
      | o => o).modify 2 fun
      | .cells _ t frozen => .cells (kWords.map (Value.int .u32)).toArray t frozen
      | o => o }
theorem laid_metA (os : Os) (args : Array Value) : laidMet Tryz.prog laidPm ((laidWorld os).forCall (fun _ _ => 0) ⟨#[], args, []⟩).memory :=
  laidMet_of_run' 80 (by kernel_rfl) (by kernel_rfl)
end Go.Proofs.YtnfdedolgfcmfaaGreatDoor

namespace Go.Proofs.YtnfdedolgfcmfaaGreatDoor
open Go.ChangeShapes Go.WideShapes Go.ChangeAt Go.RowKit
set_option maxRecDepth 100000 in
/-- An argument []Edit. -/
theorem open_eds {H : Type} {enc : TypeId × Value → H} {w : World} {base : Nat} {spare : Nat → Bool} {held : Bool} {fuel : Nat} {a : Option Addr} {len cap : Nat} {x : DataW H × List MemPlace} (h : DataW.trod enc Tryz.prog w base spare held fuel 34 [.slice a len cap] = some x) :
    ∃ E : List (Int × Int), E.length = len ∧ EdM w w.heap.size a E ∧ (∀ j, j < len → I64 (E.getD j (0, 0)).1 ∧ I64 (E.getD j (0, 0)).2) ∧ len ≤ 9223372036854775807 := by
  rcases Deep.open_slice_pairs Tryz.underlying34 Tryz.underlying81 (by kernel_rfl) rfl rfl (by kernel_rfl) (by kernel_rfl) h with ⟨hcs, _⟩ | ⟨ad, ln, cp, m, n, V0, V1, D0, D1, P0, P1, hcs, _, hl, hm, hmm, rfl, hx⟩
  · simp at hcs
    obtain ⟨rfl, rfl, rfl⟩ := hcs
    exact ⟨[], rfl, fun j hj => absurd hj (by simp), fun j hj => absurd hj (by omega), by omega⟩
  · simp at hcs
    obtain ⟨rfl, rfl, rfl⟩ := hcs
    have hlm : len ≤ m := by rw [hmm]; split <;> omega
    have each : ∀ i, i < len → ∃ q : Int × Int, w.cell? (ad.add (i * 2)) = some (.int .i64 q.1) ∧ w.cell? (ad.add (i * 2 + 1)) = some (.int .i64 q.2) ∧ I64 q.1 ∧ I64 q.2 := by
      intro i hi
      obtain ⟨c0, c1, g0, g1⟩ := hx i (by omega)
      obtain ⟨z0, e0, d0, f0⟩ := DataW.trod_int Tryz.underlying3 g0
      obtain ⟨z1, e1, d1, f1⟩ := DataW.trod_int Tryz.underlying3 g1
      simp at e0 e1
      rw [e0] at c0
      rw [e1] at c1
      exact ⟨(z0, z1), c0, c1, wf_I64 f0, wf_I64 f1⟩
    obtain ⟨q, hq⟩ := Deep.choose_lt each
    have eg : ∀ j, j < len → ((List.range len).map q).getD j (0, 0) = q j := fun j hj => by simp [List.getD, List.getElem?_map, List.getElem?_range hj]
    refine ⟨(List.range len).map q, by simp, ?_, fun j hj => by rw [eg j hj]; exact (hq j hj).2.2, by simp only [maxLen] at hm; omega⟩
    intro j hj
    have hj' : j < len := by simpa using hj
    obtain ⟨q0, q1, _⟩ := hq j hj'
    obtain ⟨b, off, spot⟩ := ad
    have hspot : spot = none := by simpa [Addr.add] using World.cell?_spot (hq 0 (by omega)).1
    subst hspot
    rw [Addr.add_mid] at q0 q1
    rw [eg j hj']
    exact ⟨b, off, rfl, World.block_lt_of_cell? w _ q0, q0, by simpa [Nat.add_assoc] using q1⟩
end Go.Proofs.YtnfdedolgfcmfaaGreatDoor
