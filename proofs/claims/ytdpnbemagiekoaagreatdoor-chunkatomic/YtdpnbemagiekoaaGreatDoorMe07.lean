import Derived.Test.YtdpnbemagiekoaaGreatDoorMe06
set_option maxHeartbeats 2000000
set_option maxRecDepth 100000
namespace Go.Proofs.YtdpnbemagiekoaaGreatDoor
open List renaming getElem_toArray -> lD, getElem_cons_succ -> lE, getElem_cons_zero -> lF
section
open Go.RowKit
theorem zFD (t : ByteArray) (w : World) (ht : t.size <= 281474976710656) :
  Calls Tryz.prog 66 #[.string t] w fun e w' => e = .returned (.string t) /\ Below w.heap.size w w' := by
 go_enter Tryz.func66, Tryz.ntmps66
 go_wp2_with fail
 refine (Tryz.stringslite_Clone t w ht).mono ?_
 rintro ev x1 ⟨rfl, hb⟩
 have HB := uB hb
 clear hb
 go_wp2
 go_ret
 exact ⟨rfl, uA HB⟩
theorem zJ5 (t : ByteArray) (w : World) (ht : t.size <= 281474976710656) :
  Calls Tryz.prog 81 #[.string t] w fun e w' => e = .returned (.string t) /\ Below w.heap.size w w' := by
 go_enter Tryz.func81, Tryz.ntmps81
 go_wp2_with fail
 refine (zFD t w ht).mono ?_
 rintro ev x1 ⟨rfl, hb⟩
 have HB := uB hb
 clear hb
 go_wp2
 go_ret
 exact ⟨rfl, uA HB⟩
def isOk (s : DSt) (i : Int) : Prop := 0 <= i /\ i < (s.last.length : Int)
instance (s : DSt) (i : Int) : Decidable (isOk s i) := by unfold isOk; infer_instance
def zBc (s : DSt) (i : Int) : Int := if isOk s i then (if s.dead then 2 else 0) else 41
def zBb (s : DSt) (i : Int) : ByteArray := if isOk s i then (if s.dead then ⟨#[]⟩ else s.now.getD i.toNat ByteArray.empty) else ⟨#[]⟩
theorem zGd (w : World) (base b : Nat) (v : DV) (s : DSt) (h : Dk w base b v s) (hln : s.now.length = s.last.length) (i : Int) :
  Calls Tryz.prog 201 #[.pointer (some ⟨b, 0, none⟩), .int .i64 i] w fun e w' => e = .returned (.tuple #[.string (zBb s i), .int .i64 (zBc s i)]) /\ w' = w := by
 have c5 : w.cell? ⟨b, 5, none⟩ = some (.bool s.dead) := by rw [h.blk.cell 5]; rfl
 have H := uB h
 by_cases hi : isOk s i
 ·rw [zBb, zBc, if_pos hi, if_pos hi]
  by_cases hd : s.dead = true
  ·rw [if_pos hd, if_pos hd]
   rw [hd] at c5
   have e : decide (0 <= i /\ i < (s.last.length : Int)) = true := by simpa [isOk] using hi
   clear h hd hi
   go_enter Tryz.func201, Tryz.ntmps201
   go_wp2_with fail
   refine (zC1 w base b v s (uA H) i).mono ?_
   rintro ev x1 ⟨rfl, rfl⟩
   rw [e]
   clear e
   go_wp2
   go_ret2
   exact ⟨rfl, rfl⟩
  ·rw [if_neg hd, if_neg hd]
   rw [Bool.not_eq_true] at hd
   rw [hd] at c5
   have e : decide (0 <= i /\ i < (s.last.length : Int)) = true := by simpa [isOk] using hi
   obtain ⟨j, rfl⟩ := Int.eq_ofNat_of_zero_le hi.1
   have hj : j < s.now.length := by have := hi.2; omega
   obtain ⟨gn, capn, evn, _⟩ := h.rn.form (by omega)
   have hgn : v.n.ownBlock = some gn := by rw [evn]; rfl
   have c1 : w.cell? ⟨b, 1, none⟩ = some (.slice (some ⟨gn, 0, none⟩) s.now.length capn) := by rw [h.blk.cell 1, <- evn]; rfl
   have cj : w.cell? ⟨gn, j, none⟩ = some (.string (s.now.getD j ByteArray.empty)) := by rw [(zCd h.rn hgn j hj).1]; exact zCX _ _ hj
   rw [Int.toNat_natCast]
   generalize s.now.getD j ByteArray.empty = T at *
   generalize s.now.length = n at *
   clear h hd hi hln hgn evn
   go_enter Tryz.func201, Tryz.ntmps201
   go_wp2_with fail
   refine (zC1 w base b v s (uA H) (j : Int)).mono ?_
   rintro ev x1 ⟨rfl, rfl⟩
   rw [e]
   clear e
   go_wp2
   go_ret2
   exact ⟨rfl, rfl⟩
 ·rw [zBb, zBc, if_neg hi, if_neg hi]
  have e : decide (0 <= i /\ i < (s.last.length : Int)) = false := by simpa [isOk] using hi
  clear h hi
  go_enter Tryz.func201, Tryz.ntmps201
  go_wp2_with fail
  refine (zC1 w base b v s (uA H) i).mono ?_
  rintro ev x1 ⟨rfl, rfl⟩
  rw [e]
  clear e
  go_wp2
  go_ret2
  exact ⟨rfl, rfl⟩
structure Sane (s : DSt) : Prop where
 pos : 0 < s.last.length
 cap : s.last.length <= 1024
 same : s.now.length = s.last.length
 pend : zIN s
 fuse : 0 <= s.fuse /\ s.fuse <= 9223372036854775807
 acts : ∀ p ∈ s.acts, p.2 < 1024
def zBk (s : DSt) (i : Int) (t : ByteArray) : Int := if isOk s i then (if t.size = 256 then (if (zAF s).dead then 2 else 0) else 42) else 41
def zAP (s : DSt) (i : Int) (t : ByteArray) : DSt := if isOk s i then (if t.size = 256 then (if (zAF s).dead then zAF s else { zAF s with now := s.now.set i.toNat t, pend := s.pend ++ [(i.toNat, t)], acts := s.acts ++ [(0, i.toNat)] }) else s) else s
theorem zA2 (s : DSt) : (zAF s).last = s.last := by unfold zAF; split <;> rfl
theorem zCh (s : DSt) : (zAF s).now = s.now := by unfold zAF; split <;> rfl
theorem zBr (s : DSt) : (zAF s).pend = s.pend := by unfold zAF; split <;> rfl
theorem zBo (s : DSt) : (zAF s).acts = s.acts := by unfold zAF; split <;> rfl
theorem zDG (s : DSt) (h : 0 <= s.fuse /\ s.fuse <= 9223372036854775807) : 0 <= (zAF s).fuse /\ (zAF s).fuse <= 9223372036854775807 := by
 unfold zAF
 split
 ·show 0 <= s.fuse - 1 /\ s.fuse - 1 <= _
  omega
 ·exact h
theorem Sane.dies {s : DSt} (h : Sane s) : Sane (zAF s) :=
 ⟨by rw [zA2]; exact h.pos, by rw [zA2]; exact h.cap, by rw [zA2, zCh]; exact h.same, by intro p hp; rw [zBr] at hp; rw [zA2]; exact h.pend p hp, zDG s h.fuse, by rw [zBo]; exact h.acts⟩
theorem zGT (w : World) (base b : Nat) (v : DV) (s : DSt) (h : Dk w base b v s) (hb : base <= w.heap.size) (hS : Sane s) (hp : s.pend.length <= 1000000000) (ha : s.acts.length <= 1000000000) (i : Int) (t : ByteArray) :
  Calls Tryz.prog 40 #[.pointer (some ⟨b, 0, none⟩), .int .i64 i, .string t] w fun e w' => e = .returned (.int .i64 (zBk s i t)) /\ DPost base b v (zAP s i t) w w' := by
 have H := uB h
 have HS := uB hS
 clear h hS
 by_cases hi : isOk s i
 ·have e : decide (0 <= i /\ i < (s.last.length : Int)) = true := by simpa [isOk] using hi
  rw [zBk, zAP, if_pos hi, if_pos hi]
  by_cases ht : t.size = 256
  ·rw [if_pos ht, if_pos ht]
   have e2 : decide (t.size = 256) = true := by simpa using ht
   by_cases hd : (zAF s).dead = true
   ·rw [if_pos hd, if_pos hd]
    have HI := uB hi
    have HD := uB hd
    clear hi ht hd
    go_enter Tryz.func40, Tryz.ntmps40
    go_wp2_with fail
    refine (zC1 w base b v s (uA H) i).mono ?_
    rintro ev x1 ⟨rfl, rfl⟩
    rw [e]
    clear e
    go_wp2_with fail
    refine (zBy t _).mono ?_
    rintro ev x2 ⟨rfl, rfl⟩
    rw [e2]
    clear e2
    go_wp2_with fail
    refine (zEg _ base b v s (uA H) ⟨by have := (uA HS).fuse.1; omega, (uA HS).fuse.2⟩).mono ?_
    rintro ev x3 ⟨rfl, hD3, hO3⟩
    rw [uA HD]
    have XD := uB hD3
    have XO := uB hO3
    clear hD3 hO3
    go_wp2
    go_ret
    exact ⟨rfl, v, uA XD, uA XO, fun _ q => .inl q⟩
   ·rw [if_neg hd, if_neg hd]
    rw [Bool.not_eq_true] at hd
    obtain ⟨j, rfl⟩ := Int.eq_ofNat_of_zero_le hi.1
    have hj : j < s.last.length := by have := hi.2; omega
    rw [Int.toNat_natCast]
    have HI := uB hi
    have HD := uB hd
    have HT := uB ht
    have hj2 : j < 1024 := by have := (uA HS).cap; omega
    clear hi hd ht
    go_enter Tryz.func40, Tryz.ntmps40
    go_wp2_with fail
    refine (zC1 w base b v s (uA H) (j : Int)).mono ?_
    rintro ev x1 ⟨rfl, rfl⟩
    rw [e]
    clear e
    go_wp2_with fail
    refine (zBy t _).mono ?_
    rintro ev x2 ⟨rfl, rfl⟩
    rw [e2]
    clear e2
    go_wp2_with fail
    refine (zEg _ base b v s (uA H) ⟨by have := (uA HS).fuse.1; omega, (uA HS).fuse.2⟩).mono ?_
    rintro ev x3 ⟨rfl, hD3, hO3⟩
    rw [uA HD]
    have hs3 := hO3.size
    have XD := uB hD3
    have XO := uB hO3
    clear hD3 hO3
    go_wp2_with fail
    refine wp_region_held_drew (S := fun _ => True) (by kernel_rfl) trivial ?_
    intro hS
    refine yL 0 (some 18) (.pointer (some ⟨b, 0, none⟩)) rfl (fun w hSw => by go_simp) hS ?_
    refine yL 1 (some 19) (.pointer (some ⟨b, 0, none⟩)) rfl (fun w hSw => by go_simp) hS ?_
    refine yL 2 (some 20) (.pointer (some ⟨b, 0, none⟩)) rfl (fun w hSw => by go_simp) hS ?_
    refine yL 3 (some 21) (.int .i64 (j : Int)) rfl (fun w hSw => by go_simp) hS ?_
    refine yL 4 (some 22) (.string t) rfl (fun w hSw => by go_simp) hS ?_
    refine wpAnyH_ready (rs := [5]) (by kernel_rfl) (by simp) ?_
    refine AllReadyH.cons rfl (fun K hK => ?_) AllReadyH.nil
    simp only [lD, lE, lF]
    go_simp
    refine (zJ5 t _ (by rw [uA HT]; decide)).mono ?_
    rintro ev x4 ⟨rfl, hB4⟩
    have XD4 := uB ((uA XD).drew.below hB4)
    have XO4 := uB (show Only (Fd b v) _ x4 from (uA XO).drew.trans (Q := fun _ => False) (Only.of_below hB4) (fun _ _ q => q.elim))
    have hs4 : x3.heap.size <= x4.heap.size := hB4.size
    clear hB4 XD XO
    refine hK.out _ _ trivial (fun hS => ?_)
    clear hK K
    refine wpAnyH_ready (rs := [6]) (by kernel_rfl) (by simp) ?_
    refine AllReadyH.cons rfl (fun K hK => ?_) AllReadyH.nil
    simp only [lD, lE, lF]
    go_simp
    refine (zN1 _ base b v (zAF s) (uA XD4) (by omega) t j (by rw [zCh, (uA HS).same]; exact hj) (by rw [zBr]; exact hp)).mono ?_
    rintro ev x5 ⟨rfl, v5, hD5, hO5, hF5⟩
    have hs5 := hO5.size
    have XD5 := uB hD5
    have XO5 := uB hO5
    have XF5 := uB hF5
    clear hD5 hO5 hF5
    refine hK.out _ _ trivial (fun hS => ?_)
    clear hK K
    refine wpAnyH_done (by kernel_rfl) ?_ _
    clear hS
    go_wp2_with fail
    refine (zIx _ base b v5 _ (uA XD5) (by omega) 0 j (by omega) (by show (zAF s).acts.length <= _; rw [zBo]; exact ha)).mono ?_
    rintro ev x6 ⟨rfl, hP6⟩
    have XP6 := uB hP6
    clear hP6
    go_wp2
    go_ret
    refine ⟨rfl, DPost.trans (uA XO4) (fun _ q => .inl q) (DPost.trans (uA XO5) (uA XF5) ?_)⟩
    have := uA XP6
    simpa [zCh, zBr, zBo] using this
  ·rw [if_neg ht, if_neg ht]
   have e2 : decide (t.size = 256) = false := by simpa using ht
   clear hi ht
   go_enter Tryz.func40, Tryz.ntmps40
   go_wp2_with fail
   refine (zC1 w base b v s (uA H) i).mono ?_
   rintro ev x1 ⟨rfl, rfl⟩
   rw [e]
   clear e
   go_wp2_with fail
   refine (zBy t _).mono ?_
   rintro ev x2 ⟨rfl, rfl⟩
   rw [e2]
   clear e2
   go_wp2
   go_ret
   exact ⟨rfl, DPost.refl (uA H)⟩
 ·have e : decide (0 <= i /\ i < (s.last.length : Int)) = false := by simpa [isOk] using hi
  rw [zBk, zAP, if_neg hi, if_neg hi]
  clear hi
  go_enter Tryz.func40, Tryz.ntmps40
  go_wp2_with fail
  refine (zC1 w base b v s (uA H) i).mono ?_
  rintro ev x1 ⟨rfl, rfl⟩
  rw [e]
  clear e
  go_wp2
  go_ret
  exact ⟨rfl, DPost.refl (uA H)⟩
end
section
open Go.RowKit
def zCp (s : DSt) : Int := if (zAF s).dead then 2 else 0
def zBw (s : DSt) : DSt := if (zAF s).dead then zAF s else { zAF s with last := layP s.last s.pend, pend := [], acts := s.acts ++ [(1, 0)] }
theorem zGS (w : World) (base b : Nat) (v : DV) (s : DSt) (h : Dk w base b v s) (hb : base <= w.heap.size) (hS : Sane s) (hp : s.pend.length <= 1000000000) (ha : s.acts.length <= 1000000000) :
  Calls Tryz.prog 41 #[.pointer (some ⟨b, 0, none⟩)] w fun e w' => e = .returned (.int .i64 (zCp s)) /\ DPost base b v (zBw s) w w' := by
 have H := uB h
 have HS := uB hS
 clear h hS
 by_cases hd : (zAF s).dead = true
 ·rw [zCp, zBw, if_pos hd, if_pos hd]
  have HD := uB hd
  clear hd
  go_enter Tryz.func41, Tryz.ntmps41
  go_wp2_with fail
  refine (zEg _ base b v s (uA H) ⟨by have := (uA HS).fuse.1; omega, (uA HS).fuse.2⟩).mono ?_
  rintro ev x3 ⟨rfl, hD3, hO3⟩
  rw [uA HD]
  have XD := uB hD3
  have XO := uB hO3
  clear hD3 hO3
  go_wp2
  go_ret
  exact ⟨rfl, v, uA XD, uA XO, fun _ q => .inl q⟩
 ·rw [zCp, zBw, if_neg hd, if_neg hd]
  rw [Bool.not_eq_true] at hd
  have HD := uB hd
  clear hd
  go_enter Tryz.func41, Tryz.ntmps41
  go_wp2_with fail
  refine (zEg _ base b v s (uA H) ⟨by have := (uA HS).fuse.1; omega, (uA HS).fuse.2⟩).mono ?_
  rintro ev x3 ⟨rfl, hD3, hO3⟩
  rw [uA HD]
  have hs3 := hO3.size
  have XD := uB hD3
  have XO := uB hO3
  clear hD3 hO3
  go_wp2_with fail
  refine (zFC _ base b v _ (uA XD) (uA HS).dies.pend (by rw [zBr]; exact hp) (uA HS).dies.pos).mono ?_
  rintro ev x4 ⟨rfl, v4, hD4, hO4, hF4⟩
  have hs4 := hO4.size
  have XD4 := uB hD4
  have XO4 := uB hO4
  have XF4 := uB hF4
  clear hD4 hO4 hF4
  go_wp2_with fail
  refine (zIx _ base b v4 _ (uA XD4) (by omega) 1 0 (by omega) (by show (zAF s).acts.length <= _; rw [zBo]; exact ha)).mono ?_
  rintro ev x6 ⟨rfl, hP6⟩
  have XP6 := uB hP6
  clear hP6
  go_wp2
  go_ret
  refine ⟨rfl, DPost.trans (uA XO) (fun _ q => .inl q) (DPost.trans (uA XO4) (uA XF4) ?_)⟩
  have := uA XP6
  simpa [zA2, zCh, zBr, zBo] using this
def zCk (m : Nat) (l : List Int) : List Bool := (List.range m).map (fun i : Nat => decide ((i : Int) ∈ l))
def zCL (m : Nat) (z : Int) : Prop := 0 <= z /\ z < (m : Int)
instance (m : Nat) (z : Int) : Decidable (zCL m z) := by unfold zCL; infer_instance
def zEU (s : DSt) (l : List Int) : Int := if ∀ z ∈ l, zCL s.pend.length z then 0 else 43
def zDv (s : DSt) (l : List Int) : DSt := if ∀ z ∈ l, zCL s.pend.length z then { s with last := layP s.last (zAE s.pend (zCk s.pend.length l)), now := layP s.last (zAE s.pend (zCk s.pend.length l)), pend := [], fuse := 0, dead := false } else s
def Ints (w : World) (p : Option Addr) (l : List Int) : Prop := ∀ j, j < l.length -> ∃ g o, p = some ⟨g, o, none⟩ /\ g < w.heap.size /\ w.cell? ⟨g, o + j, none⟩ = some (.int .i64 (l.getD j 0))
theorem infoB : (Tryz.prog.info? 4).map (fun i => (i.zero, i.size, i.bytes)) = some (some (.bool false), 1, 1) := by kernel_rfl
theorem zGu (m : Nat) (l : List Int) : (zCk m l).length = m := by simp [zCk]
theorem zKp (m : Nat) : zCk m [] = List.replicate m false := by
 apply List.ext_getElem
 ·simp [zCk]
 ·intro j h1 h2
  simp [zCk]
theorem zJp (m : Nat) (l : List Int) (z : Nat) : zCk m (l ++ [(z : Int)]) = (zCk m l).set z true := by
 apply List.ext_getElem
 ·simp [zCk]
 ·intro j h1 h2
  simp only [zCk, List.getElem_map, List.getElem_range, List.getElem_set]
  by_cases hj : z = j
  ·subst hj; simp
  ·have : ¬ (j : Int) = (z : Int) := by omega
   simp [hj, this]
def zEH (l : List Bool) : Array Value := (l.map Value.bool).toArray
theorem zJa (l : Nat) (hc : l <= 281474976710656) (w : World) : (Instr.makeSlice 138 (.int .i64 (l : Int)) (.int .i64 (l : Int))).run Tryz.prog w = .ok (.slice (some ⟨w.heap.size, 0, none⟩) l l) (w.alloc (.cells (zEH (List.replicate l false)) 4)) := by
 obtain ⟨i0, hi, hz0, hz1, hz2⟩ := info_parts infoB
 have := run_make (P := Tryz.prog) w 138 4 i0 (.bool false) Tryz.underlying138 hi hz0 .i64 .i64 (l : Int) (l : Int) (by omega) (by omega) (by rw [hz2]; omega) (by omega)
 rw [this, hz1]
 simp only [Int.toNat_natCast, Nat.mul_one]
 congr 3
 apply Array.ext
 ·simp [size_madeCells, zEH]
 ·intro j h1 h2
  simp [madeCells, Value.cells, Nat.mod_one, zEH]
theorem zKx (l : List Bool) (j : Nat) (x : Bool) : (zEH l).setIfInBounds j (.bool x) = zEH (l.set j x) := by
 simp [zEH, List.map_set]
theorem zIp (l : List Bool) (j : Nat) (hj : j < l.length) : (zEH l)[j]? = some (.bool (l.getD j false)) := by
 simp [zEH, hj]
def KInv (w : World) (m : Nat) (l : List Int) (wr : World) : Prop := Blk wr w.heap.size (zEH (zCk m l)) 4 /\ Below w.heap.size w wr /\ ∀ z ∈ l, zCL m z
theorem KInv.step {w wr : World} {m : Nat} {l : List Int} (h : KInv w m l wr) (z : Nat) (hz : z < m) : KInv w m (l ++ [(z : Int)]) (wr.setCell ⟨w.heap.size, z, none⟩ (.bool true)) := by
 refine ⟨?_, h.2.1.setCell (Nat.le_refl _) _, fun y hy => ?_⟩
 ·rw [zJp, <- zKx]; exact h.1.set z _
 ·rcases List.mem_append.1 hy with hy | hy
  ·exact h.2.2 y hy
  ·simp at hy; subst hy; exact ⟨by omega, by omega⟩
theorem zLJ (w : World) (base b : Nat) (v : DV) (s : DSt) (h : Dk w base b v s) (hb : base <= w.heap.size) (hS : Sane s) (hp : s.pend.length <= 1000000000) (p : Option Addr) (l : List Int) (c : Nat) (hl : Ints w p l) (hll : l.length <= 9223372036854775807) :
  Calls Tryz.prog 32 #[.pointer (some ⟨b, 0, none⟩), .slice p l.length c] w fun e w' => e = .returned (.int .i64 (zEU s l)) /\ DPost base b v (zDv s l) w w' := by
 have H := uB h
 have HS := uB hS
 have HL := uB hl
 clear h hS hl
 go_enter Tryz.func32, Tryz.ntmps32
 go_wp2_with fail
 refine (zEp _ base b v s (uA H)).mono ?_
 rintro ev x1 ⟨rfl, rfl⟩
 have hmk := zJa s.pend.length (by omega) x1
 have X0 := uB (show KInv x1 s.pend.length [] (x1.alloc (.cells (zEH (List.replicate s.pend.length false)) 4)) from ⟨by rw [zKp]; exact Blk.new _ _ _, (Below.refl _ _).alloc (Nat.le_refl _) _, fun z hz => by simp at hz⟩)
 generalize hx2 : x1.alloc (.cells (zEH (List.replicate s.pend.length false)) 4) = x2 at *
 clear hx2
 go_wp2
 clear hmk
 go_loopw [15] (fun i wr => ∃ k : Nat, k <= l.length /\ i = .int .i64 (k : Int) /\ KInv x1 s.pend.length (l.take k) wr) (fun i _ => l.length - (intOf i).toNat)
 case atStart => exact ⟨0, by omega, rfl, uA X0⟩
 case round =>
  obtain ⟨k, hk, rfl, hI⟩ := hrel
  obtain ⟨wo, rfl⟩ : ∃ wo, wo = wr := ⟨_, rfl⟩
  have XI := uB hI
  clear hI X0
  by_cases hkl : k < l.length
  ·obtain ⟨g, o, rfl, hg, hc⟩ := uA HL k hkl
   have ck : wo.cell? ⟨g, o + k, none⟩ = some (.int .i64 (l.getD k 0)) := by rw [(uA XI).2.1.cell (p := ⟨g, o + k, none⟩) hg]; exact hc
   have HT := uB (show l.take (k + 1) = l.take k ++ [l.getD k 0] by
    rw [List.take_succ_eq_append_getElem hkl]
    simp [List.getD_eq_getElem?_getD, hkl])
   have HM := uB (show l.getD k 0 ∈ l by
    simp [List.getD_eq_getElem?_getD, hkl])
   generalize l.getD k 0 = z at *
   clear hc
   by_cases hz : zCL s.pend.length z
   ·obtain ⟨y, rfl⟩ := Int.eq_ofNat_of_zero_le hz.1
    have hy : y < s.pend.length := by have := hz.2; omega
    have cy : wo.cell? ⟨x1.heap.size, y, none⟩ = some (.bool ((zCk s.pend.length (l.take k)).getD y false)) := by rw [(uA XI).1.cell y]; exact zIp _ _ (by rw [zGu]; exact hy)
    have fy := (uA XI).1.frozen y
    generalize (zCk s.pend.length (l.take k)).getD y false = ob at *
    clear hz
    go_wp2
    go_roundw
    case rel =>
     refine ⟨k + 1, by omega, by go_num, ?_⟩
     rw [uA HT]
     exact (uA XI).step y hy
    case measure => simp [intOf]; omega
   ·have hE : ¬ ∀ z ∈ l, zCL s.pend.length z := fun h => hz (h z (uA HM))
    have HBE := uB (uA XI).2.1
    have HEE := uB hE
    clear hE HS HL
    by_cases hz0 : z < 0
    ·clear hz
     go_wp2
     go_ret
     exact ⟨by rw [zEU, if_neg (uA HEE)]; rfl, by rw [zDv, if_neg (uA HEE)]; exact ⟨v, (uA H).below (uA HBE), Only.of_below (uA HBE), fun _ q => .inl q⟩⟩
    ·have hz1 : (s.pend.length : Int) <= z := by
      have : ¬ (0 <= z /\ z < (s.pend.length : Int)) := hz
      omega
     clear hz
     go_wp2
     go_ret
     exact ⟨by rw [zEU, if_neg (uA HEE)]; rfl, by rw [zDv, if_neg (uA HEE)]; exact ⟨v, (uA H).below (uA HBE), Only.of_below (uA HBE), fun _ q => .inl q⟩⟩
  ·have hk' : k = l.length := by omega
   subst hk'
   rw [List.take_length] at XI
   have hE : ∀ z ∈ l, zCL s.pend.length z := (uA XI).2.2
   have XD := uB ((uA H).below (uA XI).2.1)
   have hsz := (uA XI).2.1.size
   have hgk : x1.heap.size < wo.heap.size := (uA XI).1.lt
   have HBo := uB (show zPt wo x1.heap.size (zCk s.pend.length l) from fun j hj => by rw [(uA XI).1.cell j]; exact zIp _ _ hj)
   have XO := uB (show Only (Fd b v) x1 wo from Only.of_below (uA XI).2.1)
   have HE := uB hE
   clear hE XI HL hkl hk
   go_wp2_with fail
   refine (zMN _ base b v s (uA XD) (by omega) (uA HS).pend hp (uA HS).pos (uA HS).same x1.heap.size hgk (zCk s.pend.length l) (zGu _ _) (uA HBo) s.pend.length).mono ?_
   rintro ev x3 ⟨rfl, v3, hD3, hO3, hF3⟩
   have f4 := hD3.blk.frozen 4
   have f5 := hD3.blk.frozen 5
   have c4 : x3.cell? ⟨b, 4, none⟩ = some (.int .i64 s.fuse) := by rw [hD3.blk.cell 4]; rfl
   have c5 : x3.cell? ⟨b, 5, none⟩ = some (.bool s.dead) := by rw [hD3.blk.cell 5]; rfl
   have XD3 := uB hD3
   have XO3 := uB hO3
   have XF3 := uB hF3
   clear hD3 hO3 hF3 HBo
   go_wp2
   go_ret
   refine ⟨by rw [zEU, if_pos (uA HE)]; rfl, DPost.trans (uA XO) (fun _ q => .inl q) ?_⟩
   rw [zDv, if_pos (uA HE)]
   refine DPost.trans (uA XO3) (uA XF3) ⟨v3, ((uA XD3).setFuse 0).setDead false, zD5 (zD5 (Only.refl _ _) _ _) _ _, fun _ q => .inl q⟩
end
section
open Go.RowKit
theorem zNx : (Tryz.prog.info? 9).map (fun i => (i.zero, i.size, i.bytes)) = some (some (.string ⟨#[]⟩), 1, 16) := by kernel_rfl
theorem zFq (l : Nat) (hc : l <= 17592186044416) (w : World) : (Instr.makeSlice 62 (.int .i64 (l : Int)) (.int .i64 (l : Int))).run Tryz.prog w = .ok (.slice (some ⟨w.heap.size, 0, none⟩) l l) (w.alloc (.cells (strs (List.replicate l ⟨#[]⟩)).toArray 9)) := by
 obtain ⟨i0, hi, hz0, hz1, hz2⟩ := info_parts zNx
 have := run_make (P := Tryz.prog) w 62 9 i0 (.string ⟨#[]⟩) Tryz.underlying62 hi hz0 .i64 .i64 (l : Int) (l : Int) (by omega) (by omega) (by rw [hz2]; omega) (by omega)
 rw [this, hz1]
 simp only [Int.toNat_natCast, Nat.mul_one]
 congr 3
 apply Array.ext
 ·simp [size_madeCells, strs]
 ·intro j h1 h2
  simp [madeCells, Value.cells, Nat.mod_one, strs]
def zB3 (t : ByteArray) (n m : Nat) : List Value := strs (List.replicate n t ++ List.replicate (m - n) ⟨#[]⟩)
def RpI (w : World) (t : ByteArray) (n m : Nat) (wr : World) : Prop := Blk wr w.heap.size (zB3 t n m).toArray 9 /\ Below w.heap.size w wr
theorem zLG (t : ByteArray) (n m : Nat) (h : n <= m) : (zB3 t n m).length = m := by simp [zB3, strs]; omega
theorem zJC (t : ByteArray) (n k m : Nat) : (zB3 t n m).take n ++ (strs (List.replicate k t) ++ (zB3 t n m).drop (n + k)) = zB3 t (n + k) m := by
 have e1 : (zB3 t n m).take n = strs (List.replicate n t) := by
  simp [zB3, strs]
 have e2 : (zB3 t n m).drop (n + k) = strs (List.replicate (m - (n + k)) ⟨#[]⟩) := by
  simp only [zB3, strs, List.map_append, List.map_replicate]
  rw [List.drop_append, List.drop_of_length_le (by simp), List.nil_append, List.drop_replicate]
  congr 1
  simp
  omega
 rw [e1, e2]
 simp only [zB3, strs, <- List.map_append]
 rw [<- List.append_assoc, List.replicate_append_replicate]
theorem zMq (t : ByteArray) (n m j : Nat) (h : j < n) : (zB3 t n m)[j]? = some (.string t) := by
 simp [zB3, strs, List.getElem?_append, h]
theorem zFB {o : Oper} {a : Act} {K : Act -> World -> Prop} {Q : Exit -> Act -> World -> Prop} (d x : Operand) (hop : o.op = .call { callee := .builtin .copy, args := #[d, x], argTypes := #[62, 62] })
  {w wr : World} {t : ByteArray} {n m : Nat} (hI : RpI w t n m wr) (k : Nat) (hnk : n + k <= m) (dLen dCap sLen sCap : Nat) (ad : Addr) (hd : a.eval d = .slice (some ⟨w.heap.size, n, none⟩) dLen dCap) (hs : a.eval x = .slice (some ad) sLen sCap) (hk : k = Nat.min sLen dLen)
  (hsrc : ∀ j, j < k -> wr.cell? (ad.add j) = some (.string t)) (h : ∀ W', RpI w t (n + k) m W' -> K (a.put o.dst (.int .i64 (k : Int))) W') : o.wp Tryz.prog a wr K Q := by
 have hl : (strs (List.replicate k t)).length = k := by simp [strs]
 have hrun := run_copy_row (P := Tryz.prog) wr 62 62 o.type 9 w.heap.size n dLen dCap ad sLen sCap (zB3 t n m).toArray 9 (strs (List.replicate k t)) Tryz.underlying62 (by kernel_rfl) hI.1 (by rw [hl]; exact hk) (fun j u hu => by
  have hj : j < k := by
   have := (List.getElem?_eq_some_iff.1 hu).1
   rwa [hl] at this
  simp [strs, hj] at hu
  rw [hsrc j hj, hu]) (by rw [hl]; simp [zLG t n m (by omega)]; exact hnk) (by simp [strs, Value.oneCell'])
 rw [hl] at hrun
 have e := setRow_heap wr w.heap.size (zB3 t n m).toArray ((zB3 t n m).toArray.toList.take n ++ strs (List.replicate k t) ++ (zB3 t n m).toArray.toList.drop (n + k)).toArray 9 (0, 0) hI.1
 have hW := h _ ⟨by rw [<- zJC t n k m, <- List.append_assoc]; exact e, below_setRow hI.2 (Nat.le_refl _) _⟩
 unfold Oper.wp
 simp only [execOp, hop]
 simp only [resolve, invoke, builtin, Sem.run_bind, Sem.run_pure, Result.andThen_ok, List.map_toArray, List.map_cons, List.map_nil, hd, hs, hrun]
 exact hW
theorem zE5 {ops : Array Oper} {rest : List Oper} {o : Oper} {a : Act} {Q : Exit -> Act -> World -> Prop} (hgd : o.guard = none) (d x : Operand) (hop : o.op = .call { callee := .builtin .copy, args := #[d, x], argTypes := #[62, 62] })
  {w wr : World} {t : ByteArray} {n m : Nat} (hI : RpI w t n m wr) (k : Nat) (hnk : n + k <= m) (dLen dCap sLen sCap : Nat) (ad : Addr) (hd : a.eval d = .slice (some ⟨w.heap.size, n, none⟩) dLen dCap) (hs : a.eval x = .slice (some ad) sLen sCap) (hk : k = Nat.min sLen dLen)
  (hsrc : ∀ j, j < k -> wr.cell? (ad.add j) = some (.string t)) (h : ∀ W', RpI w t (n + k) m W' -> wpList Tryz.prog ops Q rest (a.put o.dst (.int .i64 (k : Int))) W') : wpList Tryz.prog ops Q (o :: rest) a wr :=
 wpList_plain hgd fun _ hK => zFB d x hop hI k hnk dLen dCap sLen sCap ad hd hs hk hsrc fun W' hI' => hK _ _ (h W' hI')
theorem zHy (t : ByteArray) (m : Nat) (h1 : 1 <= m) (h2 : m <= 1024) (w : World) (g0 : Nat) (hg0 : g0 < w.heap.size) (hc : w.cell? ⟨g0, 0, none⟩ = some (.string t)) :
  Calls Tryz.prog 88 #[.slice (some ⟨g0, 0, none⟩) 1 1, .int .i64 (m : Int)] w fun e w' => e = .returned (.slice (some ⟨w.heap.size, 0, none⟩) m m) /\ Blk w' w.heap.size (strs (List.replicate m t)).toArray 9 /\ Below w.heap.size w w' := by
 have hmk := zFq m (by omega) w
 have X0 := uB (show RpI w t 0 m (w.alloc (.cells (strs (List.replicate m ⟨#[]⟩)).toArray 9)) from ⟨by simpa [zB3] using Blk.new w 9 (strs (List.replicate m ⟨#[]⟩)).toArray, (Below.refl _ _).alloc (Nat.le_refl _) _⟩)
 generalize hx2 : w.alloc (.cells (strs (List.replicate m ⟨#[]⟩)).toArray 9) = x2 at *
 clear hx2
 have HC := uB hc
 have HM := uB hmk
 clear hc hmk
 go_enter Tryz.func88, Tryz.ntmps88
 go_wp2_with fail
 refine (Tryz.bits_Mul 1 m (by omega) (by omega) w).mono ?_
 rintro ev x1 ⟨rfl, rfl⟩
 rw [show (1 * m / 18446744073709551616 : Nat) = 0 by omega, show (1 * m % 18446744073709551616 : Nat) = m by omega]
 have hmk := uA HM
 have wv : IntKind.i64.wrap (m : Int) = (m : Int) := zAB _ (by omega) (by omega)
 have HX := uB (show x2.cell? ⟨g0, 0, none⟩ = some (.string t) by rw [(uA X0).2.cell (p := ⟨g0, 0, none⟩) hg0]; exact uA HC)
 go_wp2_with (refine zE5 rfl (.tmp 31) (.tmp 32) rfl (uA X0) 1 (by omega) m m 1 1 ⟨g0, 0, none⟩ rfl rfl (by show 1 = min 1 m; omega) (fun j hj => by have hj0 : j = 0 := (by omega); subst hj0; rw [Addr.add_mid]; exact uA HX) ?_; intro W1 hI1; have X1 := uB hI1; clear hI1)
 clear X0 HX HC HM hmk
 go_loopw [8] (fun i wr => ∃ n : Nat, 1 <= n /\ n <= m /\ i = .int .i64 (n : Int) /\ RpI x1 t n m wr) (fun i _ => m - (intOf i).toNat)
 case atStart => exact ⟨1, by omega, by omega, rfl, by simpa using uA X1⟩
 case round =>
  obtain ⟨n, hn1, hn, rfl, hI⟩ := hrel
  have XI := uB hI
  clear hI X1
  by_cases hnm : n < m
  ·obtain ⟨k, hk⟩ : ∃ k, k = Nat.min n (m - n) := ⟨_, rfl⟩
   have hk1 : 1 <= k := by rw [hk]; simp only [Nat.min_def]; split <;> omega
   have hk2 : k <= n := by rw [hk]; exact Nat.min_le_left _ _
   have hk3 : n + k <= m := by
    have : k <= m - n := by rw [hk]; exact Nat.min_le_right _ _
    omega
   have HK := uB hk
   clear hk
   have i0 : 0 <= (n : Int) := by omega
   have i1 : (n : Int) <= (m : Int) := by omega
   have i2 : ¬ m = n := by omega
   have hw1 : IntKind.i64.wrap ((n : Int) + (k : Int)) = (n : Int) + (k : Int) := zAB _ (by omega) (by omega)
   go_wp2_with fail
   refine wp_region_held_drew (S := fun _ => True) (by kernel_rfl) trivial ?_
   intro hS
   refine yL 0 (some 38) (.int .i64 (n : Int)) rfl (fun w hSw => by go_simp) hS ?_
   refine yL 1 (some 39) (.slice (some ⟨x1.heap.size, 0, none⟩) m m) rfl (fun w hSw => by go_simp) hS ?_
   refine yL 2 (some 40) (.int .i64 (n : Int)) rfl (fun w hSw => by go_simp) hS ?_
   refine yL 3 (some 41) (.slice (some ⟨x1.heap.size, n, none⟩) (m - n) (m - n)) rfl (fun w hSw => by go_simp) hS ?_
   refine yL 4 (some 42) (.slice (some ⟨x1.heap.size, 0, none⟩) m m) rfl (fun w hSw => by go_simp) hS ?_
   refine yL 5 (some 43) (.int .i64 (n : Int)) rfl (fun w hSw => by go_simp) hS ?_
   refine yL 6 (some 44) (.slice (some ⟨x1.heap.size, 0, none⟩) n m) rfl (fun w hSw => by go_simp) hS ?_
   refine wpAnyH_ready (rs := [7]) (by kernel_rfl) (by simp) ?_
   refine AllReadyH.cons rfl (fun K hK => ?_) AllReadyH.nil
   simp only [lD, lE, lF]
   refine zFB (.tmp 41) (.tmp 44) rfl (show RpI x1 t n m wr.drew from ⟨(uA XI).1, (uA XI).2.drew⟩) k hk3 (m - n) (m - n) n m ⟨x1.heap.size, 0, none⟩ rfl rfl (uA HK) (fun j hj => by rw [Addr.add_mid, Nat.zero_add]; exact ((uA XI).1.cell j).trans (by have := zMq t n m j (by omega); simpa using this)) ?_
   intro W2 hI2
   have X2 := uB hI2
   clear hI2
   refine hK.out _ _ trivial (fun hS => ?_)
   clear hK K
   simp only [Act.put, List.setIfInBounds_toArray, List.set_cons_zero, List.set_cons_succ]
   refine yL 8 (some 46) (.int .i64 ((n : Int) + (k : Int))) rfl (fun w hSw => by go_simp) hS ?_
   refine yL 9 (some 8) (.int .i64 ((n : Int) + (k : Int))) rfl (fun w hSw => by go_simp) hS ?_
   refine wpAnyH_done (by kernel_rfl) ?_ _
   clear hS
   go_wp2
   go_roundw
   case rel => exact ⟨n + k, by omega, by omega, by go_num, uA X2⟩
   case measure => simp [intOf]; omega
  ·obtain rfl : n = m := by omega
   clear hnm
   go_wp2
   go_ret
   refine ⟨rfl, ?_, (uA XI).2⟩
   have := (uA XI).1
   simpa [zB3] using this
end
section
open Go.RowKit
theorem zHo (w : World) (base g : Nat) (l : List ByteArray) (h : Blk w g (strs l).toArray 9) (hb : base <= g) (hl : l.length <= 1000000) : w.ownsRow base 9 1 (.slice (some ⟨g, 0, none⟩) l.length l.length) l.length (strs l) :=
 ⟨by simp [zBC], .inr ⟨g, l.length, _, rfl, hb, h, Nat.le_refl _, by unfold maxLen; omega, by simp [zBC], by rw [Nat.mul_one]; exact List.take_of_length_le (by simp [zBC])⟩⟩
theorem zGR (w : World) (base : Nat) (v : Value) (l : List ByteArray) (h : w.ownsRow base 9 1 v l.length (strs l)) (hl : 0 < l.length) (hl2 : l.length <= 1000000) :
  Calls Tryz.prog 83 #[v] w fun e w' => ∃ v', e = .returned v' /\ w'.ownsRow w.heap.size 9 1 v' l.length (strs l) /\ Below w.heap.size w w' := by
 obtain ⟨g, cap, rfl, _, _⟩ := h.form hl
 refine (Tryz.slices_Clone_string g 0 l.length cap l w (Nat.le_refl _) (by omega) (fun j hj => by
  rw [Nat.zero_add, (zCd h rfl j hj).1]
  exact zCX _ _ hj)).mono ?_
 rintro e w' ⟨v', h1, h2, _, h3⟩
 exact ⟨v', h1, by rw [List.take_length] at h2; exact h2, h3⟩
theorem zK3 (w : World) (base b : Nat) (v : DV) (s : DSt) (h : Dk w base b v s) (hl : 0 < s.last.length) (hl2 : s.last.length <= 1024) :
  Calls Tryz.prog 34 #[.pointer (some ⟨b, 0, none⟩)] w fun e w' => ∃ v', e = .returned v' /\ w'.ownsRow w.heap.size 9 1 v' s.last.length (strs s.last) /\ Below w.heap.size w w' := by
 obtain ⟨g, cap, e, _⟩ := h.rl.form hl
 have c0 : w.cell? ⟨b, 0, none⟩ = some (.slice (some ⟨g, 0, none⟩) s.last.length cap) := by rw [h.blk.cell 0, <- e]; rfl
 have HR := uB (show w.ownsRow base 9 1 (.slice (some ⟨g, 0, none⟩) s.last.length cap) s.last.length (strs s.last) by rw [<- e]; exact h.rl)
 clear h e
 go_enter Tryz.func34, Tryz.ntmps34
 go_wp2_with fail
 refine (zGR w base _ s.last (uA HR) hl (by omega)).mono ?_
 rintro ev x1 ⟨v', rfl, hr, hb⟩
 obtain ⟨g1, cap1, rfl, _⟩ := hr.form hl
 have H1 := uB hr
 have H2 := uB hb
 clear hr hb
 go_wp2
 go_ret
 exact ⟨_, rfl, uA H1, uA H2⟩
theorem zAK {W : World} {b : Nat} {cur : Array Value} {T : TypeId} (ty : TypeId) (d : TypeDesc) (h : Blk W b cur T) (hu : Tryz.prog.underlying ty = some d) (hd : d.isRow = true) (hi : (Tryz.prog.info? ty).map (·.size) = some cur.size) : (loadVar ty ⟨b, 0, none⟩).run Tryz.prog W = .ok (.agg cur) W := by
 have := run_loadVar_mid (P := Tryz.prog) W b 0 ty cur.toList d (fun j v hv => by rw [Nat.zero_add, h.cell j]; simpa using hv) hu hd (by simpa using hi)
 simpa using this
theorem zEG (w : World) (g : Nat) (l : List ByteArray) (h : Blk w g (strs l).toArray 9) (hl : 0 < l.length) (hl2 : l.length <= 1024) :
  Calls Tryz.prog 82 #[.slice (some ⟨g, 0, none⟩) l.length l.length] w fun e w' => ∃ g1 cap1, e = .returned (.agg #[.slice (some ⟨g, 0, none⟩) l.length l.length, .slice (some ⟨g1, 0, none⟩) l.length cap1, .slice none 0 0]) /\ w'.ownsRow w.heap.size 9 1 (.slice (some ⟨g1, 0, none⟩) l.length cap1) l.length (strs l) /\ Below w.heap.size w w' := by
 have HR := uB (zHo w 0 g l h (Nat.zero_le _) (by omega))
 clear h
 go_enter Tryz.func82, Tryz.ntmps82
 go_wp2_with fail
 refine (zGR (w.alloc (Obj.cells #[Value.slice none 0 0, Value.slice none 0 0, Value.slice none 0 0] 65)) 0 _ l ((uA HR).alloc _) hl (by omega)).mono ?_
 rintro ev x1 ⟨v', rfl, hr, hb⟩
 have hx : x1.heap[w.heap.size]? = some (.cells #[Value.slice none 0 0, Value.slice none 0 0, Value.slice none 0 0] 65 (0, 0)) := (hb.block w.heap.size (by simp)).trans (Blk.new w 65 #[Value.slice none 0 0, Value.slice none 0 0, Value.slice none 0 0])
 obtain ⟨g1, cap1, rfl, hg1, _⟩ := hr.form hl
 have q0 : x1.cell? ⟨w.heap.size, 0, none⟩ = some (.slice none 0 0) := Blk.cell hx 0
 have q1 : x1.cell? ⟨w.heap.size, 1, none⟩ = some (.slice none 0 0) := Blk.cell hx 1
 have q2 : x1.cell? ⟨w.heap.size, 2, none⟩ = some (.slice none 0 0) := Blk.cell hx 2
 have p0 : x1.frozen? ⟨w.heap.size, 0, none⟩ = false := Blk.frozen hx 0
 have p1 : x1.frozen? ⟨w.heap.size, 1, none⟩ = false := Blk.frozen hx 1
 have p2 : x1.frozen? ⟨w.heap.size, 2, none⟩ = false := Blk.frozen hx 2
 have H1 := uB hr
 have H2 := uB hb
 have H3 := uB hx
 clear hr hb hx
 go_wp2
 have B3 := ((Blk.set (uA H3) 0 (.slice (some ⟨g, 0, none⟩) l.length l.length)).set 1 (.slice (some ⟨g1, 0, none⟩) l.length cap1)).set 2 (.slice none 0 0)
 have hld := zAK 65 _ B3 Tryz.underlying65 rfl (by kernel_rfl)
 refine bodyPost_ret (v := .agg #[.slice (some ⟨g, 0, none⟩) l.length l.length, .slice (some ⟨g1, 0, none⟩) l.length cap1, .slice none 0 0]) ?_ rfl ⟨g1, cap1, rfl, ?_, ?_⟩
 ·exact zAv rfl _ _ _ ⟨w.heap.size, 0, none⟩ rfl _ hld
 ·have hne : (Value.slice (some ⟨g1, 0, none⟩) l.length cap1).ownBlock ≠ some w.heap.size := by
   simp [Value.ownBlock]
   simp at hg1
   omega
  exact zCj (zAe (zAe (zAe (uA H1) _ _ hne) _ _ hne) _ _ hne) (by simp)
 ·exact ((((Below.refl _ w).alloc (Nat.le_refl _) _).trans ((uA H2).mono (by simp))).setCell (Nat.le_refl _) _ |>.setCell (Nat.le_refl _) _ |>.setCell (Nat.le_refl _) _)
def zCK (l : List ByteArray) : DSt := ⟨l, l, [], [], 0, false⟩
def zero256 : ByteArray := ⟨(List.replicate 256 0).toArray⟩
theorem zGL : (⟨(Lib.repeatL (ByteArray.mk #[0]).data.toList 256).toArray⟩ : ByteArray) = zero256 := by
 have h : Lib.repeatL (ByteArray.mk #[0]).data.toList 256 = List.replicate 256 0 := by
  have := Lib.repeatL_replicate 0 1 256
  rw [Nat.mul_one] at this
  exact this
 rw [h, zero256]
def zFR (n : Int) (w : World) (e : Ending) (w' : World) : Prop :=
 if 128 <= n /\ n <= 1024 then ∃ b v, e = .returned (.tuple #[.pointer (some ⟨b, 0, none⟩), .int .i64 0]) /\ Dk w' w.heap.size b v (zCK (List.replicate n.toNat zero256)) /\ Below w.heap.size w w'
 else e = .returned (.tuple #[.pointer none, .int .i64 40]) /\ w' = w
theorem zNZ (n : Int) (w : World) : Calls Tryz.prog 36 #[.int .i64 n] w (zFR n w) := by
 by_cases hn : 128 <= n /\ n <= 1024
 ·have e : decide (128 <= n /\ n <= 1024) = true := by simpa using hn
  obtain ⟨m, rfl⟩ := Int.eq_ofNat_of_zero_le (show 0 <= n by omega)
  have hm1 : 128 <= m := by omega
  have hm2 : m <= 1024 := by omega
  have HN := uB hn
  clear hn
  go_enter Tryz.func36, Tryz.ntmps36
  go_wp2_with fail
  refine (zCE _ _).mono ?_
  rintro ev x1 ⟨rfl, rfl⟩
  rw [e]
  clear e
  go_wp2_with fail
  have hrep := Tryz.strings_Repeat ⟨#[0]⟩ 256 x1 (by decide) (by decide)
  rw [zGL] at hrep
  refine hrep.mono ?_
  rintro ev x2 ⟨rfl, hb2⟩
  generalize hZ : zero256 = Z at *
  have HZ := uB hZ
  clear hZ
  have HB2 := uB hb2
  have hs2 := hb2.size
  clear hb2 hrep
  go_wp2_with fail
  refine (zHy Z m (by omega) hm2 _ x2.heap.size (by simp) (by simp)).mono ?_
  rintro ev x3 ⟨rfl, hk3, hb3⟩
  obtain ⟨L, hL⟩ : ∃ L, L = List.replicate m Z := ⟨_, rfl⟩
  have hLm : L.length = m := by rw [hL]; simp
  rw [<- hL] at hk3
  have HL := uB hL
  have hg : (x2.alloc (Obj.cells #[Value.string Z] 9)).heap.size = x2.heap.size + 1 := by simp
  rw [hg] at hk3 hb3 ⊢
  have HK3 := uB hk3
  have HB3 := uB (show Below x1.heap.size x1 x3 from ((uA HB2).alloc hs2 _).trans (hb3.mono (by omega)))
  have hs3 := hb3.size
  rw [hg] at hs3
  clear hL hk3 hb3 hg HB2
  subst hLm
  go_wp2_with fail
  refine (zEG _ _ L (uA HK3) (by omega) hm2).mono ?_
  rintro ev x4 ⟨g1, cap1, rfl, hr4, hb4⟩
  have hk4 := (uA HK3).below hb4 (uA HK3).lt
  have D := uB (show Dk (x4.alloc (Obj.cells #[.slice (some ⟨x2.heap.size + 1, 0, none⟩) L.length L.length, .slice (some ⟨g1, 0, none⟩) L.length cap1, .slice none 0 0, .slice none 0 0, .int .i64 0, .bool false] 68)) x1.heap.size x4.heap.size ⟨.slice (some ⟨x2.heap.size + 1, 0, none⟩) L.length L.length, .slice (some ⟨g1, 0, none⟩) L.length cap1, .slice none 0 0, .slice none 0 0⟩ (zCK L) from by
   have hg1 := (hr4.lt g1 rfl).1
   have hlt := (uA HK3).lt
   refine ⟨Blk.new _ _ _, (zHo x4 x1.heap.size _ L hk4 (by omega) (by omega)).alloc _, (zCj hr4 (by omega)).alloc _, World.ownsRow_nil _ _ _ _, World.ownsRow_nil _ _ _ _, fun k hk1 hk2 => ?_, ?_⟩
   ·simp [Value.ownBlock] at hk1 hk2
    omega
   ·have := hb4.size
    omega)
  have HB4 := uB ((uA HB3).trans (hb4.mono (uA HB3).size))
  clear hr4 hb4 hk4 HK3 HB3
  go_wp2
  go_ret2
  rw [zFR, if_pos (uA HN)]
  have D2 := uA D
  have e2 : zCK L = zCK (List.replicate (L.length : Int).toNat zero256) := by
   rw [Int.toNat_natCast, uA HZ, <- uA HL]
  rw [e2] at D2
  exact ⟨_, _, rfl, D2, (uA HB4).alloc (uA HB4).size _⟩
 ·have e : decide (128 <= n /\ n <= 1024) = false := by simpa using hn
  have HN := uB hn
  clear hn
  go_enter Tryz.func36, Tryz.ntmps36
  go_wp2_with fail
  refine (zCE _ _).mono ?_
  rintro ev x1 ⟨rfl, rfl⟩
  rw [e]
  clear e
  go_wp2
  go_ret2
  rw [zFR, if_neg (uA HN)]
  exact ⟨rfl, rfl⟩
end
end Go.Proofs.YtdpnbemagiekoaaGreatDoor
