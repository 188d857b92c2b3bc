import Derived.Test.YtkmgbicacbalfaaDoorRrd
import Derived.BigQuiet
namespace Go.Proofs.YtkmgbicacbalfaaDoor
open Go.RowKit
def Rrf (w : World) (b : Nat) (S : ByteArray) (t e : Int) : Prop := Blk w b #[.string S, .int .i64 t, .int .i64 e] 28
theorem Rrf.cells {w : World} {b : Nat} {r : ByteArray} {t e : Int} (h : Rrf w b r t e) : w.cell? ⟨b, 0, none⟩ = some (.string r) ∧ w.cell? ⟨b, 1, none⟩ = some (.int .i64 t) ∧ w.cell? ⟨b, 2, none⟩ = some (.int .i64 e) ∧ w.frozen? ⟨b, 0, none⟩ = false ∧ w.frozen? ⟨b, 1, none⟩ = false ∧ w.frozen? ⟨b, 2, none⟩ = false := by
  have h' : Blk w b #[.string r, .int .i64 t, .int .i64 e] 28 := h
  exact ⟨by rw [h'.cell 0]; rfl, by rw [h'.cell 1]; rfl, by rw [h'.cell 2]; rfl, h'.frozen 0, h'.frozen 1, h'.frozen 2⟩
theorem Rrf.wrong {w : World} {b : Nat} {S : ByteArray} {t e : Int} (h : Rrf w b S t e) (E : Int) : Rrf (w.setCell ⟨b, 2, none⟩ (.int .i64 E)) b S t E := Blk.set h 2 _
theorem Rrf.moved {w : World} {b : Nat} {S : ByteArray} {t e : Int} (h : Rrf w b S t e) (T : Int) : Rrf (w.setCell ⟨b, 1, none⟩ (.int .i64 T)) b S T e := Blk.set h 1 _
theorem Rrf.only {w w' : World} {b : Nat} {S : ByteArray} {t e : Int} {P : Nat → Prop} (h : Rrf w b S t e) (ho : Only P w w') (hp : ¬ P b) : Rrf w' b S t e := Blk.only h ho hp
def FPost (b : Nat) (S : ByteArray) (t E : Int) (c : Nat) (v : Value) (w : World) (ev : Ending) (w' : World) : Prop :=
  ev = .returned v ∧ Rrf w' b S (rTak t E c) E ∧ Only (fun k => k = b) w w'
theorem FPost.bad {b : Nat} {S : ByteArray} {t E : Int} {c : Nat} {v u : Value} {w : World} (h : Rrf w b S t 0) (hE : E ≠ 0) (hv : u = v) : FPost b S t E c v w (.returned u) (w.setCell ⟨b, 2, none⟩ (.int .i64 E)) :=
  ⟨by rw [hv], by unfold rTak; rw [if_neg hE]; exact h.wrong E, (Only.refl _ w).setCell _ _ (fun _ => rfl)⟩
set_option maxRecDepth 100000 in
set_option maxHeartbeats 4000000 in
theorem fdone_any (w : World) (b : Nat) (S : ByteArray) (at0 : Nat) (e : Int) (h : Rrf w b S (at0 : Int) e) (r : ByteArray) (hr : r.size = S.size - at0) :
    Calls Tryd.prog 26 #[.pointer (some ⟨b, 0, none⟩)] w fun ev w' => ev = .returned (.tuple #[.int .i64 (doneE r e), .int .i64 (at0 : Int)]) ∧ Below w.heap.size w w' := by
  obtain ⟨c0, c1, c2, f0, f1, f2⟩ := h.cells
  clear h
  by_cases he : e = 0
  · subst he
    by_cases hs : at0 < S.size
    · have hD : doneE r 0 = 33 := by rw [doneE, if_pos ⟨rfl, by omega⟩]
      rw [hD]
      clear hD
      go_enter Tryd.func26, Tryd.ntmps26
      go_wp2
      go_quiet (fail)
      go_wp2
      go_quiet (fail)
      go_wp2
      go_ret2
      exact ⟨rfl, below_drewN (below_drewN (Below.refl _ _) _) _⟩
    · have hD : doneE r 0 = 0 := by rw [doneE, if_neg (by omega)]
      rw [hD]
      clear hD
      go_enter Tryd.func26, Tryd.ntmps26
      go_wp2
      go_quiet (fail)
      go_wp2
      go_quiet (fail)
      go_wp2
      go_ret2
      exact ⟨rfl, below_drewN (below_drewN (Below.refl _ _) _) _⟩
  · have hD : doneE r e = e := by rw [doneE, if_neg (fun q => he q.1)]
    rw [hD]
    have hne : (e == 0) = false := by simp [he]
    clear hD
    go_enter Tryd.func26, Tryd.ntmps26
    go_wp2
    go_quiet (fail)
    go_wp2
    go_quiet (fail)
    go_wp2
    go_ret2
    exact ⟨rfl, below_drewN (below_drewN (Below.refl _ _) _) _⟩
set_option maxRecDepth 100000 in
set_option maxHeartbeats 4000000 in
theorem fNum_wrong (w : World) (b : Nat) (S : ByteArray) (t e : Int) (h : Rrf w b S t e) (he : e ≠ 0) (x : Int) :
    Calls Tryd.prog 7 #[.pointer (some ⟨b, 0, none⟩), .int .i64 x] w fun ev w' => ev = .returned (.int .i64 0) ∧ Rrf w' b S t e ∧ Only (fun k => k = b) w w' := by
  obtain ⟨c0, c1, c2, f0, f1, f2⟩ := h.cells
  have HH := hide h
  have hne : (e != 0) = true := by simp [he]
  clear h
  go_enter Tryd.func7, Tryd.ntmps7
  go_wp2
  go_ret
  exact ⟨rfl, unhide HH, Only.refl _ _⟩
set_option maxRecDepth 100000 in
set_option maxHeartbeats 4000000 in
theorem fVar_wrong (w : World) (b : Nat) (S : ByteArray) (t e : Int) (h : Rrf w b S t e) (he : e ≠ 0) :
    Calls Tryd.prog 23 #[.pointer (some ⟨b, 0, none⟩)] w fun ev w' => ev = .returned (.int .i64 0) ∧ Rrf w' b S t e ∧ Only (fun k => k = b) w w' := by
  obtain ⟨c0, c1, c2, f0, f1, f2⟩ := h.cells
  have HH := hide h
  have hne : (e != 0) = true := by simp [he]
  clear h
  go_enter Tryd.func23, Tryd.ntmps23
  go_wp2
  go_ret
  exact ⟨rfl, unhide HH, Only.refl _ _⟩
set_option maxRecDepth 100000 in
set_option maxHeartbeats 4000000 in
theorem fRaw_wrong (w : World) (b : Nat) (S : ByteArray) (t e : Int) (h : Rrf w b S t e) (he : e ≠ 0) (x : Int) :
    Calls Tryd.prog 24 #[.pointer (some ⟨b, 0, none⟩), .int .i64 x] w fun ev w' => ev = .returned (.string ⟨#[]⟩) ∧ Rrf w' b S t e ∧ Only (fun k => k = b) w w' := by
  obtain ⟨c0, c1, c2, f0, f1, f2⟩ := h.cells
  have HH := hide h
  have hne : (e != 0) = true := by simp [he]
  clear h
  go_enter Tryd.func24, Tryd.ntmps24
  go_wp2
  go_ret
  exact ⟨rfl, unhide HH, Only.refl _ _⟩
set_option maxRecDepth 100000 in
set_option maxHeartbeats 4000000 in
theorem fText_wrong (w : World) (b : Nat) (S : ByteArray) (t e : Int) (h : Rrf w b S t e) (he : e ≠ 0) (x : Int) :
    Calls Tryd.prog 25 #[.pointer (some ⟨b, 0, none⟩), .int .i64 x] w fun ev w' => ev = .returned (.string ⟨#[]⟩) ∧ Rrf w' b S t e ∧ Only (fun k => k = b) w w' := by
  obtain ⟨c0, c1, c2, f0, f1, f2⟩ := h.cells
  have HH := hide h
  have hne : (e != 0) = true := by simp [he]
  clear h
  go_enter Tryd.func25, Tryd.ntmps25
  go_wp2
  go_ret
  exact ⟨rfl, unhide HH, Only.refl _ _⟩
theorem dgA_bad : ∀ (f i n : Nat) (l : List Int), (dgA f i n l).1 ≠ 0 → (dgA f i n l).2.1 = 0
  | 0, _, _, _, _ => rfl
  | f + 1, i, n, [], _ => rfl
  | f + 1, i, n, d :: l, h => by
    rw [dgA] at h ⊢
    split
    · rfl
    · rename_i h1
      rw [if_neg h1] at h
      split
      · rename_i h2
        rw [if_pos h2] at h
        exact absurd rfl h
      · rename_i h2
        rw [if_neg h2] at h
        exact dgA_bad f _ _ l h
theorem dgA_badC : ∀ (f i n : Nat) (l : List Int), (dgA f i n l).1 ≠ 0 → (dgA f i n l).2.2 = 0
  | 0, _, _, _, _ => rfl
  | f + 1, i, n, [], _ => rfl
  | f + 1, i, n, d :: l, h => by
    rw [dgA] at h ⊢
    split
    · rfl
    · rename_i h1
      rw [if_neg h1] at h
      split
      · rename_i h2
        rw [if_pos h2] at h
        exact absurd rfl h
      · rename_i h2
        rw [if_neg h2] at h
        exact dgA_badC f _ _ l h
set_option maxRecDepth 100000 in
set_option maxHeartbeats 4000000 in
theorem fvar_any (w : World) (b : Nat) (S : ByteArray) (at0 : Nat) (h : Rrf w b S (at0 : Int) 0) (hat : at0 ≤ S.size) (hs : S.size ≤ 9223372036854775807) :
    Calls Tryd.prog 23 #[.pointer (some ⟨b, 0, none⟩)] w fun ev w' => FPost b S (at0 : Int) (varE (S.extract at0 S.size)) (varC (S.extract at0 S.size)) (.int .i64 (varV (S.extract at0 S.size) : Int)) w ev w' := by
  obtain ⟨c0, c1, c2, f0, f1, f2⟩ := h.cells
  obtain ⟨r, hr⟩ : ∃ r, S.extract at0 S.size = r := ⟨_, rfl⟩
  rw [hr]
  have hP : varP ((nums S).drop at0) = (varE r, (varP (nums r)).2.1, varC r) := by rw [← nums_tail, hr]; rfl
  have HD := hide (fun W => fdigits_any S at0 hat hs _ _ _ hP W)
  have hv : (varP (nums r)).2.1 = varV r := by
    unfold varV
    split
    · rfl
    · rename_i hne
      exact dgA_bad _ _ _ _ hne
  rw [hv] at HD
  have hc : varC r ≤ S.size - at0 := by
    have hrs : r.size = S.size - at0 := by rw [← hr]; simp
    by_cases h0 : varE r = 0
    · have := varC_le r h0
      omega
    · have : varC r = 0 := dgA_badC _ _ _ _ h0
      omega
  have hE0 : varE r ≠ 0 → varC r = 0 := fun q => dgA_badC _ _ _ _ q
  generalize varE r = E at *
  generalize varC r = C at *
  generalize varV r = V at *
  have HH := hide h
  have HE0 := hide hE0
  clear h hP hv hr hE0
  go_enter Tryd.func23, Tryd.ntmps23
  go_wp2
  go_quiet ((go_at_call 36; exact Calls.quiet_of_same (unhide HD _)))
  obtain ⟨x1, hx1⟩ : ∃ x, w.drewN nq = x := ⟨_, rfl⟩
  have hR1 : Rrf x1 b S (at0 : Int) 0 := by rw [← hx1]; exact unhide HH
  have hO1 : Only (fun k => k = b) w x1 := by rw [← hx1]; exact (Only.refl _ w).drewN _
  rw [hx1]
  obtain ⟨d0, d1, d2, g0, g1, g2⟩ := hR1.cells
  obtain ⟨p, hp⟩ : ∃ p, at0 + C = p := ⟨_, rfl⟩
  have hpi : (at0 : Int) + (C : Int) = (p : Int) := by omega
  have hwp : IntKind.i64.wrap (p : Int) = (p : Int) := wrapI_eq _ (by omega) (by omega)
  have HX := hide (show Rrf ((x1.setCell ⟨b, 2, none⟩ (.int .i64 E)).setCell ⟨b, 1, none⟩ (.int .i64 (p : Int))) b S (rTak (at0 : Int) E C) E ∧ Only (fun k => k = b) w ((x1.setCell ⟨b, 2, none⟩ (.int .i64 E)).setCell ⟨b, 1, none⟩ (.int .i64 (p : Int))) by
    refine ⟨?_, (hO1.setCell _ _ (fun _ => rfl)).setCell _ _ (fun _ => rfl)⟩
    have hT : rTak (at0 : Int) E C = (p : Int) := by
      unfold rTak
      split
      · exact hpi
      · rename_i hne
        have := unhide HE0 hne
        omega
    rw [hT]
    exact (hR1.wrong E).moved _)
  clear hR1 hx1 hO1 HH HE0 hp c0 c1 c2 f0 f1 f2
  go_wp2
  go_ret
  exact ⟨rfl, unhide HX⟩
end Go.Proofs.YtkmgbicacbalfaaDoor
