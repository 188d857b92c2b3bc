import Derived.Test.YtpjoibolhkgkhaaGreatDoorRdd
namespace Go.Proofs.YtpjoibolhkgkhaaGreatDoor
open Go.RowKit
/-- A Reader's state: what is left, how much was taken, what was wrong first. -/
structure RSt where
  r : ByteArray
  t : Int
  e : Int
def stepR (s : RSt) (E : Int) (c : Nat) : RSt := if s.e = 0 then ⟨rRest s.r E c, rTak s.t E c, E⟩ else s
def Rds (w : World) (b : Nat) (s : RSt) : Prop := Rdr w b s.r s.t s.e
def RSt.ok (s : RSt) (N : Nat) : Prop := 0 ≤ s.t ∧ s.t + (s.r.size : Int) ≤ (N : Int)
theorem rRest_size (r : ByteArray) (E : Int) (c : Nat) : (rRest r E c).size = if E = 0 then r.size - c else 0 := by
  unfold rRest
  split
  · simp
  · rfl
theorem stepR_ok (s : RSt) (E : Int) (c N : Nat) (h : s.ok N) (hc : E = 0 → c ≤ s.r.size) : (stepR s E c).ok N := by
  unfold stepR
  split
  · refine ⟨?_, ?_⟩
    · show 0 ≤ rTak s.t E c
      have := h.1
      unfold rTak
      split <;> omega
    · show rTak s.t E c + ((rRest s.r E c).size : Int) ≤ (N : Int)
      rw [rRest_size]
      have h1 := h.1
      have h2 := h.2
      unfold rTak
      split
      · rename_i h0
        have := hc h0
        omega
      · omega
  · exact h
theorem numS (w : World) (b : Nat) (s : RSt) (h : Rds w b s) (hg : ETy w) (hN : s.ok 9223372036854775807) (bytes : Int) :
    Calls Tryz.prog 39 #[.pointer (some ⟨b, 0, none⟩), .int .i64 bytes] w fun ev w' => ev = .returned (.int .i64 (if s.e = 0 then numV bytes s.r else 0)) ∧ Rds w' b (stepR s (numE bytes s.r) (bytes.toNat)) ∧ Only (fun k => k = b) w w' := by
  by_cases he : s.e = 0
  · have h' : Rdr w b s.r s.t 0 := by rw [← he]; exact h
    refine (rnum_any w b s.r s.t h' hg hN.1 hN.2 bytes).mono ?_
    rintro ev w' ⟨rfl, hR, hO⟩
    refine ⟨by rw [if_pos he], ?_, hO⟩
    unfold Rds stepR
    rw [if_pos he]
    exact hR
  · refine (rNum_wrong w b s.r s.t s.e h he bytes).mono ?_
    rintro ev w' ⟨rfl, hR, hO⟩
    refine ⟨by rw [if_neg he], ?_, hO⟩
    unfold Rds stepR
    rw [if_neg he]
    exact hR
theorem rawS (w : World) (b : Nat) (s : RSt) (h : Rds w b s) (hg : ETy w) (hN : s.ok 9223372036854775807) (n : Int) :
    Calls Tryz.prog 73 #[.pointer (some ⟨b, 0, none⟩), .int .i64 n] w fun ev w' => ev = .returned (.string (if s.e = 0 then rawV n s.r else ⟨#[]⟩)) ∧ Rds w' b (stepR s (rawE n s.r) (n.toNat)) ∧ Only (fun k => k = b) w w' := by
  by_cases he : s.e = 0
  · have h' : Rdr w b s.r s.t 0 := by rw [← he]; exact h
    refine (rraw_any w b s.r s.t h' hg hN.1 hN.2 n).mono ?_
    rintro ev w' ⟨rfl, hR, hO⟩
    refine ⟨by rw [if_pos he], ?_, hO⟩
    unfold Rds stepR
    rw [if_pos he]
    exact hR
  · refine (rRaw_wrong w b s.r s.t s.e h he n).mono ?_
    rintro ev w' ⟨rfl, hR, hO⟩
    refine ⟨by rw [if_neg he], ?_, hO⟩
    unfold Rds stepR
    rw [if_neg he]
    exact hR
theorem numE_le (bytes : Int) (r : ByteArray) (h : numE bytes r = 0) : bytes.toNat ≤ r.size ∧ 1 ≤ bytes ∧ bytes ≤ 8 := by
  unfold numE at h
  split at h
  · cases h
  · split at h
    · cases h
    · omega
theorem rawE_le (n : Int) (r : ByteArray) (h : rawE n r = 0) : n.toNat ≤ r.size ∧ 0 ≤ n := by
  unfold rawE at h
  split at h
  · cases h
  · split at h
    · cases h
    · omega
theorem textE_le (most : Int) (r : ByteArray) (h : textE most r = 0) : varC r + varV r ≤ r.size ∧ varE r = 0 ∧ (varV r : Int) ≤ most ∧ 0 ≤ most := by
  unfold textE at h
  split at h
  · cases h
  · split at h
    · rename_i h1 h2; exact absurd h h2
    · split at h
      · cases h
      · split at h
        · cases h
        · rename_i h1 h2 h3 h4
          exact ⟨by omega, by simpa using h2, by omega, by omega⟩
theorem Rds.only {w w' : World} {b : Nat} {s : RSt} {P : Nat → Prop} (h : Rds w b s) (ho : Only P w w') (hp : ¬ P b) : Rds w' b s := Blk.only h ho hp
theorem Rds.ne {w : World} {b : Nat} {s : RSt} (h : Rds w b s) (hg : ETy w) : b ≠ 0 := hg.ne h
end Go.Proofs.YtpjoibolhkgkhaaGreatDoor
