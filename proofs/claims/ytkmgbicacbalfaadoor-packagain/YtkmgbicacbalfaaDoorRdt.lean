import Derived.Test.YtkmgbicacbalfaaDoorRrn
import Derived.Test.YtkmgbicacbalfaaDoorTkd
import Derived.Deep.RegionHeld3
namespace Go.Proofs.YtkmgbicacbalfaaDoor
open Go.RowKit
/-- Both Readers of one text, behind the same calls. -/
def rst (S : ByteArray) (a : Nat) (e : Int) : RSt := ⟨if e = 0 then S.extract a S.size else ⟨#[]⟩, (a : Int), e⟩
def Two (w : World) (b c : Nat) (S : ByteArray) (a : Nat) (e : Int) : Prop := Rds w b (rst S a e) ∧ Rrf w c S (a : Int) e ∧ b ≠ c ∧ a ≤ S.size
def stepA (a : Nat) (E : Int) (c : Nat) : Nat := if E = 0 then a + c else a
theorem rst_step (S : ByteArray) (a : Nat) (E : Int) (c : Nat) : stepR (rst S a 0) E c = rst S (stepA a E c) E := by
  unfold stepR rst stepA rRest rTak
  simp only [if_true]
  by_cases h : E = 0
  · simp only [h, if_true]
    rw [extract_tail]
    congr 1
  · simp only [h, if_false]
theorem rst_ok (S : ByteArray) (a : Nat) (e : Int) (ha : a ≤ S.size) (hs : S.size ≤ 9223372036854775807) : (rst S a e).ok 9223372036854775807 := by
  refine ⟨by show 0 ≤ (a : Int); omega, ?_⟩
  show (a : Int) + (((rst S a e).r.size : Nat) : Int) ≤ _
  by_cases h : e = 0
  · simp only [rst, h, if_true]
    have : (S.extract a S.size).size = S.size - a := by simp
    omega
  · simp only [rst, h, if_false]
    have : (⟨#[]⟩ : ByteArray).size = 0 := rfl
    omega
theorem rTak_stepA (a : Nat) (E : Int) (c : Nat) : rTak (a : Int) E c = ((stepA a E c : Nat) : Int) := by
  unfold rTak stepA
  split <;> simp
theorem stepA_le (S : ByteArray) (a : Nat) (E : Int) (c : Nat) (ha : a ≤ S.size) (h : E = 0 → c ≤ (S.extract a S.size).size) : stepA a E c ≤ S.size := by
  unfold stepA
  split
  · rename_i h0
    have := h h0
    have e : (S.extract a S.size).size = S.size - a := by simp
    omega
  · exact ha
theorem tNum (S : ByteArray) (a : Nat) (e : Int) (ha : a ≤ S.size) (hs : S.size ≤ 9223372036854775807) (x : Int) : ∃ (V : Int) (a' : Nat) (e' : Int), a' ≤ S.size ∧
    (∀ W b, Rds W b (rst S a e) → ETy W → Calls Tryd.prog 6 #[.pointer (some ⟨b, 0, none⟩), .int .i64 x] W fun ev w' => ev = .returned (.int .i64 V) ∧ Rds w' b (rst S a' e') ∧ Only (fun k => k = b) W w') ∧
    (∀ W c, Rrf W c S (a : Int) e → Calls Tryd.prog 7 #[.pointer (some ⟨c, 0, none⟩), .int .i64 x] W fun ev w' => ev = .returned (.int .i64 V) ∧ Rrf w' c S (a' : Int) e' ∧ Only (fun k => k = c) W w') := by
  by_cases he : e = 0
  · subst he
    refine ⟨(numV x (S.extract a S.size)), stepA a (numE x (S.extract a S.size)) (x.toNat), numE x (S.extract a S.size), stepA_le S a _ _ ha (fun h => (numE_le _ _ h).1), fun W b hW hg => ?_, fun W c hW => ?_⟩
    · refine (numS W b (rst S a 0) hW hg (rst_ok S a 0 ha hs) x).mono ?_
      rintro ev w' ⟨rfl, h1, h2⟩
      refine ⟨rfl, ?_, h2⟩
      rw [← rst_step]
      exact h1
    · refine (fnum_any W c S a hW ha hs x).mono ?_
      rintro ev w' ⟨rfl, h1, h2⟩
      refine ⟨rfl, ?_, h2⟩
      rw [← rTak_stepA]
      exact h1
  · refine ⟨0, a, e, ha, fun W b hW hg => ?_, fun W c hW => ?_⟩
    · refine (numS W b (rst S a e) hW hg (rst_ok S a e ha hs) x).mono ?_
      rintro ev w' ⟨h0, h1, h2⟩
      refine ⟨?_, ?_, h2⟩
      · rw [h0]
        simp only [rst, he, if_false]
      · have : stepR (rst S a e) = fun _ _ => rst S a e := by
          funext E c
          unfold stepR
          exact if_neg he
        rw [this] at h1
        exact h1
    · exact fNum_wrong W c S (a : Int) e hW he x
theorem tVar (S : ByteArray) (a : Nat) (e : Int) (ha : a ≤ S.size) (hs : S.size ≤ 9223372036854775807) : ∃ (V : Int) (a' : Nat) (e' : Int), a' ≤ S.size ∧
    (∀ W b, Rds W b (rst S a e) → ETy W → Calls Tryd.prog 12 #[.pointer (some ⟨b, 0, none⟩)] W fun ev w' => ev = .returned (.int .i64 V) ∧ Rds w' b (rst S a' e') ∧ Only (fun k => k = b) W w') ∧
    (∀ W c, Rrf W c S (a : Int) e → Calls Tryd.prog 23 #[.pointer (some ⟨c, 0, none⟩)] W fun ev w' => ev = .returned (.int .i64 V) ∧ Rrf w' c S (a' : Int) e' ∧ Only (fun k => k = c) W w') := by
  by_cases he : e = 0
  · subst he
    refine ⟨(varV (S.extract a S.size) : Int), stepA a (varE (S.extract a S.size)) (varC (S.extract a S.size)), varE (S.extract a S.size), stepA_le S a _ _ ha (varC_le _), fun W b hW hg => ?_, fun W c hW => ?_⟩
    · refine (varS W b (rst S a 0) hW hg (rst_ok S a 0 ha hs)).mono ?_
      rintro ev w' ⟨rfl, h1, h2⟩
      refine ⟨rfl, ?_, h2⟩
      rw [← rst_step]
      exact h1
    · refine (fvar_any W c S a hW ha hs).mono ?_
      rintro ev w' ⟨rfl, h1, h2⟩
      refine ⟨rfl, ?_, h2⟩
      rw [← rTak_stepA]
      exact h1
  · refine ⟨0, a, e, ha, fun W b hW hg => ?_, fun W c hW => ?_⟩
    · refine (varS W b (rst S a e) hW hg (rst_ok S a e ha hs)).mono ?_
      rintro ev w' ⟨h0, h1, h2⟩
      refine ⟨?_, ?_, h2⟩
      · rw [h0]
        simp only [rst, he, if_false]
      · have : stepR (rst S a e) = fun _ _ => rst S a e := by
          funext E c
          unfold stepR
          exact if_neg he
        rw [this] at h1
        exact h1
    · exact fVar_wrong W c S (a : Int) e hW he
theorem tRaw (S : ByteArray) (a : Nat) (e : Int) (ha : a ≤ S.size) (hs : S.size ≤ 9223372036854775807) (x : Int) : ∃ (V : ByteArray) (a' : Nat) (e' : Int), a' ≤ S.size ∧
    (∀ W b, Rds W b (rst S a e) → ETy W → Calls Tryd.prog 15 #[.pointer (some ⟨b, 0, none⟩), .int .i64 x] W fun ev w' => ev = .returned (.string V) ∧ Rds w' b (rst S a' e') ∧ Only (fun k => k = b) W w') ∧
    (∀ W c, Rrf W c S (a : Int) e → Calls Tryd.prog 24 #[.pointer (some ⟨c, 0, none⟩), .int .i64 x] W fun ev w' => ev = .returned (.string V) ∧ Rrf w' c S (a' : Int) e' ∧ Only (fun k => k = c) W w') := by
  by_cases he : e = 0
  · subst he
    refine ⟨(rawV x (S.extract a S.size)), stepA a (rawE x (S.extract a S.size)) (x.toNat), rawE x (S.extract a S.size), stepA_le S a _ _ ha (fun h => (rawE_le _ _ h).1), fun W b hW hg => ?_, fun W c hW => ?_⟩
    · refine (rawS W b (rst S a 0) hW hg (rst_ok S a 0 ha hs) x).mono ?_
      rintro ev w' ⟨rfl, h1, h2⟩
      refine ⟨rfl, ?_, h2⟩
      rw [← rst_step]
      exact h1
    · refine (fraw_any W c S a hW ha hs x).mono ?_
      rintro ev w' ⟨rfl, h1, h2⟩
      refine ⟨rfl, ?_, h2⟩
      rw [← rTak_stepA]
      exact h1
  · refine ⟨⟨#[]⟩, a, e, ha, fun W b hW hg => ?_, fun W c hW => ?_⟩
    · refine (rawS W b (rst S a e) hW hg (rst_ok S a e ha hs) x).mono ?_
      rintro ev w' ⟨h0, h1, h2⟩
      refine ⟨?_, ?_, h2⟩
      · rw [h0]
        simp only [rst, he, if_false]
      · have : stepR (rst S a e) = fun _ _ => rst S a e := by
          funext E c
          unfold stepR
          exact if_neg he
        rw [this] at h1
        exact h1
    · exact fRaw_wrong W c S (a : Int) e hW he x
theorem tText (S : ByteArray) (a : Nat) (e : Int) (ha : a ≤ S.size) (hs : S.size ≤ 9223372036854775807) (x : Int) : ∃ (V : ByteArray) (a' : Nat) (e' : Int), a' ≤ S.size ∧
    (∀ W b, Rds W b (rst S a e) → ETy W → Calls Tryd.prog 16 #[.pointer (some ⟨b, 0, none⟩), .int .i64 x] W fun ev w' => ev = .returned (.string V) ∧ Rds w' b (rst S a' e') ∧ Only (fun k => k = b) W w') ∧
    (∀ W c, Rrf W c S (a : Int) e → Calls Tryd.prog 25 #[.pointer (some ⟨c, 0, none⟩), .int .i64 x] W fun ev w' => ev = .returned (.string V) ∧ Rrf w' c S (a' : Int) e' ∧ Only (fun k => k = c) W w') := by
  by_cases he : e = 0
  · subst he
    refine ⟨(textV x (S.extract a S.size)), stepA a (textE x (S.extract a S.size)) ((varC (S.extract a S.size) + varV (S.extract a S.size))), textE x (S.extract a S.size), stepA_le S a _ _ ha (fun h => (textE_le _ _ h).1), fun W b hW hg => ?_, fun W c hW => ?_⟩
    · refine (textS W b (rst S a 0) hW hg (rst_ok S a 0 ha hs) x).mono ?_
      rintro ev w' ⟨rfl, h1, h2⟩
      refine ⟨rfl, ?_, h2⟩
      rw [← rst_step]
      exact h1
    · refine (ftext_any W c S a hW ha hs x).mono ?_
      rintro ev w' ⟨rfl, h1, h2⟩
      refine ⟨rfl, ?_, h2⟩
      rw [← rTak_stepA]
      exact h1
  · refine ⟨⟨#[]⟩, a, e, ha, fun W b hW hg => ?_, fun W c hW => ?_⟩
    · refine (textS W b (rst S a e) hW hg (rst_ok S a e ha hs) x).mono ?_
      rintro ev w' ⟨h0, h1, h2⟩
      refine ⟨?_, ?_, h2⟩
      · rw [h0]
        simp only [rst, he, if_false]
      · have : stepR (rst S a e) = fun _ _ => rst S a e := by
          funext E c
          unfold stepR
          exact if_neg he
        rw [this] at h1
        exact h1
    · exact fText_wrong W c S (a : Int) e hW he x
end Go.Proofs.YtkmgbicacbalfaaDoor
