import Derived.Test.YtilhilglokblpaaDoorQpu
namespace Go.Proofs.YtilhilglokblpaaDoor
open Go.RowKit
set_option maxRecDepth 100000
theorem ba_inj {a b c d : ByteArray} (h : a ++ b = c ++ d) (hs : a.size = c.size) : a = c ∧ b = d := by
  have h1 : a.data.toList ++ b.data.toList = c.data.toList ++ d.data.toList := by
    have := congrArg (fun x : ByteArray => x.data.toList) h
    simpa [ByteArray.data_append] using this
  have h2 : a.data.toList.length = c.data.toList.length := hs
  obtain ⟨e1, e2⟩ := List.append_inj h1 h2
  refine ⟨?_, ?_⟩
  · cases a; cases c; simp only [ByteArray.mk.injEq]; exact Array.toList_inj.1 e1
  · cases b; cases d; simp only [ByteArray.mk.injEq]; exact Array.toList_inj.1 e2
theorem ba_app_ne {a b b' : ByteArray} (h : b ≠ b') : a ++ b ≠ a ++ b' := fun e => h (ba_inj e rfl).2
/-- do the texts at height h clash -/
def Cl (T T' : List ByteArray) (h : Nat) : Prop := T.getD h ⟨#[]⟩ ≠ T'.getD h ⟨#[]⟩ ∧ dg (T.getD h ⟨#[]⟩) = dg (T'.getD h ⟨#[]⟩)
theorem gl_app (U : List ByteArray) (x : ByteArray) (h : Nat) (hh : h < U.length) : (U ++ [x]).getD h ⟨#[]⟩ = U.getD h ⟨#[]⟩ := by
  rw [List.getD_eq_getElem?_getD, List.getD_eq_getElem?_getD, List.getElem?_append_left hh]
theorem gl_end (U : List ByteArray) (x : ByteArray) (n : Nat) (hn : n = U.length) : (U ++ [x]).getD n ⟨#[]⟩ = x := by
  subst hn
  rw [List.getD_eq_getElem?_getD, List.getElem?_append_right (Nat.le_refl _)]
  simp
theorem step_clash (U U' : List ByteArray) (x x' : ByteArray) (hl : U.length = U'.length) (h : (∃ q, q < U.length ∧ Cl U U' q) ∨ x ≠ x') : (∃ q, q < (U ++ [x]).length ∧ Cl (U ++ [x]) (U' ++ [x']) q) ∨ dg ((U ++ [x]).getLastD ⟨#[]⟩) ≠ dg ((U' ++ [x']).getLastD ⟨#[]⟩) := by
  rcases h with ⟨q, hq, h1, h2⟩ | h
  · refine .inl ⟨q, by rw [List.length_append]; omega, ?_⟩
    rw [Cl, gl_app U x q hq, gl_app U' x' q (by omega)]
    exact ⟨h1, h2⟩
  · by_cases e : dg x = dg x'
    · refine .inl ⟨U.length, by simp, ?_⟩
      rw [Cl, gl_end U x _ rfl, gl_end U' x' _ hl]
      exact ⟨h, e⟩
    · rw [List.getLastD_concat, List.getLastD_concat]
      exact .inr e
/-- different leaves: a clash, or different roots -/
theorem up_clash : ∀ (n i : Nat) (s s' : ByteArray) (P P' T T' : List ByteArray), up n i s P = some T → up n i s' P' = some T' → T.length = T'.length ∧ (s ≠ s' → (∃ q, q < T.length ∧ Cl T T' q) ∨ dg (T.getLastD ⟨#[]⟩) ≠ dg (T'.getLastD ⟨#[]⟩)) := by
  intro n
  induction n using Nat.strongRecOn with
  | _ n ih =>
  intro i s s' P P' T T' h h'
  by_cases hn : n < 2
  · rw [up, dif_pos hn] at h h'
    split at h
    case isFalse => cases h
    split at h'
    case isFalse => cases h'
    cases h
    cases h'
    exact ⟨rfl, fun hs => step_clash [] [] _ _ rfl (.inr (ba_app_ne hs))⟩
  · by_cases hP : P = []
    · rw [hP, up_nil n i s (by omega)] at h; cases h
    by_cases hP' : P' = []
    · rw [hP', up_nil n i s' (by omega)] at h'; cases h'
    obtain ⟨Q, b, rfl⟩ := list_last P hP
    obtain ⟨Q', b', rfl⟩ := list_last P' hP'
    by_cases hb : b.size = 32
    case neg => rw [up_bad n i s Q b (by omega) hb] at h; cases h
    by_cases hb' : b'.size = 32
    case neg => rw [up_bad n i s' Q' b' (by omega) hb'] at h'; cases h'
    by_cases hk : i < kk n
    · rw [up_left n i s Q b (by omega) hb hk] at h
      rw [up_left n i s' Q' b' (by omega) hb' hk] at h'
      obtain ⟨U, hU, rfl⟩ := Option.map_eq_some_iff.1 h
      obtain ⟨U', hU', rfl⟩ := Option.map_eq_some_iff.1 h'
      obtain ⟨hl, hi⟩ := ih (kk n) (kk_lt n (by omega)) i s s' Q Q' U U' hU hU'
      refine ⟨by simp [hl], fun hs => step_clash U U' _ _ hl ?_⟩
      rcases hi hs with q | q
      · exact .inl q
      · refine .inr (fun e => q ?_)
        have e1 := (ba_inj e (by simp only [ByteArray.size_append, dg_size])).1
        exact (ba_inj e1 rfl).2
    · rw [up_right n i s Q b (by omega) hb hk] at h
      rw [up_right n i s' Q' b' (by omega) hb' hk] at h'
      obtain ⟨U, hU, rfl⟩ := Option.map_eq_some_iff.1 h
      obtain ⟨U', hU', rfl⟩ := Option.map_eq_some_iff.1 h'
      obtain ⟨hl, hi⟩ := ih (n - kk n) (by have := kk_pos n; omega) (i - kk n) s s' Q Q' U U' hU hU'
      refine ⟨by simp [hl], fun hs => step_clash U U' _ _ hl ?_⟩
      rcases hi hs with q | q
      · exact .inl q
      · refine .inr (fun e => q ?_)
        exact (ba_inj e (by simp only [ByteArray.size_append, hb, hb'])).2
/-- the first clash of two rows of texts -/
def FcQ (T T' : List ByteArray) (a b : ByteArray) : Prop := ∃ h, h < T.length ∧ (∀ j, j < h → ¬ Cl T T' j) ∧ Cl T T' h ∧ a = T.getD h ⟨#[]⟩ ∧ b = T'.getD h ⟨#[]⟩
theorem FcQ.one {T T' : List ByteArray} {a b c d : ByteArray} (h : FcQ T T' a b) (h' : FcQ T T' c d) : a = c ∧ b = d := by
  obtain ⟨p, p1, p2, p3, rfl, rfl⟩ := h
  obtain ⟨q, q1, q2, q3, rfl, rfl⟩ := h'
  have : p = q := by
    rcases Nat.lt_trichotomy p q with e | e | e
    · exact absurd p3 (q2 p e)
    · exact e
    · exact absurd q3 (p2 q e)
  subst this
  exact ⟨rfl, rfl⟩
/-- what Check answers -/
noncomputable def ckE (root : ByteArray) (n i : Int) (s : ByteArray) (P : List ByteArray) : Int :=
  if root.size = 32 then
    if 1 ≤ n ∧ n ≤ 4096 ∧ 0 ≤ i ∧ i < n then
      (match up n.toNat i.toNat s P with
       | none => 192
       | some T => if dg (T.getLastD ⟨#[]⟩) = root then 0 else 192)
    else 190
  else 193
theorem ckE_ok {root : ByteArray} {n i : Int} {s : ByteArray} {P : List ByteArray} (h : ckE root n i s P = 0) : root.size = 32 ∧ (1 ≤ n ∧ n ≤ 4096 ∧ 0 ≤ i ∧ i < n) ∧ ∃ T, up n.toNat i.toNat s P = some T ∧ dg (T.getLastD ⟨#[]⟩) = root := by
  unfold ckE at h
  split at h
  case isFalse => omega
  rename_i h1
  split at h
  case isFalse => omega
  rename_i h2
  split at h
  case h_1 => omega
  rename_i T hT
  split at h
  case isFalse => omega
  rename_i h3
  exact ⟨h1, h2, T, hT, h3⟩
/-- two different leaves that are both taken clash -/
theorem fooled {root : ByteArray} {n i : Int} {s s' : ByteArray} {P P' : List ByteArray} (h : ckE root n i s P = 0) (h' : ckE root n i s' P' = 0) (hs : s ≠ s') : ∃ T T', up n.toNat i.toNat s P = some T ∧ up n.toNat i.toNat s' P' = some T' ∧ T.length = T'.length ∧ ∃ q, q < T.length ∧ Cl T T' q := by
  obtain ⟨_, _, T, hT, e⟩ := ckE_ok h
  obtain ⟨_, _, T', hT', e'⟩ := ckE_ok h'
  obtain ⟨hl, hc⟩ := up_clash _ _ _ _ _ _ _ _ hT hT'
  refine ⟨T, T', hT, hT', hl, ?_⟩
  rcases hc hs with q | q
  · exact q
  · exact absurd (e.trans e'.symm) q
end Go.Proofs.YtilhilglokblpaaDoor
