import Derived.Test.YtnkaooafenakdaaGreatDoorMr35
namespace Go.Proofs.YtnkaooafenakdaaGreatDoor
open Go.RowKit
/-- All of it, or nothing; and not nothing, if it must be there. -/
def StA (O : List ByteArray) (l : List Wr1) (must : Bool) (I : List ByteArray) : Prop := (StO O I ∧ must = false) ∨ StM O l I ∨ StN O l I
theorem StA.must {O : List ByteArray} {l : List Wr1} {I : List ByteArray} {m : Bool} (h : StA O l m I) (h2 : ¬ StO O I) (m' : Bool) : StA O l m' I := by
  rcases h with ⟨q, _⟩ | q
  · exact absurd q h2
  · exact .inr q
theorem StA.len {O : List ByteArray} {l : List Wr1} {I : List ByteArray} {m : Bool} (h : StA O l m I) : I.length = 128 := by
  rcases h with ⟨q, _⟩ | q | q
  · exact q.len
  · exact q.len
  · exact q.len
theorem StA.size {O : List ByteArray} {l : List Wr1} {I : List ByteArray} {m : Bool} (h : StA O l m I) : ∀ t ∈ I, t.size = 256 := by
  rcases h with ⟨q, _⟩ | q | q
  · exact q.size
  · exact q.size
  · exact q.size
theorem sub_nil {ps : List (Nat × ByteArray)} (h : ∀ p ∈ ps, p ∈ ([] : List (Nat × ByteArray))) : ps = [] := List.eq_nil_iff_forall_not_mem.2 (fun p hp => by have := h p hp; cases this)
theorem sub_one {x : Nat × ByteArray} {ps : List (Nat × ByteArray)} (h : ∀ p ∈ ps, p ∈ [x]) (hl : ps.length ≤ 1) : ps = [] ∨ ps = [x] := by
  match ps, hl with
  | [], _ => exact .inl rfl
  | [y], _ =>
    have := h y (by simp)
    simp at this
    rw [this]
    exact .inr rfl
theorem natW_take (l : List Wr1) (n : Nat) : natW (l.take n) = (natW l).take n := by simp [natW, List.map_take]
def hsetW (l : List Wr1) : Wr1 := (1, headB 2 (secs (filled l)))
def hclrW : Wr1 := (1, headB 2 [])
/-- Two runs: the homes, and the head that is cleared, on a disk that may die. -/
theorem homes_at {O I : List ByteArray} {l : List Wr1} (h : StM O l I) (hl : GoodL l) (hO : O.length = 128) (A : List (Nat × Nat)) (f : Nat) (h2 : f ≤ 1000000) :
    ∃ e s', runsR ⟨I, I, [], A, (f : Int), false⟩ [filled l, [hclrW]] = (e, s') ∧ (e = 0 ∨ (e = 2 ∧ 1 ≤ f)) ∧ s'.pend.length ≤ 16 ∧ s'.acts.length ≤ A.length + 19 ∧ (e = 0 → Crashed (StN O l) s') ∧ Crashed (fun I => StM O l I ∨ StN O l I) s' := by
  have h16 := filled_len l hl.len
  have hok : OkW I.length (filled l) := by rw [h.len]; exact fill_ok l hl
  have hM := h.lay hl (natW (filled l)) (fun _ q => q)
  have hk2 : OkW (layP I (natW (filled l))).length [hclrW] := head_ok _ (by rw [layP_len, h.len]; decide) 2 _ (by simp)
  by_cases c0 : f = 0
  · subst c0
    have e1 := lay_rs I A (filled l) hok
    have e2 := lay_rs (layP I (natW (filled l))) (A ++ actW (filled l) ++ [(1, 0)]) [hclrW] hk2
    have hC : Crashed (StN O l) (rs (layP (layP I (natW (filled l))) (natW [hclrW])) (A ++ actW (filled l) ++ [(1, 0)] ++ actW [hclrW] ++ [(1, 0)])) := fun ps hp _ => by
      rw [sub_nil hp]
      exact h.done hl hO
    refine ⟨0, rs (layP (layP I (natW (filled l))) (natW [hclrW])) (A ++ actW (filled l) ++ [(1, 0)] ++ actW [hclrW] ++ [(1, 0)]), ?_, .inl rfl, Nat.zero_le _, ?_, fun _ => hC, fun ps hp q => .inr (hC ps hp q)⟩
    · show runsR (rs I A) [filled l, [hclrW]] = _
      rw [runsR, e1, if_pos rfl, runsR]
      simp only
      rw [e2, if_pos rfl, runsR]
    · simp [rs, actW, h16]
  by_cases c1 : f ≤ 17
  · have e1 := lay_dies (filled l) ⟨I, I, [], A, (f : Int), false⟩ (f - 1) rfl (by show (f : Int) = _; omega) (by omega) hok
    refine ⟨2, ⟨I, layP I (natW ((filled l).take (f - 1))), [] ++ natW ((filled l).take (f - 1)), A ++ actW ((filled l).take (f - 1)), 0, true⟩, ?_, .inr ⟨rfl, by omega⟩, ?_, ?_, fun q => (by cases q), fun ps hp _ => .inl (h.lay hl ps (fun p q => ?_))⟩
    · rw [runsR, e1, if_neg (show ¬ (2 : Int) = 0 by decide)]
    · simp [natW]; omega
    · simp [actW]; omega
    · have := hp p q
      rw [List.nil_append, natW_take] at this
      exact List.mem_of_mem_take this
  · have e1 := lay_armed (filled l) ⟨I, I, [], A, (f : Int), false⟩ rfl (by show _ < (f : Int); rw [h16]; omega) hok
    have f1 : layR ⟨I, I, [], A, (f : Int), false⟩ (filled l) = (0, ⟨layP I (natW (filled l)), layP I (natW (filled l)), [], A ++ actW (filled l) ++ [(1, 0)], (f : Int) - 17, false⟩) := by
      rw [e1, h16]
      rfl
    by_cases c2 : f ≤ 19
    · have e2 := lay_dies [hclrW] ⟨layP I (natW (filled l)), layP I (natW (filled l)), [], A ++ actW (filled l) ++ [(1, 0)], (f : Int) - 17, false⟩ (f - 18) rfl (by show (f : Int) - 17 = _; omega) (by simp; omega) hk2
      refine ⟨2, ⟨layP I (natW (filled l)), layP (layP I (natW (filled l))) (natW ([hclrW].take (f - 18))), [] ++ natW ([hclrW].take (f - 18)), A ++ actW (filled l) ++ [(1, 0)] ++ actW ([hclrW].take (f - 18)), 0, true⟩, ?_, .inr ⟨rfl, by omega⟩, ?_, ?_, fun q => (by cases q), fun ps hp hlen => ?_⟩
      · rw [runsR, f1, if_pos rfl, runsR]
        simp only
        rw [e2, if_neg (show ¬ (2 : Int) = 0 by decide)]
      · simp [natW]; omega
      · simp [actW, h16]; omega
      · have hp' : ∀ p ∈ ps, p ∈ [((1 : Nat), headB 2 [])] := fun p q => by
          have := hp p q
          rw [List.nil_append, natW_take] at this
          exact List.mem_of_mem_take this
        have hl1 : ps.length ≤ 1 := by
          refine Nat.le_trans hlen ?_
          simp [natW]; omega
        rcases sub_one hp' hl1 with q | q
        · subst q; exact .inl hM
        · subst q; exact .inr (h.done hl hO)
    · have e2 := lay_armed [hclrW] ⟨layP I (natW (filled l)), layP I (natW (filled l)), [], A ++ actW (filled l) ++ [(1, 0)], (f : Int) - 17, false⟩ rfl (by show ((1 : Nat) : Int) + 1 < (f : Int) - 17; omega) hk2
      have hC : Crashed (StN O l) ⟨layP (layP I (natW (filled l))) ([] ++ natW [hclrW]), layP (layP I (natW (filled l))) (natW [hclrW]), [], A ++ actW (filled l) ++ [(1, 0)] ++ actW [hclrW] ++ [(1, 0)], (f : Int) - 17 - (((1 : Nat) : Int) + 1), false⟩ := fun ps hp _ => by
        rw [sub_nil hp]
        exact h.done hl hO
      refine ⟨0, ⟨layP (layP I (natW (filled l))) ([] ++ natW [hclrW]), layP (layP I (natW (filled l))) (natW [hclrW]), [], A ++ actW (filled l) ++ [(1, 0)] ++ actW [hclrW] ++ [(1, 0)], (f : Int) - 17 - (((1 : Nat) : Int) + 1), false⟩, ?_, .inl rfl, Nat.zero_le _, ?_, fun _ => hC, fun ps hp q => .inr (hC ps hp q)⟩
      · rw [runsR, f1, if_pos rfl, runsR]
        simp only
        rw [e2]
        rw [if_pos rfl, runsR]
        rfl
      · simp [actW, h16]
/-- A commit on a disk that may die. -/
theorem commit_at {O : List ByteArray} {l : List Wr1} (h : StO O O) (hl : GoodL l) (A : List (Nat × Nat)) (f : Nat) (h2 : f ≤ 1000000) :
    ∃ e s' nx lost, commitR ⟨O, O, [], A, (f : Int), false⟩ 2 false l = ⟨e, s', nx, lost⟩ ∧ (e = 0 ∨ e = 2) ∧ s'.pend.length ≤ 16 ∧ s'.acts.length ≤ A.length + 38 ∧ Crashed (StA O l (decide (e = 0))) s' := by
  have hO := h.len
  have h16 := filled_len l hl.len
  have hr : refE l ((O.length : Nat) : Int) = 0 := by rw [hO]; exact hl.ref
  by_cases c0 : f = 0
  · subst c0
    have e := commit_rs O A 2 l hO hl
    refine ⟨0, rs (comL O 2 l) (A ++ comA l), 3, false, e, .inl rfl, Nat.zero_le _, by show (A ++ comA l).length ≤ _; rw [List.length_append, comA_len l hl.len]; exact Nat.le_refl _, fun ps hp _ => ?_⟩
    rw [sub_nil hp]
    exact .inr (.inr ((StM.of_mid hl hO h.size).done hl hO))
  · have key : ∃ e s', runsR ⟨O, O, [], A, (f : Int), false⟩ (runsOf 2 l) = (e, s') ∧ (e = 0 ∨ e = 2) ∧ s'.pend.length ≤ 16 ∧ s'.acts.length ≤ A.length + 38 ∧ Crashed (StA O l (decide (e = 0))) s' := by
      have hok : OkW O.length (recL (filled l)) := by rw [hO]; exact rec_ok l hl
      have hrl : (recL (filled l)).length = 16 := by rw [recL_len, h16]
      by_cases c1 : f ≤ 17
      · have e1 := lay_dies (recL (filled l)) ⟨O, O, [], A, (f : Int), false⟩ (f - 1) rfl (by show (f : Int) = _; omega) (by omega) hok
        refine ⟨2, ⟨O, layP O (natW ((recL (filled l)).take (f - 1))), [] ++ natW ((recL (filled l)).take (f - 1)), A ++ actW ((recL (filled l)).take (f - 1)), 0, true⟩, ?_, .inr rfl, ?_, ?_, fun ps hp _ => .inl ⟨h.lay ps (fun p q => ?_), by decide⟩⟩
        · rw [runsOf, runsR, e1, if_neg (show ¬ (2 : Int) = 0 by decide)]
        · simp [natW]; omega
        · simp [actW]; omega
        · have := hp p q
          rw [List.nil_append, natW_take] at this
          exact rec_range l hl p (List.mem_of_mem_take this)
      · have e1 := lay_armed (recL (filled l)) ⟨O, O, [], A, (f : Int), false⟩ rfl (by show _ < (f : Int); rw [hrl]; omega) hok
        obtain ⟨O1, hO1⟩ : ∃ O1, layP O (natW (recL (filled l))) = O1 := ⟨_, rfl⟩
        have f1 : layR ⟨O, O, [], A, (f : Int), false⟩ (recL (filled l)) = (0, ⟨O1, O1, [], A ++ actW (recL (filled l)) ++ [(1, 0)], (f : Int) - 17, false⟩) := by
          rw [e1, hrl, ← hO1]
          rfl
        have hSO1 : StO O O1 := by rw [← hO1]; exact h.lay _ (rec_range l hl)
        have hMid : layP O1 [(1, headB 2 (secs (filled l)))] = midL O 2 l := by rw [← hO1]; rfl
        have hk2 : OkW O1.length [hsetW l] := head_ok _ (by rw [hSO1.len]; decide) 2 _ (by rw [secs16 l hl]; decide)
        have hA1 : (A ++ actW (recL (filled l)) ++ [(1, 0)]).length = A.length + 17 := by simp [actW, hrl]
        generalize A ++ actW (recL (filled l)) ++ [(1, 0)] = A1 at *
        by_cases c2 : f ≤ 19
        · have e2 := lay_dies [hsetW l] ⟨O1, O1, [], A1, (f : Int) - 17, false⟩ (f - 18) rfl (by show (f : Int) - 17 = _; omega) (by simp; omega) hk2
          refine ⟨2, ⟨O1, layP O1 (natW ([hsetW l].take (f - 18))), [] ++ natW ([hsetW l].take (f - 18)), A1 ++ actW ([hsetW l].take (f - 18)), 0, true⟩, ?_, .inr rfl, ?_, ?_, fun ps hp hlen => ?_⟩
          · rw [runsOf, runsR, f1, if_pos rfl, runsR]
            simp only
            rw [show [((1 : Int), headB 2 (secs (filled l)))] = [hsetW l] from rfl, e2, if_neg (show ¬ (2 : Int) = 0 by decide)]
          · simp [natW]; omega
          · simp [actW]; omega
          · have hp' : ∀ p ∈ ps, p ∈ [((1 : Nat), headB 2 (secs (filled l)))] := fun p q => by
              have := hp p q
              rw [List.nil_append, natW_take] at this
              exact List.mem_of_mem_take this
            have hl1 : ps.length ≤ 1 := by
              refine Nat.le_trans hlen ?_
              simp [natW]; omega
            rcases sub_one hp' hl1 with q | q
            · subst q; exact .inl ⟨hSO1, by decide⟩
            · subst q
              refine .inr (.inl ?_)
              show StM O l (layP O1 [(1, headB 2 (secs (filled l)))])
              rw [hMid]
              exact StM.of_mid hl hO h.size
        · have e2 := lay_armed [hsetW l] ⟨O1, O1, [], A1, (f : Int) - 17, false⟩ rfl (by show ((1 : Nat) : Int) + 1 < (f : Int) - 17; omega) hk2
          have f2 : layR ⟨O1, O1, [], A1, (f : Int) - 17, false⟩ [hsetW l] = (0, ⟨midL O 2 l, midL O 2 l, [], A1 ++ actW [hsetW l] ++ [(1, 0)], ((f - 19 : Nat) : Int), false⟩) := by
            rw [e2, ← hMid]
            have : (f : Int) - 17 - (((([hsetW l] : List Wr1).length : Nat) : Int) + 1) = ((f - 19 : Nat) : Int) := by simp; omega
            simp only [this]
            rfl
          obtain ⟨e, s', hrun, he, hp, ha, hn, hc⟩ := homes_at (StM.of_mid hl hO h.size) hl hO (A1 ++ actW [hsetW l] ++ [(1, 0)]) (f - 19) (by omega)
          refine ⟨e, s', ?_, he.imp id (·.1), hp, ?_, fun ps q1 q2 => ?_⟩
          · rw [runsOf, runsR, f1, if_pos rfl, runsR]
            simp only
            rw [show [((1 : Int), headB 2 (secs (filled l)))] = [hsetW l] from rfl, f2, if_pos rfl]
            exact hrun
          · have : (A1 ++ actW [hsetW l] ++ [(1, 0)]).length = A1.length + 2 := by simp [actW]
            omega
          · exact .inr (hc ps q1 q2)
    obtain ⟨e, s', hrun, he2, hp, ha, hc⟩ := key
    by_cases he : e = 0
    · refine ⟨e, s', (2 + 1) % 4294967296, false, ?_, he2, hp, ha, hc⟩
      rw [commitR, hr, if_neg (by simp), if_neg (by decide), hrun, if_pos he, he]
    · refine ⟨e, s', 2, true, ?_, he2, hp, ha, hc⟩
      rw [commitR, hr, if_neg (by simp), if_neg (by decide), hrun, if_neg he]
/-- What is done once more, on a disk that may die. -/
theorem redo_at {O I : List ByteArray} {l : List Wr1} (h : StM O l I) (hl : GoodL l) (hO : O.length = 128) (A : List (Nat × Nat)) (f : Nat) (h2 : f ≤ 1000000) :
    ∃ e s', redoR ⟨I, I, [], A, (f : Int), false⟩ 2 (secs (filled l)) = (e, s') ∧ (e = 0 ∨ (e = 2 ∧ 1 ≤ f)) ∧ s'.pend.length ≤ 16 ∧ s'.acts.length ≤ A.length + 19 ∧ (e = 0 → Crashed (StN O l) s') ∧ Crashed (fun I => StM O l I ∨ StN O l I) s' := by
  obtain ⟨e, s', hrun, r⟩ := homes_at h hl hO A f h2
  refine ⟨e, s', ?_, r⟩
  have h16 := filled_len l hl.len
  have hL : redoL ⟨I, I, [], A, (f : Int), false⟩ (secs (filled l)) = filled l := by
    refine List.ext_getElem (by rw [redoL_len, secs16 l hl, h16]) (fun i q1 q2 => ?_)
    have hi : i < 16 := by omega
    rw [← getD_of q1, ← getD_of q2, redoL_at _ _ i (by rw [secs16 l hl]; exact hi), secs_at _ i (by omega), (readB (s := ⟨I, I, [], A, (f : Int), false⟩) rfl (2 + i) (by show 2 + i < I.length; rw [h.len]; omega)).2]
    show (_, I.getD (2 + i) ByteArray.empty) = _
    rw [h.recs i hi]
  rw [redoR, hL]
  rw [runsR] at hrun
  by_cases q : (layR ⟨I, I, [], A, (f : Int), false⟩ (filled l)).1 = 0
  · rw [if_pos q] at hrun ⊢
    rw [runsR] at hrun
    by_cases q2 : (layR (layR ⟨I, I, [], A, (f : Int), false⟩ (filled l)).2 [hclrW]).1 = 0
    · rw [if_pos q2, runsR] at hrun
      refine Eq.trans ?_ hrun
      exact Prod.ext q2 rfl
    · rw [if_neg q2] at hrun
      exact hrun
  · rw [if_neg q] at hrun ⊢
    exact hrun
end Go.Proofs.YtnkaooafenakdaaGreatDoor
