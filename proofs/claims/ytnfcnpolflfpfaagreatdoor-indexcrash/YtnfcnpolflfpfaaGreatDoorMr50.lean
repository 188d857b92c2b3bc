import Derived.Test.YtnfcnpolflfpfaaGreatDoorMr42
import Derived.Test.YtnfcnpolflfpfaaGreatDoorMr37
namespace Go.Proofs.YtnfcnpolflfpfaaGreatDoor
open Go.RowKit Go.Maps Go.Sort Go.Shelf
structure StOv (ha : Nat) (O I : List ByteArray) : Prop where
  len : I.length = 128
  size : ∀ t ∈ I, t.size = 256
  head : I.getD 1 ByteArray.empty = headB ha []
  free : freeQ I O
/-- The head is set, the records lie there; the homes are what they are. -/
structure StMv (hb : Nat) (O : List ByteArray) (l : List Wr1) (I : List ByteArray) : Prop where
  len : I.length = 128
  size : ∀ t ∈ I, t.size = 256
  head : I.getD 1 ByteArray.empty = headB hb (secs (filled l))
  recs : ∀ i, i < 16 → I.getD (2 + i) ByteArray.empty = ((filled l).getD i wr0).2
  rest : ∀ k, 19 ≤ k → (∀ p ∈ natW l, p.1 ≠ k) → I.getD k ByteArray.empty = O.getD k ByteArray.empty
/-- The commit is there. -/
structure StNv (hb : Nat) (O : List ByteArray) (l : List Wr1) (I : List ByteArray) : Prop where
  len : I.length = 128
  size : ∀ t ∈ I, t.size = 256
  head : I.getD 1 ByteArray.empty = headB hb []
  free : freeQ I (layP O (natW l))
theorem StOv.lay {ha : Nat} {O I : List ByteArray} (h : StOv ha O I) (ps : List (Nat × ByteArray)) (hp : ∀ p ∈ ps, 2 ≤ p.1 ∧ p.1 < 18 ∧ p.2.size = 256) : StOv ha O (layP I ps) := by
  refine ⟨by rw [layP_len]; exact h.len, layP_size _ _ h.size (fun p q => (hp p q).2.2), ?_, fun k h1 h2 => ?_⟩
  · rw [layP_skip _ _ 1 (fun p q => by have := hp p q; omega)]; exact h.head
  · rw [layP_len] at h2
    rw [layP_skip _ _ k (fun p q => by have := hp p q; omega)]
    exact h.free k h1 h2
theorem StMv.lay {hb : Nat} {O I : List ByteArray} {l : List Wr1} (h : StMv hb O l I) (hl : GoodL l) (ps : List (Nat × ByteArray)) (hp : ∀ p ∈ ps, p ∈ natW (filled l)) : StMv hb O l (layP I ps) := by
  have hin : ∀ p ∈ ps, (p.1 = 18 ∨ ∃ q ∈ natW l, q.1 = p.1) ∧ 18 ≤ p.1 ∧ p.2.size = 256 := fun p hq => by
    have hm := hp p hq
    have hsz := natW_size (fill_ok l hl) p hm
    rw [filled, natW_app] at hm
    rcases List.mem_append.1 hm with r | r
    · refine ⟨.inr ⟨p, r, rfl⟩, ?_, hsz⟩
      obtain ⟨x, hx, rfl⟩ := List.mem_map.1 r
      have := hl.free x hx
      show 18 ≤ x.1.toNat
      omega
    · obtain ⟨x, hx, rfl⟩ := List.mem_map.1 r
      have := List.eq_of_mem_replicate hx
      subst this
      exact ⟨.inl rfl, Nat.le_refl 18, hsz⟩
  refine ⟨by rw [layP_len]; exact h.len, layP_size _ _ h.size (fun p q => (hin p q).2.2), ?_, fun i hi => ?_, fun k h1 h2 => ?_⟩
  · rw [layP_skip _ _ 1 (fun p q => by have := (hin p q).2.1; omega)]; exact h.head
  · rw [layP_skip _ _ (2 + i) (fun p q => by have := (hin p q).2.1; omega)]; exact h.recs i hi
  · rw [layP_skip _ _ k (fun p q => ?_)]
    · exact h.rest k h1 h2
    · rcases (hin p q).1 with r | ⟨q', hq', r⟩
      · omega
      · rw [← r]; exact h2 q' hq'
theorem StMv.done {hb : Nat} {O I : List ByteArray} {l : List Wr1} (h : StMv hb O l I) (hl : GoodL l) (hO : O.length = 128) : StNv hb O l (layP (layP I (natW (filled l))) [(1, headB hb [])]) := by
  have hM := h.lay hl (natW (filled l)) (fun _ q => q)
  refine ⟨by rw [layP_len, layP_len]; exact h.len, layP_size _ _ hM.size (fun p hp => by simp at hp; subst hp; exact headB_size hb [] (by simp)), ?_, fun k h1 h2 => ?_⟩
  · exact getD_set_same _ 1 _ (by rw [layP_len, h.len]; decide)
  · rw [layP_len, layP_len, h.len] at h2
    rw [layP_skip [(1, headB hb [])] _ k (by intro p hp; simp at hp; subst hp; show 1 ≠ k; omega)]
    by_cases hk : ∃ p ∈ natW l, p.1 = k
    · have e : (layP I (natW (filled l))).getD k ByteArray.empty = (layP I (natW l)).getD k ByteArray.empty := by
        rw [filled, natW_app, layP_app, layP_skip (natW (List.replicate (16 - l.length) fillW)) _ k (by
          intro p hp
          obtain ⟨x, hx, rfl⟩ := List.mem_map.1 hp
          have := List.eq_of_mem_replicate hx
          subst this
          show 18 ≠ k
          omega)]
      rw [e]
      exact layP_any _ _ _ k (by rw [h.len, hO]) (by rw [h.len]; exact h2) hk
    · have hno : ∀ p ∈ natW l, p.1 ≠ k := fun p hp e => hk ⟨p, hp, e⟩
      rw [hM.rest k h1 hno, layP_skip _ _ k hno]
theorem StMv.of_mid {hb : Nat} {O : List ByteArray} {l : List Wr1} (hl : GoodL l) (hO : O.length = 128) (hs : ∀ t ∈ O, t.size = 256) : StMv hb O l (midL O hb l) := by
  refine ⟨by rw [midL_len]; exact hO, mid_size O hb l hl hs, mid_head O hb l (by omega), fun i hi => mid_rec O hb l hO hl.len i hi, fun k h1 _ => ?_⟩
  unfold midL
  rw [layP_skip [(1, _)] _ k (by intro p hp; simp at hp; subst hp; show 1 ≠ k; omega), layP_skip _ _ k (by
    intro p hp
    obtain ⟨x, hx, rfl⟩ := List.mem_map.1 hp
    obtain ⟨i, hi, rfl⟩ := List.mem_map.1 hx
    have hi : i < (filled l).length := List.mem_range.1 hi
    rw [filled_len l hl.len] at hi
    show 2 + i ≠ k
    omega)]
def StAv (ha hb : Nat) (O : List ByteArray) (l : List Wr1) (must : Bool) (I : List ByteArray) : Prop := (StOv ha O I ∧ must = false) ∨ StMv hb O l I ∨ StNv hb O l I
theorem StAv.len {ha hb : Nat} {O : List ByteArray} {l : List Wr1} {I : List ByteArray} {m : Bool} (h : StAv ha hb O l m I) : I.length = 128 := by
  rcases h with ⟨q, _⟩ | q | q
  · exact q.len
  · exact q.len
  · exact q.len
theorem StAv.size {ha hb : Nat} {O : List ByteArray} {l : List Wr1} {I : List ByteArray} {m : Bool} (h : StAv ha hb O l m I) : ∀ t ∈ I, t.size = 256 := by
  rcases h with ⟨q, _⟩ | q | q
  · exact q.size
  · exact q.size
  · exact q.size
def hsetWv (hb : Nat) (l : List Wr1) : Wr1 := (1, headB hb (secs (filled l)))
def hclrWv (hb : Nat) : Wr1 := (1, headB hb [])
theorem homes_atv {hb : Nat} {O I : List ByteArray} {l : List Wr1} (h : StMv hb O l I) (hl : GoodL l) (hO : O.length = 128) (A : List (Nat × Nat)) (f : Nat) (h2 : f ≤ 1000000) :
    ∃ e s', runsR ⟨I, I, [], A, (f : Int), false⟩ [filled l, [(hclrWv hb)]] = (e, s') ∧ (e = 0 ∨ (e = 2 ∧ 1 ≤ f)) ∧ s'.pend.length ≤ 16 ∧ s'.acts.length ≤ A.length + 19 ∧ (e = 0 → Crashed (StNv hb O l) s') ∧ Crashed (fun I => StMv hb O l I ∨ StNv hb O l I) s' := by
  have h16 := filled_len l hl.len
  have hok : OkW I.length (filled l) := by rw [h.len]; exact fill_ok l hl
  have hM := h.lay hl (natW (filled l)) (fun _ q => q)
  have hk2 : OkW (layP I (natW (filled l))).length [(hclrWv hb)] := head_ok _ (by rw [layP_len, h.len]; decide) hb _ (by simp)
  by_cases c0 : f = 0
  · subst c0
    have e1 := lay_rs I A (filled l) hok
    have e2 := lay_rs (layP I (natW (filled l))) (A ++ actW (filled l) ++ [(1, 0)]) [(hclrWv hb)] hk2
    have hC : Crashed (StNv hb O l) (rs (layP (layP I (natW (filled l))) (natW [(hclrWv hb)])) (A ++ actW (filled l) ++ [(1, 0)] ++ actW [(hclrWv hb)] ++ [(1, 0)])) := fun ps hp _ => by
      rw [sub_nil hp]
      exact h.done hl hO
    refine ⟨0, rs (layP (layP I (natW (filled l))) (natW [(hclrWv hb)])) (A ++ actW (filled l) ++ [(1, 0)] ++ actW [(hclrWv hb)] ++ [(1, 0)]), ?_, .inl rfl, Nat.zero_le _, ?_, fun _ => hC, fun ps hp q => .inr (hC ps hp q)⟩
    · show runsR (rs I A) [filled l, [(hclrWv hb)]] = _
      rw [runsR, e1, if_pos rfl, runsR]
      simp only
      rw [e2, if_pos rfl, runsR]
    · simp [rs, actW, h16]
  by_cases c1 : f ≤ 17
  · have e1 := lay_dies (filled l) ⟨I, I, [], A, (f : Int), false⟩ (f - 1) rfl (by show (f : Int) = _; omega) (by omega) hok
    refine ⟨2, ⟨I, layP I (natW ((filled l).take (f - 1))), [] ++ natW ((filled l).take (f - 1)), A ++ actW ((filled l).take (f - 1)), 0, true⟩, ?_, .inr ⟨rfl, by omega⟩, ?_, ?_, fun q => (by cases q), fun ps hp _ => .inl (h.lay hl ps (fun p q => ?_))⟩
    · rw [runsR, e1, if_neg (show ¬ (2 : Int) = 0 by decide)]
    · simp [natW]; omega
    · simp [actW]; omega
    · have := hp p q
      rw [List.nil_append, natW_take] at this
      exact List.mem_of_mem_take this
  · have e1 := lay_armed (filled l) ⟨I, I, [], A, (f : Int), false⟩ rfl (by show _ < (f : Int); rw [h16]; omega) hok
    have f1 : layR ⟨I, I, [], A, (f : Int), false⟩ (filled l) = (0, ⟨layP I (natW (filled l)), layP I (natW (filled l)), [], A ++ actW (filled l) ++ [(1, 0)], (f : Int) - 17, false⟩) := by
      rw [e1, h16]
      rfl
    by_cases c2 : f ≤ 19
    · have e2 := lay_dies [(hclrWv hb)] ⟨layP I (natW (filled l)), layP I (natW (filled l)), [], A ++ actW (filled l) ++ [(1, 0)], (f : Int) - 17, false⟩ (f - 18) rfl (by show (f : Int) - 17 = _; omega) (by simp; omega) hk2
      refine ⟨2, ⟨layP I (natW (filled l)), layP (layP I (natW (filled l))) (natW ([(hclrWv hb)].take (f - 18))), [] ++ natW ([(hclrWv hb)].take (f - 18)), A ++ actW (filled l) ++ [(1, 0)] ++ actW ([(hclrWv hb)].take (f - 18)), 0, true⟩, ?_, .inr ⟨rfl, by omega⟩, ?_, ?_, fun q => (by cases q), fun ps hp hlen => ?_⟩
      · rw [runsR, f1, if_pos rfl, runsR]
        simp only
        rw [e2, if_neg (show ¬ (2 : Int) = 0 by decide)]
      · simp [natW]; omega
      · simp [actW, h16]; omega
      · have hp' : ∀ p ∈ ps, p ∈ [((1 : Nat), headB hb [])] := fun p q => by
          have := hp p q
          rw [List.nil_append, natW_take] at this
          exact List.mem_of_mem_take this
        have hl1 : ps.length ≤ 1 := by
          refine Nat.le_trans hlen ?_
          simp [natW]; omega
        rcases sub_one hp' hl1 with q | q
        · subst q; exact .inl hM
        · subst q; exact .inr (h.done hl hO)
    · have e2 := lay_armed [(hclrWv hb)] ⟨layP I (natW (filled l)), layP I (natW (filled l)), [], A ++ actW (filled l) ++ [(1, 0)], (f : Int) - 17, false⟩ rfl (by show ((1 : Nat) : Int) + 1 < (f : Int) - 17; omega) hk2
      have hC : Crashed (StNv hb O l) ⟨layP (layP I (natW (filled l))) ([] ++ natW [(hclrWv hb)]), layP (layP I (natW (filled l))) (natW [(hclrWv hb)]), [], A ++ actW (filled l) ++ [(1, 0)] ++ actW [(hclrWv hb)] ++ [(1, 0)], (f : Int) - 17 - (((1 : Nat) : Int) + 1), false⟩ := fun ps hp _ => by
        rw [sub_nil hp]
        exact h.done hl hO
      refine ⟨0, ⟨layP (layP I (natW (filled l))) ([] ++ natW [(hclrWv hb)]), layP (layP I (natW (filled l))) (natW [(hclrWv hb)]), [], A ++ actW (filled l) ++ [(1, 0)] ++ actW [(hclrWv hb)] ++ [(1, 0)], (f : Int) - 17 - (((1 : Nat) : Int) + 1), false⟩, ?_, .inl rfl, Nat.zero_le _, ?_, fun _ => hC, fun ps hp q => .inr (hC ps hp q)⟩
      · rw [runsR, f1, if_pos rfl, runsR]
        simp only
        rw [e2]
        rw [if_pos rfl, runsR]
        rfl
      · simp [actW, h16]
theorem commit_atv {ha hb : Nat} {O : List ByteArray} {l : List Wr1} (h : StOv ha O O) (hl : GoodL l) (A : List (Nat × Nat)) (f : Nat) (h2 : f ≤ 1000000) :
    ∃ e s' nx lost, commitR ⟨O, O, [], A, (f : Int), false⟩ hb false l = ⟨e, s', nx, lost⟩ ∧ (e = 0 ∨ e = 2) ∧ s'.pend.length ≤ 16 ∧ s'.acts.length ≤ A.length + 38 ∧ Crashed (StAv ha hb O l (decide (e = 0))) s' := by
  have hO := h.len
  have h16 := filled_len l hl.len
  have hr : refE l ((O.length : Nat) : Int) = 0 := by rw [hO]; exact hl.ref
  by_cases c0 : f = 0
  · subst c0
    have e := commit_rs O A hb l hO hl
    refine ⟨0, rs (comL O hb l) (A ++ comA l), (hb + 1) % 4294967296, false, e, .inl rfl, Nat.zero_le _, by show (A ++ comA l).length ≤ _; rw [List.length_append, comA_len l hl.len]; exact Nat.le_refl _, fun ps hp _ => ?_⟩
    rw [sub_nil hp]
    exact .inr (.inr ((StMv.of_mid hl hO h.size).done hl hO))
  · have key : ∃ e s', runsR ⟨O, O, [], A, (f : Int), false⟩ (runsOf hb l) = (e, s') ∧ (e = 0 ∨ e = 2) ∧ s'.pend.length ≤ 16 ∧ s'.acts.length ≤ A.length + 38 ∧ Crashed (StAv ha hb O l (decide (e = 0))) s' := by
      have hok : OkW O.length (recL (filled l)) := by rw [hO]; exact rec_ok l hl
      have hrl : (recL (filled l)).length = 16 := by rw [recL_len, h16]
      by_cases c1 : f ≤ 17
      · have e1 := lay_dies (recL (filled l)) ⟨O, O, [], A, (f : Int), false⟩ (f - 1) rfl (by show (f : Int) = _; omega) (by omega) hok
        refine ⟨2, ⟨O, layP O (natW ((recL (filled l)).take (f - 1))), [] ++ natW ((recL (filled l)).take (f - 1)), A ++ actW ((recL (filled l)).take (f - 1)), 0, true⟩, ?_, .inr rfl, ?_, ?_, fun ps hp _ => .inl ⟨h.lay ps (fun p q => ?_), by decide⟩⟩
        · rw [runsOf, runsR, e1, if_neg (show ¬ (2 : Int) = 0 by decide)]
        · simp [natW]; omega
        · simp [actW]; omega
        · have := hp p q
          rw [List.nil_append, natW_take] at this
          exact rec_range l hl p (List.mem_of_mem_take this)
      · have e1 := lay_armed (recL (filled l)) ⟨O, O, [], A, (f : Int), false⟩ rfl (by show _ < (f : Int); rw [hrl]; omega) hok
        obtain ⟨O1, hO1⟩ : ∃ O1, layP O (natW (recL (filled l))) = O1 := ⟨_, rfl⟩
        have f1 : layR ⟨O, O, [], A, (f : Int), false⟩ (recL (filled l)) = (0, ⟨O1, O1, [], A ++ actW (recL (filled l)) ++ [(1, 0)], (f : Int) - 17, false⟩) := by
          rw [e1, hrl, ← hO1]
          rfl
        have hSO1 : StOv ha O O1 := by rw [← hO1]; exact h.lay _ (rec_range l hl)
        have hMid : layP O1 [(1, headB hb (secs (filled l)))] = midL O hb l := by rw [← hO1]; rfl
        have hk2 : OkW O1.length [hsetWv hb l] := head_ok _ (by rw [hSO1.len]; decide) hb _ (by rw [secs16 l hl]; decide)
        have hA1 : (A ++ actW (recL (filled l)) ++ [(1, 0)]).length = A.length + 17 := by simp [actW, hrl]
        generalize A ++ actW (recL (filled l)) ++ [(1, 0)] = A1 at *
        by_cases c2 : f ≤ 19
        · have e2 := lay_dies [hsetWv hb l] ⟨O1, O1, [], A1, (f : Int) - 17, false⟩ (f - 18) rfl (by show (f : Int) - 17 = _; omega) (by simp; omega) hk2
          refine ⟨2, ⟨O1, layP O1 (natW ([hsetWv hb l].take (f - 18))), [] ++ natW ([hsetWv hb l].take (f - 18)), A1 ++ actW ([hsetWv hb l].take (f - 18)), 0, true⟩, ?_, .inr rfl, ?_, ?_, fun ps hp hlen => ?_⟩
          · rw [runsOf, runsR, f1, if_pos rfl, runsR]
            simp only
            rw [show [((1 : Int), headB hb (secs (filled l)))] = [hsetWv hb l] from rfl, e2, if_neg (show ¬ (2 : Int) = 0 by decide)]
          · simp [natW]; omega
          · simp [actW]; omega
          · have hp' : ∀ p ∈ ps, p ∈ [((1 : Nat), headB hb (secs (filled l)))] := fun p q => by
              have := hp p q
              rw [List.nil_append, natW_take] at this
              exact List.mem_of_mem_take this
            have hl1 : ps.length ≤ 1 := by
              refine Nat.le_trans hlen ?_
              simp [natW]; omega
            rcases sub_one hp' hl1 with q | q
            · subst q; exact .inl ⟨hSO1, by decide⟩
            · subst q
              refine .inr (.inl ?_)
              show StMv hb O l (layP O1 [(1, headB hb (secs (filled l)))])
              rw [hMid]
              exact StMv.of_mid hl hO h.size
        · have e2 := lay_armed [hsetWv hb l] ⟨O1, O1, [], A1, (f : Int) - 17, false⟩ rfl (by show ((1 : Nat) : Int) + 1 < (f : Int) - 17; omega) hk2
          have f2 : layR ⟨O1, O1, [], A1, (f : Int) - 17, false⟩ [hsetWv hb l] = (0, ⟨midL O hb l, midL O hb l, [], A1 ++ actW [hsetWv hb l] ++ [(1, 0)], ((f - 19 : Nat) : Int), false⟩) := by
            rw [e2, ← hMid]
            have : (f : Int) - 17 - (((([hsetWv hb l] : List Wr1).length : Nat) : Int) + 1) = ((f - 19 : Nat) : Int) := by simp; omega
            simp only [this]
            rfl
          obtain ⟨e, s', hrun, he, hp, ha, hn, hc⟩ := homes_atv (StMv.of_mid hl hO h.size) hl hO (A1 ++ actW [hsetWv hb l] ++ [(1, 0)]) (f - 19) (by omega)
          refine ⟨e, s', ?_, he.imp id (·.1), hp, ?_, fun ps q1 q2 => ?_⟩
          · rw [runsOf, runsR, f1, if_pos rfl, runsR]
            simp only
            rw [show [((1 : Int), headB hb (secs (filled l)))] = [hsetWv hb l] from rfl, f2, if_pos rfl]
            exact hrun
          · have : (A1 ++ actW [hsetWv hb l] ++ [(1, 0)]).length = A1.length + 2 := by simp [actW]
            omega
          · exact .inr (hc ps q1 q2)
    obtain ⟨e, s', hrun, he2, hp, ha, hc⟩ := key
    by_cases he : e = 0
    · refine ⟨e, s', (hb + 1) % 4294967296, false, ?_, he2, hp, ha, hc⟩
      rw [commitR, hr, if_neg (by simp), if_neg (by decide), hrun, if_pos he, he]
    · refine ⟨e, s', hb, true, ?_, he2, hp, ha, hc⟩
      rw [commitR, hr, if_neg (by simp), if_neg (by decide), hrun, if_neg he]
theorem arm_rs7v (I : List ByteArray) (A : List (Nat × Nat)) (f : Nat) : armE (rs I A) (f : Int) = 0 ∧ armS (rs I A) (f : Int) = ⟨I, I, [], A, (f : Int), false⟩ := by
  have h : ¬ ((f : Int) < 0) := by omega
  rw [armE, armS, if_neg h, if_neg h]
  exact ⟨rfl, rfl⟩
/-- An error is a death. -/
theorem lay_deadv (l : List Wr1) : ∀ (s : DSt), OkW s.last.length l → ((layR s l).1 = 0 ↔ (layR s l).2.dead = false) ∧ (layR s l).2.last.length = s.last.length := by
  induction l with
  | nil =>
    intro s _
    show (flushE s = 0 ↔ (flushS s).dead = false) ∧ (flushS s).last.length = s.last.length
    unfold flushE flushS
    cases h : (diesS s).dead
    · simp [h, layP_len]
    · simp [h, diesS_last]
  | cons p r ih =>
    intro s hok
    obtain ⟨h1, h2, h3⟩ := hok p (by simp)
    have hi : isOk s p.1 := ⟨h1, h2⟩
    have hE : writeE s p.1 p.2 = if (diesS s).dead then 2 else 0 := by unfold writeE; rw [if_pos hi, if_pos h3]
    rw [layR]
    cases h : (diesS s).dead
    · rw [h] at hE
      simp only [Bool.false_eq_true, if_false] at hE
      rw [hE, if_pos rfl]
      have hl : (writeS s p.1 p.2).last.length = s.last.length := by
        unfold writeS
        rw [if_pos hi, if_pos h3, h]
        simp [diesS_last]
      have := ih (writeS s p.1 p.2) (by rw [hl]; exact fun x hx => hok x (by simp [hx]))
      rw [hl] at this
      exact this
    · rw [h] at hE
      simp only [if_true] at hE
      have hS : writeS s p.1 p.2 = diesS s := by unfold writeS; rw [if_pos hi, if_pos h3, if_pos h]
      rw [hE, if_neg (by decide), hS]
      simp [h, diesS_last]
theorem runs_deadv (R : List (List Wr1)) : ∀ (s : DSt), s.dead = false → (∀ r ∈ R, OkW s.last.length r) → ((runsR s R).1 = 0 ↔ (runsR s R).2.dead = false) := by
  induction R with
  | nil => intro s h _; simp [runsR, h]
  | cons r R ih =>
    intro s _ hR
    obtain ⟨h1, h2⟩ := lay_deadv r s (hR r (by simp))
    rw [runsR]
    by_cases e : (layR s r).1 = 0
    · rw [if_pos e]
      exact ih _ (h1.1 e) (by rw [h2]; exact fun x hx => hR x (by simp [hx]))
    · rw [if_neg e]
      exact h1
theorem commit_deadv {hb : Nat} {S : PS} {O : List ByteArray} {A : List (Nat × Nat)} {f : Nat} (hs : S.s = ⟨O, O, [], A, (f : Int), false⟩) (hO : O.length = 128) (hnx : S.nx = hb) (hjl : S.jl = false) (hlost : S.lost = false) (ho : S.op = true) (hl : GoodL S.tx) : commitPE S = 0 ↔ (commitPS S).s.dead = false := by
  have hr := runs_deadv (runsOf hb S.tx) S.s (by rw [hs]) (by
    rw [hs]
    show ∀ r ∈ runsOf hb S.tx, OkW O.length r
    rw [hO]
    intro r hr
    unfold runsOf at hr
    simp only [List.mem_cons, List.not_mem_nil, or_false] at hr
    rcases hr with e | e | e | e
    · rw [e]; exact rec_ok _ hl
    · rw [e]; exact head_ok 128 (by decide) hb _ (by rw [secs16 _ hl]; decide)
    · rw [e]; exact fill_ok _ hl
    · rw [e]; exact head_ok 128 (by decide) hb _ (by simp))
  have hc : commitR S.s S.nx S.jl S.tx = if (runsR S.s (runsOf hb S.tx)).1 = 0 then ⟨0, (runsR S.s (runsOf hb S.tx)).2, (hb + 1) % 4294967296, false⟩ else ⟨(runsR S.s (runsOf hb S.tx)).1, (runsR S.s (runsOf hb S.tx)).2, hb, true⟩ := by
    unfold commitR
    rw [hnx, hjl, if_neg (by
      rw [hs]
      show ¬ refE S.tx (O.length : Int) ≠ 0
      rw [hO]
      intro q
      exact q hl.ref), if_neg (by decide)]
  unfold commitPE commitPS
  rw [ho, hlost, if_neg (by decide), if_neg (by decide), if_neg (by decide), if_neg (by decide)]
  have e2 : (doneS S).s = (commitR S.s S.nx S.jl S.tx).s := rfl
  by_cases e : (runsR S.s (runsOf hb S.tx)).1 = 0
  · rw [if_pos e] at hc
    have hd := hr.1 e
    rw [hc]
    simp only [if_true]
    rw [e2, hc]
    simp [hd]
  · rw [if_neg e] at hc
    have hd : ¬ (runsR S.s (runsOf hb S.tx)).2.dead = false := fun q => e (hr.2 q)
    rw [hc]
    simp only
    rw [if_neg e, e2, hc]
    simp [e, hd]
theorem commitP_atv {ha hb : Nat} {S : PS} {O : List ByteArray} {A : List (Nat × Nat)} {f : Nat} (hs : S.s = ⟨O, O, [], A, (f : Int), false⟩) (hnx : S.nx = hb) (hjl : S.jl = false) (hlost : S.lost = false) (ho : S.op = true) (hO : StOv ha O O) (hl : GoodL S.tx) (hf : f ≤ 1000000) :
    ∃ e s', commitPE S = e ∧ (commitPS S).s = s' ∧ (e = 0 ∨ e = 2) ∧ s'.pend.length ≤ 16 ∧ s'.acts.length ≤ A.length + 38 ∧ Crashed (StAv ha hb O S.tx (decide (e = 0))) s' := by
  obtain ⟨e, s', nx, lost, hc, he, h1, h2, h3⟩ := commit_atv hO hl A f hf
  have hc' : commitR S.s S.nx S.jl S.tx = ⟨e, s', nx, lost⟩ := by rw [hs, hnx, hjl]; exact hc
  refine ⟨e, s', ?_, ?_, he, h1, h2, h3⟩
  · unfold commitPE
    rw [ho, hlost, hc']
    rfl
  · unfold commitPS
    rw [ho, hlost, if_neg (by decide), if_neg (by decide)]
    split
    · show (commitR S.s S.nx S.jl S.tx).s = s'
      rw [hc']
    · show (commitR S.s S.nx S.jl S.tx).s = s'
      rw [hc']
theorem openYv {ha hb : Nat} {w0 w : World} {b : Nat} {v : DV} {O I : List ByteArray} {l : List Wr1} {must : Bool} (h : Dk w w0.heap.size b v (rs I [])) (h0 : Below w0.heap.size w0 w) (hg : ETy w) (hA : StAv ha hb O l must I) (hl : GoodL l) (hO : O.length = 128) (hha : ha < 4294967296) (hhb : hb < 4294967296) :
    Calls Tryz.prog 69 #[.pointer (some ⟨b, 0, none⟩)] w (OpY O l must w0 b) := by
  have hIl := hA.len
  have hS : Sane (rs I []) := Sane.fresh I (by omega) (by omega)
  obtain ⟨r1, r2⟩ := read_rs I [] 1 (by omega)
  rw [show ((1 : Nat) : Int) = 1 from rfl] at r1 r2
  have hsz : (I.getD 1 ByteArray.empty).size = 256 := hA.size _ (by simp [List.getD_eq_getElem?_getD, show 1 < I.length by omega])
  have hAs := hA.size
  refine (open_any w w0.heap.size b v _ h hg h0.size hS (by rw [r2, hsz]; decide) (Nat.zero_le _) (Nat.zero_le _)).mono ?_
  intro e w' hP
  rcases hP with ⟨q, _⟩ | ⟨_, n', H, ok, hn', hR, hc⟩
  · exact absurd r1 q
  · rw [r2] at hR
    have clear : ∀ n, n < 4294967296 → I.getD 1 ByteArray.empty = headB n [] → ((freeQ I O ∧ must = false) ∨ freeQ I (layP O (natW l))) → OpY O l must w0 b e w' := fun n hn hh hst => by
      rw [hh] at hR
      obtain ⟨e1, e2, e3⟩ := rhp_clear n hn _ _ _ _ hR
      have e1' : n' = n := by omega
      subst e1' e2 e3
      rcases hc with ⟨q, _⟩ | ⟨_, _, jb, ev, hN⟩ | ⟨_, q, _⟩ | ⟨_, q, _⟩
      · cases q
      · exact ⟨jb, false, I, [], n', ev, jnew_jk h h0 hS hN, hn', hIl, hAs, hh, hst⟩
      · simp at q
      · simp at q
    rcases hA with ⟨q, qm⟩ | q | q
    · exact clear ha hha q.head (.inl ⟨q.free, qm⟩)
    · rw [q.head, show (((rs I []).last.length : Nat) : Int) = 128 by show ((I.length : Nat) : Int) = 128; rw [hIl]; rfl] at hR
      obtain ⟨e1, e2, e3⟩ := rhp_set hb hhb 128 _ _ _ _ (secs16 l hl) (homes_ok l hl) hR
      have e1' : n' = hb := by omega
      subst e1' e2 e3
      have h16 := filled_len l hl.len
      have hL : redoL (rs I []) (secs (filled l)) = filled l := by
        refine List.ext_getElem (by rw [redoL_len, secs16 l hl, h16]) (fun i q1 q2 => ?_)
        have hi : i < 16 := by omega
        rw [← getD_of q1, ← getD_of q2, redoL_at _ _ i (by rw [secs16 l hl]; exact hi), secs_at _ i (by omega), (read_rs I [] (2 + i) (by omega)).2, q.recs i hi]
      have e1 := lay_rs I [] (filled l) (by rw [hIl]; exact fill_ok l hl)
      have e2 := lay_rs (layP I (natW (filled l))) ([] ++ actW (filled l) ++ [(1, 0)]) [(1, headB n' [])] (head_ok _ (by rw [layP_len, hIl]; decide) n' _ (by simp))
      have hrr : redoR (rs I []) n' (secs (filled l)) = (0, rs (layP (layP I (natW (filled l))) [(1, headB n' [])]) ([] ++ actW (filled l) ++ [(1, 0)] ++ actW [(1, headB n' [])] ++ [(1, 0)])) := by
        rw [redoR, hL, e1, if_pos rfl]
        simp only
        rw [e2]
        rfl
      have hsn : Sane (redoR (rs I []) n' (secs (filled l))).2 := by
        unfold redoR
        split
        · exact layR_sane _ _ (layR_sane _ _ hS)
        · exact layR_sane _ _ hS
      rw [hrr] at hc hsn
      have hN := q.done hl hO
      rcases hc with ⟨q', _⟩ | ⟨_, q', _⟩ | ⟨_, _, q', _⟩ | ⟨_, _, q', jb, ev, hJ⟩
      · cases q'
      · rw [secs16 l hl] at q'; cases q'
      · exact absurd rfl q'
      · exact ⟨jb, true, _, _, n', ev, jnew_jk h h0 hsn hJ, hn', hN.len, hN.size, hN.head, .inr hN.free⟩
    · exact clear hb hhb q.head (.inr q.free)
/-- A pool with an open transaction of an index, on a disk that may die. -/
def ArmI (w0 w : World) (b jb pb : Nat) (X : Nat → Prop) (a n h : Nat) (O : List ByteArray) (A : List (Nat × Nat)) (f : Nat) (tx : Tx) (Tw T : Nat → En) : Prop :=
  ∃ S, PK w0 w b jb pb S X ∧ S.s = ⟨O, O, [], A, (f : Int), false⟩ ∧ S.nx = (h + 1) % 4294967296 ∧ S.jl = false ∧ S.lost = false ∧ S.op = true ∧ S.tx = tx ∧ GoodL tx ∧ StOv h O O ∧ IS O a n Tw ∧ IS (layP O (natW tx)) a n T
theorem ISt.arm {w0 w : World} {b jb pb xb : Nat} {Y : Nat → Prop} {a n kp : Nat} {L : List ByteArray} {A : List (Nat × Nat)} {h : Nat} {Tw T U : Nat → En} (hs : ISt w0 w b jb pb xb Y a n kp true L A h Tw T U) (f : Nat) (hf : f ≤ 40) :
    Calls Tryz.prog 27 #[.pointer (some ⟨b, 0, none⟩), .int .i64 (f : Int)] w fun e w' => e = .returned (.int .i64 0) ∧ (∃ tx, ArmI w0 w' b jb pb Y a n h L A f tx Tw T) ∧ Only (fun x => ¬ Y x) w w' := by
  have hlast := hs.lasts
  obtain ⟨S, eb, bm, Mw, Mn, h1, h2, h2o, h3, h4⟩ := hs
  have hs := h1.seen.rst.s
  have hc := armP h1.pk (f : Int) (by omega) (by rw [hs, (arm_rs7v L A f).2]; rfl)
  rw [hs, (arm_rs7v L A f).1, (arm_rs7v L A f).2] at hc
  refine hc.mono ?_
  rintro e w' ⟨rfl, K, hO⟩
  have h5 := h1.hi
  have h6 := h1.lo
  refine ⟨rfl, ⟨S.tx, _, PK.more K (Below.refl _ _) (fun x q => .inl (.inl q)), rfl, h1.seen.rst.nx, h1.seen.rst.jl, h1.seen.rst.lost, h3, rfl, tx_good h1.srt h1.t16 h1.tok, ⟨hlast.2.1, hlast.2.2.1, hlast.2.2.2.1, fun k _ _ => rfl⟩, hlast.1, ?_⟩, hO.mono (fun x _ q r => q (.inl r))⟩
  refine h1.is.over (fun k hk => ?_)
  rw [tx_lay h1.srt (fun p hp => (h1.tok p hp).1) L (a + k) (by rw [h1.seen.len]; omega), h1.seen.now (a + k) (by omega) (by omega), h1.seen.was (a + k) (by omega) (by rw [h1.seen.len]; omega)]
theorem ArmI.commit {w0 w : World} {b jb pb : Nat} {X : Nat → Prop} {a n h : Nat} {O : List ByteArray} {A : List (Nat × Nat)} {f : Nat} {tx : Tx} {Tw T : Nat → En} (hh : ArmI w0 w b jb pb X a n h O A f tx Tw T) (hf : f ≤ 40) (ha : A.length ≤ 10000) :
    Calls Tryz.prog 12 #[.pointer (some ⟨pb, 0, none⟩)] w fun e w' => ∃ (er : Int) (s' : DSt), e = .returned (.int .i64 er) ∧ (er = 0 ∨ er = 2) ∧ (er = 0 ↔ s'.dead = false) ∧ DF w0 w' b s' X ∧ Only (fun x => ¬ X x) w w' ∧ s'.pend.length ≤ 16 ∧ Crashed (StAv h ((h + 1) % 4294967296) O tx (decide (er = 0))) s' := by
  obtain ⟨S, K, hs, hnx, hjl, hlost, ho, htx, hG, hSt, hw, ht⟩ := hh
  subst htx
  obtain ⟨ce, s3, ee, es, hce, hp3, ha3, hcr⟩ := commitP_atv (S := S) (O := O) (A := A) (f := f) hs hnx hjl hlost ho hSt hG (by omega)
  have hd := commit_deadv hs hSt.len hnx hjl hlost ho hG
  refine (pcommit_any K (by rw [hnx]; exact Nat.mod_lt _ (by decide)) (by rw [hs]; exact Nat.zero_le _) (by rw [hs]; show A.length ≤ _; omega)).mono ?_
  rintro e w' ⟨rfl, K', hO⟩
  have hdf := K'.df
  rw [es] at hdf hd
  rw [ee] at hd
  exact ⟨ce, s3, by rw [ee], hce, hd, hdf, hO, hp3, hcr⟩
/-- The pool over what was left: the old table, or the new one. -/
theorem popenI {w0 w : World} {b : Nat} {v : DV} {ha hb : Nat} {O I : List ByteArray} {l : List Wr1} {must : Bool} {a n : Nat} {Tw T : Nat → En} (h : Dk w w0.heap.size b v (rs I [])) (h0 : Below w0.heap.size w0 w) (hg : ETy w) (hA : StAv ha hb O l must I) (hl : GoodL l) (hO : O.length = 128) (hha : ha < 4294967296) (hhb : hb < 4294967296) (hw : IS O a n Tw) (ht : IS (layP O (natW l)) a n T) (h19 : 19 ≤ a) (hn : a + ipgs n ≤ 128) (ow : TOk n Tw) (ot : TOk n T) :
    Calls Tryz.prog 25 #[.pointer (some ⟨b, 0, none⟩), .int .i64 3] w (PoolI w0 b a n 3 (fun _ _ T' => T' = T ∨ (T' = Tw ∧ must = false))) := by
  refine (popen_any w b 3 (by decide) (fun jp ag er w1 => er = 0 ∧ ∃ jb I A n, jp = some ⟨jb, 0, none⟩ ∧ JK w0 w1 b jb (rs I A) ((n + 1) % 4294967296) false (fun _ => False) ∧ n < 4294967296 ∧ I.length = 128 ∧ (∀ t ∈ I, t.size = 256) ∧ I.getD 1 ByteArray.empty = headB n [] ∧ ((freeQ I O ∧ must = false) ∨ freeQ I (layP O (natW l)))) ((openYv h h0 hg hA hl hO hha hhb).mono (fun e w1 q => by
    obtain ⟨jb, ag, I', A', n, q1, q2⟩ := q
    exact ⟨_, ag, 0, q1, rfl, jb, I', A', n, rfl, q2⟩))).mono ?_
  rintro e w' ⟨jp, ag, er, w1, ⟨rfl, jb, I', A', n', rfl, q1, q2, q3, q4, q5, q6⟩, r | ⟨_, pb, bw, bv, rfl, hP⟩⟩
  · exact absurd rfl r.1
  · have hS : Seen (restP I' A' ((n' + 1) % 4294967296) 3) I' A' n' I' I' := ⟨⟨rfl, rfl, rfl, rfl⟩, q3, q4, q5, q2, fun k _ _ => rfl, q3, q3, fun k _ _ => rfl, fun _ => rfl, fun p hp => by cases hp⟩
    rcases q6 with ⟨r1, r2⟩ | r1
    · exact ⟨jb, pb, _, I', A', n', Tw, rfl, POk.pk q1 (by decide) hP, hS, rfl, ⟨rfl, rfl⟩, hw.over (fun k hk => r1 (a + k) (by omega) (by omega)), ow, .inr ⟨rfl, r2⟩⟩
    · exact ⟨jb, pb, _, I', A', n', T, rfl, POk.pk q1 (by decide) hP, hS, rfl, ⟨rfl, rfl⟩, ht.over (fun k hk => r1 (a + k) (by omega) (by omega)), ot, .inl rfl⟩
/-- Some of what is pending. -/
def BkJ (wo : World) (P q : Nat) (u : Value) (wr : World) : Prop := ∃ K : List Int, wr.ownsRow wo.heap.size 3 1 u K.length (K.map (Value.int .i64)) ∧ (∀ z ∈ K, pickOk P z) ∧ K.length ≤ q ∧ Below wo.heap.size wo wr
end Go.Proofs.YtnfcnpolflfpfaaGreatDoor
