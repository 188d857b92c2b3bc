import Derived.Test.YtnfcnpolflfpfaaGreatDoorMr24
namespace Go.Proofs.YtnfcnpolflfpfaaGreatDoor
open Go.RowKit
/-- The image as it was: the head is clear, the free sectors are the old ones. -/
structure StO (O I : List ByteArray) : Prop where
  len : I.length = 128
  size : ∀ t ∈ I, t.size = 256
  head : I.getD 1 ByteArray.empty = headB 1 []
  free : freeQ I O
/-- The head is set, the records lie there; the homes are what they are. -/
structure StM (O : List ByteArray) (l : List Wr1) (I : List ByteArray) : Prop where
  len : I.length = 128
  size : ∀ t ∈ I, t.size = 256
  head : I.getD 1 ByteArray.empty = headB 2 (secs (filled l))
  recs : ∀ i, i < 16 → I.getD (2 + i) ByteArray.empty = ((filled l).getD i wr0).2
  rest : ∀ k, 19 ≤ k → (∀ p ∈ natW l, p.1 ≠ k) → I.getD k ByteArray.empty = O.getD k ByteArray.empty
/-- The commit is there. -/
structure StN (O : List ByteArray) (l : List Wr1) (I : List ByteArray) : Prop where
  len : I.length = 128
  size : ∀ t ∈ I, t.size = 256
  head : I.getD 1 ByteArray.empty = headB 2 []
  free : freeQ I (layP O (natW l))
theorem keep_mem : ∀ (ps : List (Nat × ByteArray)) (ks : List Bool) (p : Nat × ByteArray), p ∈ keepP ps ks → p ∈ ps
  | q :: r, true :: k, p, h => by
    rw [keepP] at h
    rcases List.mem_cons.1 h with e | e
    · exact List.mem_cons.2 (.inl e)
    · exact List.mem_cons.2 (.inr (keep_mem r k p e))
  | q :: r, false :: k, p, h => by
    rw [keepP] at h
    exact List.mem_cons.2 (.inr (keep_mem r k p h))
  | [], k, p, h => by simp [keepP] at h
  | _ :: _, [], p, h => by simp [keepP] at h
theorem StO.lay {O I : List ByteArray} (h : StO O I) (ps : List (Nat × ByteArray)) (hp : ∀ p ∈ ps, 2 ≤ p.1 ∧ p.1 < 18 ∧ p.2.size = 256) : StO O (layP I ps) := by
  refine ⟨by rw [layP_len]; exact h.len, layP_size _ _ h.size (fun p q => (hp p q).2.2), ?_, fun k h1 h2 => ?_⟩
  · rw [layP_skip _ _ 1 (fun p q => by have := hp p q; omega)]; exact h.head
  · rw [layP_len] at h2
    rw [layP_skip _ _ k (fun p q => by have := hp p q; omega)]
    exact h.free k h1 h2
theorem StM.lay {O I : List ByteArray} {l : List Wr1} (h : StM O l I) (hl : GoodL l) (ps : List (Nat × ByteArray)) (hp : ∀ p ∈ ps, p ∈ natW (filled l)) : StM O l (layP I ps) := by
  have hin : ∀ p ∈ ps, (p.1 = 18 ∨ ∃ q ∈ natW l, q.1 = p.1) ∧ 18 ≤ p.1 ∧ p.2.size = 256 := fun p hq => by
    have hm := hp p hq
    have hsz := natW_size (fill_ok l hl) p hm
    rw [filled, natW_app] at hm
    rcases List.mem_append.1 hm with r | r
    · refine ⟨.inr ⟨p, r, rfl⟩, ?_, hsz⟩
      obtain ⟨x, hx, rfl⟩ := List.mem_map.1 r
      have := hl.free x hx
      show 18 ≤ x.1.toNat
      omega
    · obtain ⟨x, hx, rfl⟩ := List.mem_map.1 r
      have := List.eq_of_mem_replicate hx
      subst this
      exact ⟨.inl rfl, Nat.le_refl 18, hsz⟩
  refine ⟨by rw [layP_len]; exact h.len, layP_size _ _ h.size (fun p q => (hin p q).2.2), ?_, fun i hi => ?_, fun k h1 h2 => ?_⟩
  · rw [layP_skip _ _ 1 (fun p q => by have := (hin p q).2.1; omega)]; exact h.head
  · rw [layP_skip _ _ (2 + i) (fun p q => by have := (hin p q).2.1; omega)]; exact h.recs i hi
  · rw [layP_skip _ _ k (fun p q => ?_)]
    · exact h.rest k h1 h2
    · rcases (hin p q).1 with r | ⟨q', hq', r⟩
      · omega
      · rw [← r]; exact h2 q' hq'
/-- A sector that is written has what was written last, whatever it had before. -/
theorem layP_any (ps : List (Nat × ByteArray)) : ∀ (L M : List ByteArray) (k : Nat), L.length = M.length → k < L.length → (∃ p ∈ ps, p.1 = k) → (layP L ps).getD k ByteArray.empty = (layP M ps).getD k ByteArray.empty := by
  induction ps with
  | nil => intro L M k _ _ h; obtain ⟨p, hp, _⟩ := h; cases hp
  | cons q r ih =>
    intro L M k hlm hk h
    show (layP (L.set q.1 q.2) r).getD k _ = (layP (M.set q.1 q.2) r).getD k _
    by_cases hr : ∃ p ∈ r, p.1 = k
    · exact ih _ _ k (by simp [hlm]) (by simpa using hk) hr
    · have hq : q.1 = k := by
        obtain ⟨p, hp, e⟩ := h
        rcases List.mem_cons.1 hp with rfl | hp
        · exact e
        · exact absurd ⟨p, hp, e⟩ hr
      have hno : ∀ p ∈ r, p.1 ≠ k := fun p hp e => hr ⟨p, hp, e⟩
      rw [layP_skip r _ k hno, layP_skip r _ k hno, hq, getD_set_same _ _ _ hk, getD_set_same _ _ _ (by omega)]
/-- All homes are written, and the head is cleared: the commit is there. -/
theorem StM.done {O I : List ByteArray} {l : List Wr1} (h : StM O l I) (hl : GoodL l) (hO : O.length = 128) : StN O l (layP (layP I (natW (filled l))) [(1, headB 2 [])]) := by
  have hM := h.lay hl (natW (filled l)) (fun _ q => q)
  refine ⟨by rw [layP_len, layP_len]; exact h.len, layP_size _ _ hM.size (fun p hp => by simp at hp; subst hp; exact headB_size 2 [] (by simp)), ?_, fun k h1 h2 => ?_⟩
  · exact getD_set_same _ 1 _ (by rw [layP_len, h.len]; decide)
  · rw [layP_len, layP_len, h.len] at h2
    rw [layP_skip [(1, headB 2 [])] _ k (by intro p hp; simp at hp; subst hp; show 1 ≠ k; omega)]
    by_cases hk : ∃ p ∈ natW l, p.1 = k
    · have e : (layP I (natW (filled l))).getD k ByteArray.empty = (layP I (natW l)).getD k ByteArray.empty := by
        rw [filled, natW_app, layP_app, layP_skip (natW (List.replicate (16 - l.length) fillW)) _ k (by
          intro p hp
          obtain ⟨x, hx, rfl⟩ := List.mem_map.1 hp
          have := List.eq_of_mem_replicate hx
          subst this
          show 18 ≠ k
          omega)]
      rw [e]
      exact layP_any _ _ _ k (by rw [h.len, hO]) (by rw [h.len]; exact h2) hk
    · have hno : ∀ p ∈ natW l, p.1 ≠ k := fun p hp e => hk ⟨p, hp, e⟩
      rw [hM.rest k h1 hno, layP_skip _ _ k hno]
/-- The head that is set is written: the records lie there already. -/
theorem StM.of_mid {O : List ByteArray} {l : List Wr1} (hl : GoodL l) (hO : O.length = 128) (hs : ∀ t ∈ O, t.size = 256) : StM O l (midL O 2 l) := by
  refine ⟨by rw [midL_len]; exact hO, mid_size O 2 l hl hs, mid_head O 2 l (by omega), fun i hi => mid_rec O 2 l hO hl.len i hi, fun k h1 _ => ?_⟩
  unfold midL
  rw [layP_skip [(1, _)] _ k (by intro p hp; simp at hp; subst hp; show 1 ≠ k; omega), layP_skip _ _ k (by
    intro p hp
    obtain ⟨x, hx, rfl⟩ := List.mem_map.1 hp
    obtain ⟨i, hi, rfl⟩ := List.mem_map.1 hx
    have hi : i < (filled l).length := List.mem_range.1 hi
    rw [filled_len l hl.len] at hi
    show 2 + i ≠ k
    omega)]
theorem rec_range (l : List Wr1) (hl : GoodL l) : ∀ p ∈ natW (recL (filled l)), 2 ≤ p.1 ∧ p.1 < 18 ∧ p.2.size = 256 := fun p hp => by
  have hsz := natW_size (rec_ok l hl) p hp
  obtain ⟨x, hx, rfl⟩ := List.mem_map.1 hp
  obtain ⟨i, hi, rfl⟩ := List.mem_map.1 hx
  have hi : i < (filled l).length := List.mem_range.1 hi
  rw [filled_len l hl.len] at hi
  refine ⟨?_, ?_, hsz⟩
  · show 2 ≤ 2 + i; omega
  · show 2 + i < 18; omega
/-- What a disk that crashes may be: any of what was pending stays. -/
def Crashed (P : List ByteArray → Prop) (s : DSt) : Prop := ∀ ps, (∀ p ∈ ps, p ∈ s.pend) → ps.length ≤ s.pend.length → P (layP s.last ps)
theorem keep_len : ∀ (ps : List (Nat × ByteArray)) (ks : List Bool), (keepP ps ks).length ≤ ps.length
  | q :: r, true :: k => by rw [keepP]; simpa using keep_len r k
  | q :: r, false :: k => by rw [keepP]; exact Nat.le_succ_of_le (keep_len r k)
  | [], k => by simp [keepP]
  | _ :: _, [] => by simp [keepP]
theorem Crashed.crash {P : List ByteArray → Prop} {s : DSt} (h : Crashed P s) (K : List Int) (hK : ∀ z ∈ K, pickOk s.pend.length z) : crashE s K = 0 ∧ ∃ I, P I ∧ crashS s K = rs I s.acts := by
  refine ⟨by rw [crashE, if_pos hK], layP s.last (keepP s.pend (keptL s.pend.length K)), h _ (fun p hp => keep_mem _ _ p hp) (keep_len _ _), ?_⟩
  rw [crashS, if_pos hK]
  rfl
end Go.Proofs.YtnfcnpolflfpfaaGreatDoor

namespace Go.Proofs.YtnfcnpolflfpfaaGreatDoor
open Go.RowKit
/-- All of it, or nothing; and not nothing, if it must be there. -/
def StA (O : List ByteArray) (l : List Wr1) (must : Bool) (I : List ByteArray) : Prop := (StO O I ∧ must = false) ∨ StM O l I ∨ StN O l I
theorem StA.must {O : List ByteArray} {l : List Wr1} {I : List ByteArray} {m : Bool} (h : StA O l m I) (h2 : ¬ StO O I) (m' : Bool) : StA O l m' I := by
  rcases h with ⟨q, _⟩ | q
  · exact absurd q h2
  · exact .inr q
theorem StA.len {O : List ByteArray} {l : List Wr1} {I : List ByteArray} {m : Bool} (h : StA O l m I) : I.length = 128 := by
  rcases h with ⟨q, _⟩ | q | q
  · exact q.len
  · exact q.len
  · exact q.len
theorem StA.size {O : List ByteArray} {l : List Wr1} {I : List ByteArray} {m : Bool} (h : StA O l m I) : ∀ t ∈ I, t.size = 256 := by
  rcases h with ⟨q, _⟩ | q | q
  · exact q.size
  · exact q.size
  · exact q.size
theorem sub_nil {ps : List (Nat × ByteArray)} (h : ∀ p ∈ ps, p ∈ ([] : List (Nat × ByteArray))) : ps = [] := List.eq_nil_iff_forall_not_mem.2 (fun p hp => by have := h p hp; cases this)
theorem sub_one {x : Nat × ByteArray} {ps : List (Nat × ByteArray)} (h : ∀ p ∈ ps, p ∈ [x]) (hl : ps.length ≤ 1) : ps = [] ∨ ps = [x] := by
  match ps, hl with
  | [], _ => exact .inl rfl
  | [y], _ =>
    have := h y (by simp)
    simp at this
    rw [this]
    exact .inr rfl
theorem natW_take (l : List Wr1) (n : Nat) : natW (l.take n) = (natW l).take n := by simp [natW, List.map_take]
def hsetW (l : List Wr1) : Wr1 := (1, headB 2 (secs (filled l)))
def hclrW : Wr1 := (1, headB 2 [])
/-- Two runs: the homes, and the head that is cleared, on a disk that may die. -/
theorem homes_at {O I : List ByteArray} {l : List Wr1} (h : StM O l I) (hl : GoodL l) (hO : O.length = 128) (A : List (Nat × Nat)) (f : Nat) (h2 : f ≤ 1000000) :
    ∃ e s', runsR ⟨I, I, [], A, (f : Int), false⟩ [filled l, [hclrW]] = (e, s') ∧ (e = 0 ∨ (e = 2 ∧ 1 ≤ f)) ∧ s'.pend.length ≤ 16 ∧ s'.acts.length ≤ A.length + 19 ∧ (e = 0 → Crashed (StN O l) s') ∧ Crashed (fun I => StM O l I ∨ StN O l I) s' := by
  have h16 := filled_len l hl.len
  have hok : OkW I.length (filled l) := by rw [h.len]; exact fill_ok l hl
  have hM := h.lay hl (natW (filled l)) (fun _ q => q)
  have hk2 : OkW (layP I (natW (filled l))).length [hclrW] := head_ok _ (by rw [layP_len, h.len]; decide) 2 _ (by simp)
  by_cases c0 : f = 0
  · subst c0
    have e1 := lay_rs I A (filled l) hok
    have e2 := lay_rs (layP I (natW (filled l))) (A ++ actW (filled l) ++ [(1, 0)]) [hclrW] hk2
    have hC : Crashed (StN O l) (rs (layP (layP I (natW (filled l))) (natW [hclrW])) (A ++ actW (filled l) ++ [(1, 0)] ++ actW [hclrW] ++ [(1, 0)])) := fun ps hp _ => by
      rw [sub_nil hp]
      exact h.done hl hO
    refine ⟨0, rs (layP (layP I (natW (filled l))) (natW [hclrW])) (A ++ actW (filled l) ++ [(1, 0)] ++ actW [hclrW] ++ [(1, 0)]), ?_, .inl rfl, Nat.zero_le _, ?_, fun _ => hC, fun ps hp q => .inr (hC ps hp q)⟩
    · show runsR (rs I A) [filled l, [hclrW]] = _
      rw [runsR, e1, if_pos rfl, runsR]
      simp only
      rw [e2, if_pos rfl, runsR]
    · simp [rs, actW, h16]
  by_cases c1 : f ≤ 17
  · have e1 := lay_dies (filled l) ⟨I, I, [], A, (f : Int), false⟩ (f - 1) rfl (by show (f : Int) = _; omega) (by omega) hok
    refine ⟨2, ⟨I, layP I (natW ((filled l).take (f - 1))), [] ++ natW ((filled l).take (f - 1)), A ++ actW ((filled l).take (f - 1)), 0, true⟩, ?_, .inr ⟨rfl, by omega⟩, ?_, ?_, fun q => (by cases q), fun ps hp _ => .inl (h.lay hl ps (fun p q => ?_))⟩
    · rw [runsR, e1, if_neg (show ¬ (2 : Int) = 0 by decide)]
    · simp [natW]; omega
    · simp [actW]; omega
    · have := hp p q
      rw [List.nil_append, natW_take] at this
      exact List.mem_of_mem_take this
  · have e1 := lay_armed (filled l) ⟨I, I, [], A, (f : Int), false⟩ rfl (by show _ < (f : Int); rw [h16]; omega) hok
    have f1 : layR ⟨I, I, [], A, (f : Int), false⟩ (filled l) = (0, ⟨layP I (natW (filled l)), layP I (natW (filled l)), [], A ++ actW (filled l) ++ [(1, 0)], (f : Int) - 17, false⟩) := by
      rw [e1, h16]
      rfl
    by_cases c2 : f ≤ 19
    · have e2 := lay_dies [hclrW] ⟨layP I (natW (filled l)), layP I (natW (filled l)), [], A ++ actW (filled l) ++ [(1, 0)], (f : Int) - 17, false⟩ (f - 18) rfl (by show (f : Int) - 17 = _; omega) (by simp; omega) hk2
      refine ⟨2, ⟨layP I (natW (filled l)), layP (layP I (natW (filled l))) (natW ([hclrW].take (f - 18))), [] ++ natW ([hclrW].take (f - 18)), A ++ actW (filled l) ++ [(1, 0)] ++ actW ([hclrW].take (f - 18)), 0, true⟩, ?_, .inr ⟨rfl, by omega⟩, ?_, ?_, fun q => (by cases q), fun ps hp hlen => ?_⟩
      · rw [runsR, f1, if_pos rfl, runsR]
        simp only
        rw [e2, if_neg (show ¬ (2 : Int) = 0 by decide)]
      · simp [natW]; omega
      · simp [actW, h16]; omega
      · have hp' : ∀ p ∈ ps, p ∈ [((1 : Nat), headB 2 [])] := fun p q => by
          have := hp p q
          rw [List.nil_append, natW_take] at this
          exact List.mem_of_mem_take this
        have hl1 : ps.length ≤ 1 := by
          refine Nat.le_trans hlen ?_
          simp [natW]; omega
        rcases sub_one hp' hl1 with q | q
        · subst q; exact .inl hM
        · subst q; exact .inr (h.done hl hO)
    · have e2 := lay_armed [hclrW] ⟨layP I (natW (filled l)), layP I (natW (filled l)), [], A ++ actW (filled l) ++ [(1, 0)], (f : Int) - 17, false⟩ rfl (by show ((1 : Nat) : Int) + 1 < (f : Int) - 17; omega) hk2
      have hC : Crashed (StN O l) ⟨layP (layP I (natW (filled l))) ([] ++ natW [hclrW]), layP (layP I (natW (filled l))) (natW [hclrW]), [], A ++ actW (filled l) ++ [(1, 0)] ++ actW [hclrW] ++ [(1, 0)], (f : Int) - 17 - (((1 : Nat) : Int) + 1), false⟩ := fun ps hp _ => by
        rw [sub_nil hp]
        exact h.done hl hO
      refine ⟨0, ⟨layP (layP I (natW (filled l))) ([] ++ natW [hclrW]), layP (layP I (natW (filled l))) (natW [hclrW]), [], A ++ actW (filled l) ++ [(1, 0)] ++ actW [hclrW] ++ [(1, 0)], (f : Int) - 17 - (((1 : Nat) : Int) + 1), false⟩, ?_, .inl rfl, Nat.zero_le _, ?_, fun _ => hC, fun ps hp q => .inr (hC ps hp q)⟩
      · rw [runsR, f1, if_pos rfl, runsR]
        simp only
        rw [e2]
        rw [if_pos rfl, runsR]
        rfl
      · simp [actW, h16]
/-- A commit on a disk that may die. -/
theorem commit_at {O : List ByteArray} {l : List Wr1} (h : StO O O) (hl : GoodL l) (A : List (Nat × Nat)) (f : Nat) (h2 : f ≤ 1000000) :
    ∃ e s' nx lost, commitR ⟨O, O, [], A, (f : Int), false⟩ 2 false l = ⟨e, s', nx, lost⟩ ∧ (e = 0 ∨ e = 2) ∧ s'.pend.length ≤ 16 ∧ s'.acts.length ≤ A.length + 38 ∧ Crashed (StA O l (decide (e = 0))) s' := by
  have hO := h.len
  have h16 := filled_len l hl.len
  have hr : refE l ((O.length : Nat) : Int) = 0 := by rw [hO]; exact hl.ref
  by_cases c0 : f = 0
  · subst c0
    have e := commit_rs O A 2 l hO hl
    refine ⟨0, rs (comL O 2 l) (A ++ comA l), 3, false, e, .inl rfl, Nat.zero_le _, by show (A ++ comA l).length ≤ _; rw [List.length_append, comA_len l hl.len]; exact Nat.le_refl _, fun ps hp _ => ?_⟩
    rw [sub_nil hp]
    exact .inr (.inr ((StM.of_mid hl hO h.size).done hl hO))
  · have key : ∃ e s', runsR ⟨O, O, [], A, (f : Int), false⟩ (runsOf 2 l) = (e, s') ∧ (e = 0 ∨ e = 2) ∧ s'.pend.length ≤ 16 ∧ s'.acts.length ≤ A.length + 38 ∧ Crashed (StA O l (decide (e = 0))) s' := by
      have hok : OkW O.length (recL (filled l)) := by rw [hO]; exact rec_ok l hl
      have hrl : (recL (filled l)).length = 16 := by rw [recL_len, h16]
      by_cases c1 : f ≤ 17
      · have e1 := lay_dies (recL (filled l)) ⟨O, O, [], A, (f : Int), false⟩ (f - 1) rfl (by show (f : Int) = _; omega) (by omega) hok
        refine ⟨2, ⟨O, layP O (natW ((recL (filled l)).take (f - 1))), [] ++ natW ((recL (filled l)).take (f - 1)), A ++ actW ((recL (filled l)).take (f - 1)), 0, true⟩, ?_, .inr rfl, ?_, ?_, fun ps hp _ => .inl ⟨h.lay ps (fun p q => ?_), by decide⟩⟩
        · rw [runsOf, runsR, e1, if_neg (show ¬ (2 : Int) = 0 by decide)]
        · simp [natW]; omega
        · simp [actW]; omega
        · have := hp p q
          rw [List.nil_append, natW_take] at this
          exact rec_range l hl p (List.mem_of_mem_take this)
      · have e1 := lay_armed (recL (filled l)) ⟨O, O, [], A, (f : Int), false⟩ rfl (by show _ < (f : Int); rw [hrl]; omega) hok
        obtain ⟨O1, hO1⟩ : ∃ O1, layP O (natW (recL (filled l))) = O1 := ⟨_, rfl⟩
        have f1 : layR ⟨O, O, [], A, (f : Int), false⟩ (recL (filled l)) = (0, ⟨O1, O1, [], A ++ actW (recL (filled l)) ++ [(1, 0)], (f : Int) - 17, false⟩) := by
          rw [e1, hrl, ← hO1]
          rfl
        have hSO1 : StO O O1 := by rw [← hO1]; exact h.lay _ (rec_range l hl)
        have hMid : layP O1 [(1, headB 2 (secs (filled l)))] = midL O 2 l := by rw [← hO1]; rfl
        have hk2 : OkW O1.length [hsetW l] := head_ok _ (by rw [hSO1.len]; decide) 2 _ (by rw [secs16 l hl]; decide)
        have hA1 : (A ++ actW (recL (filled l)) ++ [(1, 0)]).length = A.length + 17 := by simp [actW, hrl]
        generalize A ++ actW (recL (filled l)) ++ [(1, 0)] = A1 at *
        by_cases c2 : f ≤ 19
        · have e2 := lay_dies [hsetW l] ⟨O1, O1, [], A1, (f : Int) - 17, false⟩ (f - 18) rfl (by show (f : Int) - 17 = _; omega) (by simp; omega) hk2
          refine ⟨2, ⟨O1, layP O1 (natW ([hsetW l].take (f - 18))), [] ++ natW ([hsetW l].take (f - 18)), A1 ++ actW ([hsetW l].take (f - 18)), 0, true⟩, ?_, .inr rfl, ?_, ?_, fun ps hp hlen => ?_⟩
          · rw [runsOf, runsR, f1, if_pos rfl, runsR]
            simp only
            rw [show [((1 : Int), headB 2 (secs (filled l)))] = [hsetW l] from rfl, e2, if_neg (show ¬ (2 : Int) = 0 by decide)]
          · simp [natW]; omega
          · simp [actW]; omega
          · have hp' : ∀ p ∈ ps, p ∈ [((1 : Nat), headB 2 (secs (filled l)))] := fun p q => by
              have := hp p q
              rw [List.nil_append, natW_take] at this
              exact List.mem_of_mem_take this
            have hl1 : ps.length ≤ 1 := by
              refine Nat.le_trans hlen ?_
              simp [natW]; omega
            rcases sub_one hp' hl1 with q | q
            · subst q; exact .inl ⟨hSO1, by decide⟩
            · subst q
              refine .inr (.inl ?_)
              show StM O l (layP O1 [(1, headB 2 (secs (filled l)))])
              rw [hMid]
              exact StM.of_mid hl hO h.size
        · have e2 := lay_armed [hsetW l] ⟨O1, O1, [], A1, (f : Int) - 17, false⟩ rfl (by show ((1 : Nat) : Int) + 1 < (f : Int) - 17; omega) hk2
          have f2 : layR ⟨O1, O1, [], A1, (f : Int) - 17, false⟩ [hsetW l] = (0, ⟨midL O 2 l, midL O 2 l, [], A1 ++ actW [hsetW l] ++ [(1, 0)], ((f - 19 : Nat) : Int), false⟩) := by
            rw [e2, ← hMid]
            have : (f : Int) - 17 - (((([hsetW l] : List Wr1).length : Nat) : Int) + 1) = ((f - 19 : Nat) : Int) := by simp; omega
            simp only [this]
            rfl
          obtain ⟨e, s', hrun, he, hp, ha, hn, hc⟩ := homes_at (StM.of_mid hl hO h.size) hl hO (A1 ++ actW [hsetW l] ++ [(1, 0)]) (f - 19) (by omega)
          refine ⟨e, s', ?_, he.imp id (·.1), hp, ?_, fun ps q1 q2 => ?_⟩
          · rw [runsOf, runsR, f1, if_pos rfl, runsR]
            simp only
            rw [show [((1 : Int), headB 2 (secs (filled l)))] = [hsetW l] from rfl, f2, if_pos rfl]
            exact hrun
          · have : (A1 ++ actW [hsetW l] ++ [(1, 0)]).length = A1.length + 2 := by simp [actW]
            omega
          · exact .inr (hc ps q1 q2)
    obtain ⟨e, s', hrun, he2, hp, ha, hc⟩ := key
    by_cases he : e = 0
    · refine ⟨e, s', (2 + 1) % 4294967296, false, ?_, he2, hp, ha, hc⟩
      rw [commitR, hr, if_neg (by simp), if_neg (by decide), hrun, if_pos he, he]
    · refine ⟨e, s', 2, true, ?_, he2, hp, ha, hc⟩
      rw [commitR, hr, if_neg (by simp), if_neg (by decide), hrun, if_neg he]
/-- What is done once more, on a disk that may die. -/
theorem redo_at {O I : List ByteArray} {l : List Wr1} (h : StM O l I) (hl : GoodL l) (hO : O.length = 128) (A : List (Nat × Nat)) (f : Nat) (h2 : f ≤ 1000000) :
    ∃ e s', redoR ⟨I, I, [], A, (f : Int), false⟩ 2 (secs (filled l)) = (e, s') ∧ (e = 0 ∨ (e = 2 ∧ 1 ≤ f)) ∧ s'.pend.length ≤ 16 ∧ s'.acts.length ≤ A.length + 19 ∧ (e = 0 → Crashed (StN O l) s') ∧ Crashed (fun I => StM O l I ∨ StN O l I) s' := by
  obtain ⟨e, s', hrun, r⟩ := homes_at h hl hO A f h2
  refine ⟨e, s', ?_, r⟩
  have h16 := filled_len l hl.len
  have hL : redoL ⟨I, I, [], A, (f : Int), false⟩ (secs (filled l)) = filled l := by
    refine List.ext_getElem (by rw [redoL_len, secs16 l hl, h16]) (fun i q1 q2 => ?_)
    have hi : i < 16 := by omega
    rw [← getD_of q1, ← getD_of q2, redoL_at _ _ i (by rw [secs16 l hl]; exact hi), secs_at _ i (by omega), (readB (s := ⟨I, I, [], A, (f : Int), false⟩) rfl (2 + i) (by show 2 + i < I.length; rw [h.len]; omega)).2]
    show (_, I.getD (2 + i) ByteArray.empty) = _
    rw [h.recs i hi]
  rw [redoR, hL]
  rw [runsR] at hrun
  by_cases q : (layR ⟨I, I, [], A, (f : Int), false⟩ (filled l)).1 = 0
  · rw [if_pos q] at hrun ⊢
    rw [runsR] at hrun
    by_cases q2 : (layR (layR ⟨I, I, [], A, (f : Int), false⟩ (filled l)).2 [hclrW]).1 = 0
    · rw [if_pos q2, runsR] at hrun
      refine Eq.trans ?_ hrun
      exact Prod.ext q2 rfl
    · rw [if_neg q2] at hrun
      exact hrun
  · rw [if_neg q] at hrun ⊢
    exact hrun
end Go.Proofs.YtnfcnpolflfpfaaGreatDoor

namespace Go.Proofs.YtnfcnpolflfpfaaGreatDoor
open Go.RowKit
/-- A disk behind w0, and a fence. -/
def DF (w0 w : World) (b : Nat) (s : DSt) (X : Nat → Prop) : Prop := ∃ v, Dk w w0.heap.size b v s ∧ Below w0.heap.size w0 w ∧ Sane s ∧ ∀ x, X x → ¬ Fd b v x ∧ x < w.heap.size
theorem JK.df {w0 w : World} {b jb : Nat} {s : DSt} {nx : Nat} {lost : Bool} {X : Nat → Prop} (h : JK w0 w b jb s nx lost X) : DF w0 w b s X := by
  obtain ⟨v, h1, h2, h3, h4, h5, h6, h7⟩ := h
  exact ⟨v, h1, h5, h6, fun x hx => ⟨(h7 x hx).1, (h7 x hx).2.2⟩⟩
theorem DF.bel {w0 w : World} {b : Nat} {s : DSt} {X : Nat → Prop} (h : DF w0 w b s X) : Below w0.heap.size w0 w := by
  obtain ⟨v, h1, h2, _⟩ := h
  exact h2
theorem DF.lt {w0 w : World} {b : Nat} {s : DSt} {X : Nat → Prop} (h : DF w0 w b s X) (x : Nat) (hx : X x) : x < w.heap.size := by
  obtain ⟨v, h1, h2, h3, h4⟩ := h
  exact (h4 x hx).2
theorem DF.di {w0 w : World} {b : Nat} {s : DSt} {X : Nat → Prop} (h : DF w0 w b s X) : DI w0 w b s := by
  obtain ⟨v, h1, h2, h3, h4⟩ := h
  exact ⟨v, h1, h2, h3⟩
theorem DF.below {w0 w w' : World} {b : Nat} {s : DSt} {X : Nat → Prop} (h : DF w0 w b s X) (hb : Below w.heap.size w w') : DF w0 w' b s X := by
  obtain ⟨v, h1, h2, h3, h4⟩ := h
  exact ⟨v, h1.below hb, h2.trans (hb.mono h2.size), h3, fun x hx => ⟨(h4 x hx).1, Nat.lt_of_lt_of_le (h4 x hx).2 hb.size⟩⟩
theorem DF.dpost {w0 w w' : World} {b : Nat} {v : DV} {s s' : DSt} {X : Nat → Prop} (h1 : Dk w w0.heap.size b v s) (h2 : Below w0.heap.size w0 w) (hs : Sane s') (h4 : ∀ x, X x → ¬ Fd b v x ∧ x < w.heap.size) (hP : DPost w0.heap.size b v s' w w') : DF w0 w' b s' X ∧ Only (fun x => ¬ X x) w w' := by
  obtain ⟨v', k1, k2, k3⟩ := hP
  refine ⟨⟨v', k1, DI.only h1 h2 k2, hs, fun x hx => ⟨fun q => ?_, Nat.lt_of_lt_of_le (h4 x hx).2 k2.size⟩⟩, k2.widen (fun k _ q r => (h4 k r).1 q)⟩
  rcases k3 x q with r | r
  · exact (h4 x hx).1 r
  · have := (h4 x hx).2; omega
theorem crashF {w0 w : World} {b : Nat} {s : DSt} {X : Nat → Prop} (h : DF w0 w b s X) (hp : s.pend.length ≤ 1000000000) (p : Option Addr) (l : List Int) (n c : Nat) (hn : n = l.length) (hl : Ints w p l) (hll : l.length ≤ 9223372036854775807) :
    Calls Tryz.prog 30 #[.pointer (some ⟨b, 0, none⟩), .slice p n c] w fun e w' => e = .returned (.int .i64 (crashE s l)) ∧ DF w0 w' b (crashS s l) X ∧ Only (fun x => ¬ X x) w w' := by
  subst hn
  obtain ⟨v, h1, h2, h3, h4⟩ := h
  refine (crash_any w _ b v s h1 h2.size h3 hp p l c hl hll).mono ?_
  rintro ev w' ⟨rfl, hP⟩
  exact ⟨rfl, DF.dpost h1 h2 (h3.crash l) h4 hP⟩
theorem armF {w0 w : World} {b : Nat} {s : DSt} {X : Nat → Prop} (h : DF w0 w b s X) (n : Int) (hn : n ≤ 9223372036854775807) :
    Calls Tryz.prog 27 #[.pointer (some ⟨b, 0, none⟩), .int .i64 n] w fun e w' => e = .returned (.int .i64 (armE s n)) ∧ DF w0 w' b (armS s n) X ∧ Only (fun x => ¬ X x) w w' := by
  obtain ⟨v, h1, h2, h3, h4⟩ := h
  refine (arm_any w _ b v s h1 n).mono ?_
  rintro ev w' ⟨rfl, g1, g2⟩
  exact ⟨rfl, DF.dpost h1 h2 (h3.arm n hn) h4 ⟨v, g1, g2, fun _ q => .inl q⟩⟩
theorem imageF {w0 w : World} {b : Nat} {L : List ByteArray} {A : List (Nat × Nat)} {X : Nat → Prop} (h : DF w0 w b (rs L A) X) (hL : L.length = 128) : Calls Tryz.prog 13 #[.pointer (some ⟨b, 0, none⟩)] w fun e w' => ∃ g cap, e = .returned (.slice (some ⟨g, 0, none⟩) 128 cap) ∧ w.heap.size ≤ g ∧ g < w'.heap.size ∧ Strs w' (some ⟨g, 0, none⟩) L ∧ Below w.heap.size w w' := by
  obtain ⟨v, h1, _⟩ := h
  refine (image_any w _ b v _ h1 (by show 0 < L.length; omega) (by show L.length ≤ 1024; omega)).mono ?_
  rintro e w' ⟨v', rfl, hr, hb⟩
  have hr' : w'.ownsRow w.heap.size 9 1 v' L.length (strs L) := hr
  obtain ⟨g, cap, e, hg1, hg2⟩ := hr'.form (by omega)
  obtain ⟨p', c', e2, hs⟩ := Strs.own hr'
  rw [e] at e2
  simp at e2
  obtain ⟨rfl, rfl⟩ := e2
  have hlt := hr'.lt g (by rw [e]; rfl)
  exact ⟨g, cap, by rw [e, hL], hlt.1, hlt.2, hs, hb⟩
/-- What Open of a disk that may die leaves. -/
def OpP (O : List ByteArray) (l : List Wr1) (must : Bool) (w0 : World) (b : Nat) (X : Nat → Prop) (N : Nat) (w : World) (e : Ending) (w' : World) : Prop :=
  ∃ jp ag er s', e = .returned (.tuple #[.pointer jp, .bool ag, .int .i64 er]) ∧ DF w0 w' b s' X ∧ Only (fun x => ¬ X x) w w' ∧ (er = 0 ∨ er = 2) ∧ s'.pend.length ≤ 16 ∧ s'.acts.length ≤ N + 19 ∧ Crashed (StA O l (must || (decide (er = 0) && ag))) s'
/-- The same, with the fuse. -/
def OpQ (O : List ByteArray) (l : List Wr1) (must : Bool) (w0 : World) (b : Nat) (X : Nat → Prop) (N f : Nat) (w : World) (e : Ending) (w' : World) : Prop :=
  ∃ jp ag er s', e = .returned (.tuple #[.pointer jp, .bool ag, .int .i64 er]) ∧ DF w0 w' b s' X ∧ Only (fun x => ¬ X x) w w' ∧ (er = 0 ∨ (er = 2 ∧ 1 ≤ f)) ∧ s'.pend.length ≤ 16 ∧ s'.acts.length ≤ N + 19 ∧ Crashed (StA O l (must || (decide (er = 0) && ag))) s'
theorem openG {w0 w : World} {b : Nat} {O I : List ByteArray} {l : List Wr1} {must : Bool} {A : List (Nat × Nat)} {f : Nat} {X : Nat → Prop} (h : DF w0 w b ⟨I, I, [], A, (f : Int), false⟩ X) (hg : ETy w) (h2 : f ≤ 1000000) (hA : StA O l must I) (hl : GoodL l) (hO : O.length = 128) (ha : A.length ≤ 1000000) :
    Calls Tryz.prog 69 #[.pointer (some ⟨b, 0, none⟩)] w (OpQ O l must w0 b X A.length f w) := by
  obtain ⟨v, k1, k2, k3, k4⟩ := h
  have hIl := hA.len
  obtain ⟨r1, r2⟩ := readB (s := ⟨I, I, [], A, (f : Int), false⟩) rfl 1 (by show 1 < I.length; omega)
  rw [show ((1 : Nat) : Int) = 1 from rfl] at r1 r2
  have r2' : readT ⟨I, I, [], A, (f : Int), false⟩ 1 = I.getD 1 ByteArray.empty := r2
  have hsz : (I.getD 1 ByteArray.empty).size = 256 := hA.size _ (by simp [List.getD_eq_getElem?_getD, show 1 < I.length by omega])
  refine (open_any w _ b v _ k1 hg k2.size k3 (by rw [r2', hsz]; decide) (Nat.zero_le _) (by show A.length ≤ _; omega)).mono ?_
  intro e w' hP
  rcases hP with ⟨q, _⟩ | ⟨_, n', H, ok, hn', hR, hc⟩
  · exact absurd r1 q
  · rw [r2'] at hR
    have clear : ∀ n, n < 4294967296 → I.getD 1 ByteArray.empty = headB n [] → StA O l must I → OpQ O l must w0 b X A.length f w e w' := fun n hn hh hst => by
      rw [hh] at hR
      obtain ⟨e1, e2, e3⟩ := rhp_clear n hn _ _ _ _ hR
      subst e2 e3
      rcases hc with ⟨q, _⟩ | ⟨_, _, jb, ev, v', j1, j2, j3, j4, j5, j6⟩ | ⟨_, q, _⟩ | ⟨_, q, _⟩
      · cases q
      · have hd := DF.dpost k1 k2 k3 k4 ⟨v', j1, j5, j6⟩
        refine ⟨_, false, 0, _, ev, hd.1, hd.2, .inl rfl, Nat.zero_le _, by show A.length ≤ _; omega, fun ps hp _ => ?_⟩
        rw [sub_nil hp]
        have : (must || (decide ((0 : Int) = 0) && false)) = must := by simp
        rw [this]
        exact hst
      · simp at q
      · simp at q
    rcases hA with ⟨q, qm⟩ | q | q
    · exact clear 1 (by decide) q.head (.inl ⟨q, qm⟩)
    · rw [q.head, show (((⟨I, I, [], A, (f : Int), false⟩ : DSt).last.length : Nat) : Int) = 128 by show ((I.length : Nat) : Int) = 128; rw [hIl]; rfl] at hR
      obtain ⟨e1, e2, e3⟩ := rhp_set 2 (by decide) 128 _ _ _ _ (secs16 l hl) (homes_ok l hl) hR
      have e1' : n' = 2 := by omega
      subst e1' e2 e3
      obtain ⟨er, s', hrr, he, hp16, hac, hn0, hcr⟩ := redo_at q hl hO A f h2
      rw [hrr] at hc
      have hsn : Sane s' := by
        have hx : Sane (redoR ⟨I, I, [], A, (f : Int), false⟩ 2 (secs (filled l))).2 := by
          unfold redoR
          split
          · exact layR_sane _ _ (layR_sane _ _ k3)
          · exact layR_sane _ _ k3
        rw [hrr] at hx
        exact hx
      rcases hc with ⟨q', _⟩ | ⟨_, q', _⟩ | ⟨_, _, q', ev, hD⟩ | ⟨_, _, q', jb, ev, v', j1, j2, j3, j4, j5, j6⟩
      · cases q'
      · rw [secs16 l hl] at q'; cases q'
      · have hd := DF.dpost k1 k2 hsn k4 hD
        exact ⟨_, false, er, s', ev, hd.1, hd.2, he, hp16, hac, fun ps hp hlen => .inr (hcr ps hp hlen)⟩
      · have hd := DF.dpost k1 k2 hsn k4 ⟨v', j1, j5, j6⟩
        exact ⟨_, true, 0, s', ev, hd.1, hd.2, .inl rfl, hp16, hac, fun ps hp hlen => .inr (hcr ps hp hlen)⟩
    · exact clear 2 (by decide) q.head (.inr (.inr q))
theorem openF {w0 w : World} {b : Nat} {O I : List ByteArray} {l : List Wr1} {must : Bool} {A : List (Nat × Nat)} {f : Nat} {X : Nat → Prop} (h : DF w0 w b ⟨I, I, [], A, (f : Int), false⟩ X) (hg : ETy w) (_h1 : 1 ≤ f) (h2 : f ≤ 20) (hA : StA O l must I) (hl : GoodL l) (hO : O.length = 128) (ha : A.length ≤ 1000000) :
    Calls Tryz.prog 69 #[.pointer (some ⟨b, 0, none⟩)] w (OpP O l must w0 b X A.length w) := by
  refine (openG h hg (by omega) hA hl hO ha).mono ?_
  rintro e w' ⟨jp, ag, er, s', q1, q2, q3, q4, q5⟩
  exact ⟨jp, ag, er, s', q1, q2, q3, q4.imp id (·.1), q5⟩
/-- The last Open: of a disk that was loaded. -/
def OpZ (O : List ByteArray) (l : List Wr1) (must : Bool) (base b : Nat) (v : DV) (w : World) (e : Ending) (w' : World) : Prop :=
  ∃ jp ag I A, e = .returned (.tuple #[.pointer jp, .bool ag, .int .i64 0]) ∧ DPost base b v (rs I A) w w' ∧ Sane (rs I A) ∧ I.length = 128 ∧ ((freeQ I O ∧ must = false ∧ ag = false) ∨ freeQ I (layP O (natW l)))
theorem openZ {w : World} {base b : Nat} {v : DV} {O I : List ByteArray} {l : List Wr1} {must : Bool} (h : Dk w base b v (rs I [])) (hg : ETy w) (hb : base ≤ w.heap.size) (hA : StA O l must I) (hl : GoodL l) (hO : O.length = 128) :
    Calls Tryz.prog 69 #[.pointer (some ⟨b, 0, none⟩)] w (OpZ O l must base b v w) := by
  have hIl := hA.len
  have hS : Sane (rs I []) := Sane.fresh I (by omega) (by omega)
  obtain ⟨r1, r2⟩ := read_rs I [] 1 (by omega)
  rw [show ((1 : Nat) : Int) = 1 from rfl] at r1 r2
  have hsz : (I.getD 1 ByteArray.empty).size = 256 := hA.size _ (by simp [List.getD_eq_getElem?_getD, show 1 < I.length by omega])
  refine (open_any w base b v _ h hg hb hS (by rw [r2, hsz]; decide) (Nat.zero_le _) (Nat.zero_le _)).mono ?_
  intro e w' hP
  rcases hP with ⟨q, _⟩ | ⟨_, n', H, ok, hn', hR, hc⟩
  · exact absurd r1 q
  · rw [r2] at hR
    have clear : ∀ n, n < 4294967296 → I.getD 1 ByteArray.empty = headB n [] → ((freeQ I O ∧ must = false) ∨ freeQ I (layP O (natW l))) → OpZ O l must base b v w e w' := fun n hn hh hst => by
      rw [hh] at hR
      obtain ⟨e1, e2, e3⟩ := rhp_clear n hn _ _ _ _ hR
      subst e2 e3
      rcases hc with ⟨q, _⟩ | ⟨_, _, jb, ev, v', j1, j2, j3, j4, j5, j6⟩ | ⟨_, q, _⟩ | ⟨_, q, _⟩
      · cases q
      · refine ⟨_, false, I, [], ev, ⟨v', j1, j5, j6⟩, hS, hIl, ?_⟩
        rcases hst with ⟨a, b⟩ | a
        · exact .inl ⟨a, b, rfl⟩
        · exact .inr a
      · simp at q
      · simp at q
    rcases hA with ⟨q, qm⟩ | q | q
    · exact clear 1 (by decide) q.head (.inl ⟨q.free, qm⟩)
    · rw [q.head, show (((rs I []).last.length : Nat) : Int) = 128 by show ((I.length : Nat) : Int) = 128; rw [hIl]; rfl] at hR
      obtain ⟨e1, e2, e3⟩ := rhp_set 2 (by decide) 128 _ _ _ _ (secs16 l hl) (homes_ok l hl) hR
      have e1' : n' = 2 := by omega
      subst e1' e2 e3
      have h16 := filled_len l hl.len
      have hL : redoL (rs I []) (secs (filled l)) = filled l := by
        refine List.ext_getElem (by rw [redoL_len, secs16 l hl, h16]) (fun i q1 q2 => ?_)
        have hi : i < 16 := by omega
        rw [← getD_of q1, ← getD_of q2, redoL_at _ _ i (by rw [secs16 l hl]; exact hi), secs_at _ i (by omega), (read_rs I [] (2 + i) (by omega)).2, q.recs i hi]
      have e1 := lay_rs I [] (filled l) (by rw [hIl]; exact fill_ok l hl)
      have e2 := lay_rs (layP I (natW (filled l))) ([] ++ actW (filled l) ++ [(1, 0)]) [(1, headB 2 [])] (head_ok _ (by rw [layP_len, hIl]; decide) 2 _ (by simp))
      have hrr : redoR (rs I []) 2 (secs (filled l)) = (0, rs (layP (layP I (natW (filled l))) [(1, headB 2 [])]) ([] ++ actW (filled l) ++ [(1, 0)] ++ actW [(1, headB 2 [])] ++ [(1, 0)])) := by
        rw [redoR, hL, e1, if_pos rfl]
        simp only
        rw [e2]
        rfl
      have hsn : Sane (redoR (rs I []) 2 (secs (filled l))).2 := by
        unfold redoR
        split
        · exact layR_sane _ _ (layR_sane _ _ hS)
        · exact layR_sane _ _ hS
      rw [hrr] at hc hsn
      have hN := q.done hl hO
      rcases hc with ⟨q', _⟩ | ⟨_, q', _⟩ | ⟨_, _, q', _⟩ | ⟨_, _, q', jb, ev, v', j1, j2, j3, j4, j5, j6⟩
      · cases q'
      · rw [secs16 l hl] at q'; cases q'
      · exact absurd rfl q'
      · exact ⟨_, true, _, _, ev, ⟨v', j1, j5, j6⟩, hsn, hN.len, .inr hN.free⟩
    · exact clear 2 (by decide) q.head (.inr q.free)
/-- What was laid down lies there already. -/
theorem free_again (L : List ByteArray) (nx : Nat) (l : List Wr1) (hl : l.length ≤ 16) : freeQ (comL L nx l) (layP (comL L nx l) (natW l)) := fun k h1 h2 => by
  rw [comL_len] at h2
  by_cases hk : ∃ p ∈ natW l, p.1 = k
  · rw [com_free L nx l hl k h1]
    exact layP_any _ _ _ k (by rw [comL_len]) h2 hk
  · rw [layP_skip _ _ k (fun p hp e => hk ⟨p, hp, e⟩)]
end Go.Proofs.YtnfcnpolflfpfaaGreatDoor
