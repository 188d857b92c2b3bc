import Derived.Test.YtaedoagcbkgmbaaDn3
import Derived.Test.YtaedoagcbkgmbaaLdl
namespace Go.Proofs.Ytaedoagcbkgmbaa
open Go.RowKit
theorem layP_app (L : List ByteArray) (ps qs : List (Nat × ByteArray)) : layP L (ps ++ qs) = layP (layP L ps) qs := by simp [layP]
theorem layP_far (i : Nat) : ∀ (ps : List (Nat × ByteArray)) (L : List ByteArray), (∀ p ∈ ps, p.1 ≠ i) → (layP L ps).getD i ByteArray.empty = L.getD i ByteArray.empty
  | [], _, _ => rfl
  | p :: r, L, h => by
    have := layP_far i r (L.set p.1 p.2) (fun q hq => h q (List.mem_cons_of_mem _ hq))
    exact this.trans (getD_set_other L p.1 i p.2 (h p List.mem_cons_self))
theorem layP_one (i : Nat) : ∀ (ps : List (Nat × ByteArray)) (L : List ByteArray), i < L.length → (layP L ps).getD i ByteArray.empty = L.getD i ByteArray.empty ∨ ∃ p ∈ ps, p.1 = i ∧ (layP L ps).getD i ByteArray.empty = p.2
  | [], _, _ => .inl rfl
  | p :: r, L, h => by
    rcases layP_one i r (L.set p.1 p.2) (by rw [List.length_set]; exact h) with q | ⟨x, hx, h1, h2⟩
    · by_cases e : p.1 = i
      · subst e
        exact .inr ⟨p, List.mem_cons_self, rfl, q.trans (getD_set_same L p.1 p.2 h)⟩
      · exact .inl (q.trans (getD_set_other L p.1 i p.2 e))
    · exact .inr ⟨x, List.mem_cons_of_mem _ hx, h1, h2⟩
theorem keepP_app : ∀ (P1 : List (Nat × ByteArray)) (k1 : List Bool) (P2 : List (Nat × ByteArray)) (k2 : List Bool), P1.length = k1.length → keepP (P1 ++ P2) (k1 ++ k2) = keepP P1 k1 ++ keepP P2 k2
  | [], [], P2, k2, _ => by simp [keepP]
  | p :: r, true :: k, P2, k2, h => by simp [keepP]; exact keepP_app r k P2 k2 (by simpa using h)
  | p :: r, false :: k, P2, k2, h => by simp [keepP]; exact keepP_app r k P2 k2 (by simpa using h)
theorem keepP_idx : ∀ (P : List (Nat × ByteArray)) (k : List Bool) (p : Nat × ByteArray), p ∈ keepP P k → ∃ j, ∃ h : j < P.length, P[j] = p ∧ k.getD j false = true
  | [], _, p, h => by simp [keepP] at h
  | q :: r, [], p, h => by simp [keepP] at h
  | q :: r, true :: k, p, h => by
    simp only [keepP, List.mem_cons] at h
    rcases h with rfl | h
    · exact ⟨0, by simp, rfl, rfl⟩
    · obtain ⟨j, h1, h2, h3⟩ := keepP_idx r k p h
      exact ⟨j + 1, by simpa using h1, by simpa using h2, by simpa using h3⟩
  | q :: r, false :: k, p, h => by
    simp only [keepP] at h
    obtain ⟨j, h1, h2, h3⟩ := keepP_idx r k p h
    exact ⟨j + 1, by simpa using h1, by simpa using h2, by simpa using h3⟩
theorem keepP_all : ∀ (P : List (Nat × ByteArray)), keepP P (List.replicate P.length true) = P
  | [] => rfl
  | p :: r => by simp [List.replicate_succ, keepP, keepP_all r]
/-- The last of the kept writes to a sector is what stands there. -/
theorem lay_last (L : List ByteArray) (P : List (Nat × ByteArray)) (kl : List Bool) (hl : kl.length = P.length) (a : Nat) (ha : a < P.length) (hk : kl.getD a false = true) (hp : P[a].1 < L.length) (hlater : ∀ b, (hb : b < P.length) → a < b → kl.getD b false = true → P[b].1 ≠ P[a].1) :
    (layP L (keepP P kl)).getD P[a].1 ByteArray.empty = P[a].2 := by
  have eP : P = P.take a ++ (P[a] :: P.drop (a + 1)) := by simp
  have ek : kl = kl.take a ++ (true :: kl.drop (a + 1)) := by
    have e1 : kl[a]'(by omega) = true := by simpa [List.getD_eq_getElem?_getD, show a < kl.length by omega] using hk
    conv => lhs; rw [← List.take_append_drop a kl, List.drop_eq_getElem_cons (by omega : a < kl.length), e1]
  have e2 : keepP P kl = keepP (P.take a) (kl.take a) ++ (P[a] :: keepP (P.drop (a + 1)) (kl.drop (a + 1))) := by
    conv => lhs; rw [eP, ek]
    rw [keepP_app _ _ _ _ (by simp; omega)]
    rfl
  rw [e2, layP_app]
  show (layP ((layP L (keepP (P.take a) (kl.take a))).set P[a].1 P[a].2) _).getD _ _ = _
  rw [layP_far]
  · exact getD_set_same _ _ _ (by rw [layP_len]; exact hp)
  · intro p hpm
    obtain ⟨j, h1, h2, h3⟩ := keepP_idx _ _ _ hpm
    have hj : a + 1 + j < P.length := by simp at h1; omega
    have := hlater (a + 1 + j) hj (by omega) (by
      rw [List.getD_eq_getElem?_getD, List.getElem?_drop] at h3
      rw [List.getD_eq_getElem?_getD]
      exact h3)
    rw [← h2]
    simpa using this
theorem keptL_at (m : Nat) (l : List Int) (j : Nat) (hj : j < m) : (keptL m l).getD j false = decide ((j : Int) ∈ l) := by simp [keptL, hj]
/-- All of m, from the last to the first. -/
def revL (m k : Nat) : List Int := (List.range k).map (fun i : Nat => ((m - 1 - i : Nat) : Int))
theorem revL_len (m k : Nat) : (revL m k).length = k := by simp [revL]
theorem revL_snoc (m k : Nat) : revL m (k + 1) = revL m k ++ [((m - 1 - k : Nat) : Int)] := by simp [revL, List.range_succ]
theorem revL_ok (m : Nat) : ∀ z ∈ revL m m, pickOk m z := by
  intro z hz
  obtain ⟨i, hi, rfl⟩ := List.mem_map.1 hz
  have := List.mem_range.1 hi
  exact ⟨by omega, by omega⟩
theorem kept_rev (m : Nat) : keptL m (revL m m) = List.replicate m true := by
  refine List.eq_replicate_iff.2 ⟨keptL_len _ _, fun x hx => ?_⟩
  obtain ⟨i, hi, rfl⟩ := List.mem_map.1 hx
  have hi := List.mem_range.1 hi
  refine decide_eq_true (List.mem_map.2 ⟨m - 1 - i, List.mem_range.2 (by omega), ?_⟩)
  omega
/-- What the law names out of m writes. -/
def someL (m : Nat) (l : List Int) : List Int := if m = 0 then [] else l.map (fun z => ((pickP z m : Nat) : Int))
theorem someL_ok (m : Nat) (l : List Int) : ∀ z ∈ someL m l, pickOk m z := by
  intro z hz
  unfold someL at hz
  split at hz
  · cases hz
  · obtain ⟨y, _, rfl⟩ := List.mem_map.1 hz
    have := pickP_lt y m (by omega)
    exact ⟨by omega, by omega⟩
theorem lasts_every (l1 l2 : List Int) : crashE (filledS l1 l2) (revL l2.length l2.length) = 0 ∧ crashS (filledS l1 l2) (revL l2.length l2.length) = { filledS l1 l2 with last := (filledS l1 l2).now, now := (filledS l1 l2).now, pend := [], fuse := 0, dead := false } := by
  have hp : (filledS l1 l2).pend.length = l2.length := wlist_len _ _
  have h : ∀ z ∈ revL l2.length l2.length, pickOk (filledS l1 l2).pend.length z := by rw [hp]; exact revL_ok _
  rw [crashE, crashS, if_pos h, if_pos h, hp, kept_rev]
  have e : keepP (filledS l1 l2).pend (List.replicate l2.length true) = (filledS l1 l2).pend := by rw [← hp]; exact keepP_all _
  rw [e]
  exact ⟨rfl, rfl⟩
def someF (l1 l2 l3 : List Int) : List ByteArray := layP (baseL l1) (keepP (wlist 1000 l2) (keptL l2.length (someL l2.length l3)))
theorem lasts_some (l1 l2 l3 : List Int) : crashE (filledS l1 l2) (someL l2.length l3) = 0 ∧ crashS (filledS l1 l2) (someL l2.length l3) = { filledS l1 l2 with last := someF l1 l2 l3, now := someF l1 l2 l3, pend := [], fuse := 0, dead := false } := by
  have hp : (filledS l1 l2).pend.length = l2.length := wlist_len _ _
  have h : ∀ z ∈ someL l2.length l3, pickOk (filledS l1 l2).pend.length z := by rw [hp]; exact someL_ok _ _
  rw [crashE, crashS, if_pos h, if_pos h, hp]
  exact ⟨rfl, rfl⟩
theorem someF_len (l1 l2 l3 : List Int) : (someF l1 l2 l3).length = 128 := by rw [someF, layP_len, baseL_len]
theorem wlist_get (off : Int) (l : List Int) (j : Nat) (hj : j < (wlist off l).length) : (wlist off l)[j] = (pickP (l.getD j 0) 128, sectorB (off + (j : Int))) := by simp [wlist]
/-- Each sector is as it lasted, or as one of the later writes. -/
theorem someF_one (l1 l2 l3 : List Int) (i : Nat) (hi : i < 128) : (someF l1 l2 l3).getD i ByteArray.empty = (baseL l1).getD i ByteArray.empty ∨ ∃ j, j < l2.length ∧ pickP (l2.getD j 0) 128 = i ∧ (someF l1 l2 l3).getD i ByteArray.empty = sectorB (1000 + (j : Int)) := by
  rcases layP_one i (keepP (wlist 1000 l2) (keptL l2.length (someL l2.length l3))) (baseL l1) (by rw [baseL_len]; exact hi) with h | ⟨p, hp, h1, h2⟩
  · exact .inl h
  · obtain ⟨j, hj, e, _⟩ := keepP_idx _ _ _ hp
    rw [wlist_get] at e
    refine .inr ⟨j, by rwa [wlist_len] at hj, ?_, ?_⟩
    · rw [← h1, ← e]
    · exact h2.trans (by rw [← e])
/-- The greatest of those that are named. -/
theorem someF_last (l1 l2 l3 : List Int) (a : Nat) (ha : a < l2.length) (hin : (a : Int) ∈ someL l2.length l3) (hlater : ∀ b : Nat, (b : Int) ∈ someL l2.length l3 → a < b → pickP (l2.getD b 0) 128 ≠ pickP (l2.getD a 0) 128) :
    (someF l1 l2 l3).getD (pickP (l2.getD a 0) 128) ByteArray.empty = sectorB (1000 + (a : Int)) := by
  have hw := wlist_len 1000 l2
  have := lay_last (baseL l1) (wlist 1000 l2) (keptL l2.length (someL l2.length l3)) (by rw [keptL_len, hw]) a (by omega) (by rw [keptL_at _ _ _ ha]; exact decide_eq_true hin) (by rw [wlist_get, baseL_len]; exact pickP_lt _ _ (by decide)) (fun b hb hab hk => by
    rw [keptL_at _ _ _ (by omega)] at hk
    rw [wlist_get, wlist_get]
    exact hlater b (of_decide_eq_true hk) hab)
  rw [wlist_get] at this
  exact this
end Go.Proofs.Ytaedoagcbkgmbaa
