import Derived.Test.YtiokejnlioghiaaGreatDoorMv18
import Derived.Test.YtiokejnlioghiaaGreatDoorMv19
import Derived.Test.YtiokejnlioghiaaGreatDoorMv17
import Derived.BigQuiet
import Derived.Test.YtiokejnlioghiaaGreatDoorMv16
import Derived.Test.YtiokejnlioghiaaGreatDoorMv13
namespace Go.Proofs.YtiokejnlioghiaaGreatDoor
open Go.RowKit
theorem layP_app (l : List ByteArray) (a b : List (Nat × ByteArray)) : layP l (a ++ b) = layP (layP l a) b := by simp [layP]
/-- A disk and its journal, made behind w0. -/
def JI (w0 w : World) (b jb : Nat) (s : DSt) (nx : Nat) (lost : Bool) : Prop :=
  ∃ v, Dk w w0.heap.size b v s ∧ Jb w jb b nx lost ∧ ¬ Fd b v jb ∧ w0.heap.size ≤ jb ∧ Below w0.heap.size w0 w ∧ Sane s
theorem JI.di {w0 w : World} {b jb : Nat} {s : DSt} {nx : Nat} {lost : Bool} (h : JI w0 w b jb s nx lost) : DI w0 w b s := by
  obtain ⟨v, h1, h2, h3, h4, h5, h6⟩ := h
  exact ⟨v, h1, h5, h6⟩
theorem JI.bel {w0 w : World} {b jb : Nat} {s : DSt} {nx : Nat} {lost : Bool} (h : JI w0 w b jb s nx lost) : Below w0.heap.size w0 w := h.di.bel
theorem JI.below {w0 w w' : World} {b jb : Nat} {s : DSt} {nx : Nat} {lost : Bool} (h : JI w0 w b jb s nx lost) (hb : Below w.heap.size w w') : JI w0 w' b jb s nx lost := by
  obtain ⟨v, h1, h2, h3, h4, h5, h6⟩ := h
  exact ⟨v, h1.below hb, Blk.below h2 hb (Blk.lt h2), h3, h4, h5.trans (hb.mono h5.size), h6⟩
theorem runs_sane (R : List (List Wr1)) : ∀ s, Sane s → Sane (runsR s R).2 := by
  induction R with
  | nil => intro s h; exact h
  | cons r R ih =>
    intro s h
    unfold runsR
    split
    · exact ih _ (layR_sane r s h)
    · exact layR_sane r s h
theorem commit_sane (s : DSt) (nx : Nat) (lost : Bool) (l : List Wr1) (h : Sane s) : Sane (commitR s nx lost l).s := by
  unfold commitR
  split
  · exact h
  · split
    · exact h
    · split
      · exact runs_sane _ s h
      · exact runs_sane _ s h
/-- A disk with a journal that is opened. -/
def L0 : List ByteArray := (List.replicate 128 zero256).set 1 (headB 0 [])
theorem L0_len : L0.length = 128 := by simp [L0]
def A0 : List (Nat × Nat) := [(0, 1), (1, 0)]
theorem fresh_rs (L : List ByteArray) : freshS L = rs L [] := rfl
theorem format_rs : layR (freshS (List.replicate 128 zero256)) [(1, headB 0 [])] = (0, rs L0 A0) := by
  rw [fresh_rs, lay_rs _ _ _ (head_ok _ (by rw [List.length_replicate]; decide) 0 [] (by simp))]
  rfl
theorem head0 : L0.getD 1 ByteArray.empty = headB 0 [] := getD_set_same _ 1 _ (by rw [List.length_replicate]; decide)
theorem read_rs (L : List ByteArray) (A : List (Nat × Nat)) (j : Nat) (hj : j < L.length) : readE (rs L A) (j : Int) = 0 ∧ readT (rs L A) (j : Int) = L.getD j ByteArray.empty := readA (s := rs L A) ⟨rfl, rfl⟩ j hj
theorem JNew.ji {w0 w w' : World} {b jb nx : Nat} {v : DV} {s s' : DSt} (h1 : Dk w w0.heap.size b v s) (h5 : Below w0.heap.size w0 w) (hs : Sane s') (h : JNew w0.heap.size b v s' jb nx w w') : JI w0 w' b jb s' nx false := by
  obtain ⟨v', k1, k2, k3, k4, k5, k6⟩ := h
  exact ⟨v', k1, k2, k3, by have := h5.size; omega, DI.only h1 h5 k5, hs⟩
end Go.Proofs.YtiokejnlioghiaaGreatDoor

namespace Go.Proofs.YtiokejnlioghiaaGreatDoor
open Go.RowKit
/-- 2 disks behind w0; what the fence holds is as it was in wF. -/
def E2 (w0 wF : World) (F : Nat → Prop) (w : World) (b1 : Nat) (s1 : DSt) (b2 : Nat) (s2 : DSt) : Prop :=
  ∃ v1 v2, Dk w w0.heap.size b1 v1 s1 ∧ Dk w w0.heap.size b2 v2 s2 ∧ (∀ k, Fd b1 v1 k → ¬ Fd b2 v2 k) ∧ Below w0.heap.size w0 w ∧ Sane s1 ∧ Sane s2 ∧ (∀ k, F k → k < w.heap.size ∧ ¬ Fd b1 v1 k ∧ ¬ Fd b2 v2 k ∧ w.heap[k]? = wF.heap[k]?)
theorem E2.bel {w0 wF : World} {F : Nat → Prop} {w : World} {b1 : Nat} {s1 : DSt} {b2 : Nat} {s2 : DSt} (h : E2 w0 wF F w b1 s1 b2 s2) : Below w0.heap.size w0 w := by
  obtain ⟨v1, v2, g1, g2, a12, bel, z1, z2, fe⟩ := h
  exact bel
theorem E2.below {w0 wF : World} {F : Nat → Prop} {w : World} {b1 : Nat} {s1 : DSt} {b2 : Nat} {s2 : DSt} (h : E2 w0 wF F w b1 s1 b2 s2) {w' : World} (hb : Below w.heap.size w w') : E2 w0 wF F w' b1 s1 b2 s2 := by
  obtain ⟨v1, v2, g1, g2, a12, bel, z1, z2, fe⟩ := h
  exact ⟨v1, v2, g1.below hb, g2.below hb, a12, bel.trans (hb.mono bel.size), z1, z2, fun k hk => ⟨Nat.lt_of_lt_of_le (fe k hk).1 hb.size, (fe k hk).2.1, (fe k hk).2.2.1, (hb.block k (fe k hk).1).trans (fe k hk).2.2.2⟩⟩
theorem E2.grow {w0 wF : World} {F : Nat → Prop} {w : World} {b1 : Nat} {s1 : DSt} {b2 : Nat} {s2 : DSt} (h : E2 w0 wF F w b1 s1 b2 s2) {w' : World} (hb : Below w.heap.size w w') : E2 w0 w' (fun k => F k ∨ (w.heap.size ≤ k ∧ k < w'.heap.size)) w' b1 s1 b2 s2 := by
  obtain ⟨v1, v2, g1, g2, a12, bel, z1, z2, fe⟩ := h
  refine ⟨v1, v2, g1.below hb, g2.below hb, a12, bel.trans (hb.mono bel.size), z1, z2, fun k hk => ?_⟩
  rcases hk with hk | hk
  · exact ⟨Nat.lt_of_lt_of_le (fe k hk).1 hb.size, (fe k hk).2.1, (fe k hk).2.2.1, rfl⟩
  · exact ⟨hk.2, fun q => by have := (g1.fd k q).2; omega, fun q => by have := (g2.fd k q).2; omega, rfl⟩
theorem E2.step {w0 wF : World} {F : Nat → Prop} {w w' : World} {b1 : Nat} {s1 : DSt} {b2 : Nat} {s2 : DSt} {s : DSt} {v1 v2 : DV} (g1 : Dk w w0.heap.size b1 v1 s1) (g2 : Dk w w0.heap.size b2 v2 s2) (a12 : ∀ k, Fd b1 v1 k → ¬ Fd b2 v2 k) (bel : Below w0.heap.size w0 w) (z2 : Sane s2) (fe : ∀ k, F k → k < w.heap.size ∧ ¬ Fd b1 v1 k ∧ ¬ Fd b2 v2 k ∧ w.heap[k]? = wF.heap[k]?)
    (hp : DPost w0.heap.size b1 v1 s w w') (hs : Sane s) : E2 w0 wF F w' b1 s b2 s2 := by
  obtain ⟨u, k1, k2, k3⟩ := hp
  have new : ∀ k, k < w.heap.size → ¬ Fd b1 v1 k → ¬ Fd b1 u k := fun k hk hn q => by
    rcases k3 k q with q | q
    · exact hn q
    · omega
  refine ⟨u, v2, k1, g2.only k2 (fun k hk hk' => a12 k hk' hk), fun k hk hk' => new k (g2.fd k hk').2 (fun q => a12 k q hk') hk, DI.only g1 bel k2, hs, z2, fun k hk => ?_⟩
  exact ⟨Nat.lt_of_lt_of_le (fe k hk).1 k2.size, new k (fe k hk).1 (fe k hk).2.1, (fe k hk).2.2.1, (k2.2 k (fe k hk).1 (fe k hk).2.1).trans (fe k hk).2.2.2⟩
end Go.Proofs.YtiokejnlioghiaaGreatDoor

namespace Go.Proofs.YtiokejnlioghiaaGreatDoor
open Go.RowKit
end Go.Proofs.YtiokejnlioghiaaGreatDoor

namespace Go.Proofs.YtiokejnlioghiaaGreatDoor
open Go.RowKit
/-- The acts of a disk that was filled. -/
def facts (l1 l2 : List Int) : List (Nat × Nat) := (wacts (wlist 0 l1) ++ [(1, 0)]) ++ wacts (wlist 1000 l2)
end Go.Proofs.YtiokejnlioghiaaGreatDoor

namespace Go.Proofs.YtiokejnlioghiaaGreatDoor
open Go.RowKit
theorem layP_far (i : Nat) : ∀ (ps : List (Nat × ByteArray)) (L : List ByteArray), (∀ p ∈ ps, p.1 ≠ i) → (layP L ps).getD i ByteArray.empty = L.getD i ByteArray.empty
  | [], _, _ => rfl
  | p :: r, L, h => by
    have := layP_far i r (L.set p.1 p.2) (fun q hq => h q (List.mem_cons_of_mem _ hq))
    exact this.trans (getD_set_other L p.1 i p.2 (h p List.mem_cons_self))
theorem keepP_app : ∀ (P1 : List (Nat × ByteArray)) (k1 : List Bool) (P2 : List (Nat × ByteArray)) (k2 : List Bool), P1.length = k1.length → keepP (P1 ++ P2) (k1 ++ k2) = keepP P1 k1 ++ keepP P2 k2
  | [], [], P2, k2, _ => by simp [keepP]
  | p :: r, true :: k, P2, k2, h => by simp [keepP]; exact keepP_app r k P2 k2 (by simpa using h)
  | p :: r, false :: k, P2, k2, h => by simp [keepP]; exact keepP_app r k P2 k2 (by simpa using h)
theorem keepP_idx : ∀ (P : List (Nat × ByteArray)) (k : List Bool) (p : Nat × ByteArray), p ∈ keepP P k → ∃ j, ∃ h : j < P.length, P[j] = p ∧ k.getD j false = true
  | [], _, p, h => by simp [keepP] at h
  | q :: r, [], p, h => by simp [keepP] at h
  | q :: r, true :: k, p, h => by
    simp only [keepP, List.mem_cons] at h
    rcases h with rfl | h
    · exact ⟨0, by simp, rfl, rfl⟩
    · obtain ⟨j, h1, h2, h3⟩ := keepP_idx r k p h
      exact ⟨j + 1, by simpa using h1, by simpa using h2, by simpa using h3⟩
  | q :: r, false :: k, p, h => by
    simp only [keepP] at h
    obtain ⟨j, h1, h2, h3⟩ := keepP_idx r k p h
    exact ⟨j + 1, by simpa using h1, by simpa using h2, by simpa using h3⟩
theorem keepP_all : ∀ (P : List (Nat × ByteArray)), keepP P (List.replicate P.length true) = P
  | [] => rfl
  | p :: r => by simp [List.replicate_succ, keepP, keepP_all r]
/-- The last of the kept writes to a sector is what stands there. -/
theorem lay_last (L : List ByteArray) (P : List (Nat × ByteArray)) (kl : List Bool) (hl : kl.length = P.length) (a : Nat) (ha : a < P.length) (hk : kl.getD a false = true) (hp : P[a].1 < L.length) (hlater : ∀ b, (hb : b < P.length) → a < b → kl.getD b false = true → P[b].1 ≠ P[a].1) :
    (layP L (keepP P kl)).getD P[a].1 ByteArray.empty = P[a].2 := by
  have eP : P = P.take a ++ (P[a] :: P.drop (a + 1)) := by simp
  have ek : kl = kl.take a ++ (true :: kl.drop (a + 1)) := by
    have e1 : kl[a]'(by omega) = true := by simpa [List.getD_eq_getElem?_getD, show a < kl.length by omega] using hk
    conv => lhs; rw [← List.take_append_drop a kl, List.drop_eq_getElem_cons (by omega : a < kl.length), e1]
  have e2 : keepP P kl = keepP (P.take a) (kl.take a) ++ (P[a] :: keepP (P.drop (a + 1)) (kl.drop (a + 1))) := by
    conv => lhs; rw [eP, ek]
    rw [keepP_app _ _ _ _ (by simp; omega)]
    rfl
  rw [e2, layP_app]
  show (layP ((layP L (keepP (P.take a) (kl.take a))).set P[a].1 P[a].2) _).getD _ _ = _
  rw [layP_far]
  · exact getD_set_same _ _ _ (by rw [layP_len]; exact hp)
  · intro p hpm
    obtain ⟨j, h1, h2, h3⟩ := keepP_idx _ _ _ hpm
    have hj : a + 1 + j < P.length := by simp at h1; omega
    have := hlater (a + 1 + j) hj (by omega) (by
      rw [List.getD_eq_getElem?_getD, List.getElem?_drop] at h3
      rw [List.getD_eq_getElem?_getD]
      exact h3)
    rw [← h2]
    simpa using this
end Go.Proofs.YtiokejnlioghiaaGreatDoor

namespace Go.Proofs.YtiokejnlioghiaaGreatDoor
open Go.RowKit
/-- The last of the first k writes to a sector, if there is one; else what lasts. -/
def nowP (L : List ByteArray) (P : List (Nat × ByteArray)) (i : Nat) : ByteArray := (layP L P).getD i ByteArray.empty
theorem nowP_hit (L : List ByteArray) (P : List (Nat × ByteArray)) (i k : Nat) (hi : i < L.length) (hk : k < P.length) (h1 : P[k].1 = i) (hl : ∀ j, (hj : j < P.length) → k < j → P[j].1 ≠ i) : nowP L P i = P[k].2 := by
  have := lay_last L P (List.replicate P.length true) (by simp) k hk (by simp [hk]) (by omega) (fun b hb hab _ => by rw [h1]; exact hl b hb hab)
  rw [keepP_all, h1] at this
  exact this
theorem nowP_miss (L : List ByteArray) (P : List (Nat × ByteArray)) (i : Nat) (hl : ∀ j, (hj : j < P.length) → P[j].1 ≠ i) : nowP L P i = L.getD i ByteArray.empty :=
  layP_far i P L (fun p hp => by
    obtain ⟨j, hj, e⟩ := List.getElem_of_mem hp
    rw [← e]
    exact hl j hj)
set_option maxRecDepth 100000 in
set_option maxHeartbeats 2000000 in
theorem rnow_any (w : World) (base b : Nat) (v : RV) (s : DSt) (h : Rk w base b v s) (hp : s.pend.length ≤ 1000000000) (i : Nat) (hi : i < s.last.length) :
    Calls Tryz.prog 40 #[.pointer (some ⟨b, 0, none⟩), .int .i64 (i : Int)] w fun e w' => e = .returned (.string (nowP s.last s.pend i)) ∧ Below w.heap.size w w' := by
  obtain ⟨gl, cl, evl, _⟩ := h.rl.form (by omega)
  have hgl : v.l.ownBlock = some gl := by rw [evl]; rfl
  obtain ⟨pp, cp, evp, _⟩ := row_form h.rp
  have d0 : w.cell? ⟨b, 0, none⟩ = some (.slice (some ⟨gl, 0, none⟩) s.last.length cl) := by rw [h.blk.cell 0, ← evl]; rfl
  have d1 : w.cell? ⟨b, 1, none⟩ = some (.slice pp s.pend.length cp) := by rw [h.blk.cell 1, ← evp]; rfl
  have dj : w.cell? ⟨gl, i, none⟩ = some (.string (s.last.getD i ByteArray.empty)) := by rw [(own_at h.rl hgl i hi).1]; exact strs_at _ _ hi
  have H := hide h
  have HEP := hide evp
  have HDJ := hide dj
  have D0 := hide d0
  have D1 := hide d1
  have hbl := h.blk.lt
  have hglt := (h.rl.lt gl hgl).2
  have w1 : IntKind.i64.wrap ((s.pend.length : Int) - 1) = (s.pend.length : Int) - 1 := wrapI_eq _ (by omega) (by omega)
  clear h evl evp dj hgl
  go_enter Tryz.func40, Tryz.ntmps40
  go_wp2
  clear w1
  go_loopw [5] (fun u wr => ∃ k : Nat, k ≤ s.pend.length ∧ u = .int .i64 ((k : Int) - 1) ∧ (∀ j, (hj : j < s.pend.length) → k ≤ j → s.pend[j].1 ≠ i) ∧ Below w.heap.size w wr) (fun u _ => (intOf u + 1).toNat)
  case atStart => exact ⟨s.pend.length, by omega, rfl, fun j hj hk => absurd hj (by omega), Below.refl _ _⟩
  case round =>
    obtain ⟨k, hk, rfl, hno, hb⟩ := hrel
    have XB := hide hb
    have XN := hide hno
    have e0 : wr.cell? ⟨b, 0, none⟩ = some (.slice (some ⟨gl, 0, none⟩) s.last.length cl) := by rw [hb.cell (p := ⟨b, 0, none⟩) hbl]; exact unhide D0
    have e1 : wr.cell? ⟨b, 1, none⟩ = some (.slice pp s.pend.length cp) := by rw [hb.cell (p := ⟨b, 1, none⟩) hbl]; exact unhide D1
    have XH := hide ((unhide H).below hb)
    clear hno d0 d1
    cases k with
    | zero =>
      have ej : wr.cell? ⟨gl, i, none⟩ = some (.string (s.last.getD i ByteArray.empty)) := by rw [hb.cell (p := ⟨gl, i, none⟩) hglt]; exact unhide HDJ
      have HV := hide (nowP_miss s.last s.pend i (fun j hj => unhide XN j hj (Nat.zero_le _)))
      generalize hT : s.last.getD i ByteArray.empty = T at *
      have HT := hide hT
      clear hT hb
      simp only [Int.ofNat_zero, Int.zero_sub]
      go_wp2
      go_ret
      refine ⟨?_, unhide XB⟩
      rw [unhide HV]
      try rw [unhide HT]
      rfl
    | succ m =>
      have hm : m < s.pend.length := by omega
      obtain ⟨gp, rfl⟩ : ∃ gp, pp = some ⟨gp, 0, none⟩ := by
        obtain ⟨g, cap', e, _⟩ := (unhide XH).rp.form (by omega)
        rw [unhide HEP] at e
        simp at e
        exact ⟨g, e.1⟩
      have hgp : v.p.ownBlock = some gp := by rw [unhide HEP]; rfl
      obtain ⟨w0, w1⟩ := wrs_at s.pend m hm
      have cp0 : wr.cell? ⟨gp, m * 2, none⟩ = some (.int .i64 ((s.pend[m].1 : Nat) : Int)) := by rw [(own_at2 (unhide XH).rp hgp (m * 2) (by omega)).1]; exact w0
      have cp1 : wr.cell? ⟨gp, m * 2 + 1, none⟩ = some (.string s.pend[m].2) := by rw [(own_at2 (unhide XH).rp hgp (m * 2 + 1) (by omega)).1]; exact w1
      have ez : ((m + 1 : Nat) : Int) - 1 = (m : Int) := by omega
      have HHIT := hide (fun (h1 : s.pend[m].1 = i) => nowP_hit s.last s.pend i m hi hm h1 (fun j hj hmj => unhide XN j hj (by omega)))
      obtain ⟨jj, hj⟩ : ∃ jj, jj = s.pend[m].1 := ⟨_, rfl⟩
      obtain ⟨tt, ht⟩ : ∃ tt, tt = s.pend[m].2 := ⟨_, rfl⟩
      rw [← hj] at cp0
      rw [← ht] at cp1
      have HJ := hide hj
      have HTT := hide ht
      have i0 : 0 ≤ (m : Int) := by omega
      have i1 : (m : Int) < (s.pend.length : Int) := by omega
      have w2 : IntKind.i64.wrap ((m : Int) - 1) = (m : Int) - 1 := wrapI_eq _ (by omega) (by omega)
      clear w0 w1 hj ht hgp hb
      rw [ez]
      clear ez
      by_cases hji : jj = i
      · subst hji
        go_wp2
        go_ret
        refine ⟨?_, unhide XB⟩
        rw [unhide HHIT (unhide HJ).symm, ← unhide HTT]
        rfl
      · have hje : ((jj : Int) == (i : Int)) = false := by rw [beq_eq_false_iff_ne]; omega
        have HJI := hide hji
        go_wp2
        go_roundw
        case rel =>
          refine ⟨m, by omega, rfl, fun j hj hmj => ?_, unhide XB⟩
          rcases Nat.eq_or_lt_of_le hmj with h | h
          · subst h; rw [← unhide HJ]; exact unhide HJI
          · exact unhide XN j hj (by omega)
        case measure => simp [intOf]
set_option maxRecDepth 100000 in
set_option maxHeartbeats 2000000 in
theorem rrd_any (w : World) (base b : Nat) (v : RV) (s : DSt) (h : Rk w base b v s) (hC : Coh s) (hp : s.pend.length ≤ 1000000000) (i : Int) :
    Calls Tryz.prog 121 #[.pointer (some ⟨b, 0, none⟩), .int .i64 i] w fun e w' => e = .returned (.tuple #[.string (readT s i), .int .i64 (readE s i)]) ∧ Below w.heap.size w w' := by
  have c3 : w.cell? ⟨b, 3, none⟩ = some (.bool s.dead) := by rw [h.blk.cell 3]; rfl
  have H := hide h
  clear h
  by_cases hi : isOk s i
  · rw [readT, readE, if_pos hi, if_pos hi]
    have e : decide (isOk s i) = true := by simpa using hi
    by_cases hd : s.dead = true
    · rw [if_pos hd, if_pos hd]
      rw [hd] at c3
      clear hi hd hC
      go_enter Tryz.func121, Tryz.ntmps121
      go_wp2_with fail
      refine (ris_any w base b v s (unhide H) i).mono ?_
      rintro ev x1 ⟨rfl, rfl⟩
      rw [e]
      clear e
      go_wp2
      go_ret2
      exact ⟨rfl, Below.refl _ _⟩
    · rw [if_neg hd, if_neg hd]
      rw [Bool.not_eq_true] at hd
      rw [hd] at c3
      obtain ⟨j, rfl⟩ := Int.eq_ofNat_of_zero_le hi.1
      have hj : j < s.last.length := by have := hi.2; omega
      have HV := hide (show s.now.getD (j : Int).toNat ByteArray.empty = nowP s.last s.pend j by rw [Int.toNat_natCast, hC.now]; rfl)
      clear hi hd hC
      go_enter Tryz.func121, Tryz.ntmps121
      go_wp2_with fail
      refine (ris_any w base b v s (unhide H) (j : Int)).mono ?_
      rintro ev x1 ⟨rfl, rfl⟩
      rw [e]
      clear e
      go_wp2_with fail
      refine (rnow_any _ base b v s (unhide H) hp j hj).mono ?_
      rintro ev x2 ⟨rfl, hb⟩
      have HB := hide hb
      generalize hT : nowP s.last s.pend j = T at *
      have HT := hide hT
      clear hb hT
      go_wp2
      go_ret2
      obtain rfl := unhide HT
      exact ⟨by rw [unhide HV]; rfl, unhide HB⟩
  · rw [readT, readE, if_neg hi, if_neg hi]
    have e : decide (isOk s i) = false := by simpa using hi
    clear hi hC
    go_enter Tryz.func121, Tryz.ntmps121
    go_wp2_with fail
    refine (ris_any w base b v s (unhide H) i).mono ?_
    rintro ev x1 ⟨rfl, rfl⟩
    rw [e]
    clear e
    go_wp2
    go_ret2
    exact ⟨rfl, Below.refl _ _⟩
end Go.Proofs.YtiokejnlioghiaaGreatDoor

namespace Go.Proofs.YtiokejnlioghiaaGreatDoor
open Go.RowKit
def ints (l : List Int) : List Value := l.map (Value.int .i64)
theorem Ints.below {w w' : World} {p : Option Addr} {l : List Int} (h : Ints w p l) (hb : Below w.heap.size w w') : Ints w' p l := fun j hj => by
  obtain ⟨g, o, h1, h2, h3⟩ := h j hj
  exact ⟨g, o, h1, Nat.lt_of_lt_of_le h2 hb.size, (hb.cell (p := ⟨g, o + j, none⟩) h2).trans h3⟩
end Go.Proofs.YtiokejnlioghiaaGreatDoor

namespace Go.Proofs.YtiokejnlioghiaaGreatDoor
open Go.RowKit
set_option maxRecDepth 100000 in
set_option maxHeartbeats 1500000 in
theorem rcrash_any (w : World) (base b : Nat) (v : RV) (s : DSt) (h : Rk w base b v s) (hS : Sane s) (hp : s.pend.length ≤ 1000000000) (p : Option Addr) (l : List Int) (c : Nat) (hl : Ints w p l) (hll : l.length ≤ 9223372036854775807) (hout : ∀ g o, p = some ⟨g, o, none⟩ → ¬ Fr4 b v g) :
    Calls Tryz.prog 18 #[.pointer (some ⟨b, 0, none⟩), .slice p l.length c] w fun e w' => e = .returned (.int .i64 (crashE s l)) ∧ RPst base b v (crashS s l) w w' := by
  obtain ⟨pp, cp, evp, _⟩ := row_form h.rp
  have d1 : w.cell? ⟨b, 1, none⟩ = some (.slice pp s.pend.length cp) := by rw [h.blk.cell 1, ← evp]; rfl
  have H := hide h
  have HS := hide hS
  have HL := hide hl
  have HO := hide hout
  have HEP := hide evp
  clear h hS hl hout evp
  go_enter Tryz.func18, Tryz.ntmps18
  go_wp2
  go_loopw [5] (fun u wr => ∃ k : Nat, k ≤ l.length ∧ u = .int .i64 (k : Int) ∧ (∀ z ∈ l.take k, pickOk s.pend.length z) ∧ Below w.heap.size w wr) (fun u _ => l.length - (intOf u).toNat)
  case atStart => exact ⟨0, by omega, rfl, fun z hz => by simp at hz, Below.refl _ _⟩
  case round =>
    obtain ⟨k, hk, rfl, hok, hbw⟩ := hrel
    have XOK := hide hok
    have XBW := hide hbw
    have d1w : wr.cell? ⟨b, 1, none⟩ = some (.slice pp s.pend.length cp) := by rw [hbw.cell (p := ⟨b, 1, none⟩) (unhide H).blk.lt]; exact d1
    clear hok hbw
    by_cases hkl : k < l.length
    · obtain ⟨g, o, rfl, hg, hc0⟩ := unhide HL k hkl
      have hc : wr.cell? ⟨g, o + k, none⟩ = some (.int .i64 (l.getD k 0)) := by rw [(unhide XBW).cell (p := ⟨g, o + k, none⟩) hg]; exact hc0
      have i0 : 0 ≤ (k : Int) := by omega
      have i1 : (k : Int) < (l.length : Int) := by omega
      clear hc0
      have HT := hide (show l.take (k + 1) = l.take k ++ [l.getD k 0] by
        rw [List.take_succ_eq_append_getElem hkl]
        simp [List.getD_eq_getElem?_getD, hkl])
      have HM := hide (show l.getD k 0 ∈ l by simp [List.getD_eq_getElem?_getD, hkl])
      generalize l.getD k 0 = z at *
      by_cases hz : pickOk s.pend.length z
      · have HZ := hide hz
        have hz1 := hz.1
        have hz2 := hz.2
        have hzb : decide (z < 0) = false := decide_eq_false (by omega)
        clear hz
        go_wp2_with fail
        go_quiet (fail)
        go_wp2
        go_roundw
        case rel =>
          refine ⟨k + 1, by omega, by go_num, fun y hy => ?_, below_drewN (unhide XBW) _⟩
          rw [unhide HT] at hy
          rcases List.mem_append.1 hy with hy | hy
          · exact unhide XOK y hy
          · simp at hy; subst hy; exact unhide HZ
        case measure => simp [intOf]; omega
      · have HEE := hide (show ¬ ∀ z ∈ l, pickOk s.pend.length z from fun h => hz (h z (unhide HM)))
        by_cases hz0 : z < 0
        · clear hz
          have hzb : decide (z < 0) = true := decide_eq_true hz0
          go_wp2_with fail
          go_quiet (fail)
          go_wp2
          go_ret
          exact ⟨by rw [crashE, if_neg (unhide HEE)]; rfl, by rw [crashS, if_neg (unhide HEE)]; exact ⟨v, (unhide H).below (below_drewN (unhide XBW) _), Only.of_below (below_drewN (unhide XBW) _), fun _ q => .inl q⟩⟩
        · have hz1 : (s.pend.length : Int) ≤ z := by
            have : ¬ (0 ≤ z ∧ z < (s.pend.length : Int)) := hz
            omega
          have hzb : decide (z < 0) = false := decide_eq_false hz0
          clear hz
          go_wp2_with fail
          go_quiet (fail)
          go_wp2
          go_ret
          exact ⟨by rw [crashE, if_neg (unhide HEE)]; rfl, by rw [crashS, if_neg (unhide HEE)]; exact ⟨v, (unhide H).below (below_drewN (unhide XBW) _), Only.of_below (below_drewN (unhide XBW) _), fun _ q => .inl q⟩⟩
    · have hall : ∀ z ∈ l, pickOk s.pend.length z := by have := unhide XOK; rw [List.take_of_length_le (by omega)] at this; exact this
      have HALL := hide hall
      have hkn := keptL_len s.pend.length l
      clear hall XOK hk
      go_wp2
      clear hkl
      have H9 := hide ((unhide H).below (unhide XBW))
      have HL9 := hide ((unhide HL).below (unhide XBW))
      obtain ⟨w9, rfl⟩ : ∃ w9, w9 = wr := ⟨_, rfl⟩
      clear d1w
      go_loopw [6] (fun u wr => ∃ m : Nat, m ≤ s.pend.length ∧ u = .int .i64 (m : Int) ∧ Rk wr base b v { s with last := layP s.last (keepP (s.pend.take m) ((keptL s.pend.length l).take m)) } ∧ Only (Fr4 b v) w9 wr) (fun u _ => s.pend.length - (intOf u).toNat)
      case atStart => exact ⟨0, by omega, rfl, by simpa [keepP, layP] using unhide H9, Only.refl _ _⟩
      case round =>
        obtain ⟨m, hm, rfl, hR, hO⟩ := hrel
        obtain ⟨wa, rfl⟩ : ∃ wo, wo = wr := ⟨_, rfl⟩
        have YR := hide hR
        have YO := hide hO
        have e1 : wa.cell? ⟨b, 1, none⟩ = some (.slice pp s.pend.length cp) := by rw [hR.blk.cell 1, ← unhide HEP]; rfl
        clear hR hO
        by_cases hml : m < s.pend.length
        · have HKC := hide (fun (j : Nat) (hj : j < l.length) => (show ∃ g o, p = some ⟨g, o, none⟩ ∧ wa.cell? ⟨g, o + j, none⟩ = some (.int .i64 (l.getD j 0)) from by
            obtain ⟨g, o, ep, hg, hc⟩ := unhide HL9 j hj
            exact ⟨g, o, ep, (World.cell?_of_block (a := ⟨g, o + j, none⟩) ((unhide YO).2 g hg (unhide HO g o ep))).trans hc⟩))
          go_wp2
          go_loopw [7, 8] (fun nm u wr => ∃ q : Nat, q ≤ l.length ∧ nm = .bool (decide ((m : Int) ∈ l.take q)) ∧ u = .int .i64 (q : Int) ∧ wr = wa) (fun _ u _ => l.length - (intOf u).toNat)
          case atStart => exact ⟨0, by omega, by simp, rfl, rfl⟩
          case round =>
            obtain ⟨q, hq, rfl, rfl, hwa⟩ := hrel
            rw [hwa]
            by_cases hql : q < l.length
            · obtain ⟨g, o, rfl, hc⟩ := unhide HKC q hql
              have HT := hide (show decide ((m : Int) ∈ l.take (q + 1)) = (decide ((m : Int) ∈ l.take q) || (l.getD q 0 == (m : Int))) by
                rw [List.take_succ_eq_append_getElem hql, show l.getD q 0 = l[q] by simp [List.getD_eq_getElem?_getD, hql]]
                rw [Bool.eq_iff_iff]
                simp only [decide_eq_true_eq, List.mem_append, List.mem_singleton, Bool.or_eq_true, beq_iff_eq]
                exact or_congr Iff.rfl eq_comm)
              generalize l.getD q 0 = z at *
              generalize decide ((m : Int) ∈ l.take q) = nb at *
              have i0 : 0 ≤ (q : Int) := by omega
              have i1 : (q : Int) < (l.length : Int) := by omega
              cases nb with
              | true =>
                go_wp2
                go_roundw
                case rel => exact ⟨q + 1, by omega, by rw [unhide HT]; rfl, by go_num, by first | rfl | trivial⟩
                case measure => simp [intOf]; omega
              | false =>
                go_wp2
                go_roundw
                case rel => exact ⟨q + 1, by omega, by rw [unhide HT]; rfl, by go_num, by first | rfl | trivial⟩
                case measure => simp [intOf]; omega
            · have hql' : q = l.length := by omega
              have HN := hide (show (keptL s.pend.length l)[m]'(by rw [keptL_len]; exact hml) = decide ((m : Int) ∈ l.take q) by
                rw [hql', List.take_length]; simp [keptL])
              have HK2 := hide (show (keptL s.pend.length l).take (m + 1) = (keptL s.pend.length l).take m ++ [(keptL s.pend.length l)[m]'(by rw [keptL_len]; exact hml)] by simp)
              have HP2 := hide (show s.pend.take (m + 1) = s.pend.take m ++ [s.pend[m]] by simp)
              have HLL := hide (show (s.pend.take m).length = ((keptL s.pend.length l).take m).length by simp [keptL_len])
              clear hql' hkn
              generalize decide ((m : Int) ∈ l.take q) = nb at *
              cases nb with
              | false =>
                go_wp2
                go_roundw
                case rel =>
                  refine ⟨m + 1, by omega, by go_num, ?_, unhide YO⟩
                  rw [unhide HK2, unhide HP2, unhide HN, keepP_snoc _ _ _ _ (unhide HLL)]
                  simpa using unhide YR
                case measure => simp [intOf]; omega
              | true =>
                have hlen : (layP s.last (keepP (s.pend.take m) ((keptL s.pend.length l).take m))).length = s.last.length := layP_len _ _
                obtain ⟨gp, cp2, evp, _⟩ := (unhide YR).rp.form (show 0 < s.pend.length by omega)
                obtain ⟨gl, cl, evl, _⟩ := (unhide YR).rl.form (by show 0 < (layP s.last _).length; rw [hlen]; exact (unhide HS).pos)
                have hgp : v.p.ownBlock = some gp := by rw [evp]; rfl
                have hgl : v.l.ownBlock = some gl := by rw [evl]; rfl
                have d0 : wa.cell? ⟨b, 0, none⟩ = some (.slice (some ⟨gl, 0, none⟩) s.last.length cl) := by rw [(unhide YR).blk.cell 0, ← hlen, ← evl]; rfl
                clear e1
                have d1 : wa.cell? ⟨b, 1, none⟩ = some (.slice (some ⟨gp, 0, none⟩) s.pend.length cp2) := by rw [(unhide YR).blk.cell 1, ← evp]; rfl
                obtain ⟨w0, w1⟩ := wrs_at s.pend m hml
                have cp0 : wa.cell? ⟨gp, m * 2, none⟩ = some (.int .i64 ((s.pend[m].1 : Nat) : Int)) := by rw [(own_at2 (unhide YR).rp hgp (m * 2) (by show m * 2 < s.pend.length * 2; omega)).1]; exact w0
                have cp1 : wa.cell? ⟨gp, m * 2 + 1, none⟩ = some (.string s.pend[m].2) := by rw [(own_at2 (unhide YR).rp hgp (m * 2 + 1) (by show m * 2 + 1 < s.pend.length * 2; omega)).1]; exact w1
                have hjl : s.pend[m].1 < s.last.length := (unhide HS).pend _ (List.getElem_mem hml)
                obtain ⟨jj, hj⟩ : ∃ jj, jj = s.pend[m].1 := ⟨_, rfl⟩
                obtain ⟨tt, ht⟩ : ∃ tt, tt = s.pend[m].2 := ⟨_, rfl⟩
                rw [← hj] at cp0 hjl
                rw [← ht] at cp1
                have hjl2 : jj < (layP s.last (keepP (s.pend.take m) ((keptL s.pend.length l).take m))).length := by rw [hlen]; exact hjl
                have dj : wa.cell? ⟨gl, jj, none⟩ = some (.string ((layP s.last (keepP (s.pend.take m) ((keptL s.pend.length l).take m))).getD jj ByteArray.empty)) := by rw [(own_at (unhide YR).rl hgl jj hjl2).1]; exact strs_at _ _ hjl2
                have fj : wa.frozen? ⟨gl, jj, none⟩ = false := (own_at (unhide YR).rl hgl jj hjl2).2
                clear hjl2
                have HJ := hide hj
                have HTT := hide ht
                have HGL := hide hgl
                clear w0 w1 hj ht hgp hgl hlen evp evl
                generalize (layP s.last (keepP (s.pend.take m) ((keptL s.pend.length l).take m))).getD jj ByteArray.empty = old at *
                have i0 : 0 ≤ (jj : Int) := by omega
                have i1 : (jj : Int) < (s.last.length : Int) := by omega
                have i2 : 0 ≤ (m : Int) := by omega
                have i3 : (m : Int) < (s.pend.length : Int) := by omega
                go_wp2_with fail
                go_still_tail 21, (by kernel_rfl)
                change wpList _ _ _ _ _ wa.drew
                go_wp2
                go_roundw
                case rel =>
                  refine ⟨m + 1, by omega, by go_num, ?_, (unhide YO).drew.setCell _ _ (fun _ => .inr (.inl (unhide HGL)))⟩
                  rw [unhide HK2, unhide HP2, unhide HN, keepP_snoc _ _ _ _ (unhide HLL)]
                  rw [if_pos rfl, layP_snoc, ← unhide HJ, ← unhide HTT]
                  exact (unhide YR).drew.setLast gl jj (unhide HGL) tt
                case measure => simp [intOf]; omega
        · have hm' : m = s.pend.length := by omega
          have YE := hide (show Rk wa base b v { s with last := layP s.last (keepP s.pend (keptL s.pend.length l)) } by
            have := unhide YR
            rwa [hm', List.take_length, List.take_of_length_le (by rw [keptL_len]; exact Nat.le_refl _)] at this)
          have f1 := (unhide YE).blk.frozen 1
          have YN := hide (unhide YE).nilP
          have f3 := (unhide YN).blk.frozen 3
          have YD3 := hide ((unhide YN).setDead false)
          have f2 := (unhide YD3).blk.frozen 2
          have d2 : ∃ x, wa.cell? ⟨b, 2, none⟩ = some x := ⟨_, by rw [(unhide YE).blk.cell 2]; rfl⟩
          have c3 : wa.cell? ⟨b, 3, none⟩ = some (.bool s.dead) := by rw [(unhide YE).blk.cell 3]; rfl
          have c2 : wa.cell? ⟨b, 2, none⟩ = some (.int .i64 s.fuse) := by rw [(unhide YE).blk.cell 2]; rfl
          have c23 : ((wa.setCell ⟨b, 1, none⟩ (.slice none 0 0)).setCell ⟨b, 3, none⟩ (.bool false)).cell? ⟨b, 2, none⟩ = some (.int .i64 s.fuse) := by rw [(unhide YD3).blk.cell 2]; rfl
          have c33 : (wa.setCell ⟨b, 1, none⟩ (.slice none 0 0)).cell? ⟨b, 3, none⟩ = some (.bool s.dead) := by rw [(unhide YN).blk.cell 3]; rfl
          have YF := hide (((unhide YD3).setFuse 0).now (layP s.last (keepP s.pend (keptL s.pend.length l))))
          clear hm' d2 YR
          go_wp2
          go_ret
          refine ⟨by rw [crashE, if_pos (unhide HALL)]; rfl, { v with p := .slice none 0 0 }, by rw [crashS, if_pos (unhide HALL)]; exact unhide YF, ?_, fun q hq => ?_⟩
          · exact only_r (only_r (only_r ((Only.of_below (unhide XBW)).trans (unhide YO) (fun _ _ q => q)) _ _) _ _) _ _
          · rcases hq with hq | hq | hq | hq
            · exact .inl (.inl hq)
            · exact .inl (.inr (.inl hq))
            · cases hq
            · exact .inl (.inr (.inr (.inr hq)))
end Go.Proofs.YtiokejnlioghiaaGreatDoor

namespace Go.Proofs.YtiokejnlioghiaaGreatDoor
open Go.RowKit
theorem Coh.diesS {s : DSt} (h : Coh s) : Coh (diesS s) := by
  refine ⟨by rw [diesS_now, diesS_last, diesS_pend]; exact h.now, fun hd => ?_⟩
  by_cases h0 : 0 < s.fuse
  · rw [Go.Proofs.YtiokejnlioghiaaGreatDoor.diesS, if_pos h0] at hd ⊢
    have h1 : s.fuse = 1 := by simpa using hd
    show s.fuse - 1 = 0
    omega
  · rw [Go.Proofs.YtiokejnlioghiaaGreatDoor.diesS, if_neg h0] at hd ⊢
    exact h.dead hd
theorem Coh.write {s : DSt} (h : Coh s) (i : Int) (t : ByteArray) : Coh (writeS s i t) := by
  rw [writeS]
  split
  · split
    · split
      · exact h.diesS
      · exact ⟨by show s.now.set i.toNat t = layP (Go.Proofs.YtiokejnlioghiaaGreatDoor.diesS s).last (s.pend ++ [(i.toNat, t)]); rw [diesS_last, layP_snoc, ← h.now], h.diesS.dead⟩
    · exact h
  · exact h
theorem Coh.flush {s : DSt} (h : Coh s) : Coh (flushS s) := by
  rw [flushS]
  split
  · exact h.diesS
  · exact ⟨by show (Go.Proofs.YtiokejnlioghiaaGreatDoor.diesS s).now = layP (layP s.last s.pend) []; rw [diesS_now]; exact h.now, h.diesS.dead⟩
theorem Coh.arm {s : DSt} (h : Coh s) (n : Int) : Coh (armS s n) := by
  rw [armS]
  split
  · exact h
  · split
    · exact h
    · rename_i hd
      exact ⟨h.now, fun q => absurd q hd⟩
theorem Coh.crash {s : DSt} (h : Coh s) (l : List Int) : Coh (crashS s l) := by
  rw [crashS]
  split
  · exact ⟨rfl, fun q => by cases q⟩
  · exact h
theorem Coh.fresh (l : List ByteArray) : Coh (freshS l) := ⟨rfl, fun q => by cases q⟩
/-- A new disk of the document is one with nothing pending and no acts. -/
theorem Rk0.rk {w : World} {base b : Nat} {u : Value} {l : List ByteArray} (h : Rk0 w base b u l) : Rk w base b ⟨u, .slice none 0 0, .slice none 0 0⟩ (freshS l) :=
  ⟨h.1, h.2.1, World.ownsRow_nil _ _ _ _, World.ownsRow_nil _ _ _ _, h.2.2⟩
end Go.Proofs.YtiokejnlioghiaaGreatDoor

namespace Go.Proofs.YtiokejnlioghiaaGreatDoor
open Go.RowKit
theorem clear_txt : strOfNums (headL []) = ⟨#[0]⟩ := by rw [headL_nil]; rfl
set_option maxRecDepth 100000 in
/-- The document's clear head. -/
theorem rclear_any (n : Nat) (hn : n < 4294967296) (N : Int) (hN : N = (n : Int)) (w : World) : Calls Tryz.prog 32 #[.int .i64 N] w fun e w' => e = .returned (.string (headB n [])) ∧ Below w.heap.size w w' := by
  subst hN
  have HMK := hide (rmake_ok 2 n ⟨#[0]⟩ (by decide) (by omega) (by decide) w)
  rw [show ((2 : Nat) : Int) = 2 from rfl, headB_eq n [] ⟨#[0]⟩ clear_txt] at HMK
  generalize headB n [] = hb at *
  go_enter Tryz.func32, Tryz.ntmps32
  go_wp2_with fail
  refine (unhide HMK).mono ?_
  rintro e x1 ⟨rfl, hb1⟩
  have HB := hide hb1
  clear hb1 HMK
  go_wp2
  go_ret
  exact ⟨rfl, unhide HB⟩
/-- The document's journal. -/
def Rj (w : World) (jb b n : Nat) (lost : Bool) : Prop := Blk w jb #[.pointer (some ⟨b, 0, none⟩), .int .i64 (n : Int), .bool lost] 101
theorem rnext_any (w : World) (jb b n : Nat) (lost : Bool) (hJ : Rj w jb b n lost) (hn : n < 4294967296) : Calls Tryz.prog 51 #[.pointer (some ⟨jb, 0, none⟩)] w fun e w' => e = .returned (.int .i64 (((n + 1) % 4294967296 : Nat) : Int)) ∧ w' = w := by
  have c1 : w.cell? ⟨jb, 1, none⟩ = some (.int .i64 (n : Int)) := by rw [Blk.cell hJ 1]; rfl
  have hw : IntKind.i64.wrap ((n : Int) + 1) = ((n + 1 : Nat) : Int) := by rw [wrapI_eq _ (by omega) (by omega)]; omega
  obtain ⟨m, hm⟩ : ∃ m, (n + 1) % 4294967296 = m := ⟨_, rfl⟩
  have ht : Int.tmod ((n + 1 : Nat) : Int) 4294967296 = (m : Int) := by rw [Int.tmod_eq_emod_of_nonneg (by omega), ← hm]; omega
  have hw2 : IntKind.i64.wrap (m : Int) = (m : Int) := wrapI_eq _ (by omega) (by omega)
  rw [hm]
  obtain ⟨k, hk⟩ : ∃ k, n + 1 = k := ⟨_, rfl⟩
  rw [hk] at hw ht
  clear hJ hm hk
  go_enter Tryz.func51, Tryz.ntmps51
  go_wp2
  go_ret
  first | exact ⟨rfl, rfl⟩ | exact ⟨by simp [hw2], rfl⟩
end Go.Proofs.YtiokejnlioghiaaGreatDoor

namespace Go.Proofs.YtiokejnlioghiaaGreatDoor
open Go.RowKit
theorem RPst.belowL {w w1 w2 : World} {base b : Nat} {v : RV} {s : DSt} (hb : Below w.heap.size w w1) (h : RPst base b v s w1 w2) : RPst base b v s w w2 := by
  obtain ⟨v1, h1, h2, h3⟩ := h
  refine ⟨v1, h1, (Only.of_below (P := fun _ => False) hb |>.mono (fun _ _ q => q.elim)).trans h2 (fun _ _ q => q), fun k hk => ?_⟩
  rcases h3 k hk with q | q
  · exact .inl q
  · have := hb.size
    exact .inr (by omega)
set_option maxRecDepth 100000 in
set_option maxHeartbeats 1000000 in
/-- The document's Format. -/
theorem rformat_any (w : World) (base b : Nat) (v : RV) (s : DSt) (h : Rk w base b v s) (hb : base ≤ w.heap.size) (hS : Sane s) (hC : Coh s) (hp : s.pend.length ≤ 1000000) (ha : s.acts.length ≤ 100000000) :
    Calls Tryz.prog 8 #[.pointer (some ⟨b, 0, none⟩)] w fun e w' => e = .returned (.int .i64 (layR s [(1, headB 0 [])]).1) ∧ RPst base b v (layR s [(1, headB 0 [])]).2 w w' := by
  have HCL := hide (rclear_any 0 (by decide) 0 rfl w)
  have HD := hide h
  have HS := hide hS
  have HC := hide hC
  obtain ⟨hc, hhc⟩ : ∃ x, headB 0 [] = x := ⟨_, rfl⟩
  rw [hhc] at HCL ⊢
  clear h hS hC hhc
  go_enter Tryz.func8, Tryz.ntmps8
  go_wp2_with fail
  refine (unhide HCL).mono ?_
  rintro e x1 ⟨rfl, hb1⟩
  have HB1 := hide hb1
  have HWR := hide (rwrite_any x1 base b v s ((unhide HD).below hb1) (Nat.le_trans hb hb1.size) (unhide HS) (unhide HC) (by omega) (by omega) 1 hc)
  clear hb1 HCL
  go_wp2_with fail
  refine (unhide HWR).mono ?_
  rintro e x2 ⟨rfl, hP2⟩
  have HP2 := hide hP2
  have hpg := pend_grow s 1 hc
  have hag := acts_grow s 1 hc
  clear hP2 HWR
  by_cases he : writeE s 1 hc = 0
  · rw [he]
    have HE := hide (show layR s [(1, hc)] = (flushE (writeS s 1 hc), flushS (writeS s 1 hc)) from by rw [layR, if_pos he, layR])
    obtain ⟨v2, k1, k2, k3⟩ := unhide HP2
    have HFL := hide (rflush_any x2 base b v2 (writeS s 1 hc) k1 (Nat.le_trans hb (Nat.le_trans (unhide HB1).size k2.size)) ((unhide HS).write 1 hc) ((unhide HC).write 1 hc) (by omega) (by omega))
    have HK := hide (And.intro k2 k3)
    clear k1 k2 k3 he hpg hag
    go_wp2_with fail
    refine (unhide HFL).mono ?_
    rintro e x3 ⟨rfl, hP3⟩
    have HP3 := hide (RPst.belowL (unhide HB1) (RPst.trans (unhide HK).1 (unhide HK).2 hP3))
    clear hP3 HFL
    go_wp2
    go_ret
    rw [unhide HE]
    exact ⟨rfl, unhide HP3⟩
  · have HE := hide (show layR s [(1, hc)] = (writeE s 1 hc, writeS s 1 hc) from by rw [layR, if_neg he])
    have he' : (writeE s 1 hc == 0) = false := by simpa using he
    have HP3 := hide (RPst.belowL (unhide HB1) (unhide HP2))
    generalize writeE s 1 hc = er at *
    clear he hpg hag
    go_wp2
    go_ret
    rw [unhide HE]
    exact ⟨rfl, unhide HP3⟩
end Go.Proofs.YtiokejnlioghiaaGreatDoor
