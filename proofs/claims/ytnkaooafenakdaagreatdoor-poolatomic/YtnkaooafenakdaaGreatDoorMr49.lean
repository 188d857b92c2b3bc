import Derived.Test.YtnkaooafenakdaaGreatDoorMr48
import Derived.Test.YtnkaooafenakdaaGreatDoorMr37
import Derived.Test.YtnkaooafenakdaaGreatDoorMr35
namespace Go.Proofs.YtnkaooafenakdaaGreatDoor
open Go.RowKit Go.Maps Go.Sort Go.Shelf
theorem cSec_at (l : List Int) (d : Int) (M : List ByteArray) (hM : M.length = 128) (j : Nat) (hj : j < 128) : ∀ k, (cSec l d M k).getD j ByteArray.empty = (txAt (cTx l d k) (j : Int)).getD (M.getD j ByteArray.empty)
  | 0 => rfl
  | k + 1 => by
    have ih := cSec_at l d M hM j hj k
    obtain ⟨a1, a2⟩ := cK_lo l k
    rw [cSec, cTx, at_put (cTx_srt l d k)]
    by_cases h : (j : Int) = cK l k
    · have e : (cK l k).toNat = j := by omega
      rw [if_pos h, e, getD_set_same _ _ _ (by rw [cSec_len, hM]; exact hj)]
      rfl
    · rw [if_neg h, getD_set_other _ _ _ _ (by omega), ih]
/-- Sectors of noughts, up to k. -/
def zG (k : Nat) : List ByteArray := (List.range 128).map fun i => if i < k then zero256 else ⟨#[]⟩
theorem zG_len (k : Nat) : (zG k).length = 128 := by simp [zG]
theorem zG_step (k : Nat) : (zG k).set k zero256 = zG (k + 1) := by
  apply List.ext_getElem
  · simp [zG]
  · intro j a b
    simp only [zG, List.getElem_set, List.getElem_map, List.getElem_range]
    by_cases e : k = j
    · subst e; simp
    · rw [if_neg e]
      by_cases h : j < k
      · rw [if_pos h, if_pos (by omega)]
      · rw [if_neg h, if_neg (by omega)]
theorem zG_start : zG 0 = List.replicate 128 ⟨#[]⟩ := by
  refine List.eq_replicate_iff.2 ⟨zG_len 0, fun x hx => ?_⟩
  obtain ⟨j, _, rfl⟩ := List.mem_map.1 hx
  rw [if_neg (by omega)]
theorem zG_at (k : Nat) (h2 : k < 128) : (zG 128).getD k ByteArray.empty = zero256 := by
  simp [zG, List.getD_eq_getElem?_getD, h2]
/-- What the first transaction makes, as the law lays it and as the disk has it. -/
theorem was_eq (l : List Int) (n : Nat) (hn : n ≤ 16) (k : Nat) (h1 : 19 ≤ k) (h2 : k < 128) : (comL L0 1 (cTx l 0 n)).getD k ByteArray.empty = (cSec l 0 (zG 128) n).getD k ByteArray.empty := by
  rw [com_free L0 1 _ (cTx_good l 0 n hn).len k h1, tx_lay (cTx_srt l 0 n) (fun p hp => (cTx_mem l 0 n p hp).1) L0 k (by rw [L0_len]; exact h2), cSec_at l 0 _ (zG_len 128) k h2, L0_free k h1 h2, zG_at k h2]
theorem now_eq (l : List Int) (n : Nat) (O W : List ByteArray) (hO : O.length = 128) (hW : W.length = 128) (h : ∀ k, 19 ≤ k → k < 128 → O.getD k ByteArray.empty = W.getD k ByteArray.empty) (k : Nat) (h1 : 19 ≤ k) (h2 : k < 128) : (layP O (natW (cTx l 21 n))).getD k ByteArray.empty = (cSec l 21 W n).getD k ByteArray.empty := by
  rw [tx_lay (cTx_srt l 21 n) (fun p hp => (cTx_mem l 21 n p hp).1) O k (by rw [hO]; exact h2), cSec_at l 21 _ hW k h2, h k h1 h2]
theorem StA.weak {O : List ByteArray} {l : List Wr1} {I : List ByteArray} {m x : Bool} (h : StA O l (m || x) I) : StA O l m I := by
  rcases h with ⟨q, r⟩ | q
  · exact .inl ⟨q, by cases m <;> simp_all⟩
  · exact .inr q
theorem DF.less {w0 w : World} {b : Nat} {s : DSt} {X Y : Nat → Prop} (h : DF w0 w b s X) (hy : ∀ x, Y x → X x) : DF w0 w b s Y := by
  obtain ⟨v, h1, h2, h3, h4⟩ := h
  exact ⟨v, h1, h2, h3, fun x hx => h4 x (hy x hx)⟩
theorem PK.df {w0 w : World} {b jb pb : Nat} {S : PS} {X : Nat → Prop} (K : PK w0 w b jb pb S X) : DF w0 w b S.s X := by
  obtain ⟨bw, bv, ov, K⟩ := K
  exact K.jk.df.less (fun x q => .inl q)
/-- The disk beneath a pool is armed. -/
theorem armP {w0 w : World} {b jb pb : Nat} {S : PS} {X : Nat → Prop} (K : PK w0 w b jb pb S X) (n : Int) (hn : n ≤ 9223372036854775807) (hl : (armS S.s n).last = S.s.last) :
    Calls Tryz.prog 24 #[.pointer (some ⟨b, 0, none⟩), .int .i64 n] w fun e w' => e = .returned (.int .i64 (armE S.s n)) ∧ PK w0 w' b jb pb { S with s := armS S.s n } X ∧ Only (fun x => ¬ X x) w w' := by
  obtain ⟨bw, bv, ov, K⟩ := K
  refine (armK K.jk n hn).mono ?_
  rintro ev w' ⟨rfl, hJ, hO⟩
  have np : ∀ x, Pf pb bw bv ov x → ¬ ¬ (X x ∨ Pf pb bw bv ov x) := fun x q r => r (.inr q)
  refine ⟨rfl, ⟨bw, bv, ov, hJ, K.blk.only hO (np _ (.inl rfl)), K.tx.only hO (np _ (.inr (.inl rfl))), K.hn.only hO (np _ (.inr (.inr (.inl rfl)))) (fun x q => np _ (.inr (.inr (.inr q)))), K.ne, K.lo1, K.lo2, K.lo3, K.xn, K.hk, K.kp, K.t16, ?_⟩, hO.mono (fun x _ q r => q (.inl r))⟩
  show ∀ p ∈ S.tx, 19 ≤ p.1 ∧ p.1 < ((armS S.s n).last.length : Int) ∧ p.2.size = 256
  rw [hl]
  exact K.tok
/-- A pool's commit on a disk that may die. -/
theorem commitP_at {S : PS} {O : List ByteArray} {A : List (Nat × Nat)} {f : Nat} (hs : S.s = ⟨O, O, [], A, (f : Int), false⟩) (hnx : S.nx = 2) (hjl : S.jl = false) (hlost : S.lost = false) (ho : S.op = true) (hO : StO O O) (hl : GoodL S.tx) (hf : f ≤ 1000000) :
    ∃ e s', commitPE S = e ∧ (commitPS S).s = s' ∧ (e = 0 ∨ e = 2) ∧ s'.pend.length ≤ 16 ∧ s'.acts.length ≤ A.length + 38 ∧ Crashed (StA O S.tx (decide (e = 0))) s' := by
  obtain ⟨e, s', nx, lost, hc, he, h1, h2, h3⟩ := commit_at hO hl A f hf
  have hc' : commitR S.s S.nx S.jl S.tx = ⟨e, s', nx, lost⟩ := by rw [hs, hnx, hjl]; exact hc
  refine ⟨e, s', ?_, ?_, he, h1, h2, h3⟩
  · unfold commitPE
    rw [ho, hlost, hc']
    rfl
  · unfold commitPS
    rw [ho, hlost, if_neg (by decide), if_neg (by decide)]
    split
    · show (commitR S.s S.nx S.jl S.tx).s = s'
      rw [hc']
    · show (commitR S.s S.nx S.jl S.tx).s = s'
      rw [hc']
/-- Pools over a disk that may die. -/
theorem popenF {w0 w : World} {b : Nat} {O I : List ByteArray} {l : List Wr1} {must : Bool} {A : List (Nat × Nat)} {f : Nat} {X : Nat → Prop} (h : DF w0 w b ⟨I, I, [], A, (f : Int), false⟩ X) (hg : ETy w) (h2 : f ≤ 1000000) (hA : StA O l must I) (hl : GoodL l) (hO : O.length = 128) (ha : A.length ≤ 1000000) (keep : Nat) (hk : keep ≤ 64) :
    Calls Tryz.prog 19 #[.pointer (some ⟨b, 0, none⟩), .int .i64 (keep : Int)] w fun e w' => ∃ pp er s', e = .returned (.tuple #[.pointer pp, .int .i64 er]) ∧ ((er = 0 ∧ ∃ pb, pp = some ⟨pb, 0, none⟩) ∨ (er = 2 ∧ pp = none ∧ 1 ≤ f)) ∧ DF w0 w' b s' X ∧ Only (fun x => ¬ X x) w w' ∧ s'.pend.length ≤ 16 ∧ s'.acts.length ≤ A.length + 19 ∧ Crashed (StA O l must) s' := by
  refine (popen_any w b keep hk (fun jp ag er w1 => ∃ s', DF w0 w1 b s' X ∧ Only (fun x => ¬ X x) w w1 ∧ (er = 0 ∨ (er = 2 ∧ 1 ≤ f)) ∧ s'.pend.length ≤ 16 ∧ s'.acts.length ≤ A.length + 19 ∧ Crashed (StA O l must) s') ((openG h hg h2 hA hl hO ha).mono (fun e w1 q => by
    obtain ⟨jp, ag, er, s', q1, q2, q3, q4, q5, q6, q7⟩ := q
    exact ⟨jp, ag, er, q1, s', q2, q3, q4, q5, q6, fun ps r1 r2 => (q7 ps r1 r2).weak⟩))).mono ?_
  rintro e w' ⟨jp, ag, er, w1, ⟨s', q2, q3, q4, q5, q6, q7⟩, ⟨r1, r2, rfl⟩ | ⟨rfl, pb, bw, bv, r2, hP⟩⟩
  · rcases q4 with q | q
    · exact absurd q r1
    · exact ⟨none, er, s', r2, .inr ⟨q.1, rfl, q.2⟩, q2, q3, q5, q6, q7⟩
  · have hb := hP.2.2.2.2.2.2.2
    exact ⟨_, 0, s', r2, .inl ⟨rfl, pb, rfl⟩, q2.below hb, q3.trans (Only.of_below (P := fun x => ¬ X x) hb) (fun _ _ q => q), q5, q6, q7⟩
/-- What the last journal is. -/
def OpY (O : List ByteArray) (l : List Wr1) (must : Bool) (w0 : World) (b : Nat) (e : Ending) (w' : World) : Prop :=
  ∃ jb ag I A n, e = .returned (.tuple #[.pointer (some ⟨jb, 0, none⟩), .bool ag, .int .i64 0]) ∧ JK w0 w' b jb (rs I A) ((n + 1) % 4294967296) false (fun _ => False) ∧ n < 4294967296 ∧ I.length = 128 ∧ (∀ t ∈ I, t.size = 256) ∧ I.getD 1 ByteArray.empty = headB n [] ∧ ((freeQ I O ∧ must = false) ∨ freeQ I (layP O (natW l)))
theorem jnew_jk {w0 w w' : World} {b : Nat} {v : DV} {s s0 : DSt} {jb nx : Nat} (h : Dk w w0.heap.size b v s0) (h0 : Below w0.heap.size w0 w) (hs : Sane s) (hN : JNew w0.heap.size b v s jb nx w w') : JK w0 w' b jb s nx false (fun _ => False) := by
  obtain ⟨v', j1, j2, j3, j4, j5, j6⟩ := hN
  exact ⟨v', j1, j2, j3, Nat.le_trans h0.size j4, DI.only h h0 j5, hs, fun x hx => hx.elim⟩
theorem openY {w0 w : World} {b : Nat} {v : DV} {O I : List ByteArray} {l : List Wr1} {must : Bool} (h : Dk w w0.heap.size b v (rs I [])) (h0 : Below w0.heap.size w0 w) (hg : ETy w) (hA : StA O l must I) (hl : GoodL l) (hO : O.length = 128) :
    Calls Tryz.prog 33 #[.pointer (some ⟨b, 0, none⟩)] w (OpY O l must w0 b) := by
  have hIl := hA.len
  have hS : Sane (rs I []) := Sane.fresh I (by omega) (by omega)
  obtain ⟨r1, r2⟩ := read_rs I [] 1 (by omega)
  rw [show ((1 : Nat) : Int) = 1 from rfl] at r1 r2
  have hsz : (I.getD 1 ByteArray.empty).size = 256 := hA.size _ (by simp [List.getD_eq_getElem?_getD, show 1 < I.length by omega])
  have hAs := hA.size
  refine (open_any w w0.heap.size b v _ h hg h0.size hS (by rw [r2, hsz]; decide) (Nat.zero_le _) (Nat.zero_le _)).mono ?_
  intro e w' hP
  rcases hP with ⟨q, _⟩ | ⟨_, n', H, ok, hn', hR, hc⟩
  · exact absurd r1 q
  · rw [r2] at hR
    have clear : ∀ n, n < 4294967296 → I.getD 1 ByteArray.empty = headB n [] → ((freeQ I O ∧ must = false) ∨ freeQ I (layP O (natW l))) → OpY O l must w0 b e w' := fun n hn hh hst => by
      rw [hh] at hR
      obtain ⟨e1, e2, e3⟩ := rhp_clear n hn _ _ _ _ hR
      have e1' : n' = n := by omega
      subst e1' e2 e3
      rcases hc with ⟨q, _⟩ | ⟨_, _, jb, ev, hN⟩ | ⟨_, q, _⟩ | ⟨_, q, _⟩
      · cases q
      · exact ⟨jb, false, I, [], n', ev, jnew_jk h h0 hS hN, hn', hIl, hAs, hh, hst⟩
      · simp at q
      · simp at q
    rcases hA with ⟨q, qm⟩ | q | q
    · exact clear 1 (by decide) q.head (.inl ⟨q.free, qm⟩)
    · rw [q.head, show (((rs I []).last.length : Nat) : Int) = 128 by show ((I.length : Nat) : Int) = 128; rw [hIl]; rfl] at hR
      obtain ⟨e1, e2, e3⟩ := rhp_set 2 (by decide) 128 _ _ _ _ (secs16 l hl) (homes_ok l hl) hR
      have e1' : n' = 2 := by omega
      subst e1' e2 e3
      have h16 := filled_len l hl.len
      have hL : redoL (rs I []) (secs (filled l)) = filled l := by
        refine List.ext_getElem (by rw [redoL_len, secs16 l hl, h16]) (fun i q1 q2 => ?_)
        have hi : i < 16 := by omega
        rw [← getD_of q1, ← getD_of q2, redoL_at _ _ i (by rw [secs16 l hl]; exact hi), secs_at _ i (by omega), (read_rs I [] (2 + i) (by omega)).2, q.recs i hi]
      have e1 := lay_rs I [] (filled l) (by rw [hIl]; exact fill_ok l hl)
      have e2 := lay_rs (layP I (natW (filled l))) ([] ++ actW (filled l) ++ [(1, 0)]) [(1, headB 2 [])] (head_ok _ (by rw [layP_len, hIl]; decide) 2 _ (by simp))
      have hrr : redoR (rs I []) 2 (secs (filled l)) = (0, rs (layP (layP I (natW (filled l))) [(1, headB 2 [])]) ([] ++ actW (filled l) ++ [(1, 0)] ++ actW [(1, headB 2 [])] ++ [(1, 0)])) := by
        rw [redoR, hL, e1, if_pos rfl]
        simp only
        rw [e2]
        rfl
      have hsn : Sane (redoR (rs I []) 2 (secs (filled l))).2 := by
        unfold redoR
        split
        · exact layR_sane _ _ (layR_sane _ _ hS)
        · exact layR_sane _ _ hS
      rw [hrr] at hc hsn
      have hN := q.done hl hO
      rcases hc with ⟨q', _⟩ | ⟨_, q', _⟩ | ⟨_, _, q', _⟩ | ⟨_, _, q', jb, ev, hJ⟩
      · cases q'
      · rw [secs16 l hl] at q'; cases q'
      · exact absurd rfl q'
      · exact ⟨jb, true, _, _, 2, ev, jnew_jk h h0 hsn hJ, by decide, hN.len, hN.size, hN.head, .inr hN.free⟩
    · exact clear 2 (by decide) q.head (.inr q.free)
/-- The last pool: it sees what the disk has. -/
theorem popenY {w0 w : World} {b : Nat} {v : DV} {O I : List ByteArray} {l : List Wr1} {must : Bool} (h : Dk w w0.heap.size b v (rs I [])) (h0 : Below w0.heap.size w0 w) (hg : ETy w) (hA : StA O l must I) (hl : GoodL l) (hO : O.length = 128) :
    Calls Tryz.prog 19 #[.pointer (some ⟨b, 0, none⟩), .int .i64 3] w fun e w' => ∃ jb pb S I' A' n, e = .returned (.tuple #[.pointer (some ⟨pb, 0, none⟩), .int .i64 0]) ∧ PK w0 w' b jb pb S (fun _ => False) ∧ Seen S I' A' n I' I' ∧ ((freeQ I' O ∧ must = false) ∨ freeQ I' (layP O (natW l))) := by
  refine (popen_any w b 3 (by decide) (fun jp ag er w1 => er = 0 ∧ ∃ jb I A n, jp = some ⟨jb, 0, none⟩ ∧ JK w0 w1 b jb (rs I A) ((n + 1) % 4294967296) false (fun _ => False) ∧ n < 4294967296 ∧ I.length = 128 ∧ (∀ t ∈ I, t.size = 256) ∧ I.getD 1 ByteArray.empty = headB n [] ∧ ((freeQ I O ∧ must = false) ∨ freeQ I (layP O (natW l)))) ((openY h h0 hg hA hl hO).mono (fun e w1 q => by
    obtain ⟨jb, ag, I', A', n, q1, q2⟩ := q
    exact ⟨_, ag, 0, q1, rfl, jb, I', A', n, rfl, q2⟩))).mono ?_
  rintro e w' ⟨jp, ag, er, w1, ⟨rfl, jb, I', A', n, rfl, q1, q2, q3, q4, q5, q6⟩, r | ⟨_, pb, bw, bv, rfl, hP⟩⟩
  · exact absurd rfl r.1
  · exact ⟨jb, pb, restP I' A' ((n + 1) % 4294967296) 3, I', A', n, rfl, POk.pk q1 (by decide) hP, ⟨⟨rfl, rfl, rfl, rfl⟩, q3, q4, q5, q2, fun k _ _ => rfl, q3, q3, fun k _ _ => rfl, fun _ => rfl, fun p hp => by cases hp⟩, q6⟩
end Go.Proofs.YtnkaooafenakdaaGreatDoor
