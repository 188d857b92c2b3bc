import Derived.Test.YtkkndlkelpdehaaGreatDoorMr35
import Derived.BigQuiet
namespace Go.Proofs.YtkkndlkelpdehaaGreatDoor
open Go.RowKit Go.Maps Go.Sort Go.Shelf
/-- Two pools that were asked the same. -/
structure Tw (S T : PS) (L : List ByteArray) (A : List (Nat × Nat)) (hn : Nat) (Mw Mn : List ByteArray) (k : Nat) : Prop where
  s : Seen S L A hn Mw Mn
  t : Seen T L A hn Mw Mn
  op : T.op = S.op
  tx : T.tx = S.tx
  cnt : S.hits + S.mis = T.hits + T.mis
  pos : 0 ≤ S.hits ∧ 0 ≤ S.mis ∧ 0 ≤ T.hits ∧ 0 ≤ T.mis ∧ S.hits + S.mis ≤ (k : Int)
theorem Tw.room {S T : PS} {L : List ByteArray} {A : List (Nat × Nat)} {hn : Nat} {Mw Mn : List ByteArray} {k : Nat} (h : Tw S T L A hn Mw Mn k) (i : Int) : roomB T i = roomB S i := by unfold roomB; rw [h.tx]
theorem Tw.begin {S T : PS} {L : List ByteArray} {A : List (Nat × Nat)} {hn : Nat} {Mw Mn : List ByteArray} {k : Nat} (h : Tw S T L A hn Mw Mn k) : beginE T = beginE S ∧ Tw (beginS S) (beginS T) L A hn Mw Mn (k + 1) ∧ (beginS S).op = true := by
  obtain ⟨a1, a2, a3, a4⟩ := h.s.begin
  obtain ⟨b1, b2, b3, b4⟩ := h.t.begin
  have cS : (beginS S).hits = S.hits ∧ (beginS S).mis = S.mis := by unfold beginS; split <;> (try split) <;> exact ⟨rfl, rfl⟩
  have cT : (beginS T).hits = T.hits ∧ (beginS T).mis = T.mis := by unfold beginS; split <;> (try split) <;> exact ⟨rfl, rfl⟩
  refine ⟨by rw [a1, b1, h.op], ⟨a2, b2, by rw [a3, b3], by rw [a4, b4, h.tx], by rw [cS.1, cS.2, cT.1, cT.2]; exact h.cnt, ?_⟩, a3⟩
  rw [cS.1, cS.2, cT.1, cT.2]
  have := h.pos
  omega
theorem Tw.more {S T : PS} {L : List ByteArray} {A : List (Nat × Nat)} {hn : Nat} {Mw Mn : List ByteArray} {k : Nat} (h : Tw S T L A hn Mw Mn k) : Tw S T L A hn Mw Mn (k + 1) := ⟨h.s, h.t, h.op, h.tx, h.cnt, by have := h.pos; omega⟩
theorem writeP_cnt (S : PS) (i : Int) (t : ByteArray) : (writeP S i t).hits = S.hits ∧ (writeP S i t).mis = S.mis := by unfold writeP; split <;> exact ⟨rfl, rfl⟩
theorem Tw.write {S T : PS} {L : List ByteArray} {A : List (Nat × Nat)} {hn : Nat} {Mw Mn : List ByteArray} {k : Nat} (h : Tw S T L A hn Mw Mn k) (hs : Srt S.tx) (i : Nat) (h1 : 19 ≤ i) (h2 : i < 128) (t : ByteArray) (ht : t.size = 256) : refP T (i : Int) t = refP S (i : Int) t ∧ (writeP S (i : Int) t).op = S.op ∧ ∃ Mn', Tw (writeP S (i : Int) t) (writeP T (i : Int) t) L A hn Mw Mn' (k + 1) := by
  have hsT : Srt T.tx := by rw [h.tx]; exact hs
  have hpos := h.pos
  cases ho : S.op with
  | false =>
    obtain ⟨a1, a2⟩ := h.s.shut ho i h1 h2 t ht
    obtain ⟨b1, b2⟩ := h.t.shut (by rw [h.op]; exact ho) i h1 h2 t ht
    rw [a1, b1, a2, b2]
    exact ⟨rfl, ho, Mn, h.more⟩
  | true =>
    have hoT : T.op = true := by rw [h.op]; exact ho
    cases hr : roomB S (i : Int) with
    | false =>
      obtain ⟨a1, a2, _⟩ := h.s.full ho i h1 h2 t ht hr
      obtain ⟨b1, b2, _⟩ := h.t.full hoT i h1 h2 t ht (by rw [h.room]; exact hr)
      rw [a1, b1, a2, b2]
      exact ⟨rfl, ho, Mn, h.more⟩
    | true =>
      obtain ⟨a1, a2, a3, a4⟩ := h.s.write hs ho i h1 h2 t ht hr
      obtain ⟨b1, b2, b3, b4⟩ := h.t.write hsT hoT i h1 h2 t ht (by rw [h.room]; exact hr)
      have cS := writeP_cnt S (i : Int) t
      have cT := writeP_cnt T (i : Int) t
      refine ⟨by rw [a1, b1], a3, Mn.set i t, a2, b2, by rw [a3, b3], by rw [a4, b4, h.tx], by rw [cS.1, cS.2, cT.1, cT.2]; exact h.cnt, ?_⟩
      rw [cS.1, cS.2, cT.1, cT.2]
      omega
theorem commitP_cnt (S : PS) : (commitPS S).hits = S.hits ∧ (commitPS S).mis = S.mis := by unfold commitPS; split <;> (try split) <;> (try split) <;> exact ⟨rfl, rfl⟩
theorem abortP_cnt (S : PS) : (abortS S).hits = S.hits ∧ (abortS S).mis = S.mis := by unfold abortS; split <;> exact ⟨rfl, rfl⟩
theorem Tw.commit {S T : PS} {L : List ByteArray} {A : List (Nat × Nat)} {hn : Nat} {Mw Mn : List ByteArray} {k : Nat} (h : Tw S T L A hn Mw Mn k) (hs : Srt S.tx) (hl : S.tx.length ≤ 16) (hm : ∀ p ∈ S.tx, 19 ≤ p.1 ∧ p.1 < 128 ∧ p.2.size = 256) : commitPE T = commitPE S ∧ ∃ L' A' hn' Mw' Mn', Tw (commitPS S) (commitPS T) L' A' hn' Mw' Mn' (k + 1) ∧ A.length ≤ A'.length ∧ A'.length ≤ A.length + 38 ∧ (S.op = true → A'.length = A.length + 38) := by
  have hpos := h.pos
  cases ho : S.op with
  | false =>
    obtain ⟨a1, a2, _⟩ := h.s.none ho
    obtain ⟨b1, b2, _⟩ := h.t.none (by rw [h.op]; exact ho)
    rw [a1, b1, a2, b2]
    exact ⟨rfl, L, A, hn, Mw, Mn, h.more, Nat.le_refl _, by omega, fun q => by cases q⟩
  | true =>
    obtain ⟨a1, a2, a3⟩ := h.s.commit ho hs hl hm
    obtain ⟨b1, b2, b3⟩ := h.t.commit (by rw [h.op]; exact ho) (by rw [h.tx]; exact hs) (by rw [h.tx]; exact hl) (by rw [h.tx]; exact hm)
    rw [h.tx] at b2
    have cS := commitP_cnt S
    have cT := commitP_cnt T
    have hA : (A ++ comA S.tx).length = A.length + 38 := by rw [List.length_append, comA_len S.tx hl]
    refine ⟨by rw [a1, b1], _, _, _, _, _, ⟨a2, b2, by rw [a3, b3], by rw [a2.cl a3, b2.cl b3], by rw [cS.1, cS.2, cT.1, cT.2]; exact h.cnt, ?_⟩, by omega, by omega, fun _ => hA⟩
    rw [cS.1, cS.2, cT.1, cT.2]
    omega
theorem Tw.abort {S T : PS} {L : List ByteArray} {A : List (Nat × Nat)} {hn : Nat} {Mw Mn : List ByteArray} {k : Nat} (h : Tw S T L A hn Mw Mn k) : abortE T = abortE S ∧ ∃ Mn', Tw (abortS S) (abortS T) L A hn Mw Mn' (k + 1) := by
  have hpos := h.pos
  have cS := abortP_cnt S
  have cT := abortP_cnt T
  cases ho : S.op with
  | false =>
    obtain ⟨_, _, a1, a2⟩ := h.s.none ho
    obtain ⟨_, _, b1, b2⟩ := h.t.none (by rw [h.op]; exact ho)
    rw [a1, b1, a2, b2]
    exact ⟨rfl, Mn, h.more⟩
  | true =>
    have hoT : T.op = true := by rw [h.op]; exact ho
    have eS : abortS S = endS S := by unfold abortS; rw [if_pos ho]
    have eT : abortS T = endS T := by unfold abortS; rw [if_pos hoT]
    refine ⟨by unfold abortE; rw [ho, hoT], Mw, ?_⟩
    rw [eS, eT]
    exact ⟨h.s.back _ (end_rest h.s.rst) rfl h.s.hok, h.t.back _ (end_rest h.t.rst) rfl h.t.hok, rfl, rfl, h.cnt, by show 0 ≤ S.hits ∧ 0 ≤ S.mis ∧ 0 ≤ T.hits ∧ 0 ≤ T.mis ∧ S.hits + S.mis ≤ _; omega⟩
end Go.Proofs.YtkkndlkelpdehaaGreatDoor

namespace Go.Proofs.YtkkndlkelpdehaaGreatDoor
open Go.RowKit Go.Maps Go.Sort Go.Shelf
theorem inc_eq (x : Int) (h0 : 0 ≤ x) (h1 : x ≤ 1000000000) : inc x = x + 1 := by unfold inc; exact wrapI_eq _ (by omega) (by omega)
/-- What a read counts. -/
theorem read_cnt {S : PS} {L : List ByteArray} {A : List (Nat × Nat)} {nx : Nat} (h : Rst S L A nx) (k : Nat) (hk : k < L.length) (h1 : 0 ≤ S.hits ∧ S.hits ≤ 1000000000) (h2 : 0 ≤ S.mis ∧ S.mis ≤ 1000000000) : (readP S k).2.2.hits + (readP S k).2.2.mis = S.hits + S.mis + (if (txAt S.tx (k : Int)).isSome then 0 else 1) ∧ 0 ≤ (readP S k).2.2.hits ∧ 0 ≤ (readP S k).2.2.mis := by
  have hh : hasB S.s (k : Int) = true := by rw [h.s]; show (decide (0 ≤ (k : Int)) && decide ((k : Int) < (L.length : Int))) = true; simp; omega
  have hr : readE S.s (k : Int) = 0 := by rw [h.s]; exact (read_rs L A k hk).1
  have i1 := inc_eq S.hits h1.1 h1.2
  have i2 := inc_eq S.mis h2.1 h2.2
  unfold readP
  rw [hh, h.lost]
  cases ht : txAt S.tx (k : Int) with
  | some t =>
    refine ⟨?_, h1.1, h2.1⟩
    show S.hits + S.mis = S.hits + S.mis + 0
    omega
  | none =>
    cases hf : txAt S.h (k : Int) with
    | some t =>
      refine ⟨?_, ?_, h2.1⟩
      · show inc S.hits + S.mis = S.hits + S.mis + 1
        omega
      · show 0 ≤ inc S.hits
        omega
    | none =>
      simp only [hr, if_true]
      refine ⟨?_, h1.1, ?_⟩
      · show S.hits + inc S.mis = S.hits + S.mis + 1
        omega
      · show 0 ≤ inc S.mis
        omega
theorem Tw.read {S T : PS} {L : List ByteArray} {A : List (Nat × Nat)} {hn : Nat} {Mw Mn : List ByteArray} {k : Nat} (h : Tw S T L A hn Mw Mn k) (hk : k ≤ 1000000) (i : Nat) (h1 : 19 ≤ i) (h2 : i < 128) : (readP S i).1 = Mn.getD i ByteArray.empty ∧ (readP S i).2.1 = 0 ∧ (readP T i).1 = Mn.getD i ByteArray.empty ∧ (readP T i).2.1 = 0 ∧ Tw (readP S i).2.2 (readP T i).2.2 L A hn Mw Mn (k + 1) ∧ (readP S i).2.2.op = S.op := by
  obtain ⟨a1, a2, a3, a4, a5⟩ := h.s.read i h1 h2
  obtain ⟨b1, b2, b3, b4, b5⟩ := h.t.read i h1 h2
  have hp := h.pos
  have hc := h.cnt
  obtain ⟨c1, c2, c3⟩ := read_cnt h.s.rst i (by rw [h.s.len]; exact h2) ⟨hp.1, by omega⟩ ⟨hp.2.1, by omega⟩
  obtain ⟨d1, d2, d3⟩ := read_cnt h.t.rst i (by rw [h.t.len]; exact h2) ⟨hp.2.2.1, by omega⟩ ⟨hp.2.2.2.1, by omega⟩
  rw [h.tx] at d1
  refine ⟨a1, a2, b1, b2, ⟨a3, b3, by rw [a4, b4, h.op], by rw [a5, b5, h.tx], by omega, ⟨c2, c3, d2, d3, ?_⟩⟩, a4⟩
  rw [c1]
  split <;> omega
set_option maxRecDepth 100000 in
set_option maxHeartbeats 1000000 in
theorem same6_any (w : World) (p1 p2 : Option Addr) (c1 c2 : Nat) (l : List Int) (n : Nat) (hn : n = l.length) (h1 : Ints w p1 l) (h2 : Ints w p2 l) (hz : n ≤ 1000000) : Calls Tryz.prog 10 #[.slice p1 n c1, .slice p2 n c2] w fun e w' => e = .returned (.bool true) ∧ Below w.heap.size w w' := by
  have HL := hide (And.intro hn (And.intro h1 h2))
  clear hn h1 h2
  go_enter Tryz.func10, Tryz.ntmps10
  go_wp2
  go_loopw [5] (fun i wr => ∃ k : Nat, k ≤ n ∧ i = .int .i64 (k : Int) ∧ Below w.heap.size w wr) (fun i _ => n - (intOf i).toNat)
  case atStart => exact ⟨0, by omega, rfl, Below.refl _ _⟩
  case round =>
    obtain ⟨k, hk, rfl, hb⟩ := hrel
    have XB := hide hb
    clear hb
    by_cases hkn : k < n
    · obtain ⟨g1, o1, rfl, q1, d1⟩ := (unhide HL).2.1 k (by have := (unhide HL).1; omega)
      obtain ⟨g2, o2, rfl, q2, d2⟩ := (unhide HL).2.2 k (by have := (unhide HL).1; omega)
      have e1 := ((unhide XB).cell (p := ⟨g1, o1 + k, none⟩) q1).trans d1
      have e2 := ((unhide XB).cell (p := ⟨g2, o2 + k, none⟩) q2).trans d2
      generalize l.getD k 0 = z at *
      clear q1 q2 d1 d2
      have j0 : 0 ≤ (k : Int) := by omega
      have j1 : (k : Int) < (n : Int) := by omega
      go_wp2_with fail
      go_quiet (fail)
      go_wp2
      go_roundw
      case rel => exact ⟨k + 1, by omega, by go_num, below_drewN (unhide XB) _⟩
      case measure => simp [intOf]; omega
    · have e1 : ¬ (k : Int) < (n : Int) := by omega
      go_wp2
      go_ret
      exact ⟨rfl, unhide XB⟩
end Go.Proofs.YtkkndlkelpdehaaGreatDoor
