import Derived.Test.YtkkndlkelpdehaaGreatDoorMr33
import Derived.Test.YtkkndlkelpdehaaGreatDoorMr26
namespace Go.Proofs.YtkkndlkelpdehaaGreatDoor
open Go.RowKit Go.Maps Go.Sort Go.Shelf
theorem bytes1_size (s : ByteArray) (h : s.size = 1) : (bytesB s).size = 256 := by rw [bytesB, if_pos h]; exact rep1_size _
/-- A pool whose disk is at rest. -/
structure Rst (S : PS) (L : List ByteArray) (A : List (Nat × Nat)) (nx : Nat) : Prop where
  s : S.s = rs L A
  nx : S.nx = nx
  jl : S.jl = false
  lost : S.lost = false
theorem tx_good {tx : Tx} (hs : Srt tx) (hl : tx.length ≤ 16) (hm : ∀ p ∈ tx, 19 ≤ p.1 ∧ p.1 < 128 ∧ p.2.size = 256) : GoodL tx := by
  refine ⟨hl, fun x hx => ⟨(hm x hx).1, (hm x hx).2.1⟩, ?_, fun x hx => (hm x hx).2.2⟩
  show (tx.map (·.1)).Nodup
  exact List.pairwise_map.2 (hs.imp (fun q => by omega))
theorem cTx_mem (l : List Int) (d : Int) : ∀ k, ∀ p ∈ cTx l d k, 19 ≤ p.1 ∧ p.1 < 128 ∧ p.2.size = 256
  | 0, p, hp => by cases hp
  | k + 1, p, hp => by
    rcases mem_put hp with q | q
    · subst q
      exact ⟨(cK_lo l k).1, (cK_lo l k).2, rep1_size _⟩
    · exact cTx_mem l d k p q
theorem cTx_good (l : List Int) (d : Int) (k : Nat) (hk : k ≤ 16) : GoodL (cTx l d k) := tx_good (cTx_srt l d k) (Nat.le_trans (cTx_len l d k) hk) (cTx_mem l d k)
theorem commit_rest {S : PS} {L : List ByteArray} {A : List (Nat × Nat)} {nx : Nat} (h : Rst S L A nx) (ho : S.op = true) (hL : L.length = 128) (hg : GoodL S.tx) : commitPE S = 0 ∧ Rst (commitPS S) (comL L nx S.tx) (A ++ comA S.tx) ((nx + 1) % 4294967296) ∧ (commitPS S).op = false ∧ (commitPS S).tx = [] ∧ (commitPS S).keep = S.keep ∧ (commitPS S).h = layAll S.keep S.tx S.h := by
  have hc : commitR S.s S.nx S.jl S.tx = ⟨0, rs (comL L nx S.tx) (A ++ comA S.tx), (nx + 1) % 4294967296, false⟩ := by
    rw [h.s, h.nx, h.jl]
    exact commit_rs L A nx S.tx hL hg
  have e1 : commitPE S = 0 := by unfold commitPE; rw [ho, h.lost, hc]; rfl
  have e2 : commitPS S = { doneS S with h := layAll S.keep S.tx S.h } := by unfold commitPS; rw [ho, h.lost, hc]; rfl
  refine ⟨e1, ?_, by rw [e2]; rfl, by rw [e2]; rfl, by rw [e2]; rfl, by rw [e2]⟩
  rw [e2]
  exact ⟨by show (commitR S.s S.nx S.jl S.tx).s = _; rw [hc], by show (commitR S.s S.nx S.jl S.tx).nx = _; rw [hc], by show (commitR S.s S.nx S.jl S.tx).lost = _; rw [hc], h.lost⟩
theorem read_rest {S : PS} {L : List ByteArray} {A : List (Nat × Nat)} {nx : Nat} (h : Rst S L A nx) (k : Nat) (hk : k < L.length) : (readP S k).2.1 = 0 ∧ Rst (readP S k).2.2 L A nx ∧ (readP S k).2.2.op = S.op ∧ (readP S k).2.2.tx = S.tx ∧ (readP S k).2.2.keep = S.keep := by
  have hh : hasB S.s (k : Int) = true := by rw [h.s]; show (decide (0 ≤ (k : Int)) && decide ((k : Int) < (L.length : Int))) = true; simp; omega
  have hr : readE S.s (k : Int) = 0 := by rw [h.s]; exact (read_rs L A k hk).1
  unfold readP
  rw [hh, h.lost]
  cases ht : txAt S.tx (k : Int) with
  | some t => exact ⟨rfl, h, rfl, rfl, rfl⟩
  | none =>
    cases hf : txAt S.h (k : Int) with
    | some t => exact ⟨rfl, ⟨h.s, h.nx, h.jl, h.lost⟩, rfl, rfl, rfl⟩
    | none =>
      simp only [hr, if_true]
      exact ⟨rfl, ⟨h.s, h.nx, h.jl, h.lost⟩, rfl, rfl, rfl⟩
theorem readT_rest {S : PS} {L : List ByteArray} {A : List (Nat × Nat)} {nx : Nat} (h : Rst S L A nx) (k : Nat) (hk : k < L.length) (hz : ∀ t ∈ L, t.size = 256) : (readT S.s (k : Int)).size ≤ maxLen := by
  rw [h.s, (read_rs L A k hk).2]
  have : (L.getD k ByteArray.empty).size = 256 := hz _ (by rw [List.getD_eq_getElem?_getD, List.getElem?_eq_getElem hk]; exact List.getElem_mem hk)
  rw [this]; decide
theorem write_rest {S : PS} {L : List ByteArray} {A : List (Nat × Nat)} {nx : Nat} (h : Rst S L A nx) (i : Int) (t : ByteArray) : Rst (writeP S i t) L A nx ∧ (writeP S i t).op = S.op ∧ (writeP S i t).keep = S.keep := by
  unfold writeP
  split
  · exact ⟨⟨h.s, h.nx, h.jl, h.lost⟩, rfl, rfl⟩
  · exact ⟨h, rfl, rfl⟩
theorem end_rest {S : PS} {L : List ByteArray} {A : List (Nat × Nat)} {nx : Nat} (h : Rst S L A nx) : Rst (endS S) L A nx := ⟨h.s, h.nx, h.jl, h.lost⟩
/-- The pool of a script that is played in a transaction. -/
def ShI (w w1 : World) (b jb pb : Nat) (X : Nat → Prop) (L : List ByteArray) (A : List (Nat × Nat)) (nx : Nat) (wr : World) : Prop :=
  ∃ S, PK w wr b jb pb S X ∧ Rst S L A nx ∧ S.op = true ∧ Only (fun x => ¬ X x) w1 wr
theorem PK.dirty {w0 w : World} {b jb pb : Nat} {S : PS} {X : Nat → Prop} (K : PK w0 w b jb pb S X) : Calls Tryz.prog 11 #[.pointer (some ⟨pb, 0, none⟩)] w fun e w' => ∃ v, e = .returned v ∧ w'.ownsRow w.heap.size 3 1 v (S.tx.map (·.1)).length ((S.tx.map (·.1)).map encZ) ∧ Below w.heap.size w w' := by
  obtain ⟨bw, bv, ov, K⟩ := K
  exact dirty_any w bw pb S.tx K.tx (by have := K.t16; omega) (by rw [K.blk.cell]; rfl)
theorem PK.stats {w0 w : World} {b jb pb : Nat} {S : PS} {X : Nat → Prop} (K : PK w0 w b jb pb S X) : Calls Tryz.prog 16 #[.pointer (some ⟨pb, 0, none⟩)] w fun e w' => e = .returned (.agg #[.int .i64 S.hits, .int .i64 S.mis, .int .i64 (S.h.length : Int)]) ∧ Below w.heap.size w w' := by
  obtain ⟨bw, bv, ov, K⟩ := K
  have h := stats_any w _ pb b jb S.op bw S.keep bv ov S.hits S.mis S.lost _ _ K.blk K.hn.ord
  rw [List.length_map] at h
  exact h
theorem PK.ji {w0 w : World} {b jb pb : Nat} {S : PS} {X : Nat → Prop} (K : PK w0 w b jb pb S X) : JI w0 w b jb S.s S.nx S.jl := by
  obtain ⟨bw, bv, ov, K⟩ := K
  exact K.jk.ji
end Go.Proofs.YtkkndlkelpdehaaGreatDoor
