import Derived.Test.YtkkndlkelpdehaaGreatDoorMr35
namespace Go.Proofs.YtkkndlkelpdehaaGreatDoor
open Go.RowKit Go.Maps Go.Sort Go.Shelf
/-- Between two steps of a script. -/
structure SeR (w : World) (b jb pb gw gn : Nat) (S : PS) (L : List ByteArray) (A : List (Nat × Nat)) (hn : Nat) (Mw Mn : List ByteArray) (many k : Nat) (wr : World) : Prop where
  pk : PK w wr b jb pb S (fun x => x = gw ∨ x = gn)
  bw : Blk wr gw (strs Mw).toArray 9
  bn : Blk wr gn (strs Mn).toArray 9
  seen : Seen S L A hn Mw Mn
  many : S.op = true → S.tx.length ≤ many
  acts : A.length ≤ 2 + 38 * k
  low : w.heap.size ≤ gw ∧ w.heap.size ≤ gn ∧ gw ≠ gn
theorem SeR.below {w : World} {b jb pb gw gn : Nat} {S : PS} {L : List ByteArray} {A : List (Nat × Nat)} {hn : Nat} {Mw Mn : List ByteArray} {many k : Nat} {wr w' : World} (h : SeR w b jb pb gw gn S L A hn Mw Mn many k wr) (hb : Below wr.heap.size wr w') : SeR w b jb pb gw gn S L A hn Mw Mn many k w' :=
  ⟨h.pk.below hb, h.bw.below hb h.bw.lt, h.bn.below hb h.bn.lt, h.seen, h.many, h.acts, h.low⟩
theorem SeR.ne {w : World} {b jb pb gw gn : Nat} {S : PS} {L : List ByteArray} {A : List (Nat × Nat)} {hn : Nat} {Mw Mn : List ByteArray} {many k : Nat} {wr : World} (h : SeR w b jb pb gw gn S L A hn Mw Mn many k wr) : gw ≠ gn := h.low.2.2
theorem SeR.srt {w : World} {b jb pb gw gn : Nat} {S : PS} {L : List ByteArray} {A : List (Nat × Nat)} {hn : Nat} {Mw Mn : List ByteArray} {many k : Nat} {wr : World} (h : SeR w b jb pb gw gn S L A hn Mw Mn many k wr) : Srt S.tx := by
  obtain ⟨bw, bv, ov, K⟩ := h.pk
  exact K.tx.2
theorem SeR.t16 {w : World} {b jb pb gw gn : Nat} {S : PS} {L : List ByteArray} {A : List (Nat × Nat)} {hn : Nat} {Mw Mn : List ByteArray} {many k : Nat} {wr : World} (h : SeR w b jb pb gw gn S L A hn Mw Mn many k wr) : S.tx.length ≤ 16 := by
  obtain ⟨bw, bv, ov, K⟩ := h.pk
  exact K.t16
theorem SeR.tok {w : World} {b jb pb gw gn : Nat} {S : PS} {L : List ByteArray} {A : List (Nat × Nat)} {hn : Nat} {Mw Mn : List ByteArray} {many k : Nat} {wr : World} (h : SeR w b jb pb gw gn S L A hn Mw Mn many k wr) : ∀ p ∈ S.tx, 19 ≤ p.1 ∧ p.1 < 128 ∧ p.2.size = 256 := by
  obtain ⟨bw, bv, ov, K⟩ := h.pk
  intro p hp
  have := K.tok p hp
  rw [h.seen.rst.s, show (rs L A).last.length = 128 from h.seen.len] at this
  exact this
theorem cut_size (ss : ByteArray) : ((ss ++ ⟨#[122]⟩ : ByteArray).extract 0 1).size = 1 := by
  rw [ByteArray.size_extract, ByteArray.size_append]
  have : (⟨#[122]⟩ : ByteArray).size = 1 := rfl
  omega
def ZfI (w : World) (b jb pb g : Nat) (S : PS) (k : Nat) (wr : World) : Prop := PK w wr b jb pb S (fun x => x = g) ∧ Blk wr g (strs (zF k)).toArray 9 ∧ 19 ≤ k
end Go.Proofs.YtkkndlkelpdehaaGreatDoor
