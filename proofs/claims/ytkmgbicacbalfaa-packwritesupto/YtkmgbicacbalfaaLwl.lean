import Derived.Test.YtkmgbicacbalfaaLwk
namespace Go.Proofs.Ytkmgbicacbalfaa
open Go.RowKit
/-- Two Writers and the document's two, apart; F: what else is kept. -/
def PInv (w : World) (F : Nat → Prop) (b1 r1 b2 r2 o M : Nat) (wr : World) : Prop :=
  ∃ v1 l1 e1 S1 v2 l2 e2 S2, (WB wr w.heap.size b1 r1 v1 l1 e1 S1 ∧ Sw l1 e1 S1 ∧ l1.length ≤ M ∧ S1.size ≤ M) ∧ (WB wr w.heap.size b2 r2 v2 l2 e2 S2 ∧ Sw l2 e2 S2 ∧ l2.length ≤ M ∧ S2.size ≤ M) ∧
    (∀ k, Fp b1 v1 k → ¬ Fp b2 v2 k) ∧ ¬ Fp b1 v1 r2 ∧ ¬ Fp b2 v2 r1 ∧ r1 ≠ r2 ∧ (w.heap.size ≤ r1 ∧ w.heap.size ≤ r2) ∧ (∀ k, F k → k < wr.heap.size ∧ ¬ Fp b1 v1 k ∧ ¬ Fp b2 v2 k ∧ k ≠ r1 ∧ k ≠ r2) ∧ Below w.heap.size w wr ∧ F o ∧ Blk wr o #[.int .i64 5, .int .i64 0, .slice none 0 0, .string ⟨#[]⟩] 39
theorem PInv.swap {w : World} {F : Nat → Prop} {b1 r1 b2 r2 o M : Nat} {wr : World} (h : PInv w F b1 r1 b2 r2 o M wr) : PInv w F b2 r2 b1 r1 o M wr := by
  obtain ⟨v1, l1, e1, S1, v2, l2, e2, S2, h1, h2, h3, h4, h5, h6, h7, h8, h9, h10, h11⟩ := h
  exact ⟨v2, l2, e2, S2, v1, l1, e1, S1, h2, h1, fun k q q' => h3 k q' q, h5, h4, fun q => h6 q.symm, ⟨h7.2, h7.1⟩, fun k q => ⟨(h8 k q).1, (h8 k q).2.2.1, (h8 k q).2.1, (h8 k q).2.2.2.2, (h8 k q).2.2.2.1⟩, h9, h10, h11⟩
theorem PInv.last {w : World} {F : Nat → Prop} {b1 r1 b2 r2 o M : Nat} {wr : World} (h : PInv w F b1 r1 b2 r2 o M wr) : Blk wr o #[.int .i64 5, .int .i64 0, .slice none 0 0, .string ⟨#[]⟩] 39 := by
  obtain ⟨v1, l1, e1, S1, v2, l2, e2, S2, h1, h2, h3, h4, h5, h6, h7, h8, h9, h10, h11⟩ := h
  exact h11
theorem PInv.bel {w : World} {F : Nat → Prop} {b1 r1 b2 r2 o M : Nat} {wr : World} (h : PInv w F b1 r1 b2 r2 o M wr) : Below w.heap.size w wr := by
  obtain ⟨v1, l1, e1, S1, v2, l2, e2, S2, h1, h2, h3, h4, h5, h6, h7, h8, h9, h10, h11⟩ := h
  exact h9
theorem wl_len2 (l : List Int) (e err : Int) (out : List Int) : (wl l e err out).length ≤ l.length + out.length := by
  unfold wl; split
  · split <;> simp
  · omega
theorem sw_size (S : ByteArray) (err : Int) (out : List Int) : (sw S err out).size ≤ S.size + out.length := by
  unfold sw; split
  · rw [ByteArray.size_append, strOfNums_size]; omega
  · omega
theorem PInv.step {w : World} {F : Nat → Prop} {b1 r1 b2 r2 o M : Nat} {wr : World} (h : PInv w F b1 r1 b2 r2 o M wr) (hM : M ≤ 100000000000000) (KD N : Int) (p : Option Addr) (L : List Int) (c : Nat) (T : ByteArray) (hL : Inl wr p L) (hll : L.length ≤ 1000000000) (hLb : ∀ z ∈ L, z ≤ 9223372036854775807) (hpl : 0 < L.length → ∀ k o, p = some ⟨k, o, none⟩ → k < w.heap.size ∨ F k) (hT : T.size ≤ 1000000000) (M' : Nat) (hM' : M + (9 + 8 * L.length + T.size) ≤ M') :
    Calls Try.prog 17 #[.pointer (some ⟨b1, 0, none⟩), .pointer (some ⟨r1, 0, none⟩), .agg #[.int .i64 KD, .int .i64 N, .slice p L.length c, .string T]] wr fun ev w' => ev = .returned (.bool true) ∧ PInv w F b1 r1 b2 r2 o M' w' := by
  obtain ⟨v1, l1, e1, S1, v2, l2, e2, S2, h1, h2, h3, h4, h5, h6, h7, h8, h9, h10, h11⟩ := h
  have fpl : ∀ {b r v l e S} {k : Nat}, WB wr w.heap.size b r v l e S → Fp b v k → w.heap.size ≤ k := fun q hk => by
    rcases hk with rfl | hk
    · exact q.wt.2.2
    · exact (q.wt.2.1.lt _ hk).1
  refine (writes_any wr w.heap.size b1 r1 v1 l1 e1 S1 h1.1 h1.2.1 (by omega) (by omega) KD N p L c T hL hll hLb (fun h0 k o' q => ?_) hT).mono ?_
  · rcases hpl h0 k o' q with hk | hk
    · exact ⟨Nat.lt_of_lt_of_le hk h9.size, fun q => by have := fpl h1.1 q; omega, by omega⟩
    · exact ⟨(h8 k hk).1, (h8 k hk).2.1, (h8 k hk).2.2.2.1⟩
  · rintro ev w' ⟨rfl, err, out, ho, v', g1, g2, g3, g4⟩
    have nw : ∀ k, k < wr.heap.size → ¬ Fp b1 v1 k → ¬ Fp b1 v' k := fun k hk hn q => by
      rcases q with q | q
      · exact hn (.inl q)
      · rcases g4 k q with q | q
        · exact hn (.inr q)
        · omega
    have hr2 := h2.1.rt.lt
    have a1 := wl_len2 l1 e1 err out
    have a2 := sw_size S1 err out
    refine ⟨rfl, v', _, _, _, v2, l2, e2, S2, ⟨⟨g1, g2, nw r1 h1.1.rt.lt h1.1.nr, Nat.le_trans h1.1.lo g3.size⟩, h1.2.1.step err out, by omega, by omega⟩, ⟨⟨h2.1.wt.only g3 (fun k hk q => ?_), h2.1.rt.only g3 (fun q => ?_), h2.1.nr, Nat.le_trans h2.1.lo g3.size⟩, h2.2.1, by omega, by omega⟩, fun k hk hk2 => ?_, nw r2 hr2 h4, h5, h6, h7, fun k hk => ⟨Nat.lt_of_lt_of_le (h8 k hk).1 g3.size, nw k (h8 k hk).1 (h8 k hk).2.1, (h8 k hk).2.2⟩, ?_, h10, h11.only g3 (fun q => ?_)⟩
    · rcases q with q | rfl
      · exact h3 k q hk
      · exact h5 hk
    · rcases q with q | q
      · exact h4 q
      · exact h6 q.symm
    · exact nw k (h2.1.fp hk2) (fun q => h3 k q hk2) hk
    · exact h9.trans (g3.below h9.size (fun k hk q => by
        rcases q with q | q
        · have := fpl h1.1 q; omega
        · omega))
    · rcases q with q | q
      · exact (h8 o h10).2.1 q
      · exact (h8 o h10).2.2.2.1 q
end Go.Proofs.Ytkmgbicacbalfaa
