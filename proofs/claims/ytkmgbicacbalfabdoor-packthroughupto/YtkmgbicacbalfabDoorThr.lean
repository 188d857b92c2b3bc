import Derived.Test.YtkmgbicacbalfabDoorThq
namespace Go.Proofs.YtkmgbicacbalfabDoor
open Go.RowKit
theorem numR {wr : World} {base b : Nat} {v : Value} {l : List Int} (h : Wtr wr base b v l 0) (hb : base ≤ wr.heap.size) (N : Nat) (h1 : 1 ≤ N) (h8 : N ≤ 8) (L : List Int) (hf : ∀ z ∈ L, fitsP z N) (p : Option Addr) (c : Nat) (hL : Inl wr p L) (hp : ∀ k o, p = some ⟨k, o, none⟩ → ¬ Fp b v k) (hsz : l.length + 8 * L.length ≤ 140737488355328) :
    Calls Tryd.prog 9 #[.pointer (some ⟨b, 0, none⟩), .int .i64 (N : Int), .slice p L.length c] wr fun ev w' => ev = .returned (.tuple #[]) ∧ WPost base b v (l ++ outN N L) 0 wr w' := by
  have hE : errN (N : Int) L = 0 := by rw [errN, if_neg (by omega), Int.toNat_natCast, if_pos hf]
  have := num_any wr base b v l 0 h hb (N : Int) L p c (by
    rcases hL with q | ⟨lb, lo, e, q1, q2⟩
    · exact .inl q
    · exact .inr ⟨lb, lo, e, q1, hp lb lo e, q2⟩) hsz
  rw [hE, Int.toNat_natCast, wl_good] at this
  exact this
theorem WPost.keep {w x x3 : World} {v : Value} {l l' : List Int} {e : Int} (h : Wtr x w.heap.size w.heap.size v l e) (hb : Below w.heap.size w x) (hP : WPost w.heap.size w.heap.size v l' 0 x x3) : ∃ v', Wtr x3 w.heap.size w.heap.size v' l' 0 ∧ Below w.heap.size w x3 := by
  obtain ⟨v', h1, h2, _⟩ := hP
  refine ⟨v', h1, hb.trans (h2.below hb.size (fun k hk q => ?_))⟩
  rcases q with q | q
  · omega
  · have := (h.2.1.lt k q).1
    omega
/-- The steps of a script, as they lie in memory. -/
structure Ops3 (w : World) (pa : Option Addr) (len : Nat) (KD NN : Nat → Int) (PP : Nat → Option Addr) (LN CC : Nat → Nat) (ZZ : Nat → Nat → Int) (TT : Nat → ByteArray) : Prop where
  cell : ∀ i, i < len → ∃ pb po, pa = some ⟨pb, po, none⟩ ∧ pb < w.heap.size ∧ w.cell? ⟨pb, po + i * 4, none⟩ = some (.int .i64 (KD i)) ∧ w.cell? ⟨pb, po + i * 4 + 1, none⟩ = some (.int .i64 (NN i)) ∧ w.cell? ⟨pb, po + i * 4 + 2, none⟩ = some (.slice (PP i) (LN i) (CC i)) ∧ w.cell? ⟨pb, po + i * 4 + 3, none⟩ = some (.string (TT i))
  num : ∀ i, i < len → I64 (KD i) ∧ I64 (NN i)
  list : ∀ i, i < len → ∀ j, j < LN i → ∃ b o, PP i = some ⟨b, o, none⟩ ∧ b < w.heap.size ∧ w.cell? ⟨b, o + j, none⟩ = some (.int .i64 (ZZ i j)) ∧ I64 (ZZ i j)
theorem Ops3.good {w : World} {pa : Option Addr} {len : Nat} {KD NN : Nat → Int} {PP : Nat → Option Addr} {LN CC : Nat → Nat} {ZZ : Nat → Nat → Int} {TT : Nat → ByteArray} (h : Ops3 w pa len KD NN PP LN CC ZZ TT) (i : Nat) (hi : i < len) :
    ∃ (K N : Nat) (L : List Int) (T : ByteArray), GoodP K N L T ∧ gOut K N L T = gOut (1 + pickP (KD i) 4) (1 + pickP (NN i) 8) (gL (1 + pickP (KD i) 4) (1 + pickP (NN i) 8) (ZZ i) (min (LN i) 6)) (gS (TT i)) ∧
      ∀ W, Below w.heap.size w W → Calls Tryd.prog 10 #[.agg #[.int .i64 (KD i), .int .i64 (NN i), .slice (PP i) (LN i) (CC i), .string (TT i)]] W fun e w' => ∃ p c, Inl w' p L ∧ (∀ k o, p = some ⟨k, o, none⟩ → W.heap.size ≤ k) ∧ e = .returned (.agg #[.int .i64 (K : Int), .int .i64 (N : Int), .slice p L.length c, .string T]) ∧ Below W.heap.size W w' := by
  refine ⟨_, _, _, _, good_p (KD i) (NN i) (ZZ i) (TT i) (min (LN i) 6) (by omega), rfl, fun W hb => ?_⟩
  refine (good_any W (KD i) (NN i) (h.num i hi).1 (h.num i hi).2 (PP i) (LN i) (CC i) (ZZ i) (TT i) (fun j hj => ?_)).mono ?_
  · obtain ⟨b, o, e, h1, h2, h3⟩ := h.list i hi j hj
    exact ⟨b, o, e, Nat.lt_of_lt_of_le h1 hb.size, (hb.cell (p := ⟨b, o + j, none⟩) h1).trans h2, h3⟩
  · rintro ev w' ⟨v, h1, rfl, h2⟩
    have e : min (LN i) 6 = (gL (1 + pickP (KD i) 4) (1 + pickP (NN i) 8) (ZZ i) (min (LN i) 6)).length := (gL_len _ _ _ _).symm
    have h1' : w'.ownsRow W.heap.size 3 1 v (gL (1 + pickP (KD i) 4) (1 + pickP (NN i) 8) (ZZ i) (min (LN i) 6)).length ((gL (1 + pickP (KD i) 4) (1 + pickP (NN i) 8) (ZZ i) (min (LN i) 6)).map (Value.int .i64)) := by rw [← e]; exact h1
    obtain ⟨p, c, rfl, q1, q2⟩ := row_inl h1'
    exact ⟨p, c, q1, q2, rfl, h2⟩
end Go.Proofs.YtkmgbicacbalfabDoor
