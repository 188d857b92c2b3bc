import Derived.Test.YtkmgbicacbalfabDoorThs
namespace Go.Proofs.YtkmgbicacbalfabDoor
open Go.RowKit
/-- The Writer has laid these down, and nothing was wrong. -/
def TW (w : World) (l : List Int) (wr : World) : Prop := ∃ v, Wtr wr w.heap.size w.heap.size v l 0 ∧ Below w.heap.size w wr
theorem TW.bel {w wr : World} {l : List Int} (h : TW w l wr) : Below w.heap.size w wr := by obtain ⟨_, _, h⟩ := h; exact h
theorem TW.below {w wr w2 : World} {l : List Int} (h : TW w l wr) (hB : Below wr.heap.size wr w2) : TW w l w2 := by
  obtain ⟨v, h1, h2⟩ := h
  exact ⟨v, h1.only (Only.of_below (P := fun _ => False) hB) (fun _ _ q => q), h2.trans (hB.mono h2.size)⟩
theorem TW.num {w W wr : World} {l : List Int} (h : TW w l W) (hB : Below W.heap.size W wr) (N : Nat) (h1 : 1 ≤ N) (h8 : N ≤ 8) (L : List Int) (hf : ∀ z ∈ L, fitsP z N) (p : Option Addr) (c : Nat) (hL : Inl wr p L) (hp : ∀ k o, p = some ⟨k, o, none⟩ → W.heap.size ≤ k) (hsz : l.length + 8 * L.length ≤ 140737488355328) :
    Calls Tryd.prog 9 #[.pointer (some ⟨w.heap.size, 0, none⟩), .int .i64 (N : Int), .slice p L.length c] wr fun ev w' => ev = .returned (.tuple #[]) ∧ TW w (l ++ outN N L) w' := by
  obtain ⟨v, g1, g2⟩ := h
  have hw : Wtr wr w.heap.size w.heap.size v l 0 := g1.only (Only.of_below (P := fun _ => False) hB) (fun _ _ q => q)
  have hb : Below w.heap.size w wr := g2.trans (hB.mono g2.size)
  refine (numR hw hb.size N h1 h8 L hf p c hL (fun k o e q => ?_) hsz).mono ?_
  · have := hp k o e
    rcases q with rfl | q
    · have := g1.lt; omega
    · have := (g1.2.1.lt k q).2; omega
  · rintro ev w' ⟨rfl, hP⟩
    exact ⟨rfl, WPost.keep hw hb hP⟩
theorem TW.var {w wr : World} {l : List Int} (h : TW w l wr) (n : Int) (h0 : 0 ≤ n) (hn : n ≤ 9223372036854775807) (hsz : l.length + 9 ≤ 140737488355328) :
    Calls Tryd.prog 11 #[.pointer (some ⟨w.heap.size, 0, none⟩), .int .i64 n] wr fun ev w' => ev = .returned (.tuple #[]) ∧ TW w (l ++ digN n.toNat) w' := by
  obtain ⟨v, hw, hb⟩ := h
  have := var_any wr w.heap.size w.heap.size v l 0 hw hb.size n hn hsz
  rw [if_neg (by omega), wl_good, we_good] at this
  refine this.mono ?_
  rintro ev w' ⟨rfl, hP⟩
  exact ⟨rfl, WPost.keep hw hb hP⟩
theorem TW.raw {w wr : World} {l : List Int} (h : TW w l wr) (T : ByteArray) (hsz : l.length + T.size ≤ 140737488355328) :
    Calls Tryd.prog 13 #[.pointer (some ⟨w.heap.size, 0, none⟩), .string T] wr fun ev w' => ev = .returned (.tuple #[]) ∧ TW w (l ++ nums T) w' := by
  obtain ⟨v, hw, hb⟩ := h
  have := raw_any wr w.heap.size w.heap.size v l 0 hw hb.size T hsz
  rw [wl_good] at this
  refine this.mono ?_
  rintro ev w' ⟨rfl, hP⟩
  exact ⟨rfl, WPost.keep hw hb hP⟩
theorem TW.text {w wr : World} {l : List Int} (h : TW w l wr) (T : ByteArray) (hT : T.size ≤ 300) (hsz : l.length + 9 + T.size ≤ 140737488355328) :
    Calls Tryd.prog 14 #[.pointer (some ⟨w.heap.size, 0, none⟩), .string T, .int .i64 300] wr fun ev w' => ev = .returned (.tuple #[]) ∧ TW w (l ++ (digN T.size ++ nums T)) w' := by
  obtain ⟨v, hw, hb⟩ := h
  have := text_any wr w.heap.size w.heap.size v l 0 hw hb.size T 300 hsz
  rw [errX, if_neg (by decide), if_neg (by omega), wl_good, we_good] at this
  refine this.mono ?_
  rintro ev w' ⟨rfl, hP⟩
  exact ⟨rfl, WPost.keep hw hb hP⟩
theorem TW.done {w wr : World} {l : List Int} (h : TW w l wr) :
    Calls Tryd.prog 15 #[.pointer (some ⟨w.heap.size, 0, none⟩)] wr fun ev w' => ev = .returned (.tuple #[.string (strOfNums l), .int .i64 0]) ∧ Below w.heap.size w w' := by
  obtain ⟨v, hw, hb⟩ := h
  refine (done_any wr w.heap.size w.heap.size v l 0 hw).mono ?_
  rintro ev w' ⟨rfl, q⟩
  exact ⟨rfl, hb.trans (q.mono hb.size)⟩
theorem outN_cons (N : Nat) (z : Int) (L : List Int) : outN N (z :: L) = numB z N ++ outN N L := rfl
theorem outN_drop (N : Nat) (L : List Int) (k : Nat) (h : k < L.length) : outN N (L.drop k) = numB (L.getD k 0) N ++ outN N (L.drop (k + 1)) := by
  rw [List.drop_eq_getElem_cons h, outN_cons]
  congr 2
  rw [List.getD_eq_getElem?_getD, List.getElem?_eq_getElem h]
  rfl
theorem getD_mem (L : List Int) (k : Nat) (h : k < L.length) : L.getD k 0 ∈ L := by
  rw [List.getD_eq_getElem?_getD, List.getElem?_eq_getElem h]
  exact List.getElem_mem h
theorem Bym.right {a b : List Int} (h : Bym (a ++ b)) : Bym b := fun x hx => h x (List.mem_append.2 (.inr hx))
end Go.Proofs.YtkmgbicacbalfabDoor
