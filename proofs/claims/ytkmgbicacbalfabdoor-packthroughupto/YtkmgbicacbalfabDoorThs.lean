import Derived.Test.YtkmgbicacbalfabDoorThr
namespace Go.Proofs.YtkmgbicacbalfabDoor
open Go.RowKit
/-- A Reader of tot bytes that has these left, and nothing wrong. -/
def RSL (rest : List Int) (tot : Nat) : RSt := ⟨strOfNums rest, (tot : Int) - (rest.length : Int), 0⟩
theorem RSL.okl (rest : List Int) (tot : Nat) (h : rest.length ≤ tot) (ht : tot ≤ 9223372036854775807) : (RSL rest tot).ok 9223372036854775807 := by
  refine ⟨?_, ?_⟩
  · show 0 ≤ (tot : Int) - (rest.length : Int)
    omega
  · show (tot : Int) - (rest.length : Int) + ((strOfNums rest).size : Int) ≤ ((9223372036854775807 : Nat) : Int)
    rw [strOfNums_size]
    omega
theorem RSL.step (pre rest : List Int) (tot c : Nat) (E : Int) (hE : E = 0) (hc : c = pre.length) (h : rRest (strOfNums (pre ++ rest)) 0 c = strOfNums rest) : stepR (RSL (pre ++ rest) tot) E c = RSL rest tot := by
  subst hE
  unfold stepR RSL
  rw [if_pos rfl]
  simp only [h, rTak, if_true]
  rw [List.length_append, hc]
  congr 1
  omega
/-- The Reader at b, and what was there ahead of all. -/
structure TI (w : World) (b : Nat) (rest : List Int) (tot : Nat) (wr : World) : Prop where
  rd : Rds wr b (RSL rest tot)
  ety : ETy wr
  bel : Below w.heap.size w wr
  lo : w.heap.size ≤ b
theorem TI.below {w wr w2 : World} {b tot : Nat} {rest : List Int} (h : TI w b rest tot wr) (hb : Below wr.heap.size wr w2) : TI w b rest tot w2 :=
  ⟨h.rd.only (Only.of_below (P := fun _ => False) hb) id, h.ety.below hb h.ety.lt, h.bel.trans (hb.mono h.bel.size), h.lo⟩
theorem TI.alloc {w wr : World} {b tot : Nat} {rest : List Int} (h : TI w b rest tot wr) (o : Obj) : TI w b rest tot (wr.alloc o) := h.below ((Below.refl _ _).alloc (Nat.le_refl _) o)
theorem TI.read {w wr w2 : World} {b tot : Nat} {rest rest2 : List Int} (h : TI w b rest tot wr) (hr : Rds w2 b (RSL rest2 tot)) (ho : Only (fun k => k = b) wr w2) : TI w b rest2 tot w2 :=
  ⟨hr, h.ety.only ho (fun q => h.rd.ne h.ety q.symm), h.bel.trans (ho.below h.bel.size (fun k hk q => by have q : k = b := q; have := h.lo; omega)), h.lo⟩
theorem thNum {w wr : World} {b tot : Nat} (n : Int) (k : Nat) (rest : List Int) (h : TI w b (numB n k ++ rest) tot wr) (hb : Bym (numB n k ++ rest)) (hl : (numB n k ++ rest).length ≤ tot) (ht : tot ≤ 9223372036854775807) (h1 : 1 ≤ k) (h8 : k ≤ 8) (hf : fitsP n k) (hn : n ≤ 9223372036854775807) :
    Calls Tryd.prog 17 #[.pointer (some ⟨b, 0, none⟩), .int .i64 (k : Int)] wr fun ev w' => ev = .returned (.int .i64 n) ∧ TI w b rest tot w' ∧ Only (fun k => k = b) wr w' := by
  obtain ⟨e1, e2, e3⟩ := rd_num n k rest hb.bytes h1 h8 hf hn
  refine (numS wr b _ h.rd h.ety (RSL.okl _ _ hl ht) (k : Int)).mono ?_
  rintro ev w' ⟨rfl, q1, q2⟩
  refine ⟨?_, h.read ?_ q2, q2⟩
  · show Ending.returned (.int .i64 (if (0 : Int) = 0 then numV (k : Int) (strOfNums (numB n k ++ rest)) else 0)) = _
    rw [if_pos rfl, e2]
  · have e : stepR (RSL (numB n k ++ rest) tot) (numE (k : Int) (strOfNums (numB n k ++ rest))) ((k : Int).toNat) = RSL rest tot := by
      rw [Int.toNat_natCast]
      exact RSL.step _ _ _ k _ e1 (numB_len n k).symm e3
    rw [← e]
    exact q1
theorem thVar {w wr : World} {b tot : Nat} (D : Nat) (rest : List Int) (h : TI w b (digN D ++ rest) tot wr) (hb : Bym (digN D ++ rest)) (hl : (digN D ++ rest).length ≤ tot) (ht : tot ≤ 9223372036854775807) (hD : D ≤ 9223372036854775807) :
    Calls Tryd.prog 18 #[.pointer (some ⟨b, 0, none⟩)] wr fun ev w' => ev = .returned (.int .i64 (D : Int)) ∧ TI w b rest tot w' ∧ Only (fun k => k = b) wr w' := by
  obtain ⟨e1, e2, e3, e4⟩ := rd_var D rest hb.bytes hD
  refine (varS wr b _ h.rd h.ety (RSL.okl _ _ hl ht)).mono ?_
  rintro ev w' ⟨rfl, q1, q2⟩
  refine ⟨?_, h.read ?_ q2, q2⟩
  · show Ending.returned (.int .i64 (if (0 : Int) = 0 then ((varV (strOfNums (digN D ++ rest)) : Nat) : Int) else 0)) = _
    rw [if_pos rfl, e2]
  · have e : stepR (RSL (digN D ++ rest) tot) (varE (strOfNums (digN D ++ rest))) (varC (strOfNums (digN D ++ rest))) = RSL rest tot := by
      rw [e3]
      exact RSL.step _ _ _ _ _ e1 rfl e4
    rw [← e]
    exact q1
theorem thRaw {w wr : World} {b tot : Nat} (T : ByteArray) (rest : List Int) (h : TI w b (nums T ++ rest) tot wr) (hl : (nums T ++ rest).length ≤ tot) (ht : tot ≤ 9223372036854775807) :
    Calls Tryd.prog 19 #[.pointer (some ⟨b, 0, none⟩), .int .i64 (T.size : Int)] wr fun ev w' => ev = .returned (.string T) ∧ TI w b rest tot w' ∧ Only (fun k => k = b) wr w' := by
  obtain ⟨e1, e2, e3⟩ := rd_raw T rest
  refine (rawS wr b _ h.rd h.ety (RSL.okl _ _ hl ht) (T.size : Int)).mono ?_
  rintro ev w' ⟨rfl, q1, q2⟩
  refine ⟨?_, h.read ?_ q2, q2⟩
  · show Ending.returned (.string (if (0 : Int) = 0 then rawV (T.size : Int) (strOfNums (nums T ++ rest)) else ⟨#[]⟩)) = _
    rw [if_pos rfl, e2]
  · have e : stepR (RSL (nums T ++ rest) tot) (rawE (T.size : Int) (strOfNums (nums T ++ rest))) ((T.size : Int).toNat) = RSL rest tot := by
      rw [Int.toNat_natCast]
      exact RSL.step _ _ _ _ _ e1 (nums_len T).symm e3
    rw [← e]
    exact q1
theorem thText {w wr : World} {b tot : Nat} (T : ByteArray) (rest : List Int) (h : TI w b ((digN T.size ++ nums T) ++ rest) tot wr) (hb : Bym ((digN T.size ++ nums T) ++ rest)) (hl : ((digN T.size ++ nums T) ++ rest).length ≤ tot) (ht : tot ≤ 9223372036854775807) (hT : T.size ≤ 300) :
    Calls Tryd.prog 20 #[.pointer (some ⟨b, 0, none⟩), .int .i64 300] wr fun ev w' => ev = .returned (.string T) ∧ TI w b rest tot w' ∧ Only (fun k => k = b) wr w' := by
  obtain ⟨e1, e2, e3⟩ := rd_text T rest hb.bytes hT
  have hb2 : Bytes (digN T.size ++ (nums T ++ rest)) := by rw [← List.append_assoc]; exact hb.bytes
  obtain ⟨_, v2, v3, _⟩ := rd_var T.size (nums T ++ rest) hb2 (by omega)
  refine (textS wr b _ h.rd h.ety (RSL.okl _ _ hl ht) 300).mono ?_
  rintro ev w' ⟨rfl, q1, q2⟩
  refine ⟨?_, h.read ?_ q2, q2⟩
  · show Ending.returned (.string (if (0 : Int) = 0 then textV 300 (strOfNums ((digN T.size ++ nums T) ++ rest)) else ⟨#[]⟩)) = _
    rw [if_pos rfl, e2]
  · have e : stepR (RSL ((digN T.size ++ nums T) ++ rest) tot) (textE 300 (strOfNums ((digN T.size ++ nums T) ++ rest))) (varC (strOfNums ((digN T.size ++ nums T) ++ rest)) + varV (strOfNums ((digN T.size ++ nums T) ++ rest))) = RSL rest tot := by
      refine RSL.step _ _ _ _ _ e1 ?_ e3
      rw [List.append_assoc, v2, v3, List.length_append, nums_len]
    rw [← e]
    exact q1
theorem thDone {w wr : World} {b tot : Nat} (h : TI w b [] tot wr) :
    Calls Tryd.prog 21 #[.pointer (some ⟨b, 0, none⟩)] wr fun ev w' => ev = .returned (.tuple #[.int .i64 0, .int .i64 (tot : Int)]) ∧ Below w.heap.size w w' := by
  refine (rdone_any wr b _ _ _ h.rd).mono ?_
  rintro ev w' ⟨rfl, q⟩
  refine ⟨?_, h.bel.trans (q.mono h.bel.size)⟩
  show Ending.returned (.tuple #[.int .i64 (doneE (strOfNums []) 0), .int .i64 ((tot : Int) - (([] : List Int).length : Int))]) = _
  have e1 : doneE (strOfNums []) 0 = 0 := by
    unfold doneE
    rw [if_neg]
    rw [strOfNums_size]
    simp
  rw [e1]
  simp
theorem TI.start {w x wr : World} {L : List Int} (hg : ETy wr) (hb : Below w.heap.size w x) (hR : Rdr wr x.heap.size (strOfNums L) 0 0) (hx : Below x.heap.size x wr) : TI w x.heap.size L L.length wr := by
  refine ⟨?_, hg, hb.trans (hx.mono hb.size), hb.size⟩
  have e : RSL L L.length = ⟨strOfNums L, 0, 0⟩ := by
    unfold RSL
    congr 1
    omega
  rw [e]
  exact hR
end Go.Proofs.YtkmgbicacbalfabDoor
