import Derived.Test.YtnnehadmnijhjaaGreatDoorMv12
import Derived.Test.YtnnehadmnijhjaaGreatDoorMv06
namespace Go.Proofs.YtnnehadmnijhjaaGreatDoor
open Go.RowKit
/-- A disk that lives, with nothing pending. -/
def rs (L : List ByteArray) (A : List (Nat × Nat)) : DSt := ⟨L, L, [], A, 0, false⟩
def natW (l : List Wr1) : List (Nat × ByteArray) := l.map fun x => (x.1.toNat, x.2)
def actW (l : List Wr1) : List (Nat × Nat) := l.map fun x => (0, x.1.toNat)
def OkW (N : Nat) (l : List Wr1) : Prop := ∀ x ∈ l, 0 ≤ x.1 ∧ x.1 < (N : Int) ∧ x.2.size = 256
theorem lay_alive (l : List Wr1) : ∀ (s : DSt), Alive s → OkW s.last.length l → layR s l = (0, ⟨layP s.last (s.pend ++ natW l), layP s.now (natW l), [], s.acts ++ actW l ++ [(1, 0)], 0, false⟩) := by
  induction l with
  | nil =>
    intro s h _
    obtain ⟨a1, a2⟩ := flushA h
    rw [layR, a1, a2, h.1, h.2]
    simp [natW, actW, layP]
  | cons x r ih =>
    intro s h hk
    obtain ⟨x1, x2⟩ := x
    obtain ⟨k1, k2, k3⟩ := hk (x1, x2) (by simp)
    obtain ⟨j, hj⟩ : ∃ j : Nat, x1 = (j : Int) := ⟨x1.toNat, by omega⟩
    subst hj
    obtain ⟨a1, a2⟩ := writeA h j (by omega) x2 k3
    rw [layR, if_pos a1, a2]
    refine (ih { s with now := s.now.set j x2, pend := s.pend ++ [(j, x2)], acts := s.acts ++ [(0, j)] } ⟨h.1, h.2⟩ (fun y hy => hk y (by simp [hy]))).trans ?_
    simp [natW, actW, layP]
theorem lay_rs (L : List ByteArray) (A : List (Nat × Nat)) (l : List Wr1) (h : OkW L.length l) : layR (rs L A) l = (0, rs (layP L (natW l)) (A ++ actW l ++ [(1, 0)])) := by
  rw [lay_alive l (rs L A) ⟨rfl, rfl⟩ h]
  rfl
theorem head_ok (N : Nat) (hN : 1 < N) (n : Nat) (H : List Int) (hH : H.length ≤ 60) : OkW N [(1, headB n H)] := fun x hx => by
  simp at hx
  subst hx
  exact ⟨by show (0 : Int) ≤ 1; decide, by show (1 : Int) < (N : Int); omega, headB_size n H hH⟩
theorem headB_make (n : Nat) (H : List Int) (hn : n < 4294967296) (hH : H.length ≤ 60) : errM 2 (n : Int) (strOfNums (headL H)).size = 0 ∧ headB n H = makeB 2 (n : Int) (strOfNums (headL H)) := by
  have hl := headL_len H hH
  have hE : errM 2 (n : Int) (strOfNums (headL H)).size = 0 := by
    rw [errM, if_neg, if_neg (by rw [strOfNums_size]; omega)]
    rintro (q | q)
    · exact q (fits1j 2 (by decide) (by decide))
    · exact q (fits4j _ (by omega) (by omega))
  refine ⟨hE, ?_⟩
  rw [makeB, if_pos hE, nums_strOfNums _ (headL_bytes H)]
  rfl
theorem rd_one (n : Int) (k : Nat) (rest : List Int) (t : Int) (hb : Bytes (numB n k ++ rest)) (h1 : 1 ≤ k) (h8 : k ≤ 8) (hf : fitsP n k) (hn : n ≤ 9223372036854775807) : rdV ⟨strOfNums (numB n k ++ rest), t, 0⟩ (k : Int) = n ∧ rdS ⟨strOfNums (numB n k ++ rest), t, 0⟩ (k : Int) = ⟨strOfNums rest, t + (k : Int), 0⟩ := by
  obtain ⟨e1, e2, e3⟩ := rd_num n k rest hb h1 h8 hf hn
  refine ⟨by rw [rdV, if_pos rfl, e2], ?_⟩
  rw [rdS, stepR, if_pos rfl, e1, Int.toNat_natCast, e3]
  congr 1
theorem done_nil : doneE (strOfNums []) 0 = 0 := by
  unfold doneE
  rw [if_neg]
  rw [strOfNums_size]
  simp
theorem rhp_clear (n : Nat) (hn : n < 4294967296) (size n' : Int) (H : List Int) (ok : Bool) (h : RHP (headB n []) size n' H ok) : n' = (n : Int) ∧ H = [] ∧ ok = true := by
  obtain ⟨hE, hM⟩ := headB_make n [] hn (by simp)
  obtain ⟨p1, p2, p3, p4⟩ := make_parse 2 (n : Int) (strOfNums (headL [])) hE
  rw [← hM] at p1 p2 p3 p4
  have hb1 : numB 0 1 = [0] := num1 0 (by decide) (by decide)
  obtain ⟨v1, v2⟩ := rd_one 0 1 [] 0 (by rw [hb1]; exact bytes_of (fun x hx => by simp at hx; omega)) (by decide) (by decide) (fits1j 0 (by decide) (by decide)) (by decide)
  have er : rs0 (headB n []) = ⟨strOfNums (numB 0 1 ++ []), 0, 0⟩ := by rw [rs0, p4, headL_nil, hb1]; rfl
  rw [← er] at v1 v2
  rcases h with ⟨q, _⟩ | ⟨_, hn', h⟩
  · exact absurd ⟨p1, p2⟩ q
  · rcases h with ⟨q, _⟩ | ⟨_, rfl, q⟩
    · rw [show ((1 : Nat) : Int) = 1 from rfl] at v1
      rw [v1] at q
      cases q
    · refine ⟨hn'.trans p3, rfl, ?_⟩
      rw [show ((1 : Nat) : Int) = 1 from rfl] at v1 v2
      rw [q, v2, v1]
      simp [done_nil]
end Go.Proofs.YtnnehadmnijhjaaGreatDoor
