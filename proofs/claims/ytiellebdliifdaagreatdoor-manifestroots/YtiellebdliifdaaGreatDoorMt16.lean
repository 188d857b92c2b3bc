import Derived.Test.YtiellebdliifdaaGreatDoorMt15
import Derived.Test.YtiellebdliifdaaGreatDoorMt03
import Derived.Test.YtiellebdliifdaaGreatDoorMt04
namespace Go.Proofs.YtiellebdliifdaaGreatDoor
open Go.RowKit
theorem be_numBt : ∀ (k : Nat) (n : Int), 0 ≤ n → n / 2 ^ (8 * k) = 0 → beN (numB n k) = n
 | 0, n, h0, h => by
  have : n = 0 := by simpa using h
  subst this
  rfl
 | k + 1, n, h0, h => by
  have e : n = 256 * (n / 256) + n % 256 := by omega
  have hq : n / 256 / 2 ^ (8 * k) = 0 := by
   rw [show 8 * (k + 1) = 8 + 8 * k by omega, Int.pow_add, ← Int.ediv_ediv_of_nonneg (by decide)] at h
   exact h
  conv => lhs; rw [e]
  rw [numB_snoc _ _ _ (by omega) (by omega), beN_snoc, be_numBt k (n / 256) (by omega) hq]
  omega
theorem ext_right (a b : ByteArray) : (a ++ b).extract a.size (a ++ b).size = b := by
 apply nums_inj
 rw [nums_tail, nums_app, ← nums_len a, List.drop_left]
theorem rd_num (n : Int) (k : Nat) (rest : List Int) (hb : Bytes (numB n k ++ rest)) (h1 : 1 ≤ k) (h8 : k ≤ 8) (hf : fitsP n k) (hn : n ≤ 9223372036854775807) :
  numE (k : Int) (strOfNums (numB n k ++ rest)) = 0 ∧ numV (k : Int) (strOfNums (numB n k ++ rest)) = n ∧ rRest (strOfNums (numB n k ++ rest)) 0 k = strOfNums rest := by
 have ht : (nums (strOfNums (numB n k ++ rest))).take ((k : Int).toNat) = numB n k := by
  rw [nums_strOfNums _ hb, Int.toNat_natCast]
  have := numB_len n k
  rw [List.take_append_of_le_length (by omega), List.take_of_length_le (by omega)]
 have hE : numE (k : Int) (strOfNums (numB n k ++ rest)) = 0 := by
  rw [numE, if_neg (by omega), if_neg (by rw [strOfNums_size, List.length_append, numB_len]; omega), ht, be_numBt k n hf.1 hf.2, if_neg (by omega)]
 refine ⟨hE, by rw [numV, if_pos hE, ht, be_numBt k n hf.1 hf.2], ?_⟩
 rw [rRest, if_pos rfl, strOfNums_app]
 have := ext_right (strOfNums (numB n k)) (strOfNums rest)
 rw [strOfNums_size, numB_len] at this
 exact this
end Go.Proofs.YtiellebdliifdaaGreatDoor
namespace Go.Proofs.YtiellebdliifdaaGreatDoor
open Go.RowKit
def rs (L : List ByteArray) (A : List (Nat × Nat)) : DSt := ⟨L, L, [], A, 0, false⟩
def natW (l : List Wr1) : List (Nat × ByteArray) := l.map fun x => (x.1.toNat, x.2)
def actW (l : List Wr1) : List (Nat × Nat) := l.map fun x => (0, x.1.toNat)
def OkW (N : Nat) (l : List Wr1) : Prop := ∀ x ∈ l, 0 ≤ x.1 ∧ x.1 < (N : Int) ∧ x.2.size = 256
theorem lay_alive (l : List Wr1) : ∀ (s : DSt), Alive s → OkW s.last.length l → layR s l = (0, ⟨layP s.last (s.pend ++ natW l), layP s.now (natW l), [], s.acts ++ actW l ++ [(1, 0)], 0, false⟩) := by
 induction l with
 | nil =>
  intro s h _
  obtain ⟨a1, a2⟩ := flushA h
  rw [layR, a1, a2, h.1, h.2]
  simp [natW, actW, layP]
 | cons x r ih =>
  intro s h hk
  obtain ⟨x1, x2⟩ := x
  obtain ⟨k1, k2, k3⟩ := hk (x1, x2) (by simp)
  obtain ⟨j, hj⟩ : ∃ j : Nat, x1 = (j : Int) := ⟨x1.toNat, by omega⟩
  subst hj
  obtain ⟨a1, a2⟩ := writeA h j (by omega) x2 k3
  rw [layR, if_pos a1, a2]
  refine (ih { s with now := s.now.set j x2, pend := s.pend ++ [(j, x2)], acts := s.acts ++ [(0, j)] } ⟨h.1, h.2⟩ (fun y hy => hk y (by simp [hy]))).trans ?_
  simp [natW, actW, layP]
theorem lay_rs (L : List ByteArray) (A : List (Nat × Nat)) (l : List Wr1) (h : OkW L.length l) : layR (rs L A) l = (0, rs (layP L (natW l)) (A ++ actW l ++ [(1, 0)])) := by
 rw [lay_alive l (rs L A) ⟨rfl, rfl⟩ h]
 rfl
theorem fill_ok (l : List Wr1) (h : GoodL l) : OkW 128 (filled l) := fun x hx => by
 rcases List.mem_append.1 hx with hx | hx
 ·have := h.free x hx
  exact ⟨by omega, by omega, h.size x hx⟩
 ·have := List.eq_of_mem_replicate hx
  subst this
  exact ⟨by decide, by decide, zero256_size⟩
theorem rec_ok (l : List Wr1) (h : GoodL l) : OkW 128 (recL (filled l)) := fun x hx => by
 obtain ⟨i, hi, rfl⟩ := List.mem_map.1 hx
 have hi : i < (filled l).length := List.mem_range.1 hi
 have h16 := filled_len l h.len
 have := fill_ok l h ((filled l).getD i wr0) (by rw [getD_of hi]; exact List.getElem_mem hi)
 refine ⟨?_, ?_, this.2.2⟩
 ·show (0 : Int) ≤ ((2 + i : Nat) : Int); omega
 ·show ((2 + i : Nat) : Int) < 128; omega
theorem secs16 (l : List Wr1) (h : GoodL l) : (secs (filled l)).length = 16 := by simp [secs, filled_len l h.len]
theorem head_ok (N : Nat) (hN : 1 < N) (n : Nat) (H : List Int) (hH : H.length ≤ 60) : OkW N [(1, headB n H)] := fun x hx => by
 simp at hx
 subst hx
 exact ⟨by show (0 : Int) ≤ 1; decide, by show (1 : Int) < (N : Int); omega, headB_size n H hH⟩
def comL (L : List ByteArray) (nx : Nat) (l : List Wr1) : List ByteArray := layP (layP (layP (layP L (natW (recL (filled l)))) [(1, headB nx (secs (filled l)))]) (natW (filled l))) [(1, headB nx [])]
def comA (l : List Wr1) : List (Nat × Nat) := actW (recL (filled l)) ++ [(1, 0)] ++ ([(0, 1)] ++ [(1, 0)]) ++ (actW (filled l) ++ [(1, 0)]) ++ ([(0, 1)] ++ [(1, 0)])
theorem comL_len (L : List ByteArray) (nx : Nat) (l : List Wr1) : (comL L nx l).length = L.length := by simp only [comL, layP_len]
theorem commit_rs (L : List ByteArray) (A : List (Nat × Nat)) (nx : Nat) (l : List Wr1) (hL : L.length = 128) (h : GoodL l) : commitR (rs L A) nx false l = ⟨0, rs (comL L nx l) (A ++ comA l), (nx + 1) % 4294967296, false⟩ := by
 have hr : refE l ((rs L A).last.length : Int) = 0 := by
  show refE l (L.length : Int) = 0
  rw [hL]
  exact h.ref
 have e1 := lay_rs L A (recL (filled l)) (by rw [hL]; exact rec_ok l h)
 have e2 := lay_rs (layP L (natW (recL (filled l)))) (A ++ actW (recL (filled l)) ++ [(1, 0)]) [(1, headB nx (secs (filled l)))] (head_ok _ (by rw [layP_len, hL]; decide) nx _ (by rw [secs16 l h]; decide))
 have e3 := lay_rs (layP (layP L (natW (recL (filled l)))) (natW [(1, headB nx (secs (filled l)))])) ((A ++ actW (recL (filled l)) ++ [(1, 0)]) ++ actW [(1, headB nx (secs (filled l)))] ++ [(1, 0)]) (filled l) (by rw [layP_len, layP_len, hL]; exact fill_ok l h)
 have e4 := lay_rs (layP (layP (layP L (natW (recL (filled l)))) (natW [(1, headB nx (secs (filled l)))])) (natW (filled l))) (((A ++ actW (recL (filled l)) ++ [(1, 0)]) ++ actW [(1, headB nx (secs (filled l)))] ++ [(1, 0)]) ++ actW (filled l) ++ [(1, 0)]) [(1, headB nx [])] (head_ok _ (by rw [layP_len, layP_len, layP_len, hL]; decide) nx _ (by simp))
 have hR : runsR (rs L A) (runsOf nx l) = (0, rs (comL L nx l) (A ++ comA l)) := by
  rw [runsOf, runsR, e1, if_pos rfl, runsR]
  simp only
  rw [e2, if_pos rfl, runsR]
  simp only
  rw [e3, if_pos rfl, runsR]
  simp only
  rw [e4, if_pos rfl, runsR]
  simp only [comL, comA]
  congr 2
  simp only [List.append_assoc]
  rfl
 rw [commitR, hr, if_neg (by simp), if_neg (by decide), hR, if_pos rfl]
theorem headB_make (n : Nat) (H : List Int) (hn : n < 4294967296) (hH : H.length ≤ 60) : errM 2 (n : Int) (strOfNums (headL H)).size = 0 ∧ headB n H = makeB 2 (n : Int) (strOfNums (headL H)) := by
 have hl := headL_len H hH
 have hE : errM 2 (n : Int) (strOfNums (headL H)).size = 0 := by
  rw [errM, if_neg, if_neg (by rw [strOfNums_size]; omega)]
  rintro (q | q)
  ·exact q (fits1j 2 (by decide) (by decide))
  ·exact q (fits4j _ (by omega) (by omega))
 refine ⟨hE, ?_⟩
 rw [makeB, if_pos hE, nums_strOfNums _ (headL_bytes H)]
 rfl
theorem rd_one (n : Int) (k : Nat) (rest : List Int) (t : Int) (hb : Bytes (numB n k ++ rest)) (h1 : 1 ≤ k) (h8 : k ≤ 8) (hf : fitsP n k) (hn : n ≤ 9223372036854775807) : rdV ⟨strOfNums (numB n k ++ rest), t, 0⟩ (k : Int) = n ∧ rdS ⟨strOfNums (numB n k ++ rest), t, 0⟩ (k : Int) = ⟨strOfNums rest, t + (k : Int), 0⟩ := by
 obtain ⟨e1, e2, e3⟩ := rd_num n k rest hb h1 h8 hf hn
 refine ⟨by rw [rdV, if_pos rfl, e2], ?_⟩
 rw [rdS, stepR, if_pos rfl, e1, Int.toNat_natCast, e3]
 congr 1
theorem done_nil : doneE (strOfNums []) 0 = 0 := by
 unfold doneE
 rw [if_neg]
 rw [strOfNums_size]
 simp
theorem rhp_clear (n : Nat) (hn : n < 4294967296) (size n' : Int) (H : List Int) (ok : Bool) (h : RHP (headB n []) size n' H ok) : n' = (n : Int) ∧ H = [] ∧ ok = true := by
 obtain ⟨hE, hM⟩ := headB_make n [] hn (by simp)
 obtain ⟨p1, p2, p3, p4⟩ := make_parse 2 (n : Int) (strOfNums (headL [])) hE
 rw [← hM] at p1 p2 p3 p4
 have hb1 : numB 0 1 = [0] := num1 0 (by decide) (by decide)
 obtain ⟨v1, v2⟩ := rd_one 0 1 [] 0 (by rw [hb1]; exact bytes_of (fun x hx => by simp at hx; omega)) (by decide) (by decide) (fits1j 0 (by decide) (by decide)) (by decide)
 have er : rs0 (headB n []) = ⟨strOfNums (numB 0 1 ++ []), 0, 0⟩ := by rw [rs0, p4, headL_nil, hb1]; rfl
 rw [← er] at v1 v2
 rcases h with ⟨q, _⟩ | ⟨_, hn', h⟩
 ·exact absurd ⟨p1, p2⟩ q
 ·rcases h with ⟨q, _⟩ | ⟨_, rfl, q⟩
  ·rw [show ((1 : Nat) : Int) = 1 from rfl] at v1
   rw [v1] at q
   cases q
  ·refine ⟨hn'.trans p3, rfl, ?_⟩
   rw [show ((1 : Nat) : Int) = 1 from rfl] at v1 v2
   rw [q, v2, v1]
   simp [done_nil]
end Go.Proofs.YtiellebdliifdaaGreatDoor
