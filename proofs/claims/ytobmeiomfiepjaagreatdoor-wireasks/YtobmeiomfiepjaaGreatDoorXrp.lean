import Derived.Test.YtobmeiomfiepjaaGreatDoorXrd
namespace Go.Proofs.YtobmeiomfiepjaaGreatDoor
open Go.RowKit
set_option maxRecDepth 100000
set_option maxHeartbeats 4000000 in
theorem may_eq1 (te qu vo bl no : Int) (di wr sa da : ByteArray) : mayQ ⟨1, te, qu, vo, bl, no, di, wr, sa, da⟩ = lqB ⟨1, te, qu, vo, bl, no, di, wr, sa, da⟩ := by
  by_cases c0 : 1 ≤ te ∧ te ≤ 8 <;> by_cases c1 : 0 ≤ qu ∧ qu ≤ 65535 <;> simp [mayQ, condQ, onlyQ, lqB, layQ, rqF, eqQ, Req.bare, exq, okF, Prt.nil, fTen, fQuo, Prt.num, c0, c1]
set_option maxHeartbeats 4000000 in
theorem lq_1 (te qu vo bl no : Int) (di wr sa da : ByteArray) (c0 : 1 ≤ te ∧ te ≤ 8) (c1 : 0 ≤ qu ∧ qu ≤ 65535) : lqL ⟨1, te, qu, vo, bl, no, di, wr, sa, da⟩ = numB te 1 ++ (numB qu 2) := by
  simp [lqL, layQ, rqF, exq, okF, byF, Prt.nil, fTen, fQuo, Prt.num, c0, c1]
set_option maxHeartbeats 4000000 in
theorem may_c1 (te qu vo bl no : Int) (di wr sa da : ByteArray) (h : mayQ ⟨1, te, qu, vo, bl, no, di, wr, sa, da⟩ = true) : (1 ≤ te ∧ te ≤ 8) ∧ (0 ≤ qu ∧ qu ≤ 65535) := by
  unfold mayQ at h
  have h2 : (decide (1 ≤ te ∧ te ≤ 8) && decide (0 ≤ qu ∧ qu ≤ 65535)) = true := by
    have e : condQ ⟨1, te, qu, vo, bl, no, di, wr, sa, da⟩ = (decide (1 ≤ te ∧ te ≤ 8) && decide (0 ≤ qu ∧ qu ≤ 65535)) := by simp [condQ]
    rw [← e]
    simp only [Bool.and_eq_true] at h
    exact h.2
  simp [Bool.and_eq_true] at h2
  omega
set_option maxHeartbeats 4000000 in
theorem may_eq2 (te qu vo bl no : Int) (di wr sa da : ByteArray) : mayQ ⟨2, te, qu, vo, bl, no, di, wr, sa, da⟩ = lqB ⟨2, te, qu, vo, bl, no, di, wr, sa, da⟩ := by
  by_cases c0 : 1 ≤ te ∧ te ≤ 8 <;> simp [mayQ, condQ, onlyQ, lqB, layQ, rqF, eqQ, Req.bare, exq, okF, Prt.nil, fTen, Prt.num, c0]
set_option maxHeartbeats 4000000 in
theorem lq_2 (te qu vo bl no : Int) (di wr sa da : ByteArray) (c0 : 1 ≤ te ∧ te ≤ 8) : lqL ⟨2, te, qu, vo, bl, no, di, wr, sa, da⟩ = numB te 1 := by
  simp [lqL, layQ, rqF, exq, okF, byF, Prt.nil, fTen, Prt.num, c0]
set_option maxHeartbeats 4000000 in
theorem may_c2 (te qu vo bl no : Int) (di wr sa da : ByteArray) (h : mayQ ⟨2, te, qu, vo, bl, no, di, wr, sa, da⟩ = true) : (1 ≤ te ∧ te ≤ 8) := by
  unfold mayQ at h
  have h2 : (decide (1 ≤ te ∧ te ≤ 8)) = true := by
    have e : condQ ⟨2, te, qu, vo, bl, no, di, wr, sa, da⟩ = (decide (1 ≤ te ∧ te ≤ 8)) := by simp [condQ]
    rw [← e]
    simp only [Bool.and_eq_true] at h
    exact h.2
  simp [Bool.and_eq_true] at h2
  omega
set_option maxHeartbeats 4000000 in
theorem may_eq3 (te qu vo bl no : Int) (di wr sa da : ByteArray) : mayQ ⟨3, te, qu, vo, bl, no, di, wr, sa, da⟩ = lqB ⟨3, te, qu, vo, bl, no, di, wr, sa, da⟩ := by
  by_cases c0 : 1 ≤ te ∧ te ≤ 8 <;> simp [mayQ, condQ, onlyQ, lqB, layQ, rqF, eqQ, Req.bare, exq, okF, Prt.nil, fTen, Prt.num, c0]
set_option maxHeartbeats 4000000 in
theorem lq_3 (te qu vo bl no : Int) (di wr sa da : ByteArray) (c0 : 1 ≤ te ∧ te ≤ 8) : lqL ⟨3, te, qu, vo, bl, no, di, wr, sa, da⟩ = numB te 1 := by
  simp [lqL, layQ, rqF, exq, okF, byF, Prt.nil, fTen, Prt.num, c0]
set_option maxHeartbeats 4000000 in
theorem may_c3 (te qu vo bl no : Int) (di wr sa da : ByteArray) (h : mayQ ⟨3, te, qu, vo, bl, no, di, wr, sa, da⟩ = true) : (1 ≤ te ∧ te ≤ 8) := by
  unfold mayQ at h
  have h2 : (decide (1 ≤ te ∧ te ≤ 8)) = true := by
    have e : condQ ⟨3, te, qu, vo, bl, no, di, wr, sa, da⟩ = (decide (1 ≤ te ∧ te ≤ 8)) := by simp [condQ]
    rw [← e]
    simp only [Bool.and_eq_true] at h
    exact h.2
  simp [Bool.and_eq_true] at h2
  omega
set_option maxHeartbeats 4000000 in
theorem may_eq4 (te qu vo bl no : Int) (di wr sa da : ByteArray) : mayQ ⟨4, te, qu, vo, bl, no, di, wr, sa, da⟩ = lqB ⟨4, te, qu, vo, bl, no, di, wr, sa, da⟩ := by
  by_cases c0 : 1 ≤ vo ∧ vo ≤ 99 <;> simp [mayQ, condQ, onlyQ, lqB, layQ, rqF, eqQ, Req.bare, exq, okF, Prt.nil, fVol, Prt.num, c0]
set_option maxHeartbeats 4000000 in
theorem lq_4 (te qu vo bl no : Int) (di wr sa da : ByteArray) (c0 : 1 ≤ vo ∧ vo ≤ 99) : lqL ⟨4, te, qu, vo, bl, no, di, wr, sa, da⟩ = numB vo 1 := by
  simp [lqL, layQ, rqF, exq, okF, byF, Prt.nil, fVol, Prt.num, c0]
set_option maxHeartbeats 4000000 in
theorem may_c4 (te qu vo bl no : Int) (di wr sa da : ByteArray) (h : mayQ ⟨4, te, qu, vo, bl, no, di, wr, sa, da⟩ = true) : (1 ≤ vo ∧ vo ≤ 99) := by
  unfold mayQ at h
  have h2 : (decide (1 ≤ vo ∧ vo ≤ 99)) = true := by
    have e : condQ ⟨4, te, qu, vo, bl, no, di, wr, sa, da⟩ = (decide (1 ≤ vo ∧ vo ≤ 99)) := by simp [condQ]
    rw [← e]
    simp only [Bool.and_eq_true] at h
    exact h.2
  simp [Bool.and_eq_true] at h2
  omega
set_option maxHeartbeats 4000000 in
theorem may_eq5 (te qu vo bl no : Int) (di wr sa da : ByteArray) : mayQ ⟨5, te, qu, vo, bl, no, di, wr, sa, da⟩ = lqB ⟨5, te, qu, vo, bl, no, di, wr, sa, da⟩ := by
  by_cases c0 : 1 ≤ vo ∧ vo ≤ 99 <;> simp [mayQ, condQ, onlyQ, lqB, layQ, rqF, eqQ, Req.bare, exq, okF, Prt.nil, fVol, Prt.num, c0]
set_option maxHeartbeats 4000000 in
theorem lq_5 (te qu vo bl no : Int) (di wr sa da : ByteArray) (c0 : 1 ≤ vo ∧ vo ≤ 99) : lqL ⟨5, te, qu, vo, bl, no, di, wr, sa, da⟩ = numB vo 1 := by
  simp [lqL, layQ, rqF, exq, okF, byF, Prt.nil, fVol, Prt.num, c0]
set_option maxHeartbeats 4000000 in
theorem may_c5 (te qu vo bl no : Int) (di wr sa da : ByteArray) (h : mayQ ⟨5, te, qu, vo, bl, no, di, wr, sa, da⟩ = true) : (1 ≤ vo ∧ vo ≤ 99) := by
  unfold mayQ at h
  have h2 : (decide (1 ≤ vo ∧ vo ≤ 99)) = true := by
    have e : condQ ⟨5, te, qu, vo, bl, no, di, wr, sa, da⟩ = (decide (1 ≤ vo ∧ vo ≤ 99)) := by simp [condQ]
    rw [← e]
    simp only [Bool.and_eq_true] at h
    exact h.2
  simp [Bool.and_eq_true] at h2
  omega
set_option maxHeartbeats 4000000 in
theorem may_eq6 (te qu vo bl no : Int) (di wr sa da : ByteArray) : mayQ ⟨6, te, qu, vo, bl, no, di, wr, sa, da⟩ = lqB ⟨6, te, qu, vo, bl, no, di, wr, sa, da⟩ := by
  simp [mayQ, condQ, onlyQ, lqB, layQ, rqF, eqQ, Req.bare]
set_option maxHeartbeats 4000000 in
theorem lq_6 (te qu vo bl no : Int) (di wr sa da : ByteArray) : lqL ⟨6, te, qu, vo, bl, no, di, wr, sa, da⟩ = [] := by
  simp [lqL, layQ, rqF]
set_option maxHeartbeats 4000000 in
theorem may_c6 (te qu vo bl no : Int) (di wr sa da : ByteArray) (_h : mayQ ⟨6, te, qu, vo, bl, no, di, wr, sa, da⟩ = true) : True := by
  trivial
set_option maxHeartbeats 4000000 in
theorem may_eq7 (te qu vo bl no : Int) (di wr sa da : ByteArray) : mayQ ⟨7, te, qu, vo, bl, no, di, wr, sa, da⟩ = lqB ⟨7, te, qu, vo, bl, no, di, wr, sa, da⟩ := by
  simp [mayQ, condQ, onlyQ, lqB, layQ, rqF, eqQ, Req.bare]
set_option maxHeartbeats 4000000 in
theorem lq_7 (te qu vo bl no : Int) (di wr sa da : ByteArray) : lqL ⟨7, te, qu, vo, bl, no, di, wr, sa, da⟩ = [] := by
  simp [lqL, layQ, rqF]
set_option maxHeartbeats 4000000 in
theorem may_c7 (te qu vo bl no : Int) (di wr sa da : ByteArray) (_h : mayQ ⟨7, te, qu, vo, bl, no, di, wr, sa, da⟩ = true) : True := by
  trivial
set_option maxHeartbeats 4000000 in
theorem may_eq8 (te qu vo bl no : Int) (di wr sa da : ByteArray) : mayQ ⟨8, te, qu, vo, bl, no, di, wr, sa, da⟩ = lqB ⟨8, te, qu, vo, bl, no, di, wr, sa, da⟩ := by
  by_cases c0 : 1 ≤ vo ∧ vo ≤ 99 <;> by_cases c1 : 0 ≤ bl ∧ bl ≤ 255 <;> by_cases c2 : di.size = 32 <;> by_cases c3 : wr.size = 48 <;> simp [mayQ, condQ, onlyQ, lqB, layQ, rqF, eqQ, Req.bare, exq, okF, Prt.nil, fVol, fBlo, fDig, fWra, Prt.num, Prt.txt, placeQ, c0, c1, c2, c3] <;> (intros; omega)
set_option maxHeartbeats 4000000 in
theorem lq_8 (te qu vo bl no : Int) (di wr sa da : ByteArray) (c0 : 1 ≤ vo ∧ vo ≤ 99) (c1 : 0 ≤ bl ∧ bl ≤ 255) (c2 : di.size = 32) (c3 : wr.size = 48) : lqL ⟨8, te, qu, vo, bl, no, di, wr, sa, da⟩ = numB vo 1 ++ (numB bl 1 ++ (nums di ++ (nums wr))) := by
  simp [lqL, layQ, rqF, exq, okF, byF, Prt.nil, fVol, fBlo, fDig, fWra, Prt.num, Prt.txt, c0, c1, c2, c3]
set_option maxHeartbeats 4000000 in
theorem may_c8 (te qu vo bl no : Int) (di wr sa da : ByteArray) (h : mayQ ⟨8, te, qu, vo, bl, no, di, wr, sa, da⟩ = true) : (1 ≤ vo ∧ vo ≤ 99) ∧ (0 ≤ bl ∧ bl ≤ 255) ∧ (di.size = 32) ∧ (wr.size = 48) := by
  unfold mayQ at h
  have h2 : (placeQ vo bl && ((di.size : Int) == 32) && ((wr.size : Int) == 48)) = true := by
    have e : condQ ⟨8, te, qu, vo, bl, no, di, wr, sa, da⟩ = (placeQ vo bl && ((di.size : Int) == 32) && ((wr.size : Int) == 48)) := by simp [condQ]
    rw [← e]
    simp only [Bool.and_eq_true] at h
    exact h.2
  simp [placeQ, Bool.and_eq_true] at h2
  omega
set_option maxHeartbeats 4000000 in
theorem may_eq9 (te qu vo bl no : Int) (di wr sa da : ByteArray) : mayQ ⟨9, te, qu, vo, bl, no, di, wr, sa, da⟩ = lqB ⟨9, te, qu, vo, bl, no, di, wr, sa, da⟩ := by
  by_cases c0 : 0 ≤ no ∧ no ≤ 4294967295 <;> by_cases c1 : sa.size = 8 <;> simp [mayQ, condQ, onlyQ, lqB, layQ, rqF, eqQ, Req.bare, exq, okF, Prt.nil, fNon, fSam, Prt.num, Prt.txt, c0, c1] <;> (intros; omega)
set_option maxHeartbeats 4000000 in
theorem lq_9 (te qu vo bl no : Int) (di wr sa da : ByteArray) (c0 : 0 ≤ no ∧ no ≤ 4294967295) (c1 : sa.size = 8) : lqL ⟨9, te, qu, vo, bl, no, di, wr, sa, da⟩ = numB no 4 ++ (nums sa) := by
  simp [lqL, layQ, rqF, exq, okF, byF, Prt.nil, fNon, fSam, Prt.num, Prt.txt, c0, c1]
set_option maxHeartbeats 4000000 in
theorem may_c9 (te qu vo bl no : Int) (di wr sa da : ByteArray) (h : mayQ ⟨9, te, qu, vo, bl, no, di, wr, sa, da⟩ = true) : (0 ≤ no ∧ no ≤ 4294967295) ∧ (sa.size = 8) := by
  unfold mayQ at h
  have h2 : (decide (0 ≤ no ∧ no ≤ 4294967295) && ((sa.size : Int) == 8)) = true := by
    have e : condQ ⟨9, te, qu, vo, bl, no, di, wr, sa, da⟩ = (decide (0 ≤ no ∧ no ≤ 4294967295) && ((sa.size : Int) == 8)) := by simp [condQ]
    rw [← e]
    simp only [Bool.and_eq_true] at h
    exact h.2
  simp [Bool.and_eq_true] at h2
  omega
set_option maxHeartbeats 4000000 in
theorem may_eq10 (te qu vo bl no : Int) (di wr sa da : ByteArray) : mayQ ⟨10, te, qu, vo, bl, no, di, wr, sa, da⟩ = lqB ⟨10, te, qu, vo, bl, no, di, wr, sa, da⟩ := by
  by_cases c0 : 1 ≤ vo ∧ vo ≤ 99 <;> by_cases c1 : 0 ≤ bl ∧ bl ≤ 255 <;> by_cases c2 : wr.size = 48 <;> by_cases c3 : da.size = 256 <;> simp [mayQ, condQ, onlyQ, lqB, layQ, rqF, eqQ, Req.bare, exq, okF, Prt.nil, fVol, fBlo, fWra, fDat, Prt.num, Prt.txt, placeQ, c0, c1, c2, c3] <;> (intros; omega)
set_option maxHeartbeats 4000000 in
theorem lq_10 (te qu vo bl no : Int) (di wr sa da : ByteArray) (c0 : 1 ≤ vo ∧ vo ≤ 99) (c1 : 0 ≤ bl ∧ bl ≤ 255) (c2 : wr.size = 48) (c3 : da.size = 256) : lqL ⟨10, te, qu, vo, bl, no, di, wr, sa, da⟩ = numB vo 1 ++ (numB bl 1 ++ (nums wr ++ (nums da))) := by
  simp [lqL, layQ, rqF, exq, okF, byF, Prt.nil, fVol, fBlo, fWra, fDat, Prt.num, Prt.txt, c0, c1, c2, c3]
set_option maxHeartbeats 4000000 in
theorem may_c10 (te qu vo bl no : Int) (di wr sa da : ByteArray) (h : mayQ ⟨10, te, qu, vo, bl, no, di, wr, sa, da⟩ = true) : (1 ≤ vo ∧ vo ≤ 99) ∧ (0 ≤ bl ∧ bl ≤ 255) ∧ (wr.size = 48) ∧ (da.size = 256) := by
  unfold mayQ at h
  have h2 : (placeQ vo bl && ((wr.size : Int) == 48) && ((da.size : Int) == 256)) = true := by
    have e : condQ ⟨10, te, qu, vo, bl, no, di, wr, sa, da⟩ = (placeQ vo bl && ((wr.size : Int) == 48) && ((da.size : Int) == 256)) := by simp [condQ]
    rw [← e]
    simp only [Bool.and_eq_true] at h
    exact h.2
  simp [placeQ, Bool.and_eq_true] at h2
  omega
set_option maxHeartbeats 4000000 in
theorem may_eq11 (te qu vo bl no : Int) (di wr sa da : ByteArray) : mayQ ⟨11, te, qu, vo, bl, no, di, wr, sa, da⟩ = lqB ⟨11, te, qu, vo, bl, no, di, wr, sa, da⟩ := by
  by_cases c0 : 1 ≤ vo ∧ vo ≤ 99 <;> by_cases c1 : 0 ≤ bl ∧ bl ≤ 255 <;> simp [mayQ, condQ, onlyQ, lqB, layQ, rqF, eqQ, Req.bare, exq, okF, Prt.nil, fVol, fBlo, Prt.num, placeQ, c0, c1]
set_option maxHeartbeats 4000000 in
theorem lq_11 (te qu vo bl no : Int) (di wr sa da : ByteArray) (c0 : 1 ≤ vo ∧ vo ≤ 99) (c1 : 0 ≤ bl ∧ bl ≤ 255) : lqL ⟨11, te, qu, vo, bl, no, di, wr, sa, da⟩ = numB vo 1 ++ (numB bl 1) := by
  simp [lqL, layQ, rqF, exq, okF, byF, Prt.nil, fVol, fBlo, Prt.num, c0, c1]
set_option maxHeartbeats 4000000 in
theorem may_c11 (te qu vo bl no : Int) (di wr sa da : ByteArray) (h : mayQ ⟨11, te, qu, vo, bl, no, di, wr, sa, da⟩ = true) : (1 ≤ vo ∧ vo ≤ 99) ∧ (0 ≤ bl ∧ bl ≤ 255) := by
  unfold mayQ at h
  have h2 : (placeQ vo bl) = true := by
    have e : condQ ⟨11, te, qu, vo, bl, no, di, wr, sa, da⟩ = (placeQ vo bl) := by simp [condQ]
    rw [← e]
    simp only [Bool.and_eq_true] at h
    exact h.2
  simp [placeQ, Bool.and_eq_true] at h2
  omega
set_option maxHeartbeats 4000000 in
theorem may_eq12 (te qu vo bl no : Int) (di wr sa da : ByteArray) : mayQ ⟨12, te, qu, vo, bl, no, di, wr, sa, da⟩ = lqB ⟨12, te, qu, vo, bl, no, di, wr, sa, da⟩ := by
  by_cases c0 : 1 ≤ vo ∧ vo ≤ 99 <;> by_cases c1 : 0 ≤ bl ∧ bl ≤ 255 <;> simp [mayQ, condQ, onlyQ, lqB, layQ, rqF, eqQ, Req.bare, exq, okF, Prt.nil, fVol, fBlo, Prt.num, placeQ, c0, c1]
set_option maxHeartbeats 4000000 in
theorem lq_12 (te qu vo bl no : Int) (di wr sa da : ByteArray) (c0 : 1 ≤ vo ∧ vo ≤ 99) (c1 : 0 ≤ bl ∧ bl ≤ 255) : lqL ⟨12, te, qu, vo, bl, no, di, wr, sa, da⟩ = numB vo 1 ++ (numB bl 1) := by
  simp [lqL, layQ, rqF, exq, okF, byF, Prt.nil, fVol, fBlo, Prt.num, c0, c1]
set_option maxHeartbeats 4000000 in
theorem may_c12 (te qu vo bl no : Int) (di wr sa da : ByteArray) (h : mayQ ⟨12, te, qu, vo, bl, no, di, wr, sa, da⟩ = true) : (1 ≤ vo ∧ vo ≤ 99) ∧ (0 ≤ bl ∧ bl ≤ 255) := by
  unfold mayQ at h
  have h2 : (placeQ vo bl) = true := by
    have e : condQ ⟨12, te, qu, vo, bl, no, di, wr, sa, da⟩ = (placeQ vo bl) := by simp [condQ]
    rw [← e]
    simp only [Bool.and_eq_true] at h
    exact h.2
  simp [placeQ, Bool.and_eq_true] at h2
  omega
theorem may_eq (r : Req) (h : 1 ≤ r.kd ∧ r.kd ≤ 12) : mayQ r = lqB r := by
  obtain ⟨kd, te, qu, vo, bl, no, di, wr, sa, da⟩ := r
  rcases kinds12 h with rfl | rfl | rfl | rfl | rfl | rfl | rfl | rfl | rfl | rfl | rfl | rfl
  · exact may_eq1 te qu vo bl no di wr sa da
  · exact may_eq2 te qu vo bl no di wr sa da
  · exact may_eq3 te qu vo bl no di wr sa da
  · exact may_eq4 te qu vo bl no di wr sa da
  · exact may_eq5 te qu vo bl no di wr sa da
  · exact may_eq6 te qu vo bl no di wr sa da
  · exact may_eq7 te qu vo bl no di wr sa da
  · exact may_eq8 te qu vo bl no di wr sa da
  · exact may_eq9 te qu vo bl no di wr sa da
  · exact may_eq10 te qu vo bl no di wr sa da
  · exact may_eq11 te qu vo bl no di wr sa da
  · exact may_eq12 te qu vo bl no di wr sa da
set_option maxHeartbeats 4000000 in
theorem fields_any (r : Req) (h : 1 ≤ r.kd ∧ r.kd ≤ 12) (hm : mayQ r = true) (w : World) : Calls Tryz.prog 34 #[.agg r.cl.toArray] w fun e w' => e = .returned (.string (strOfNums (lqL r))) ∧ Below w.heap.size w w' := by
  obtain ⟨kd, te, qu, vo, bl, no, di, wr, sa, da⟩ := r
  rcases kinds12 h with rfl | rfl | rfl | rfl | rfl | rfl | rfl | rfl | rfl | rfl | rfl | rfl
  · obtain ⟨c0, c1⟩ := may_c1 te qu vo bl no di wr sa da hm
    obtain ⟨ten, rfl⟩ : ∃ q : Nat, te = (q : Int) := ⟨te.toNat, by omega⟩
    obtain ⟨qun, rfl⟩ : ∃ q : Nat, qu = (q : Int) := ⟨qu.toNat, by omega⟩
    rw [lq_1 (ten : Int) (qun : Int) vo bl no di wr sa da c0 c1]
    have e : strOfNums (numB (ten : Int) 1 ++ (numB (qun : Int) 2)) = (strOfNums (numB (ten : Int) 1) ++ strOfNums (numB (qun : Int) 2)) := by simp only [strOfNums_app]
    rw [e]
    exact fields_1 ten qun vo bl no di wr sa da (by omega) (by omega)  w
  · have c0 := may_c2 te qu vo bl no di wr sa da hm
    obtain ⟨ten, rfl⟩ : ∃ q : Nat, te = (q : Int) := ⟨te.toNat, by omega⟩
    rw [lq_2 (ten : Int) qu vo bl no di wr sa da c0]
    exact fields_2 ten qu vo bl no di wr sa da (by omega)  w
  · have c0 := may_c3 te qu vo bl no di wr sa da hm
    obtain ⟨ten, rfl⟩ : ∃ q : Nat, te = (q : Int) := ⟨te.toNat, by omega⟩
    rw [lq_3 (ten : Int) qu vo bl no di wr sa da c0]
    exact fields_3 ten qu vo bl no di wr sa da (by omega)  w
  · have c0 := may_c4 te qu vo bl no di wr sa da hm
    obtain ⟨von, rfl⟩ : ∃ q : Nat, vo = (q : Int) := ⟨vo.toNat, by omega⟩
    rw [lq_4 te qu (von : Int) bl no di wr sa da c0]
    exact fields_4 von te qu bl no di wr sa da (by omega)  w
  · have c0 := may_c5 te qu vo bl no di wr sa da hm
    obtain ⟨von, rfl⟩ : ∃ q : Nat, vo = (q : Int) := ⟨vo.toNat, by omega⟩
    rw [lq_5 te qu (von : Int) bl no di wr sa da c0]
    exact fields_5 von te qu bl no di wr sa da (by omega)  w
  · rw [lq_6 te qu vo bl no di wr sa da ]
    have e : strOfNums [] = ⟨#[]⟩ := rfl
    rw [e]
    exact fields_6  te qu vo bl no di wr sa da   w
  · rw [lq_7 te qu vo bl no di wr sa da ]
    have e : strOfNums [] = ⟨#[]⟩ := rfl
    rw [e]
    exact fields_7  te qu vo bl no di wr sa da   w
  · obtain ⟨c0, c1, c2, c3⟩ := may_c8 te qu vo bl no di wr sa da hm
    obtain ⟨von, rfl⟩ : ∃ q : Nat, vo = (q : Int) := ⟨vo.toNat, by omega⟩
    obtain ⟨bln, rfl⟩ : ∃ q : Nat, bl = (q : Int) := ⟨bl.toNat, by omega⟩
    rw [lq_8 te qu (von : Int) (bln : Int) no di wr sa da c0 c1 c2 c3]
    have e : strOfNums (numB (von : Int) 1 ++ (numB (bln : Int) 1 ++ (nums di ++ (nums wr)))) = (((strOfNums (numB (von : Int) 1) ++ strOfNums (numB (bln : Int) 1)) ++ di) ++ wr) := by simp only [strOfNums_app, strOfNums_nums, ByteArray.append_assoc]
    rw [e]
    exact fields_8 von bln te qu no di wr sa da (by omega) (by omega) (by omega) (by omega) w
  · obtain ⟨c0, c1⟩ := may_c9 te qu vo bl no di wr sa da hm
    obtain ⟨non, rfl⟩ : ∃ q : Nat, no = (q : Int) := ⟨no.toNat, by omega⟩
    rw [lq_9 te qu vo bl (non : Int) di wr sa da c0 c1]
    have e : strOfNums (numB (non : Int) 4 ++ (nums sa)) = (strOfNums (numB (non : Int) 4) ++ sa) := by simp only [strOfNums_app, strOfNums_nums]
    rw [e]
    exact fields_9 non te qu vo bl di wr sa da (by omega) (by omega) w
  · obtain ⟨c0, c1, c2, c3⟩ := may_c10 te qu vo bl no di wr sa da hm
    obtain ⟨von, rfl⟩ : ∃ q : Nat, vo = (q : Int) := ⟨vo.toNat, by omega⟩
    obtain ⟨bln, rfl⟩ : ∃ q : Nat, bl = (q : Int) := ⟨bl.toNat, by omega⟩
    rw [lq_10 te qu (von : Int) (bln : Int) no di wr sa da c0 c1 c2 c3]
    have e : strOfNums (numB (von : Int) 1 ++ (numB (bln : Int) 1 ++ (nums wr ++ (nums da)))) = (((strOfNums (numB (von : Int) 1) ++ strOfNums (numB (bln : Int) 1)) ++ wr) ++ da) := by simp only [strOfNums_app, strOfNums_nums, ByteArray.append_assoc]
    rw [e]
    exact fields_10 von bln te qu no di wr sa da (by omega) (by omega) (by omega) (by omega) w
  · obtain ⟨c0, c1⟩ := may_c11 te qu vo bl no di wr sa da hm
    obtain ⟨von, rfl⟩ : ∃ q : Nat, vo = (q : Int) := ⟨vo.toNat, by omega⟩
    obtain ⟨bln, rfl⟩ : ∃ q : Nat, bl = (q : Int) := ⟨bl.toNat, by omega⟩
    rw [lq_11 te qu (von : Int) (bln : Int) no di wr sa da c0 c1]
    have e : strOfNums (numB (von : Int) 1 ++ (numB (bln : Int) 1)) = (strOfNums (numB (von : Int) 1) ++ strOfNums (numB (bln : Int) 1)) := by simp only [strOfNums_app]
    rw [e]
    exact fields_11 von bln te qu no di wr sa da (by omega) (by omega)  w
  · obtain ⟨c0, c1⟩ := may_c12 te qu vo bl no di wr sa da hm
    obtain ⟨von, rfl⟩ : ∃ q : Nat, vo = (q : Int) := ⟨vo.toNat, by omega⟩
    obtain ⟨bln, rfl⟩ : ∃ q : Nat, bl = (q : Int) := ⟨bl.toNat, by omega⟩
    rw [lq_12 te qu (von : Int) (bln : Int) no di wr sa da c0 c1]
    have e : strOfNums (numB (von : Int) 1 ++ (numB (bln : Int) 1)) = (strOfNums (numB (von : Int) 1) ++ strOfNums (numB (bln : Int) 1)) := by simp only [strOfNums_app]
    rw [e]
    exact fields_12 von bln te qu no di wr sa da (by omega) (by omega)  w
end Go.Proofs.YtobmeiomfiepjaaGreatDoor
