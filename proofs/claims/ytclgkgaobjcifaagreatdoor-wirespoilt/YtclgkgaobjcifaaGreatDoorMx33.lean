import Derived.Test.YtclgkgaobjcifaaGreatDoorMx32
namespace Go.Proofs.YtclgkgaobjcifaaGreatDoor
open Go.RowKit
set_option maxRecDepth 100000
set_option maxHeartbeats 4000000 in
theorem may_eq1 (te qu vo bl no : Int) (di wr sa da : ByteArray) : mayQ ⟨1, te, qu, vo, bl, no, di, wr, sa, da⟩ = lqB ⟨1, te, qu, vo, bl, no, di, wr, sa, da⟩ := by
  by_cases c0 : 1 ≤ te ∧ te ≤ 8 <;> by_cases c1 : 0 ≤ qu ∧ qu ≤ 65535 <;> simp [mayQ, condQ, onlyQ, lqB, layQ, rqF, eqQ, Req.bare, exq, okF, Prt.nil, fTen, fQuo, Prt.num, c0, c1]
set_option maxHeartbeats 4000000 in
theorem lq_1 (te qu vo bl no : Int) (di wr sa da : ByteArray) (c0 : 1 ≤ te ∧ te ≤ 8) (c1 : 0 ≤ qu ∧ qu ≤ 65535) : lqL ⟨1, te, qu, vo, bl, no, di, wr, sa, da⟩ = numB te 1 ++ (numB qu 2) := by
  simp [lqL, layQ, rqF, exq, okF, byF, Prt.nil, fTen, fQuo, Prt.num, c0, c1]
set_option maxHeartbeats 4000000 in
theorem may_c1 (te qu vo bl no : Int) (di wr sa da : ByteArray) (h : mayQ ⟨1, te, qu, vo, bl, no, di, wr, sa, da⟩ = true) : (1 ≤ te ∧ te ≤ 8) ∧ (0 ≤ qu ∧ qu ≤ 65535) := by
  unfold mayQ at h
  have h2 : (decide (1 ≤ te ∧ te ≤ 8) && decide (0 ≤ qu ∧ qu ≤ 65535)) = true := by
    have e : condQ ⟨1, te, qu, vo, bl, no, di, wr, sa, da⟩ = (decide (1 ≤ te ∧ te ≤ 8) && decide (0 ≤ qu ∧ qu ≤ 65535)) := by simp [condQ]
    rw [← e]
    simp only [Bool.and_eq_true] at h
    exact h.2
  simp [Bool.and_eq_true] at h2
  omega
set_option maxHeartbeats 4000000 in
theorem may_eq2 (te qu vo bl no : Int) (di wr sa da : ByteArray) : mayQ ⟨2, te, qu, vo, bl, no, di, wr, sa, da⟩ = lqB ⟨2, te, qu, vo, bl, no, di, wr, sa, da⟩ := by
  by_cases c0 : 1 ≤ te ∧ te ≤ 8 <;> simp [mayQ, condQ, onlyQ, lqB, layQ, rqF, eqQ, Req.bare, exq, okF, Prt.nil, fTen, Prt.num, c0]
set_option maxHeartbeats 4000000 in
theorem lq_2 (te qu vo bl no : Int) (di wr sa da : ByteArray) (c0 : 1 ≤ te ∧ te ≤ 8) : lqL ⟨2, te, qu, vo, bl, no, di, wr, sa, da⟩ = numB te 1 := by
  simp [lqL, layQ, rqF, exq, okF, byF, Prt.nil, fTen, Prt.num, c0]
set_option maxHeartbeats 4000000 in
theorem may_c2 (te qu vo bl no : Int) (di wr sa da : ByteArray) (h : mayQ ⟨2, te, qu, vo, bl, no, di, wr, sa, da⟩ = true) : (1 ≤ te ∧ te ≤ 8) := by
  unfold mayQ at h
  have h2 : (decide (1 ≤ te ∧ te ≤ 8)) = true := by
    have e : condQ ⟨2, te, qu, vo, bl, no, di, wr, sa, da⟩ = (decide (1 ≤ te ∧ te ≤ 8)) := by simp [condQ]
    rw [← e]
    simp only [Bool.and_eq_true] at h
    exact h.2
  simp [Bool.and_eq_true] at h2
  omega
set_option maxHeartbeats 4000000 in
theorem may_eq3 (te qu vo bl no : Int) (di wr sa da : ByteArray) : mayQ ⟨3, te, qu, vo, bl, no, di, wr, sa, da⟩ = lqB ⟨3, te, qu, vo, bl, no, di, wr, sa, da⟩ := by
  by_cases c0 : 1 ≤ te ∧ te ≤ 8 <;> simp [mayQ, condQ, onlyQ, lqB, layQ, rqF, eqQ, Req.bare, exq, okF, Prt.nil, fTen, Prt.num, c0]
set_option maxHeartbeats 4000000 in
theorem lq_3 (te qu vo bl no : Int) (di wr sa da : ByteArray) (c0 : 1 ≤ te ∧ te ≤ 8) : lqL ⟨3, te, qu, vo, bl, no, di, wr, sa, da⟩ = numB te 1 := by
  simp [lqL, layQ, rqF, exq, okF, byF, Prt.nil, fTen, Prt.num, c0]
set_option maxHeartbeats 4000000 in
theorem may_c3 (te qu vo bl no : Int) (di wr sa da : ByteArray) (h : mayQ ⟨3, te, qu, vo, bl, no, di, wr, sa, da⟩ = true) : (1 ≤ te ∧ te ≤ 8) := by
  unfold mayQ at h
  have h2 : (decide (1 ≤ te ∧ te ≤ 8)) = true := by
    have e : condQ ⟨3, te, qu, vo, bl, no, di, wr, sa, da⟩ = (decide (1 ≤ te ∧ te ≤ 8)) := by simp [condQ]
    rw [← e]
    simp only [Bool.and_eq_true] at h
    exact h.2
  simp [Bool.and_eq_true] at h2
  omega
set_option maxHeartbeats 4000000 in
theorem may_eq4 (te qu vo bl no : Int) (di wr sa da : ByteArray) : mayQ ⟨4, te, qu, vo, bl, no, di, wr, sa, da⟩ = lqB ⟨4, te, qu, vo, bl, no, di, wr, sa, da⟩ := by
  by_cases c0 : 1 ≤ vo ∧ vo ≤ 99 <;> simp [mayQ, condQ, onlyQ, lqB, layQ, rqF, eqQ, Req.bare, exq, okF, Prt.nil, fVol, Prt.num, c0]
set_option maxHeartbeats 4000000 in
theorem lq_4 (te qu vo bl no : Int) (di wr sa da : ByteArray) (c0 : 1 ≤ vo ∧ vo ≤ 99) : lqL ⟨4, te, qu, vo, bl, no, di, wr, sa, da⟩ = numB vo 1 := by
  simp [lqL, layQ, rqF, exq, okF, byF, Prt.nil, fVol, Prt.num, c0]
set_option maxHeartbeats 4000000 in
theorem may_c4 (te qu vo bl no : Int) (di wr sa da : ByteArray) (h : mayQ ⟨4, te, qu, vo, bl, no, di, wr, sa, da⟩ = true) : (1 ≤ vo ∧ vo ≤ 99) := by
  unfold mayQ at h
  have h2 : (decide (1 ≤ vo ∧ vo ≤ 99)) = true := by
    have e : condQ ⟨4, te, qu, vo, bl, no, di, wr, sa, da⟩ = (decide (1 ≤ vo ∧ vo ≤ 99)) := by simp [condQ]
    rw [← e]
    simp only [Bool.and_eq_true] at h
    exact h.2
  simp [Bool.and_eq_true] at h2
  omega
set_option maxHeartbeats 4000000 in
theorem may_eq5 (te qu vo bl no : Int) (di wr sa da : ByteArray) : mayQ ⟨5, te, qu, vo, bl, no, di, wr, sa, da⟩ = lqB ⟨5, te, qu, vo, bl, no, di, wr, sa, da⟩ := by
  by_cases c0 : 1 ≤ vo ∧ vo ≤ 99 <;> simp [mayQ, condQ, onlyQ, lqB, layQ, rqF, eqQ, Req.bare, exq, okF, Prt.nil, fVol, Prt.num, c0]
set_option maxHeartbeats 4000000 in
theorem lq_5 (te qu vo bl no : Int) (di wr sa da : ByteArray) (c0 : 1 ≤ vo ∧ vo ≤ 99) : lqL ⟨5, te, qu, vo, bl, no, di, wr, sa, da⟩ = numB vo 1 := by
  simp [lqL, layQ, rqF, exq, okF, byF, Prt.nil, fVol, Prt.num, c0]
set_option maxHeartbeats 4000000 in
theorem may_c5 (te qu vo bl no : Int) (di wr sa da : ByteArray) (h : mayQ ⟨5, te, qu, vo, bl, no, di, wr, sa, da⟩ = true) : (1 ≤ vo ∧ vo ≤ 99) := by
  unfold mayQ at h
  have h2 : (decide (1 ≤ vo ∧ vo ≤ 99)) = true := by
    have e : condQ ⟨5, te, qu, vo, bl, no, di, wr, sa, da⟩ = (decide (1 ≤ vo ∧ vo ≤ 99)) := by simp [condQ]
    rw [← e]
    simp only [Bool.and_eq_true] at h
    exact h.2
  simp [Bool.and_eq_true] at h2
  omega
set_option maxHeartbeats 4000000 in
theorem may_eq6 (te qu vo bl no : Int) (di wr sa da : ByteArray) : mayQ ⟨6, te, qu, vo, bl, no, di, wr, sa, da⟩ = lqB ⟨6, te, qu, vo, bl, no, di, wr, sa, da⟩ := by
  simp [mayQ, condQ, onlyQ, lqB, layQ, rqF, eqQ, Req.bare]
set_option maxHeartbeats 4000000 in
theorem lq_6 (te qu vo bl no : Int) (di wr sa da : ByteArray) : lqL ⟨6, te, qu, vo, bl, no, di, wr, sa, da⟩ = [] := by
  simp [lqL, layQ, rqF]
set_option maxHeartbeats 4000000 in
theorem may_eq7 (te qu vo bl no : Int) (di wr sa da : ByteArray) : mayQ ⟨7, te, qu, vo, bl, no, di, wr, sa, da⟩ = lqB ⟨7, te, qu, vo, bl, no, di, wr, sa, da⟩ := by
  simp [mayQ, condQ, onlyQ, lqB, layQ, rqF, eqQ, Req.bare]
set_option maxHeartbeats 4000000 in
theorem lq_7 (te qu vo bl no : Int) (di wr sa da : ByteArray) : lqL ⟨7, te, qu, vo, bl, no, di, wr, sa, da⟩ = [] := by
  simp [lqL, layQ, rqF]
set_option maxHeartbeats 4000000 in
theorem may_eq8 (te qu vo bl no : Int) (di wr sa da : ByteArray) : mayQ ⟨8, te, qu, vo, bl, no, di, wr, sa, da⟩ = lqB ⟨8, te, qu, vo, bl, no, di, wr, sa, da⟩ := by
  by_cases c0 : 1 ≤ vo ∧ vo ≤ 99 <;> by_cases c1 : 0 ≤ bl ∧ bl ≤ 255 <;> by_cases c2 : di.size = 32 <;> by_cases c3 : wr.size = 48 <;> simp [mayQ, condQ, onlyQ, lqB, layQ, rqF, eqQ, Req.bare, exq, okF, Prt.nil, fVol, fBlo, fDig, fWra, Prt.num, Prt.txt, placeQ, c0, c1, c2, c3] <;> (intros; omega)
set_option maxHeartbeats 4000000 in
theorem lq_8 (te qu vo bl no : Int) (di wr sa da : ByteArray) (c0 : 1 ≤ vo ∧ vo ≤ 99) (c1 : 0 ≤ bl ∧ bl ≤ 255) (c2 : di.size = 32) (c3 : wr.size = 48) : lqL ⟨8, te, qu, vo, bl, no, di, wr, sa, da⟩ = numB vo 1 ++ (numB bl 1 ++ (nums di ++ (nums wr))) := by
  simp [lqL, layQ, rqF, exq, okF, byF, Prt.nil, fVol, fBlo, fDig, fWra, Prt.num, Prt.txt, c0, c1, c2, c3]
set_option maxHeartbeats 4000000 in
theorem may_c8 (te qu vo bl no : Int) (di wr sa da : ByteArray) (h : mayQ ⟨8, te, qu, vo, bl, no, di, wr, sa, da⟩ = true) : (1 ≤ vo ∧ vo ≤ 99) ∧ (0 ≤ bl ∧ bl ≤ 255) ∧ (di.size = 32) ∧ (wr.size = 48) := by
  unfold mayQ at h
  have h2 : (placeQ vo bl && ((di.size : Int) == 32) && ((wr.size : Int) == 48)) = true := by
    have e : condQ ⟨8, te, qu, vo, bl, no, di, wr, sa, da⟩ = (placeQ vo bl && ((di.size : Int) == 32) && ((wr.size : Int) == 48)) := by simp [condQ]
    rw [← e]
    simp only [Bool.and_eq_true] at h
    exact h.2
  simp [placeQ, Bool.and_eq_true] at h2
  omega
set_option maxHeartbeats 4000000 in
theorem may_eq9 (te qu vo bl no : Int) (di wr sa da : ByteArray) : mayQ ⟨9, te, qu, vo, bl, no, di, wr, sa, da⟩ = lqB ⟨9, te, qu, vo, bl, no, di, wr, sa, da⟩ := by
  by_cases c0 : 0 ≤ no ∧ no ≤ 4294967295 <;> by_cases c1 : sa.size = 8 <;> simp [mayQ, condQ, onlyQ, lqB, layQ, rqF, eqQ, Req.bare, exq, okF, Prt.nil, fNon, fSam, Prt.num, Prt.txt, c0, c1] <;> (intros; omega)
set_option maxHeartbeats 4000000 in
theorem lq_9 (te qu vo bl no : Int) (di wr sa da : ByteArray) (c0 : 0 ≤ no ∧ no ≤ 4294967295) (c1 : sa.size = 8) : lqL ⟨9, te, qu, vo, bl, no, di, wr, sa, da⟩ = numB no 4 ++ (nums sa) := by
  simp [lqL, layQ, rqF, exq, okF, byF, Prt.nil, fNon, fSam, Prt.num, Prt.txt, c0, c1]
set_option maxHeartbeats 4000000 in
theorem may_c9 (te qu vo bl no : Int) (di wr sa da : ByteArray) (h : mayQ ⟨9, te, qu, vo, bl, no, di, wr, sa, da⟩ = true) : (0 ≤ no ∧ no ≤ 4294967295) ∧ (sa.size = 8) := by
  unfold mayQ at h
  have h2 : (decide (0 ≤ no ∧ no ≤ 4294967295) && ((sa.size : Int) == 8)) = true := by
    have e : condQ ⟨9, te, qu, vo, bl, no, di, wr, sa, da⟩ = (decide (0 ≤ no ∧ no ≤ 4294967295) && ((sa.size : Int) == 8)) := by simp [condQ]
    rw [← e]
    simp only [Bool.and_eq_true] at h
    exact h.2
  simp [Bool.and_eq_true] at h2
  omega
set_option maxHeartbeats 4000000 in
theorem may_eq10 (te qu vo bl no : Int) (di wr sa da : ByteArray) : mayQ ⟨10, te, qu, vo, bl, no, di, wr, sa, da⟩ = lqB ⟨10, te, qu, vo, bl, no, di, wr, sa, da⟩ := by
  by_cases c0 : 1 ≤ vo ∧ vo ≤ 99 <;> by_cases c1 : 0 ≤ bl ∧ bl ≤ 255 <;> by_cases c2 : wr.size = 48 <;> by_cases c3 : da.size = 256 <;> simp [mayQ, condQ, onlyQ, lqB, layQ, rqF, eqQ, Req.bare, exq, okF, Prt.nil, fVol, fBlo, fWra, fDat, Prt.num, Prt.txt, placeQ, c0, c1, c2, c3] <;> (intros; omega)
set_option maxHeartbeats 4000000 in
theorem lq_10 (te qu vo bl no : Int) (di wr sa da : ByteArray) (c0 : 1 ≤ vo ∧ vo ≤ 99) (c1 : 0 ≤ bl ∧ bl ≤ 255) (c2 : wr.size = 48) (c3 : da.size = 256) : lqL ⟨10, te, qu, vo, bl, no, di, wr, sa, da⟩ = numB vo 1 ++ (numB bl 1 ++ (nums wr ++ (nums da))) := by
  simp [lqL, layQ, rqF, exq, okF, byF, Prt.nil, fVol, fBlo, fWra, fDat, Prt.num, Prt.txt, c0, c1, c2, c3]
set_option maxHeartbeats 4000000 in
theorem may_c10 (te qu vo bl no : Int) (di wr sa da : ByteArray) (h : mayQ ⟨10, te, qu, vo, bl, no, di, wr, sa, da⟩ = true) : (1 ≤ vo ∧ vo ≤ 99) ∧ (0 ≤ bl ∧ bl ≤ 255) ∧ (wr.size = 48) ∧ (da.size = 256) := by
  unfold mayQ at h
  have h2 : (placeQ vo bl && ((wr.size : Int) == 48) && ((da.size : Int) == 256)) = true := by
    have e : condQ ⟨10, te, qu, vo, bl, no, di, wr, sa, da⟩ = (placeQ vo bl && ((wr.size : Int) == 48) && ((da.size : Int) == 256)) := by simp [condQ]
    rw [← e]
    simp only [Bool.and_eq_true] at h
    exact h.2
  simp [placeQ, Bool.and_eq_true] at h2
  omega
set_option maxHeartbeats 4000000 in
theorem may_eq11 (te qu vo bl no : Int) (di wr sa da : ByteArray) : mayQ ⟨11, te, qu, vo, bl, no, di, wr, sa, da⟩ = lqB ⟨11, te, qu, vo, bl, no, di, wr, sa, da⟩ := by
  by_cases c0 : 1 ≤ vo ∧ vo ≤ 99 <;> by_cases c1 : 0 ≤ bl ∧ bl ≤ 255 <;> simp [mayQ, condQ, onlyQ, lqB, layQ, rqF, eqQ, Req.bare, exq, okF, Prt.nil, fVol, fBlo, Prt.num, placeQ, c0, c1]
set_option maxHeartbeats 4000000 in
theorem lq_11 (te qu vo bl no : Int) (di wr sa da : ByteArray) (c0 : 1 ≤ vo ∧ vo ≤ 99) (c1 : 0 ≤ bl ∧ bl ≤ 255) : lqL ⟨11, te, qu, vo, bl, no, di, wr, sa, da⟩ = numB vo 1 ++ (numB bl 1) := by
  simp [lqL, layQ, rqF, exq, okF, byF, Prt.nil, fVol, fBlo, Prt.num, c0, c1]
set_option maxHeartbeats 4000000 in
theorem may_c11 (te qu vo bl no : Int) (di wr sa da : ByteArray) (h : mayQ ⟨11, te, qu, vo, bl, no, di, wr, sa, da⟩ = true) : (1 ≤ vo ∧ vo ≤ 99) ∧ (0 ≤ bl ∧ bl ≤ 255) := by
  unfold mayQ at h
  have h2 : (placeQ vo bl) = true := by
    have e : condQ ⟨11, te, qu, vo, bl, no, di, wr, sa, da⟩ = (placeQ vo bl) := by simp [condQ]
    rw [← e]
    simp only [Bool.and_eq_true] at h
    exact h.2
  simp [placeQ, Bool.and_eq_true] at h2
  omega
set_option maxHeartbeats 4000000 in
theorem may_eq12 (te qu vo bl no : Int) (di wr sa da : ByteArray) : mayQ ⟨12, te, qu, vo, bl, no, di, wr, sa, da⟩ = lqB ⟨12, te, qu, vo, bl, no, di, wr, sa, da⟩ := by
  by_cases c0 : 1 ≤ vo ∧ vo ≤ 99 <;> by_cases c1 : 0 ≤ bl ∧ bl ≤ 255 <;> simp [mayQ, condQ, onlyQ, lqB, layQ, rqF, eqQ, Req.bare, exq, okF, Prt.nil, fVol, fBlo, Prt.num, placeQ, c0, c1]
set_option maxHeartbeats 4000000 in
theorem lq_12 (te qu vo bl no : Int) (di wr sa da : ByteArray) (c0 : 1 ≤ vo ∧ vo ≤ 99) (c1 : 0 ≤ bl ∧ bl ≤ 255) : lqL ⟨12, te, qu, vo, bl, no, di, wr, sa, da⟩ = numB vo 1 ++ (numB bl 1) := by
  simp [lqL, layQ, rqF, exq, okF, byF, Prt.nil, fVol, fBlo, Prt.num, c0, c1]
set_option maxHeartbeats 4000000 in
theorem may_c12 (te qu vo bl no : Int) (di wr sa da : ByteArray) (h : mayQ ⟨12, te, qu, vo, bl, no, di, wr, sa, da⟩ = true) : (1 ≤ vo ∧ vo ≤ 99) ∧ (0 ≤ bl ∧ bl ≤ 255) := by
  unfold mayQ at h
  have h2 : (placeQ vo bl) = true := by
    have e : condQ ⟨12, te, qu, vo, bl, no, di, wr, sa, da⟩ = (placeQ vo bl) := by simp [condQ]
    rw [← e]
    simp only [Bool.and_eq_true] at h
    exact h.2
  simp [placeQ, Bool.and_eq_true] at h2
  omega
theorem may_eq (r : Req) (h : 1 ≤ r.kd ∧ r.kd ≤ 12) : mayQ r = lqB r := by
  obtain ⟨kd, te, qu, vo, bl, no, di, wr, sa, da⟩ := r
  rcases kinds12 h with rfl | rfl | rfl | rfl | rfl | rfl | rfl | rfl | rfl | rfl | rfl | rfl
  · exact may_eq1 te qu vo bl no di wr sa da
  · exact may_eq2 te qu vo bl no di wr sa da
  · exact may_eq3 te qu vo bl no di wr sa da
  · exact may_eq4 te qu vo bl no di wr sa da
  · exact may_eq5 te qu vo bl no di wr sa da
  · exact may_eq6 te qu vo bl no di wr sa da
  · exact may_eq7 te qu vo bl no di wr sa da
  · exact may_eq8 te qu vo bl no di wr sa da
  · exact may_eq9 te qu vo bl no di wr sa da
  · exact may_eq10 te qu vo bl no di wr sa da
  · exact may_eq11 te qu vo bl no di wr sa da
  · exact may_eq12 te qu vo bl no di wr sa da
set_option maxHeartbeats 4000000 in
theorem fields_any (r : Req) (h : 1 ≤ r.kd ∧ r.kd ≤ 12) (hm : mayQ r = true) (w : World) : Calls Tryz.prog 54 #[.agg r.cl.toArray] w fun e w' => e = .returned (.string (strOfNums (lqL r))) ∧ Below w.heap.size w w' := by
  obtain ⟨kd, te, qu, vo, bl, no, di, wr, sa, da⟩ := r
  rcases kinds12 h with rfl | rfl | rfl | rfl | rfl | rfl | rfl | rfl | rfl | rfl | rfl | rfl
  · obtain ⟨c0, c1⟩ := may_c1 te qu vo bl no di wr sa da hm
    obtain ⟨ten, rfl⟩ : ∃ q : Nat, te = (q : Int) := ⟨te.toNat, by omega⟩
    obtain ⟨qun, rfl⟩ : ∃ q : Nat, qu = (q : Int) := ⟨qu.toNat, by omega⟩
    rw [lq_1 (ten : Int) (qun : Int) vo bl no di wr sa da c0 c1]
    have e : strOfNums (numB (ten : Int) 1 ++ (numB (qun : Int) 2)) = (strOfNums (numB (ten : Int) 1) ++ strOfNums (numB (qun : Int) 2)) := by simp only [strOfNums_app]
    rw [e]
    exact fields_1 ten qun vo bl no di wr sa da (by omega) (by omega)  w
  · have c0 := may_c2 te qu vo bl no di wr sa da hm
    obtain ⟨ten, rfl⟩ : ∃ q : Nat, te = (q : Int) := ⟨te.toNat, by omega⟩
    rw [lq_2 (ten : Int) qu vo bl no di wr sa da c0]
    exact fields_2 ten qu vo bl no di wr sa da (by omega)  w
  · have c0 := may_c3 te qu vo bl no di wr sa da hm
    obtain ⟨ten, rfl⟩ : ∃ q : Nat, te = (q : Int) := ⟨te.toNat, by omega⟩
    rw [lq_3 (ten : Int) qu vo bl no di wr sa da c0]
    exact fields_3 ten qu vo bl no di wr sa da (by omega)  w
  · have c0 := may_c4 te qu vo bl no di wr sa da hm
    obtain ⟨von, rfl⟩ : ∃ q : Nat, vo = (q : Int) := ⟨vo.toNat, by omega⟩
    rw [lq_4 te qu (von : Int) bl no di wr sa da c0]
    exact fields_4 von te qu bl no di wr sa da (by omega)  w
  · have c0 := may_c5 te qu vo bl no di wr sa da hm
    obtain ⟨von, rfl⟩ : ∃ q : Nat, vo = (q : Int) := ⟨vo.toNat, by omega⟩
    rw [lq_5 te qu (von : Int) bl no di wr sa da c0]
    exact fields_5 von te qu bl no di wr sa da (by omega)  w
  · rw [lq_6 te qu vo bl no di wr sa da ]
    have e : strOfNums [] = ⟨#[]⟩ := rfl
    rw [e]
    exact fields_6  te qu vo bl no di wr sa da   w
  · rw [lq_7 te qu vo bl no di wr sa da ]
    have e : strOfNums [] = ⟨#[]⟩ := rfl
    rw [e]
    exact fields_7  te qu vo bl no di wr sa da   w
  · obtain ⟨c0, c1, c2, c3⟩ := may_c8 te qu vo bl no di wr sa da hm
    obtain ⟨von, rfl⟩ : ∃ q : Nat, vo = (q : Int) := ⟨vo.toNat, by omega⟩
    obtain ⟨bln, rfl⟩ : ∃ q : Nat, bl = (q : Int) := ⟨bl.toNat, by omega⟩
    rw [lq_8 te qu (von : Int) (bln : Int) no di wr sa da c0 c1 c2 c3]
    have e : strOfNums (numB (von : Int) 1 ++ (numB (bln : Int) 1 ++ (nums di ++ (nums wr)))) = (((strOfNums (numB (von : Int) 1) ++ strOfNums (numB (bln : Int) 1)) ++ di) ++ wr) := by simp only [strOfNums_app, strOfNums_nums, ByteArray.append_assoc]
    rw [e]
    exact fields_8 von bln te qu no di wr sa da (by omega) (by omega) (by omega) (by omega) w
  · obtain ⟨c0, c1⟩ := may_c9 te qu vo bl no di wr sa da hm
    obtain ⟨non, rfl⟩ : ∃ q : Nat, no = (q : Int) := ⟨no.toNat, by omega⟩
    rw [lq_9 te qu vo bl (non : Int) di wr sa da c0 c1]
    have e : strOfNums (numB (non : Int) 4 ++ (nums sa)) = (strOfNums (numB (non : Int) 4) ++ sa) := by simp only [strOfNums_app, strOfNums_nums]
    rw [e]
    exact fields_9 non te qu vo bl di wr sa da (by omega) (by omega) w
  · obtain ⟨c0, c1, c2, c3⟩ := may_c10 te qu vo bl no di wr sa da hm
    obtain ⟨von, rfl⟩ : ∃ q : Nat, vo = (q : Int) := ⟨vo.toNat, by omega⟩
    obtain ⟨bln, rfl⟩ : ∃ q : Nat, bl = (q : Int) := ⟨bl.toNat, by omega⟩
    rw [lq_10 te qu (von : Int) (bln : Int) no di wr sa da c0 c1 c2 c3]
    have e : strOfNums (numB (von : Int) 1 ++ (numB (bln : Int) 1 ++ (nums wr ++ (nums da)))) = (((strOfNums (numB (von : Int) 1) ++ strOfNums (numB (bln : Int) 1)) ++ wr) ++ da) := by simp only [strOfNums_app, strOfNums_nums, ByteArray.append_assoc]
    rw [e]
    exact fields_10 von bln te qu no di wr sa da (by omega) (by omega) (by omega) (by omega) w
  · obtain ⟨c0, c1⟩ := may_c11 te qu vo bl no di wr sa da hm
    obtain ⟨von, rfl⟩ : ∃ q : Nat, vo = (q : Int) := ⟨vo.toNat, by omega⟩
    obtain ⟨bln, rfl⟩ : ∃ q : Nat, bl = (q : Int) := ⟨bl.toNat, by omega⟩
    rw [lq_11 te qu (von : Int) (bln : Int) no di wr sa da c0 c1]
    have e : strOfNums (numB (von : Int) 1 ++ (numB (bln : Int) 1)) = (strOfNums (numB (von : Int) 1) ++ strOfNums (numB (bln : Int) 1)) := by simp only [strOfNums_app]
    rw [e]
    exact fields_11 von bln te qu no di wr sa da (by omega) (by omega)  w
  · obtain ⟨c0, c1⟩ := may_c12 te qu vo bl no di wr sa da hm
    obtain ⟨von, rfl⟩ : ∃ q : Nat, vo = (q : Int) := ⟨vo.toNat, by omega⟩
    obtain ⟨bln, rfl⟩ : ∃ q : Nat, bl = (q : Int) := ⟨bl.toNat, by omega⟩
    rw [lq_12 te qu (von : Int) (bln : Int) no di wr sa da c0 c1]
    have e : strOfNums (numB (von : Int) 1 ++ (numB (bln : Int) 1)) = (strOfNums (numB (von : Int) 1) ++ strOfNums (numB (bln : Int) 1)) := by simp only [strOfNums_app]
    rw [e]
    exact fields_12 von bln te qu no di wr sa da (by omega) (by omega)  w
end Go.Proofs.YtclgkgaobjcifaaGreatDoor

namespace Go.Proofs.YtclgkgaobjcifaaGreatDoor
open Go.RowKit
set_option maxRecDepth 100000
set_option maxHeartbeats 4000000 in
theorem rencode_kind (r : Req) (h : ¬ (1 ≤ r.kd ∧ r.kd ≤ 12)) (w : World) : Calls Tryz.prog 24 #[.agg r.cl.toArray] w fun e w' => e = .returned (.tuple #[.string ⟨#[]⟩, .int .i64 120]) ∧ Below w.heap.size w w' := by
  obtain ⟨g, hg⟩ : ∃ g, w.heap.size = g := ⟨_, rfl⟩
  obtain ⟨x2, hx2⟩ : ∃ Z, w.alloc (.cells r.cl.toArray 29) = Z := ⟨_, rfl⟩
  have B : Blk x2 g r.cl.toArray 29 := by rw [← hx2, ← hg]; exact Blk.new w _ _
  have hb : Below g w x2 := by rw [← hx2, ← hg]; exact (Below.refl _ w).alloc (Nat.le_refl _) _
  have d0 : x2.cell? ⟨g, 0, none⟩ = some (.int .i64 r.kd) := by rw [B.cell]; rfl
  have HB2 := hide hb
  clear B hb
  generalize r.kd = kd at *
  generalize r.cl = rl at *
  rw [hg]
  by_cases h0 : kd < 1
  · have h1 : decide (kd < 1) = true := by simpa using h0
    clear h h0
    go_enter Tryz.func24, Tryz.ntmps24
    go_wp2
    go_ret2
    exact ⟨rfl, unhide HB2⟩
  · have h1 : decide (kd < 1) = false := by simpa using h0
    have h2 : decide (kd > 12) = true := by simp; omega
    clear h h0
    go_enter Tryz.func24, Tryz.ntmps24
    go_wp2
    go_ret2
    exact ⟨rfl, unhide HB2⟩
set_option maxHeartbeats 4000000 in
theorem rencode_ok (r : Req) (h : 1 ≤ r.kd ∧ r.kd ≤ 12) (w : World) : Calls Tryz.prog 24 #[.agg r.cl.toArray] w fun e w' => e = .returned (.tuple #[.string (encQ r), .int .i64 (errQ r)]) ∧ Below w.heap.size w w' := by
  obtain ⟨g, hg⟩ : ∃ g, w.heap.size = g := ⟨_, rfl⟩
  obtain ⟨x2, hx2⟩ : ∃ Z, w.alloc (.cells r.cl.toArray 29) = Z := ⟨_, rfl⟩
  have B : Blk x2 g r.cl.toArray 29 := by rw [← hx2, ← hg]; exact Blk.new w _ _
  have hb : Below g w x2 := by rw [← hx2, ← hg]; exact (Below.refl _ w).alloc (Nat.le_refl _) _
  have d0 : x2.cell? ⟨g, 0, none⟩ = some (.int .i64 r.kd) := by rw [B.cell]; rfl
  have HB2 := hide (And.intro hb (Nat.le_of_lt B.lt))
  have HMA := hide (may_any r h x2)
  have h1 : decide (r.kd < 1) = false := by simp; omega
  have h2 : decide (r.kd > 12) = false := by simp; omega
  have HRG := hide (show x2.rangeAt g 0 r.cl from blk_range B)
  have HBX := hide B
  rw [encQ, errQ, if_pos h, if_pos h, ← may_eq r h]
  cases hm : mayQ r with
  | false =>
    rw [hm] at HMA
    rw [if_neg (by decide), if_neg (by decide)]
    clear B hb h hm
    rw [hg]
    generalize r.kd = kd at *
    generalize hrl : r.cl = rl at *
    have HSZ := hide (show (Tryz.prog.info? 29).map (·.size) = some rl.length by rw [← hrl]; exact size_req)
    clear hrl
    go_enter Tryz.func24, Tryz.ntmps24
    go_wp2_with (refine wpList_load_mid rfl 29 (.tmp 1) rfl g 0 rfl rl _ (unhide HRG) Tryz.underlying29 rfl (unhide HSZ) ?_)
    refine (unhide HMA).mono ?_
    rintro e x3 ⟨rfl, hx3⟩
    have HX3 := hide (show Below g w x3 from (unhide HB2).1.trans (hx3.mono (unhide HB2).2))
    clear hx3
    go_wp2
    go_ret2
    exact ⟨rfl, unhide HX3⟩
  | true =>
    rw [hm] at HMA
    rw [if_pos rfl, if_pos rfl]
    have HFI := hide (fun W => fields_any r h hm W)
    obtain ⟨k, hk⟩ : ∃ q : Nat, r.kd = (q : Int) := ⟨r.kd.toNat, by omega⟩
    have HNU := hide (fun W => rnum_of k 1 (by omega) (by decide) W)
    have hel := eqL_len r
    have hsz : (strOfNums (eqL r)).size = (eqL r).length := strOfNums_size _
    have hen : nums (strOfNums (eqL r)) = eqL r := nums_strOfNums _ hel.2
    have HCK := hide (fun W => rcheck_any (strOfNums (eqL r)) (by omega) W)
    rw [hen] at HCK
    have HLO := hide (fun W => low4_any (chkN (eqL r)) (chkN_lt _) W)
    have hES : strOfNums (numB (k : Int) 1) ++ strOfNums (lqL r) = strOfNums (eqL r) := by rw [eqL, strOfNums_app, hk]
    have hll := (lqL_len r).1
    have y1 : ¬ 9223372036854775807 < (strOfNums (numB (k : Int) 1)).size + (strOfNums (lqL r)).size := by rw [strOfNums_size, strOfNums_size, numB_len]; omega
    have y2 : ¬ 9223372036854775807 < (strOfNums (eqL r)).size + (strOfNums (le4 (chkN (eqL r)))).size := by
      have h4 : (strOfNums (le4 (chkN (eqL r)))).size = 4 := by rw [strOfNums_size]; rfl
      omega
    have HQ0 := hide (show r.cl.toArray[0]? = some (.int .i64 (k : Int)) by rw [← hk]; rfl)
    rw [hk] at d0 h1 h2
    clear B hb h hm hk hel hsz hen hll
    generalize strOfNums (numB (k : Int) 1) = SK at *
    generalize strOfNums (lqL r) = SF at *
    generalize strOfNums (le4 (chkN (eqL r))) = S4 at *
    generalize chkN (eqL r) = C at *
    generalize strOfNums (eqL r) = SE at *
    rw [hg]
    go_enter Tryz.func24, Tryz.ntmps24
    go_wp2_with (refine wpList_load_mid rfl 29 (.tmp 1) rfl g 0 rfl r.cl _ (unhide HRG) Tryz.underlying29 rfl size_req ?_)
    refine (unhide HMA).mono ?_
    rintro e x3 ⟨rfl, hx3⟩
    have HX3 := hide (show Below g w x3 from (unhide HB2).1.trans (hx3.mono (unhide HB2).2))
    have HS3 := hide ((unhide HBX).below hx3 (unhide HBX).lt)
    clear hx3 d0
    go_wp2
    refine wp_region_held_drew (S := fun w' => Blk w' g r.cl.toArray 29) (by kernel_rfl) (unhide HS3) ?_
    intro hS
    refine wpAnyH_takeD 0 (some 18) (.pointer (some ⟨g, 0, none⟩)) rfl rfl (by kernel_rfl) (by kernel_rfl) (by kernel_rfl) (fun _ _ _ h => h) (Or.inl ⟨by rfl, fun w hSw => by have q0 : w.cell? ⟨g, 0, none⟩ = some (.int .i64 (k : Int)) := (Blk.cell hSw 0).trans (unhide HQ0); clear hSw; go_simp⟩) hS ?_
    simp only [Act.put, List.setIfInBounds_toArray, List.set_cons_zero, List.set_cons_succ]
    refine wpAnyH_takeD 1 (some 19) (.int .i64 (k : Int)) rfl rfl (by kernel_rfl) (by kernel_rfl) (by kernel_rfl) (fun _ _ _ h => h) (Or.inl ⟨by rfl, fun w hSw => by have q0 : w.cell? ⟨g, 0, none⟩ = some (.int .i64 (k : Int)) := (Blk.cell hSw 0).trans (unhide HQ0); clear hSw; go_simp⟩) hS ?_
    simp only [Act.put, List.setIfInBounds_toArray, List.set_cons_zero, List.set_cons_succ]
    refine wpAnyH_takeD 3 (some 21) (.agg r.cl.toArray) rfl rfl (by kernel_rfl) (by kernel_rfl) (by kernel_rfl) (fun _ _ _ h => h) (yieldsIf_load_mid (by rfl) 29 (.tmp 1) rfl g 0 rfl _ _ (fun w hSw => blk_range hSw) Tryz.underlying29 rfl size_req) hS ?_
    simp only [Act.put, List.setIfInBounds_toArray, List.set_cons_zero, List.set_cons_succ]
    refine wpAnyH_ready (rs := [2]) (by kernel_rfl) (by simp) ?_
    refine AllReadyH.cons rfl (fun K hK => ?_) AllReadyH.nil
    simp only [List.getElem_toArray, List.getElem_cons_succ, List.getElem_cons_zero]
    go_simp
    refine (unhide HNU _).mono ?_
    rintro e x4 ⟨rfl, hbA⟩
    have HP4 := hide (show Below x3.heap.size x3 x4 from ((Below.refl _ x3).drew).trans hbA)
    have HS4 := hide ((unhide HS3).below (unhide HP4) (unhide HS3).lt)
    clear hbA
    refine hK.out _ _ (unhide HS4) (fun hS => ?_)
    clear hK K
    refine wpAnyH_ready (rs := [4]) (by kernel_rfl) (by simp) ?_
    refine AllReadyH.cons rfl (fun K hK => ?_) AllReadyH.nil
    simp only [List.getElem_toArray, List.getElem_cons_succ, List.getElem_cons_zero]
    go_simp
    refine (unhide HFI _).mono ?_
    rintro e x5 ⟨rfl, hbA⟩
    have HP5 := hide (show Below x3.heap.size x3 x5 from (unhide HP4).trans (hbA.mono (unhide HP4).size))
    have HS5 := hide ((unhide HS3).below (unhide HP5) (unhide HS3).lt)
    clear hbA
    refine hK.out _ _ (unhide HS5) (fun hS => ?_)
    clear hK K
    refine wpAnyH_takeD 5 (some 23) (.string SE) rfl rfl (by kernel_rfl) (by kernel_rfl) (by kernel_rfl) (fun _ _ _ h => h) (Or.inl ⟨by rfl, fun w hSw => by have q0 : w.cell? ⟨g, 0, none⟩ = some (.int .i64 (k : Int)) := (Blk.cell hSw 0).trans (unhide HQ0); clear hSw; go_simp⟩) hS ?_
    simp only [Act.put, List.setIfInBounds_toArray, List.set_cons_zero, List.set_cons_succ]
    refine wpAnyH_takeD 6 (some 5) (.string SE) rfl rfl (by kernel_rfl) (by kernel_rfl) (by kernel_rfl) (fun _ _ _ h => h) (Or.inl ⟨by rfl, fun w hSw => by have q0 : w.cell? ⟨g, 0, none⟩ = some (.int .i64 (k : Int)) := (Blk.cell hSw 0).trans (unhide HQ0); clear hSw; go_simp⟩) hS ?_
    simp only [Act.put, List.setIfInBounds_toArray, List.set_cons_zero, List.set_cons_succ]
    refine wpAnyH_done (by kernel_rfl) ?_ _
    have HX5 := hide (show Below g w x5 from (unhide HX3).trans ((unhide HP5).mono (Nat.le_of_lt (unhide HS3).lt)))
    go_wp2_with fail
    refine (unhide HCK _).mono ?_
    rintro e x6 ⟨rfl, hx6⟩
    subst x6
    go_wp2_with fail
    refine (unhide HLO _).mono ?_
    rintro e x7 ⟨rfl, hx7⟩
    have HX7 := hide (show Below g w x7 from (unhide HX5).trans (hx7.mono (by have := (unhide HS5).lt; omega)))
    clear hx7
    go_wp2
    go_ret2
    exact ⟨rfl, unhide HX7⟩
theorem rencode_any (r : Req) (w : World) : Calls Tryz.prog 24 #[.agg r.cl.toArray] w fun e w' => e = .returned (.tuple #[.string (encQ r), .int .i64 (errQ r)]) ∧ Below w.heap.size w w' := by
  by_cases h : 1 ≤ r.kd ∧ r.kd ≤ 12
  · exact rencode_ok r h w
  · rw [encQ, errQ, if_neg h, if_neg h]
    exact rencode_kind r h w
end Go.Proofs.YtclgkgaobjcifaaGreatDoor
