import Derived.Test.YtifjmldmilmfjaaGreatDoorMp15
import Derived.Test.YtifjmldmilmfjaaGreatDoorMp09
import Derived.Test.YtifjmldmilmfjaaGreatDoorMp16
import Derived.Test.YtifjmldmilmfjaaGreatDoorMp18
namespace Go.Proofs.YtifjmldmilmfjaaGreatDoor
open Go.RowKit
set_option maxRecDepth 100000
/-- what Take says, and what an end is behind it -/
def LE.old (e : LE) (n : Nat) : Bool := decide (n < e.t ∧ (32 ≤ e.t - 1 - n ∨ e.m / 2 ^ (e.t - 1 - n) % 2 = 1))
def LE.tkE (e : LE) (f : ByteArray) : Int := if e.r = false then 211 else if isB (e.z (1 - e.i)) f = false then 212 else if e.old (nrB f).toNat then 213 else 0
def LE.tkM (e : LE) (f : ByteArray) : ByteArray := if e.tkE f = 0 then hdB (e.h (1 - e.i)) (nrB f) (rsB f) else ⟨#[]⟩
def LE.tkN (e : LE) (f : ByteArray) : LE := if e.tkE f = 0 then { e with t := mkT e.t (nrB f).toNat, m := mkM e.t e.m (nrB f).toNat, q := e.q + 1 } else e
theorem mkM_lt (t m n : Nat) (hm : m < 4294967296) (h : n < t → t - 1 - n < 32) : mkM t m n < 4294967296 := by
  unfold mkM
  split
  · rename_i q
    exact Nat.or_lt_two_pow (n := 32) hm (Nat.pow_lt_pow_right (a := 2) (by decide) (h q))
  · exact Nat.or_lt_two_pow (n := 32) (Nat.mod_lt _ (by decide)) (by decide)
set_option maxHeartbeats 4000000 in
theorem ltake_any (g : Nat) (e : LE) (f : ByteArray) (hf : f.size ≤ 4611686018427387904) (hq9 : e.q < 4611686018427387904) (w : World) (hE : EndM w g e) (hK : KTab w) (hG : ETy w) : Calls Tryz.prog 12 #[.pointer (some ⟨g, 3, none⟩), .string f] w fun ev w' => ev = .returned (.tuple #[.string (e.tkM f), .int .i64 (e.tkE f)]) ∧ EndM w' g (e.tkN f) ∧ Only (fun k => k = g) w w' := by
  obtain ⟨E9, hE9⟩ : ∃ z, e.tkE f = z := ⟨_, rfl⟩
  obtain ⟨e9, he9⟩ : ∃ z, e.tkN f = z := ⟨_, rfl⟩
  obtain ⟨F9, hF9⟩ : ∃ z, e.tkM f = z := ⟨_, rfl⟩
  rw [hE9, he9, hF9]
  have HM := hide (mayTake_any g e w hE)
  have HE := hide hE
  cases hr : e.r
  · have h9 : E9 = 211 := by rw [← hE9, LE.tkE, if_pos hr]
    have h8 : e9 = e := by rw [← he9, LE.tkN, hE9, h9]; rfl
    have h7 : F9 = ⟨#[]⟩ := by rw [← hF9, LE.tkM, hE9, h9]; rfl
    rw [hr] at HM
    subst h8
    rw [h9, h7]
    clear hE hE9 he9 hF9 h9 h7 hr hK hG
    go_enter Tryz.func12, Tryz.ntmps12
    go_wp2_with fail
    refine (unhide HM).mono ?_
    rintro ev y ⟨rfl, hb⟩
    have HB := hide (And.intro ((unhide HE).below hb (unhide HE).lt) (Only.of_below (P := fun k => k = g) hb))
    clear hb
    go_wp2
    go_ret2
    exact ⟨rfl, (unhide HB).1, (unhide HB).2⟩
  rw [hr] at HM
  have hle := e.hle (1 - e.i)
  have HRD := hide (fun W (hW : KTab W) (hX : ETy W) => read_any (e.h (1 - e.i)) (e.z (1 - e.i)) f (by omega) (by omega) hf W hW hX)
  have HKB := hide (show ∀ W, Below w.heap.size w W → KTab W ∧ ETy W from fun W hW => ⟨hK.below hW hK.1, hG.below hW hG.lt⟩)
  have HBK := hide (show ∀ W, Below w.heap.size w W → EndM W g e ∧ W.cell? ⟨g, 3, none⟩ = some (.string (e.h (1 - e.i))) ∧ W.cell? ⟨g, 4, none⟩ = some (.string (e.z (1 - e.i))) from fun W hW => ⟨hE.below hW hE.lt, (hE.1.below hW hE.lt).cell 3, (hE.1.below hW hE.lt).cell 4⟩)
  obtain ⟨Z, hZ⟩ : ∃ z, isB (e.z (1 - e.i)) f = z := ⟨_, rfl⟩
  rw [hZ] at HRD
  cases Z
  · have h9 : E9 = 212 := by rw [← hE9, LE.tkE, if_neg (by rw [hr]; decide), if_pos hZ]
    have h8 : e9 = e := by rw [← he9, LE.tkN, hE9, h9]; rfl
    have h7 : F9 = ⟨#[]⟩ := by rw [← hF9, LE.tkM, hE9, h9]; rfl
    subst h8
    rw [h9, h7]
    simp only [if_neg (show ¬ (false = true) by decide)] at HRD
    clear hE hE9 he9 hF9 h9 h7 hr hK hG hZ hle
    generalize e9.h (1 - e9.i) = A at *
    generalize e9.z (1 - e9.i) = B at *
    go_enter Tryz.func12, Tryz.ntmps12
    go_wp2_with fail
    refine (unhide HM).mono ?_
    rintro ev y ⟨rfl, hb⟩
    have HB := hide hb
    have hq := unhide HBK y hb
    have c3 := hq.2.1
    have c4 := hq.2.2
    clear hb hq
    go_wp2_with fail
    refine (unhide HRD y (unhide HKB y (unhide HB)).1 (unhide HKB y (unhide HB)).2).mono ?_
    rintro ev y2 ⟨rfl, hb⟩
    have hb2 := (unhide HB).trans (hb.mono (unhide HB).size)
    have HB2 := hide (And.intro ((unhide HE).below hb2 (unhide HE).lt) (Only.of_below (P := fun k => k = g) hb2))
    clear hb hb2
    go_wp2
    go_ret2
    exact ⟨rfl, (unhide HB2).1, (unhide HB2).2⟩
  simp only [if_true] at HRD
  obtain ⟨V, hV⟩ : ∃ z, (nrB f).toNat = z := ⟨_, rfl⟩
  have hnr : nrB f = (V : Int) := by have := nrB_pos f; omega
  have hV9 : V < 9223372036854775808 := by
    have := (of_decide_eq_true hZ).2.2.2.2
    omega
  have hwV : IntKind.u64.wrap (V : Int) = (V : Int) := by rw [IntKind.wrap_u64]; omega
  have ht9 := hE.2.t
  have hm9 := hE.2.m
  have HOL := hide (fun W (hW : EndM W g e) => isOld_any g 5 e.t e.m V ht9 hm9 W (hW.1.cell 5) (hW.1.cell 6))
  rw [show decide (V < e.t ∧ (32 ≤ e.t - 1 - V ∨ e.m / 2 ^ (e.t - 1 - V) % 2 = 1)) = e.old V from rfl] at HOL
  rw [hnr] at HRD
  obtain ⟨M, hM⟩ : ∃ z, hdB (e.h (1 - e.i)) (V : Int) (rsB f) = z := ⟨_, rfl⟩
  rw [hM] at HRD
  obtain ⟨D, hD⟩ : ∃ z, e.old V = z := ⟨_, rfl⟩
  rw [hD] at HOL
  cases D
  · have h9 : E9 = 0 := by rw [← hE9, LE.tkE, if_neg (by rw [hr]; decide), if_neg (by rw [hZ]; decide), hV, hD]; rfl
    have h8 : e9 = { e with t := mkT e.t V, m := mkM e.t e.m V, q := e.q + 1 } := by rw [← he9, LE.tkN, hE9, h9, hV, if_pos rfl]
    have h7 : F9 = M := by rw [← hF9, LE.tkM, hE9, h9, ← hM, hnr, if_pos rfl]
    rw [h9, h8, h7]
    have hnew : V < e.t → e.t - 1 - V < 32 := fun q => by
      have := of_decide_eq_false hD
      refine Nat.lt_of_not_le (fun q2 => this ⟨q, .inl q2⟩)
    have hTT : mkT e.t V ≤ 9223372036854775808 := by unfold mkT; split <;> omega
    have hMM := mkM_lt e.t e.m V hm9 hnew
    have hQQ : e.q + 1 ≤ 4611686018427387904 := Nat.succ_le_of_lt hq9
    have HMK := hide (fun W (hW : EndM W g e) => mark_any g 5 e.t e.m V ht9 hV9 hm9 hnew e.cs 50 W hW.1 rfl rfl)
    obtain ⟨T2, hT2⟩ : ∃ z, mkT e.t V = z := ⟨_, rfl⟩
    obtain ⟨M2, hM2⟩ : ∃ z, mkM e.t e.m V = z := ⟨_, rfl⟩
    rw [hT2, hM2] at HMK ⊢
    rw [hT2] at hTT
    rw [hM2] at hMM
    clear hT2 hM2
    have ew : wrap64 ((e.q : Int) + 1) = (e.q : Int) + 1 := wrap64_eq _ (by omega) (by omega)
    have HZZ := hide (show ∀ W, Blk W g (((e.cs.setIfInBounds 6 (.int .u32 (M2 : Int))).setIfInBounds 5 (.int .u64 (T2 : Int))).setIfInBounds 7 (.int .i64 ((e.q : Int) + 1))) 50 → EndM W g { e with t := T2, m := M2, q := e.q + 1 } from fun W hW => ⟨by
      rw [show ((e.q : Int) + 1) = ((e.q + 1 : Nat) : Int) by omega] at hW
      exact hW, hE.2.k, hE.2.n, hE.2.o, hE.2.i, hE.2.s, hTT, hMM, hQQ⟩)
    have HC7 := hide (show ∀ W a b, Blk W g ((e.cs.setIfInBounds 6 a).setIfInBounds 5 b) 50 → W.cell? ⟨g, 7, none⟩ = some (.int .i64 (e.q : Int)) ∧ W.frozen? ⟨g, 7, none⟩ = false from fun W a b hW => ⟨hW.cell 7, hW.frozen 7⟩)
    clear hE hE9 he9 hF9 h9 h8 h7 hr hK hG hZ hle hnr hV hM hD hnew hV9 ht9 hm9 hq9 hTT hMM hQQ
    obtain ⟨q, hq⟩ : ∃ z, e.q = z := ⟨_, rfl⟩
    obtain ⟨cs, hcs⟩ : ∃ z, e.cs = z := ⟨_, rfl⟩
    rw [hcs] at HMK
    rw [hq, hcs] at HZZ HC7
    rw [hq] at ew ⊢
    generalize e.h (1 - e.i) = A at *
    generalize e.z (1 - e.i) = B at *
    clear hq hcs
    go_enter Tryz.func12, Tryz.ntmps12
    go_wp2_with fail
    refine (unhide HM).mono ?_
    rintro ev y ⟨rfl, hb⟩
    have HB := hide hb
    have hq := unhide HBK y hb
    have c3 := hq.2.1
    have c4 := hq.2.2
    clear hb hq
    go_wp2_with fail
    refine (unhide HRD y (unhide HKB y (unhide HB)).1 (unhide HKB y (unhide HB)).2).mono ?_
    rintro ev y2 ⟨rfl, hb⟩
    have hb2 := (unhide HB).trans (hb.mono (unhide HB).size)
    have HE2 := hide ((unhide HE).below hb2 (unhide HE).lt)
    have HO2 := hide (Only.of_below (P := fun k => k = g) hb2)
    clear hb hb2 c3 c4 HB HRD HKB HBK HM
    go_wp2_with fail
    refine (unhide HOL y2 (unhide HE2)).mono ?_
    rintro ev y ⟨rfl, hy⟩
    subst y
    go_wp2_with fail
    refine (unhide HMK y2 (unhide HE2)).mono ?_
    rintro ev y3 ⟨rfl, hB3, hO3⟩
    have h7 := unhide HC7 y3 _ _ hB3
    have c7 := h7.1
    have f7 := h7.2
    have HE8 := hide (show EndM (y3.setCell ⟨g, 7, none⟩ (.int .i64 ((q : Int) + 1))) g { e with t := T2, m := M2, q := q + 1 } from unhide HZZ _ (hB3.set 7 _))
    have HO8 := hide (show Only (fun k => k = g) w (y3.setCell ⟨g, 7, none⟩ (.int .i64 ((q : Int) + 1))) from ((unhide HO2).trans hO3 (fun _ _ q => q)).setCell _ _ (fun _ => rfl))
    clear hB3 hO3 h7 HC7 HZZ HMK HOL HE HE2 HO2
    go_wp2
    go_ret2
    exact ⟨rfl, unhide HE8, unhide HO8⟩
  · have h9 : E9 = 213 := by rw [← hE9, LE.tkE, if_neg (by rw [hr]; decide), if_neg (by rw [hZ]; decide), hV, hD]; rfl
    have h8 : e9 = e := by rw [← he9, LE.tkN, hE9, h9]; rfl
    have h7 : F9 = ⟨#[]⟩ := by rw [← hF9, LE.tkM, hE9, h9]; rfl
    subst h8
    rw [h9, h7]
    clear hE hE9 he9 hF9 h9 h7 hr hK hG hZ hle hnr hV hM hD hV9 ht9 hm9 hq9
    generalize e9.h (1 - e9.i) = A at *
    generalize e9.z (1 - e9.i) = B at *
    go_enter Tryz.func12, Tryz.ntmps12
    go_wp2_with fail
    refine (unhide HM).mono ?_
    rintro ev y ⟨rfl, hb⟩
    have HB := hide hb
    have hq := unhide HBK y hb
    have c3 := hq.2.1
    have c4 := hq.2.2
    clear hb hq
    go_wp2_with fail
    refine (unhide HRD y (unhide HKB y (unhide HB)).1 (unhide HKB y (unhide HB)).2).mono ?_
    rintro ev y2 ⟨rfl, hb⟩
    have hb2 := (unhide HB).trans (hb.mono (unhide HB).size)
    have HE2 := hide ((unhide HE).below hb2 (unhide HE).lt)
    have HO2 := hide (Only.of_below (P := fun k => k = g) hb2)
    clear hb hb2 c3 c4 HB HRD HKB HBK HM
    go_wp2_with fail
    refine (unhide HOL y2 (unhide HE2)).mono ?_
    rintro ev y ⟨rfl, hy⟩
    subst y
    go_wp2
    go_ret2
    exact ⟨rfl, unhide HE2, unhide HO2⟩
end Go.Proofs.YtifjmldmilmfjaaGreatDoor

namespace Go.Proofs.YtifjmldmilmfjaaGreatDoor
open Go.RowKit
theorem numB_snoc (n x : Int) (k : Nat) (h0 : 0 ≤ x) (h1 : x < 256) : numB (256 * n + x) (k + 1) = numB n k ++ [x] := by
  unfold numB
  rw [List.range_succ, List.map_append]
  congr 1
  · refine List.map_congr_left fun i hi => ?_
    have hik : i < k := List.mem_range.1 hi
    rw [show 8 * (k + 1 - 1 - i) = 8 + 8 * (k - 1 - i) by omega, Int.pow_add, ← Int.ediv_ediv_of_nonneg (by decide)]
    have : (256 * n + x) / 2 ^ 8 = n := by
      have e : (2 : Int) ^ 8 = 256 := by decide
      rw [e]
      omega
    rw [this]
  · simp
    omega
end Go.Proofs.YtifjmldmilmfjaaGreatDoor

namespace Go.Proofs.YtifjmldmilmfjaaGreatDoor
open Go.RowKit
set_option maxRecDepth 100000
theorem be_numBK : ∀ (k : Nat) (n : Int), 0 ≤ n → n / 2 ^ (8 * k) = 0 → beN (numB n k) = n
  | 0, n, h0, h => by
    have : n = 0 := by simpa using h
    subst this
    rfl
  | k + 1, n, h0, h => by
    have e : n = 256 * (n / 256) + n % 256 := by omega
    have hx : 0 ≤ n % 256 ∧ n % 256 < 256 := by omega
    rw [e, numB_snoc _ _ _ hx.1 hx.2, beN_snoc, be_numBK k (n / 256) (by omega) ?_]
    rw [Int.ediv_ediv_of_nonneg (by decide)]
    rw [show 8 * (k + 1) = 8 + 8 * k by omega, Int.pow_add] at h
    exact h
theorem be_num8 (n : Nat) (h : n < 9223372036854775808) : beN (numB (n : Int) 8) = (n : Int) := by
  refine be_numBK 8 _ (by omega) ?_
  rw [show ((2 : Int) ^ (8 * 8)) = 18446744073709551616 by decide]
  exact Int.ediv_eq_zero_of_lt (by omega) (by omega)
theorem ext_app (a b : ByteArray) : (a ++ b).extract 0 a.size = a ∧ (a ++ b).extract a.size (a ++ b).size = b := by
  constructor
  · apply nums_inj
    rw [nums_extract, nums_append, List.take_left' (nums_len a)]
    rfl
  · apply nums_inj
    rw [nums_tail, nums_append, List.drop_left' (nums_len a)]
/-- the body of a frame -/
def bdB (h : ByteArray) (n : Int) (m : ByteArray) : ByteArray := lmB ++ nuB n ++ hdB h n m
theorem frB_size (h s : ByteArray) (n : Int) (m : ByteArray) (hm : m.size ≤ 65536) : (frB h s n m).size = 26 + m.size := by
  rw [frB, tgB_size, ByteArray.size_append, ByteArray.size_append, nuB_size, hdB_size _ _ _ hm]
  show 2 + 8 + m.size + 16 = _
  omega
theorem boB_fr (h s : ByteArray) (n : Int) (m : ByteArray) : boB (frB h s n m) = bdB h n m := by
  rw [boB, frB, tgB_size]
  have h1 := (ext_app (bdB h n m) ((mcB s (bdB h n m)).extract 0 16)).1
  rw [show lmB ++ nuB n ++ hdB h n m = bdB h n m from rfl, Nat.add_sub_cancel]
  exact h1
theorem bdB_parts (h : ByteArray) (n : Int) (m : ByteArray) : (bdB h n m).extract 0 2 = lmB ∧ (nums ((bdB h n m).extract 2 (bdB h n m).size)).take 8 = numB n 8 ∧ (bdB h n m).extract 10 (bdB h n m).size = hdB h n m := by
  have e1 : bdB h n m = lmB ++ (nuB n ++ hdB h n m) := by rw [bdB, ByteArray.append_assoc]
  have e2 : (lmB ++ nuB n).size = 10 := by rw [ByteArray.size_append, nuB_size]; rfl
  refine ⟨?_, ?_, ?_⟩
  · rw [e1]; exact (ext_app lmB (nuB n ++ hdB h n m)).1
  · rw [e1]
    have := (ext_app lmB (nuB n ++ hdB h n m)).2
    rw [show lmB.size = 2 from rfl] at this
    rw [this, nums_append, List.take_left' (by rw [nums_len, nuB_size]), nuB, nums_strOfNums _ (numB_bytes _ _)]
  · have := (ext_app (lmB ++ nuB n) (hdB h n m)).2
    rw [e2] at this
    exact this
theorem frB_is (h s : ByteArray) (n : Nat) (m : ByteArray) (hn : n < 9223372036854775808) (hm : m.size ≤ 4096) : isB s (frB h s (n : Int) m) = true ∧ nrB (frB h s (n : Int) m) = (n : Int) ∧ rsB (frB h s (n : Int) m) = hdB h (n : Int) m := by
  have hb := boB_fr h s (n : Int) m
  obtain ⟨p1, p2, p3⟩ := bdB_parts h (n : Int) m
  have hnr : nrB (frB h s (n : Int) m) = (n : Int) := by rw [nrB, hb, p2, be_num8 n hn]
  refine ⟨?_, hnr, by rw [rsB, hb, p3]⟩
  have hz := frB_size h s (n : Int) m (by omega)
  unfold isB
  refine decide_eq_true ⟨by omega, by omega, ?_, by rw [hb, p1], by omega⟩
  rw [hb]
  rfl
theorem grB_he (k : ByteArray) (j : Nat) (n : ByteArray) (hn : n.size = 16) : grB k j (heB k j n) = true ∧ (heB k j n).extract 3 19 = n := by
  have hz := heB_size k j n
  have e1 : heB k j n = (lhB ++ sdB j) ++ (n ++ (mcB k (lhB ++ sdB j ++ n)).extract 0 16) := by rw [heB, tgB, ByteArray.append_assoc]
  have hx : (heB k j n).extract 3 19 = n := by
    have h3 : (lhB ++ sdB j).size = 3 := by rw [ByteArray.size_append, sdB_size]; rfl
    have h16 : (nums n).length = 16 := by rw [nums_len, hn]
    apply nums_inj
    rw [e1, nums_extract]
    generalize (mcB k (lhB ++ sdB j ++ n)).extract 0 16 = T
    generalize lhB ++ sdB j = P at *
    have h3' : (nums P).length = 3 := by rw [nums_len, h3]
    rw [nums_append, nums_append, List.take_append, List.drop_append, h3', List.take_of_length_le (by omega), h3', List.drop_eq_nil_of_le (by omega), List.nil_append]
    show (List.take 16 (nums n ++ nums T)).drop 0 = nums n
    rw [List.drop_zero, List.take_left' h16]
  refine ⟨?_, hx⟩
  unfold grB
  refine decide_eq_true ⟨by omega, by rw [hx]⟩
end Go.Proofs.YtifjmldmilmfjaaGreatDoor
