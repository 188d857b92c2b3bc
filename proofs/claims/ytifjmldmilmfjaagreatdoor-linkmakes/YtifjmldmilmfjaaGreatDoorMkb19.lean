import Derived.Test.YtifjmldmilmfjaaGreatDoorMkb15
import Derived.Test.YtifjmldmilmfjaaGreatDoorMkb09
import Derived.Test.YtifjmldmilmfjaaGreatDoorMkb16
import Derived.Test.YtifjmldmilmfjaaGreatDoorMkb18
namespace Go.Proofs.YtifjmldmilmfjaaGreatDoor
open Go.RowKit
set_option maxRecDepth 100000
/-- what Take says, and what an end is behind it -/
def LE.old (e : LE) (n : Nat) : Bool := decide (n < e.t ∧ (32 ≤ e.t - 1 - n ∨ e.m / 2 ^ (e.t - 1 - n) % 2 = 1))
def LE.tkE (e : LE) (f : ByteArray) : Int := if e.r = false then 211 else if isB (e.z (1 - e.i)) f = false then 212 else if e.old (nrB f).toNat then 213 else 0
def LE.tkM (e : LE) (f : ByteArray) : ByteArray := if e.tkE f = 0 then hdB (e.h (1 - e.i)) (nrB f) (rsB f) else ⟨#[]⟩
def LE.tkN (e : LE) (f : ByteArray) : LE := if e.tkE f = 0 then { e with t := mkT e.t (nrB f).toNat, m := mkM e.t e.m (nrB f).toNat, q := e.q + 1 } else e
theorem mkM_lt (t m n : Nat) (hm : m < 4294967296) (h : n < t → t - 1 - n < 32) : mkM t m n < 4294967296 := by
  unfold mkM
  split
  · rename_i q
    exact Nat.or_lt_two_pow (n := 32) hm (Nat.pow_lt_pow_right (a := 2) (by decide) (h q))
  · exact Nat.or_lt_two_pow (n := 32) (Nat.mod_lt _ (by decide)) (by decide)
set_option maxHeartbeats 4000000 in
theorem ltake_any (g : Nat) (e : LE) (f : ByteArray) (hf : f.size ≤ 140737488355000) (hq9 : e.q < 4611686018427387904) (w : World) (hE : EndM w g e) (hK : KTab w) (hG : ETy w) : Calls Tryz.prog 12 #[.pointer (some ⟨g, 3, none⟩), .string f] w fun ev w' => ev = .returned (.tuple #[.string (e.tkM f), .int .i64 (e.tkE f)]) ∧ EndM w' g (e.tkN f) ∧ Only (fun k => k = g) w w' := by
  obtain ⟨E9, hE9⟩ : ∃ z, e.tkE f = z := ⟨_, rfl⟩
  obtain ⟨e9, he9⟩ : ∃ z, e.tkN f = z := ⟨_, rfl⟩
  obtain ⟨F9, hF9⟩ : ∃ z, e.tkM f = z := ⟨_, rfl⟩
  rw [hE9, he9, hF9]
  have HM := hide (mayTake_any g e w hE)
  have HE := hide hE
  cases hr : e.r
  · have h9 : E9 = 211 := by rw [← hE9, LE.tkE, if_pos hr]
    have h8 : e9 = e := by rw [← he9, LE.tkN, hE9, h9]; rfl
    have h7 : F9 = ⟨#[]⟩ := by rw [← hF9, LE.tkM, hE9, h9]; rfl
    rw [hr] at HM
    subst h8
    rw [h9, h7]
    clear hE hE9 he9 hF9 h9 h7 hr hK hG
    go_enter Tryz.func12, Tryz.ntmps12
    go_wp2_with fail
    refine (unhide HM).mono ?_
    rintro ev y ⟨rfl, hb⟩
    have HB := hide (And.intro ((unhide HE).below hb (unhide HE).lt) (Only.of_below (P := fun k => k = g) hb))
    clear hb
    go_wp2
    go_ret2
    exact ⟨rfl, (unhide HB).1, (unhide HB).2⟩
  rw [hr] at HM
  have hle := e.hle (1 - e.i)
  have HRD := hide (fun W (hW : KTab W) (hX : ETy W) => read_any (e.h (1 - e.i)) (e.z (1 - e.i)) f (by omega) (by omega) hf W hW hX)
  have HKB := hide (show ∀ W, Below w.heap.size w W → KTab W ∧ ETy W from fun W hW => ⟨hK.below hW hK.1, hG.below hW hG.lt⟩)
  have HBK := hide (show ∀ W, Below w.heap.size w W → EndM W g e ∧ W.cell? ⟨g, 3, none⟩ = some (.string (e.h (1 - e.i))) ∧ W.cell? ⟨g, 4, none⟩ = some (.string (e.z (1 - e.i))) from fun W hW => ⟨hE.below hW hE.lt, (hE.1.below hW hE.lt).cell 3, (hE.1.below hW hE.lt).cell 4⟩)
  obtain ⟨Z, hZ⟩ : ∃ z, isB (e.z (1 - e.i)) f = z := ⟨_, rfl⟩
  rw [hZ] at HRD
  cases Z
  · have h9 : E9 = 212 := by rw [← hE9, LE.tkE, if_neg (by rw [hr]; decide), if_pos hZ]
    have h8 : e9 = e := by rw [← he9, LE.tkN, hE9, h9]; rfl
    have h7 : F9 = ⟨#[]⟩ := by rw [← hF9, LE.tkM, hE9, h9]; rfl
    subst h8
    rw [h9, h7]
    simp only [if_neg (show ¬ (false = true) by decide)] at HRD
    clear hE hE9 he9 hF9 h9 h7 hr hK hG hZ hle
    generalize e9.h (1 - e9.i) = A at *
    generalize e9.z (1 - e9.i) = B at *
    go_enter Tryz.func12, Tryz.ntmps12
    go_wp2_with fail
    refine (unhide HM).mono ?_
    rintro ev y ⟨rfl, hb⟩
    have HB := hide hb
    have hq := unhide HBK y hb
    have c3 := hq.2.1
    have c4 := hq.2.2
    clear hb hq
    go_wp2_with fail
    refine (unhide HRD y (unhide HKB y (unhide HB)).1 (unhide HKB y (unhide HB)).2).mono ?_
    rintro ev y2 ⟨rfl, hb⟩
    have hb2 := (unhide HB).trans (hb.mono (unhide HB).size)
    have HB2 := hide (And.intro ((unhide HE).below hb2 (unhide HE).lt) (Only.of_below (P := fun k => k = g) hb2))
    clear hb hb2
    go_wp2
    go_ret2
    exact ⟨rfl, (unhide HB2).1, (unhide HB2).2⟩
  simp only [if_true] at HRD
  obtain ⟨V, hV⟩ : ∃ z, (nrB f).toNat = z := ⟨_, rfl⟩
  have hnr : nrB f = (V : Int) := by have := nrB_pos f; omega
  have hV9 : V < 9223372036854775808 := by
    have := (of_decide_eq_true hZ).2.2.2.2
    omega
  have hwV : IntKind.u64.wrap (V : Int) = (V : Int) := by rw [IntKind.wrap_u64]; omega
  have ht9 := hE.2.t
  have hm9 := hE.2.m
  have HOL := hide (fun W (hW : EndM W g e) => isOld_any g 5 e.t e.m V ht9 hm9 W (hW.1.cell 5) (hW.1.cell 6))
  rw [show decide (V < e.t ∧ (32 ≤ e.t - 1 - V ∨ e.m / 2 ^ (e.t - 1 - V) % 2 = 1)) = e.old V from rfl] at HOL
  rw [hnr] at HRD
  obtain ⟨M, hM⟩ : ∃ z, hdB (e.h (1 - e.i)) (V : Int) (rsB f) = z := ⟨_, rfl⟩
  rw [hM] at HRD
  obtain ⟨D, hD⟩ : ∃ z, e.old V = z := ⟨_, rfl⟩
  rw [hD] at HOL
  cases D
  · have h9 : E9 = 0 := by rw [← hE9, LE.tkE, if_neg (by rw [hr]; decide), if_neg (by rw [hZ]; decide), hV, hD]; rfl
    have h8 : e9 = { e with t := mkT e.t V, m := mkM e.t e.m V, q := e.q + 1 } := by rw [← he9, LE.tkN, hE9, h9, hV, if_pos rfl]
    have h7 : F9 = M := by rw [← hF9, LE.tkM, hE9, h9, ← hM, hnr, if_pos rfl]
    rw [h9, h8, h7]
    have hnew : V < e.t → e.t - 1 - V < 32 := fun q => by
      have := of_decide_eq_false hD
      refine Nat.lt_of_not_le (fun q2 => this ⟨q, .inl q2⟩)
    have hTT : mkT e.t V ≤ 9223372036854775808 := by unfold mkT; split <;> omega
    have hMM := mkM_lt e.t e.m V hm9 hnew
    have hQQ : e.q + 1 ≤ 4611686018427387904 := Nat.succ_le_of_lt hq9
    have HMK := hide (fun W (hW : EndM W g e) => mark_any g 5 e.t e.m V ht9 hV9 hm9 hnew e.cs 50 W hW.1 rfl rfl)
    obtain ⟨T2, hT2⟩ : ∃ z, mkT e.t V = z := ⟨_, rfl⟩
    obtain ⟨M2, hM2⟩ : ∃ z, mkM e.t e.m V = z := ⟨_, rfl⟩
    rw [hT2, hM2] at HMK ⊢
    rw [hT2] at hTT
    rw [hM2] at hMM
    clear hT2 hM2
    have ew : wrap64 ((e.q : Int) + 1) = (e.q : Int) + 1 := wrap64_eq _ (by omega) (by omega)
    have HZZ := hide (show ∀ W, Blk W g (((e.cs.setIfInBounds 6 (.int .u32 (M2 : Int))).setIfInBounds 5 (.int .u64 (T2 : Int))).setIfInBounds 7 (.int .i64 ((e.q : Int) + 1))) 50 → EndM W g { e with t := T2, m := M2, q := e.q + 1 } from fun W hW => ⟨by
      rw [show ((e.q : Int) + 1) = ((e.q + 1 : Nat) : Int) by omega] at hW
      exact hW, hE.2.k, hE.2.n, hE.2.o, hE.2.i, hE.2.s, hTT, hMM, hQQ⟩)
    have HC7 := hide (show ∀ W a b, Blk W g ((e.cs.setIfInBounds 6 a).setIfInBounds 5 b) 50 → W.cell? ⟨g, 7, none⟩ = some (.int .i64 (e.q : Int)) ∧ W.frozen? ⟨g, 7, none⟩ = false from fun W a b hW => ⟨hW.cell 7, hW.frozen 7⟩)
    clear hE hE9 he9 hF9 h9 h8 h7 hr hK hG hZ hle hnr hV hM hD hnew hV9 ht9 hm9 hq9 hTT hMM hQQ
    obtain ⟨q, hq⟩ : ∃ z, e.q = z := ⟨_, rfl⟩
    obtain ⟨cs, hcs⟩ : ∃ z, e.cs = z := ⟨_, rfl⟩
    rw [hcs] at HMK
    rw [hq, hcs] at HZZ HC7
    rw [hq] at ew ⊢
    generalize e.h (1 - e.i) = A at *
    generalize e.z (1 - e.i) = B at *
    clear hq hcs
    go_enter Tryz.func12, Tryz.ntmps12
    go_wp2_with fail
    refine (unhide HM).mono ?_
    rintro ev y ⟨rfl, hb⟩
    have HB := hide hb
    have hq := unhide HBK y hb
    have c3 := hq.2.1
    have c4 := hq.2.2
    clear hb hq
    go_wp2_with fail
    refine (unhide HRD y (unhide HKB y (unhide HB)).1 (unhide HKB y (unhide HB)).2).mono ?_
    rintro ev y2 ⟨rfl, hb⟩
    have hb2 := (unhide HB).trans (hb.mono (unhide HB).size)
    have HE2 := hide ((unhide HE).below hb2 (unhide HE).lt)
    have HO2 := hide (Only.of_below (P := fun k => k = g) hb2)
    clear hb hb2 c3 c4 HB HRD HKB HBK HM
    go_wp2_with fail
    refine (unhide HOL y2 (unhide HE2)).mono ?_
    rintro ev y ⟨rfl, hy⟩
    subst y
    go_wp2_with fail
    refine (unhide HMK y2 (unhide HE2)).mono ?_
    rintro ev y3 ⟨rfl, hB3, hO3⟩
    have h7 := unhide HC7 y3 _ _ hB3
    have c7 := h7.1
    have f7 := h7.2
    have HE8 := hide (show EndM (y3.setCell ⟨g, 7, none⟩ (.int .i64 ((q : Int) + 1))) g { e with t := T2, m := M2, q := q + 1 } from unhide HZZ _ (hB3.set 7 _))
    have HO8 := hide (show Only (fun k => k = g) w (y3.setCell ⟨g, 7, none⟩ (.int .i64 ((q : Int) + 1))) from ((unhide HO2).trans hO3 (fun _ _ q => q)).setCell _ _ (fun _ => rfl))
    clear hB3 hO3 h7 HC7 HZZ HMK HOL HE HE2 HO2
    go_wp2
    go_ret2
    exact ⟨rfl, unhide HE8, unhide HO8⟩
  · have h9 : E9 = 213 := by rw [← hE9, LE.tkE, if_neg (by rw [hr]; decide), if_neg (by rw [hZ]; decide), hV, hD]; rfl
    have h8 : e9 = e := by rw [← he9, LE.tkN, hE9, h9]; rfl
    have h7 : F9 = ⟨#[]⟩ := by rw [← hF9, LE.tkM, hE9, h9]; rfl
    subst h8
    rw [h9, h7]
    clear hE hE9 he9 hF9 h9 h7 hr hK hG hZ hle hnr hV hM hD hV9 ht9 hm9 hq9
    generalize e9.h (1 - e9.i) = A at *
    generalize e9.z (1 - e9.i) = B at *
    go_enter Tryz.func12, Tryz.ntmps12
    go_wp2_with fail
    refine (unhide HM).mono ?_
    rintro ev y ⟨rfl, hb⟩
    have HB := hide hb
    have hq := unhide HBK y hb
    have c3 := hq.2.1
    have c4 := hq.2.2
    clear hb hq
    go_wp2_with fail
    refine (unhide HRD y (unhide HKB y (unhide HB)).1 (unhide HKB y (unhide HB)).2).mono ?_
    rintro ev y2 ⟨rfl, hb⟩
    have hb2 := (unhide HB).trans (hb.mono (unhide HB).size)
    have HE2 := hide ((unhide HE).below hb2 (unhide HE).lt)
    have HO2 := hide (Only.of_below (P := fun k => k = g) hb2)
    clear hb hb2 c3 c4 HB HRD HKB HBK HM
    go_wp2_with fail
    refine (unhide HOL y2 (unhide HE2)).mono ?_
    rintro ev y ⟨rfl, hy⟩
    subst y
    go_wp2
    go_ret2
    exact ⟨rfl, unhide HE2, unhide HO2⟩
end Go.Proofs.YtifjmldmilmfjaaGreatDoor

namespace Go.Proofs.YtifjmldmilmfjaaGreatDoor
open Go.RowKit
theorem numB_snoc (n x : Int) (k : Nat) (h0 : 0 ≤ x) (h1 : x < 256) : numB (256 * n + x) (k + 1) = numB n k ++ [x] := by
  unfold numB
  rw [List.range_succ, List.map_append]
  congr 1
  · refine List.map_congr_left fun i hi => ?_
    have hik : i < k := List.mem_range.1 hi
    rw [show 8 * (k + 1 - 1 - i) = 8 + 8 * (k - 1 - i) by omega, Int.pow_add, ← Int.ediv_ediv_of_nonneg (by decide)]
    have : (256 * n + x) / 2 ^ 8 = n := by
      have e : (2 : Int) ^ 8 = 256 := by decide
      rw [e]
      omega
    rw [this]
  · simp
    omega
end Go.Proofs.YtifjmldmilmfjaaGreatDoor

namespace Go.Proofs.YtifjmldmilmfjaaGreatDoor
open Go.RowKit
set_option maxRecDepth 100000
theorem be_numBK : ∀ (k : Nat) (n : Int), 0 ≤ n → n / 2 ^ (8 * k) = 0 → beN (numB n k) = n
  | 0, n, h0, h => by
    have : n = 0 := by simpa using h
    subst this
    rfl
  | k + 1, n, h0, h => by
    have e : n = 256 * (n / 256) + n % 256 := by omega
    have hx : 0 ≤ n % 256 ∧ n % 256 < 256 := by omega
    rw [e, numB_snoc _ _ _ hx.1 hx.2, beN_snoc, be_numBK k (n / 256) (by omega) ?_]
    rw [Int.ediv_ediv_of_nonneg (by decide)]
    rw [show 8 * (k + 1) = 8 + 8 * k by omega, Int.pow_add] at h
    exact h
theorem be_num8 (n : Nat) (h : n < 9223372036854775808) : beN (numB (n : Int) 8) = (n : Int) := by
  refine be_numBK 8 _ (by omega) ?_
  rw [show ((2 : Int) ^ (8 * 8)) = 18446744073709551616 by decide]
  exact Int.ediv_eq_zero_of_lt (by omega) (by omega)
theorem ext_app (a b : ByteArray) : (a ++ b).extract 0 a.size = a ∧ (a ++ b).extract a.size (a ++ b).size = b := by
  constructor
  · apply nums_inj
    rw [nums_extract, nums_append, List.take_left' (nums_len a)]
    rfl
  · apply nums_inj
    rw [nums_tail, nums_append, List.drop_left' (nums_len a)]
/-- the body of a frame -/
def bdB (h : ByteArray) (n : Int) (m : ByteArray) : ByteArray := lmB ++ nuB n ++ hdB h n m
theorem frB_size (h s : ByteArray) (n : Int) (m : ByteArray) (hm : m.size ≤ 65536) : (frB h s n m).size = 26 + m.size := by
  rw [frB, tgB_size, ByteArray.size_append, ByteArray.size_append, nuB_size, hdB_size _ _ _ hm]
  show 2 + 8 + m.size + 16 = _
  omega
theorem boB_fr (h s : ByteArray) (n : Int) (m : ByteArray) : boB (frB h s n m) = bdB h n m := by
  rw [boB, frB, tgB_size]
  have h1 := (ext_app (bdB h n m) ((mcB s (bdB h n m)).extract 0 16)).1
  rw [show lmB ++ nuB n ++ hdB h n m = bdB h n m from rfl, Nat.add_sub_cancel]
  exact h1
theorem bdB_parts (h : ByteArray) (n : Int) (m : ByteArray) : (bdB h n m).extract 0 2 = lmB ∧ (nums ((bdB h n m).extract 2 (bdB h n m).size)).take 8 = numB n 8 ∧ (bdB h n m).extract 10 (bdB h n m).size = hdB h n m := by
  have e1 : bdB h n m = lmB ++ (nuB n ++ hdB h n m) := by rw [bdB, ByteArray.append_assoc]
  have e2 : (lmB ++ nuB n).size = 10 := by rw [ByteArray.size_append, nuB_size]; rfl
  refine ⟨?_, ?_, ?_⟩
  · rw [e1]; exact (ext_app lmB (nuB n ++ hdB h n m)).1
  · rw [e1]
    have := (ext_app lmB (nuB n ++ hdB h n m)).2
    rw [show lmB.size = 2 from rfl] at this
    rw [this, nums_append, List.take_left' (by rw [nums_len, nuB_size]), nuB, nums_strOfNums _ (numB_bytes _ _)]
  · have := (ext_app (lmB ++ nuB n) (hdB h n m)).2
    rw [e2] at this
    exact this
theorem frB_is (h s : ByteArray) (n : Nat) (m : ByteArray) (hn : n < 9223372036854775808) (hm : m.size ≤ 4096) : isB s (frB h s (n : Int) m) = true ∧ nrB (frB h s (n : Int) m) = (n : Int) ∧ rsB (frB h s (n : Int) m) = hdB h (n : Int) m := by
  have hb := boB_fr h s (n : Int) m
  obtain ⟨p1, p2, p3⟩ := bdB_parts h (n : Int) m
  have hnr : nrB (frB h s (n : Int) m) = (n : Int) := by rw [nrB, hb, p2, be_num8 n hn]
  refine ⟨?_, hnr, by rw [rsB, hb, p3]⟩
  have hz := frB_size h s (n : Int) m (by omega)
  unfold isB
  refine decide_eq_true ⟨by omega, by omega, ?_, by rw [hb, p1], by omega⟩
  rw [hb]
  rfl
theorem grB_he (k : ByteArray) (j : Nat) (n : ByteArray) (hn : n.size = 16) : grB k j (heB k j n) = true ∧ (heB k j n).extract 3 19 = n := by
  have hz := heB_size k j n
  have e1 : heB k j n = (lhB ++ sdB j) ++ (n ++ (mcB k (lhB ++ sdB j ++ n)).extract 0 16) := by rw [heB, tgB, ByteArray.append_assoc]
  have hx : (heB k j n).extract 3 19 = n := by
    have h3 : (lhB ++ sdB j).size = 3 := by rw [ByteArray.size_append, sdB_size]; rfl
    have h16 : (nums n).length = 16 := by rw [nums_len, hn]
    apply nums_inj
    rw [e1, nums_extract]
    generalize (mcB k (lhB ++ sdB j ++ n)).extract 0 16 = T
    generalize lhB ++ sdB j = P at *
    have h3' : (nums P).length = 3 := by rw [nums_len, h3]
    rw [nums_append, nums_append, List.take_append, List.drop_append, h3', List.take_of_length_le (by omega), h3', List.drop_eq_nil_of_le (by omega), List.nil_append]
    show (List.take 16 (nums n ++ nums T)).drop 0 = nums n
    rw [List.drop_zero, List.take_left' h16]
  refine ⟨?_, hx⟩
  unfold grB
  refine decide_eq_true ⟨by omega, by rw [hx]⟩
end Go.Proofs.YtifjmldmilmfjaaGreatDoor

namespace Go.Proofs.YtifjmldmilmfjaaGreatDoor
open Go.RowKit
set_option maxRecDepth 100000
/-- a byte of a raw number -/
def flN (c : Int) (i : Nat) : Int := bits .xor .u8 (c / 2 ^ (8 * (i % 8)) % 256) (3 * (i : Int) % 256)
def flL (c : Int) (n : Nat) : List Int := (List.range n).map (flN c)
def flB (c : Int) (n : Nat) : ByteArray := strOfNums (flL c n)
theorem flL_bytes (c : Int) (n : Nat) : Bytes (flL c n) := by
  intro j
  by_cases h : j < n
  · have e : (flL c n).getD j 0 = flN c j := by
      rw [flL, List.getD_eq_getElem?_getD, List.getElem?_map, List.getElem?_range h]
      rfl
    rw [e]
    exact bits_u8 _ _ _
  · have e : (flL c n).getD j 0 = 0 := by
      rw [List.getD_eq_getElem?_getD, List.getElem?_eq_none (by simp [flL]; omega)]
      rfl
    rw [e]
    decide
theorem flB_size (c : Int) (n : Nat) : (flB c n).size = n := by rw [← nums_len, flB, nums_strOfNums _ (flL_bytes _ _), flL]; simp
/-- the first k bytes are there -/
def flT (c : Int) (n k : Nat) : List Int := flL c k ++ List.replicate (n - k) 0
theorem flT_set (c : Int) (n k : Nat) (h : k < n) : (flT c n k).set k (flN c k) = flT c n (k + 1) := by
  have e1 : (flL c k).length = k := by simp [flL]
  obtain ⟨d, hd⟩ : ∃ d, n - k = d + 1 := ⟨n - k - 1, by omega⟩
  unfold flT
  rw [hd, List.replicate_succ, List.set_append_right _ _ (by omega), e1, Nat.sub_self, List.set_cons_zero, show n - (k + 1) = d by omega]
  rw [show flL c (k + 1) = flL c k ++ [flN c k] from by unfold flL; rw [List.range_succ, List.map_append]; rfl, List.append_assoc]
  rfl
theorem flT_len (c : Int) (n k : Nat) (h : k ≤ n) : (flT c n k).length = n := by simp [flT, flL]; omega
set_option maxHeartbeats 2000000 in
theorem filled_any (c : Int) (n : Nat) (hn : n ≤ 5000) (w : World) : Calls Tryz.prog 14 #[.int .i64 c, .int .i64 (n : Int)] w fun e w' => e = .returned (.string (flB c n)) ∧ Below w.heap.size w w' := by
  obtain ⟨r, hr⟩ : ∃ z, flB c n = z := ⟨_, rfl⟩
  rw [hr]
  have HRR := hide hr
  clear hr
  have HK0 := hide (show KeyInv w (flT c n 0) (w.alloc (.cells ((List.replicate n (0 : Int)).map (Value.int .u8)).toArray 5)) from ⟨arr_new w .u8 (flT c n 0) 5 _ (by simp [flT, flL]), (Below.refl _ _).alloc (Nat.le_refl _) _, by simp⟩)
  have hm := run_make_u8 n n (Nat.le_refl _) (by omega) w
  generalize w.alloc (.cells ((List.replicate n (0 : Int)).map (Value.int .u8)).toArray 5) = x0 at *
  obtain ⟨b, hb⟩ : ∃ b, w.heap.size = b := ⟨_, rfl⟩
  rw [hb] at hm ⊢
  have HBB := hide hb
  clear hb
  go_enter Tryz.func14, Tryz.ntmps14
  go_wp2
  go_loopw [6] (fun i wr => ∃ k : Nat, k ≤ n ∧ i = .int .i64 (k : Int) ∧ Hid (KeyInv w (flT c n k) wr)) (fun i _ => n - (intOf i).toNat)
  case atStart => exact ⟨0, by omega, rfl, HK0⟩
  case round =>
  obtain ⟨k, hk, rfl, HK⟩ := hrel
  obtain ⟨wi, rfl⟩ : ∃ z, z = wr := ⟨_, rfl⟩
  clear HK0
  by_cases hkn : k < n
  · have e1 : (k : Int) < (n : Int) := by omega
    have e2 : (k : Int).tmod 8 = ((k % 8 : Nat) : Int) := by rw [Int.tmod_eq_emod_of_nonneg (by omega)]; omega
    have e4 : wrap64 (3 * (k : Int)) = 3 * (k : Int) := wrap64_eq _ (by omega) (by omega)
    have hv : bits .xor .u8 (c / 2 ^ (8 * (k % 8)) % 256) (3 * (k : Int) % 256) = flN c k := rfl
    have hl := flT_len c n k hk
    have hK := unhide HK
    have hc := hK.1.get k (by omega)
    have hf := hK.1.free k (by omega)
    have HN := hide (hK.put k (by omega) (flN c k) (flT_set c n k hkn))
    rw [unhide HBB] at hc hf HN
    rw [Nat.zero_add] at hc hf
    obtain ⟨ov, hov⟩ : ∃ z, (flT c n k).getD k 0 = z := ⟨_, rfl⟩
    rw [hov] at hc
    generalize flN c k = nv at *
    clear HK hK hl hov
    go_wp2
    go_roundw
    case rel => exact ⟨k + 1, by omega, by go_num, HN⟩
    case measure => simp [intOf] <;> omega
  obtain rfl : k = n := by omega
  have e1 : ¬ (k : Int) < (k : Int) := by omega
  have HQ := unhide HK
  have hT : flT c k k = flL c k := by simp [flT]
  rw [hT] at HQ
  have hcv := run_convert_bytes_arg (P := Tryz.prog) wi 86 5 Tryz.underlying86 Tryz.underlying5 b 0 k k (flL c k) (by simp [flL]) (fun i hi => by rw [← unhide HBB]; exact HQ.1.get i (by simp [flL]; exact hi)) 9 Tryz.underlying9
  rw [show strOfNums (flL c k) = flB c k from rfl, unhide HRR] at hcv
  have HE := hide (show Below b w wi from by rw [← unhide HBB]; exact HQ.2.1)
  clear HQ hT HK
  go_wp2
  go_ret
  exact ⟨rfl, unhide HE⟩
end Go.Proofs.YtifjmldmilmfjaaGreatDoor

namespace Go.Proofs.YtifjmldmilmfjaaGreatDoor
open Go.RowKit
set_option maxRecDepth 100000
/-- two ends of one key that have greeted one another -/
def meA (key one two : Int) : LE := ⟨flB key 32, flB one 16, flB two 16, 0, true, false, 0, 0, 0, 0⟩
def meB (key one two : Int) : LE := ⟨flB key 32, flB two 16, flB one 16, 1, true, false, 0, 0, 0, 0⟩
theorem fl32 (c : Int) (w : World) : Calls Tryz.prog 14 #[.int .i64 c, .int .i64 32] w fun e w' => e = .returned (.string (flB c 32)) ∧ Below w.heap.size w w' := filled_any c 32 (by decide) w
theorem fl16 (c : Int) (w : World) : Calls Tryz.prog 14 #[.int .i64 c, .int .i64 16] w fun e w' => e = .returned (.string (flB c 16)) ∧ Below w.heap.size w w' := filled_any c 16 (by decide) w
theorem grE_he (e : LE) (n : ByteArray) (hn : n.size = 16) (hc : e.c = false) (hr : e.r = false) : e.grE (heB e.k (1 - e.i) n) = 0 ∧ e.grN (heB e.k (1 - e.i) n) = { e with r := true, o := n } := by
  obtain ⟨h1, h2⟩ := grB_he e.k (1 - e.i) n hn
  have h3 : e.grE (heB e.k (1 - e.i) n) = 0 := by rw [LE.grE, hc, hr, h1]; rfl
  exact ⟨h3, by rw [LE.grN, if_pos h3, h2]⟩
set_option maxHeartbeats 4000000 in
theorem met_any (key one two : Int) (w : World) (hK : KTab w) : Calls Tryz.prog 9 #[.int .i64 key, .int .i64 one, .int .i64 two] w fun ev w' => ∃ g1 g2, ev = .returned (.tuple #[.pointer (some ⟨g1, 0, none⟩), .pointer (some ⟨g2, 0, none⟩)]) ∧ EndM w' g1 (meA key one two) ∧ EndM w' g2 (meB key one two) ∧ g1 ≠ g2 ∧ w.heap.size ≤ g1 ∧ w.heap.size ≤ g2 ∧ Below w.heap.size w w' := by
  obtain ⟨h, hh⟩ : ∃ h, w.heap.size = h := ⟨_, rfl⟩
  have hvh : 1 < h := by rw [← hh]; exact hK.1
  have HKB := hide (show ∀ W, Below h w W → KTab W from fun W hW => hK.below (by rw [← hh] at hW; exact hW) hK.1)
  have HFK := hide (fun W => fl32 key W)
  have HF1 := hide (fun W => fl16 one W)
  have HF2 := hide (fun W => fl16 two W)
  have hk := flB_size key 32
  have h1 := flB_size one 16
  have h2 := flB_size two 16
  have HE1 := hide (show meA key one two = { le0 (flB key 32) 0 (flB one 16) with r := true, o := flB two 16 } from rfl)
  have HE2 := hide (show meB key one two = { le0 (flB key 32) 1 (flB two 16) with r := true, o := flB one 16 } from rfl)
  obtain ⟨eA, heA⟩ : ∃ z, meA key one two = z := ⟨_, rfl⟩
  obtain ⟨eB, heB⟩ : ∃ z, meB key one two = z := ⟨_, rfl⟩
  rw [heA] at HE1 ⊢
  rw [heB] at HE2 ⊢
  clear heA heB
  have HN1 := hide (fun W => lnew_ok (flB key 32) 0 (flB one 16) hk (by decide) h1 W)
  have HN2 := hide (fun W => lnew_ok (flB key 32) 1 (flB two 16) hk (by decide) h2 W)
  have HG1 := hide (grE_he (le0 (flB key 32) 0 (flB one 16)) (flB two 16) h2 rfl rfl)
  have HG2 := hide (grE_he (le0 (flB key 32) 1 (flB two 16)) (flB one 16) h1 rfl rfl)
  have hs1 := heB_size (flB key 32) 0 (flB one 16)
  have hs2 := heB_size (flB key 32) 1 (flB two 16)
  have HGA := hide (fun W g (hE : EndM W g (le0 (flB key 32) 0 (flB one 16))) (hKW : KTab W) (hv : 1 < g) => lgreet_any g _ (heB (flB key 32) 1 (flB two 16)) (by rw [hs2]; omega) W hE hKW hv)
  have HGB := hide (fun W g (hE : EndM W g (le0 (flB key 32) 1 (flB two 16))) (hKW : KTab W) (hv : 1 < g) => lgreet_any g _ (heB (flB key 32) 0 (flB one 16)) (by rw [hs1]; omega) W hE hKW hv)
  have q1 : (le0 (flB key 32) 0 (flB one 16)).grE (heB (flB key 32) 1 (flB two 16)) = 0 := (unhide HG1).1
  have q2 : (le0 (flB key 32) 0 (flB one 16)).grN (heB (flB key 32) 1 (flB two 16)) = eA := (unhide HG1).2.trans (unhide HE1).symm
  have q3 : (le0 (flB key 32) 1 (flB two 16)).grE (heB (flB key 32) 0 (flB one 16)) = 0 := (unhide HG2).1
  have q4 : (le0 (flB key 32) 1 (flB two 16)).grN (heB (flB key 32) 0 (flB one 16)) = eB := (unhide HG2).2.trans (unhide HE2).symm
  rw [q1, q2] at HGA
  rw [q3, q4] at HGB
  have HHA := hide (show ∀ W g, EndM W g eA → KTab W → Calls Tryz.prog 18 #[.pointer (some ⟨g, 0, none⟩)] W fun ev w' => ev = .returned (.string (heB (flB key 32) 0 (flB one 16))) ∧ Below W.heap.size W w' from fun W g hE hKW => by
    rw [unhide HE1] at hE
    exact lhello_any g _ W hE hKW)
  have HHB := hide (show ∀ W g, EndM W g (le0 (flB key 32) 1 (flB two 16)) → KTab W → Calls Tryz.prog 18 #[.pointer (some ⟨g, 0, none⟩)] W fun ev w' => ev = .returned (.string (heB (flB key 32) 1 (flB two 16))) ∧ Below W.heap.size W w' from fun W g hE hKW => lhello_any g _ W hE hKW)
  have HRA := hide (show ∀ W g, EndM W g eA → Calls Tryz.prog 19 #[.pointer (some ⟨g, 0, none⟩)] W fun ev w' => ev = .returned (.bool true) ∧ Below W.heap.size W w' from fun W g hE => by
    have := lready_any g eA W hE
    rw [show eA.r = true by rw [unhide HE1]] at this
    exact this)
  have HRB := hide (show ∀ W g, EndM W g eB → Calls Tryz.prog 19 #[.pointer (some ⟨g, 0, none⟩)] W fun ev w' => ev = .returned (.bool true) ∧ Below W.heap.size W w' from fun W g hE => by
    have := lready_any g eB W hE
    rw [show eB.r = true by rw [unhide HE2]] at this
    exact this)
  clear q1 q2 q3 q4 HG1 HG2 HE1 HE2 hK
  generalize le0 (flB key 32) 0 (flB one 16) = eA0 at *
  generalize le0 (flB key 32) 1 (flB two 16) = eB0 at *
  generalize heB (flB key 32) 0 (flB one 16) = hl1 at *
  generalize heB (flB key 32) 1 (flB two 16) = hl2 at *
  generalize flB key 32 = fk at *
  generalize flB one 16 = f1 at *
  generalize flB two 16 = f2 at *
  rw [hh]
  have HB0 := hide (show Below h w w from Below.refl _ _)
  have HS0 := hide hh
  go_enter Tryz.func9, Tryz.ntmps9
  go_wp2_with fail
  refine (unhide HFK _).mono ?_
  rintro ev y1 ⟨rfl, hb⟩
  have HB1 := hide (show Below h w y1 from (unhide HB0).trans (hb.mono (by omega)))
  clear hb
  go_wp2_with fail
  refine (unhide HF1 _).mono ?_
  rintro ev y2 ⟨rfl, hb⟩
  have HB2 := hide (show Below h w y2 from (unhide HB1).trans (hb.mono (by have := (unhide HB1).size; omega)))
  clear hb
  go_wp2_with fail
  refine (unhide HN1 _).mono ?_
  rintro ev y3 ⟨g1, hg1, rfl, hE1, hb⟩
  have HB3 := hide (show Below h w y3 from (unhide HB2).trans (hb.mono (by have := (unhide HB2).size; omega)))
  have hgh1 : h ≤ g1 := by have := (unhide HB2).size; omega
  have HX1 := hide hE1
  clear hb hE1 hg1
  go_wp2_with fail
  refine (unhide HFK _).mono ?_
  rintro ev y4 ⟨rfl, hb⟩
  have HB4 := hide (show Below h w y4 from (unhide HB3).trans (hb.mono (by have := (unhide HB3).size; omega)))
  replace HX1 := hide ((unhide HX1).below hb (unhide HX1).lt)
  clear hb
  go_wp2_with fail
  refine (unhide HF2 _).mono ?_
  rintro ev y5 ⟨rfl, hb⟩
  have HB5 := hide (show Below h w y5 from (unhide HB4).trans (hb.mono (by have := (unhide HB4).size; omega)))
  replace HX1 := hide ((unhide HX1).below hb (unhide HX1).lt)
  clear hb
  go_wp2_with fail
  refine (unhide HN2 _).mono ?_
  rintro ev y6 ⟨g2, hg2, rfl, hE2, hb⟩
  have HB6 := hide (show Below h w y6 from (unhide HB5).trans (hb.mono (by have := (unhide HB5).size; omega)))
  have hgh2 : h ≤ g2 := by have := (unhide HB5).size; omega
  have hne : g1 ≠ g2 := by have := (unhide HX1).lt; omega
  replace HX1 := hide ((unhide HX1).below hb (unhide HX1).lt)
  have HX2 := hide hE2
  clear hb hE2 hg2 HB0 HB1 HB2 HB3 HB4 HB5 HFK HF1 HF2 HN1 HN2
  go_wp2_with fail
  refine (unhide HHB y6 g2 (unhide HX2) (unhide HKB _ (unhide HB6))).mono ?_
  rintro ev y7 ⟨rfl, hb⟩
  have HB7 := hide (show Below h w y7 from (unhide HB6).trans (hb.mono (by have := (unhide HB6).size; omega)))
  replace HX1 := hide ((unhide HX1).below hb (unhide HX1).lt)
  replace HX2 := hide ((unhide HX2).below hb (unhide HX2).lt)
  clear hb HB6
  go_wp2_with fail
  refine (unhide HGA y7 g1 (unhide HX1) (unhide HKB _ (unhide HB7)) (by omega)).mono ?_
  rintro ev y8 ⟨rfl, hE, hO⟩
  have HB8 := hide (show Below h w y8 from (unhide HB7).trans (hO.below (by have := (unhide HB7).size; omega) (fun k hk q => by omega)))
  replace HX1 := hide hE
  replace HX2 := hide ((unhide HX2).only hO (fun q => hne q.symm))
  clear hE hO HB7
  go_wp2_with fail
  refine (unhide HHA y8 g1 (unhide HX1) (unhide HKB _ (unhide HB8))).mono ?_
  rintro ev y9 ⟨rfl, hb⟩
  have HB9 := hide (show Below h w y9 from (unhide HB8).trans (hb.mono (by have := (unhide HB8).size; omega)))
  replace HX1 := hide ((unhide HX1).below hb (unhide HX1).lt)
  replace HX2 := hide ((unhide HX2).below hb (unhide HX2).lt)
  clear hb HB8
  go_wp2_with fail
  refine (unhide HGB y9 g2 (unhide HX2) (unhide HKB _ (unhide HB9)) (by omega)).mono ?_
  rintro ev y10 ⟨rfl, hE, hO⟩
  have HB10 := hide (show Below h w y10 from (unhide HB9).trans (hO.below (by have := (unhide HB9).size; omega) (fun k hk q => by omega)))
  replace HX1 := hide ((unhide HX1).only hO (fun q => hne q))
  replace HX2 := hide hE
  clear hE hO HB9
  go_wp2_with fail
  refine (unhide HRA y10 g1 (unhide HX1)).mono ?_
  rintro ev y11 ⟨rfl, hb⟩
  have HB11 := hide (show Below h w y11 from (unhide HB10).trans (hb.mono (by have := (unhide HB10).size; omega)))
  replace HX1 := hide ((unhide HX1).below hb (unhide HX1).lt)
  replace HX2 := hide ((unhide HX2).below hb (unhide HX2).lt)
  clear hb HB10
  go_wp2_with fail
  refine (unhide HRB y11 g2 (unhide HX2)).mono ?_
  rintro ev y12 ⟨rfl, hb⟩
  have HB12 := hide (show Below h w y12 from (unhide HB11).trans (hb.mono (by have := (unhide HB11).size; omega)))
  replace HX1 := hide ((unhide HX1).below hb (unhide HX1).lt)
  replace HX2 := hide ((unhide HX2).below hb (unhide HX2).lt)
  clear hb HB11
  go_wp2
  go_ret2
  exact ⟨g1, g2, rfl, unhide HX1, unhide HX2, hne, hgh1, hgh2, unhide HB12⟩
end Go.Proofs.YtifjmldmilmfjaaGreatDoor

namespace Go.Proofs.YtifjmldmilmfjaaGreatDoor
open Go.RowKit
set_option maxRecDepth 100000
def w_k : List Int := [1, 3, 6, 9, 12, 15, 18, 21, 25, 27, 30, 33, 36, 39, 42, 45, 49, 51, 54, 57, 60, 63, 66, 69, 73, 75, 78, 81, 84, 87, 90, 93]
def w_n0 : List Int := [2, 3, 6, 9, 12, 15, 18, 21, 26, 27, 30, 33, 36, 39, 42, 45]
def w_n1 : List Int := [3, 3, 6, 9, 12, 15, 18, 21, 27, 27, 30, 33, 36, 39, 42, 45]
def w_t10 : List Int := [86, 150, 7, 10, 225, 86, 196, 209, 146, 51, 138, 84, 55, 150, 7, 247, 246, 122, 45, 106, 132, 61, 225, 100, 38, 184, 187, 6, 253, 53, 50, 208]
def w_t20 : List Int := [53, 216, 48, 98, 23, 77, 79, 110, 29, 242, 168, 153, 5, 159, 220, 224, 166, 102, 60, 18, 35, 226, 73, 92, 210, 64, 183, 92, 192, 186, 105, 47]
def w_t11 : List Int := [62, 155, 110, 70, 222, 242, 89, 108, 94, 36, 98, 122, 81, 160, 51, 62, 112, 22, 251, 116, 41, 246, 160, 139, 79, 34, 19, 215, 9, 223, 75, 95]
def w_t21 : List Int := [59, 206, 38, 135, 122, 26, 58, 42, 18, 166, 80, 122, 41, 224, 229, 23, 70, 206, 137, 22, 138, 29, 222, 160, 135, 169, 147, 93, 117, 112, 217, 148]
def w_m : List Int := [196, 101, 136, 54, 243, 86, 47, 3, 96, 184, 84, 90, 149, 64, 65, 116, 219, 100, 128, 155, 39, 76, 52, 215, 113, 133, 220, 190, 112, 29, 226, 46]
def w_a : List Int := [249, 60, 64, 39, 5, 147, 233, 58, 230, 228, 17, 181, 87, 69, 177, 210, 37, 51, 44, 6, 99, 64, 146, 119, 105, 90, 90, 176, 209, 189, 76, 113]
def w_b : List Int := [216, 79, 201, 169, 213, 45, 225, 7, 222, 101, 29, 65, 16, 226, 19, 230, 65, 142, 53, 216, 27, 244, 182, 75, 234, 172, 251, 147, 85, 138, 66, 218]
def w_x : List Int := [76, 77, 0, 0, 0, 0, 0, 0, 0, 0, 64]
def w_i0 : List Int := [108, 105, 110, 107, 2, 3, 6, 9, 12, 15, 18, 21, 26, 27, 30, 33, 36, 39, 42, 45, 3, 3, 6, 9, 12, 15, 18, 21, 27, 27, 30, 33, 36, 39, 42, 45, 0]
def w_i1 : List Int := [108, 105, 110, 107, 2, 3, 6, 9, 12, 15, 18, 21, 26, 27, 30, 33, 36, 39, 42, 45, 3, 3, 6, 9, 12, 15, 18, 21, 27, 27, 30, 33, 36, 39, 42, 45, 1]
set_option maxHeartbeats 4000000 in
theorem k_fk : flL 1 32 = w_k := by kernel_rfl
set_option maxHeartbeats 4000000 in
theorem k_f0 : flL 2 16 = w_n0 := by kernel_rfl
set_option maxHeartbeats 4000000 in
theorem k_f1 : flL 3 16 = w_n1 := by kernel_rfl
set_option maxHeartbeats 4000000 in
theorem k_t10 : macP w_k (w_i0 ++ [1]) = w_t10 := by kernel_rfl
set_option maxHeartbeats 4000000 in
theorem k_t20 : macP w_k (w_t10 ++ w_i0 ++ [2]) = w_t20 := by kernel_rfl
set_option maxHeartbeats 4000000 in
theorem k_t11 : macP w_k (w_i1 ++ [1]) = w_t11 := by kernel_rfl
set_option maxHeartbeats 4000000 in
theorem k_t21 : macP w_k (w_t11 ++ w_i1 ++ [2]) = w_t21 := by kernel_rfl
set_option maxHeartbeats 4000000 in
theorem k_m : macP w_t10 [0, 0, 0, 0, 0, 0, 0, 0] = w_m := by kernel_rfl
set_option maxHeartbeats 4000000 in
theorem k_p : laidP [97] (partP w_m 0 1) = [64] := by kernel_rfl
set_option maxHeartbeats 4000000 in
theorem k_a : macP w_t20 w_x = w_a := by kernel_rfl
set_option maxHeartbeats 4000000 in
theorem k_b : macP w_t21 w_x = w_b := by kernel_rfl
theorem bytes32L (l : List Int) (h : l.all (fun x => decide (0 ≤ x) && decide (x < 256)) = true) : Bytes l := fun j => by
  rw [List.getD_eq_getElem?_getD]
  by_cases hj : j < l.length
  · rw [List.getElem?_eq_getElem hj]
    have := List.all_eq_true.1 h _ (List.getElem_mem hj)
    simpa using this
  · rw [List.getElem?_eq_none (by omega)]
    simp
def kB : ByteArray := flB 1 32
def n0B : ByteArray := flB 2 16
def n1B : ByteArray := flB 3 16
theorem nums_kB : nums kB = w_k := by rw [kB, flB, nums_strOfNums _ (flL_bytes _ _), k_fk]
theorem nums_n0B : nums n0B = w_n0 := by rw [n0B, flB, nums_strOfNums _ (flL_bytes _ _), k_f0]
theorem nums_n1B : nums n1B = w_n1 := by rw [n1B, flB, nums_strOfNums _ (flL_bytes _ _), k_f1]
theorem nums_sd (i : Nat) (h : i < 256) : nums (sdB i) = [(i : Int)] := by
  rw [sdB, nums_strOfNums]
  intro j
  cases j with
  | zero => exact ⟨by show (0 : Int) ≤ (i : Int); omega, by show (i : Int) < 256; omega⟩
  | succ j => exact ⟨by simp, by simp⟩
theorem nums_in0 : nums (lkB ++ n0B ++ n1B ++ sdB 0) = w_i0 := by
  rw [nums_append, nums_append, nums_append, nums_n0B, nums_n1B, nums_sd 0 (by decide)]
  rfl
theorem nums_dr0 : nums (drB kB n0B n1B 0) = w_t10 ++ w_t20 := by
  have h1 : tP (nums kB) (nums (lkB ++ n0B ++ n1B ++ sdB 0)) 1 = w_t10 := by
    rw [nums_kB, nums_in0]
    exact k_t10
  have h2 : tP (nums kB) (nums (lkB ++ n0B ++ n1B ++ sdB 0)) 2 = w_t20 := by
    rw [show tP (nums kB) (nums (lkB ++ n0B ++ n1B ++ sdB 0)) 2 = macP (nums kB) (tP (nums kB) (nums (lkB ++ n0B ++ n1B ++ sdB 0)) 1 ++ nums (lkB ++ n0B ++ n1B ++ sdB 0) ++ [(((1 : Nat) : Int) + 1) % 256]) from rfl, h1, nums_kB, nums_in0]
    exact k_t20
  have h3 : outP (nums kB) (nums (lkB ++ n0B ++ n1B ++ sdB 0)) 2 = w_t10 ++ w_t20 := by
    rw [show outP (nums kB) (nums (lkB ++ n0B ++ n1B ++ sdB 0)) 2 = ([] ++ tP (nums kB) (nums (lkB ++ n0B ++ n1B ++ sdB 0)) 1) ++ tP (nums kB) (nums (lkB ++ n0B ++ n1B ++ sdB 0)) 2 from rfl, h1, h2]
    rfl
  rw [drB, show (64 + 31) / 32 = 2 from rfl, h3, nums_strOfNums]
  · rfl
  · exact bytes32L _ (by decide)
theorem nums_se0 : nums (seB kB n0B n1B 0) = w_t20 := by
  rw [seB, nums_extract, nums_dr0]
  rfl
theorem nums_in1 : nums (lkB ++ n0B ++ n1B ++ sdB 1) = w_i1 := by
  rw [nums_append, nums_append, nums_append, nums_n0B, nums_n1B, nums_sd 1 (by decide)]
  rfl
theorem nums_dr1 : nums (drB kB n0B n1B 1) = w_t11 ++ w_t21 := by
  have h1 : tP (nums kB) (nums (lkB ++ n0B ++ n1B ++ sdB 1)) 1 = w_t11 := by
    rw [nums_kB, nums_in1]
    exact k_t11
  have h2 : tP (nums kB) (nums (lkB ++ n0B ++ n1B ++ sdB 1)) 2 = w_t21 := by
    rw [show tP (nums kB) (nums (lkB ++ n0B ++ n1B ++ sdB 1)) 2 = macP (nums kB) (tP (nums kB) (nums (lkB ++ n0B ++ n1B ++ sdB 1)) 1 ++ nums (lkB ++ n0B ++ n1B ++ sdB 1) ++ [(((1 : Nat) : Int) + 1) % 256]) from rfl, h1, nums_kB, nums_in1]
    exact k_t21
  have h3 : outP (nums kB) (nums (lkB ++ n0B ++ n1B ++ sdB 1)) 2 = w_t11 ++ w_t21 := by
    rw [show outP (nums kB) (nums (lkB ++ n0B ++ n1B ++ sdB 1)) 2 = ([] ++ tP (nums kB) (nums (lkB ++ n0B ++ n1B ++ sdB 1)) 1) ++ tP (nums kB) (nums (lkB ++ n0B ++ n1B ++ sdB 1)) 2 from rfl, h1, h2]
    rfl
  rw [drB, show (64 + 31) / 32 = 2 from rfl, h3, nums_strOfNums]
  · rfl
  · exact bytes32L _ (by decide)
theorem nums_se1 : nums (seB kB n0B n1B 1) = w_t21 := by
  rw [seB, nums_extract, nums_dr1]
  rfl
theorem nums_hi0 : nums (hiB kB n0B n1B 0) = w_t10 := by
  rw [hiB, nums_extract, nums_dr0]
  rfl
theorem nums_mc : nums (mcB (hiB kB n0B n1B 0) (nuB 0)) = w_m := by
  rw [mcB, nums_strOfNums _ (mac_bytes _ _), nums_hi0, nuB, nums_strOfNums _ (numB_bytes _ _)]
  exact k_m
def a9B : ByteArray := ⟨#[97]⟩
theorem hd_a : hdB (hiB kB n0B n1B 0) 0 a9B = strOfNums [64] := by
  rw [hdB, xorB, if_pos (errP_zero.2 ⟨mcB_size _ _, by decide, by decide, by decide⟩), nums_mc]
  exact congrArg strOfNums k_p
theorem bd_a : nums (bdB (hiB kB n0B n1B 0) 0 a9B) = w_x := by
  rw [bdB, hd_a, nums_append, nums_append, nuB, nums_strOfNums _ (numB_bytes _ _), nums_strOfNums _ (bytes32L _ (by decide))]
  rfl
theorem own_no : isB (seB kB n0B n1B 1) (frB (hiB kB n0B n1B 0) (seB kB n0B n1B 0) 0 a9B) = false := by
  unfold isB
  refine decide_eq_false (fun h => ?_)
  have h1 := h.2.2.1
  rw [boB_fr] at h1
  have h2 := congrArg nums h1
  rw [tgB, frB, show lmB ++ nuB 0 ++ hdB (hiB kB n0B n1B 0) 0 a9B = bdB (hiB kB n0B n1B 0) 0 a9B from rfl, tgB, nums_append, nums_append] at h2
  have h3 := List.append_cancel_left h2
  rw [nums_extract, nums_extract, mcB, mcB, nums_strOfNums _ (mac_bytes _ _), nums_strOfNums _ (mac_bytes _ _), nums_se0, nums_se1, bd_a, k_a, k_b] at h3
  revert h3
  decide
end Go.Proofs.YtifjmldmilmfjaaGreatDoor
