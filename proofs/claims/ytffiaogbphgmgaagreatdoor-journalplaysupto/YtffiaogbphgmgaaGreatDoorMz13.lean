import Derived.Test.YtffiaogbphgmgaaGreatDoorMz12
import Derived.Test.YtffiaogbphgmgaaGreatDoorMz08
import Derived.Test.YtffiaogbphgmgaaGreatDoorMz10
import Derived.Test.YtffiaogbphgmgaaGreatDoorMz02
import Derived.Deep.RegionHeld3
namespace Go.Proofs.YtffiaogbphgmgaaGreatDoor
open Go.RowKit
/-- the number that stands at the i-th place of a head that is set -/
def tv (s : ByteArray) (i : Nat) : Int := beN (((nums s).drop (1 + 4 * i)).take 4)
/-- the document's targets, from the i-th one on -/
def tgF (s : ByteArray) (size : Int) : Nat → Nat → List Int → Option (List Int)
  | 0, _, l => some l
  | k + 1, i, l => if badP size l (tv s i) then none else tgF s size k (i + 1) (l ++ [tv s i])
def tgD (s : ByteArray) (size : Int) : Option (List Int) := if s.size = 65 ∧ (nums s).getD 0 0 = 1 then tgF s size 16 0 [] else none
theorem rd4 (s : ByteArray) (a : Nat) (t : Int) (h : a + 4 ≤ s.size) : rdV ⟨s.extract a s.size, t, 0⟩ 4 = beN (((nums s).drop a).take 4) ∧ rdS ⟨s.extract a s.size, t, 0⟩ 4 = ⟨s.extract (a + 4) s.size, t + 4, 0⟩ := by
  have hE : numE 4 (s.extract a s.size) = 0 := numE_ok 4 _ (by omega) (by omega) (by rw [size_tail]; omega)
  refine ⟨?_, ?_⟩
  · rw [rdV, if_pos rfl, numV, if_pos hE, nums_tail]
    rfl
  · rw [rdS, stepR, if_pos rfl, hE, rRest, if_pos rfl, rTak, if_pos rfl, show (4 : Int).toNat = 4 from rfl, extract_tail]
    rfl
theorem rd4_bad (r : RSt) (h4 : r.r.size < 4) (size : Int) (l : List Int) : badP size l (rdV r 4) := by
  have hE : numE 4 r.r = 31 := by rw [numE, if_neg (by omega), if_pos (by omega)]
  have hV : rdV r 4 = 0 := by
    rw [rdV]
    split
    · rw [numV, if_neg (by rw [hE]; decide)]
    · rfl
  rw [hV]
  exact ⟨by decide, .inl (fun q => by omega)⟩
theorem homes_full (size : Int) (s : ByteArray) : ∀ (k a : Nat) (t : Int) (l : List Int), a ≤ s.size → (homesF size k ⟨s.extract a s.size, t, 0⟩ l).2.length = l.length + k → a + 4 * k ≤ s.size ∧ ∃ t', (homesF size k ⟨s.extract a s.size, t, 0⟩ l).1 = ⟨s.extract (a + 4 * k) s.size, t', 0⟩
  | 0, a, t, l, ha, _ => ⟨by omega, t, by rw [homesF]; rfl⟩
  | k + 1, a, t, l, ha, h => by
    rw [homesF] at h ⊢
    by_cases hb : badP size l (rdV ⟨s.extract a s.size, t, 0⟩ 4)
    · rw [if_pos hb] at h
      have h' : l.length = l.length + (k + 1) := h
      omega
    · rw [if_neg hb] at h ⊢
      have h4 : a + 4 ≤ s.size := Classical.byContradiction (fun q => hb (rd4_bad _ (by show (s.extract a s.size).size < 4; rw [size_tail]; omega) size l))
      rw [(rd4 s a t h4).2] at h ⊢
      obtain ⟨h1, t', h2⟩ := homes_full size s k (a + 4) (t + 4) _ h4 (by rw [h]; simp; omega)
      exact ⟨by omega, t', by rw [h2, show a + 4 + 4 * k = a + 4 * (k + 1) by omega]⟩
theorem homes_tg (size : Int) (s : ByteArray) : ∀ (k i : Nat) (t : Int) (l : List Int), 1 + 4 * (i + k) ≤ s.size → (tgF s size k i l = none → (homesF size k ⟨s.extract (1 + 4 * i) s.size, t, 0⟩ l).2.length < l.length + k) ∧ ∀ l', tgF s size k i l = some l' → (homesF size k ⟨s.extract (1 + 4 * i) s.size, t, 0⟩ l).2 = l' ∧ l'.length = l.length + k
  | 0, i, t, l, _ => by
    refine ⟨fun h => ?_, fun l' h => ?_⟩
    · rw [tgF] at h
      cases h
    · rw [tgF] at h
      obtain rfl := Option.some.inj h
      exact ⟨by rw [homesF], rfl⟩
  | k + 1, i, t, l, h => by
    obtain ⟨r1, r2⟩ := rd4 s (1 + 4 * i) t (by omega)
    rw [homesF, tgF, r1, r2]
    by_cases hb : badP size l (tv s i)
    · have hb' : badP size l (beN (List.take 4 (List.drop (1 + 4 * i) (nums s)))) := hb
      rw [if_pos hb, if_pos hb']
      exact ⟨fun _ => by show l.length < _; omega, fun l' q => by cases q⟩
    · have hb' : ¬ badP size l (beN (List.take 4 (List.drop (1 + 4 * i) (nums s)))) := hb
      rw [if_neg hb, if_neg hb']
      obtain ⟨i1, i2⟩ := homes_tg size s k (i + 1) (t + 4) (l ++ [tv s i]) (by omega)
      rw [show 1 + 4 * (i + 1) = 1 + 4 * i + 4 by omega] at i1 i2
      refine ⟨fun q => ?_, fun l' q => ?_⟩
      · have := i1 q
        simp at this
        show (homesF size k _ (l ++ [tv s i])).2.length < _
        omega
      · obtain ⟨q1, q2⟩ := i2 l' q
        exact ⟨q1, by simp at q2; omega⟩
theorem rd1 (s : ByteArray) (h : 1 ≤ s.size) : rdV ⟨s, 0, 0⟩ 1 = (nums s).getD 0 0 ∧ rdS ⟨s, 0, 0⟩ 1 = ⟨s.extract 1 s.size, 1, 0⟩ := by
  have hE : numE 1 s = 0 := numE_ok 1 _ (by omega) (by omega) h
  refine ⟨?_, ?_⟩
  · rw [rdV, if_pos rfl, numV, if_pos hE]
    exact getD_drop0 (nums s) 0
  · rw [rdS, stepR, if_pos rfl, hE, rRest, if_pos rfl, rTak, if_pos rfl]
    rfl
theorem rd1_nil (s : ByteArray) (h : s.size = 0) : rdV ⟨s, 0, 0⟩ 1 = 0 ∧ (rdS ⟨s, 0, 0⟩ 1).e = 31 := by
  have hE : numE 1 s = 31 := by rw [numE, if_neg (by omega), if_pos (by omega)]
  refine ⟨?_, ?_⟩
  · rw [rdV, if_pos rfl, numV, if_neg (by rw [hE]; decide)]
  · rw [rdS, stepR, if_pos rfl, hE]
theorem one_zero (s : ByteArray) (h : s.size = 1) (h0 : (nums s).getD 0 0 = 0) : s = ⟨#[0]⟩ := by
  apply nums_inj
  have hl : (nums s).length = 1 := by rw [nums_len, h]
  match hs : nums s, hl with
  | [x], _ =>
    rw [hs] at h0
    have : x = 0 := h0
    rw [this]
    rfl
/-- what a sector says as a head, in the document's words -/
theorem rhp_doc (t : ByteArray) (size n : Int) (H : List Int) (ok : Bool) (h : RHP t size n H ok) (hp : prOk t ∧ pkd t = 2) :
    n = pnm t ∧ ((pbd t = ⟨#[0]⟩ ∧ H = [] ∧ ok = true) ∨ (pbd t ≠ ⟨#[0]⟩ ∧ tgD (pbd t) size = some H ∧ H.length = 16 ∧ ok = true) ∨ (pbd t ≠ ⟨#[0]⟩ ∧ tgD (pbd t) size = none ∧ ok = false)) := by
  rcases h with ⟨q, _⟩ | ⟨_, hn, h⟩
  · exact absurd hp q
  refine ⟨hn, ?_⟩
  have e0 : rs0 t = ⟨pbd t, 0, 0⟩ := rfl
  rw [e0] at h
  generalize pbd t = s at *
  by_cases hz : s.size = 0
  · obtain ⟨v1, v2⟩ := rd1_nil s hz
    rw [v1] at h
    rcases h with ⟨q, _⟩ | ⟨_, _, hok⟩
    · cases q
    · refine .inr (.inr ⟨(fun q => by rw [q] at hz; cases hz), by rw [tgD, if_neg (fun q => by omega)], ?_⟩)
      rw [hok, v2]
      exact decide_eq_false (fun q => by have := q.1; unfold doneE at this; rw [if_neg (fun r => by have := r.1; omega)] at this; omega)
  · obtain ⟨v1, v2⟩ := rd1 s (by omega)
    rw [v1, v2] at h
    by_cases hb : (nums s).getD 0 0 = 1
    · rcases h with ⟨_, hH, hok⟩ | ⟨q, _⟩
      · have hne : s ≠ ⟨#[0]⟩ := fun q => by rw [q] at hb; cases hb
        refine .inr ?_
        have e1 : (1 : Nat) + 4 * 0 = 1 := rfl
        by_cases h65 : s.size = 65
        · have hg := homes_tg size s 16 0 1 [] (by omega)
          rw [e1] at hg
          have hD : tgD s size = tgF s size 16 0 [] := by rw [tgD, if_pos ⟨h65, hb⟩]
          cases ht : tgF s size 16 0 [] with
          | none =>
            have hl := hg.1 ht
            refine .inr ⟨hne, by rw [hD, ht], ?_⟩
            rw [hok]
            exact decide_eq_false (fun q => by have := q.2; rw [hH] at this; simp at hl; omega)
          | some l =>
            obtain ⟨g1, g2⟩ := hg.2 l ht
            have hl16 : l.length = 16 := by simpa using g2
            obtain ⟨_, t', f2⟩ := homes_full size s 16 1 1 [] (by omega) (by rw [g1, g2])
            have hHl : H = l := hH.trans g1
            refine .inl ⟨hne, by rw [hD, ht, hHl], by rw [hHl, hl16], ?_⟩
            rw [hok, f2]
            refine decide_eq_true ⟨?_, by rw [hHl, hl16]⟩
            show doneE (s.extract (1 + 4 * 16) s.size) 0 = 0
            rw [doneE, if_neg (fun q => by have := q.2; rw [size_tail] at this; omega)]
        · refine .inr ⟨hne, by rw [tgD, if_neg (fun q => h65 q.1)], ?_⟩
          rw [hok]
          refine decide_eq_false (fun q => ?_)
          obtain ⟨f1, t', f2⟩ := homes_full size s 16 1 1 [] (by omega) (by rw [← hH]; simpa using q.2)
          have q1 := q.1
          rw [f2] at q1
          have q2 : doneE (s.extract (1 + 4 * 16) s.size) 0 = 0 := q1
          rw [doneE, if_pos ⟨rfl, by rw [size_tail]; omega⟩] at q2
          cases q2
      · exact absurd hb q
    · rcases h with ⟨q, _⟩ | ⟨_, hH, hok⟩
      · exact absurd q hb
      · have hT : tgD s size = none := by rw [tgD, if_neg (fun q => hb q.2)]
        by_cases h1 : s = ⟨#[0]⟩
        · refine .inl ⟨h1, hH, ?_⟩
          rw [hok, h1]
          rfl
        · refine .inr (.inr ⟨h1, hT, ?_⟩)
          rw [hok]
          refine decide_eq_false (fun q => h1 (one_zero s ?_ q.2))
          have q1 : doneE (s.extract 1 s.size) 0 = 0 := q.1
          unfold doneE at q1
          by_cases hs : 0 < (s.extract 1 s.size).size
          · rw [if_pos ⟨rfl, hs⟩] at q1
            cases q1
          · rw [size_tail] at hs
            omega
end Go.Proofs.YtffiaogbphgmgaaGreatDoor

namespace Go.Proofs.YtffiaogbphgmgaaGreatDoor
open Go.RowKit
theorem numB_cons (v : Int) (i : Nat) : numB v (i + 1) = (v / 2 ^ (8 * i) % 256) :: numB v i := by
  apply List.ext_getElem?
  intro j
  cases j with
  | zero => simp [numB]
  | succ j =>
    by_cases h : j < i
    · simp [numB, h]
      rw [show i - (j + 1) = i - 1 - j by omega]
    · simp [numB, h]
theorem strOfNums_app (a b : List Int) : strOfNums (a ++ b) = strOfNums a ++ strOfNums b := by
  simp only [strOfNums, List.map_append]
  apply ByteArray.ext
  simp
theorem strOfNums_size (l : List Int) : (strOfNums l).size = l.length := by simp [strOfNums, ByteArray.size]
/-- One byte as a text. -/
theorem run_one (w : World) (x : Int) (T : TypeId) : (convert 67 9 (.slice (some ⟨w.heap.size, 0, none⟩) 1 1)).run Tryz.prog (w.alloc (Obj.cells #[.int .u8 x] T)) = .ok (.string (strOfNums [x])) (w.alloc (Obj.cells #[.int .u8 x] T)) := by
  have hA := arr_new w .u8 [x] T #[.int .u8 x] rfl
  exact run_convert_bytes_arg (P := Tryz.prog) (w.alloc (Obj.cells #[.int .u8 x] T)) 67 5 Tryz.underlying67 Tryz.underlying5 w.heap.size 0 1 1 [x] rfl (fun i hi => hA.get i (by simpa using hi)) 9 Tryz.underlying9
set_option maxRecDepth 100000 in
set_option maxHeartbeats 1000000 in
theorem rbytes_any (n : Nat) (k : Nat) (hn : n ≤ 9223372036854775807) (hk : k ≤ 8) (w : World) :
    Calls Tryz.prog 80 #[.int .i64 (n : Int), .int .i64 (k : Int)] w fun e w' => e = .returned (.string (strOfNums (numB (n : Int) k))) ∧ Below w.heap.size w w' := by
  have HB := hide (Below.refl w.heap.size w)
  go_enter Tryz.func80, Tryz.ntmps80
  go_wp2
  go_loopw [0, 5, 6] (fun u s i wr => ∃ j m : Nat, j ≤ k ∧ (m : Int) = (n : Int) / 2 ^ (8 * j) ∧ u = .int .i64 (m : Int) ∧ i = .int .i64 (j : Int) ∧ s = .string (strOfNums (numB (n : Int) j)) ∧ Below w.heap.size w wr) (fun _ _ i _ => k - (intOf i).toNat)
  case atStart => exact ⟨0, n, by omega, by simp, rfl, rfl, rfl, unhide HB⟩
  case round =>
    obtain ⟨j, m, hj, hm, rfl, rfl, rfl, hBe⟩ := hrel
    obtain ⟨wo, rfl⟩ : ∃ wo, wo = wr := ⟨_, rfl⟩
    have HBE := hide hBe
    clear hBe HB
    have hml : m ≤ n := by
      have : (n : Int) / 2 ^ (8 * j) ≤ (n : Int) := Int.ediv_le_self _ (by omega)
      omega
    by_cases hjk : j < k
    · have hr : ((m : Int)).tmod 256 = ((m % 256 : Nat) : Int) := rfl
      obtain ⟨R, hR⟩ : ∃ R, m % 256 = R := ⟨_, rfl⟩
      obtain ⟨Q, hQ⟩ : ∃ Q, m / 256 = Q := ⟨_, rfl⟩
      have hq : ((m : Int)).tdiv 256 = (Q : Int) := by rw [← hQ]; rfl
      rw [hR] at hr
      have hR8 : R < 256 := by omega
      have hw8 : IntKind.u8.wrap (R : Int) = (R : Int) := by rw [IntKind.wrap_u8']; omega
      have hcv := run_one wo (R : Int) 5
      have hsz : (strOfNums (numB (n : Int) j)).size = j := by rw [strOfNums_size, numB_len]
      have hs1 : (strOfNums [(R : Int)]).size = 1 := rfl
      have HN := hide (show strOfNums [(R : Int)] ++ strOfNums (numB (n : Int) j) = strOfNums (numB (n : Int) (j + 1)) by
        rw [← strOfNums_app, numB_cons, ← hm, ← hR]
        have : ((m % 256 : Nat) : Int) = (m : Int) % 256 := by omega
        rw [this]
        rfl)
      have HQ := hide (show (Q : Int) = (n : Int) / 2 ^ (8 * (j + 1)) by
        rw [show 8 * (j + 1) = 8 * j + 8 by omega, Int.pow_add, ← Int.ediv_ediv_of_nonneg (by exact Int.pow_nonneg (by omega)), ← hm]
        have : (2 : Int) ^ 8 = 256 := by decide
        rw [this]
        omega)
      have hQl : Q ≤ m := by omega
      clear hR hQ hm
      generalize strOfNums (numB (n : Int) j) = S at *
      generalize strOfNums [(R : Int)] = S1 at *
      have y1 : ¬ 9223372036854775807 < S1.size + S.size := by omega
      have y2 : ¬ 9223372036854775807 < 1 + j := by omega
      go_wp2
      go_roundw
      case rel => exact ⟨j + 1, Q, by omega, unhide HQ, by go_num, by go_num, by rw [unhide HN], (unhide HBE).alloc (by have := (unhide HBE).size; omega) _⟩
      case measure => simp [intOf]; omega
    · have hjk' : j = k := by omega
      subst hjk'
      go_wp2
      go_ret
      exact ⟨rfl, unhide HBE⟩
end Go.Proofs.YtffiaogbphgmgaaGreatDoor

namespace Go.Proofs.YtffiaogbphgmgaaGreatDoor
open Go.RowKit
set_option maxRecDepth 100000 in
set_option maxHeartbeats 1000000 in
theorem rzeros_any (n : Nat) (hn : n ≤ 244) (w : World) :
    Calls Tryz.prog 108 #[.int .i64 (n : Int)] w fun e w' => e = .returned (.string (strOfNums (List.replicate n 0))) ∧ Below w.heap.size w w' := by
  obtain ⟨zc, hzc⟩ : ∃ zc : Array Value, zc = ((List.replicate n (0 : Int)).map (Value.int .u8)).toArray := ⟨_, rfl⟩
  have hmk : ∀ W : World, (Instr.makeSlice 67 (.int .i64 (n : Int)) (.int .i64 (n : Int))).run Tryz.prog W = .ok (.slice (some ⟨W.heap.size, 0, none⟩) n n) (W.alloc (.cells zc 5)) := by
    intro W
    rw [hzc]
    exact run_make_u8 n n (Nat.le_refl _) (by omega) W
  have hA := arr_new w .u8 (List.replicate n 0) 5 zc hzc
  have hcv := run_convert_bytes_arg (P := Tryz.prog) (w.alloc (Obj.cells zc 5)) 67 5 Tryz.underlying67 Tryz.underlying5 w.heap.size 0 n n (List.replicate n 0) (by simp) (fun i hi => hA.get i (by simpa using hi)) 9 Tryz.underlying9
  obtain ⟨Z, hZ⟩ : ∃ Z, strOfNums (List.replicate n 0) = Z := ⟨_, rfl⟩
  rw [hZ] at hcv ⊢
  clear hA hzc hZ
  go_enter Tryz.func108, Tryz.ntmps108
  go_wp2
  go_ret
  exact ⟨rfl, (Below.refl _ w).alloc (Nat.le_refl _) _⟩
end Go.Proofs.YtffiaogbphgmgaaGreatDoor

namespace Go.Proofs.YtffiaogbphgmgaaGreatDoor
open Go.RowKit
set_option maxRecDepth 100000 in
set_option maxHeartbeats 1000000 in
theorem rcheck_g (s : ByteArray) (G : Nat) (hG : G = chkN (nums s)) (hs : s.size ≤ 9223372036854775806) (w : World) :
    Calls Tryz.prog 109 #[.string s] w fun e w' => e = .returned (.int .i64 (G : Int)) ∧ w' = w := by
  have HG := hide hG
  clear hG
  have hix := fun (i : Nat) (hi : i < s.size) (W : World) => index_str s i hi W
  go_enter Tryz.func109, Tryz.ntmps109
  go_wp2
  go_loopw [3, 4] (fun c i wr => ∃ n : Nat, n ≤ s.size ∧ i = .int .i64 (n : Int) ∧ c = .int .i64 (crcR 4294967295 (nats ((nums s).take n)) : Int) ∧ wr = w) (fun _ i _ => s.size - (intOf i).toNat)
  case atStart => exact ⟨0, by omega, rfl, rfl, rfl⟩
  case round =>
    obtain ⟨n, hn, rfl, rfl, rfl⟩ := hrel
    obtain ⟨wo, rfl⟩ : ∃ wo, wo = wr := ⟨_, rfl⟩
    have hlt := crcR_lt (nats ((nums s).take n)) (nats_lt _ (fun j => by
      have := nums_bytes s j
      rw [List.getD_eq_getElem?_getD, List.getElem?_take]
      split
      · rw [← List.getD_eq_getElem?_getD]; exact this
      · simp)) 4294967295 (by omega)
    by_cases hns : n < s.size
    · obtain ⟨B, hB, hBe, hBt⟩ := nums_nat s n hns
      have hi2 := hix n hns
      rw [hBe] at hi2
      have HT := hide hBt
      have HC := hide (show crcR 4294967295 (nats ((nums s).take (n + 1))) = cbyte (crcR 4294967295 (nats ((nums s).take n))) B by rw [hBt, crcR, List.foldl_append]; rfl)
      clear hBt hBe hix
      generalize crcR 4294967295 (nats ((nums s).take n)) = V at *
      have hx := i64_xor_nat V B hlt (by omega)
      have hxl : V ^^^ B < 4294967296 := Nat.xor_lt_two_pow (n := 32) (by omega) (by omega)
      go_wp2
      go_loopw [3, 5] (fun c i wr => ∃ k : Nat, k ≤ 8 ∧ i = .int .i64 (k : Int) ∧ c = .int .i64 (iter k (V ^^^ B) : Int) ∧ wr = wo) (fun _ i _ => 8 - (intOf i).toNat)
      case atStart => exact ⟨0, by omega, rfl, rfl, rfl⟩
      case round =>
        obtain ⟨k, hk, rfl, rfl, rfl⟩ := hrel
        have hl := iter_lt k (V ^^^ B) hxl
        have HS := hide (iter_succ' k (V ^^^ B))
        by_cases hk8 : k < 8
        · generalize iter k (V ^^^ B) = U at *
          have ha : ((U : Int)).tmod 2 = ((U % 2 : Nat) : Int) := rfl
          obtain ⟨U2, hU2⟩ : ∃ U2, U / 2 = U2 := ⟨_, rfl⟩
          have hq : ((U : Int)).tdiv 2 = (U2 : Int) := by rw [← hU2]; rfl
          have HX2 := hide (i64_xor_nat U2 3988292384 (by omega) (by omega))
          have HU2 := hide hU2
          have hU2l : U2 < 4294967296 := by omega
          clear hU2
          rcases Nat.mod_two_eq_zero_or_one U with h | h
          · rw [h] at ha
            go_wp2
            go_roundw
            case rel => exact ⟨k + 1, by omega, by go_num, by rw [unhide HS, cstep, if_neg (by omega), Nat.xor_zero, unhide HU2], trivial⟩
            case measure => simp [intOf]; omega
          · rw [h] at ha
            go_wp2
            go_roundw
            case rel => exact ⟨k + 1, by omega, by go_num, by rw [unhide HS, cstep, if_pos h, unhide HU2, ← unhide HX2]; rfl, trivial⟩
            case measure => simp [intOf]; omega
        · obtain rfl : k = 8 := by omega
          go_wp2
          go_roundw
          case rel => exact ⟨n + 1, by omega, by go_num, by rw [unhide HC]; rfl, trivial⟩
          case measure => simp [intOf]; omega
    · have HF := hide (show G = 4294967295 - crcR 4294967295 (nats ((nums s).take n)) by rw [unhide HG, chkN, List.take_of_length_le (by rw [nums_len]; omega)])
      clear hix HG
      generalize crcR 4294967295 (nats ((nums s).take n)) = V at *
      go_wp2
      go_ret
      refine ⟨?_, rfl⟩
      have e : (G : Int) = 4294967295 - (V : Int) := by have := unhide HF; omega
      rw [e]
      rfl
end Go.Proofs.YtffiaogbphgmgaaGreatDoor

namespace Go.Proofs.YtffiaogbphgmgaaGreatDoor
open Go.RowKit
def leK (c : Nat) : Nat → List Int
  | 0 => []
  | j + 1 => leK c j ++ [((c / 256 ^ j % 256 : Nat) : Int)]
theorem leK_len (c : Nat) : ∀ j, (leK c j).length = j
  | 0 => rfl
  | j + 1 => by rw [leK, List.length_append, leK_len c j]; rfl
theorem leK4 (c : Nat) (h : c ≤ 4294967295) : leK c 4 = le4 c := by
  simp only [leK, le4]
  have h3 : c / 256 ^ 3 % 256 = c / 16777216 := by
    have : (256 : Nat) ^ 3 = 16777216 := by decide
    rw [this]; omega
  rw [h3]
  simp
set_option maxRecDepth 100000 in
set_option maxHeartbeats 4000000 in
theorem rmake_ok (kind number : Nat) (body : ByteArray) (hk : kind ≤ 255) (hn : number ≤ 4294967295) (hbd : body.size ≤ 244) (w : World) :
    Calls Tryz.prog 81 #[.agg #[.int .i64 (kind : Int), .int .i64 (number : Int), .string body]] w fun e w' => e = .returned (.tuple #[.string (strOfNums (makeL (kind : Int) (number : Int) (nums body))), .int .i64 0]) ∧ Below w.heap.size w w' := by
  obtain ⟨n, hnB⟩ : ∃ n, body.size = n := ⟨_, rfl⟩
  obtain ⟨z, hz⟩ : ∃ z, 244 - n = z := ⟨_, rfl⟩
  have H1 := hide (fun W => rbytes_any kind 1 (by omega) (by omega) W)
  have H2 := hide (fun W => rbytes_any n 1 (by omega) (by omega) W)
  have H4 := hide (fun W => rbytes_any number 4 (by omega) (by omega) W)
  have HZ := hide (fun W => rzeros_any z (by omega) W)
  obtain ⟨P, hP⟩ : ∃ P, pageL (kind : Int) (number : Int) (nums body) = P := ⟨_, rfl⟩
  have hPl : P.length = 252 := by rw [← hP]; exact pageL_len _ _ _ (by rw [nums_len]; exact hbd)
  have hPb : Bytes P := by rw [← hP]; exact pageL_bytes _ _ _ (nums_bytes _)
  obtain ⟨c, hc⟩ : ∃ c, chkN P = c := ⟨_, rfl⟩
  have hcl : c ≤ 4294967295 := by rw [← hc]; exact chkN_lt _
  have hmk : makeL (kind : Int) (number : Int) (nums body) = P ++ leK c 4 := by rw [makeL, hP, hc, leK4 c hcl]
  obtain ⟨A1, hA1⟩ : ∃ A, (⟨#[83, 66]⟩ : ByteArray) ++ strOfNums (numB (kind : Int) 1) = A := ⟨_, rfl⟩
  obtain ⟨A2, hA2⟩ : ∃ A, A1 ++ strOfNums (numB (n : Int) 1) = A := ⟨_, rfl⟩
  obtain ⟨A3, hA3⟩ : ∃ A, A2 ++ strOfNums (numB (number : Int) 4) = A := ⟨_, rfl⟩
  obtain ⟨A4, hA4⟩ : ∃ A, A3 ++ body = A := ⟨_, rfl⟩
  obtain ⟨A5, hA5⟩ : ∃ A, A4 ++ strOfNums (List.replicate z 0) = A := ⟨_, rfl⟩
  have hPA : A5 = strOfNums P := by
    rw [← hA5, ← hA4, ← hA3, ← hA2, ← hA1, ← hP, pageL, nums_len, hnB, hz, strOfNums_app, strOfNums_app, strOfNums_app, strOfNums_app, strOfNums_app, strOfNums_nums]
    have e : strOfNums [83, 66] = ⟨#[83, 66]⟩ := rfl
    rw [e, ← ByteArray.append_assoc]
  have z1 : (strOfNums (numB (kind : Int) 1)).size = 1 := by rw [strOfNums_size, numB_len]
  have z2 : (strOfNums (numB (n : Int) 1)).size = 1 := by rw [strOfNums_size, numB_len]
  have z4 : (strOfNums (numB (number : Int) 4)).size = 4 := by rw [strOfNums_size, numB_len]
  have zz : (strOfNums (List.replicate z 0)).size = z := by rw [strOfNums_size]; simp
  generalize strOfNums (numB (kind : Int) 1) = S1 at *
  generalize strOfNums (numB (n : Int) 1) = S2 at *
  generalize strOfNums (numB (number : Int) 4) = S4 at *
  generalize strOfNums (List.replicate z 0) = SZ at *
  have a1 : A1.size = 3 := by rw [← hA1, ByteArray.size_append, z1]; rfl
  have a2 : A2.size = 4 := by rw [← hA2, ByteArray.size_append, a1, z2]
  have a3 : A3.size = 8 := by rw [← hA3, ByteArray.size_append, a2, z4]
  have a4 : A4.size = 8 + n := by rw [← hA4, ByteArray.size_append, a3, hnB]
  have y1 : ¬ 9223372036854775807 < 2 + S1.size := by omega
  have y2 : ¬ 9223372036854775807 < A1.size + S2.size := by omega
  have y3 : ¬ 9223372036854775807 < A2.size + S4.size := by omega
  have y4 : ¬ 9223372036854775807 < A3.size + n := by omega
  have y5 : ¬ 9223372036854775807 < A4.size + SZ.size := by omega
  have HCK := hide (fun W => rcheck_g A5 c (by rw [hPA, nums_strOfNums P hPb, hc]) (by rw [hPA, strOfNums_size, hPl]; decide) W)
  have HPA := hide hPA
  have HMK := hide hmk
  have HP5 := hide (show A5.size = 252 by rw [hPA, strOfNums_size, hPl])
  have hsub : (244 : Int) - (n : Int) = (z : Int) := by omega
  have hn244 : n ≤ 244 := by omega
  have hwz : IntKind.i64.wrap (z : Int) = (z : Int) := wrapI_eq _ (by omega) (by omega)
  have hkk : ¬ (kind : Int) < 0 := by omega
  have hk255 : ¬ 255 < kind := by omega
  have hn0 : ¬ (number : Int) < 0 := by omega
  have hn255 : ¬ 4294967295 < number := by omega
  have hd1 : decide ((kind : Int) < 0) = false := decide_eq_false hkk
  have hd2 : decide (255 < (kind : Int)) = false := decide_eq_false (by omega)
  have hd3 : decide ((number : Int) < 0) = false := decide_eq_false hn0
  have hd4 : decide (4294967295 < (number : Int)) = false := decide_eq_false (by omega)
  rw [unhide HMK]
  clear hP hPl hPb hc hmk hPA z1 z2 z4 zz a1 a2 a3 a4 hz
  have q0 : (w.alloc (Obj.cells #[.int .i64 (kind : Int), .int .i64 (number : Int), .string body] 123)).cell? ⟨w.heap.size, 0, none⟩ = some (.int .i64 (kind : Int)) := by simp
  have q1 : (w.alloc (Obj.cells #[.int .i64 (kind : Int), .int .i64 (number : Int), .string body] 123)).cell? ⟨w.heap.size, 1, none⟩ = some (.int .i64 (number : Int)) := by simp
  have q2 : (w.alloc (Obj.cells #[.int .i64 (kind : Int), .int .i64 (number : Int), .string body] 123)).cell? ⟨w.heap.size, 2, none⟩ = some (.string body) := by simp
  have Bx0 := hide ((Below.refl (w.heap.size + 1) (w.alloc (Obj.cells #[.int .i64 (kind : Int), .int .i64 (number : Int), .string body] 123))).drew)
  go_enter Tryz.func81, Tryz.ntmps81
  go_wp2
  refine wp_region_held_drew (S := fun w' => w'.cell? ⟨w.heap.size, 0, none⟩ = some (.int .i64 (kind : Int)) ∧ w'.cell? ⟨w.heap.size, 1, none⟩ = some (.int .i64 (number : Int)) ∧ w'.cell? ⟨w.heap.size, 2, none⟩ = some (.string body)) (by kernel_rfl) ⟨q0, q1, q2⟩ ?_
  intro hS
  refine wpAnyH_takeD 0 (some 29) (.pointer (some ⟨w.heap.size, 0, none⟩)) rfl rfl (by kernel_rfl) (by kernel_rfl) (by kernel_rfl) (fun _ _ _ h => h) (Or.inl ⟨by rfl, fun w hSw => by obtain ⟨q0, q1, q2⟩ := hSw; go_simp⟩) hS ?_
  simp only [Act.put, List.setIfInBounds_toArray, List.set_cons_zero, List.set_cons_succ]
  refine wpAnyH_takeD 1 (some 30) (.int .i64 (kind : Int)) rfl rfl (by kernel_rfl) (by kernel_rfl) (by kernel_rfl) (fun _ _ _ h => h) (Or.inl ⟨by rfl, fun w hSw => by obtain ⟨q0, q1, q2⟩ := hSw; go_simp⟩) hS ?_
  simp only [Act.put, List.setIfInBounds_toArray, List.set_cons_zero, List.set_cons_succ]
  refine wpAnyH_takeD 4 (some 33) (.pointer (some ⟨w.heap.size, 2, none⟩)) rfl rfl (by kernel_rfl) (by kernel_rfl) (by kernel_rfl) (fun _ _ _ h => h) (Or.inl ⟨by rfl, fun w hSw => by obtain ⟨q0, q1, q2⟩ := hSw; go_simp⟩) hS ?_
  simp only [Act.put, List.setIfInBounds_toArray, List.set_cons_zero, List.set_cons_succ]
  refine wpAnyH_takeD 5 (some 34) (.string body) rfl rfl (by kernel_rfl) (by kernel_rfl) (by kernel_rfl) (fun _ _ _ h => h) (Or.inl ⟨by rfl, fun w hSw => by obtain ⟨q0, q1, q2⟩ := hSw; go_simp⟩) hS ?_
  simp only [Act.put, List.setIfInBounds_toArray, List.set_cons_zero, List.set_cons_succ]
  refine wpAnyH_takeD 6 (some 35) (.int .i64 (n : Int)) rfl rfl (by kernel_rfl) (by kernel_rfl) (by kernel_rfl) (fun _ _ _ h => h) (Or.inl ⟨by rfl, fun w hSw => by obtain ⟨q0, q1, q2⟩ := hSw; go_simp⟩) hS ?_
  simp only [Act.put, List.setIfInBounds_toArray, List.set_cons_zero, List.set_cons_succ]
  refine wpAnyH_takeD 9 (some 38) (.pointer (some ⟨w.heap.size, 1, none⟩)) rfl rfl (by kernel_rfl) (by kernel_rfl) (by kernel_rfl) (fun _ _ _ h => h) (Or.inl ⟨by rfl, fun w hSw => by obtain ⟨q0, q1, q2⟩ := hSw; go_simp⟩) hS ?_
  simp only [Act.put, List.setIfInBounds_toArray, List.set_cons_zero, List.set_cons_succ]
  refine wpAnyH_takeD 10 (some 39) (.int .i64 (number : Int)) rfl rfl (by kernel_rfl) (by kernel_rfl) (by kernel_rfl) (fun _ _ _ h => h) (Or.inl ⟨by rfl, fun w hSw => by obtain ⟨q0, q1, q2⟩ := hSw; go_simp⟩) hS ?_
  simp only [Act.put, List.setIfInBounds_toArray, List.set_cons_zero, List.set_cons_succ]
  refine wpAnyH_takeD 13 (some 42) (.pointer (some ⟨w.heap.size, 2, none⟩)) rfl rfl (by kernel_rfl) (by kernel_rfl) (by kernel_rfl) (fun _ _ _ h => h) (Or.inl ⟨by rfl, fun w hSw => by obtain ⟨q0, q1, q2⟩ := hSw; go_simp⟩) hS ?_
  simp only [Act.put, List.setIfInBounds_toArray, List.set_cons_zero, List.set_cons_succ]
  refine wpAnyH_takeD 14 (some 43) (.string body) rfl rfl (by kernel_rfl) (by kernel_rfl) (by kernel_rfl) (fun _ _ _ h => h) (Or.inl ⟨by rfl, fun w hSw => by obtain ⟨q0, q1, q2⟩ := hSw; go_simp⟩) hS ?_
  simp only [Act.put, List.setIfInBounds_toArray, List.set_cons_zero, List.set_cons_succ]
  refine wpAnyH_takeD 16 (some 45) (.pointer (some ⟨w.heap.size, 2, none⟩)) rfl rfl (by kernel_rfl) (by kernel_rfl) (by kernel_rfl) (fun _ _ _ h => h) (Or.inl ⟨by rfl, fun w hSw => by obtain ⟨q0, q1, q2⟩ := hSw; go_simp⟩) hS ?_
  simp only [Act.put, List.setIfInBounds_toArray, List.set_cons_zero, List.set_cons_succ]
  refine wpAnyH_takeD 17 (some 46) (.string body) rfl rfl (by kernel_rfl) (by kernel_rfl) (by kernel_rfl) (fun _ _ _ h => h) (Or.inl ⟨by rfl, fun w hSw => by obtain ⟨q0, q1, q2⟩ := hSw; go_simp⟩) hS ?_
  simp only [Act.put, List.setIfInBounds_toArray, List.set_cons_zero, List.set_cons_succ]
  refine wpAnyH_takeD 18 (some 47) (.int .i64 (n : Int)) rfl rfl (by kernel_rfl) (by kernel_rfl) (by kernel_rfl) (fun _ _ _ h => h) (Or.inl ⟨by rfl, fun w hSw => by obtain ⟨q0, q1, q2⟩ := hSw; go_simp⟩) hS ?_
  simp only [Act.put, List.setIfInBounds_toArray, List.set_cons_zero, List.set_cons_succ]
  refine wpAnyH_takeD 19 (some 48) (.int .i64 (z : Int)) rfl rfl (by kernel_rfl) (by kernel_rfl) (by kernel_rfl) (fun _ _ _ h => h) (Or.inl ⟨by rfl, fun w hSw => by obtain ⟨q0, q1, q2⟩ := hSw; go_simp⟩) hS ?_
  simp only [Act.put, List.setIfInBounds_toArray, List.set_cons_zero, List.set_cons_succ]
  refine wpAnyH_ready (rs := [2]) (by kernel_rfl) (by simp) ?_
  refine AllReadyH.cons rfl (fun K hK => ?_) AllReadyH.nil
  simp only [List.getElem_toArray, List.getElem_cons_succ, List.getElem_cons_zero]
  go_simp
  refine (unhide H1 _).mono ?_
  rintro e x1 ⟨rfl, hB⟩
  have Bx1 := hide ((unhide Bx0).trans (hB.mono (by have := (unhide Bx0).size; have e : (w.alloc (Obj.cells #[.int .i64 (kind : Int), .int .i64 (number : Int), .string body] 123)).heap.size = w.heap.size + 1 := (by simp); rw [e] at this; exact this)))
  have hSS : x1.cell? ⟨w.heap.size, 0, none⟩ = some (.int .i64 (kind : Int)) ∧ x1.cell? ⟨w.heap.size, 1, none⟩ = some (.int .i64 (number : Int)) ∧ x1.cell? ⟨w.heap.size, 2, none⟩ = some (.string body) := ⟨by rw [(unhide Bx1).cell (p := ⟨w.heap.size, 0, none⟩) (by simp)]; exact q0, by rw [(unhide Bx1).cell (p := ⟨w.heap.size, 1, none⟩) (by simp)]; exact q1, by rw [(unhide Bx1).cell (p := ⟨w.heap.size, 2, none⟩) (by simp)]; exact q2⟩
  refine hK.out _ _ hSS (fun hS => ?_)
  clear hB hSS hK K Bx0
  refine wpAnyH_takeD 3 (some 32) (.string A1) rfl rfl (by kernel_rfl) (by kernel_rfl) (by kernel_rfl) (fun _ _ _ h => h) (Or.inl ⟨by rfl, fun w hSw => by obtain ⟨q0, q1, q2⟩ := hSw; go_simp⟩) hS ?_
  simp only [Act.put, List.setIfInBounds_toArray, List.set_cons_zero, List.set_cons_succ]
  refine wpAnyH_ready (rs := [7]) (by kernel_rfl) (by simp) ?_
  refine AllReadyH.cons rfl (fun K hK => ?_) AllReadyH.nil
  simp only [List.getElem_toArray, List.getElem_cons_succ, List.getElem_cons_zero]
  go_simp
  refine (unhide H2 _).mono ?_
  rintro e x2 ⟨rfl, hB⟩
  have Bx2 := hide ((unhide Bx1).trans (hB.mono (by have := (unhide Bx1).size; have e : (w.alloc (Obj.cells #[.int .i64 (kind : Int), .int .i64 (number : Int), .string body] 123)).heap.size = w.heap.size + 1 := (by simp); rw [e] at this; exact this)))
  have hSS : x2.cell? ⟨w.heap.size, 0, none⟩ = some (.int .i64 (kind : Int)) ∧ x2.cell? ⟨w.heap.size, 1, none⟩ = some (.int .i64 (number : Int)) ∧ x2.cell? ⟨w.heap.size, 2, none⟩ = some (.string body) := ⟨by rw [(unhide Bx2).cell (p := ⟨w.heap.size, 0, none⟩) (by simp)]; exact q0, by rw [(unhide Bx2).cell (p := ⟨w.heap.size, 1, none⟩) (by simp)]; exact q1, by rw [(unhide Bx2).cell (p := ⟨w.heap.size, 2, none⟩) (by simp)]; exact q2⟩
  refine hK.out _ _ hSS (fun hS => ?_)
  clear hB hSS hK K Bx1
  refine wpAnyH_takeD 8 (some 37) (.string A2) rfl rfl (by kernel_rfl) (by kernel_rfl) (by kernel_rfl) (fun _ _ _ h => h) (Or.inl ⟨by rfl, fun w hSw => by obtain ⟨q0, q1, q2⟩ := hSw; go_simp⟩) hS ?_
  simp only [Act.put, List.setIfInBounds_toArray, List.set_cons_zero, List.set_cons_succ]
  refine wpAnyH_ready (rs := [11]) (by kernel_rfl) (by simp) ?_
  refine AllReadyH.cons rfl (fun K hK => ?_) AllReadyH.nil
  simp only [List.getElem_toArray, List.getElem_cons_succ, List.getElem_cons_zero]
  go_simp
  refine (unhide H4 _).mono ?_
  rintro e x3 ⟨rfl, hB⟩
  have Bx3 := hide ((unhide Bx2).trans (hB.mono (by have := (unhide Bx2).size; have e : (w.alloc (Obj.cells #[.int .i64 (kind : Int), .int .i64 (number : Int), .string body] 123)).heap.size = w.heap.size + 1 := (by simp); rw [e] at this; exact this)))
  have hSS : x3.cell? ⟨w.heap.size, 0, none⟩ = some (.int .i64 (kind : Int)) ∧ x3.cell? ⟨w.heap.size, 1, none⟩ = some (.int .i64 (number : Int)) ∧ x3.cell? ⟨w.heap.size, 2, none⟩ = some (.string body) := ⟨by rw [(unhide Bx3).cell (p := ⟨w.heap.size, 0, none⟩) (by simp)]; exact q0, by rw [(unhide Bx3).cell (p := ⟨w.heap.size, 1, none⟩) (by simp)]; exact q1, by rw [(unhide Bx3).cell (p := ⟨w.heap.size, 2, none⟩) (by simp)]; exact q2⟩
  refine hK.out _ _ hSS (fun hS => ?_)
  clear hB hSS hK K Bx2
  refine wpAnyH_takeD 12 (some 41) (.string A3) rfl rfl (by kernel_rfl) (by kernel_rfl) (by kernel_rfl) (fun _ _ _ h => h) (Or.inl ⟨by rfl, fun w hSw => by obtain ⟨q0, q1, q2⟩ := hSw; go_simp⟩) hS ?_
  simp only [Act.put, List.setIfInBounds_toArray, List.set_cons_zero, List.set_cons_succ]
  refine wpAnyH_takeD 15 (some 44) (.string A4) rfl rfl (by kernel_rfl) (by kernel_rfl) (by kernel_rfl) (fun _ _ _ h => h) (Or.inl ⟨by rfl, fun w hSw => by obtain ⟨q0, q1, q2⟩ := hSw; go_simp⟩) hS ?_
  simp only [Act.put, List.setIfInBounds_toArray, List.set_cons_zero, List.set_cons_succ]
  refine wpAnyH_ready (rs := [20]) (by kernel_rfl) (by simp) ?_
  refine AllReadyH.cons rfl (fun K hK => ?_) AllReadyH.nil
  simp only [List.getElem_toArray, List.getElem_cons_succ, List.getElem_cons_zero]
  go_simp
  refine (unhide HZ _).mono ?_
  rintro e x4 ⟨rfl, hB⟩
  have Bx4 := hide ((unhide Bx3).trans (hB.mono (by have := (unhide Bx3).size; have e : (w.alloc (Obj.cells #[.int .i64 (kind : Int), .int .i64 (number : Int), .string body] 123)).heap.size = w.heap.size + 1 := (by simp); rw [e] at this; exact this)))
  have hSS : x4.cell? ⟨w.heap.size, 0, none⟩ = some (.int .i64 (kind : Int)) ∧ x4.cell? ⟨w.heap.size, 1, none⟩ = some (.int .i64 (number : Int)) ∧ x4.cell? ⟨w.heap.size, 2, none⟩ = some (.string body) := ⟨by rw [(unhide Bx4).cell (p := ⟨w.heap.size, 0, none⟩) (by simp)]; exact q0, by rw [(unhide Bx4).cell (p := ⟨w.heap.size, 1, none⟩) (by simp)]; exact q1, by rw [(unhide Bx4).cell (p := ⟨w.heap.size, 2, none⟩) (by simp)]; exact q2⟩
  refine hK.out _ _ hSS (fun hS => ?_)
  clear hB hSS hK K Bx3
  refine wpAnyH_takeD 21 (some 50) (.string A5) rfl rfl (by kernel_rfl) (by kernel_rfl) (by kernel_rfl) (fun _ _ _ h => h) (Or.inl ⟨by rfl, fun w hSw => by obtain ⟨q0, q1, q2⟩ := hSw; go_simp⟩) hS ?_
  simp only [Act.put, List.setIfInBounds_toArray, List.set_cons_zero, List.set_cons_succ]
  refine wpAnyH_takeD 22 (some 4) (.string A5) rfl rfl (by kernel_rfl) (by kernel_rfl) (by kernel_rfl) (fun _ _ _ h => h) (Or.inl ⟨by rfl, fun w hSw => by obtain ⟨q0, q1, q2⟩ := hSw; go_simp⟩) hS ?_
  simp only [Act.put, List.setIfInBounds_toArray, List.set_cons_zero, List.set_cons_succ]
  refine wpAnyH_done (by kernel_rfl) ?_ _
  clear hS q0 q1 q2 y1 y2 y3 y4 y5 hA1 hA2 hA3 hA4 hA5
  go_wp2_with fail
  refine (unhide HCK _).mono ?_
  rintro e x5 ⟨rfl, rfl⟩
  go_wp2
  go_loopw [4, 5, 6] (fun s u i wr => ∃ j m : Nat, j ≤ 4 ∧ m = c / 256 ^ j ∧ u = .int .i64 (m : Int) ∧ i = .int .i64 (j : Int) ∧ s = .string (strOfNums (P ++ leK c j)) ∧ Below (w.heap.size + 1) (w.alloc (Obj.cells #[.int .i64 (kind : Int), .int .i64 (number : Int), .string body] 123)) wr) (fun _ _ i _ => 4 - (intOf i).toNat)
  case atStart => exact ⟨0, c, by omega, by simp, rfl, rfl, by rw [leK, List.append_nil, ← unhide HPA], unhide Bx4⟩
  case round =>
    obtain ⟨j, m, hj, hm, rfl, rfl, rfl, hBe⟩ := hrel
    obtain ⟨wo, rfl⟩ : ∃ wo, wo = wr := ⟨_, rfl⟩
    have HBE := hide hBe
    clear hBe Bx4
    have hml : m ≤ 4294967295 := by rw [hm]; exact Nat.le_trans (Nat.div_le_self _ _) hcl
    by_cases hj4 : j < 4
    · have hr : ((m : Int)).tmod 256 = ((m % 256 : Nat) : Int) := rfl
      obtain ⟨R, hR⟩ : ∃ R, m % 256 = R := ⟨_, rfl⟩
      obtain ⟨Q, hQ⟩ : ∃ Q, m / 256 = Q := ⟨_, rfl⟩
      have hq : ((m : Int)).tdiv 256 = (Q : Int) := by rw [← hQ]; rfl
      rw [hR] at hr
      have hR8 : R < 256 := by omega
      have hw8 : IntKind.u8.wrap (R : Int) = (R : Int) := by rw [IntKind.wrap_u8']; omega
      have hcv := run_one wo (R : Int) 5
      have hsz : (strOfNums (P ++ leK c j)).size ≤ 256 := by
        rw [strOfNums_app, ByteArray.size_append, ← unhide HPA, unhide HP5, strOfNums_size]
        have : (leK c j).length = j := leK_len c j
        omega
      have hs1 : (strOfNums [(R : Int)]).size = 1 := rfl
      have HN := hide (show strOfNums (P ++ leK c j) ++ strOfNums [(R : Int)] = strOfNums (P ++ leK c (j + 1)) by
        rw [← strOfNums_app, leK, ← hm, hR, List.append_assoc])
      have HQ := hide (show Q = c / 256 ^ (j + 1) by rw [← hQ, hm, Nat.div_div_eq_div_mul, Nat.pow_succ])
      have hQl : Q ≤ m := by omega
      clear hR hQ hm
      generalize strOfNums (P ++ leK c j) = S at *
      generalize strOfNums [(R : Int)] = S1 at *
      have y1 : ¬ 9223372036854775807 < S.size + S1.size := by omega
      have y2 : ¬ 9223372036854775807 < S.size + 1 := by omega
      go_wp2
      go_roundw
      case rel => exact ⟨j + 1, Q, by omega, unhide HQ, by go_num, by go_num, by rw [unhide HN], (unhide HBE).alloc (by have := (unhide HBE).size; simp at this; omega) _⟩
      case measure => simp [intOf]; omega
    · have hj4' : j = 4 := by omega
      subst hj4'
      go_wp2
      go_ret2
      exact ⟨rfl, ((Below.refl w.heap.size w).alloc (Nat.le_refl _) _).trans ((unhide HBE).mono (by omega))⟩
end Go.Proofs.YtffiaogbphgmgaaGreatDoor
