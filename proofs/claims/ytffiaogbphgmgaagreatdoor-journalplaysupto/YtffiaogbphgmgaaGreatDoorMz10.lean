import Derived.WalkKit
import Derived.Test.YtffiaogbphgmgaaGreatDoorMz00
import Derived.Test.YtffiaogbphgmgaaGreatDoorMz08
import Derived.Test.YtffiaogbphgmgaaGreatDoorMz09
namespace Go.Proofs.YtffiaogbphgmgaaGreatDoor
open Go.RowKit
/-- One bit of the check. -/
def cstep (v : Nat) : Nat := (v / 2) ^^^ (if v % 2 = 1 then 3988292384 else 0)
def iter (n : Nat) (v : Nat) : Nat := match n with
  | 0 => v
  | n + 1 => iter n (cstep v)
theorem iter_add (n m v : Nat) : iter (n + m) v = iter m (iter n v) := by
  induction n generalizing v with
  | zero => simp [iter]
  | succ n ih => rw [Nat.succ_add, iter, ih, iter]
theorem cstep_lt (v : Nat) (h : v < 4294967296) : cstep v < 4294967296 := by
  unfold cstep
  refine Nat.xor_lt_two_pow (n := 32) (by omega) ?_
  split <;> omega
theorem iter_lt (n v : Nat) (h : v < 4294967296) : iter n v < 4294967296 := by
  induction n generalizing v with
  | zero => exact h
  | succ n ih => exact ih _ (cstep_lt v h)
/-- The register behind a byte; behind a row of bytes. -/
def cbyte (v b : Nat) : Nat := iter 8 (v ^^^ b)
def crcR (v : Nat) (l : List Nat) : Nat := l.foldl cbyte v
theorem cbyte_lt (v b : Nat) (hv : v < 4294967296) (hb : b < 256) : cbyte v b < 4294967296 :=
  iter_lt _ _ (Nat.xor_lt_two_pow (n := 32) (by omega) (by omega))
end Go.Proofs.YtffiaogbphgmgaaGreatDoor

namespace Go.Proofs.YtffiaogbphgmgaaGreatDoor
open Go.RowKit
def nats (l : List Int) : List Nat := l.map Int.toNat
/-- The check of a row of bytes. -/
def chkN (l : List Int) : Nat := 4294967295 - crcR 4294967295 (nats l)
theorem crcR_lt (l : List Nat) (hl : ∀ x ∈ l, x < 256) (v : Nat) (hv : v < 4294967296) : crcR v l < 4294967296 := by
  induction l generalizing v with
  | nil => exact hv
  | cons b l ih => exact ih (fun x hx => hl x (by simp [hx])) _ (cbyte_lt v b hv (hl b (by simp)))
theorem nats_lt (l : List Int) (h : Bytes l) : ∀ x ∈ nats l, x < 256 := by
  intro x hx
  obtain ⟨y, hy, rfl⟩ := List.mem_map.1 hx
  obtain ⟨j, hj, e⟩ := List.getElem_of_mem hy
  have := h j
  rw [List.getD_eq_getElem?_getD, List.getElem?_eq_getElem hj, e] at this
  simp at this
  omega
theorem i64_xor_nat (a b : Nat) (ha : a < 4294967296) (hb : b < 4294967296) : bits .xor .i64 (a : Int) (b : Int) = ((a ^^^ b : Nat) : Int) := by
  have hx : a ^^^ b < 2 ^ 32 := Nat.xor_lt_two_pow (by omega) (by omega)
  have h1 : (BitVec.ofInt 64 (a : Int)).toNat = a := by
    rw [BitVec.ofInt_natCast, BitVec.toNat_ofNat]; exact Nat.mod_eq_of_lt (by omega)
  have h2 : (BitVec.ofInt 64 (b : Int)).toNat = b := by
    rw [BitVec.ofInt_natCast, BitVec.toNat_ofNat]; exact Nat.mod_eq_of_lt (by omega)
  show IntKind.i64.wrap ((BitVec.ofInt 64 (a : Int) ^^^ BitVec.ofInt 64 (b : Int)).toNat : Int) = _
  rw [BitVec.toNat_xor, h1, h2, IntKind.wrap_i64]
  omega
theorem iter_succ' (n v : Nat) : iter (n + 1) v = cstep (iter n v) := by rw [iter_add]; rfl
theorem nums_nat (s : ByteArray) (i : Nat) (hi : i < s.size) : ∃ B : Nat, B < 256 ∧ (nums s).getD i 0 = (B : Int) ∧ nats ((nums s).take (i + 1)) = nats ((nums s).take i) ++ [B] := by
  have hb := nums_bytes s i
  refine ⟨((nums s).getD i 0).toNat, by omega, by omega, ?_⟩
  have hl : i < (nums s).length := by rw [nums_len]; exact hi
  rw [List.take_add_one, List.getElem?_eq_getElem hl, nats, nats, List.map_append, List.getD_eq_getElem?_getD, List.getElem?_eq_getElem hl]
  rfl
theorem xor_all (v : Nat) (h : v < 4294967296) : v ^^^ 4294967295 = 4294967295 - v := by
  have h1 : (4294967295 : Nat) = 2 ^ 32 - 1 := by decide
  have h2 : v ^^^ (2 ^ 32 - 1) = 2 ^ 32 - 1 - v := by
    apply Nat.eq_of_testBit_eq
    intro i
    rw [Nat.testBit_xor, Nat.testBit_two_pow_sub_one, show 2 ^ 32 - 1 - v = 2 ^ 32 - (v + 1) by omega, Nat.testBit_two_pow_sub_succ (by omega)]
    by_cases hi : i < 32
    · simp [hi]
    · have : v.testBit i = false := Nat.testBit_lt_two_pow (Nat.lt_of_lt_of_le h (by exact Nat.pow_le_pow_right (n := 2) (by decide) (show 32 ≤ i by omega)))
      simp [hi, this]
  rw [h1]; exact h2
set_option maxRecDepth 100000 in
set_option maxHeartbeats 1000000 in
theorem check_g (s : ByteArray) (G : Nat) (hG : G = chkN (nums s)) (hs : s.size ≤ 9223372036854775806) (w : World) :
    Calls Tryz.prog 118 #[.string s] w fun e w' => e = .returned (.int .i64 (G : Int)) ∧ w' = w := by
  have HG := hide hG
  clear hG
  have hix := fun (i : Nat) (hi : i < s.size) (W : World) => index_str s i hi W
  go_enter Tryz.func118, Tryz.ntmps118
  go_wp2
  go_loopw [3, 8] (fun c i wr => ∃ n : Nat, n ≤ s.size ∧ i = .int .i64 (n : Int) ∧ c = .int .u32 (crcR 4294967295 (nats ((nums s).take n)) : Int) ∧ wr = w) (fun _ i _ => s.size - (intOf i).toNat)
  case atStart => exact ⟨0, by omega, rfl, rfl, rfl⟩
  case round =>
    obtain ⟨n, hn, rfl, rfl, rfl⟩ := hrel
    obtain ⟨wo, rfl⟩ : ∃ wo, wo = wr := ⟨_, rfl⟩
    have hlt := crcR_lt (nats ((nums s).take n)) (nats_lt _ (fun j => by
      have := nums_bytes s j
      rw [List.getD_eq_getElem?_getD, List.getElem?_take]
      split
      · rw [← List.getD_eq_getElem?_getD]; exact this
      · simp)) 4294967295 (by omega)
    by_cases hns : n < s.size
    · obtain ⟨B, hB, hBe, hBt⟩ := nums_nat s n hns
      have hi2 := hix n hns
      rw [hBe] at hi2
      have HT := hide hBt
      have HC := hide (show crcR 4294967295 (nats ((nums s).take (n + 1))) = cbyte (crcR 4294967295 (nats ((nums s).take n))) B by rw [hBt, crcR, List.foldl_append]; rfl)
      clear hBt hBe hix
      generalize crcR 4294967295 (nats ((nums s).take n)) = V at *
      have hw8 : IntKind.u32.wrap (B : Int) = (B : Int) := by rw [IntKind.wrap_u32']; omega
      have hx := u32_xor_nat V B hlt (by omega)
      have hxl : V ^^^ B < 4294967296 := Nat.xor_lt_two_pow (n := 32) (by omega) (by omega)
      go_wp2
      go_loopw [3, 17] (fun c i wr => ∃ k : Nat, k ≤ 8 ∧ i = .int .i64 (k : Int) ∧ c = .int .u32 (iter k (V ^^^ B) : Int) ∧ wr = wo) (fun _ i _ => 8 - (intOf i).toNat)
      case atStart => exact ⟨0, by omega, rfl, rfl, rfl⟩
      case round =>
        obtain ⟨k, hk, rfl, rfl, rfl⟩ := hrel
        have hl := iter_lt k (V ^^^ B) hxl
        have HS := hide (iter_succ' k (V ^^^ B))
        by_cases hk8 : k < 8
        · generalize iter k (V ^^^ B) = U at *
          have ha0 := u32_and_nat U 1 hl (by omega)
          rw [Nat.and_one_is_mod] at ha0
          have ha : bits .and .u32 (U : Int) 1 = ((U % 2 : Nat) : Int) := ha0
          have HX2 := hide (u32_xor_nat (U / 2) 3988292384 (by omega) (by omega))
          clear ha0
          rcases Nat.mod_two_eq_zero_or_one U with h | h
          · rw [h] at ha
            go_wp2
            go_roundw
            case rel => exact ⟨k + 1, by omega, by go_num, by rw [unhide HS, cstep, if_neg (by omega), Nat.xor_zero]; simp, trivial⟩
            case measure => simp [intOf]; omega
          · rw [h] at ha
            go_wp2
            go_roundw
            case rel => exact ⟨k + 1, by omega, by go_num, by rw [unhide HS, cstep, if_pos h, ← unhide HX2]; rfl, trivial⟩
            case measure => simp [intOf]; omega
        · obtain rfl : k = 8 := by omega
          go_wp2
          go_roundw
          case rel => exact ⟨n + 1, by omega, by go_num, by rw [unhide HC]; rfl, trivial⟩
          case measure => simp [intOf]; omega
    · have HF := hide (show G = 4294967295 - crcR 4294967295 (nats ((nums s).take n)) by rw [unhide HG, chkN, List.take_of_length_le (by rw [nums_len]; omega)])
      have HX := hide (xor_all _ hlt)
      clear hix HG
      generalize crcR 4294967295 (nats ((nums s).take n)) = V at *
      have hx0 := u32_xor_nat 4294967295 V (by omega) hlt
      rw [Nat.xor_comm, unhide HX] at hx0
      have hx : bits .xor .u32 4294967295 (V : Int) = ((4294967295 - V : Nat) : Int) := hx0
      clear hx0
      obtain ⟨R, hR⟩ : ∃ R, R = 4294967295 - V := ⟨_, rfl⟩
      have hRl : R < 4294967296 := by omega
      rw [← hR] at hx HF
      have HW := hide (show wrap64 (bits .xor .u32 IntKind.u32.max (V : Int)) = (R : Int) by
        have hm : (IntKind.u32.max : Int) = 4294967295 := by decide
        rw [hm, hx]; exact wrap64_eq _ (by omega) (by omega))
      clear hR HX hx
      go_wp2
      go_ret
      refine ⟨?_, rfl⟩
      rw [unhide HF, ← unhide HW]
      rfl
end Go.Proofs.YtffiaogbphgmgaaGreatDoor

namespace Go.Proofs.YtffiaogbphgmgaaGreatDoor
open Go.RowKit
/-- A number of 32 bits as four bytes, the lowest first. -/
def le4 (c : Nat) : List Int := [((c % 256 : Nat) : Int), ((c / 256 % 256 : Nat) : Int), ((c / 65536 % 256 : Nat) : Int), ((c / 16777216 : Nat) : Int)]
/-- A page's first 252 bytes; the page. -/
def pageL (kind number : Int) (body : List Int) : List Int := [83, 66] ++ (numB kind 1 ++ numB (body.length : Int) 1) ++ numB number 4 ++ body ++ List.replicate (244 - body.length) 0
def makeL (kind number : Int) (body : List Int) : List Int := pageL kind number body ++ le4 (chkN (pageL kind number body))
def errM (kind number : Int) (n : Nat) : Int := if ¬ fitsP kind 1 ∨ ¬ fitsP number 4 then 1 else if 244 < n then 32 else 0
def makeB (kind number : Int) (body : ByteArray) : ByteArray := if errM kind number body.size = 0 then strOfNums (makeL kind number (nums body)) else ⟨#[]⟩
theorem pageL_len (kind number : Int) (body : List Int) (h : body.length ≤ 244) : (pageL kind number body).length = 252 := by simp [pageL, numB_len]; omega
theorem makeL_len (kind number : Int) (body : List Int) (h : body.length ≤ 244) : (makeL kind number body).length = 256 := by rw [makeL, List.length_append, pageL_len _ _ _ h]; rfl
theorem Bytes.app {a b : List Int} (ha : Bytes a) (hb : Bytes b) : Bytes (a ++ b) := by
  intro j
  rw [List.getD_eq_getElem?_getD, List.getElem?_append]
  split
  · rw [← List.getD_eq_getElem?_getD]; exact ha j
  · rw [← List.getD_eq_getElem?_getD]; exact hb _
theorem Bytes.of_mem {a : List Int} (h : ∀ x ∈ a, 0 ≤ x ∧ x < 256) : Bytes a := by
  intro j
  rw [List.getD_eq_getElem?_getD]
  cases e : a[j]? with
  | none => simp
  | some x => exact h x (List.mem_of_getElem? e)
theorem Bytes.mem {a : List Int} (h : Bytes a) {x : Int} (hx : x ∈ a) : 0 ≤ x ∧ x < 256 := by
  obtain ⟨j, hj, e⟩ := List.getElem_of_mem hx
  have := h j
  rw [List.getD_eq_getElem?_getD, List.getElem?_eq_getElem hj, e] at this
  simpa using this
theorem chkN_lt (l : List Int) : chkN l ≤ 4294967295 := by unfold chkN; omega
theorem le4_bytes (c : Nat) (h : c ≤ 4294967295) : Bytes (le4 c) := Bytes.of_mem (by
  intro x hx
  simp [le4] at hx
  rcases hx with rfl | rfl | rfl | rfl <;> omega)
theorem zeros_byte (n : Nat) : Bytes (List.replicate n 0) := Bytes.of_mem (by intro x hx; rw [(List.mem_replicate.1 hx).2]; omega)
theorem pageL_bytes (kind number : Int) (body : List Int) (h : Bytes body) : Bytes (pageL kind number body) :=
  ((((Bytes.of_mem (by intro x hx; simp at hx; omega)).app ((numB_bytes _ _).app (numB_bytes _ _))).app (numB_bytes _ _)).app h).app (zeros_byte _)
theorem makeL_bytes (kind number : Int) (body : List Int) (h : Bytes body) : Bytes (makeL kind number body) := (pageL_bytes _ _ _ h).app (le4_bytes _ (chkN_lt _))
theorem fits1 (x : Int) : fitsP x 1 ↔ 0 ≤ x ∧ x ≤ 255 := by
  unfold fitsP
  rw [show (2 : Int) ^ (8 * 1) = 256 by decide]
  omega
theorem fits4 (x : Int) : fitsP x 4 ↔ 0 ≤ x ∧ x ≤ 4294967295 := by
  unfold fitsP
  rw [show (2 : Int) ^ (8 * 4) = 4294967296 by decide]
  omega
theorem numB1 (x : Int) (h0 : 0 ≤ x) (h : x ≤ 255) : numB x 1 = [x] := by
  simp [numB, List.range_succ]
  omega
theorem i64_and255 (c : Nat) (h : c < 9223372036854775808) : bits .and .i64 (c : Int) 255 = ((c % 256 : Nat) : Int) := by
  have hx : c &&& 255 = c % 256 := Nat.and_two_pow_sub_one_eq_mod c 8
  have h1 : (BitVec.ofInt 64 (c : Int)).toNat = c := by
    rw [BitVec.ofInt_natCast, BitVec.toNat_ofNat]; exact Nat.mod_eq_of_lt (by omega)
  have h2 : (BitVec.ofInt 64 (255 : Int)).toNat = 255 := by decide
  show IntKind.i64.wrap ((BitVec.ofInt 64 (c : Int) &&& BitVec.ofInt 64 (255 : Int)).toNat : Int) = _
  rw [BitVec.toNat_and, h1, h2, hx, IntKind.wrap_i64]
  omega
end Go.Proofs.YtffiaogbphgmgaaGreatDoor

namespace Go.Proofs.YtffiaogbphgmgaaGreatDoor
open Go.RowKit
/-- strings.Repeat of one nought. -/
def RepOk : Prop := ∀ (c : Nat) (W : World), c ≤ 244 → Calls Tryz.prog 17 #[.string ⟨#[0]⟩, .int .i64 (c : Int)] W fun e w' => e = .returned (.string (strOfNums (List.replicate c 0))) ∧ Below W.heap.size W w'
set_option maxRecDepth 100000 in
set_option maxHeartbeats 4000000 in
theorem make_ok (hRep : RepOk) (kind number : Int) (body : ByteArray) (hk : fitsP kind 1) (hn : fitsP number 4) (hbd : body.size ≤ 244) (w : World) :
    Calls Tryz.prog 95 #[.agg #[.int .i64 kind, .int .i64 number, .string body]] w fun e w' => e = .returned (.tuple #[.string (strOfNums (makeL kind number (nums body))), .int .i64 0]) ∧ Below w.heap.size w w' := by
  have HF1 := hide (fun W => fits_any kind 1 (by decide) W)
  rw [decide_eq_true hk] at HF1
  have HF4 := hide (fun W => fits_any number 4 (by decide) W)
  rw [decide_eq_true hn] at HF4
  have HNW := hide (fun W => newWriter_any W)
  have HR := hide hRep
  obtain ⟨n, hnB⟩ : ∃ n, body.size = n := ⟨_, rfl⟩
  have HE1 := hide (show errN 1 [kind, (n : Int)] = 0 by
    rw [errN, if_neg (by omega), if_pos]
    intro x hx
    simp at hx
    rcases hx with rfl | rfl
    · exact hk
    · exact (fits1 _).2 ⟨by omega, by omega⟩)
  have HE4 := hide (show errN 4 [number] = 0 by
    rw [errN, if_neg (by omega), if_pos]
    intro x hx
    simp at hx
    rw [hx]
    exact hn)
  obtain ⟨P, hP⟩ : ∃ P, pageL kind number (nums body) = P := ⟨_, rfl⟩
  have hPl : P.length = 252 := by rw [← hP]; exact pageL_len _ _ _ (by rw [nums_len]; exact hbd)
  have hPeq : [83, 66] ++ outN 1 [kind, (n : Int)] ++ outN 4 [number] ++ nums body ++ List.replicate (244 - n) 0 = P := by
    rw [← hP, pageL, nums_len, hnB]
    simp [outN]
  obtain ⟨c, hc⟩ : ∃ c, chkN P = c := ⟨_, rfl⟩
  have hcl : c ≤ 4294967295 := by rw [← hc]; exact chkN_lt _
  have hmk : makeL kind number (nums body) = P ++ le4 c := by rw [makeL, hP, hc]
  have hPb : Bytes P := by rw [← hP]; exact pageL_bytes _ _ _ (nums_bytes _)
  have HEC := hide (show errN 1 (le4 c) = 0 by
    rw [errN, if_neg (by omega), if_pos]
    intro x hx
    have := (le4_bytes c hcl).mem hx
    exact (fits1 _).2 ⟨by omega, by omega⟩)
  have hoc : outN 1 (le4 c) = le4 c := by
    have h1 : ∀ l : List Int, Bytes l → outN 1 l = l := by
      intro l
      induction l with
      | nil => intro _; rfl
      | cons x l ih =>
        intro hb
        have hx := hb.mem (List.mem_cons_self)
        have e1 : outN 1 (x :: l) = numB x 1 ++ outN 1 l := by simp [outN]
        rw [e1, numB1 x hx.1 (by omega), ih (Bytes.of_mem (fun y hy => hb.mem (List.mem_cons_of_mem _ hy)))]
        rfl
    exact h1 _ (le4_bytes c hcl)
  rw [hmk]
  have HCK := hide (fun W => check_g (strOfNums P) c (by rw [nums_strOfNums P hPb, hc]) (by
    have : (strOfNums P).size = P.length := by rw [← nums_len, nums_strOfNums P hPb]
    omega) W)
  have a0 := i64_and255 c (by omega)
  have a1 : bits .and .i64 ((c : Int) / 256) 255 = ((c / 256 % 256 : Nat) : Int) := by have := i64_and255 (c / 256) (by omega); rwa [show ((c / 256 : Nat) : Int) = (c : Int) / 256 by omega] at this
  have a2 : bits .and .i64 ((c : Int) / 65536) 255 = ((c / 65536 % 256 : Nat) : Int) := by have := i64_and255 (c / 65536) (by omega); rwa [show ((c / 65536 : Nat) : Int) = (c : Int) / 65536 by omega] at this
  obtain ⟨d0, hd0⟩ : ∃ d, c % 256 = d := ⟨_, rfl⟩
  obtain ⟨d1, hd1⟩ : ∃ d, c / 256 % 256 = d := ⟨_, rfl⟩
  obtain ⟨d2, hd2⟩ : ∃ d, c / 65536 % 256 = d := ⟨_, rfl⟩
  obtain ⟨d3, hd3⟩ : ∃ d, c / 16777216 = d := ⟨_, rfl⟩
  have hle : le4 c = [(d0 : Int), (d1 : Int), (d2 : Int), (d3 : Int)] := by rw [le4, hd0, hd1, hd2, hd3]
  rw [hd0] at a0
  rw [hd1] at a1
  rw [hd2] at a2
  have s3 : (c : Int) / 16777216 = (d3 : Int) := by omega
  have hsub : (244 : Int) - (n : Int) = ((244 - n : Nat) : Int) := by omega
  obtain ⟨z, hz⟩ : ∃ z, 244 - n = z := ⟨_, rfl⟩
  rw [hz] at hsub hPeq
  have HPE := hide hPeq
  have HLE := hide hle
  have HOC := hide hoc
  have HPL := hide hPl
  have hz244 : z ≤ 244 := by omega
  clear hk hn hRep hP hPl hPeq hc hmk hPb hoc hd0 hd1 hd2 hd3 hle hz
  go_enter Tryz.func95, Tryz.ntmps95
  go_wp2_with fail
  refine (unhide HF1 _).mono ?_
  rintro ev wa ⟨rfl, rfl⟩
  go_wp2_with fail
  refine (unhide HF4 _).mono ?_
  rintro ev wb ⟨rfl, rfl⟩
  go_wp2_with fail
  refine (unhide HNW _).mono ?_
  rintro ev x0 ⟨rfl, hW, hBe, hSz⟩
  have hPG : Blk x0 w.heap.size #[.int .i64 kind, .int .i64 number, .string body] 123 := (Blk.new w _ _).below hBe (by simp)
  have HPG := hide hPG
  obtain ⟨B, hB⟩ : ∃ B, (w.alloc (Obj.cells #[.int .i64 kind, .int .i64 number, .string body] 123)).heap.size = B := ⟨_, rfl⟩
  have hB' : B = w.heap.size + 1 := by rw [← hB]; simp
  rw [hB] at hW hSz
  have HBe := hide (show Below w.heap.size w x0 from ((Below.refl _ w).alloc (Nat.le_refl _) _).trans (hBe.mono (by simp)))
  have HNF := hide (show ¬ Fp B (.slice none 0 0) w.heap.size by
    rintro (h | h)
    · omega
    · cases h)
  have hb0 : B ≤ x0.heap.size := by omega
  have hB1 : w.heap.size + 1 = B := by omega
  have HP0 := hide (WPost.refl hW)
  have HHB := hide hB
  have HHB' := hide hB'
  have HSz := hide hSz
  clear hW hBe hSz hPG HNW HF1 HF4 hB hB'
  have hbx0 := (unhide HP0).blk (unhide HPG) (unhide HNF)
  have p0x0 : x0.cell? ⟨w.heap.size, 0, none⟩ = some (.int .i64 kind) := by rw [hbx0.cell 0]; rfl
  have p1x0 : x0.cell? ⟨w.heap.size, 1, none⟩ = some (.int .i64 number) := by rw [hbx0.cell 1]; rfl
  have p2x0 : x0.cell? ⟨w.heap.size, 2, none⟩ = some (.string body) := by rw [hbx0.cell 2]; rfl
  clear hbx0
  go_wp2_with fail
  refine (rawK (unhide HP0) hb0 ⟨#[83, 66]⟩ (by decide)).mono ?_
  rintro ev x1 ⟨rfl, hP⟩
  rw [wl_good, List.nil_append, show nums ⟨#[83, 66]⟩ = [83, 66] from rfl] at hP
  have HP1 := hide hP
  clear hP HP0 p0x0 p1x0 p2x0
  have hbx1 := (unhide HP1).blk (unhide HPG) (unhide HNF)
  have p0x1 : x1.cell? ⟨w.heap.size, 0, none⟩ = some (.int .i64 kind) := by rw [hbx1.cell 0]; rfl
  have p1x1 : x1.cell? ⟨w.heap.size, 1, none⟩ = some (.int .i64 number) := by rw [hbx1.cell 1]; rfl
  have p2x1 : x1.cell? ⟨w.heap.size, 2, none⟩ = some (.string body) := by rw [hbx1.cell 2]; rfl
  clear hbx1
  go_wp2_with fail
  refine (numK (unhide HP1) hb0 1 [kind, (n : Int)] _ rfl (by simp) 2 rfl).mono ?_
  rintro ev x2 ⟨rfl, hP⟩
  rw [unhide HE1, wl_good, we_good] at hP
  have HP2 := hide hP
  clear hP HP1 p0x1 p1x1 p2x1
  have hbx2 := (unhide HP2).blk (unhide HPG) (unhide HNF)
  have p0x2 : x2.cell? ⟨w.heap.size, 0, none⟩ = some (.int .i64 kind) := by rw [hbx2.cell 0]; rfl
  have p1x2 : x2.cell? ⟨w.heap.size, 1, none⟩ = some (.int .i64 number) := by rw [hbx2.cell 1]; rfl
  have p2x2 : x2.cell? ⟨w.heap.size, 2, none⟩ = some (.string body) := by rw [hbx2.cell 2]; rfl
  clear hbx2
  go_wp2_with fail
  refine (numK (unhide HP2) hb0 4 [number] _ rfl (by simp [outN_len]) 1 rfl).mono ?_
  rintro ev x3 ⟨rfl, hP⟩
  rw [unhide HE4, wl_good, we_good] at hP
  have HP3 := hide hP
  clear hP HP2 p0x2 p1x2 p2x2
  have hbx3 := (unhide HP3).blk (unhide HPG) (unhide HNF)
  have p0x3 : x3.cell? ⟨w.heap.size, 0, none⟩ = some (.int .i64 kind) := by rw [hbx3.cell 0]; rfl
  have p1x3 : x3.cell? ⟨w.heap.size, 1, none⟩ = some (.int .i64 number) := by rw [hbx3.cell 1]; rfl
  have p2x3 : x3.cell? ⟨w.heap.size, 2, none⟩ = some (.string body) := by rw [hbx3.cell 2]; rfl
  clear hbx3
  go_wp2_with fail
  refine (rawK (unhide HP3) hb0 body (by simp [outN_len]; omega)).mono ?_
  rintro ev x4 ⟨rfl, hP⟩
  rw [wl_good] at hP
  have HP4 := hide hP
  clear hP HP3 p0x3 p1x3 p2x3
  have hbx4 := (unhide HP4).blk (unhide HPG) (unhide HNF)
  have p0x4 : x4.cell? ⟨w.heap.size, 0, none⟩ = some (.int .i64 kind) := by rw [hbx4.cell 0]; rfl
  have p1x4 : x4.cell? ⟨w.heap.size, 1, none⟩ = some (.int .i64 number) := by rw [hbx4.cell 1]; rfl
  have p2x4 : x4.cell? ⟨w.heap.size, 2, none⟩ = some (.string body) := by rw [hbx4.cell 2]; rfl
  clear hbx4
  go_wp2_with fail
  refine (unhide HR z _ hz244).mono ?_
  rintro ev x5 ⟨rfl, hB5⟩
  have HP5 := hide ((unhide HP4).below hB5)
  clear hB5 HP4 p0x4 p1x4 p2x4
  have hbx5 := (unhide HP5).blk (unhide HPG) (unhide HNF)
  have p0x5 : x5.cell? ⟨w.heap.size, 0, none⟩ = some (.int .i64 kind) := by rw [hbx5.cell 0]; rfl
  have p1x5 : x5.cell? ⟨w.heap.size, 1, none⟩ = some (.int .i64 number) := by rw [hbx5.cell 1]; rfl
  have p2x5 : x5.cell? ⟨w.heap.size, 2, none⟩ = some (.string body) := by rw [hbx5.cell 2]; rfl
  clear hbx5
  go_wp2_with fail
  refine (rawK (unhide HP5) hb0 (strOfNums (List.replicate z 0)) (by rw [← nums_len (strOfNums _), nums_strOfNums _ (zeros_byte z)]; simp [outN_len, nums_len]; omega)).mono ?_
  rintro ev x6 ⟨rfl, hP⟩
  rw [wl_good, nums_strOfNums _ (zeros_byte z), show Int.toNat 1 = 1 from rfl, show Int.toNat 4 = 4 from rfl, unhide HPE] at hP
  have HP6 := hide hP
  clear hP HP5 p0x5 p1x5 p2x5
  have hbx6 := (unhide HP6).blk (unhide HPG) (unhide HNF)
  have p0x6 : x6.cell? ⟨w.heap.size, 0, none⟩ = some (.int .i64 kind) := by rw [hbx6.cell 0]; rfl
  have p1x6 : x6.cell? ⟨w.heap.size, 1, none⟩ = some (.int .i64 number) := by rw [hbx6.cell 1]; rfl
  have p2x6 : x6.cell? ⟨w.heap.size, 2, none⟩ = some (.string body) := by rw [hbx6.cell 2]; rfl
  clear hbx6
  go_wp2_with fail
  refine (doneK (unhide HP6)).mono ?_
  rintro ev x7 ⟨rfl, hP⟩
  skip
  have HP7 := hide hP
  clear hP HP6 p0x6 p1x6 p2x6
  have hbx7 := (unhide HP7).blk (unhide HPG) (unhide HNF)
  have p0x7 : x7.cell? ⟨w.heap.size, 0, none⟩ = some (.int .i64 kind) := by rw [hbx7.cell 0]; rfl
  have p1x7 : x7.cell? ⟨w.heap.size, 1, none⟩ = some (.int .i64 number) := by rw [hbx7.cell 1]; rfl
  have p2x7 : x7.cell? ⟨w.heap.size, 2, none⟩ = some (.string body) := by rw [hbx7.cell 2]; rfl
  clear hbx7
  go_wp2_with fail
  refine (unhide HCK _).mono ?_
  rintro ev x8 ⟨rfl, rfl⟩
  have HP8 := HP7
  clear HP7
  go_wp2_with fail
  refine (numK (unhide HP8) hb0 1 [(d0 : Int), (d1 : Int), (d2 : Int), (d3 : Int)] _ rfl (by rw [unhide HPL]; simp) 4 rfl).mono ?_
  rintro ev x9 ⟨rfl, hP⟩
  rw [← unhide HLE, unhide HEC, wl_good, we_good, show Int.toNat 1 = 1 from rfl, unhide HOC] at hP
  have HP9 := hide hP
  clear hP HP8
  go_wp2_with fail
  refine (doneK (unhide HP9)).mono ?_
  rintro ev x10 ⟨rfl, hP⟩
  have HP10 := hide hP
  clear hP HP9
  go_wp2
  go_ret2
  refine ⟨rfl, ?_⟩
  obtain ⟨v1, h1, h2, h3⟩ := unhide HP10
  have hlow : Below w.heap.size x0 x10 := h2.below (by have := unhide HSz; have := unhide HHB'; omega) (fun k hk hf => by
    rcases hf with rfl | hf
    · have := unhide HHB'; omega
    · cases hf)
  exact (unhide HBe).trans hlow
end Go.Proofs.YtffiaogbphgmgaaGreatDoor

namespace Go.Proofs.YtffiaogbphgmgaaGreatDoor
open Go.RowKit
set_option maxRecDepth 100000 in
set_option maxHeartbeats 2000000 in
/-- MakePage of any page. -/
theorem make_any (hRep : RepOk) (kind number : Int) (body : ByteArray) (w : World) :
    Calls Tryz.prog 95 #[.agg #[.int .i64 kind, .int .i64 number, .string body]] w fun e w' => e = .returned (.tuple #[.string (makeB kind number body), .int .i64 (errM kind number body.size)]) ∧ Below w.heap.size w w' := by
  by_cases hk : fitsP kind 1
  · by_cases hn : fitsP number 4
    · by_cases hb : body.size ≤ 244
      · have hE : errM kind number body.size = 0 := by rw [errM, if_neg (by simp [hk, hn]), if_neg (by omega)]
        rw [makeB, if_pos hE, hE]
        exact make_ok hRep kind number body hk hn hb w
      · have hE : errM kind number body.size = 32 := by rw [errM, if_neg (by simp [hk, hn]), if_pos (by omega)]
        rw [makeB, if_neg (by rw [hE]; decide), hE]
        have HF1 := hide (fun W => fits_any kind 1 (by decide) W)
        rw [decide_eq_true hk] at HF1
        have HF4 := hide (fun W => fits_any number 4 (by decide) W)
        rw [decide_eq_true hn] at HF4
        have hb' : 244 < body.size := by omega
        clear hk hn hRep hE
        go_enter Tryz.func95, Tryz.ntmps95
        go_wp2_with fail
        refine (unhide HF1 _).mono ?_
        rintro ev wa ⟨rfl, rfl⟩
        go_wp2_with fail
        refine (unhide HF4 _).mono ?_
        rintro ev wb ⟨rfl, rfl⟩
        go_wp2
        go_ret2
        exact ⟨rfl, (Below.refl _ w).alloc (Nat.le_refl _) _⟩
    · have hE : errM kind number body.size = 1 := by rw [errM, if_pos (.inr hn)]
      rw [makeB, if_neg (by rw [hE]; decide), hE]
      have HF1 := hide (fun W => fits_any kind 1 (by decide) W)
      rw [decide_eq_true hk] at HF1
      have HF4 := hide (fun W => fits_any number 4 (by decide) W)
      rw [decide_eq_false hn] at HF4
      clear hk hn hRep hE
      go_enter Tryz.func95, Tryz.ntmps95
      go_wp2_with fail
      refine (unhide HF1 _).mono ?_
      rintro ev wa ⟨rfl, rfl⟩
      go_wp2_with fail
      refine (unhide HF4 _).mono ?_
      rintro ev wb ⟨rfl, rfl⟩
      go_wp2
      go_ret2
      exact ⟨rfl, (Below.refl _ w).alloc (Nat.le_refl _) _⟩
  · have hE : errM kind number body.size = 1 := by rw [errM, if_pos (.inl hk)]
    rw [makeB, if_neg (by rw [hE]; decide), hE]
    have HF1 := hide (fun W => fits_any kind 1 (by decide) W)
    rw [decide_eq_false hk] at HF1
    clear hk hRep hE
    go_enter Tryz.func95, Tryz.ntmps95
    go_wp2_with fail
    refine (unhide HF1 _).mono ?_
    rintro ev wa ⟨rfl, rfl⟩
    go_wp2
    go_ret2
    exact ⟨rfl, (Below.refl _ w).alloc (Nat.le_refl _) _⟩
end Go.Proofs.YtffiaogbphgmgaaGreatDoor

namespace Go.Proofs.YtffiaogbphgmgaaGreatDoor
open Go.RowKit
/-- What ParsePage reads off a text, step by step. -/
def ps1 (s : ByteArray) : RSt := stepR ⟨s, 0, 0⟩ (rawE 2 s) 2
def pkd (s : ByteArray) : Int := if (ps1 s).e = 0 then numV 1 (ps1 s).r else 0
def ps2 (s : ByteArray) : RSt := stepR (ps1 s) (numE 1 (ps1 s).r) 1
def pln (s : ByteArray) : Int := if (ps2 s).e = 0 then numV 1 (ps2 s).r else 0
def ps3 (s : ByteArray) : RSt := stepR (ps2 s) (numE 1 (ps2 s).r) 1
def pnm (s : ByteArray) : Int := if (ps3 s).e = 0 then numV 4 (ps3 s).r else 0
def ps4 (s : ByteArray) : RSt := stepR (ps3 s) (numE 4 (ps3 s).r) 4
def pbd (s : ByteArray) : ByteArray := if (ps4 s).e = 0 then rawV (pln s) (ps4 s).r else ⟨#[]⟩
def prOk (s : ByteArray) : Prop := errM (pkd s) (pnm s) (pbd s).size = 0 ∧ makeB (pkd s) (pnm s) (pbd s) = s
def ParsePost (s : ByteArray) (w : World) (e : Ending) (w' : World) : Prop :=
  ((prOk s ∧ e = .returned (.tuple #[.agg #[.int .i64 (pkd s), .int .i64 (pnm s), .string (pbd s)], .int .i64 0])) ∨ (¬ prOk s ∧ e = .returned (.tuple #[.agg #[.int .i64 0, .int .i64 0, .string ⟨#[]⟩], .int .i64 35]))) ∧ Below w.heap.size w w'
theorem ps_ok (s : ByteArray) (N : Nat) (h : s.size ≤ N) : (ps1 s).ok N ∧ (ps2 s).ok N ∧ (ps3 s).ok N ∧ (ps4 s).ok N := by
  have h0 : RSt.ok ⟨s, 0, 0⟩ N := ⟨Int.le_refl _, by simp; omega⟩
  have h1 : (ps1 s).ok N := stepR_ok _ _ _ _ h0 (fun e => (rawE_le 2 s e).1)
  have h2 : (ps2 s).ok N := stepR_ok _ _ _ _ h1 (fun e => (numE_le 1 _ e).1)
  have h3 : (ps3 s).ok N := stepR_ok _ _ _ _ h2 (fun e => (numE_le 1 _ e).1)
  exact ⟨h1, h2, h3, stepR_ok _ _ _ _ h3 (fun e => (numE_le 4 _ e).1)⟩
theorem results_pair {fn : Func} {p q : Tmp} {ty : TypeId} (h : fn.results = #[.cell p ty, .tmp q]) (tmps : Array Value) (P : Program) (w : World) (ad : Addr) (ha : tmps.getD p undef = .pointer (some ad)) (v : Value) (hl : (loadVar ty ad).run P w = .ok v w) (u : Value) (hu : tmps.getD q undef = u) :
    (results fn tmps).run P w = .ok (.tuple #[v, u]) w := by
  subst hu
  have ha' : tmps[p]?.getD undef = .pointer (some ad) := by simpa using ha
  simp only [results, h]
  simp [ha', asAddr, hl]
theorem load_page (w : World) (b : Nat) (kind number : Int) (body : ByteArray) (h : Blk w b #[.int .i64 kind, .int .i64 number, .string body] 123) :
    (loadVar 123 ⟨b, 0, none⟩).run Tryz.prog w = .ok (.agg #[.int .i64 kind, .int .i64 number, .string body]) w := by
  have c0 : w.cell? ⟨b, 0, none⟩ = some (.int .i64 kind) := by rw [h.cell 0]; rfl
  have c1 : w.cell? ⟨b, 1, none⟩ = some (.int .i64 number) := by rw [h.cell 1]; rfl
  have c2 : w.cell? ⟨b, 2, none⟩ = some (.string body) := by rw [h.cell 2]; rfl
  simp [loadVar, isAgg, underlying, Tryz.underlying123, Result.andThen, loadCells, loadCellsFrom, Addr.add, c0, c1, c2]
set_option maxRecDepth 100000 in
set_option maxHeartbeats 4000000 in
theorem parse_any (hRep : RepOk) (s : ByteArray) (hs : s.size ≤ 9223372036854775807) (w : World) (hg : ETy w) :
    Calls Tryz.prog 102 #[.string s] w fun e w' => ParsePost s w e w' := by
  have HK := hide (ps_ok s 9223372036854775807 hs)
  have HMK := hide (fun W => make_any hRep (pkd s) (pnm s) (pbd s) W)
  have HNR := hide (fun W => newReader_any s W)
  have HG := hide hg
  clear hRep hg
  go_enter Tryz.func102, Tryz.ntmps102
  go_wp2_with fail
  refine (unhide HNR _).mono ?_
  rintro ev x0 ⟨rfl, hR0, hB0, hS0⟩
  obtain ⟨b, hb⟩ : ∃ b, (w.alloc (Obj.cells #[.int .i64 0, .int .i64 0, .string ⟨#[]⟩] 123)).heap.size = b := ⟨_, rfl⟩
  have hb' : b = w.heap.size + 1 := by rw [← hb]; simp
  rw [hb] at hR0 hS0
  have HA := hide (show Blk x0 w.heap.size #[.int .i64 0, .int .i64 0, .string ⟨#[]⟩] 123 from (Blk.new w _ _).below hB0 (by simp))
  have hBx : Below w.heap.size w x0 := ((Below.refl _ w).alloc (Nat.le_refl _) _).trans (hB0.mono (by simp))
  have hG0 : ETy x0 := (unhide HG).below hBx (unhide HG).lt
  have HBx := hide hBx
  have HG0 := hide hG0
  have hne0 : b ≠ 1 := by have := (unhide HG).lt; omega
  have hb1 : w.heap.size + 1 = b := by omega
  have HR0 := hide (show Rds x0 b ⟨s, 0, 0⟩ from hR0)
  have HO0 := hide (Only.refl (fun k => k = b) x0)
  have Hb := hide hb
  have Hb' := hide hb'
  have HS0 := hide hS0
  clear hR0 hB0 hS0 hBx hG0 HNR hb hb'
  go_wp2_with fail
  refine (rawS x0 b ⟨s, 0, 0⟩ (unhide HR0) ((unhide HG0).only (unhide HO0) (fun q => hne0 q.symm)) ⟨Int.le_refl _, by simp; omega⟩ 2).mono ?_
  rintro ev x1 ⟨rfl, hR, hO⟩
  have HR1 := hide (show Rds x1 b (ps1 s) from hR)
  have HO1 := hide ((unhide HO0).trans hO (fun _ _ q => q))
  clear hR hO HR0 HO0
  go_wp2_with fail
  refine (numS x1 b (ps1 s) (unhide HR1) ((unhide HG0).only (unhide HO1) (fun q => hne0 q.symm)) (unhide HK).1 1).mono ?_
  rintro ev x2 ⟨rfl, hR, hO⟩
  have HR2 := hide (show Rds x2 b (ps2 s) from hR)
  have HO2 := hide ((unhide HO1).trans hO (fun _ _ q => q))
  clear hR hO HR1 HO1
  obtain ⟨kd, hkd⟩ : ∃ k, (if (ps1 s).e = 0 then numV 1 (ps1 s).r else 0) = k := ⟨_, rfl⟩
  rw [hkd]
  have Hkd := hide hkd
  clear hkd
  go_wp2_with fail
  refine (numS x2 b (ps2 s) (unhide HR2) ((unhide HG0).only (unhide HO2) (fun q => hne0 q.symm)) (unhide HK).2.1 1).mono ?_
  rintro ev x3 ⟨rfl, hR, hO⟩
  have HR3 := hide (show Rds x3 b (ps3 s) from hR)
  have HO3 := hide ((unhide HO2).trans hO (fun _ _ q => q))
  clear hR hO HR2 HO2
  obtain ⟨ln, hln⟩ : ∃ k, (if (ps2 s).e = 0 then numV 1 (ps2 s).r else 0) = k := ⟨_, rfl⟩
  rw [hln]
  have Hln := hide hln
  clear hln
  go_wp2_with fail
  refine (numS x3 b (ps3 s) (unhide HR3) ((unhide HG0).only (unhide HO3) (fun q => hne0 q.symm)) (unhide HK).2.2.1 4).mono ?_
  rintro ev x4 ⟨rfl, hR, hO⟩
  have HR4 := hide (show Rds x4 b (ps4 s) from hR)
  have HO4 := hide ((unhide HO3).trans hO (fun _ _ q => q))
  clear hR hO HR3 HO3
  obtain ⟨nm, hnm⟩ : ∃ k, (if (ps3 s).e = 0 then numV 4 (ps3 s).r else 0) = k := ⟨_, rfl⟩
  rw [hnm]
  have Hnm := hide hnm
  clear hnm
  go_wp2_with fail
  refine (rawS x4 b (ps4 s) (unhide HR4) ((unhide HG0).only (unhide HO4) (fun q => hne0 q.symm)) (unhide HK).2.2.2 ln).mono ?_
  rintro ev x5 ⟨rfl, hR, hO⟩
  have HR5 := hide (show Rds x5 b (stepR (ps4 s) (rawE ln (ps4 s).r) ln.toNat) from hR)
  have HO5 := hide ((unhide HO4).trans hO (fun _ _ q => q))
  clear hR hO HR4 HO4
  obtain ⟨bd, hbd⟩ : ∃ k, (if (ps4 s).e = 0 then rawV ln (ps4 s).r else ⟨#[]⟩) = k := ⟨_, rfl⟩
  rw [hbd]
  have hk1 : pkd s = kd := unhide Hkd
  have hl1 : pln s = ln := unhide Hln
  have hn1 : pnm s = nm := unhide Hnm
  have hb1' : pbd s = bd := by rw [← hbd, ← hl1]; rfl
  rw [hk1, hn1, hb1'] at HMK
  have HPK := hide (And.intro hk1 (And.intro hn1 hb1'))
  obtain ⟨mb, hmb⟩ : ∃ m, makeB kd nm bd = m := ⟨_, rfl⟩
  obtain ⟨me, hme⟩ : ∃ m, errM kd nm bd.size = m := ⟨_, rfl⟩
  rw [hmb, hme] at HMK
  have Hmb := hide hmb
  have Hme := hide hme
  clear hbd hk1 hl1 hn1 hb1' hmb hme Hkd Hln Hnm HK HR5
  have hwA : w.heap.size < x5.heap.size := by have := (unhide HO5).size; have := unhide HS0; have := unhide Hb'; omega
  have HA5 := hide ((unhide HA).only (unhide HO5) (by show ¬ w.heap.size = b; omega))
  clear HA
  go_wp2_with fail
  refine (unhide HMK _).mono ?_
  rintro ev x6 ⟨rfl, hB6⟩
  have HB6 := hide hB6
  have HA6 := hide (((unhide HA5).alloc (Obj.cells #[.int .i64 kd, .int .i64 nm, .string bd] 123)).below hB6 (by simp; omega))
  have HC6 := hide ((Blk.new x5 123 #[.int .i64 kd, .int .i64 nm, .string bd]).below hB6 (by simp))
  have a0 : x6.cell? ⟨w.heap.size, 0, none⟩ = some (.int .i64 0) := by rw [(unhide HA6).cell 0]; rfl
  have a1 : x6.cell? ⟨w.heap.size, 1, none⟩ = some (.int .i64 0) := by rw [(unhide HA6).cell 1]; rfl
  have a2 : x6.cell? ⟨w.heap.size, 2, none⟩ = some (.string ⟨#[]⟩) := by rw [(unhide HA6).cell 2]; rfl
  have f0 := (unhide HA6).frozen 0
  have f1 := (unhide HA6).frozen 1
  have f2 := (unhide HA6).frozen 2
  have d0 : x6.cell? ⟨x5.heap.size, 0, none⟩ = some (.int .i64 kd) := by rw [(unhide HC6).cell 0]; rfl
  have d1 : x6.cell? ⟨x5.heap.size, 1, none⟩ = some (.int .i64 nm) := by rw [(unhide HC6).cell 1]; rfl
  have d2 : x6.cell? ⟨x5.heap.size, 2, none⟩ = some (.string bd) := by rw [(unhide HC6).cell 2]; rfl
  have HB7 := hide (show Below w.heap.size w x6 from (unhide HBx).trans (((unhide HO5).below (B := w.heap.size) (by have := unhide HS0; have := unhide Hb'; omega) (fun k hk => by show ¬ k = b; have := unhide Hb'; omega)).trans (((Below.refl _ x5).alloc (by omega) _).trans (hB6.mono (by simp; omega)))))
  clear hB6 HMK HBx HO5 HA5 HB6
  by_cases hok : me = 0 ∧ mb = s
  · obtain ⟨h1, h2⟩ := hok
    subst h1
    have HOK := hide (show prOk s from ⟨by rw [(unhide HPK).1, (unhide HPK).2.1, (unhide HPK).2.2]; exact unhide Hme, by rw [(unhide HPK).1, (unhide HPK).2.1, (unhide HPK).2.2, unhide Hmb]; exact h2⟩)
    have hq : (mb.toList == s.toList) = true := by rw [h2]; simp
    have H2 := hide h2
    clear h2
    go_wp2
    have hA7 := (((unhide HA6).set 0 (.int .i64 kd)).set 1 (.int .i64 nm)).set 2 (.string bd)
    refine bodyPost_ret (v := .tuple #[.agg #[.int .i64 kd, .int .i64 nm, .string bd], .int .i64 0]) ?_ rfl ?_
    · exact results_pair (p := 2) (q := 3) (ty := 123) rfl _ _ _ ⟨w.heap.size, 0, none⟩ (by rfl) _ (load_page _ _ _ _ _ hA7) _ (by rfl)
    · refine ⟨.inl ⟨unhide HOK, ?_⟩, (((unhide HB7).setCell (p := ⟨w.heap.size, 0, none⟩) (Nat.le_refl _) _).setCell (p := ⟨w.heap.size, 1, none⟩) (Nat.le_refl _) _).setCell (p := ⟨w.heap.size, 2, none⟩) (Nat.le_refl _) _⟩
      rw [(unhide HPK).1, (unhide HPK).2.1, (unhide HPK).2.2]
  · have HOK := hide (show ¬ prOk s from fun q => hok ⟨by rw [← unhide Hme, ← (unhide HPK).1, ← (unhide HPK).2.1, ← (unhide HPK).2.2]; exact q.1, by rw [← unhide Hmb, ← (unhide HPK).1, ← (unhide HPK).2.1, ← (unhide HPK).2.2]; exact q.2⟩)
    by_cases he : me = 0
    · subst he
      have hq : (mb.toList == s.toList) = false := str_ne (fun q => hok ⟨rfl, q⟩)
      clear hok
      go_wp2
      have hA7 := (((unhide HA6).set 0 (.int .i64 0)).set 1 (.int .i64 0)).set 2 (.string ⟨#[]⟩)
      refine bodyPost_ret (v := .tuple #[.agg #[.int .i64 0, .int .i64 0, .string ⟨#[]⟩], .int .i64 35]) ?_ rfl ?_
      · exact results_pair (p := 2) (q := 3) (ty := 123) rfl _ _ _ ⟨w.heap.size, 0, none⟩ (by rfl) _ (load_page _ _ _ _ _ hA7) _ (by rfl)
      · exact ⟨.inr ⟨unhide HOK, rfl⟩, (((unhide HB7).setCell (p := ⟨w.heap.size, 0, none⟩) (Nat.le_refl _) _).setCell (p := ⟨w.heap.size, 1, none⟩) (Nat.le_refl _) _).setCell (p := ⟨w.heap.size, 2, none⟩) (Nat.le_refl _) _⟩
    · have hq : (me != 0) = true := by simp [he]
      clear hok
      go_wp2
      have hA7 := (((unhide HA6).set 0 (.int .i64 0)).set 1 (.int .i64 0)).set 2 (.string ⟨#[]⟩)
      refine bodyPost_ret (v := .tuple #[.agg #[.int .i64 0, .int .i64 0, .string ⟨#[]⟩], .int .i64 35]) ?_ rfl ?_
      · exact results_pair (p := 2) (q := 3) (ty := 123) rfl _ _ _ ⟨w.heap.size, 0, none⟩ (by rfl) _ (load_page _ _ _ _ _ hA7) _ (by rfl)
      · exact ⟨.inr ⟨unhide HOK, rfl⟩, (((unhide HB7).setCell (p := ⟨w.heap.size, 0, none⟩) (Nat.le_refl _) _).setCell (p := ⟨w.heap.size, 1, none⟩) (Nat.le_refl _) _).setCell (p := ⟨w.heap.size, 2, none⟩) (Nat.le_refl _) _⟩
end Go.Proofs.YtffiaogbphgmgaaGreatDoor
