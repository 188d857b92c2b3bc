import Derived.Test.YtkmgbicacbalfabDoorClo
import Derived.Test.YtkmgbicacbalfabDoorRdp
import Derived.Laws.Bits64b
namespace Go.Proofs.YtkmgbicacbalfabDoor
open Go.RowKit
/-- A panic of a Reader's own. -/
def gave (x : Int) : List PanicEntry := [{ v := .iface 73 (.agg #[.int .i64 x]), recovered := false }]
/-- What a call that gives up leaves behind. -/
def Thr (b : Nat) (w w' : World) : Prop := (∃ r t, Rdr w' b r t 0) ∧ Only (fun k => k = b) w w'
theorem Rdr.cells {w : World} {b : Nat} {r : ByteArray} {t e : Int} (h : Rdr w b r t e) : w.cell? ⟨b, 0, none⟩ = some (.string r) ∧ w.cell? ⟨b, 1, none⟩ = some (.int .i64 t) ∧ w.cell? ⟨b, 2, none⟩ = some (.int .i64 e) ∧ w.frozen? ⟨b, 0, none⟩ = false ∧ w.frozen? ⟨b, 1, none⟩ = false ∧ w.frozen? ⟨b, 2, none⟩ = false := by
  have h' : Blk w b #[.string r, .int .i64 t, .int .i64 e] 70 := h
  refine ⟨?_, ?_, ?_, h'.frozen 0, h'.frozen 1, h'.frozen 2⟩
  · rw [h'.cell 0]; rfl
  · rw [h'.cell 1]; rfl
  · rw [h'.cell 2]; rfl
set_option maxRecDepth 100000 in
set_option maxHeartbeats 1000000 in
theorem take_ok (w : World) (b : Nat) (r : ByteArray) (t e : Int) (h : Rdr w b r t e) (n : Nat) (hn : n ≤ r.size) (ht : 0 ≤ t) (hr : t + (r.size : Int) ≤ 9223372036854775807) :
    Calls Tryd.prog 42 #[.pointer (some ⟨b, 0, none⟩), .int .i64 (n : Int)] w fun ev w' => ev = .returned (.string (r.extract 0 n)) ∧ Rdr w' b (r.extract n r.size) (t + (n : Int)) e ∧ Only (fun k => k = b) w w' := by
  obtain ⟨c0, c1, c2, f0, f1, f2⟩ := h.cells
  have HB := hide h
  clear h
  go_enter Tryd.func42, Tryd.ntmps42
  go_wp2
  go_ret
  refine ⟨rfl, ?_, ((Only.refl (fun k => k = b) w).setCell ⟨b, 0, none⟩ _ (fun _ => rfl)).setCell ⟨b, 1, none⟩ _ (fun _ => rfl)⟩
  exact (Blk.set (unhide HB) 0 _).set 1 _
set_option maxRecDepth 100000 in
set_option maxHeartbeats 1000000 in
theorem take_short (w : World) (b : Nat) (r : ByteArray) (t : Int) (h : Rdr w b r t 0) (n : Int) (hn : (r.size : Int) < n) :
    Calls Tryd.prog 42 #[.pointer (some ⟨b, 0, none⟩), .int .i64 n] w fun ev w' => ev = .panicked (gave 31) ∧ Thr b w w' := by
  obtain ⟨c0, c1, c2, f0, f1, f2⟩ := h.cells
  have HB := hide h
  clear h
  go_enter Tryd.func42, Tryd.ntmps42
  go_wp2
  (try simp only [Exit.inBlock, Exit.then])
  exact ⟨rfl, rfl, ⟨r, t, unhide HB⟩, Only.refl _ _⟩
set_option maxRecDepth 100000 in
set_option maxHeartbeats 1000000 in
theorem number_short (w : World) (b : Nat) (r : ByteArray) (t : Int) (h : Rdr w b r t 0) (n : Int) (hn : (r.size : Int) < n) :
    Calls Tryd.prog 38 #[.pointer (some ⟨b, 0, none⟩), .int .i64 n] w fun ev w' => ev = .panicked (gave 31) ∧ Thr b w w' := by
  have HT := hide (take_short w b r t h n hn)
  clear h
  go_enter Tryd.func38, Tryd.ntmps38
  go_wp2_with (go_at_call 42; refine (unhide HT).mono ?_; rintro ev w2 ⟨rfl, hP⟩; have HP := hide hP; clear hP)
  (try simp only [Exit.inBlock, Exit.then])
  exact ⟨rfl, rfl, unhide HP⟩
theorem be_take (l : List Int) (i : Nat) (hi : i < l.length) : beN (l.take (i + 1)) = 256 * beN (l.take i) + l.getD i 0 := by
  rw [List.take_add_one, List.getElem?_eq_getElem hi, List.getD_eq_getElem?_getD, List.getElem?_eq_getElem hi]
  exact beN_snoc _ _
theorem be_bound (l : List Int) (h : Bytes l) : ∀ i, 0 ≤ beN (l.take i) ∧ beN (l.take i) < 256 ^ i := by
  intro i
  induction i with
  | zero => simp [beN]
  | succ i ih =>
    by_cases hi : i < l.length
    · rw [be_take l i hi, Int.pow_succ]
      have := h i
      omega
    · rw [List.take_of_length_le (by omega)] at ih ⊢
      have : (256 : Int) ^ i ≤ 256 ^ (i + 1) := by rw [Int.pow_succ]; have : (0:Int) < 256 ^ i := Int.pow_pos (by decide); omega
      omega
def NumPost (b : Nat) (r : ByteArray) (t : Int) (n : Nat) (Z : Int) (w : World) (ev : Ending) (w' : World) : Prop :=
  (Z ≤ 9223372036854775807 → ev = .returned (.int .i64 Z) ∧ Rdr w' b (r.extract n r.size) (t + (n : Int)) 0 ∧ Only (fun k => k = b) w w') ∧ (9223372036854775807 < Z → ev = .panicked (gave 30) ∧ Thr b w w')
set_option maxRecDepth 100000 in
set_option maxHeartbeats 2000000 in
theorem number_any (w : World) (b : Nat) (r : ByteArray) (t : Int) (h : Rdr w b r t 0) (n : Nat) (hn : n ≤ r.size) (hn8 : n ≤ 8) (ht : 0 ≤ t) (hr : t + (r.size : Int) ≤ 9223372036854775807) (Z : Int) (hZ : Z = beN ((nums r).take n)) :
    Calls Tryd.prog 38 #[.pointer (some ⟨b, 0, none⟩), .int .i64 (n : Int)] w fun ev w' => NumPost b r t n Z w ev w' := by
  have HT := hide (take_ok w b r t 0 h n hn ht hr)
  have hsz : (r.extract 0 n).size = n := by simp; omega
  have hnm : nums (r.extract 0 n) = (nums r).take n := by rw [nums_extract, List.drop_zero]
  generalize r.extract 0 n = s at *
  rw [← hnm] at hZ
  have HZ := hide hZ
  clear h hnm hZ
  go_enter Tryd.func38, Tryd.ntmps38
  go_wp2_with fail
  refine (unhide HT).mono ?_
  rintro ev w2 ⟨rfl, hR2, hO2⟩
  obtain ⟨cap, W, hrun, hB, hbel⟩ := Bsl.of_string w2 s (by omega)
  rw [hsz] at hrun
  have hlt2 : b < w2.heap.size := Blk.lt hR2
  have HR2 := hide hR2
  have HO2 := hide hO2
  have HRW := hide (show Rdr W b (r.extract n r.size) (t + (n : Int)) 0 from Blk.below hR2 hbel hlt2)
  have HOW := hide (show Only (fun k => k = b) w W from hO2.trans (Only.of_below (P := fun _ => False) hbel) (fun _ _ q => q.elim))
  have HA := hide hB.2.2.2.2.1
  have hb8 := be_bound (nums s) (nums_bytes s)
  have hHB := hide hb8
  clear hR2 hO2 hB hbel hb8 HT HR2 HO2
  go_wp2
  go_loopw [5, 13] (fun u i wr => ∃ j : Nat, j ≤ n ∧ i = .int .i64 (j : Int) ∧ u = .int .u64 (beN ((nums s).take j)) ∧ wr = W) (fun _ i _ => n - (intOf i).toNat)
  case atStart => exact ⟨0, by omega, rfl, rfl, rfl⟩
  case round =>
    obtain ⟨j, hj, rfl, rfl, rfl⟩ := hrel
    have hbj := unhide hHB j
    by_cases hjn : j < n
    · have hl : j < (nums s).length := by rw [nums_len, hsz]; exact hjn
      have c1 := (unhide HA).get0 j hl
      have hx := nums_bytes s j
      have HN := hide (be_take (nums s) j hl)
      have hp : (256 : Int) ^ j ≤ 256 ^ 7 := by
        have h1 : (256 : Nat) ^ j ≤ 256 ^ 7 := Nat.pow_le_pow_right (by decide) (by omega)
        exact_mod_cast h1
      have h7 : (256 : Int) ^ 7 = 72057594037927936 := by decide
      obtain ⟨X, hX⟩ := Int.eq_ofNat_of_zero_le hx.1
      obtain ⟨N, hN⟩ := Int.eq_ofNat_of_zero_le hbj.1
      have hNl : N < 72057594037927936 := by omega
      have hXl : X < 256 := by omega
      rw [hX] at c1 HN
      rw [hN] at HN ⊢
      clear hp h7 hx hbj hX hN
      have hw1 : IntKind.u64.wrap ((N : Int) * 2 ^ (8 : Int).toNat) = ((N * 256 : Nat) : Int) := by
        rw [IntKind.wrap_u64]
        have : (8 : Int).toNat = 8 := rfl
        rw [this]
        omega
      have ho := bits_or_u64_nat (N * 256) X (by omega) (by omega)
      rw [Nat.or_comm, or_add' N 256 8 X (by decide) (by omega)] at ho
      go_wp2
      go_roundw
      case rel => exact ⟨j + 1, by omega, by go_num, by rw [unhide HN, show (256 * (N : Int) + (X : Int)) = ((N * 256 + X : Nat) : Int) by omega, ← ho]; rfl, trivial⟩
      case measure => simp [intOf]; omega
    · have hjn' : j = n := by omega
      subst hjn'
      have hall : (nums s).take j = nums s := List.take_of_length_le (by rw [nums_len]; omega)
      rw [hall, ← unhide HZ] at hbj ⊢
      have hp : (256 : Int) ^ j ≤ 256 ^ 8 := by
        have h1 : (256 : Nat) ^ j ≤ 256 ^ 8 := Nat.pow_le_pow_right (by decide) (by omega)
        exact_mod_cast h1
      have h8 : (256 : Int) ^ 8 = 18446744073709551616 := by decide
      have hZ1 : Z < 18446744073709551616 := by omega
      have hZ0 := hbj.1
      clear hp h8 hbj hall
      by_cases hZm : Z ≤ 9223372036854775807
      · have hng : ¬ 9223372036854775807 < Z := by omega
        go_wp2
        go_ret
        exact ⟨fun _ => ⟨rfl, unhide HRW, unhide HOW⟩, fun h => by omega⟩
      · have hg : 9223372036854775807 < Z := by omega
        go_wp2
        (try simp only [Exit.inBlock, Exit.then])
        exact ⟨rfl, fun h => by omega, fun _ => ⟨rfl, ⟨_, _, unhide HRW⟩, unhide HOW⟩⟩
def DigPost (b : Nat) (r : ByteArray) (t E : Int) (V C : Nat) (w : World) (ev : Ending) (w' : World) : Prop :=
  (E = 0 → ev = .returned (.int .i64 (V : Int)) ∧ Rdr w' b (r.extract C r.size) (t + (C : Int)) 0 ∧ Only (fun k => k = b) w w') ∧ (E ≠ 0 → ev = .panicked (gave E) ∧ Thr b w w')
theorem be_one (x : Int) (l : List Int) : beN ((x :: l).take 1) = x := by simp [beN]
theorem dig_pow (i : Nat) : (2 : Nat) ^ (7 * i) = 128 ^ i := by rw [Nat.pow_mul]
set_option maxRecDepth 100000 in
set_option maxHeartbeats 2000000 in
theorem digits_any (w : World) (b : Nat) (r : ByteArray) (t : Int) (h : Rdr w b r t 0) (ht : 0 ≤ t) (hr : t + (r.size : Int) ≤ 9223372036854775807) (E : Int) (V C : Nat) (hV : varP (nums r) = (E, V, C)) :
    Calls Tryd.prog 40 #[.pointer (some ⟨b, 0, none⟩)] w fun ev w' => DigPost b r t E V C w ev w' := by
  have HV := hide hV
  have HS := hide (show Rdr w b (r.extract 0 r.size) (t + ((0 : Nat) : Int)) 0 by rw [extract_all, Int.natCast_zero, Int.add_zero]; exact h)
  clear h hV
  go_enter Tryd.func40, Tryd.ntmps40
  go_wp2
  go_loopw [3, 6] (fun u x wr => ∃ i n : Nat, i ≤ 9 ∧ i ≤ r.size ∧ n < 128 ^ i ∧ x = .int .i64 (i : Int) ∧ u = .int .i64 (n : Int) ∧ dgA (9 - i) i n ((nums r).drop i) = (E, V, C) ∧ Rdr wr b (r.extract i r.size) (t + (i : Int)) 0 ∧ Only (fun k => k = b) w wr) (fun _ i _ => 9 - (intOf i).toNat)
  case atStart => exact ⟨0, 0, by omega, by omega, by decide, rfl, rfl, unhide HV, unhide HS, Only.refl _ _⟩
  case round =>
    obtain ⟨i, n, hi9, hir, hn, rfl, rfl, hD, hR, hO⟩ := hrel
    obtain ⟨wo, rfl⟩ : ∃ wo, wo = wr := ⟨_, rfl⟩
    have hsz : (r.extract i r.size).size = r.size - i := by simp
    by_cases hi : i < 9
    · obtain ⟨f, hf⟩ : ∃ f, 9 - i = f + 1 := ⟨8 - i, by omega⟩
      rw [hf] at hD
      by_cases hl : i < r.size
      · have hle : i < (nums r).length := by rw [nums_len]; exact hl
        rw [List.drop_eq_getElem_cons hle] at hD
        have hd0 := nums_bytes r i
        have hget : (nums r).getD i 0 = (nums r)[i] := by rw [List.getD_eq_getElem?_getD, List.getElem?_eq_getElem hle]; rfl
        have hN := number_any wo b (r.extract i r.size) (t + (i : Int)) hR 1 (by omega) (by omega) (by omega) (by omega) ((nums r)[i]) (by
          rw [nums_tail, List.drop_eq_getElem_cons hle]
          exact (be_one _ _).symm)
        rw [hget] at hd0
        generalize (nums r)[i] = d at *
        obtain ⟨X, rfl⟩ := Int.eq_ofNat_of_zero_le hd0.1
        have hX : X < 256 := by omega
        have HN := hide hN
        have HD := hide hD
        have HO := hide hO
        have hp8 : (128 : Nat) ^ i ≤ 128 ^ 8 := Nat.pow_le_pow_right (by decide) (by omega)
        have h88 : (128 : Nat) ^ 8 = 72057594037927936 := by decide
        have hr1 : ((X : Int)).tmod 128 = ((X % 128 : Nat) : Int) := rfl
        obtain ⟨R, hRR⟩ : ∃ R, X % 128 = R := ⟨_, rfl⟩
        rw [hRR] at hr1
        have hR1 : R < 128 := by omega
        have hmul : R * 128 ^ i ≤ 127 * 128 ^ i := Nat.mul_le_mul_right _ (by omega)
        obtain ⟨Y, hY⟩ : ∃ Y, R * 128 ^ i = Y := ⟨_, rfl⟩
        have hYl : Y < 9223372036854775808 := by omega
        have hor : n ||| Y = Y + n := by rw [← hY]; exact or_add' R (128 ^ i) (7 * i) n (dig_pow i).symm hn
        have hob := i64_or_nat n Y (by omega) hYl
        rw [hor] at hob
        have hsum : Y + n < 128 ^ (i + 1) := by rw [Nat.pow_succ]; omega
        have hY9 : Y + n ≤ 9223372036854775807 := by
          have h9 : (128 : Nat) ^ (i + 1) ≤ 128 ^ 9 := Nat.pow_le_pow_right (by decide) (by omega)
          have : (128 : Nat) ^ 9 = 9223372036854775808 := by decide
          omega
        have ht7 : (7 * (i : Int)).toNat = 7 * i := by omega
        have h64 : 7 * (i : Int) ≤ 64 := by omega
        have hw : IntKind.i64.wrap ((R : Int) * 2 ^ (7 * i)) = (Y : Int) := by
          have e1 : ((R : Int) * 2 ^ (7 * i)) = ((R * 128 ^ i : Nat) : Int) := by
            rw [← dig_pow i]
            simp
          rw [e1, hY]
          exact wrapI_eq _ (by omega) (by omega)
        have HRR := hide hRR
        have HY := hide hY
        have HSUM := hide hsum
        clear hN hD hR hO hp8 h88 hmul hn hor hsum hRR hY HS HV hget hd0
        go_wp2_with fail
        refine (unhide HN).mono ?_
        rintro ev w2 hPst
        obtain ⟨rfl, hR2, hO2⟩ := hPst.1 (by omega)
        rw [extract_tail] at hR2
        have HR2 := hide hR2
        have HO2 := hide (show Only (fun k => k = b) w w2 from (unhide HO).trans hO2 (fun _ _ q => q))
        clear hPst hR2 hO2
        by_cases h0 : X = 0 ∧ 0 < i
        · obtain ⟨rfl, hi0⟩ := h0
          have hE : dgA (f + 1) i n (((0 : Nat) : Int) :: (nums r).drop (i + 1)) = (34, 0, 0) := by rw [dgA, if_pos ⟨rfl, hi0⟩]
          have hE2 := (unhide HD).symm.trans hE
          have hEE : E = 34 := by simpa using congrArg Prod.fst hE2
          have HEE := hide hEE
          clear hE hE2 hEE
          go_wp2
          (try simp only [Exit.inBlock, Exit.then])
          refine ⟨rfl, (?_ : DigPost b r t E V C w _ _)⟩
          exact ⟨fun h => (by rw [unhide HEE] at h; exact absurd h (by decide)), fun _ => ⟨by rw [unhide HEE]; rfl, ⟨_, _, unhide HR2⟩, unhide HO2⟩⟩
        · by_cases h1 : X < 128
          · have hE : dgA (f + 1) i n ((X : Int) :: (nums r).drop (i + 1)) = (0, n + X * 128 ^ i, i + 1) := by rw [dgA, if_neg (by omega), if_pos (by omega), Int.toNat_natCast]
            have hE2 := (unhide HD).symm.trans hE
            have hEE : E = 0 := by simpa using congrArg Prod.fst hE2
            have hVV : V = n + X * 128 ^ i := by simpa using congrArg (fun q => q.2.1) hE2
            have hCC : C = i + 1 := by simpa using congrArg (fun q => q.2.2) hE2
            have HP : Hid (V = Y + n) := hide (by rw [hVV, ← unhide HY, ← unhide HRR, Nat.mod_eq_of_lt h1]; omega)
            have HEE := hide hEE
            have HCC := hide hCC
            clear hE hE2 hEE hVV hCC
            by_cases hi0 : i = 0
            · have hng : ¬ 0 < i := by omega
              have HI0 := hide hi0
              clear hi0
              by_cases hx0 : X = 0
              · have hx0' : ((X : Int) == 0) = true := by simp; omega
                have HX0 := hide hx0
                clear hx0
                go_wp2
                go_ret
                refine ⟨fun _ => ⟨by rw [unhide HP]; rfl, ?_, unhide HO2⟩, fun h => absurd (unhide HEE) h⟩
                rw [unhide HCC, show (t + ((i + 1 : Nat) : Int)) = t + (i : Int) + 1 by omega]
                exact unhide HR2
              · have hx0' : ((X : Int) == 0) = false := by simp; omega
                go_wp2
                go_ret
                refine ⟨fun _ => ⟨by rw [unhide HP]; rfl, ?_, unhide HO2⟩, fun h => absurd (unhide HEE) h⟩
                rw [unhide HCC, show (t + ((i + 1 : Nat) : Int)) = t + (i : Int) + 1 by omega]
                exact unhide HR2
            · have hx0' : ((X : Int) == 0) = false := by simp; omega
              go_wp2
              go_ret
              refine ⟨fun _ => ⟨by rw [unhide HP]; rfl, ?_, unhide HO2⟩, fun h => absurd (unhide HEE) h⟩
              rw [unhide HCC, show (t + ((i + 1 : Nat) : Int)) = t + (i : Int) + 1 by omega]
              exact unhide HR2
          · have hE : dgA (f + 1) i n ((X : Int) :: (nums r).drop (i + 1)) = dgA f (i + 1) (n + (X - 128) * 128 ^ i) ((nums r).drop (i + 1)) := by rw [dgA, if_neg (by omega), if_neg (by omega), Int.toNat_natCast]
            have hx0' : ((X : Int) == 0) = false := by simp; omega
            have HE2 := hide (hE.symm.trans (unhide HD))
            have HP : Hid (n + (X - 128) * 128 ^ i = Y + n) := hide (by rw [← unhide HY, ← unhide HRR, show X % 128 = X - 128 by omega]; omega)
            clear hE
            go_wp2
            go_roundw
            case rel =>
              refine ⟨i + 1, Y + n, by omega, by omega, unhide HSUM, by go_num, rfl, ?_, ?_, unhide HO2⟩
              · rw [show 9 - (i + 1) = f by omega, ← unhide HP]
                exact unhide HE2
              · rw [show (t + ((i + 1 : Nat) : Int)) = t + (i : Int) + 1 by omega]
                exact unhide HR2
            case measure => simp [intOf]; omega
      · have hnil : (nums r).drop i = [] := List.drop_eq_nil_of_le (by rw [nums_len]; omega)
        rw [hnil, dgA] at hD
        have hEE : E = 31 := by simpa using (congrArg Prod.fst hD).symm
        have HN := hide (number_short wo b (r.extract i r.size) (t + (i : Int)) hR 1 (by omega))
        have HO := hide hO
        have HEE := hide hEE
        clear hD hR hO hEE hnil HS HV
        go_wp2_with (go_at_call 38; refine (unhide HN).mono ?_; rintro ev w2 ⟨rfl, hP⟩; have HP := hide hP; clear hP)
        (try simp only [Exit.inBlock, Exit.then])
        refine ⟨rfl, (?_ : DigPost b r t E V C w _ _)⟩
        exact ⟨fun h => (by rw [unhide HEE] at h; exact absurd h (by decide)), fun _ => ⟨by rw [unhide HEE], (unhide HP).1, (unhide HO).trans (unhide HP).2 (fun _ _ q => q)⟩⟩
    · have hi9' : i = 9 := by omega
      subst hi9'
      rw [show 9 - 9 = 0 from rfl, dgA] at hD
      have hEE : E = 30 := by simpa using (congrArg Prod.fst hD).symm
      have HEE := hide hEE
      have HR := hide hR
      have HO := hide hO
      clear hD hEE hR hO HS HV
      go_wp2
      (try simp only [Exit.inBlock, Exit.then])
      refine ⟨rfl, (?_ : DigPost b r t E V C w _ _)⟩
      exact ⟨fun h => (by rw [unhide HEE] at h; exact absurd h (by decide)), fun _ => ⟨by rw [unhide HEE]; rfl, ⟨_, _, unhide HR⟩, unhide HO⟩⟩
end Go.Proofs.YtkmgbicacbalfabDoor
