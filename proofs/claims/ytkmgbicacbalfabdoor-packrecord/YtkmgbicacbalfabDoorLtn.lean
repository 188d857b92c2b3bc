import Derived.Test.YtkmgbicacbalfabDoorBrs
import Derived.Test.YtkmgbicacbalfabDoorRpt
import Derived.Test.YtkmgbicacbalfabDoorPk3
import Derived.StillTailTactics
namespace Go.Proofs.YtkmgbicacbalfabDoor
open Go.RowKit
set_option maxRecDepth 100000 in
set_option maxHeartbeats 1000000 in
theorem same_true (kind number : Int) (body : ByteArray) (w : World) :
    Calls Tryd.prog 24 #[.agg #[.int .i64 kind, .int .i64 number, .string body], .agg #[.int .i64 kind, .int .i64 number, .string body]] w fun e w' => e = .returned (.bool true) ∧ Below w.heap.size w w' := by
  go_enter Tryd.func24, Tryd.ntmps24
  go_wp2
  go_ret
  exact ⟨rfl, ((Below.refl _ w).alloc (Nat.le_refl _) _).alloc (by simp) _⟩
theorem parse_yes (s : ByteArray) (hs : s.size ≤ 9223372036854775807) (hok : prOk s) (w : World) (hg : ETy w) :
    Calls Tryd.prog 22 #[.string s] w fun e w' => e = .returned (.tuple #[.agg #[.int .i64 (pkd s), .int .i64 (pnm s), .string (pbd s)], .int .i64 0]) ∧ Below w.heap.size w w' :=
  (parse_any rep_ok s hs w hg).mono (by
    rintro e w' ⟨h | h, hb⟩
    · exact ⟨h.2, hb⟩
    · exact absurd hok h.1)
theorem parse_no (s : ByteArray) (hs : s.size ≤ 9223372036854775807) (hok : ¬ prOk s) (w : World) (hg : ETy w) :
    Calls Tryd.prog 22 #[.string s] w fun e w' => e = .returned (.tuple #[.agg #[.int .i64 0, .int .i64 0, .string ⟨#[]⟩], .int .i64 35]) ∧ Below w.heap.size w w' :=
  (parse_any rep_ok s hs w hg).mono (by
    rintro e w' ⟨h | h, hb⟩
    · exact absurd h.1 hok
    · exact ⟨h.2, hb⟩)
theorem u8_shl (r : Nat) (h : r < 8) : IntKind.u8.wrap (1 * 2 ^ r) = ((2 ^ r : Nat) : Int) := by
  have hr2 : 2 ^ r < 256 := Nat.lt_of_lt_of_le (Nat.pow_lt_pow_right (by decide) h) (by decide)
  rw [IntKind.wrap_u8', Int.one_mul]
  have e : ((2 : Int) ^ r) = ((2 ^ r : Nat) : Int) := by simp
  rw [e]
  generalize 2 ^ r = M at *
  omega
theorem make256 : ∃ zc : Array Value, zc = ((List.replicate 256 (0 : Int)).map (Value.int .u8)).toArray ∧ ∀ w : World, (Instr.makeSlice 51 (.int .i64 256) (.int .i64 256)).run Tryd.prog w = .ok (.slice (some ⟨w.heap.size, 0, none⟩) 256 256) (w.alloc (.cells zc 5)) :=
  ⟨_, rfl, fun w => run_make_u8 256 256 (by decide) (by decide) w⟩
theorem i64_and1 (c : Nat) (h : c < 9223372036854775808) : bits .and .i64 (c : Int) 1 = ((c % 2 : Nat) : Int) := by
  have hx : c &&& 1 = c % 2 := Nat.and_one_is_mod c
  have h1 : (BitVec.ofInt 64 (c : Int)).toNat = c := by
    rw [BitVec.ofInt_natCast, BitVec.toNat_ofNat]; exact Nat.mod_eq_of_lt (by omega)
  have h2 : (BitVec.ofInt 64 (1 : Int)).toNat = 1 := by decide
  show IntKind.i64.wrap ((BitVec.ofInt 64 (c : Int) &&& BitVec.ofInt 64 (1 : Int)).toNat : Int) = _
  rw [BitVec.toNat_and, h1, h2, hx, IntKind.wrap_i64]
  omega
theorem pick_c (c : Int) (n : Nat) (hn : 0 < n) (hc : I64 c) (N : Int) (hN : N = (n : Int)) (w : World) : Calls Tryd.prog 26 #[.int .i64 c, .int .i64 N] w fun e w' => e = .returned (.int .i64 (pickP c n : Int)) ∧ w' = w := by
  subst hN
  exact pick3_any c n hn hc w
set_option maxRecDepth 100000 in
set_option maxHeartbeats 8000000 in
theorem turned_walk (kind0 number0 : Int) (body0 : ByteArray) (at0 pat0 : Int) (hk0 : I64 kind0) (hn0 : I64 number0) (hat : I64 at0) (hpat : I64 pat0) (w : World) (hg : ETy w) :
    Calls Tryd.prog 5 #[.agg #[.int .i64 kind0, .int .i64 number0, .string body0], .int .i64 at0, .int .i64 pat0] w fun e w' => e = .returned (.bool true) ∧ Below w.heap.size w w' := by
  have HP1 := hide (fun W => pick_c kind0 256 (by decide) hk0 256 rfl W)
  have HP2 := hide (fun W => pick_c number0 4294967296 (by decide) hn0 4294967296 rfl W)
  have HP3 := hide (fun W => pick_c at0 2017 (by decide) hat 2017 rfl W)
  have HP4 := hide (fun W => pick_c pat0 4294967295 (by decide) hpat 4294967295 rfl W)
  have l1 := pickP_lt kind0 256 (by decide)
  have l2 := pickP_lt number0 4294967296 (by decide)
  have l3 := pickP_lt at0 2017 (by decide)
  have l4 := pickP_lt pat0 4294967295 (by decide)
  generalize pickP kind0 256 = K at *
  generalize pickP number0 4294967296 = N at *
  generalize pickP at0 2017 = k at *
  generalize pickP pat0 4294967295 = pp at *
  have HG := hide hg
  have HB0 := hide (Below.refl w.heap.size w)
  clear hg hk0 hn0 hat hpat
  by_cases hb0 : 244 < body0.size
  · obtain ⟨bd, hbd⟩ : ∃ b, body0.extract 0 244 = b := ⟨_, rfl⟩
    have hbs : bd.size ≤ 244 := by rw [← hbd]; simp; omega
    have hE : errM (K : Int) (N : Int) bd.size = 0 := by rw [errM, if_neg (by simp [fits1, fits4]; omega), if_neg (by omega)]
    obtain ⟨hok, q1, q2, q3⟩ := make_parse (K : Int) (N : Int) bd hE
    obtain ⟨L, hL⟩ : ∃ L, makeL (K : Int) (N : Int) (nums bd) = L := ⟨_, rfl⟩
    have hmb : makeB (K : Int) (N : Int) bd = strOfNums L := by rw [makeB, if_pos hE, hL]
    have hLl : L.length = 256 := by rw [← hL]; exact makeL_len _ _ _ (by rw [nums_len]; exact hbs)
    have hLb : Bytes L := by rw [← hL]; exact makeL_bytes _ _ _ (nums_bytes _)
    have hSs : (strOfNums L).size = 256 := by rw [← nums_len, nums_strOfNums L hLb, hLl]
    rw [hmb] at hok q1 q2 q3
    have HMK := hide (fun W => make_any rep_ok (K : Int) (N : Int) bd W)
    rw [hmb, hE] at HMK
    have HPS := hide (fun W (hW : ETy W) => parse_yes (strOfNums L) (by omega) hok W hW)
    rw [q1, q2, q3] at HPS
    have HSM := hide (fun W => same_true (K : Int) (N : Int) bd W)
    have HSZ := hide (fun W => same_true 0 0 ⟨#[]⟩ W)
    have HNS := hide (nums_strOfNums L hLb)
    obtain ⟨St, hSt⟩ : ∃ S, strOfNums L = S := ⟨_, rfl⟩
    rw [hSt] at HMK HPS hSs HNS
    have HTB := hide (fun (Y : List Int) (hY : Bytes Y) (hl : Y.length = 256) (h : leN (nats Y) = leN (nats L) ^^^ (2 ^ k * (1 + pp))) => (by
      refine turned_bad (K : Int) (N : Int) bd hbs Y hY hl k (1 + pp) (by omega) (by omega) (by omega) ?_
      rw [hL]
      exact h : ¬ prOk (strOfNums Y)))
    have HLl := hide hLl
    have HLb := hide hLb
    clear hE hok q1 q2 q3 hmb hLl hLb hSt hL
    go_enter Tryd.func5, Tryd.ntmps5
    go_wp2_with fail
    refine (unhide HP1 _).mono ?_
    rintro ev wa ⟨rfl, rfl⟩
    clear HP1
    go_wp2_with fail
    refine (unhide HP2 _).mono ?_
    rintro ev wb ⟨rfl, rfl⟩
    clear HP2
    go_wp2_with fail
    refine (unhide HMK _).mono ?_
    rintro ev x1 ⟨rfl, hB1⟩
    have hP1 : Blk x1 w.heap.size #[.int .i64 (K : Int), .int .i64 (N : Int), .string bd] 46 := (Blk.new w _ _).below hB1 (by simp)
    have B1 := hide (show Below w.heap.size w x1 from ((Below.refl _ w).alloc (Nat.le_refl _) _).trans (hB1.mono (by simp)))
    have hl1 : w.heap.size < x1.heap.size := hP1.lt
    have PB1 := hide hP1
    clear hB1 hP1 HMK
    go_wp2_with fail
    refine (unhide HPS _ ((unhide HG).below (unhide B1) (unhide HG).lt)).mono ?_
    rintro ev x2 ⟨rfl, hB2⟩
    have hP2 : Blk x2 w.heap.size #[.int .i64 (K : Int), .int .i64 (N : Int), .string bd] 46 := (unhide PB1).below hB2 hl1
    have B2 := hide (show Below w.heap.size w x2 from (unhide B1).trans (hB2.mono (by omega)))
    have hl2 : w.heap.size < x2.heap.size := hP2.lt
    have p0 : x2.cell? ⟨w.heap.size, 0, none⟩ = some (.int .i64 (K : Int)) := by rw [hP2.cell 0]; rfl
    have p1 : x2.cell? ⟨w.heap.size, 1, none⟩ = some (.int .i64 (N : Int)) := by rw [hP2.cell 1]; rfl
    have p2 : x2.cell? ⟨w.heap.size, 2, none⟩ = some (.string bd) := by rw [hP2.cell 2]; rfl
    clear hB2 hP2 PB1 B1 HPS
    go_wp2_with fail
    refine (unhide HSM _).mono ?_
    rintro ev x3 ⟨rfl, hB3⟩
    have B3 := hide (show Below w.heap.size w x3 from (unhide B2).trans (((Below.refl _ x2).alloc (by omega) _).trans (hB3.mono (by simp; omega))))
    have hl3 : w.heap.size < x3.heap.size := by have := hB3.size; simp at this; omega
    clear hB3 HSM p0 p1 p2 B2
    obtain ⟨cap, x4, hrun, hBs, hbel⟩ := Bsl.of_string x3 St (by omega)
    rw [hSs] at hrun
    have B4 := hide (show Below w.heap.size w x4 from (unhide B3).trans (hbel.mono (by omega)))
    have HA0 := hide (show Arr x4 x3.heap.size 0 .u8 L by have := hBs.2.2.2.2.1; rwa [unhide HNS] at this)
    have hl4 : x3.heap.size < x4.heap.size := hBs.2.1
    have hs256 : ((St.size : Int) != 256) = false := by rw [hSs]; rfl
    clear hBs hbel B3
    go_wp2_with fail
    refine (unhide HP3 _).mono ?_
    rintro ev x5 ⟨rfl, rfl⟩
    go_wp2_with fail
    refine (unhide HP4 _).mono ?_
    rintro ev x6 ⟨rfl, rfl⟩
    clear HP3 HP4 hrun hs256
    go_wp2
    go_loopw [14] (fun u wr => ∃ (i : Nat) (Y : List Int), i ≤ 32 ∧ u = .int .i64 (i : Int) ∧ Bytes Y ∧ Y.length = 256 ∧ leN (nats Y) = leN (nats L) ^^^ (2 ^ k * ((1 + pp) % 2 ^ i)) ∧ Arr wr x3.heap.size 0 .u8 Y ∧ Below w.heap.size w wr ∧ x3.heap.size < wr.heap.size) (fun u _ => 32 - (intOf u).toNat)
    case atStart =>
      exact ⟨0, L, by omega, rfl, unhide HLb, unhide HLl, by rw [Nat.pow_zero, Nat.mod_one, Nat.mul_zero, Nat.xor_zero], unhide HA0, unhide B4, hl4⟩
    case round =>
      obtain ⟨i, Y, hi, rfl, hYb, hYl, hYe, hYa, hYB, hYs⟩ := hrel
      obtain ⟨wo, rfl⟩ : ∃ wo, wo = wr := ⟨_, rfl⟩
      clear HA0 B4 HLb HLl
      by_cases hi32 : i < 32
      · have hd : ((1 : Int) + (pp : Int)) / 2 ^ i = (((1 + pp) / 2 ^ i : Nat) : Int) := by
          have e1 : ((1 : Int) + (pp : Int)) = ((1 + pp : Nat) : Int) := by omega
          have e2 : ((2 : Int) ^ i) = ((2 ^ i : Nat) : Int) := by simp
          rw [e1, e2, ← Int.natCast_ediv]
        obtain ⟨D, hD⟩ : ∃ D, (1 + pp) / 2 ^ i = D := ⟨_, rfl⟩
        have hDl : D < 4294967296 := by rw [← hD]; exact Nat.lt_of_le_of_lt (Nat.div_le_self _ _) (by omega)
        rw [hD] at hd
        have ha : bits .and .i64 (D : Int) 1 = ((D % 2 : Nat) : Int) := i64_and1 D (by omega)
        have hit : ((i : Int)).toNat = i := by omega
        by_cases hbit : D % 2 = 1
        · rw [hbit] at ha
          have hidx : (k + i) / 8 < Y.length := by rw [hYl]; omega
          have c1 := hYa.get0 ((k + i) / 8) hidx
          have f1 := hYa.free0 ((k + i) / 8) hidx
          have hyb := hYb ((k + i) / 8)
          obtain ⟨y, hy⟩ := Int.eq_ofNat_of_zero_le hyb.1
          have HT := hide (turn_step L Y hYb k (1 + pp) i (by rw [hYl]; omega) hYe (by rw [hD]; exact hbit) _ rfl)
          rw [hy, Int.toNat_natCast] at HT
          rw [hy] at c1
          obtain ⟨q, hq⟩ : ∃ q, (k + i) / 8 = q := ⟨_, rfl⟩
          obtain ⟨r, hr⟩ : ∃ r, (k + i) % 8 = r := ⟨_, rfl⟩
          have hr8 : r < 8 := by omega
          have hq256 : q < 256 := by omega
          have hx := u8_xor_nat y (2 ^ r) (by omega) (Nat.lt_of_lt_of_le (Nat.pow_lt_pow_right (by decide) hr8) (by decide))
          have hsh := u8_shl r hr8
          have hw1 : IntKind.i64.wrap ((k : Int) + (i : Int)) = ((k + i : Nat) : Int) := by rw [wrapI_eq _ (by omega) (by omega)]; omega
          have hqd : (((k + i : Nat) : Int)).tdiv 8 = (q : Int) := by rw [← hq]; rfl
          have hrd : (((k + i : Nat) : Int)).tmod 8 = (r : Int) := by rw [← hr]; rfl
          rw [hq] at c1 f1 HT hidx
          rw [hr] at HT
          obtain ⟨V, hV⟩ : ∃ V, y ^^^ 2 ^ r = V := ⟨_, rfl⟩
          obtain ⟨M, hM⟩ : ∃ M, 2 ^ r = M := ⟨_, rfl⟩
          rw [hM] at hx hsh HT
          rw [hM] at hV
          rw [hV] at hx HT
          have hxv : (V : Int) = bits .xor .u8 (y : Int) ((2 : Int) ^ r % 256) := by
            have e1 : ((2 : Int) ^ r % 256) = (M : Int) := by
              have e2 : ((2 : Int) ^ r) = ((2 ^ r : Nat) : Int) := by simp
              rw [e2, hM]
              have : M < 256 := by rw [← hM]; exact Nat.lt_of_lt_of_le (Nat.pow_lt_pow_right (by decide) hr8) (by decide)
              omega
            rw [e1, hx]
          rw [hxv] at HT
          obtain ⟨s, hs⟩ : ∃ s, k + i = s := ⟨_, rfl⟩
          rw [hs] at hw1 hqd hrd
          have hsum : (k : Int) + (i : Int) = (s : Int) := by omega
          have i0 : 0 ≤ (q : Int) := by omega
          have i1 : (q : Int) < 256 := by omega
          have rt : ((r : Int)).toNat = r := by omega
          have r0 : 0 ≤ (r : Int) := by omega
          have r8 : (r : Int) ≤ 8 := by omega
          have hwr : IntKind.i64.wrap (r : Int) = (r : Int) := wrapI_eq _ (by omega) (by omega)
          have hwq : IntKind.i64.wrap (q : Int) = (q : Int) := wrapI_eq _ (by omega) (by omega)
          have HD := hide hD
          have HY := hide (And.intro hYa (And.intro hYB hYs))
          have HYL := hide hYl
          have HID := hide hidx
          have HIJ := hide (And.intro hi hi32)
          clear hYa hYB hYe hYb hyb hy hq hr hV hM hs hD hidx hYl hYs hxv hx hsh
          rw [hsum] at hw1
          go_wp2
          go_still_tail 19, (by kernel_rfl)
          change wpList _ _ _ _ _ wo.drew
          go_wp2
          go_roundw
          case rel =>
            exact ⟨i + 1, Y.set q _, by omega, by go_num, (unhide HT).1, by rw [List.length_set]; exact unhide HYL, (unhide HT).2, ((unhide HY).1.set0 q (unhide HID) _).drew, ((unhide HY).2.1.setCell (by simp; omega) _).drew, by simpa using (unhide HY).2.2⟩
          case measure => simp [intOf]; omega
        · have hbit0 : D % 2 = 0 := by omega
          rw [hbit0] at ha
          have HR := hide (And.intro hYb (And.intro hYl (And.intro (show leN (nats Y) = leN (nats L) ^^^ (2 ^ k * ((1 + pp) % 2 ^ (i + 1))) by rw [mod_succ_no _ _ (by rw [hD]; exact hbit0)]; exact hYe) (And.intro hYa (And.intro hYB hYs)))))
          clear hYa hYB hYe hYb hD hYl hYs
          go_wp2
          go_roundw
          case rel => exact ⟨i + 1, Y, by omega, by go_num, unhide HR⟩
          case measure => simp [intOf]; omega
      · have hi' : i = 32 := by omega
        subst hi'
        have h232 : (2 : Nat) ^ 32 = 4294967296 := by decide
        have hmod : (1 + pp) % 2 ^ 32 = 1 + pp := Nat.mod_eq_of_lt (by omega)
        clear h232
        rw [hmod] at hYe
        have hbad := unhide HTB Y hYb hYl hYe
        have hYsz : (strOfNums Y).size = 256 := by rw [← nums_len, nums_strOfNums Y hYb, hYl]
        have HPN := hide (fun W (hW : ETy W) => parse_no (strOfNums Y) (by omega) hbad W hW)
        have hcv := run_convert_bytes_arg (P := Tryd.prog) wo 51 5 Tryd.underlying51 Tryd.underlying5 x3.heap.size 0 256 cap Y hYl (fun j hj => hYa.get j (by omega)) 9 Tryd.underlying9
        have HYB := hide hYB
        clear hbad hYe hYa hYb hYsz hYB hmod
        go_wp2_with fail
        refine (unhide HPN _ ((unhide HG).below (unhide HYB) (unhide HG).lt)).mono ?_
        rintro ev x7 ⟨rfl, hB7⟩
        obtain ⟨zc, hzc, hmk⟩ := make256
        have B7 := hide (show Below w.heap.size w (x7.alloc (Obj.cells #[.int .i64 0, .int .i64 0, .string ⟨#[]⟩] 46)) from ((unhide HYB).trans (hB7.mono (by omega))).alloc (by have := hB7.size; omega) _)
        have hl7 : w.heap.size < x7.heap.size := by have := hB7.size; omega
        have Q7 := hide (Blk.new x7 46 #[.int .i64 0, .int .i64 0, .string ⟨#[]⟩])
        have AZ := hide (arr_new (x7.alloc (Obj.cells #[.int .i64 0, .int .i64 0, .string ⟨#[]⟩] 46)) .u8 (List.replicate 256 0) 5 zc hzc)
        have hcz := run_convert_bytes_arg (P := Tryd.prog) ((x7.alloc (Obj.cells #[.int .i64 0, .int .i64 0, .string ⟨#[]⟩] 46)).alloc (Obj.cells zc 5)) 51 5 Tryd.underlying51 Tryd.underlying5 (x7.alloc (Obj.cells #[.int .i64 0, .int .i64 0, .string ⟨#[]⟩] 46)).heap.size 0 256 256 (List.replicate 256 0) (by simp) (fun j hj => (unhide AZ).get j (by simpa using hj)) 9 Tryd.underlying9
        have HPZ := hide (fun W (hW : ETy W) => parse_no (strOfNums (List.replicate 256 0)) (by rw [← nums_len, nums_strOfNums _ (zeros_byte 256)]; simp) zeros_bad W hW)
        rw [show (x7.alloc (Obj.cells #[.int .i64 0, .int .i64 0, .string ⟨#[]⟩] 46)).heap.size = x7.heap.size + 1 by simp] at hcz
        obtain ⟨ZS, hZS⟩ : ∃ Z, strOfNums (List.replicate 256 0) = Z := ⟨_, rfl⟩
        rw [hZS] at hcz HPZ
        clear hB7 HPN hcv hzc hZS
        have hgz : ETy ((x7.alloc (Obj.cells #[.int .i64 0, .int .i64 0, .string ⟨#[]⟩] 46)).alloc (Obj.cells zc 5)) := (unhide HG).below ((unhide B7).alloc (by simp; omega) _) (unhide HG).lt
        have HGZ := hide hgz
        clear hgz
        go_wp2_with fail
        refine (unhide HPZ _ (unhide HGZ)).mono ?_
        rintro ev x8 ⟨rfl, hB8⟩
        have z7 := ((unhide Q7).alloc (Obj.cells zc 5)).below hB8 (by simp; omega)
        have a0 : x8.cell? ⟨x7.heap.size, 0, none⟩ = some (.int .i64 0) := by rw [z7.cell 0]; rfl
        have a1 : x8.cell? ⟨x7.heap.size, 1, none⟩ = some (.int .i64 0) := by rw [z7.cell 1]; rfl
        have a2 : x8.cell? ⟨x7.heap.size, 2, none⟩ = some (.string ⟨#[]⟩) := by rw [z7.cell 2]; rfl
        have hl8 : x7.heap.size < x8.heap.size := z7.lt
        have B8 := hide (show Below w.heap.size w x8 from ((unhide B7).alloc (by simp; omega) _).trans (hB8.mono (by simp; omega)))
        clear z7 hB8 hcz hmk HPZ HGZ B7 Q7 AZ
        go_wp2_with fail
        refine (unhide HSZ _).mono ?_
        rintro ev x9 ⟨rfl, hB9⟩
        have z8 := (Blk.new x8 46 #[.int .i64 0, .int .i64 0, .string ⟨#[]⟩]).below hB9 (by simp)
        have d0 : x9.cell? ⟨x8.heap.size, 0, none⟩ = some (.int .i64 0) := by rw [z8.cell 0]; rfl
        have d1 : x9.cell? ⟨x8.heap.size, 1, none⟩ = some (.int .i64 0) := by rw [z8.cell 1]; rfl
        have d2 : x9.cell? ⟨x8.heap.size, 2, none⟩ = some (.string ⟨#[]⟩) := by rw [z8.cell 2]; rfl
        have hl9 : x8.heap.size < x9.heap.size := z8.lt
        have B9 := hide (show Below w.heap.size w x9 from ((unhide B8).alloc (by omega) _).trans (hB9.mono (by simp; omega)))
        clear z8 hB9 B8
        go_wp2_with fail
        refine (unhide HSZ _).mono ?_
        rintro ev x10 ⟨rfl, hB10⟩
        have B10 := hide (show Below w.heap.size w x10 from (unhide B9).trans (hB10.mono (by omega)))
        clear hB10 B9
        go_wp2
        go_ret
        exact ⟨rfl, unhide B10⟩
  · obtain ⟨bd, hbd⟩ : ∃ b, body0 = b := ⟨_, rfl⟩
    have hbs : bd.size ≤ 244 := by rw [← hbd]; omega
    have hE : errM (K : Int) (N : Int) bd.size = 0 := by rw [errM, if_neg (by simp [fits1, fits4]; omega), if_neg (by omega)]
    obtain ⟨hok, q1, q2, q3⟩ := make_parse (K : Int) (N : Int) bd hE
    obtain ⟨L, hL⟩ : ∃ L, makeL (K : Int) (N : Int) (nums bd) = L := ⟨_, rfl⟩
    have hmb : makeB (K : Int) (N : Int) bd = strOfNums L := by rw [makeB, if_pos hE, hL]
    have hLl : L.length = 256 := by rw [← hL]; exact makeL_len _ _ _ (by rw [nums_len]; exact hbs)
    have hLb : Bytes L := by rw [← hL]; exact makeL_bytes _ _ _ (nums_bytes _)
    have hSs : (strOfNums L).size = 256 := by rw [← nums_len, nums_strOfNums L hLb, hLl]
    rw [hmb] at hok q1 q2 q3
    have HMK := hide (fun W => make_any rep_ok (K : Int) (N : Int) bd W)
    rw [hmb, hE] at HMK
    have HPS := hide (fun W (hW : ETy W) => parse_yes (strOfNums L) (by omega) hok W hW)
    rw [q1, q2, q3] at HPS
    have HSM := hide (fun W => same_true (K : Int) (N : Int) bd W)
    have HSZ := hide (fun W => same_true 0 0 ⟨#[]⟩ W)
    have HNS := hide (nums_strOfNums L hLb)
    obtain ⟨St, hSt⟩ : ∃ S, strOfNums L = S := ⟨_, rfl⟩
    rw [hSt] at HMK HPS hSs HNS
    have HTB := hide (fun (Y : List Int) (hY : Bytes Y) (hl : Y.length = 256) (h : leN (nats Y) = leN (nats L) ^^^ (2 ^ k * (1 + pp))) => (by
      refine turned_bad (K : Int) (N : Int) bd hbs Y hY hl k (1 + pp) (by omega) (by omega) (by omega) ?_
      rw [hL]
      exact h : ¬ prOk (strOfNums Y)))
    have HLl := hide hLl
    have HLb := hide hLb
    clear hE hok q1 q2 q3 hmb hLl hLb hSt hL
    go_enter Tryd.func5, Tryd.ntmps5
    go_wp2_with fail
    refine (unhide HP1 _).mono ?_
    rintro ev wa ⟨rfl, rfl⟩
    clear HP1
    go_wp2_with fail
    refine (unhide HP2 _).mono ?_
    rintro ev wb ⟨rfl, rfl⟩
    clear HP2
    go_wp2_with fail
    refine (unhide HMK _).mono ?_
    rintro ev x1 ⟨rfl, hB1⟩
    have hP1 : Blk x1 w.heap.size #[.int .i64 (K : Int), .int .i64 (N : Int), .string bd] 46 := (Blk.new w _ _).below hB1 (by simp)
    have B1 := hide (show Below w.heap.size w x1 from ((Below.refl _ w).alloc (Nat.le_refl _) _).trans (hB1.mono (by simp)))
    have hl1 : w.heap.size < x1.heap.size := hP1.lt
    have PB1 := hide hP1
    clear hB1 hP1 HMK
    go_wp2_with fail
    refine (unhide HPS _ ((unhide HG).below (unhide B1) (unhide HG).lt)).mono ?_
    rintro ev x2 ⟨rfl, hB2⟩
    have hP2 : Blk x2 w.heap.size #[.int .i64 (K : Int), .int .i64 (N : Int), .string bd] 46 := (unhide PB1).below hB2 hl1
    have B2 := hide (show Below w.heap.size w x2 from (unhide B1).trans (hB2.mono (by omega)))
    have hl2 : w.heap.size < x2.heap.size := hP2.lt
    have p0 : x2.cell? ⟨w.heap.size, 0, none⟩ = some (.int .i64 (K : Int)) := by rw [hP2.cell 0]; rfl
    have p1 : x2.cell? ⟨w.heap.size, 1, none⟩ = some (.int .i64 (N : Int)) := by rw [hP2.cell 1]; rfl
    have p2 : x2.cell? ⟨w.heap.size, 2, none⟩ = some (.string bd) := by rw [hP2.cell 2]; rfl
    clear hB2 hP2 PB1 B1 HPS
    go_wp2_with fail
    refine (unhide HSM _).mono ?_
    rintro ev x3 ⟨rfl, hB3⟩
    have B3 := hide (show Below w.heap.size w x3 from (unhide B2).trans (((Below.refl _ x2).alloc (by omega) _).trans (hB3.mono (by simp; omega))))
    have hl3 : w.heap.size < x3.heap.size := by have := hB3.size; simp at this; omega
    clear hB3 HSM p0 p1 p2 B2
    obtain ⟨cap, x4, hrun, hBs, hbel⟩ := Bsl.of_string x3 St (by omega)
    rw [hSs] at hrun
    have B4 := hide (show Below w.heap.size w x4 from (unhide B3).trans (hbel.mono (by omega)))
    have HA0 := hide (show Arr x4 x3.heap.size 0 .u8 L by have := hBs.2.2.2.2.1; rwa [unhide HNS] at this)
    have hl4 : x3.heap.size < x4.heap.size := hBs.2.1
    have hs256 : ((St.size : Int) != 256) = false := by rw [hSs]; rfl
    clear hBs hbel B3
    go_wp2_with fail
    refine (unhide HP3 _).mono ?_
    rintro ev x5 ⟨rfl, rfl⟩
    go_wp2_with fail
    refine (unhide HP4 _).mono ?_
    rintro ev x6 ⟨rfl, rfl⟩
    clear HP3 HP4 hrun hs256
    go_wp2
    go_loopw [14] (fun u wr => ∃ (i : Nat) (Y : List Int), i ≤ 32 ∧ u = .int .i64 (i : Int) ∧ Bytes Y ∧ Y.length = 256 ∧ leN (nats Y) = leN (nats L) ^^^ (2 ^ k * ((1 + pp) % 2 ^ i)) ∧ Arr wr x3.heap.size 0 .u8 Y ∧ Below w.heap.size w wr ∧ x3.heap.size < wr.heap.size) (fun u _ => 32 - (intOf u).toNat)
    case atStart =>
      exact ⟨0, L, by omega, rfl, unhide HLb, unhide HLl, by rw [Nat.pow_zero, Nat.mod_one, Nat.mul_zero, Nat.xor_zero], unhide HA0, unhide B4, hl4⟩
    case round =>
      obtain ⟨i, Y, hi, rfl, hYb, hYl, hYe, hYa, hYB, hYs⟩ := hrel
      obtain ⟨wo, rfl⟩ : ∃ wo, wo = wr := ⟨_, rfl⟩
      clear HA0 B4 HLb HLl
      by_cases hi32 : i < 32
      · have hd : ((1 : Int) + (pp : Int)) / 2 ^ i = (((1 + pp) / 2 ^ i : Nat) : Int) := by
          have e1 : ((1 : Int) + (pp : Int)) = ((1 + pp : Nat) : Int) := by omega
          have e2 : ((2 : Int) ^ i) = ((2 ^ i : Nat) : Int) := by simp
          rw [e1, e2, ← Int.natCast_ediv]
        obtain ⟨D, hD⟩ : ∃ D, (1 + pp) / 2 ^ i = D := ⟨_, rfl⟩
        have hDl : D < 4294967296 := by rw [← hD]; exact Nat.lt_of_le_of_lt (Nat.div_le_self _ _) (by omega)
        rw [hD] at hd
        have ha : bits .and .i64 (D : Int) 1 = ((D % 2 : Nat) : Int) := i64_and1 D (by omega)
        have hit : ((i : Int)).toNat = i := by omega
        by_cases hbit : D % 2 = 1
        · rw [hbit] at ha
          have hidx : (k + i) / 8 < Y.length := by rw [hYl]; omega
          have c1 := hYa.get0 ((k + i) / 8) hidx
          have f1 := hYa.free0 ((k + i) / 8) hidx
          have hyb := hYb ((k + i) / 8)
          obtain ⟨y, hy⟩ := Int.eq_ofNat_of_zero_le hyb.1
          have HT := hide (turn_step L Y hYb k (1 + pp) i (by rw [hYl]; omega) hYe (by rw [hD]; exact hbit) _ rfl)
          rw [hy, Int.toNat_natCast] at HT
          rw [hy] at c1
          obtain ⟨q, hq⟩ : ∃ q, (k + i) / 8 = q := ⟨_, rfl⟩
          obtain ⟨r, hr⟩ : ∃ r, (k + i) % 8 = r := ⟨_, rfl⟩
          have hr8 : r < 8 := by omega
          have hq256 : q < 256 := by omega
          have hx := u8_xor_nat y (2 ^ r) (by omega) (Nat.lt_of_lt_of_le (Nat.pow_lt_pow_right (by decide) hr8) (by decide))
          have hsh := u8_shl r hr8
          have hw1 : IntKind.i64.wrap ((k : Int) + (i : Int)) = ((k + i : Nat) : Int) := by rw [wrapI_eq _ (by omega) (by omega)]; omega
          have hqd : (((k + i : Nat) : Int)).tdiv 8 = (q : Int) := by rw [← hq]; rfl
          have hrd : (((k + i : Nat) : Int)).tmod 8 = (r : Int) := by rw [← hr]; rfl
          rw [hq] at c1 f1 HT hidx
          rw [hr] at HT
          obtain ⟨V, hV⟩ : ∃ V, y ^^^ 2 ^ r = V := ⟨_, rfl⟩
          obtain ⟨M, hM⟩ : ∃ M, 2 ^ r = M := ⟨_, rfl⟩
          rw [hM] at hx hsh HT
          rw [hM] at hV
          rw [hV] at hx HT
          have hxv : (V : Int) = bits .xor .u8 (y : Int) ((2 : Int) ^ r % 256) := by
            have e1 : ((2 : Int) ^ r % 256) = (M : Int) := by
              have e2 : ((2 : Int) ^ r) = ((2 ^ r : Nat) : Int) := by simp
              rw [e2, hM]
              have : M < 256 := by rw [← hM]; exact Nat.lt_of_lt_of_le (Nat.pow_lt_pow_right (by decide) hr8) (by decide)
              omega
            rw [e1, hx]
          rw [hxv] at HT
          obtain ⟨s, hs⟩ : ∃ s, k + i = s := ⟨_, rfl⟩
          rw [hs] at hw1 hqd hrd
          have hsum : (k : Int) + (i : Int) = (s : Int) := by omega
          have i0 : 0 ≤ (q : Int) := by omega
          have i1 : (q : Int) < 256 := by omega
          have rt : ((r : Int)).toNat = r := by omega
          have r0 : 0 ≤ (r : Int) := by omega
          have r8 : (r : Int) ≤ 8 := by omega
          have hwr : IntKind.i64.wrap (r : Int) = (r : Int) := wrapI_eq _ (by omega) (by omega)
          have hwq : IntKind.i64.wrap (q : Int) = (q : Int) := wrapI_eq _ (by omega) (by omega)
          have HD := hide hD
          have HY := hide (And.intro hYa (And.intro hYB hYs))
          have HYL := hide hYl
          have HID := hide hidx
          have HIJ := hide (And.intro hi hi32)
          clear hYa hYB hYe hYb hyb hy hq hr hV hM hs hD hidx hYl hYs hxv hx hsh
          rw [hsum] at hw1
          go_wp2
          go_still_tail 19, (by kernel_rfl)
          change wpList _ _ _ _ _ wo.drew
          go_wp2
          go_roundw
          case rel =>
            exact ⟨i + 1, Y.set q _, by omega, by go_num, (unhide HT).1, by rw [List.length_set]; exact unhide HYL, (unhide HT).2, ((unhide HY).1.set0 q (unhide HID) _).drew, ((unhide HY).2.1.setCell (by simp; omega) _).drew, by simpa using (unhide HY).2.2⟩
          case measure => simp [intOf]; omega
        · have hbit0 : D % 2 = 0 := by omega
          rw [hbit0] at ha
          have HR := hide (And.intro hYb (And.intro hYl (And.intro (show leN (nats Y) = leN (nats L) ^^^ (2 ^ k * ((1 + pp) % 2 ^ (i + 1))) by rw [mod_succ_no _ _ (by rw [hD]; exact hbit0)]; exact hYe) (And.intro hYa (And.intro hYB hYs)))))
          clear hYa hYB hYe hYb hD hYl hYs
          go_wp2
          go_roundw
          case rel => exact ⟨i + 1, Y, by omega, by go_num, unhide HR⟩
          case measure => simp [intOf]; omega
      · have hi' : i = 32 := by omega
        subst hi'
        have h232 : (2 : Nat) ^ 32 = 4294967296 := by decide
        have hmod : (1 + pp) % 2 ^ 32 = 1 + pp := Nat.mod_eq_of_lt (by omega)
        clear h232
        rw [hmod] at hYe
        have hbad := unhide HTB Y hYb hYl hYe
        have hYsz : (strOfNums Y).size = 256 := by rw [← nums_len, nums_strOfNums Y hYb, hYl]
        have HPN := hide (fun W (hW : ETy W) => parse_no (strOfNums Y) (by omega) hbad W hW)
        have hcv := run_convert_bytes_arg (P := Tryd.prog) wo 51 5 Tryd.underlying51 Tryd.underlying5 x3.heap.size 0 256 cap Y hYl (fun j hj => hYa.get j (by omega)) 9 Tryd.underlying9
        have HYB := hide hYB
        clear hbad hYe hYa hYb hYsz hYB hmod
        go_wp2_with fail
        refine (unhide HPN _ ((unhide HG).below (unhide HYB) (unhide HG).lt)).mono ?_
        rintro ev x7 ⟨rfl, hB7⟩
        obtain ⟨zc, hzc, hmk⟩ := make256
        have B7 := hide (show Below w.heap.size w (x7.alloc (Obj.cells #[.int .i64 0, .int .i64 0, .string ⟨#[]⟩] 46)) from ((unhide HYB).trans (hB7.mono (by omega))).alloc (by have := hB7.size; omega) _)
        have hl7 : w.heap.size < x7.heap.size := by have := hB7.size; omega
        have Q7 := hide (Blk.new x7 46 #[.int .i64 0, .int .i64 0, .string ⟨#[]⟩])
        have AZ := hide (arr_new (x7.alloc (Obj.cells #[.int .i64 0, .int .i64 0, .string ⟨#[]⟩] 46)) .u8 (List.replicate 256 0) 5 zc hzc)
        have hcz := run_convert_bytes_arg (P := Tryd.prog) ((x7.alloc (Obj.cells #[.int .i64 0, .int .i64 0, .string ⟨#[]⟩] 46)).alloc (Obj.cells zc 5)) 51 5 Tryd.underlying51 Tryd.underlying5 (x7.alloc (Obj.cells #[.int .i64 0, .int .i64 0, .string ⟨#[]⟩] 46)).heap.size 0 256 256 (List.replicate 256 0) (by simp) (fun j hj => (unhide AZ).get j (by simpa using hj)) 9 Tryd.underlying9
        have HPZ := hide (fun W (hW : ETy W) => parse_no (strOfNums (List.replicate 256 0)) (by rw [← nums_len, nums_strOfNums _ (zeros_byte 256)]; simp) zeros_bad W hW)
        rw [show (x7.alloc (Obj.cells #[.int .i64 0, .int .i64 0, .string ⟨#[]⟩] 46)).heap.size = x7.heap.size + 1 by simp] at hcz
        obtain ⟨ZS, hZS⟩ : ∃ Z, strOfNums (List.replicate 256 0) = Z := ⟨_, rfl⟩
        rw [hZS] at hcz HPZ
        clear hB7 HPN hcv hzc hZS
        have hgz : ETy ((x7.alloc (Obj.cells #[.int .i64 0, .int .i64 0, .string ⟨#[]⟩] 46)).alloc (Obj.cells zc 5)) := (unhide HG).below ((unhide B7).alloc (by simp; omega) _) (unhide HG).lt
        have HGZ := hide hgz
        clear hgz
        go_wp2_with fail
        refine (unhide HPZ _ (unhide HGZ)).mono ?_
        rintro ev x8 ⟨rfl, hB8⟩
        have z7 := ((unhide Q7).alloc (Obj.cells zc 5)).below hB8 (by simp; omega)
        have a0 : x8.cell? ⟨x7.heap.size, 0, none⟩ = some (.int .i64 0) := by rw [z7.cell 0]; rfl
        have a1 : x8.cell? ⟨x7.heap.size, 1, none⟩ = some (.int .i64 0) := by rw [z7.cell 1]; rfl
        have a2 : x8.cell? ⟨x7.heap.size, 2, none⟩ = some (.string ⟨#[]⟩) := by rw [z7.cell 2]; rfl
        have hl8 : x7.heap.size < x8.heap.size := z7.lt
        have B8 := hide (show Below w.heap.size w x8 from ((unhide B7).alloc (by simp; omega) _).trans (hB8.mono (by simp; omega)))
        clear z7 hB8 hcz hmk HPZ HGZ B7 Q7 AZ
        go_wp2_with fail
        refine (unhide HSZ _).mono ?_
        rintro ev x9 ⟨rfl, hB9⟩
        have z8 := (Blk.new x8 46 #[.int .i64 0, .int .i64 0, .string ⟨#[]⟩]).below hB9 (by simp)
        have d0 : x9.cell? ⟨x8.heap.size, 0, none⟩ = some (.int .i64 0) := by rw [z8.cell 0]; rfl
        have d1 : x9.cell? ⟨x8.heap.size, 1, none⟩ = some (.int .i64 0) := by rw [z8.cell 1]; rfl
        have d2 : x9.cell? ⟨x8.heap.size, 2, none⟩ = some (.string ⟨#[]⟩) := by rw [z8.cell 2]; rfl
        have hl9 : x8.heap.size < x9.heap.size := z8.lt
        have B9 := hide (show Below w.heap.size w x9 from ((unhide B8).alloc (by omega) _).trans (hB9.mono (by simp; omega)))
        clear z8 hB9 B8
        go_wp2_with fail
        refine (unhide HSZ _).mono ?_
        rintro ev x10 ⟨rfl, hB10⟩
        have B10 := hide (show Below w.heap.size w x10 from (unhide B9).trans (hB10.mono (by omega)))
        clear hB10 B9
        go_wp2
        go_ret
        exact ⟨rfl, unhide B10⟩
end Go.Proofs.YtkmgbicacbalfabDoor
