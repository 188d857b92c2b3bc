import Derived.Test.YtpjoibolhkgkhaaGreatDoorBas
import Derived.Test.YtpjoibolhkgkhaaGreatDoorXgc
import Derived.Test.YtpjoibolhkgkhaaGreatDoorRdp
import Derived.StillTailTactics
import Derived.Test.YtpjoibolhkgkhaaGreatDoorXgb
namespace Go.Proofs.YtpjoibolhkgkhaaGreatDoor
open Go.RowKit
def pickP (c : Int) (n : Nat) : Nat := ((if c < 0 then -(c + 1) else c) % (n : Int)).toNat
theorem pickP_lt (c : Int) (n : Nat) (hn : 0 < n) : pickP c n < n := by
  have h1 := Int.emod_nonneg (if c < 0 then -(c + 1) else c) (show (n : Int) ≠ 0 by omega)
  have h2 := Int.emod_lt_of_pos (if c < 0 then -(c + 1) else c) (show 0 < (n : Int) by omega)
  unfold pickP
  omega
set_option maxHeartbeats 400000 in
theorem pick12_any (c : Int) (n : Nat) (hn : 0 < n) (hc : I64 c) (N : Int) (hN : N = (n : Int)) (w : World) :
    Calls Tryz.prog 9 #[.int .i64 c, .int .i64 N] w fun e w' => e = .returned (.int .i64 (pickP c n : Int)) ∧ w' = w := by
  subst hN
  obtain ⟨hc1, hc2⟩ := hc
  have hz : ((n : Int) == 0) = false := by simp; omega
  by_cases h : c < 0
  · have e1 : (-(c + 1)).tmod (n : Int) = (-(c + 1)) % (n : Int) := Int.tmod_eq_emod_of_nonneg (by omega)
    have hp : 0 ≤ (-(c + 1)) % (n : Int) := Int.emod_nonneg _ (by omega)
    have hl : (-(c + 1)) % (n : Int) < (n : Int) := Int.emod_lt_of_pos _ (by omega)
    have HP := hide (show (pickP c n : Int) = (-(c + 1)) % (n : Int) by rw [pickP, if_pos h]; omega)
    go_enter Tryz.func9, Tryz.ntmps9
    go_wp2
    go_ret
    exact ⟨by rw [unhide HP]; rfl, rfl⟩
  · have e1 : c.tmod (n : Int) = c % (n : Int) := Int.tmod_eq_emod_of_nonneg (by omega)
    have hp : 0 ≤ c % (n : Int) := Int.emod_nonneg _ (by omega)
    have hl : c % (n : Int) < (n : Int) := Int.emod_lt_of_pos _ (by omega)
    have HP := hide (show (pickP c n : Int) = c % (n : Int) by rw [pickP, if_neg h]; omega)
    go_enter Tryz.func9, Tryz.ntmps9
    go_wp2
    go_ret
    exact ⟨by rw [unhide HP]; rfl, rfl⟩
end Go.Proofs.YtpjoibolhkgkhaaGreatDoor
namespace Go.Proofs.YtpjoibolhkgkhaaGreatDoor
open Go.RowKit
theorem mul_xor (k a b : Nat) : 2 ^ k * (a ^^^ b) = (2 ^ k * a) ^^^ (2 ^ k * b) := by
  apply Nat.eq_of_testBit_eq
  intro i
  rw [Nat.testBit_xor, Nat.testBit_two_pow_mul, Nat.testBit_two_pow_mul, Nat.testBit_two_pow_mul, Nat.testBit_xor]
  by_cases h : k ≤ i <;> simp [h]
theorem mod_succ_bit (p i : Nat) (h : p / 2 ^ i % 2 = 1) : p % 2 ^ (i + 1) = (p % 2 ^ i) ^^^ 2 ^ i := by
  apply Nat.eq_of_testBit_eq
  intro j
  have hb : p.testBit i = true := by rw [Nat.testBit_eq_decide_div_mod_eq, decide_eq_true h]
  rw [Nat.testBit_xor, Nat.testBit_mod_two_pow, Nat.testBit_mod_two_pow, Nat.testBit_two_pow]
  by_cases h1 : j = i
  · subst h1
    simp [hb]
  · by_cases h2 : j < i
    · simp [h2, show j < i + 1 by omega, show ¬ i = j by omega]
    · simp [h2, show ¬ j < i + 1 by omega, show ¬ i = j by omega]
theorem mod_succ_no (p i : Nat) (h : p / 2 ^ i % 2 = 0) : p % 2 ^ (i + 1) = p % 2 ^ i := by
  rw [Nat.pow_succ, Nat.mod_mul, h]
  simp
theorem leN_set (l : List Nat) (hl : ∀ x ∈ l, x < 256) (q r : Nat) (hq : q < l.length) (hr : r < 8) : leN (l.set q (l.getD q 0 ^^^ 2 ^ r)) = leN l ^^^ 2 ^ (8 * q + r) := by
  induction l generalizing q with
  | nil => simp at hq
  | cons b l ih =>
    have hb : b < 256 := hl b (by simp)
    have hr2 : 2 ^ r < 256 := Nat.lt_of_lt_of_le (Nat.pow_lt_pow_right (by decide) hr) (by decide)
    cases q with
    | zero =>
      have hx : b ^^^ 2 ^ r < 256 := Nat.xor_lt_two_pow (n := 8) hb hr2
      show leN ((b ^^^ 2 ^ r) :: l) = leN (b :: l) ^^^ 2 ^ (8 * 0 + r)
      rw [leN, leN, add_xor _ _ hx, add_xor _ _ hb, Nat.mul_zero, Nat.zero_add, Nat.xor_assoc, Nat.xor_assoc, Nat.xor_comm (2 ^ r)]
    | succ q =>
      show leN (b :: l.set q (l.getD q 0 ^^^ 2 ^ r)) = leN (b :: l) ^^^ 2 ^ (8 * (q + 1) + r)
      rw [leN, leN, ih (fun x hx => hl x (by simp [hx])) q (by simpa using hq), add_xor _ _ hb, add_xor _ _ hb, Nat.xor_assoc]
      congr 1
      have := mul_xor 8 (leN l) (2 ^ (8 * q + r))
      rw [show (256 : Nat) = 2 ^ 8 from rfl, this, ← Nat.pow_add, show 8 + (8 * q + r) = 8 * (q + 1) + r by omega]
/-- The bytes behind a page, as numbers. -/
theorem le4_val (c : Nat) (h : c ≤ 4294967295) : leN (nats (le4 c)) = c := by
  simp only [nats, le4, List.map_cons, List.map_nil, Int.toNat_natCast, leN]
  omega
theorem nats_set (l : List Int) (q : Nat) (v : Int) : nats (l.set q v) = (nats l).set q v.toNat := by simp [nats, List.map_set]
theorem nats_getD (l : List Int) (q : Nat) : (nats l).getD q 0 = (l.getD q 0).toNat := by
  rw [List.getD_eq_getElem?_getD, List.getD_eq_getElem?_getD, nats, List.getElem?_map]
  cases l[q]? <;> rfl
/-- One bit more is turned. -/
theorem turn_step (X Y : List Int) (hY : Bytes Y) (k p i : Nat) (hl : k + i < 8 * Y.length) (h : leN (nats Y) = leN (nats X) ^^^ (2 ^ k * (p % 2 ^ i))) (hb : p / 2 ^ i % 2 = 1) (v : Int)
    (hv : v = (((Y.getD ((k + i) / 8) 0).toNat ^^^ 2 ^ ((k + i) % 8) : Nat) : Int)) : Bytes (Y.set ((k + i) / 8) v) ∧ leN (nats (Y.set ((k + i) / 8) v)) = leN (nats X) ^^^ (2 ^ k * (p % 2 ^ (i + 1))) := by
  have hq := hY ((k + i) / 8)
  have hr2 : 2 ^ ((k + i) % 8) < 256 := Nat.lt_of_lt_of_le (Nat.pow_lt_pow_right (by decide) (show (k + i) % 8 < 8 by omega)) (by decide)
  have hx : (Y.getD ((k + i) / 8) 0).toNat ^^^ 2 ^ ((k + i) % 8) < 256 := Nat.xor_lt_two_pow (n := 8) (by omega) hr2
  refine ⟨Bytes.of_mem (fun x hx2 => ?_), ?_⟩
  · rcases List.mem_or_eq_of_mem_set hx2 with h1 | h1
    · exact hY.mem h1
    · rw [h1, hv]
      omega
  · rw [nats_set, hv, Int.toNat_natCast, ← nats_getD, leN_set (nats Y) (nats_lt _ hY) ((k + i) / 8) ((k + i) % 8) (by simp [nats]; omega) (by omega), h, mod_succ_bit p i hb, mul_xor, ← Nat.xor_assoc, ← Nat.pow_add]
    congr 2
    omega
theorem u8_shl (r : Nat) (h : r < 8) : IntKind.u8.wrap (1 * 2 ^ r) = ((2 ^ r : Nat) : Int) := by
  have hr2 : 2 ^ r < 256 := Nat.lt_of_lt_of_le (Nat.pow_lt_pow_right (by decide) h) (by decide)
  rw [IntKind.wrap_u8', Int.one_mul]
  have e : ((2 : Int) ^ r) = ((2 ^ r : Nat) : Int) := by simp
  rw [e]
  generalize 2 ^ r = M at *
  omega
theorem i64_and1 (c : Nat) (h : c < 9223372036854775808) : bits .and .i64 (c : Int) 1 = ((c % 2 : Nat) : Int) := by
  have hx : c &&& 1 = c % 2 := Nat.and_one_is_mod c
  have h1 : (BitVec.ofInt 64 (c : Int)).toNat = c := by
    rw [BitVec.ofInt_natCast, BitVec.toNat_ofNat]; exact Nat.mod_eq_of_lt (by omega)
  have h2 : (BitVec.ofInt 64 (1 : Int)).toNat = 1 := by decide
  show IntKind.i64.wrap ((BitVec.ofInt 64 (c : Int) &&& BitVec.ofInt 64 (1 : Int)).toNat : Int) = _
  rw [BitVec.toNat_and, h1, h2, hx, IntKind.wrap_i64]
  omega

theorem crc_frame (A E : List Int) (hA : Bytes A) (hE : Bytes E) : crcR 4294967295 (nats (A ++ (E ++ le4 (chkN (A ++ E))))) = iter 32 4294967295 := by
  have e : nats (A ++ (E ++ le4 (chkN (A ++ E)))) = nats (A ++ E) ++ nats (le4 (chkN (A ++ E))) := by simp [nats]
  rw [e]
  have hc := chkN_lt (A ++ E)
  refine checked _ _ (nats_lt _ (le4_bytes _ hc)) rfl ?_
  have hlt := crcR_lt (nats (A ++ E)) (nats_lt _ (hA.app hE)) 4294967295 (by omega)
  rw [le4_val _ hc, xor_all _ hlt]
  rfl
/-- two frames with right checks are not a burst apart -/
theorem frame_bad (A X Y E E' : List Int) (hA : Bytes A) (hE : Bytes E) (hE' : Bytes E') (hl : Y.length = X.length) (eX : X = E ++ le4 (chkN (A ++ E))) (eY : Y = E' ++ le4 (chkN (A ++ E'))) (k p : Nat) (hk : k ≤ 8 * X.length) (hp : p ≠ 0) (hp' : p < 4294967296) (h : leN (nats Y) = leN (nats X) ^^^ (2 ^ k * p)) : False := by
  have h1 := crc_frame A E hA hE
  have h2 := crc_frame A E' hA hE'
  have hX : Bytes X := by rw [eX]; exact hE.app (le4_bytes _ (chkN_lt _))
  have hY : Bytes Y := by rw [eY]; exact hE'.app (le4_bytes _ (chkN_lt _))
  rw [← eX] at h1
  rw [← eY] at h2
  have e : ∀ l, crcR 4294967295 (nats (A ++ l)) = crcR (crcR 4294967295 (nats A)) (nats l) := fun l => by simp [nats, crcR, List.foldl_append]
  rw [e] at h1 h2
  exact no_burst (nats X) (nats Y) _ p k (nats_lt _ hX) (nats_lt _ hY) (by simp [nats, hl]) (by simpa [nats] using hk) hp hp' h (h2.trans h1.symm)
theorem ckB_form (ah s : ByteArray) (h : ckB ah s = true) : nums s = (nums s).take (s.size - 4) ++ le4 (chkN (nums ah ++ (nums s).take (s.size - 4))) := by
  have h1 : strOfNums (le4 (chkN (nums (ah ++ s.extract 0 (s.size - 4))))) = s.extract (s.size - 4) s.size := by
    have := eq_of_beq (show ((strOfNums (le4 (chkN (nums (ah ++ s.extract 0 (s.size - 4)))))).toList == (s.extract (s.size - 4) s.size).toList) = true from h)
    rw [ByteArray.toList_eq, ByteArray.toList_eq] at this
    exact Go.WideShapes.bytes_inj this
  have h2 := congrArg nums h1
  rw [nums_strOfNums _ (le4_bytes _ (chkN_lt _)), nums_tail, nums_app, nums_extract, List.drop_zero] at h2
  rw [h2, List.take_append_drop]
theorem Bytes.take {l : List Int} (h : Bytes l) (n : Nat) : Bytes (l.take n) := Bytes.of_mem (fun _ hx => h.mem (List.mem_of_mem_take hx))
/-- a frame with bits turned has no right check -/
theorem burst_bad (ah s t : ByteArray) (E : List Int) (hE : Bytes E) (hs : nums s = E ++ le4 (chkN (nums ah ++ E))) (hl : t.size = s.size) (k p : Nat) (hk : k ≤ 8 * s.size) (hp : p ≠ 0) (hp' : p < 4294967296) (h : leN (nats (nums t)) = leN (nats (nums s)) ^^^ (2 ^ k * p)) : ckB ah t = false := by
  cases hc : ckB ah t with
  | false => rfl
  | true => exact (frame_bad (nums ah) (nums s) (nums t) E _ (nums_bytes _) hE ((nums_bytes t).take _) (by rw [nums_len, nums_len, hl]) hs (ckB_form ah t hc) k p (by rw [nums_len]; exact hk) hp hp' h).elim
end Go.Proofs.YtpjoibolhkgkhaaGreatDoor
namespace Go.Proofs.YtpjoibolhkgkhaaGreatDoor
open Go.RowKit
set_option maxRecDepth 100000
set_option maxHeartbeats 8000000 in
theorem turned12_any (s : ByteArray) (n : Nat) (hn : s.size = n) (h5 : 5 ≤ n) (h9 : n ≤ 100000) (at0 pat0 : Int) (hat : I64 at0) (hpat : I64 pat0) (w : World) :
    Calls Tryz.prog 14 #[.string s, .int .i64 at0, .int .i64 pat0] w fun e w' => (∃ t k p, e = .returned (.string t) ∧ t.size = n ∧ k ≤ 8 * n ∧ p ≠ 0 ∧ p < 4294967296 ∧ leN (nats (nums t)) = leN (nats (nums s)) ^^^ (2 ^ k * p)) ∧ Below w.heap.size w w' := by
  have HP3 := hide (fun W => pick12_any at0 (8 * n - 31) (by omega) hat ((8 * n - 31 : Nat) : Int) rfl W)
  have HP4 := hide (fun W => pick12_any pat0 4294967295 (by decide) hpat 4294967295 rfl W)
  have l3 := pickP_lt at0 (8 * n - 31) (by omega)
  have l4 := pickP_lt pat0 4294967295 (by decide)
  generalize pickP at0 (8 * n - 31) = k at *
  generalize pickP pat0 4294967295 = pp at *
  clear hat hpat
  obtain ⟨cap, x4, hrun, hBs, hbel⟩ := Bsl.of_string w s (by omega)
  rw [hn] at hrun
  obtain ⟨gb, hgb⟩ : ∃ g, w.heap.size = g := ⟨_, rfl⟩
  have HNU := hide (show (nums s).length = n from by rw [nums_len, hn])
  have HA0 := hide (show Arr x4 gb 0 .u8 (nums s) by have := hBs.2.2.2.2.1; rwa [hgb] at this)
  have hl4 : gb < x4.heap.size := by have := hBs.2.1; omega
  have HB4 := hide (show Below gb w x4 by rw [← hgb]; exact hbel)
  rw [hgb] at hrun ⊢
  have w1 : IntKind.i64.wrap (8 * (n : Int)) = 8 * (n : Int) := wrapI_eq _ (by omega) (by omega)
  have w2 : IntKind.i64.wrap (8 * (n : Int) - 31) = ((8 * n - 31 : Nat) : Int) := by rw [wrapI_eq _ (by omega) (by omega)]; omega
  clear hBs hbel
  go_enter Tryz.func14, Tryz.ntmps14
  go_wp2_with fail
  refine (unhide HP3 _).mono ?_
  rintro ev x5 ⟨rfl, rfl⟩
  go_wp2_with fail
  refine (unhide HP4 _).mono ?_
  rintro ev x6 ⟨rfl, rfl⟩
  clear HP3 HP4 hrun w1 w2
  go_wp2
  go_loopw [9] (fun u wr => ∃ (i : Nat) (Y : List Int), i ≤ 32 ∧ u = .int .i64 (i : Int) ∧ Bytes Y ∧ Y.length = n ∧ leN (nats Y) = leN (nats (nums s)) ^^^ (2 ^ k * ((1 + pp) % 2 ^ i)) ∧ Arr wr gb 0 .u8 Y ∧ Below gb w wr ∧ gb < wr.heap.size) (fun u _ => 32 - (intOf u).toNat)
  case atStart =>
    exact ⟨0, nums s, by omega, rfl, nums_bytes s, unhide HNU, by rw [Nat.pow_zero, Nat.mod_one, Nat.mul_zero, Nat.xor_zero], unhide HA0, unhide HB4, hl4⟩
  case round =>
    obtain ⟨i, Y, hi, rfl, hYb, hYl, hYe, hYa, hYB, hYs⟩ := hrel
    obtain ⟨wo, rfl⟩ : ∃ wo, wo = wr := ⟨_, rfl⟩
    clear HA0 HB4
    by_cases hi32 : i < 32
    · have hd : ((1 : Int) + (pp : Int)) / 2 ^ i = (((1 + pp) / 2 ^ i : Nat) : Int) := by
        have e1 : ((1 : Int) + (pp : Int)) = ((1 + pp : Nat) : Int) := by omega
        have e2 : ((2 : Int) ^ i) = ((2 ^ i : Nat) : Int) := by simp
        rw [e1, e2, ← Int.natCast_ediv]
      obtain ⟨D, hD⟩ : ∃ D, (1 + pp) / 2 ^ i = D := ⟨_, rfl⟩
      have hDl : D < 4294967296 := by rw [← hD]; exact Nat.lt_of_le_of_lt (Nat.div_le_self _ _) (by omega)
      rw [hD] at hd
      have ha : bits .and .i64 (D : Int) 1 = ((D % 2 : Nat) : Int) := i64_and1 D (by omega)
      have hit : ((i : Int)).toNat = i := by omega
      by_cases hbit : D % 2 = 1
      · rw [hbit] at ha
        have hidx : (k + i) / 8 < Y.length := by rw [hYl]; omega
        have c1 := hYa.get0 ((k + i) / 8) hidx
        have f1 := hYa.free0 ((k + i) / 8) hidx
        have hyb := hYb ((k + i) / 8)
        obtain ⟨y, hy⟩ := Int.eq_ofNat_of_zero_le hyb.1
        have HT := hide (turn_step (nums s) Y hYb k (1 + pp) i (by rw [hYl]; omega) hYe (by rw [hD]; exact hbit) _ rfl)
        rw [hy, Int.toNat_natCast] at HT
        rw [hy] at c1
        obtain ⟨q, hq⟩ : ∃ q, (k + i) / 8 = q := ⟨_, rfl⟩
        obtain ⟨r, hr⟩ : ∃ r, (k + i) % 8 = r := ⟨_, rfl⟩
        have hr8 : r < 8 := by omega
        have hq256 : q < n := by omega
        have hx := u8_xor_nat y (2 ^ r) (by omega) (Nat.lt_of_lt_of_le (Nat.pow_lt_pow_right (by decide) hr8) (by decide))
        have hsh := u8_shl r hr8
        have hw1 : IntKind.i64.wrap ((k : Int) + (i : Int)) = ((k + i : Nat) : Int) := by rw [wrapI_eq _ (by omega) (by omega)]; omega
        have hqd : (((k + i : Nat) : Int)).tdiv 8 = (q : Int) := by rw [← hq]; rfl
        have hrd : (((k + i : Nat) : Int)).tmod 8 = (r : Int) := by rw [← hr]; rfl
        rw [hq] at c1 f1 HT hidx
        rw [hr] at HT
        obtain ⟨V, hV⟩ : ∃ V, y ^^^ 2 ^ r = V := ⟨_, rfl⟩
        obtain ⟨M, hM⟩ : ∃ M, 2 ^ r = M := ⟨_, rfl⟩
        rw [hM] at hx hsh HT
        rw [hM] at hV
        rw [hV] at hx HT
        have hxv : (V : Int) = bits .xor .u8 (y : Int) ((2 : Int) ^ r % 256) := by
          have e1 : ((2 : Int) ^ r % 256) = (M : Int) := by
            have e2 : ((2 : Int) ^ r) = ((2 ^ r : Nat) : Int) := by simp
            rw [e2, hM]
            have : M < 256 := by rw [← hM]; exact Nat.lt_of_lt_of_le (Nat.pow_lt_pow_right (by decide) hr8) (by decide)
            omega
          rw [e1, hx]
        rw [hxv] at HT
        obtain ⟨s, hs⟩ : ∃ s, k + i = s := ⟨_, rfl⟩
        rw [hs] at hw1 hqd hrd
        have hsum : (k : Int) + (i : Int) = (s : Int) := by omega
        have i0 : 0 ≤ (q : Int) := by omega
        have i1 : (q : Int) < (n : Int) := by omega
        have rt : ((r : Int)).toNat = r := by omega
        have r0 : 0 ≤ (r : Int) := by omega
        have r8 : (r : Int) ≤ 8 := by omega
        have hwr : IntKind.i64.wrap (r : Int) = (r : Int) := wrapI_eq _ (by omega) (by omega)
        have hwq : IntKind.i64.wrap (q : Int) = (q : Int) := wrapI_eq _ (by omega) (by omega)
        have HD := hide hD
        have HY := hide (And.intro hYa (And.intro hYB hYs))
        have HYL := hide hYl
        have HID := hide hidx
        have HIJ := hide (And.intro hi hi32)
        clear hYa hYB hYe hYb hyb hy hq hr hV hM hs hD hidx hYl hYs hxv hx hsh
        rw [hsum] at hw1
        go_wp2
        go_still_tail 19, (by kernel_rfl)
        change wpList _ _ _ _ _ wo.drew
        go_wp2
        go_roundw
        case rel =>
          exact ⟨i + 1, Y.set q _, by omega, by go_num, (unhide HT).1, by rw [List.length_set]; exact unhide HYL, (unhide HT).2, ((unhide HY).1.set0 q (unhide HID) _).drew, ((unhide HY).2.1.setCell (by simp) _).drew, by simpa using (unhide HY).2.2⟩
        case measure => simp [intOf]; omega
      · have hbit0 : D % 2 = 0 := by omega
        rw [hbit0] at ha
        have HR := hide (And.intro hYb (And.intro hYl (And.intro (show leN (nats Y) = leN (nats (nums s)) ^^^ (2 ^ k * ((1 + pp) % 2 ^ (i + 1))) by rw [mod_succ_no _ _ (by rw [hD]; exact hbit0)]; exact hYe) (And.intro hYa (And.intro hYB hYs)))))
        clear hYa hYB hYe hYb hD hYl hYs
        go_wp2
        go_roundw
        case rel => exact ⟨i + 1, Y, by omega, by go_num, unhide HR⟩
        case measure => simp [intOf]; omega
    · have hi' : i = 32 := by omega
      subst hi'
      have hmod : (1 + pp) % 2 ^ 32 = 1 + pp := Nat.mod_eq_of_lt (by omega)
      rw [hmod] at hYe
      have hYsz : (strOfNums Y).size = n := by rw [← nums_len, nums_strOfNums Y hYb, hYl]
      have HE := hide (show ∃ t k p, (Ending.returned (.string (strOfNums Y)) : Ending) = .returned (.string t) ∧ t.size = n ∧ k ≤ 8 * n ∧ p ≠ 0 ∧ p < 4294967296 ∧ leN (nats (nums t)) = leN (nats (nums s)) ^^^ (2 ^ k * p) from ⟨_, k, 1 + pp, rfl, hYsz, by omega, by omega, by omega, by rw [nums_strOfNums Y hYb]; exact hYe⟩)
      have hcv := run_convert_bytes_arg (P := Tryz.prog) wo 61 5 Tryz.underlying61 Tryz.underlying5 gb 0 n cap Y hYl (fun j hj => hYa.get j (by omega)) 9 Tryz.underlying9
      have HYB := hide hYB
      obtain ⟨S, hS⟩ : ∃ S, strOfNums Y = S := ⟨_, rfl⟩
      rw [hS] at HE hcv
      clear hYe hYa hYb hYsz hYB hmod hS
      go_wp2
      go_ret
      exact ⟨unhide HE, unhide HYB⟩
def szV : Value → Nat
  | .string s => s.size
  | _ => 0
set_option maxHeartbeats 2000000 in
theorem sized12_any (s : ByteArray) (hs : s.size ≤ 140737488351232) (n : Nat) (hn : n ≤ 256) (K : Int) (hK : K = (n : Int)) (w : World) :
    Calls Tryz.prog 33 #[.string s, .int .i64 K] w fun e w' => (∃ t, e = .returned (.string t) ∧ t.size = n) ∧ w' = w := by
  subst hK
  have a1 : ¬ 9223372036854775807 < s.size + 1 := by omega
  have hS1 : (s ++ ⟨#[1]⟩).size = s.size + 1 := by rw [ByteArray.size_append]; rfl
  have HS1 := hide hS1
  clear hS1
  go_enter Tryz.func33, Tryz.ntmps33
  go_wp2
  go_loopw [0] (fun v wr => ∃ S : ByteArray, v = .string S ∧ 1 ≤ S.size ∧ S.size ≤ 140737488355328 ∧ wr = w) (fun v _ => n - szV v)
  case atStart => exact ⟨_, rfl, by rw [unhide HS1]; omega, by rw [unhide HS1]; omega, rfl⟩
  case round =>
    obtain ⟨S, rfl, h1, h2, hw⟩ := hrel
    subst hw
    by_cases hlt : S.size < n
    · have i1 : (S.size : Int) < (n : Int) := by omega
      have a2 : ¬ 9223372036854775807 < S.size + S.size := by omega
      have HS2 := hide (show (S ++ S).size = S.size + S.size from ByteArray.size_append ..)
      go_wp2
      go_roundw
      case rel => exact ⟨_, rfl, by rw [unhide HS2]; omega, by rw [unhide HS2]; omega, by first | rfl | trivial⟩
      case measure => simp only [szV, unhide HS2]; omega
    · have i1 : ¬ ((S.size : Int) < (n : Int)) := by omega
      have i2 : (n : Int) ≤ (S.size : Int) := by omega
      have i3 : 0 ≤ (n : Int) := by omega
      have HEX := hide (show (S.extract 0 n).size = n from by simp; omega)
      go_wp2
      go_ret
      exact ⟨⟨_, rfl, by simpa using unhide HEX⟩, rfl⟩
end Go.Proofs.YtpjoibolhkgkhaaGreatDoor
namespace Go.Proofs.YtpjoibolhkgkhaaGreatDoor
open Go.RowKit
set_option maxRecDepth 100000
/-- a request that may be -/
def GoodQ (K : Int) (r : Req) : Prop := r.kd = K ∧ lqB r = true
theorem layQ_ok {f : Fld} {fs : List Fld} {r : Req} (h : okF f (exq f r Prt.nil).2 = true) : layQ (f :: fs) r = (layQ fs (exq f r Prt.nil).1).map (fun x => (x.1, byF f (exq f r Prt.nil).2 ++ x.2)) := by rw [layQ, if_pos h]
theorem eqQ_self (r : Req) : eqQ r r = true := by simp [eqQ]
set_option maxHeartbeats 4000000 in
theorem rq12_1 (kind a b : Int) (hk : I64 kind) (hq : pickP kind 12 = 0) (ha : I64 a) (hb : I64 b) (s : ByteArray) (hs : s.size ≤ 140737488351232) (w : World) :
    Calls Tryz.prog 11 #[.int .i64 kind, .int .i64 a, .int .i64 b, .string s] w fun e w' => (∃ r : Req, e = .returned (.agg r.cs) ∧ GoodQ 1 r) ∧ Below w.heap.size w w' := by
  have HU := hide (And.intro ha (And.intro hb hs))
  clear HU
  have hpk := fun W => pick12_any kind 12 (by decide) hk 12 rfl W
  simp only [hq, Int.cast_ofNat_Int] at hpk
  have HPK := hide hpk
  have HP0 := hide (fun W => pick12_any a 8 (by decide) ha 8 rfl W)
  have l0 := pickP_lt a 8 (by decide)
  generalize pickP a 8 = p0 at *
  have HP1 := hide (fun W => pick12_any b 65536 (by decide) hb 65536 rfl W)
  have l1 := pickP_lt b 65536 (by decide)
  generalize pickP b 65536 = p1 at *
  obtain ⟨B1, B2, hbl, hs2⟩ := two_boxes w #[.int .i64 0, .int .i64 0, .int .i64 0, .int .i64 0, .int .i64 0, .int .i64 0, .string ⟨#[]⟩, .string ⟨#[]⟩, .string ⟨#[]⟩, .string ⟨#[]⟩] #[.int .i64 0, .int .i64 0, .int .i64 0, .int .i64 0, .int .i64 0, .int .i64 0, .string ⟨#[]⟩, .string ⟨#[]⟩, .string ⟨#[]⟩, .string ⟨#[]⟩] 29 29
  obtain ⟨g, hg⟩ : ∃ g, w.heap.size = g := ⟨_, rfl⟩
  rw [hg] at B1 B2 hs2 hbl ⊢
  obtain ⟨y, hy⟩ : ∃ Z, (w.alloc (.cells #[.int .i64 0, .int .i64 0, .int .i64 0, .int .i64 0, .int .i64 0, .int .i64 0, .string ⟨#[]⟩, .string ⟨#[]⟩, .string ⟨#[]⟩, .string ⟨#[]⟩] 29)).alloc (.cells #[.int .i64 0, .int .i64 0, .int .i64 0, .int .i64 0, .int .i64 0, .int .i64 0, .string ⟨#[]⟩, .string ⟨#[]⟩, .string ⟨#[]⟩, .string ⟨#[]⟩] 29) = Z := ⟨_, rfl⟩
  rw [hy] at B1 B2 hbl hs2
  have C2 := blk_setRow (cells := (Req.bare 1).cs) B2
  have C1 : Blk (y.setRow (g + 1) (Req.bare 1).cs) g _ _ := blk_setRow_other B1 (by omega)
  have hO1 : Below g w (y.setRow (g + 1) (Req.bare 1).cs) := below_setRow hbl (by omega) _
  obtain ⟨y2, hy2⟩ : ∃ Z, y.setRow (g + 1) (Req.bare 1).cs = Z := ⟨_, rfl⟩
  have HZ0 := hide B2
  rw [hy2] at C1 C2 hO1
  have HY := hide (show Blk y2 g #[.int .i64 0, .int .i64 0, .int .i64 0, .int .i64 0, .int .i64 0, .int .i64 0, .string ⟨#[]⟩, .string ⟨#[]⟩, .string ⟨#[]⟩, .string ⟨#[]⟩] 29 ∧ Blk y2 (g + 1) (⟨1, 0, 0, 0, 0, 0, ⟨#[]⟩, ⟨#[]⟩, ⟨#[]⟩, ⟨#[]⟩⟩ : Req).cs 29 ∧ Below g w y2 from ⟨C1, C2, hO1⟩)
  have HB0 := hide (built_req 1)
  have HO0 := hide (Req.one (Req.bare 1))
  have c0 : y2.cell? ⟨g + 1, 0, none⟩ = some (.int .i64 1) := by rw [(unhide HY).2.1.cell]; rfl
  clear B1 B2 hbl hs2 C1 C2 hO1 hpk hk ha hb hs hq
  go_enter Tryz.func11, Tryz.ntmps11
  go_wp2_with fail
  refine (unhide HPK _).mono ?_
  rintro e x ⟨rfl, hx⟩
  subst x
  go_wp2_with (first | refine wpList_buildAs rfl 29 #[(0, .tmp 12)] rfl _ rfl (Req.bare 1).cs (unhide HB0) ?_ | refine wpList_store_row rfl 29 (.tmp 9) (.tmp 13) rfl (g + 1) (Req.bare 1).cs rfl rfl 29 #[.int .i64 0, .int .i64 0, .int .i64 0, .int .i64 0, .int .i64 0, .int .i64 0, .string ⟨#[]⟩, .string ⟨#[]⟩, .string ⟨#[]⟩, .string ⟨#[]⟩] (unhide HZ0) size_req rfl (unhide HO0) ?_)
  refine (unhide HP0 _).mono ?_
  rintro e x ⟨rfl, hx⟩
  subst x
  clear hy hy2
  have cf0 : y2.cell? ⟨g + 1, 1, none⟩ = some (.int .i64 0) := by rw [(unhide HY).2.1.cell]; rfl
  have ff0 : y2.frozen? ⟨g + 1, 1, none⟩ = false := (unhide HY).2.1.frozen 1
  obtain ⟨y3, hy3⟩ : ∃ Z, y2.setCell ⟨g + 1, 1, none⟩ (.int .i64 (1 + (p0 : Int))) = Z := ⟨_, rfl⟩
  have HY1 := hide (show Blk y3 g #[.int .i64 0, .int .i64 0, .int .i64 0, .int .i64 0, .int .i64 0, .int .i64 0, .string ⟨#[]⟩, .string ⟨#[]⟩, .string ⟨#[]⟩, .string ⟨#[]⟩] 29 ∧ Blk y3 (g + 1) (⟨1, 1 + (p0 : Int), 0, 0, 0, 0, ⟨#[]⟩, ⟨#[]⟩, ⟨#[]⟩, ⟨#[]⟩⟩ : Req).cs 29 ∧ Below g w y3 from by
    rw [← hy3]
    obtain ⟨q1, q2, q3⟩ := unhide HY
    exact ⟨q1.other _ _ (by show g + 1 ≠ g; omega), q2.set 1 (.int .i64 (1 + (p0 : Int))), q3.setCell (by show g ≤ g + 1; omega) _⟩)
  have c00 : y3.cell? ⟨g + 1, 0, none⟩ = some (.int .i64 1) := by rw [(unhide HY1).2.1.cell]; rfl
  have w0 : IntKind.i64.wrap (1 + (p0 : Int)) = 1 + (p0 : Int) := wrapI_eq _ (by omega) (by omega)
  go_wp2_with fail
  refine (unhide HP1 _).mono ?_
  rintro e x ⟨rfl, hx⟩
  subst x
  have cf1 : y3.cell? ⟨g + 1, 2, none⟩ = some (.int .i64 0) := by rw [(unhide HY1).2.1.cell]; rfl
  have ff1 : y3.frozen? ⟨g + 1, 2, none⟩ = false := (unhide HY1).2.1.frozen 2
  obtain ⟨y4, hy4⟩ : ∃ Z, y3.setCell ⟨g + 1, 2, none⟩ (.int .i64 ((p1 : Int))) = Z := ⟨_, rfl⟩
  have HY2 := hide (show Blk y4 g #[.int .i64 0, .int .i64 0, .int .i64 0, .int .i64 0, .int .i64 0, .int .i64 0, .string ⟨#[]⟩, .string ⟨#[]⟩, .string ⟨#[]⟩, .string ⟨#[]⟩] 29 ∧ Blk y4 (g + 1) (⟨1, 1 + (p0 : Int), (p1 : Int), 0, 0, 0, ⟨#[]⟩, ⟨#[]⟩, ⟨#[]⟩, ⟨#[]⟩⟩ : Req).cs 29 ∧ Below g w y4 from by
    rw [← hy4]
    obtain ⟨q1, q2, q3⟩ := unhide HY1
    exact ⟨q1.other _ _ (by show g + 1 ≠ g; omega), q2.set 2 (.int .i64 ((p1 : Int))), q3.setCell (by show g ≤ g + 1; omega) _⟩)
  have c01 : y4.cell? ⟨g + 1, 0, none⟩ = some (.int .i64 1) := by rw [(unhide HY2).2.1.cell]; rfl
  have BT := blk_setRow (cells := (⟨1, 1 + (p0 : Int), (p1 : Int), 0, 0, 0, ⟨#[]⟩, ⟨#[]⟩, ⟨#[]⟩, ⟨#[]⟩⟩ : Req).cs) (unhide HY2).1
  have HL := hide (iload_blk 29 _ BT Tryz.underlying29 rfl size_req)
  have HRG := hide (show y4.rangeAt (g + 1) 0 (⟨1, 1 + (p0 : Int), (p1 : Int), 0, 0, 0, ⟨#[]⟩, ⟨#[]⟩, ⟨#[]⟩, ⟨#[]⟩⟩ : Req).cl from blk_range (unhide HY2).2.1)
  have HZ := hide (unhide HY2).1
  have HO := hide (Req.one (⟨1, 1 + (p0 : Int), (p1 : Int), 0, 0, 0, ⟨#[]⟩, ⟨#[]⟩, ⟨#[]⟩, ⟨#[]⟩⟩ : Req))
  have HF := hide (show Below g w (y4.setRow g (⟨1, 1 + (p0 : Int), (p1 : Int), 0, 0, 0, ⟨#[]⟩, ⟨#[]⟩, ⟨#[]⟩, ⟨#[]⟩⟩ : Req).cs) from below_setRow (unhide HY2).2.2 (Nat.le_refl _) _)
  have HG := hide (show GoodQ 1 (⟨1, 1 + (p0 : Int), (p1 : Int), 0, 0, 0, ⟨#[]⟩, ⟨#[]⟩, ⟨#[]⟩, ⟨#[]⟩⟩ : Req) from ⟨rfl, by
    have e : rqF 1 = [fTen, fQuo] := rfl
    unfold lqB
    rw [show (⟨1, 1 + (p0 : Int), (p1 : Int), 0, 0, 0, ⟨#[]⟩, ⟨#[]⟩, ⟨#[]⟩, ⟨#[]⟩⟩ : Req).kd = 1 from rfl, e, layQ_ok (f := fTen) (r := (⟨1, 1 + (p0 : Int), (p1 : Int), 0, 0, 0, ⟨#[]⟩, ⟨#[]⟩, ⟨#[]⟩, ⟨#[]⟩⟩ : Req)) (decide_eq_true (p := ((1 : Nat) : Int) ≤ 1 + (p0 : Int) ∧ 1 + (p0 : Int) ≤ ((8 : Nat) : Int)) ⟨by omega, by omega⟩), layQ_ok (f := fQuo) (r := (exq fTen (⟨1, 1 + (p0 : Int), (p1 : Int), 0, 0, 0, ⟨#[]⟩, ⟨#[]⟩, ⟨#[]⟩, ⟨#[]⟩⟩ : Req) Prt.nil).1) (decide_eq_true (p := ((0 : Nat) : Int) ≤ (p1 : Int) ∧ (p1 : Int) ≤ ((65535 : Nat) : Int)) ⟨by omega, by omega⟩)]
    exact eqQ_self (Req.bare 1)⟩)
  clear BT
  go_wp2_with (first | refine wpList_load_mid rfl 29 (.tmp 9) rfl (g + 1) 0 rfl (⟨1, 1 + (p0 : Int), (p1 : Int), 0, 0, 0, ⟨#[]⟩, ⟨#[]⟩, ⟨#[]⟩, ⟨#[]⟩⟩ : Req).cl _ (unhide HRG) Tryz.underlying29 rfl size_req ?_ | refine wpList_store_row rfl 29 (.tmp 8) (.tmp 82) rfl g (⟨1, 1 + (p0 : Int), (p1 : Int), 0, 0, 0, ⟨#[]⟩, ⟨#[]⟩, ⟨#[]⟩, ⟨#[]⟩⟩ : Req).cs rfl rfl 29 #[.int .i64 0, .int .i64 0, .int .i64 0, .int .i64 0, .int .i64 0, .int .i64 0, .string ⟨#[]⟩, .string ⟨#[]⟩, .string ⟨#[]⟩, .string ⟨#[]⟩] (unhide HZ) size_req rfl (unhide HO) ?_)
  (try simp only [Exit.inBlock, Exit.then])
  refine bodyPost_ret (results_cell rfl _ _ _ ⟨g, 0, none⟩ rfl _ (unhide HL)) rfl ?_
  exact ⟨⟨_, rfl, unhide HG⟩, unhide HF⟩
set_option maxHeartbeats 4000000 in
theorem rq12_2 (kind a b : Int) (hk : I64 kind) (hq : pickP kind 12 = 1) (ha : I64 a) (hb : I64 b) (s : ByteArray) (hs : s.size ≤ 140737488351232) (w : World) :
    Calls Tryz.prog 11 #[.int .i64 kind, .int .i64 a, .int .i64 b, .string s] w fun e w' => (∃ r : Req, e = .returned (.agg r.cs) ∧ GoodQ 2 r) ∧ Below w.heap.size w w' := by
  have HU := hide (And.intro ha (And.intro hb hs))
  clear HU
  have hpk := fun W => pick12_any kind 12 (by decide) hk 12 rfl W
  simp only [hq, Int.cast_ofNat_Int] at hpk
  have HPK := hide hpk
  have HP0 := hide (fun W => pick12_any a 8 (by decide) ha 8 rfl W)
  have l0 := pickP_lt a 8 (by decide)
  generalize pickP a 8 = p0 at *
  obtain ⟨B1, B2, hbl, hs2⟩ := two_boxes w #[.int .i64 0, .int .i64 0, .int .i64 0, .int .i64 0, .int .i64 0, .int .i64 0, .string ⟨#[]⟩, .string ⟨#[]⟩, .string ⟨#[]⟩, .string ⟨#[]⟩] #[.int .i64 0, .int .i64 0, .int .i64 0, .int .i64 0, .int .i64 0, .int .i64 0, .string ⟨#[]⟩, .string ⟨#[]⟩, .string ⟨#[]⟩, .string ⟨#[]⟩] 29 29
  obtain ⟨g, hg⟩ : ∃ g, w.heap.size = g := ⟨_, rfl⟩
  rw [hg] at B1 B2 hs2 hbl ⊢
  obtain ⟨y, hy⟩ : ∃ Z, (w.alloc (.cells #[.int .i64 0, .int .i64 0, .int .i64 0, .int .i64 0, .int .i64 0, .int .i64 0, .string ⟨#[]⟩, .string ⟨#[]⟩, .string ⟨#[]⟩, .string ⟨#[]⟩] 29)).alloc (.cells #[.int .i64 0, .int .i64 0, .int .i64 0, .int .i64 0, .int .i64 0, .int .i64 0, .string ⟨#[]⟩, .string ⟨#[]⟩, .string ⟨#[]⟩, .string ⟨#[]⟩] 29) = Z := ⟨_, rfl⟩
  rw [hy] at B1 B2 hbl hs2
  have C2 := blk_setRow (cells := (Req.bare 2).cs) B2
  have C1 : Blk (y.setRow (g + 1) (Req.bare 2).cs) g _ _ := blk_setRow_other B1 (by omega)
  have hO1 : Below g w (y.setRow (g + 1) (Req.bare 2).cs) := below_setRow hbl (by omega) _
  obtain ⟨y2, hy2⟩ : ∃ Z, y.setRow (g + 1) (Req.bare 2).cs = Z := ⟨_, rfl⟩
  have HZ0 := hide B2
  rw [hy2] at C1 C2 hO1
  have HY := hide (show Blk y2 g #[.int .i64 0, .int .i64 0, .int .i64 0, .int .i64 0, .int .i64 0, .int .i64 0, .string ⟨#[]⟩, .string ⟨#[]⟩, .string ⟨#[]⟩, .string ⟨#[]⟩] 29 ∧ Blk y2 (g + 1) (⟨2, 0, 0, 0, 0, 0, ⟨#[]⟩, ⟨#[]⟩, ⟨#[]⟩, ⟨#[]⟩⟩ : Req).cs 29 ∧ Below g w y2 from ⟨C1, C2, hO1⟩)
  have HB0 := hide (built_req 2)
  have HO0 := hide (Req.one (Req.bare 2))
  have c0 : y2.cell? ⟨g + 1, 0, none⟩ = some (.int .i64 2) := by rw [(unhide HY).2.1.cell]; rfl
  clear B1 B2 hbl hs2 C1 C2 hO1 hpk hk ha hb hs hq
  go_enter Tryz.func11, Tryz.ntmps11
  go_wp2_with fail
  refine (unhide HPK _).mono ?_
  rintro e x ⟨rfl, hx⟩
  subst x
  go_wp2_with (first | refine wpList_buildAs rfl 29 #[(0, .tmp 12)] rfl _ rfl (Req.bare 2).cs (unhide HB0) ?_ | refine wpList_store_row rfl 29 (.tmp 9) (.tmp 13) rfl (g + 1) (Req.bare 2).cs rfl rfl 29 #[.int .i64 0, .int .i64 0, .int .i64 0, .int .i64 0, .int .i64 0, .int .i64 0, .string ⟨#[]⟩, .string ⟨#[]⟩, .string ⟨#[]⟩, .string ⟨#[]⟩] (unhide HZ0) size_req rfl (unhide HO0) ?_)
  refine (unhide HP0 _).mono ?_
  rintro e x ⟨rfl, hx⟩
  subst x
  clear hy hy2
  have cf0 : y2.cell? ⟨g + 1, 1, none⟩ = some (.int .i64 0) := by rw [(unhide HY).2.1.cell]; rfl
  have ff0 : y2.frozen? ⟨g + 1, 1, none⟩ = false := (unhide HY).2.1.frozen 1
  obtain ⟨y3, hy3⟩ : ∃ Z, y2.setCell ⟨g + 1, 1, none⟩ (.int .i64 (1 + (p0 : Int))) = Z := ⟨_, rfl⟩
  have HY1 := hide (show Blk y3 g #[.int .i64 0, .int .i64 0, .int .i64 0, .int .i64 0, .int .i64 0, .int .i64 0, .string ⟨#[]⟩, .string ⟨#[]⟩, .string ⟨#[]⟩, .string ⟨#[]⟩] 29 ∧ Blk y3 (g + 1) (⟨2, 1 + (p0 : Int), 0, 0, 0, 0, ⟨#[]⟩, ⟨#[]⟩, ⟨#[]⟩, ⟨#[]⟩⟩ : Req).cs 29 ∧ Below g w y3 from by
    rw [← hy3]
    obtain ⟨q1, q2, q3⟩ := unhide HY
    exact ⟨q1.other _ _ (by show g + 1 ≠ g; omega), q2.set 1 (.int .i64 (1 + (p0 : Int))), q3.setCell (by show g ≤ g + 1; omega) _⟩)
  have c00 : y3.cell? ⟨g + 1, 0, none⟩ = some (.int .i64 2) := by rw [(unhide HY1).2.1.cell]; rfl
  have w0 : IntKind.i64.wrap (1 + (p0 : Int)) = 1 + (p0 : Int) := wrapI_eq _ (by omega) (by omega)
  have BT := blk_setRow (cells := (⟨2, 1 + (p0 : Int), 0, 0, 0, 0, ⟨#[]⟩, ⟨#[]⟩, ⟨#[]⟩, ⟨#[]⟩⟩ : Req).cs) (unhide HY1).1
  have HL := hide (iload_blk 29 _ BT Tryz.underlying29 rfl size_req)
  have HRG := hide (show y3.rangeAt (g + 1) 0 (⟨2, 1 + (p0 : Int), 0, 0, 0, 0, ⟨#[]⟩, ⟨#[]⟩, ⟨#[]⟩, ⟨#[]⟩⟩ : Req).cl from blk_range (unhide HY1).2.1)
  have HZ := hide (unhide HY1).1
  have HO := hide (Req.one (⟨2, 1 + (p0 : Int), 0, 0, 0, 0, ⟨#[]⟩, ⟨#[]⟩, ⟨#[]⟩, ⟨#[]⟩⟩ : Req))
  have HF := hide (show Below g w (y3.setRow g (⟨2, 1 + (p0 : Int), 0, 0, 0, 0, ⟨#[]⟩, ⟨#[]⟩, ⟨#[]⟩, ⟨#[]⟩⟩ : Req).cs) from below_setRow (unhide HY1).2.2 (Nat.le_refl _) _)
  have HG := hide (show GoodQ 2 (⟨2, 1 + (p0 : Int), 0, 0, 0, 0, ⟨#[]⟩, ⟨#[]⟩, ⟨#[]⟩, ⟨#[]⟩⟩ : Req) from ⟨rfl, by
    have e : rqF 2 = [fTen] := rfl
    unfold lqB
    rw [show (⟨2, 1 + (p0 : Int), 0, 0, 0, 0, ⟨#[]⟩, ⟨#[]⟩, ⟨#[]⟩, ⟨#[]⟩⟩ : Req).kd = 2 from rfl, e, layQ_ok (f := fTen) (r := (⟨2, 1 + (p0 : Int), 0, 0, 0, 0, ⟨#[]⟩, ⟨#[]⟩, ⟨#[]⟩, ⟨#[]⟩⟩ : Req)) (decide_eq_true (p := ((1 : Nat) : Int) ≤ 1 + (p0 : Int) ∧ 1 + (p0 : Int) ≤ ((8 : Nat) : Int)) ⟨by omega, by omega⟩)]
    exact eqQ_self (Req.bare 2)⟩)
  clear BT
  go_wp2_with (first | refine wpList_load_mid rfl 29 (.tmp 9) rfl (g + 1) 0 rfl (⟨2, 1 + (p0 : Int), 0, 0, 0, 0, ⟨#[]⟩, ⟨#[]⟩, ⟨#[]⟩, ⟨#[]⟩⟩ : Req).cl _ (unhide HRG) Tryz.underlying29 rfl size_req ?_ | refine wpList_store_row rfl 29 (.tmp 8) (.tmp 82) rfl g (⟨2, 1 + (p0 : Int), 0, 0, 0, 0, ⟨#[]⟩, ⟨#[]⟩, ⟨#[]⟩, ⟨#[]⟩⟩ : Req).cs rfl rfl 29 #[.int .i64 0, .int .i64 0, .int .i64 0, .int .i64 0, .int .i64 0, .int .i64 0, .string ⟨#[]⟩, .string ⟨#[]⟩, .string ⟨#[]⟩, .string ⟨#[]⟩] (unhide HZ) size_req rfl (unhide HO) ?_)
  (try simp only [Exit.inBlock, Exit.then])
  refine bodyPost_ret (results_cell rfl _ _ _ ⟨g, 0, none⟩ rfl _ (unhide HL)) rfl ?_
  exact ⟨⟨_, rfl, unhide HG⟩, unhide HF⟩
set_option maxHeartbeats 4000000 in
theorem rq12_3 (kind a b : Int) (hk : I64 kind) (hq : pickP kind 12 = 2) (ha : I64 a) (hb : I64 b) (s : ByteArray) (hs : s.size ≤ 140737488351232) (w : World) :
    Calls Tryz.prog 11 #[.int .i64 kind, .int .i64 a, .int .i64 b, .string s] w fun e w' => (∃ r : Req, e = .returned (.agg r.cs) ∧ GoodQ 3 r) ∧ Below w.heap.size w w' := by
  have HU := hide (And.intro ha (And.intro hb hs))
  clear HU
  have hpk := fun W => pick12_any kind 12 (by decide) hk 12 rfl W
  simp only [hq, Int.cast_ofNat_Int] at hpk
  have HPK := hide hpk
  have HP0 := hide (fun W => pick12_any a 8 (by decide) ha 8 rfl W)
  have l0 := pickP_lt a 8 (by decide)
  generalize pickP a 8 = p0 at *
  obtain ⟨B1, B2, hbl, hs2⟩ := two_boxes w #[.int .i64 0, .int .i64 0, .int .i64 0, .int .i64 0, .int .i64 0, .int .i64 0, .string ⟨#[]⟩, .string ⟨#[]⟩, .string ⟨#[]⟩, .string ⟨#[]⟩] #[.int .i64 0, .int .i64 0, .int .i64 0, .int .i64 0, .int .i64 0, .int .i64 0, .string ⟨#[]⟩, .string ⟨#[]⟩, .string ⟨#[]⟩, .string ⟨#[]⟩] 29 29
  obtain ⟨g, hg⟩ : ∃ g, w.heap.size = g := ⟨_, rfl⟩
  rw [hg] at B1 B2 hs2 hbl ⊢
  obtain ⟨y, hy⟩ : ∃ Z, (w.alloc (.cells #[.int .i64 0, .int .i64 0, .int .i64 0, .int .i64 0, .int .i64 0, .int .i64 0, .string ⟨#[]⟩, .string ⟨#[]⟩, .string ⟨#[]⟩, .string ⟨#[]⟩] 29)).alloc (.cells #[.int .i64 0, .int .i64 0, .int .i64 0, .int .i64 0, .int .i64 0, .int .i64 0, .string ⟨#[]⟩, .string ⟨#[]⟩, .string ⟨#[]⟩, .string ⟨#[]⟩] 29) = Z := ⟨_, rfl⟩
  rw [hy] at B1 B2 hbl hs2
  have C2 := blk_setRow (cells := (Req.bare 3).cs) B2
  have C1 : Blk (y.setRow (g + 1) (Req.bare 3).cs) g _ _ := blk_setRow_other B1 (by omega)
  have hO1 : Below g w (y.setRow (g + 1) (Req.bare 3).cs) := below_setRow hbl (by omega) _
  obtain ⟨y2, hy2⟩ : ∃ Z, y.setRow (g + 1) (Req.bare 3).cs = Z := ⟨_, rfl⟩
  have HZ0 := hide B2
  rw [hy2] at C1 C2 hO1
  have HY := hide (show Blk y2 g #[.int .i64 0, .int .i64 0, .int .i64 0, .int .i64 0, .int .i64 0, .int .i64 0, .string ⟨#[]⟩, .string ⟨#[]⟩, .string ⟨#[]⟩, .string ⟨#[]⟩] 29 ∧ Blk y2 (g + 1) (⟨3, 0, 0, 0, 0, 0, ⟨#[]⟩, ⟨#[]⟩, ⟨#[]⟩, ⟨#[]⟩⟩ : Req).cs 29 ∧ Below g w y2 from ⟨C1, C2, hO1⟩)
  have HB0 := hide (built_req 3)
  have HO0 := hide (Req.one (Req.bare 3))
  have c0 : y2.cell? ⟨g + 1, 0, none⟩ = some (.int .i64 3) := by rw [(unhide HY).2.1.cell]; rfl
  clear B1 B2 hbl hs2 C1 C2 hO1 hpk hk ha hb hs hq
  go_enter Tryz.func11, Tryz.ntmps11
  go_wp2_with fail
  refine (unhide HPK _).mono ?_
  rintro e x ⟨rfl, hx⟩
  subst x
  go_wp2_with (first | refine wpList_buildAs rfl 29 #[(0, .tmp 12)] rfl _ rfl (Req.bare 3).cs (unhide HB0) ?_ | refine wpList_store_row rfl 29 (.tmp 9) (.tmp 13) rfl (g + 1) (Req.bare 3).cs rfl rfl 29 #[.int .i64 0, .int .i64 0, .int .i64 0, .int .i64 0, .int .i64 0, .int .i64 0, .string ⟨#[]⟩, .string ⟨#[]⟩, .string ⟨#[]⟩, .string ⟨#[]⟩] (unhide HZ0) size_req rfl (unhide HO0) ?_)
  refine (unhide HP0 _).mono ?_
  rintro e x ⟨rfl, hx⟩
  subst x
  clear hy hy2
  have cf0 : y2.cell? ⟨g + 1, 1, none⟩ = some (.int .i64 0) := by rw [(unhide HY).2.1.cell]; rfl
  have ff0 : y2.frozen? ⟨g + 1, 1, none⟩ = false := (unhide HY).2.1.frozen 1
  obtain ⟨y3, hy3⟩ : ∃ Z, y2.setCell ⟨g + 1, 1, none⟩ (.int .i64 (1 + (p0 : Int))) = Z := ⟨_, rfl⟩
  have HY1 := hide (show Blk y3 g #[.int .i64 0, .int .i64 0, .int .i64 0, .int .i64 0, .int .i64 0, .int .i64 0, .string ⟨#[]⟩, .string ⟨#[]⟩, .string ⟨#[]⟩, .string ⟨#[]⟩] 29 ∧ Blk y3 (g + 1) (⟨3, 1 + (p0 : Int), 0, 0, 0, 0, ⟨#[]⟩, ⟨#[]⟩, ⟨#[]⟩, ⟨#[]⟩⟩ : Req).cs 29 ∧ Below g w y3 from by
    rw [← hy3]
    obtain ⟨q1, q2, q3⟩ := unhide HY
    exact ⟨q1.other _ _ (by show g + 1 ≠ g; omega), q2.set 1 (.int .i64 (1 + (p0 : Int))), q3.setCell (by show g ≤ g + 1; omega) _⟩)
  have c00 : y3.cell? ⟨g + 1, 0, none⟩ = some (.int .i64 3) := by rw [(unhide HY1).2.1.cell]; rfl
  have w0 : IntKind.i64.wrap (1 + (p0 : Int)) = 1 + (p0 : Int) := wrapI_eq _ (by omega) (by omega)
  have BT := blk_setRow (cells := (⟨3, 1 + (p0 : Int), 0, 0, 0, 0, ⟨#[]⟩, ⟨#[]⟩, ⟨#[]⟩, ⟨#[]⟩⟩ : Req).cs) (unhide HY1).1
  have HL := hide (iload_blk 29 _ BT Tryz.underlying29 rfl size_req)
  have HRG := hide (show y3.rangeAt (g + 1) 0 (⟨3, 1 + (p0 : Int), 0, 0, 0, 0, ⟨#[]⟩, ⟨#[]⟩, ⟨#[]⟩, ⟨#[]⟩⟩ : Req).cl from blk_range (unhide HY1).2.1)
  have HZ := hide (unhide HY1).1
  have HO := hide (Req.one (⟨3, 1 + (p0 : Int), 0, 0, 0, 0, ⟨#[]⟩, ⟨#[]⟩, ⟨#[]⟩, ⟨#[]⟩⟩ : Req))
  have HF := hide (show Below g w (y3.setRow g (⟨3, 1 + (p0 : Int), 0, 0, 0, 0, ⟨#[]⟩, ⟨#[]⟩, ⟨#[]⟩, ⟨#[]⟩⟩ : Req).cs) from below_setRow (unhide HY1).2.2 (Nat.le_refl _) _)
  have HG := hide (show GoodQ 3 (⟨3, 1 + (p0 : Int), 0, 0, 0, 0, ⟨#[]⟩, ⟨#[]⟩, ⟨#[]⟩, ⟨#[]⟩⟩ : Req) from ⟨rfl, by
    have e : rqF 3 = [fTen] := rfl
    unfold lqB
    rw [show (⟨3, 1 + (p0 : Int), 0, 0, 0, 0, ⟨#[]⟩, ⟨#[]⟩, ⟨#[]⟩, ⟨#[]⟩⟩ : Req).kd = 3 from rfl, e, layQ_ok (f := fTen) (r := (⟨3, 1 + (p0 : Int), 0, 0, 0, 0, ⟨#[]⟩, ⟨#[]⟩, ⟨#[]⟩, ⟨#[]⟩⟩ : Req)) (decide_eq_true (p := ((1 : Nat) : Int) ≤ 1 + (p0 : Int) ∧ 1 + (p0 : Int) ≤ ((8 : Nat) : Int)) ⟨by omega, by omega⟩)]
    exact eqQ_self (Req.bare 3)⟩)
  clear BT
  go_wp2_with (first | refine wpList_load_mid rfl 29 (.tmp 9) rfl (g + 1) 0 rfl (⟨3, 1 + (p0 : Int), 0, 0, 0, 0, ⟨#[]⟩, ⟨#[]⟩, ⟨#[]⟩, ⟨#[]⟩⟩ : Req).cl _ (unhide HRG) Tryz.underlying29 rfl size_req ?_ | refine wpList_store_row rfl 29 (.tmp 8) (.tmp 82) rfl g (⟨3, 1 + (p0 : Int), 0, 0, 0, 0, ⟨#[]⟩, ⟨#[]⟩, ⟨#[]⟩, ⟨#[]⟩⟩ : Req).cs rfl rfl 29 #[.int .i64 0, .int .i64 0, .int .i64 0, .int .i64 0, .int .i64 0, .int .i64 0, .string ⟨#[]⟩, .string ⟨#[]⟩, .string ⟨#[]⟩, .string ⟨#[]⟩] (unhide HZ) size_req rfl (unhide HO) ?_)
  (try simp only [Exit.inBlock, Exit.then])
  refine bodyPost_ret (results_cell rfl _ _ _ ⟨g, 0, none⟩ rfl _ (unhide HL)) rfl ?_
  exact ⟨⟨_, rfl, unhide HG⟩, unhide HF⟩
set_option maxHeartbeats 4000000 in
theorem rq12_4 (kind a b : Int) (hk : I64 kind) (hq : pickP kind 12 = 3) (ha : I64 a) (hb : I64 b) (s : ByteArray) (hs : s.size ≤ 140737488351232) (w : World) :
    Calls Tryz.prog 11 #[.int .i64 kind, .int .i64 a, .int .i64 b, .string s] w fun e w' => (∃ r : Req, e = .returned (.agg r.cs) ∧ GoodQ 4 r) ∧ Below w.heap.size w w' := by
  have HU := hide (And.intro ha (And.intro hb hs))
  clear HU
  have hpk := fun W => pick12_any kind 12 (by decide) hk 12 rfl W
  simp only [hq, Int.cast_ofNat_Int] at hpk
  have HPK := hide hpk
  have HP0 := hide (fun W => pick12_any a 99 (by decide) ha 99 rfl W)
  have l0 := pickP_lt a 99 (by decide)
  generalize pickP a 99 = p0 at *
  obtain ⟨B1, B2, hbl, hs2⟩ := two_boxes w #[.int .i64 0, .int .i64 0, .int .i64 0, .int .i64 0, .int .i64 0, .int .i64 0, .string ⟨#[]⟩, .string ⟨#[]⟩, .string ⟨#[]⟩, .string ⟨#[]⟩] #[.int .i64 0, .int .i64 0, .int .i64 0, .int .i64 0, .int .i64 0, .int .i64 0, .string ⟨#[]⟩, .string ⟨#[]⟩, .string ⟨#[]⟩, .string ⟨#[]⟩] 29 29
  obtain ⟨g, hg⟩ : ∃ g, w.heap.size = g := ⟨_, rfl⟩
  rw [hg] at B1 B2 hs2 hbl ⊢
  obtain ⟨y, hy⟩ : ∃ Z, (w.alloc (.cells #[.int .i64 0, .int .i64 0, .int .i64 0, .int .i64 0, .int .i64 0, .int .i64 0, .string ⟨#[]⟩, .string ⟨#[]⟩, .string ⟨#[]⟩, .string ⟨#[]⟩] 29)).alloc (.cells #[.int .i64 0, .int .i64 0, .int .i64 0, .int .i64 0, .int .i64 0, .int .i64 0, .string ⟨#[]⟩, .string ⟨#[]⟩, .string ⟨#[]⟩, .string ⟨#[]⟩] 29) = Z := ⟨_, rfl⟩
  rw [hy] at B1 B2 hbl hs2
  have C2 := blk_setRow (cells := (Req.bare 4).cs) B2
  have C1 : Blk (y.setRow (g + 1) (Req.bare 4).cs) g _ _ := blk_setRow_other B1 (by omega)
  have hO1 : Below g w (y.setRow (g + 1) (Req.bare 4).cs) := below_setRow hbl (by omega) _
  obtain ⟨y2, hy2⟩ : ∃ Z, y.setRow (g + 1) (Req.bare 4).cs = Z := ⟨_, rfl⟩
  have HZ0 := hide B2
  rw [hy2] at C1 C2 hO1
  have HY := hide (show Blk y2 g #[.int .i64 0, .int .i64 0, .int .i64 0, .int .i64 0, .int .i64 0, .int .i64 0, .string ⟨#[]⟩, .string ⟨#[]⟩, .string ⟨#[]⟩, .string ⟨#[]⟩] 29 ∧ Blk y2 (g + 1) (⟨4, 0, 0, 0, 0, 0, ⟨#[]⟩, ⟨#[]⟩, ⟨#[]⟩, ⟨#[]⟩⟩ : Req).cs 29 ∧ Below g w y2 from ⟨C1, C2, hO1⟩)
  have HB0 := hide (built_req 4)
  have HO0 := hide (Req.one (Req.bare 4))
  have c0 : y2.cell? ⟨g + 1, 0, none⟩ = some (.int .i64 4) := by rw [(unhide HY).2.1.cell]; rfl
  clear B1 B2 hbl hs2 C1 C2 hO1 hpk hk ha hb hs hq
  go_enter Tryz.func11, Tryz.ntmps11
  go_wp2_with fail
  refine (unhide HPK _).mono ?_
  rintro e x ⟨rfl, hx⟩
  subst x
  go_wp2_with (first | refine wpList_buildAs rfl 29 #[(0, .tmp 12)] rfl _ rfl (Req.bare 4).cs (unhide HB0) ?_ | refine wpList_store_row rfl 29 (.tmp 9) (.tmp 13) rfl (g + 1) (Req.bare 4).cs rfl rfl 29 #[.int .i64 0, .int .i64 0, .int .i64 0, .int .i64 0, .int .i64 0, .int .i64 0, .string ⟨#[]⟩, .string ⟨#[]⟩, .string ⟨#[]⟩, .string ⟨#[]⟩] (unhide HZ0) size_req rfl (unhide HO0) ?_)
  refine (unhide HP0 _).mono ?_
  rintro e x ⟨rfl, hx⟩
  subst x
  clear hy hy2
  have cf0 : y2.cell? ⟨g + 1, 3, none⟩ = some (.int .i64 0) := by rw [(unhide HY).2.1.cell]; rfl
  have ff0 : y2.frozen? ⟨g + 1, 3, none⟩ = false := (unhide HY).2.1.frozen 3
  obtain ⟨y3, hy3⟩ : ∃ Z, y2.setCell ⟨g + 1, 3, none⟩ (.int .i64 (1 + (p0 : Int))) = Z := ⟨_, rfl⟩
  have HY1 := hide (show Blk y3 g #[.int .i64 0, .int .i64 0, .int .i64 0, .int .i64 0, .int .i64 0, .int .i64 0, .string ⟨#[]⟩, .string ⟨#[]⟩, .string ⟨#[]⟩, .string ⟨#[]⟩] 29 ∧ Blk y3 (g + 1) (⟨4, 0, 0, 1 + (p0 : Int), 0, 0, ⟨#[]⟩, ⟨#[]⟩, ⟨#[]⟩, ⟨#[]⟩⟩ : Req).cs 29 ∧ Below g w y3 from by
    rw [← hy3]
    obtain ⟨q1, q2, q3⟩ := unhide HY
    exact ⟨q1.other _ _ (by show g + 1 ≠ g; omega), q2.set 3 (.int .i64 (1 + (p0 : Int))), q3.setCell (by show g ≤ g + 1; omega) _⟩)
  have c00 : y3.cell? ⟨g + 1, 0, none⟩ = some (.int .i64 4) := by rw [(unhide HY1).2.1.cell]; rfl
  have w0 : IntKind.i64.wrap (1 + (p0 : Int)) = 1 + (p0 : Int) := wrapI_eq _ (by omega) (by omega)
  have BT := blk_setRow (cells := (⟨4, 0, 0, 1 + (p0 : Int), 0, 0, ⟨#[]⟩, ⟨#[]⟩, ⟨#[]⟩, ⟨#[]⟩⟩ : Req).cs) (unhide HY1).1
  have HL := hide (iload_blk 29 _ BT Tryz.underlying29 rfl size_req)
  have HRG := hide (show y3.rangeAt (g + 1) 0 (⟨4, 0, 0, 1 + (p0 : Int), 0, 0, ⟨#[]⟩, ⟨#[]⟩, ⟨#[]⟩, ⟨#[]⟩⟩ : Req).cl from blk_range (unhide HY1).2.1)
  have HZ := hide (unhide HY1).1
  have HO := hide (Req.one (⟨4, 0, 0, 1 + (p0 : Int), 0, 0, ⟨#[]⟩, ⟨#[]⟩, ⟨#[]⟩, ⟨#[]⟩⟩ : Req))
  have HF := hide (show Below g w (y3.setRow g (⟨4, 0, 0, 1 + (p0 : Int), 0, 0, ⟨#[]⟩, ⟨#[]⟩, ⟨#[]⟩, ⟨#[]⟩⟩ : Req).cs) from below_setRow (unhide HY1).2.2 (Nat.le_refl _) _)
  have HG := hide (show GoodQ 4 (⟨4, 0, 0, 1 + (p0 : Int), 0, 0, ⟨#[]⟩, ⟨#[]⟩, ⟨#[]⟩, ⟨#[]⟩⟩ : Req) from ⟨rfl, by
    have e : rqF 4 = [fVol] := rfl
    unfold lqB
    rw [show (⟨4, 0, 0, 1 + (p0 : Int), 0, 0, ⟨#[]⟩, ⟨#[]⟩, ⟨#[]⟩, ⟨#[]⟩⟩ : Req).kd = 4 from rfl, e, layQ_ok (f := fVol) (r := (⟨4, 0, 0, 1 + (p0 : Int), 0, 0, ⟨#[]⟩, ⟨#[]⟩, ⟨#[]⟩, ⟨#[]⟩⟩ : Req)) (decide_eq_true (p := ((1 : Nat) : Int) ≤ 1 + (p0 : Int) ∧ 1 + (p0 : Int) ≤ ((99 : Nat) : Int)) ⟨by omega, by omega⟩)]
    exact eqQ_self (Req.bare 4)⟩)
  clear BT
  go_wp2_with (first | refine wpList_load_mid rfl 29 (.tmp 9) rfl (g + 1) 0 rfl (⟨4, 0, 0, 1 + (p0 : Int), 0, 0, ⟨#[]⟩, ⟨#[]⟩, ⟨#[]⟩, ⟨#[]⟩⟩ : Req).cl _ (unhide HRG) Tryz.underlying29 rfl size_req ?_ | refine wpList_store_row rfl 29 (.tmp 8) (.tmp 82) rfl g (⟨4, 0, 0, 1 + (p0 : Int), 0, 0, ⟨#[]⟩, ⟨#[]⟩, ⟨#[]⟩, ⟨#[]⟩⟩ : Req).cs rfl rfl 29 #[.int .i64 0, .int .i64 0, .int .i64 0, .int .i64 0, .int .i64 0, .int .i64 0, .string ⟨#[]⟩, .string ⟨#[]⟩, .string ⟨#[]⟩, .string ⟨#[]⟩] (unhide HZ) size_req rfl (unhide HO) ?_)
  (try simp only [Exit.inBlock, Exit.then])
  refine bodyPost_ret (results_cell rfl _ _ _ ⟨g, 0, none⟩ rfl _ (unhide HL)) rfl ?_
  exact ⟨⟨_, rfl, unhide HG⟩, unhide HF⟩
set_option maxHeartbeats 4000000 in
theorem rq12_5 (kind a b : Int) (hk : I64 kind) (hq : pickP kind 12 = 4) (ha : I64 a) (hb : I64 b) (s : ByteArray) (hs : s.size ≤ 140737488351232) (w : World) :
    Calls Tryz.prog 11 #[.int .i64 kind, .int .i64 a, .int .i64 b, .string s] w fun e w' => (∃ r : Req, e = .returned (.agg r.cs) ∧ GoodQ 5 r) ∧ Below w.heap.size w w' := by
  have HU := hide (And.intro ha (And.intro hb hs))
  clear HU
  have hpk := fun W => pick12_any kind 12 (by decide) hk 12 rfl W
  simp only [hq, Int.cast_ofNat_Int] at hpk
  have HPK := hide hpk
  have HP0 := hide (fun W => pick12_any a 99 (by decide) ha 99 rfl W)
  have l0 := pickP_lt a 99 (by decide)
  generalize pickP a 99 = p0 at *
  obtain ⟨B1, B2, hbl, hs2⟩ := two_boxes w #[.int .i64 0, .int .i64 0, .int .i64 0, .int .i64 0, .int .i64 0, .int .i64 0, .string ⟨#[]⟩, .string ⟨#[]⟩, .string ⟨#[]⟩, .string ⟨#[]⟩] #[.int .i64 0, .int .i64 0, .int .i64 0, .int .i64 0, .int .i64 0, .int .i64 0, .string ⟨#[]⟩, .string ⟨#[]⟩, .string ⟨#[]⟩, .string ⟨#[]⟩] 29 29
  obtain ⟨g, hg⟩ : ∃ g, w.heap.size = g := ⟨_, rfl⟩
  rw [hg] at B1 B2 hs2 hbl ⊢
  obtain ⟨y, hy⟩ : ∃ Z, (w.alloc (.cells #[.int .i64 0, .int .i64 0, .int .i64 0, .int .i64 0, .int .i64 0, .int .i64 0, .string ⟨#[]⟩, .string ⟨#[]⟩, .string ⟨#[]⟩, .string ⟨#[]⟩] 29)).alloc (.cells #[.int .i64 0, .int .i64 0, .int .i64 0, .int .i64 0, .int .i64 0, .int .i64 0, .string ⟨#[]⟩, .string ⟨#[]⟩, .string ⟨#[]⟩, .string ⟨#[]⟩] 29) = Z := ⟨_, rfl⟩
  rw [hy] at B1 B2 hbl hs2
  have C2 := blk_setRow (cells := (Req.bare 5).cs) B2
  have C1 : Blk (y.setRow (g + 1) (Req.bare 5).cs) g _ _ := blk_setRow_other B1 (by omega)
  have hO1 : Below g w (y.setRow (g + 1) (Req.bare 5).cs) := below_setRow hbl (by omega) _
  obtain ⟨y2, hy2⟩ : ∃ Z, y.setRow (g + 1) (Req.bare 5).cs = Z := ⟨_, rfl⟩
  have HZ0 := hide B2
  rw [hy2] at C1 C2 hO1
  have HY := hide (show Blk y2 g #[.int .i64 0, .int .i64 0, .int .i64 0, .int .i64 0, .int .i64 0, .int .i64 0, .string ⟨#[]⟩, .string ⟨#[]⟩, .string ⟨#[]⟩, .string ⟨#[]⟩] 29 ∧ Blk y2 (g + 1) (⟨5, 0, 0, 0, 0, 0, ⟨#[]⟩, ⟨#[]⟩, ⟨#[]⟩, ⟨#[]⟩⟩ : Req).cs 29 ∧ Below g w y2 from ⟨C1, C2, hO1⟩)
  have HB0 := hide (built_req 5)
  have HO0 := hide (Req.one (Req.bare 5))
  have c0 : y2.cell? ⟨g + 1, 0, none⟩ = some (.int .i64 5) := by rw [(unhide HY).2.1.cell]; rfl
  clear B1 B2 hbl hs2 C1 C2 hO1 hpk hk ha hb hs hq
  go_enter Tryz.func11, Tryz.ntmps11
  go_wp2_with fail
  refine (unhide HPK _).mono ?_
  rintro e x ⟨rfl, hx⟩
  subst x
  go_wp2_with (first | refine wpList_buildAs rfl 29 #[(0, .tmp 12)] rfl _ rfl (Req.bare 5).cs (unhide HB0) ?_ | refine wpList_store_row rfl 29 (.tmp 9) (.tmp 13) rfl (g + 1) (Req.bare 5).cs rfl rfl 29 #[.int .i64 0, .int .i64 0, .int .i64 0, .int .i64 0, .int .i64 0, .int .i64 0, .string ⟨#[]⟩, .string ⟨#[]⟩, .string ⟨#[]⟩, .string ⟨#[]⟩] (unhide HZ0) size_req rfl (unhide HO0) ?_)
  refine (unhide HP0 _).mono ?_
  rintro e x ⟨rfl, hx⟩
  subst x
  clear hy hy2
  have cf0 : y2.cell? ⟨g + 1, 3, none⟩ = some (.int .i64 0) := by rw [(unhide HY).2.1.cell]; rfl
  have ff0 : y2.frozen? ⟨g + 1, 3, none⟩ = false := (unhide HY).2.1.frozen 3
  obtain ⟨y3, hy3⟩ : ∃ Z, y2.setCell ⟨g + 1, 3, none⟩ (.int .i64 (1 + (p0 : Int))) = Z := ⟨_, rfl⟩
  have HY1 := hide (show Blk y3 g #[.int .i64 0, .int .i64 0, .int .i64 0, .int .i64 0, .int .i64 0, .int .i64 0, .string ⟨#[]⟩, .string ⟨#[]⟩, .string ⟨#[]⟩, .string ⟨#[]⟩] 29 ∧ Blk y3 (g + 1) (⟨5, 0, 0, 1 + (p0 : Int), 0, 0, ⟨#[]⟩, ⟨#[]⟩, ⟨#[]⟩, ⟨#[]⟩⟩ : Req).cs 29 ∧ Below g w y3 from by
    rw [← hy3]
    obtain ⟨q1, q2, q3⟩ := unhide HY
    exact ⟨q1.other _ _ (by show g + 1 ≠ g; omega), q2.set 3 (.int .i64 (1 + (p0 : Int))), q3.setCell (by show g ≤ g + 1; omega) _⟩)
  have c00 : y3.cell? ⟨g + 1, 0, none⟩ = some (.int .i64 5) := by rw [(unhide HY1).2.1.cell]; rfl
  have w0 : IntKind.i64.wrap (1 + (p0 : Int)) = 1 + (p0 : Int) := wrapI_eq _ (by omega) (by omega)
  have BT := blk_setRow (cells := (⟨5, 0, 0, 1 + (p0 : Int), 0, 0, ⟨#[]⟩, ⟨#[]⟩, ⟨#[]⟩, ⟨#[]⟩⟩ : Req).cs) (unhide HY1).1
  have HL := hide (iload_blk 29 _ BT Tryz.underlying29 rfl size_req)
  have HRG := hide (show y3.rangeAt (g + 1) 0 (⟨5, 0, 0, 1 + (p0 : Int), 0, 0, ⟨#[]⟩, ⟨#[]⟩, ⟨#[]⟩, ⟨#[]⟩⟩ : Req).cl from blk_range (unhide HY1).2.1)
  have HZ := hide (unhide HY1).1
  have HO := hide (Req.one (⟨5, 0, 0, 1 + (p0 : Int), 0, 0, ⟨#[]⟩, ⟨#[]⟩, ⟨#[]⟩, ⟨#[]⟩⟩ : Req))
  have HF := hide (show Below g w (y3.setRow g (⟨5, 0, 0, 1 + (p0 : Int), 0, 0, ⟨#[]⟩, ⟨#[]⟩, ⟨#[]⟩, ⟨#[]⟩⟩ : Req).cs) from below_setRow (unhide HY1).2.2 (Nat.le_refl _) _)
  have HG := hide (show GoodQ 5 (⟨5, 0, 0, 1 + (p0 : Int), 0, 0, ⟨#[]⟩, ⟨#[]⟩, ⟨#[]⟩, ⟨#[]⟩⟩ : Req) from ⟨rfl, by
    have e : rqF 5 = [fVol] := rfl
    unfold lqB
    rw [show (⟨5, 0, 0, 1 + (p0 : Int), 0, 0, ⟨#[]⟩, ⟨#[]⟩, ⟨#[]⟩, ⟨#[]⟩⟩ : Req).kd = 5 from rfl, e, layQ_ok (f := fVol) (r := (⟨5, 0, 0, 1 + (p0 : Int), 0, 0, ⟨#[]⟩, ⟨#[]⟩, ⟨#[]⟩, ⟨#[]⟩⟩ : Req)) (decide_eq_true (p := ((1 : Nat) : Int) ≤ 1 + (p0 : Int) ∧ 1 + (p0 : Int) ≤ ((99 : Nat) : Int)) ⟨by omega, by omega⟩)]
    exact eqQ_self (Req.bare 5)⟩)
  clear BT
  go_wp2_with (first | refine wpList_load_mid rfl 29 (.tmp 9) rfl (g + 1) 0 rfl (⟨5, 0, 0, 1 + (p0 : Int), 0, 0, ⟨#[]⟩, ⟨#[]⟩, ⟨#[]⟩, ⟨#[]⟩⟩ : Req).cl _ (unhide HRG) Tryz.underlying29 rfl size_req ?_ | refine wpList_store_row rfl 29 (.tmp 8) (.tmp 82) rfl g (⟨5, 0, 0, 1 + (p0 : Int), 0, 0, ⟨#[]⟩, ⟨#[]⟩, ⟨#[]⟩, ⟨#[]⟩⟩ : Req).cs rfl rfl 29 #[.int .i64 0, .int .i64 0, .int .i64 0, .int .i64 0, .int .i64 0, .int .i64 0, .string ⟨#[]⟩, .string ⟨#[]⟩, .string ⟨#[]⟩, .string ⟨#[]⟩] (unhide HZ) size_req rfl (unhide HO) ?_)
  (try simp only [Exit.inBlock, Exit.then])
  refine bodyPost_ret (results_cell rfl _ _ _ ⟨g, 0, none⟩ rfl _ (unhide HL)) rfl ?_
  exact ⟨⟨_, rfl, unhide HG⟩, unhide HF⟩
set_option maxHeartbeats 4000000 in
theorem rq12_6 (kind a b : Int) (hk : I64 kind) (hq : pickP kind 12 = 5) (ha : I64 a) (hb : I64 b) (s : ByteArray) (hs : s.size ≤ 140737488351232) (w : World) :
    Calls Tryz.prog 11 #[.int .i64 kind, .int .i64 a, .int .i64 b, .string s] w fun e w' => (∃ r : Req, e = .returned (.agg r.cs) ∧ GoodQ 6 r) ∧ Below w.heap.size w w' := by
  have HU := hide (And.intro ha (And.intro hb hs))
  clear HU
  have hpk := fun W => pick12_any kind 12 (by decide) hk 12 rfl W
  simp only [hq, Int.cast_ofNat_Int] at hpk
  have HPK := hide hpk
  obtain ⟨B1, B2, hbl, hs2⟩ := two_boxes w #[.int .i64 0, .int .i64 0, .int .i64 0, .int .i64 0, .int .i64 0, .int .i64 0, .string ⟨#[]⟩, .string ⟨#[]⟩, .string ⟨#[]⟩, .string ⟨#[]⟩] #[.int .i64 0, .int .i64 0, .int .i64 0, .int .i64 0, .int .i64 0, .int .i64 0, .string ⟨#[]⟩, .string ⟨#[]⟩, .string ⟨#[]⟩, .string ⟨#[]⟩] 29 29
  obtain ⟨g, hg⟩ : ∃ g, w.heap.size = g := ⟨_, rfl⟩
  rw [hg] at B1 B2 hs2 hbl ⊢
  obtain ⟨y, hy⟩ : ∃ Z, (w.alloc (.cells #[.int .i64 0, .int .i64 0, .int .i64 0, .int .i64 0, .int .i64 0, .int .i64 0, .string ⟨#[]⟩, .string ⟨#[]⟩, .string ⟨#[]⟩, .string ⟨#[]⟩] 29)).alloc (.cells #[.int .i64 0, .int .i64 0, .int .i64 0, .int .i64 0, .int .i64 0, .int .i64 0, .string ⟨#[]⟩, .string ⟨#[]⟩, .string ⟨#[]⟩, .string ⟨#[]⟩] 29) = Z := ⟨_, rfl⟩
  rw [hy] at B1 B2 hbl hs2
  have C2 := blk_setRow (cells := (Req.bare 6).cs) B2
  have C1 : Blk (y.setRow (g + 1) (Req.bare 6).cs) g _ _ := blk_setRow_other B1 (by omega)
  have hO1 : Below g w (y.setRow (g + 1) (Req.bare 6).cs) := below_setRow hbl (by omega) _
  obtain ⟨y2, hy2⟩ : ∃ Z, y.setRow (g + 1) (Req.bare 6).cs = Z := ⟨_, rfl⟩
  have HZ0 := hide B2
  rw [hy2] at C1 C2 hO1
  have HY := hide (show Blk y2 g #[.int .i64 0, .int .i64 0, .int .i64 0, .int .i64 0, .int .i64 0, .int .i64 0, .string ⟨#[]⟩, .string ⟨#[]⟩, .string ⟨#[]⟩, .string ⟨#[]⟩] 29 ∧ Blk y2 (g + 1) (⟨6, 0, 0, 0, 0, 0, ⟨#[]⟩, ⟨#[]⟩, ⟨#[]⟩, ⟨#[]⟩⟩ : Req).cs 29 ∧ Below g w y2 from ⟨C1, C2, hO1⟩)
  have HB0 := hide (built_req 6)
  have HO0 := hide (Req.one (Req.bare 6))
  have c0 : y2.cell? ⟨g + 1, 0, none⟩ = some (.int .i64 6) := by rw [(unhide HY).2.1.cell]; rfl
  clear B1 B2 hbl hs2 C1 C2 hO1 hpk hk ha hb hs hq
  go_enter Tryz.func11, Tryz.ntmps11
  go_wp2_with fail
  refine (unhide HPK _).mono ?_
  rintro e x ⟨rfl, hx⟩
  subst x
  have BT := blk_setRow (cells := (⟨6, 0, 0, 0, 0, 0, ⟨#[]⟩, ⟨#[]⟩, ⟨#[]⟩, ⟨#[]⟩⟩ : Req).cs) (unhide HY).1
  have HL := hide (iload_blk 29 _ BT Tryz.underlying29 rfl size_req)
  have HRG := hide (show y2.rangeAt (g + 1) 0 (⟨6, 0, 0, 0, 0, 0, ⟨#[]⟩, ⟨#[]⟩, ⟨#[]⟩, ⟨#[]⟩⟩ : Req).cl from blk_range (unhide HY).2.1)
  have HZ := hide (unhide HY).1
  have HO := hide (Req.one (⟨6, 0, 0, 0, 0, 0, ⟨#[]⟩, ⟨#[]⟩, ⟨#[]⟩, ⟨#[]⟩⟩ : Req))
  have HF := hide (show Below g w (y2.setRow g (⟨6, 0, 0, 0, 0, 0, ⟨#[]⟩, ⟨#[]⟩, ⟨#[]⟩, ⟨#[]⟩⟩ : Req).cs) from below_setRow (unhide HY).2.2 (Nat.le_refl _) _)
  have HG := hide (show GoodQ 6 (⟨6, 0, 0, 0, 0, 0, ⟨#[]⟩, ⟨#[]⟩, ⟨#[]⟩, ⟨#[]⟩⟩ : Req) from ⟨rfl, by
    have e : rqF 6 = [] := rfl
    unfold lqB
    rw [show (⟨6, 0, 0, 0, 0, 0, ⟨#[]⟩, ⟨#[]⟩, ⟨#[]⟩, ⟨#[]⟩⟩ : Req).kd = 6 from rfl, e]
    exact eqQ_self (Req.bare 6)⟩)
  clear BT
  go_wp2_with (first | refine wpList_buildAs rfl 29 #[(0, .tmp 12)] rfl _ rfl (Req.bare 6).cs (unhide HB0) ?_ | refine wpList_store_row rfl 29 (.tmp 9) (.tmp 13) rfl (g + 1) (Req.bare 6).cs rfl rfl 29 #[.int .i64 0, .int .i64 0, .int .i64 0, .int .i64 0, .int .i64 0, .int .i64 0, .string ⟨#[]⟩, .string ⟨#[]⟩, .string ⟨#[]⟩, .string ⟨#[]⟩] (unhide HZ0) size_req rfl (unhide HO0) ?_ | refine wpList_load_mid rfl 29 (.tmp 9) rfl (g + 1) 0 rfl (⟨6, 0, 0, 0, 0, 0, ⟨#[]⟩, ⟨#[]⟩, ⟨#[]⟩, ⟨#[]⟩⟩ : Req).cl _ (unhide HRG) Tryz.underlying29 rfl size_req ?_ | refine wpList_store_row rfl 29 (.tmp 8) (.tmp 82) rfl g (⟨6, 0, 0, 0, 0, 0, ⟨#[]⟩, ⟨#[]⟩, ⟨#[]⟩, ⟨#[]⟩⟩ : Req).cs rfl rfl 29 #[.int .i64 0, .int .i64 0, .int .i64 0, .int .i64 0, .int .i64 0, .int .i64 0, .string ⟨#[]⟩, .string ⟨#[]⟩, .string ⟨#[]⟩, .string ⟨#[]⟩] (unhide HZ) size_req rfl (unhide HO) ?_)
  (try simp only [Exit.inBlock, Exit.then])
  refine bodyPost_ret (results_cell rfl _ _ _ ⟨g, 0, none⟩ rfl _ (unhide HL)) rfl ?_
  exact ⟨⟨_, rfl, unhide HG⟩, unhide HF⟩
set_option maxHeartbeats 4000000 in
theorem rq12_7 (kind a b : Int) (hk : I64 kind) (hq : pickP kind 12 = 6) (ha : I64 a) (hb : I64 b) (s : ByteArray) (hs : s.size ≤ 140737488351232) (w : World) :
    Calls Tryz.prog 11 #[.int .i64 kind, .int .i64 a, .int .i64 b, .string s] w fun e w' => (∃ r : Req, e = .returned (.agg r.cs) ∧ GoodQ 7 r) ∧ Below w.heap.size w w' := by
  have HU := hide (And.intro ha (And.intro hb hs))
  clear HU
  have hpk := fun W => pick12_any kind 12 (by decide) hk 12 rfl W
  simp only [hq, Int.cast_ofNat_Int] at hpk
  have HPK := hide hpk
  obtain ⟨B1, B2, hbl, hs2⟩ := two_boxes w #[.int .i64 0, .int .i64 0, .int .i64 0, .int .i64 0, .int .i64 0, .int .i64 0, .string ⟨#[]⟩, .string ⟨#[]⟩, .string ⟨#[]⟩, .string ⟨#[]⟩] #[.int .i64 0, .int .i64 0, .int .i64 0, .int .i64 0, .int .i64 0, .int .i64 0, .string ⟨#[]⟩, .string ⟨#[]⟩, .string ⟨#[]⟩, .string ⟨#[]⟩] 29 29
  obtain ⟨g, hg⟩ : ∃ g, w.heap.size = g := ⟨_, rfl⟩
  rw [hg] at B1 B2 hs2 hbl ⊢
  obtain ⟨y, hy⟩ : ∃ Z, (w.alloc (.cells #[.int .i64 0, .int .i64 0, .int .i64 0, .int .i64 0, .int .i64 0, .int .i64 0, .string ⟨#[]⟩, .string ⟨#[]⟩, .string ⟨#[]⟩, .string ⟨#[]⟩] 29)).alloc (.cells #[.int .i64 0, .int .i64 0, .int .i64 0, .int .i64 0, .int .i64 0, .int .i64 0, .string ⟨#[]⟩, .string ⟨#[]⟩, .string ⟨#[]⟩, .string ⟨#[]⟩] 29) = Z := ⟨_, rfl⟩
  rw [hy] at B1 B2 hbl hs2
  have C2 := blk_setRow (cells := (Req.bare 7).cs) B2
  have C1 : Blk (y.setRow (g + 1) (Req.bare 7).cs) g _ _ := blk_setRow_other B1 (by omega)
  have hO1 : Below g w (y.setRow (g + 1) (Req.bare 7).cs) := below_setRow hbl (by omega) _
  obtain ⟨y2, hy2⟩ : ∃ Z, y.setRow (g + 1) (Req.bare 7).cs = Z := ⟨_, rfl⟩
  have HZ0 := hide B2
  rw [hy2] at C1 C2 hO1
  have HY := hide (show Blk y2 g #[.int .i64 0, .int .i64 0, .int .i64 0, .int .i64 0, .int .i64 0, .int .i64 0, .string ⟨#[]⟩, .string ⟨#[]⟩, .string ⟨#[]⟩, .string ⟨#[]⟩] 29 ∧ Blk y2 (g + 1) (⟨7, 0, 0, 0, 0, 0, ⟨#[]⟩, ⟨#[]⟩, ⟨#[]⟩, ⟨#[]⟩⟩ : Req).cs 29 ∧ Below g w y2 from ⟨C1, C2, hO1⟩)
  have HB0 := hide (built_req 7)
  have HO0 := hide (Req.one (Req.bare 7))
  have c0 : y2.cell? ⟨g + 1, 0, none⟩ = some (.int .i64 7) := by rw [(unhide HY).2.1.cell]; rfl
  clear B1 B2 hbl hs2 C1 C2 hO1 hpk hk ha hb hs hq
  go_enter Tryz.func11, Tryz.ntmps11
  go_wp2_with fail
  refine (unhide HPK _).mono ?_
  rintro e x ⟨rfl, hx⟩
  subst x
  have BT := blk_setRow (cells := (⟨7, 0, 0, 0, 0, 0, ⟨#[]⟩, ⟨#[]⟩, ⟨#[]⟩, ⟨#[]⟩⟩ : Req).cs) (unhide HY).1
  have HL := hide (iload_blk 29 _ BT Tryz.underlying29 rfl size_req)
  have HRG := hide (show y2.rangeAt (g + 1) 0 (⟨7, 0, 0, 0, 0, 0, ⟨#[]⟩, ⟨#[]⟩, ⟨#[]⟩, ⟨#[]⟩⟩ : Req).cl from blk_range (unhide HY).2.1)
  have HZ := hide (unhide HY).1
  have HO := hide (Req.one (⟨7, 0, 0, 0, 0, 0, ⟨#[]⟩, ⟨#[]⟩, ⟨#[]⟩, ⟨#[]⟩⟩ : Req))
  have HF := hide (show Below g w (y2.setRow g (⟨7, 0, 0, 0, 0, 0, ⟨#[]⟩, ⟨#[]⟩, ⟨#[]⟩, ⟨#[]⟩⟩ : Req).cs) from below_setRow (unhide HY).2.2 (Nat.le_refl _) _)
  have HG := hide (show GoodQ 7 (⟨7, 0, 0, 0, 0, 0, ⟨#[]⟩, ⟨#[]⟩, ⟨#[]⟩, ⟨#[]⟩⟩ : Req) from ⟨rfl, by
    have e : rqF 7 = [] := rfl
    unfold lqB
    rw [show (⟨7, 0, 0, 0, 0, 0, ⟨#[]⟩, ⟨#[]⟩, ⟨#[]⟩, ⟨#[]⟩⟩ : Req).kd = 7 from rfl, e]
    exact eqQ_self (Req.bare 7)⟩)
  clear BT
  go_wp2_with (first | refine wpList_buildAs rfl 29 #[(0, .tmp 12)] rfl _ rfl (Req.bare 7).cs (unhide HB0) ?_ | refine wpList_store_row rfl 29 (.tmp 9) (.tmp 13) rfl (g + 1) (Req.bare 7).cs rfl rfl 29 #[.int .i64 0, .int .i64 0, .int .i64 0, .int .i64 0, .int .i64 0, .int .i64 0, .string ⟨#[]⟩, .string ⟨#[]⟩, .string ⟨#[]⟩, .string ⟨#[]⟩] (unhide HZ0) size_req rfl (unhide HO0) ?_ | refine wpList_load_mid rfl 29 (.tmp 9) rfl (g + 1) 0 rfl (⟨7, 0, 0, 0, 0, 0, ⟨#[]⟩, ⟨#[]⟩, ⟨#[]⟩, ⟨#[]⟩⟩ : Req).cl _ (unhide HRG) Tryz.underlying29 rfl size_req ?_ | refine wpList_store_row rfl 29 (.tmp 8) (.tmp 82) rfl g (⟨7, 0, 0, 0, 0, 0, ⟨#[]⟩, ⟨#[]⟩, ⟨#[]⟩, ⟨#[]⟩⟩ : Req).cs rfl rfl 29 #[.int .i64 0, .int .i64 0, .int .i64 0, .int .i64 0, .int .i64 0, .int .i64 0, .string ⟨#[]⟩, .string ⟨#[]⟩, .string ⟨#[]⟩, .string ⟨#[]⟩] (unhide HZ) size_req rfl (unhide HO) ?_)
  (try simp only [Exit.inBlock, Exit.then])
  refine bodyPost_ret (results_cell rfl _ _ _ ⟨g, 0, none⟩ rfl _ (unhide HL)) rfl ?_
  exact ⟨⟨_, rfl, unhide HG⟩, unhide HF⟩
set_option maxHeartbeats 4000000 in
theorem rq12_8 (kind a b : Int) (hk : I64 kind) (hq : pickP kind 12 = 7) (ha : I64 a) (hb : I64 b) (s : ByteArray) (hs : s.size ≤ 140737488351232) (w : World) :
    Calls Tryz.prog 11 #[.int .i64 kind, .int .i64 a, .int .i64 b, .string s] w fun e w' => (∃ r : Req, e = .returned (.agg r.cs) ∧ GoodQ 8 r) ∧ Below w.heap.size w w' := by
  have HU := hide (And.intro ha (And.intro hb hs))
  clear HU
  have hpk := fun W => pick12_any kind 12 (by decide) hk 12 rfl W
  simp only [hq, Int.cast_ofNat_Int] at hpk
  have HPK := hide hpk
  have HP0 := hide (fun W => pick12_any a 99 (by decide) ha 99 rfl W)
  have l0 := pickP_lt a 99 (by decide)
  generalize pickP a 99 = p0 at *
  have HP1 := hide (fun W => pick12_any b 256 (by decide) hb 256 rfl W)
  have l1 := pickP_lt b 256 (by decide)
  generalize pickP b 256 = p1 at *
  have HP2 := hide (fun W => sized12_any s hs 32 (by decide) 32 rfl W)
  have HP3 := hide (fun W => sized12_any s hs 48 (by decide) 48 rfl W)
  obtain ⟨B1, B2, hbl, hs2⟩ := two_boxes w #[.int .i64 0, .int .i64 0, .int .i64 0, .int .i64 0, .int .i64 0, .int .i64 0, .string ⟨#[]⟩, .string ⟨#[]⟩, .string ⟨#[]⟩, .string ⟨#[]⟩] #[.int .i64 0, .int .i64 0, .int .i64 0, .int .i64 0, .int .i64 0, .int .i64 0, .string ⟨#[]⟩, .string ⟨#[]⟩, .string ⟨#[]⟩, .string ⟨#[]⟩] 29 29
  obtain ⟨g, hg⟩ : ∃ g, w.heap.size = g := ⟨_, rfl⟩
  rw [hg] at B1 B2 hs2 hbl ⊢
  obtain ⟨y, hy⟩ : ∃ Z, (w.alloc (.cells #[.int .i64 0, .int .i64 0, .int .i64 0, .int .i64 0, .int .i64 0, .int .i64 0, .string ⟨#[]⟩, .string ⟨#[]⟩, .string ⟨#[]⟩, .string ⟨#[]⟩] 29)).alloc (.cells #[.int .i64 0, .int .i64 0, .int .i64 0, .int .i64 0, .int .i64 0, .int .i64 0, .string ⟨#[]⟩, .string ⟨#[]⟩, .string ⟨#[]⟩, .string ⟨#[]⟩] 29) = Z := ⟨_, rfl⟩
  rw [hy] at B1 B2 hbl hs2
  have C2 := blk_setRow (cells := (Req.bare 8).cs) B2
  have C1 : Blk (y.setRow (g + 1) (Req.bare 8).cs) g _ _ := blk_setRow_other B1 (by omega)
  have hO1 : Below g w (y.setRow (g + 1) (Req.bare 8).cs) := below_setRow hbl (by omega) _
  obtain ⟨y2, hy2⟩ : ∃ Z, y.setRow (g + 1) (Req.bare 8).cs = Z := ⟨_, rfl⟩
  have HZ0 := hide B2
  rw [hy2] at C1 C2 hO1
  have HY := hide (show Blk y2 g #[.int .i64 0, .int .i64 0, .int .i64 0, .int .i64 0, .int .i64 0, .int .i64 0, .string ⟨#[]⟩, .string ⟨#[]⟩, .string ⟨#[]⟩, .string ⟨#[]⟩] 29 ∧ Blk y2 (g + 1) (⟨8, 0, 0, 0, 0, 0, ⟨#[]⟩, ⟨#[]⟩, ⟨#[]⟩, ⟨#[]⟩⟩ : Req).cs 29 ∧ Below g w y2 from ⟨C1, C2, hO1⟩)
  have HB0 := hide (built_req 8)
  have HO0 := hide (Req.one (Req.bare 8))
  have c0 : y2.cell? ⟨g + 1, 0, none⟩ = some (.int .i64 8) := by rw [(unhide HY).2.1.cell]; rfl
  clear B1 B2 hbl hs2 C1 C2 hO1 hpk hk ha hb hs hq
  go_enter Tryz.func11, Tryz.ntmps11
  go_wp2_with fail
  refine (unhide HPK _).mono ?_
  rintro e x ⟨rfl, hx⟩
  subst x
  go_wp2_with (first | refine wpList_buildAs rfl 29 #[(0, .tmp 12)] rfl _ rfl (Req.bare 8).cs (unhide HB0) ?_ | refine wpList_store_row rfl 29 (.tmp 9) (.tmp 13) rfl (g + 1) (Req.bare 8).cs rfl rfl 29 #[.int .i64 0, .int .i64 0, .int .i64 0, .int .i64 0, .int .i64 0, .int .i64 0, .string ⟨#[]⟩, .string ⟨#[]⟩, .string ⟨#[]⟩, .string ⟨#[]⟩] (unhide HZ0) size_req rfl (unhide HO0) ?_)
  refine (unhide HP0 _).mono ?_
  rintro e x ⟨rfl, hx⟩
  subst x
  clear hy hy2
  have cf0 : y2.cell? ⟨g + 1, 3, none⟩ = some (.int .i64 0) := by rw [(unhide HY).2.1.cell]; rfl
  have ff0 : y2.frozen? ⟨g + 1, 3, none⟩ = false := (unhide HY).2.1.frozen 3
  obtain ⟨y3, hy3⟩ : ∃ Z, y2.setCell ⟨g + 1, 3, none⟩ (.int .i64 (1 + (p0 : Int))) = Z := ⟨_, rfl⟩
  have HY1 := hide (show Blk y3 g #[.int .i64 0, .int .i64 0, .int .i64 0, .int .i64 0, .int .i64 0, .int .i64 0, .string ⟨#[]⟩, .string ⟨#[]⟩, .string ⟨#[]⟩, .string ⟨#[]⟩] 29 ∧ Blk y3 (g + 1) (⟨8, 0, 0, 1 + (p0 : Int), 0, 0, ⟨#[]⟩, ⟨#[]⟩, ⟨#[]⟩, ⟨#[]⟩⟩ : Req).cs 29 ∧ Below g w y3 from by
    rw [← hy3]
    obtain ⟨q1, q2, q3⟩ := unhide HY
    exact ⟨q1.other _ _ (by show g + 1 ≠ g; omega), q2.set 3 (.int .i64 (1 + (p0 : Int))), q3.setCell (by show g ≤ g + 1; omega) _⟩)
  have c00 : y3.cell? ⟨g + 1, 0, none⟩ = some (.int .i64 8) := by rw [(unhide HY1).2.1.cell]; rfl
  have w0 : IntKind.i64.wrap (1 + (p0 : Int)) = 1 + (p0 : Int) := wrapI_eq _ (by omega) (by omega)
  go_wp2_with fail
  refine (unhide HP1 _).mono ?_
  rintro e x ⟨rfl, hx⟩
  subst x
  have cf1 : y3.cell? ⟨g + 1, 4, none⟩ = some (.int .i64 0) := by rw [(unhide HY1).2.1.cell]; rfl
  have ff1 : y3.frozen? ⟨g + 1, 4, none⟩ = false := (unhide HY1).2.1.frozen 4
  obtain ⟨y4, hy4⟩ : ∃ Z, y3.setCell ⟨g + 1, 4, none⟩ (.int .i64 ((p1 : Int))) = Z := ⟨_, rfl⟩
  have HY2 := hide (show Blk y4 g #[.int .i64 0, .int .i64 0, .int .i64 0, .int .i64 0, .int .i64 0, .int .i64 0, .string ⟨#[]⟩, .string ⟨#[]⟩, .string ⟨#[]⟩, .string ⟨#[]⟩] 29 ∧ Blk y4 (g + 1) (⟨8, 0, 0, 1 + (p0 : Int), (p1 : Int), 0, ⟨#[]⟩, ⟨#[]⟩, ⟨#[]⟩, ⟨#[]⟩⟩ : Req).cs 29 ∧ Below g w y4 from by
    rw [← hy4]
    obtain ⟨q1, q2, q3⟩ := unhide HY1
    exact ⟨q1.other _ _ (by show g + 1 ≠ g; omega), q2.set 4 (.int .i64 ((p1 : Int))), q3.setCell (by show g ≤ g + 1; omega) _⟩)
  have c01 : y4.cell? ⟨g + 1, 0, none⟩ = some (.int .i64 8) := by rw [(unhide HY2).2.1.cell]; rfl
  go_wp2_with fail
  refine (unhide HP2 _).mono ?_
  rintro e x ⟨⟨t2, rfl, ht2⟩, hx⟩
  subst x
  have cf2 : y4.cell? ⟨g + 1, 6, none⟩ = some (.string ⟨#[]⟩) := by rw [(unhide HY2).2.1.cell]; rfl
  have ff2 : y4.frozen? ⟨g + 1, 6, none⟩ = false := (unhide HY2).2.1.frozen 6
  obtain ⟨y5, hy5⟩ : ∃ Z, y4.setCell ⟨g + 1, 6, none⟩ (.string t2) = Z := ⟨_, rfl⟩
  have HY3 := hide (show Blk y5 g #[.int .i64 0, .int .i64 0, .int .i64 0, .int .i64 0, .int .i64 0, .int .i64 0, .string ⟨#[]⟩, .string ⟨#[]⟩, .string ⟨#[]⟩, .string ⟨#[]⟩] 29 ∧ Blk y5 (g + 1) (⟨8, 0, 0, 1 + (p0 : Int), (p1 : Int), 0, t2, ⟨#[]⟩, ⟨#[]⟩, ⟨#[]⟩⟩ : Req).cs 29 ∧ Below g w y5 from by
    rw [← hy5]
    obtain ⟨q1, q2, q3⟩ := unhide HY2
    exact ⟨q1.other _ _ (by show g + 1 ≠ g; omega), q2.set 6 (.string t2), q3.setCell (by show g ≤ g + 1; omega) _⟩)
  have c02 : y5.cell? ⟨g + 1, 0, none⟩ = some (.int .i64 8) := by rw [(unhide HY3).2.1.cell]; rfl
  go_wp2_with fail
  refine (unhide HP3 _).mono ?_
  rintro e x ⟨⟨t3, rfl, ht3⟩, hx⟩
  subst x
  have cf3 : y5.cell? ⟨g + 1, 7, none⟩ = some (.string ⟨#[]⟩) := by rw [(unhide HY3).2.1.cell]; rfl
  have ff3 : y5.frozen? ⟨g + 1, 7, none⟩ = false := (unhide HY3).2.1.frozen 7
  obtain ⟨y6, hy6⟩ : ∃ Z, y5.setCell ⟨g + 1, 7, none⟩ (.string t3) = Z := ⟨_, rfl⟩
  have HY4 := hide (show Blk y6 g #[.int .i64 0, .int .i64 0, .int .i64 0, .int .i64 0, .int .i64 0, .int .i64 0, .string ⟨#[]⟩, .string ⟨#[]⟩, .string ⟨#[]⟩, .string ⟨#[]⟩] 29 ∧ Blk y6 (g + 1) (⟨8, 0, 0, 1 + (p0 : Int), (p1 : Int), 0, t2, t3, ⟨#[]⟩, ⟨#[]⟩⟩ : Req).cs 29 ∧ Below g w y6 from by
    rw [← hy6]
    obtain ⟨q1, q2, q3⟩ := unhide HY3
    exact ⟨q1.other _ _ (by show g + 1 ≠ g; omega), q2.set 7 (.string t3), q3.setCell (by show g ≤ g + 1; omega) _⟩)
  have c03 : y6.cell? ⟨g + 1, 0, none⟩ = some (.int .i64 8) := by rw [(unhide HY4).2.1.cell]; rfl
  have BT := blk_setRow (cells := (⟨8, 0, 0, 1 + (p0 : Int), (p1 : Int), 0, t2, t3, ⟨#[]⟩, ⟨#[]⟩⟩ : Req).cs) (unhide HY4).1
  have HL := hide (iload_blk 29 _ BT Tryz.underlying29 rfl size_req)
  have HRG := hide (show y6.rangeAt (g + 1) 0 (⟨8, 0, 0, 1 + (p0 : Int), (p1 : Int), 0, t2, t3, ⟨#[]⟩, ⟨#[]⟩⟩ : Req).cl from blk_range (unhide HY4).2.1)
  have HZ := hide (unhide HY4).1
  have HO := hide (Req.one (⟨8, 0, 0, 1 + (p0 : Int), (p1 : Int), 0, t2, t3, ⟨#[]⟩, ⟨#[]⟩⟩ : Req))
  have HF := hide (show Below g w (y6.setRow g (⟨8, 0, 0, 1 + (p0 : Int), (p1 : Int), 0, t2, t3, ⟨#[]⟩, ⟨#[]⟩⟩ : Req).cs) from below_setRow (unhide HY4).2.2 (Nat.le_refl _) _)
  have HG := hide (show GoodQ 8 (⟨8, 0, 0, 1 + (p0 : Int), (p1 : Int), 0, t2, t3, ⟨#[]⟩, ⟨#[]⟩⟩ : Req) from ⟨rfl, by
    have e : rqF 8 = [fVol, fBlo, fDig, fWra] := rfl
    unfold lqB
    rw [show (⟨8, 0, 0, 1 + (p0 : Int), (p1 : Int), 0, t2, t3, ⟨#[]⟩, ⟨#[]⟩⟩ : Req).kd = 8 from rfl, e, layQ_ok (f := fVol) (r := (⟨8, 0, 0, 1 + (p0 : Int), (p1 : Int), 0, t2, t3, ⟨#[]⟩, ⟨#[]⟩⟩ : Req)) (decide_eq_true (p := ((1 : Nat) : Int) ≤ 1 + (p0 : Int) ∧ 1 + (p0 : Int) ≤ ((99 : Nat) : Int)) ⟨by omega, by omega⟩), layQ_ok (f := fBlo) (r := (exq fVol (⟨8, 0, 0, 1 + (p0 : Int), (p1 : Int), 0, t2, t3, ⟨#[]⟩, ⟨#[]⟩⟩ : Req) Prt.nil).1) (decide_eq_true (p := ((0 : Nat) : Int) ≤ (p1 : Int) ∧ (p1 : Int) ≤ ((255 : Nat) : Int)) ⟨by omega, by omega⟩), layQ_ok (f := fDig) (r := (exq fBlo (exq fVol (⟨8, 0, 0, 1 + (p0 : Int), (p1 : Int), 0, t2, t3, ⟨#[]⟩, ⟨#[]⟩⟩ : Req) Prt.nil).1 Prt.nil).1) (decide_eq_true (p := t2.size = 32) ht2), layQ_ok (f := fWra) (r := (exq fDig (exq fBlo (exq fVol (⟨8, 0, 0, 1 + (p0 : Int), (p1 : Int), 0, t2, t3, ⟨#[]⟩, ⟨#[]⟩⟩ : Req) Prt.nil).1 Prt.nil).1 Prt.nil).1) (decide_eq_true (p := t3.size = 48) ht3)]
    exact eqQ_self (Req.bare 8)⟩)
  clear BT
  go_wp2_with (first | refine wpList_load_mid rfl 29 (.tmp 9) rfl (g + 1) 0 rfl (⟨8, 0, 0, 1 + (p0 : Int), (p1 : Int), 0, t2, t3, ⟨#[]⟩, ⟨#[]⟩⟩ : Req).cl _ (unhide HRG) Tryz.underlying29 rfl size_req ?_ | refine wpList_store_row rfl 29 (.tmp 8) (.tmp 82) rfl g (⟨8, 0, 0, 1 + (p0 : Int), (p1 : Int), 0, t2, t3, ⟨#[]⟩, ⟨#[]⟩⟩ : Req).cs rfl rfl 29 #[.int .i64 0, .int .i64 0, .int .i64 0, .int .i64 0, .int .i64 0, .int .i64 0, .string ⟨#[]⟩, .string ⟨#[]⟩, .string ⟨#[]⟩, .string ⟨#[]⟩] (unhide HZ) size_req rfl (unhide HO) ?_)
  (try simp only [Exit.inBlock, Exit.then])
  refine bodyPost_ret (results_cell rfl _ _ _ ⟨g, 0, none⟩ rfl _ (unhide HL)) rfl ?_
  exact ⟨⟨_, rfl, unhide HG⟩, unhide HF⟩
set_option maxHeartbeats 4000000 in
theorem rq12_9 (kind a b : Int) (hk : I64 kind) (hq : pickP kind 12 = 8) (ha : I64 a) (hb : I64 b) (s : ByteArray) (hs : s.size ≤ 140737488351232) (w : World) :
    Calls Tryz.prog 11 #[.int .i64 kind, .int .i64 a, .int .i64 b, .string s] w fun e w' => (∃ r : Req, e = .returned (.agg r.cs) ∧ GoodQ 9 r) ∧ Below w.heap.size w w' := by
  have HU := hide (And.intro ha (And.intro hb hs))
  clear HU
  have hpk := fun W => pick12_any kind 12 (by decide) hk 12 rfl W
  simp only [hq, Int.cast_ofNat_Int] at hpk
  have HPK := hide hpk
  have HP0 := hide (fun W => pick12_any a 4294967296 (by decide) ha 4294967296 rfl W)
  have l0 := pickP_lt a 4294967296 (by decide)
  generalize pickP a 4294967296 = p0 at *
  have HP1 := hide (fun W => sized12_any s hs 8 (by decide) 8 rfl W)
  obtain ⟨B1, B2, hbl, hs2⟩ := two_boxes w #[.int .i64 0, .int .i64 0, .int .i64 0, .int .i64 0, .int .i64 0, .int .i64 0, .string ⟨#[]⟩, .string ⟨#[]⟩, .string ⟨#[]⟩, .string ⟨#[]⟩] #[.int .i64 0, .int .i64 0, .int .i64 0, .int .i64 0, .int .i64 0, .int .i64 0, .string ⟨#[]⟩, .string ⟨#[]⟩, .string ⟨#[]⟩, .string ⟨#[]⟩] 29 29
  obtain ⟨g, hg⟩ : ∃ g, w.heap.size = g := ⟨_, rfl⟩
  rw [hg] at B1 B2 hs2 hbl ⊢
  obtain ⟨y, hy⟩ : ∃ Z, (w.alloc (.cells #[.int .i64 0, .int .i64 0, .int .i64 0, .int .i64 0, .int .i64 0, .int .i64 0, .string ⟨#[]⟩, .string ⟨#[]⟩, .string ⟨#[]⟩, .string ⟨#[]⟩] 29)).alloc (.cells #[.int .i64 0, .int .i64 0, .int .i64 0, .int .i64 0, .int .i64 0, .int .i64 0, .string ⟨#[]⟩, .string ⟨#[]⟩, .string ⟨#[]⟩, .string ⟨#[]⟩] 29) = Z := ⟨_, rfl⟩
  rw [hy] at B1 B2 hbl hs2
  have C2 := blk_setRow (cells := (Req.bare 9).cs) B2
  have C1 : Blk (y.setRow (g + 1) (Req.bare 9).cs) g _ _ := blk_setRow_other B1 (by omega)
  have hO1 : Below g w (y.setRow (g + 1) (Req.bare 9).cs) := below_setRow hbl (by omega) _
  obtain ⟨y2, hy2⟩ : ∃ Z, y.setRow (g + 1) (Req.bare 9).cs = Z := ⟨_, rfl⟩
  have HZ0 := hide B2
  rw [hy2] at C1 C2 hO1
  have HY := hide (show Blk y2 g #[.int .i64 0, .int .i64 0, .int .i64 0, .int .i64 0, .int .i64 0, .int .i64 0, .string ⟨#[]⟩, .string ⟨#[]⟩, .string ⟨#[]⟩, .string ⟨#[]⟩] 29 ∧ Blk y2 (g + 1) (⟨9, 0, 0, 0, 0, 0, ⟨#[]⟩, ⟨#[]⟩, ⟨#[]⟩, ⟨#[]⟩⟩ : Req).cs 29 ∧ Below g w y2 from ⟨C1, C2, hO1⟩)
  have HB0 := hide (built_req 9)
  have HO0 := hide (Req.one (Req.bare 9))
  have c0 : y2.cell? ⟨g + 1, 0, none⟩ = some (.int .i64 9) := by rw [(unhide HY).2.1.cell]; rfl
  clear B1 B2 hbl hs2 C1 C2 hO1 hpk hk ha hb hs hq
  go_enter Tryz.func11, Tryz.ntmps11
  go_wp2_with fail
  refine (unhide HPK _).mono ?_
  rintro e x ⟨rfl, hx⟩
  subst x
  go_wp2_with (first | refine wpList_buildAs rfl 29 #[(0, .tmp 12)] rfl _ rfl (Req.bare 9).cs (unhide HB0) ?_ | refine wpList_store_row rfl 29 (.tmp 9) (.tmp 13) rfl (g + 1) (Req.bare 9).cs rfl rfl 29 #[.int .i64 0, .int .i64 0, .int .i64 0, .int .i64 0, .int .i64 0, .int .i64 0, .string ⟨#[]⟩, .string ⟨#[]⟩, .string ⟨#[]⟩, .string ⟨#[]⟩] (unhide HZ0) size_req rfl (unhide HO0) ?_)
  refine (unhide HP0 _).mono ?_
  rintro e x ⟨rfl, hx⟩
  subst x
  clear hy hy2
  have cf0 : y2.cell? ⟨g + 1, 5, none⟩ = some (.int .i64 0) := by rw [(unhide HY).2.1.cell]; rfl
  have ff0 : y2.frozen? ⟨g + 1, 5, none⟩ = false := (unhide HY).2.1.frozen 5
  obtain ⟨y3, hy3⟩ : ∃ Z, y2.setCell ⟨g + 1, 5, none⟩ (.int .i64 ((p0 : Int))) = Z := ⟨_, rfl⟩
  have HY1 := hide (show Blk y3 g #[.int .i64 0, .int .i64 0, .int .i64 0, .int .i64 0, .int .i64 0, .int .i64 0, .string ⟨#[]⟩, .string ⟨#[]⟩, .string ⟨#[]⟩, .string ⟨#[]⟩] 29 ∧ Blk y3 (g + 1) (⟨9, 0, 0, 0, 0, (p0 : Int), ⟨#[]⟩, ⟨#[]⟩, ⟨#[]⟩, ⟨#[]⟩⟩ : Req).cs 29 ∧ Below g w y3 from by
    rw [← hy3]
    obtain ⟨q1, q2, q3⟩ := unhide HY
    exact ⟨q1.other _ _ (by show g + 1 ≠ g; omega), q2.set 5 (.int .i64 ((p0 : Int))), q3.setCell (by show g ≤ g + 1; omega) _⟩)
  have c00 : y3.cell? ⟨g + 1, 0, none⟩ = some (.int .i64 9) := by rw [(unhide HY1).2.1.cell]; rfl
  go_wp2_with fail
  refine (unhide HP1 _).mono ?_
  rintro e x ⟨⟨t1, rfl, ht1⟩, hx⟩
  subst x
  have cf1 : y3.cell? ⟨g + 1, 8, none⟩ = some (.string ⟨#[]⟩) := by rw [(unhide HY1).2.1.cell]; rfl
  have ff1 : y3.frozen? ⟨g + 1, 8, none⟩ = false := (unhide HY1).2.1.frozen 8
  obtain ⟨y4, hy4⟩ : ∃ Z, y3.setCell ⟨g + 1, 8, none⟩ (.string t1) = Z := ⟨_, rfl⟩
  have HY2 := hide (show Blk y4 g #[.int .i64 0, .int .i64 0, .int .i64 0, .int .i64 0, .int .i64 0, .int .i64 0, .string ⟨#[]⟩, .string ⟨#[]⟩, .string ⟨#[]⟩, .string ⟨#[]⟩] 29 ∧ Blk y4 (g + 1) (⟨9, 0, 0, 0, 0, (p0 : Int), ⟨#[]⟩, ⟨#[]⟩, t1, ⟨#[]⟩⟩ : Req).cs 29 ∧ Below g w y4 from by
    rw [← hy4]
    obtain ⟨q1, q2, q3⟩ := unhide HY1
    exact ⟨q1.other _ _ (by show g + 1 ≠ g; omega), q2.set 8 (.string t1), q3.setCell (by show g ≤ g + 1; omega) _⟩)
  have c01 : y4.cell? ⟨g + 1, 0, none⟩ = some (.int .i64 9) := by rw [(unhide HY2).2.1.cell]; rfl
  have BT := blk_setRow (cells := (⟨9, 0, 0, 0, 0, (p0 : Int), ⟨#[]⟩, ⟨#[]⟩, t1, ⟨#[]⟩⟩ : Req).cs) (unhide HY2).1
  have HL := hide (iload_blk 29 _ BT Tryz.underlying29 rfl size_req)
  have HRG := hide (show y4.rangeAt (g + 1) 0 (⟨9, 0, 0, 0, 0, (p0 : Int), ⟨#[]⟩, ⟨#[]⟩, t1, ⟨#[]⟩⟩ : Req).cl from blk_range (unhide HY2).2.1)
  have HZ := hide (unhide HY2).1
  have HO := hide (Req.one (⟨9, 0, 0, 0, 0, (p0 : Int), ⟨#[]⟩, ⟨#[]⟩, t1, ⟨#[]⟩⟩ : Req))
  have HF := hide (show Below g w (y4.setRow g (⟨9, 0, 0, 0, 0, (p0 : Int), ⟨#[]⟩, ⟨#[]⟩, t1, ⟨#[]⟩⟩ : Req).cs) from below_setRow (unhide HY2).2.2 (Nat.le_refl _) _)
  have HG := hide (show GoodQ 9 (⟨9, 0, 0, 0, 0, (p0 : Int), ⟨#[]⟩, ⟨#[]⟩, t1, ⟨#[]⟩⟩ : Req) from ⟨rfl, by
    have e : rqF 9 = [fNon, fSam] := rfl
    unfold lqB
    rw [show (⟨9, 0, 0, 0, 0, (p0 : Int), ⟨#[]⟩, ⟨#[]⟩, t1, ⟨#[]⟩⟩ : Req).kd = 9 from rfl, e, layQ_ok (f := fNon) (r := (⟨9, 0, 0, 0, 0, (p0 : Int), ⟨#[]⟩, ⟨#[]⟩, t1, ⟨#[]⟩⟩ : Req)) (decide_eq_true (p := ((0 : Nat) : Int) ≤ (p0 : Int) ∧ (p0 : Int) ≤ ((4294967295 : Nat) : Int)) ⟨by omega, by omega⟩), layQ_ok (f := fSam) (r := (exq fNon (⟨9, 0, 0, 0, 0, (p0 : Int), ⟨#[]⟩, ⟨#[]⟩, t1, ⟨#[]⟩⟩ : Req) Prt.nil).1) (decide_eq_true (p := t1.size = 8) ht1)]
    exact eqQ_self (Req.bare 9)⟩)
  clear BT
  go_wp2_with (first | refine wpList_load_mid rfl 29 (.tmp 9) rfl (g + 1) 0 rfl (⟨9, 0, 0, 0, 0, (p0 : Int), ⟨#[]⟩, ⟨#[]⟩, t1, ⟨#[]⟩⟩ : Req).cl _ (unhide HRG) Tryz.underlying29 rfl size_req ?_ | refine wpList_store_row rfl 29 (.tmp 8) (.tmp 82) rfl g (⟨9, 0, 0, 0, 0, (p0 : Int), ⟨#[]⟩, ⟨#[]⟩, t1, ⟨#[]⟩⟩ : Req).cs rfl rfl 29 #[.int .i64 0, .int .i64 0, .int .i64 0, .int .i64 0, .int .i64 0, .int .i64 0, .string ⟨#[]⟩, .string ⟨#[]⟩, .string ⟨#[]⟩, .string ⟨#[]⟩] (unhide HZ) size_req rfl (unhide HO) ?_)
  (try simp only [Exit.inBlock, Exit.then])
  refine bodyPost_ret (results_cell rfl _ _ _ ⟨g, 0, none⟩ rfl _ (unhide HL)) rfl ?_
  exact ⟨⟨_, rfl, unhide HG⟩, unhide HF⟩
set_option maxHeartbeats 4000000 in
theorem rq12_10 (kind a b : Int) (hk : I64 kind) (hq : pickP kind 12 = 9) (ha : I64 a) (hb : I64 b) (s : ByteArray) (hs : s.size ≤ 140737488351232) (w : World) :
    Calls Tryz.prog 11 #[.int .i64 kind, .int .i64 a, .int .i64 b, .string s] w fun e w' => (∃ r : Req, e = .returned (.agg r.cs) ∧ GoodQ 10 r) ∧ Below w.heap.size w w' := by
  have HU := hide (And.intro ha (And.intro hb hs))
  clear HU
  have hpk := fun W => pick12_any kind 12 (by decide) hk 12 rfl W
  simp only [hq, Int.cast_ofNat_Int] at hpk
  have HPK := hide hpk
  have HP0 := hide (fun W => pick12_any a 99 (by decide) ha 99 rfl W)
  have l0 := pickP_lt a 99 (by decide)
  generalize pickP a 99 = p0 at *
  have HP1 := hide (fun W => pick12_any b 256 (by decide) hb 256 rfl W)
  have l1 := pickP_lt b 256 (by decide)
  generalize pickP b 256 = p1 at *
  have HP2 := hide (fun W => sized12_any s hs 48 (by decide) 48 rfl W)
  have HP3 := hide (fun W => sized12_any s hs 256 (by decide) 256 rfl W)
  obtain ⟨B1, B2, hbl, hs2⟩ := two_boxes w #[.int .i64 0, .int .i64 0, .int .i64 0, .int .i64 0, .int .i64 0, .int .i64 0, .string ⟨#[]⟩, .string ⟨#[]⟩, .string ⟨#[]⟩, .string ⟨#[]⟩] #[.int .i64 0, .int .i64 0, .int .i64 0, .int .i64 0, .int .i64 0, .int .i64 0, .string ⟨#[]⟩, .string ⟨#[]⟩, .string ⟨#[]⟩, .string ⟨#[]⟩] 29 29
  obtain ⟨g, hg⟩ : ∃ g, w.heap.size = g := ⟨_, rfl⟩
  rw [hg] at B1 B2 hs2 hbl ⊢
  obtain ⟨y, hy⟩ : ∃ Z, (w.alloc (.cells #[.int .i64 0, .int .i64 0, .int .i64 0, .int .i64 0, .int .i64 0, .int .i64 0, .string ⟨#[]⟩, .string ⟨#[]⟩, .string ⟨#[]⟩, .string ⟨#[]⟩] 29)).alloc (.cells #[.int .i64 0, .int .i64 0, .int .i64 0, .int .i64 0, .int .i64 0, .int .i64 0, .string ⟨#[]⟩, .string ⟨#[]⟩, .string ⟨#[]⟩, .string ⟨#[]⟩] 29) = Z := ⟨_, rfl⟩
  rw [hy] at B1 B2 hbl hs2
  have C2 := blk_setRow (cells := (Req.bare 10).cs) B2
  have C1 : Blk (y.setRow (g + 1) (Req.bare 10).cs) g _ _ := blk_setRow_other B1 (by omega)
  have hO1 : Below g w (y.setRow (g + 1) (Req.bare 10).cs) := below_setRow hbl (by omega) _
  obtain ⟨y2, hy2⟩ : ∃ Z, y.setRow (g + 1) (Req.bare 10).cs = Z := ⟨_, rfl⟩
  have HZ0 := hide B2
  rw [hy2] at C1 C2 hO1
  have HY := hide (show Blk y2 g #[.int .i64 0, .int .i64 0, .int .i64 0, .int .i64 0, .int .i64 0, .int .i64 0, .string ⟨#[]⟩, .string ⟨#[]⟩, .string ⟨#[]⟩, .string ⟨#[]⟩] 29 ∧ Blk y2 (g + 1) (⟨10, 0, 0, 0, 0, 0, ⟨#[]⟩, ⟨#[]⟩, ⟨#[]⟩, ⟨#[]⟩⟩ : Req).cs 29 ∧ Below g w y2 from ⟨C1, C2, hO1⟩)
  have HB0 := hide (built_req 10)
  have HO0 := hide (Req.one (Req.bare 10))
  have c0 : y2.cell? ⟨g + 1, 0, none⟩ = some (.int .i64 10) := by rw [(unhide HY).2.1.cell]; rfl
  clear B1 B2 hbl hs2 C1 C2 hO1 hpk hk ha hb hs hq
  go_enter Tryz.func11, Tryz.ntmps11
  go_wp2_with fail
  refine (unhide HPK _).mono ?_
  rintro e x ⟨rfl, hx⟩
  subst x
  go_wp2_with (first | refine wpList_buildAs rfl 29 #[(0, .tmp 12)] rfl _ rfl (Req.bare 10).cs (unhide HB0) ?_ | refine wpList_store_row rfl 29 (.tmp 9) (.tmp 13) rfl (g + 1) (Req.bare 10).cs rfl rfl 29 #[.int .i64 0, .int .i64 0, .int .i64 0, .int .i64 0, .int .i64 0, .int .i64 0, .string ⟨#[]⟩, .string ⟨#[]⟩, .string ⟨#[]⟩, .string ⟨#[]⟩] (unhide HZ0) size_req rfl (unhide HO0) ?_)
  refine (unhide HP0 _).mono ?_
  rintro e x ⟨rfl, hx⟩
  subst x
  clear hy hy2
  have cf0 : y2.cell? ⟨g + 1, 3, none⟩ = some (.int .i64 0) := by rw [(unhide HY).2.1.cell]; rfl
  have ff0 : y2.frozen? ⟨g + 1, 3, none⟩ = false := (unhide HY).2.1.frozen 3
  obtain ⟨y3, hy3⟩ : ∃ Z, y2.setCell ⟨g + 1, 3, none⟩ (.int .i64 (1 + (p0 : Int))) = Z := ⟨_, rfl⟩
  have HY1 := hide (show Blk y3 g #[.int .i64 0, .int .i64 0, .int .i64 0, .int .i64 0, .int .i64 0, .int .i64 0, .string ⟨#[]⟩, .string ⟨#[]⟩, .string ⟨#[]⟩, .string ⟨#[]⟩] 29 ∧ Blk y3 (g + 1) (⟨10, 0, 0, 1 + (p0 : Int), 0, 0, ⟨#[]⟩, ⟨#[]⟩, ⟨#[]⟩, ⟨#[]⟩⟩ : Req).cs 29 ∧ Below g w y3 from by
    rw [← hy3]
    obtain ⟨q1, q2, q3⟩ := unhide HY
    exact ⟨q1.other _ _ (by show g + 1 ≠ g; omega), q2.set 3 (.int .i64 (1 + (p0 : Int))), q3.setCell (by show g ≤ g + 1; omega) _⟩)
  have c00 : y3.cell? ⟨g + 1, 0, none⟩ = some (.int .i64 10) := by rw [(unhide HY1).2.1.cell]; rfl
  have w0 : IntKind.i64.wrap (1 + (p0 : Int)) = 1 + (p0 : Int) := wrapI_eq _ (by omega) (by omega)
  go_wp2_with fail
  refine (unhide HP1 _).mono ?_
  rintro e x ⟨rfl, hx⟩
  subst x
  have cf1 : y3.cell? ⟨g + 1, 4, none⟩ = some (.int .i64 0) := by rw [(unhide HY1).2.1.cell]; rfl
  have ff1 : y3.frozen? ⟨g + 1, 4, none⟩ = false := (unhide HY1).2.1.frozen 4
  obtain ⟨y4, hy4⟩ : ∃ Z, y3.setCell ⟨g + 1, 4, none⟩ (.int .i64 ((p1 : Int))) = Z := ⟨_, rfl⟩
  have HY2 := hide (show Blk y4 g #[.int .i64 0, .int .i64 0, .int .i64 0, .int .i64 0, .int .i64 0, .int .i64 0, .string ⟨#[]⟩, .string ⟨#[]⟩, .string ⟨#[]⟩, .string ⟨#[]⟩] 29 ∧ Blk y4 (g + 1) (⟨10, 0, 0, 1 + (p0 : Int), (p1 : Int), 0, ⟨#[]⟩, ⟨#[]⟩, ⟨#[]⟩, ⟨#[]⟩⟩ : Req).cs 29 ∧ Below g w y4 from by
    rw [← hy4]
    obtain ⟨q1, q2, q3⟩ := unhide HY1
    exact ⟨q1.other _ _ (by show g + 1 ≠ g; omega), q2.set 4 (.int .i64 ((p1 : Int))), q3.setCell (by show g ≤ g + 1; omega) _⟩)
  have c01 : y4.cell? ⟨g + 1, 0, none⟩ = some (.int .i64 10) := by rw [(unhide HY2).2.1.cell]; rfl
  go_wp2_with fail
  refine (unhide HP2 _).mono ?_
  rintro e x ⟨⟨t2, rfl, ht2⟩, hx⟩
  subst x
  have cf2 : y4.cell? ⟨g + 1, 7, none⟩ = some (.string ⟨#[]⟩) := by rw [(unhide HY2).2.1.cell]; rfl
  have ff2 : y4.frozen? ⟨g + 1, 7, none⟩ = false := (unhide HY2).2.1.frozen 7
  obtain ⟨y5, hy5⟩ : ∃ Z, y4.setCell ⟨g + 1, 7, none⟩ (.string t2) = Z := ⟨_, rfl⟩
  have HY3 := hide (show Blk y5 g #[.int .i64 0, .int .i64 0, .int .i64 0, .int .i64 0, .int .i64 0, .int .i64 0, .string ⟨#[]⟩, .string ⟨#[]⟩, .string ⟨#[]⟩, .string ⟨#[]⟩] 29 ∧ Blk y5 (g + 1) (⟨10, 0, 0, 1 + (p0 : Int), (p1 : Int), 0, ⟨#[]⟩, t2, ⟨#[]⟩, ⟨#[]⟩⟩ : Req).cs 29 ∧ Below g w y5 from by
    rw [← hy5]
    obtain ⟨q1, q2, q3⟩ := unhide HY2
    exact ⟨q1.other _ _ (by show g + 1 ≠ g; omega), q2.set 7 (.string t2), q3.setCell (by show g ≤ g + 1; omega) _⟩)
  have c02 : y5.cell? ⟨g + 1, 0, none⟩ = some (.int .i64 10) := by rw [(unhide HY3).2.1.cell]; rfl
  go_wp2_with fail
  refine (unhide HP3 _).mono ?_
  rintro e x ⟨⟨t3, rfl, ht3⟩, hx⟩
  subst x
  have cf3 : y5.cell? ⟨g + 1, 9, none⟩ = some (.string ⟨#[]⟩) := by rw [(unhide HY3).2.1.cell]; rfl
  have ff3 : y5.frozen? ⟨g + 1, 9, none⟩ = false := (unhide HY3).2.1.frozen 9
  obtain ⟨y6, hy6⟩ : ∃ Z, y5.setCell ⟨g + 1, 9, none⟩ (.string t3) = Z := ⟨_, rfl⟩
  have HY4 := hide (show Blk y6 g #[.int .i64 0, .int .i64 0, .int .i64 0, .int .i64 0, .int .i64 0, .int .i64 0, .string ⟨#[]⟩, .string ⟨#[]⟩, .string ⟨#[]⟩, .string ⟨#[]⟩] 29 ∧ Blk y6 (g + 1) (⟨10, 0, 0, 1 + (p0 : Int), (p1 : Int), 0, ⟨#[]⟩, t2, ⟨#[]⟩, t3⟩ : Req).cs 29 ∧ Below g w y6 from by
    rw [← hy6]
    obtain ⟨q1, q2, q3⟩ := unhide HY3
    exact ⟨q1.other _ _ (by show g + 1 ≠ g; omega), q2.set 9 (.string t3), q3.setCell (by show g ≤ g + 1; omega) _⟩)
  have c03 : y6.cell? ⟨g + 1, 0, none⟩ = some (.int .i64 10) := by rw [(unhide HY4).2.1.cell]; rfl
  have BT := blk_setRow (cells := (⟨10, 0, 0, 1 + (p0 : Int), (p1 : Int), 0, ⟨#[]⟩, t2, ⟨#[]⟩, t3⟩ : Req).cs) (unhide HY4).1
  have HL := hide (iload_blk 29 _ BT Tryz.underlying29 rfl size_req)
  have HRG := hide (show y6.rangeAt (g + 1) 0 (⟨10, 0, 0, 1 + (p0 : Int), (p1 : Int), 0, ⟨#[]⟩, t2, ⟨#[]⟩, t3⟩ : Req).cl from blk_range (unhide HY4).2.1)
  have HZ := hide (unhide HY4).1
  have HO := hide (Req.one (⟨10, 0, 0, 1 + (p0 : Int), (p1 : Int), 0, ⟨#[]⟩, t2, ⟨#[]⟩, t3⟩ : Req))
  have HF := hide (show Below g w (y6.setRow g (⟨10, 0, 0, 1 + (p0 : Int), (p1 : Int), 0, ⟨#[]⟩, t2, ⟨#[]⟩, t3⟩ : Req).cs) from below_setRow (unhide HY4).2.2 (Nat.le_refl _) _)
  have HG := hide (show GoodQ 10 (⟨10, 0, 0, 1 + (p0 : Int), (p1 : Int), 0, ⟨#[]⟩, t2, ⟨#[]⟩, t3⟩ : Req) from ⟨rfl, by
    have e : rqF 10 = [fVol, fBlo, fWra, fDat] := rfl
    unfold lqB
    rw [show (⟨10, 0, 0, 1 + (p0 : Int), (p1 : Int), 0, ⟨#[]⟩, t2, ⟨#[]⟩, t3⟩ : Req).kd = 10 from rfl, e, layQ_ok (f := fVol) (r := (⟨10, 0, 0, 1 + (p0 : Int), (p1 : Int), 0, ⟨#[]⟩, t2, ⟨#[]⟩, t3⟩ : Req)) (decide_eq_true (p := ((1 : Nat) : Int) ≤ 1 + (p0 : Int) ∧ 1 + (p0 : Int) ≤ ((99 : Nat) : Int)) ⟨by omega, by omega⟩), layQ_ok (f := fBlo) (r := (exq fVol (⟨10, 0, 0, 1 + (p0 : Int), (p1 : Int), 0, ⟨#[]⟩, t2, ⟨#[]⟩, t3⟩ : Req) Prt.nil).1) (decide_eq_true (p := ((0 : Nat) : Int) ≤ (p1 : Int) ∧ (p1 : Int) ≤ ((255 : Nat) : Int)) ⟨by omega, by omega⟩), layQ_ok (f := fWra) (r := (exq fBlo (exq fVol (⟨10, 0, 0, 1 + (p0 : Int), (p1 : Int), 0, ⟨#[]⟩, t2, ⟨#[]⟩, t3⟩ : Req) Prt.nil).1 Prt.nil).1) (decide_eq_true (p := t2.size = 48) ht2), layQ_ok (f := fDat) (r := (exq fWra (exq fBlo (exq fVol (⟨10, 0, 0, 1 + (p0 : Int), (p1 : Int), 0, ⟨#[]⟩, t2, ⟨#[]⟩, t3⟩ : Req) Prt.nil).1 Prt.nil).1 Prt.nil).1) (decide_eq_true (p := t3.size = 256) ht3)]
    exact eqQ_self (Req.bare 10)⟩)
  clear BT
  go_wp2_with (first | refine wpList_load_mid rfl 29 (.tmp 9) rfl (g + 1) 0 rfl (⟨10, 0, 0, 1 + (p0 : Int), (p1 : Int), 0, ⟨#[]⟩, t2, ⟨#[]⟩, t3⟩ : Req).cl _ (unhide HRG) Tryz.underlying29 rfl size_req ?_ | refine wpList_store_row rfl 29 (.tmp 8) (.tmp 82) rfl g (⟨10, 0, 0, 1 + (p0 : Int), (p1 : Int), 0, ⟨#[]⟩, t2, ⟨#[]⟩, t3⟩ : Req).cs rfl rfl 29 #[.int .i64 0, .int .i64 0, .int .i64 0, .int .i64 0, .int .i64 0, .int .i64 0, .string ⟨#[]⟩, .string ⟨#[]⟩, .string ⟨#[]⟩, .string ⟨#[]⟩] (unhide HZ) size_req rfl (unhide HO) ?_)
  (try simp only [Exit.inBlock, Exit.then])
  refine bodyPost_ret (results_cell rfl _ _ _ ⟨g, 0, none⟩ rfl _ (unhide HL)) rfl ?_
  exact ⟨⟨_, rfl, unhide HG⟩, unhide HF⟩
set_option maxHeartbeats 4000000 in
theorem rq12_11 (kind a b : Int) (hk : I64 kind) (hq : pickP kind 12 = 10) (ha : I64 a) (hb : I64 b) (s : ByteArray) (hs : s.size ≤ 140737488351232) (w : World) :
    Calls Tryz.prog 11 #[.int .i64 kind, .int .i64 a, .int .i64 b, .string s] w fun e w' => (∃ r : Req, e = .returned (.agg r.cs) ∧ GoodQ 11 r) ∧ Below w.heap.size w w' := by
  have HU := hide (And.intro ha (And.intro hb hs))
  clear HU
  have hpk := fun W => pick12_any kind 12 (by decide) hk 12 rfl W
  simp only [hq, Int.cast_ofNat_Int] at hpk
  have HPK := hide hpk
  have HP0 := hide (fun W => pick12_any a 99 (by decide) ha 99 rfl W)
  have l0 := pickP_lt a 99 (by decide)
  generalize pickP a 99 = p0 at *
  have HP1 := hide (fun W => pick12_any b 256 (by decide) hb 256 rfl W)
  have l1 := pickP_lt b 256 (by decide)
  generalize pickP b 256 = p1 at *
  obtain ⟨B1, B2, hbl, hs2⟩ := two_boxes w #[.int .i64 0, .int .i64 0, .int .i64 0, .int .i64 0, .int .i64 0, .int .i64 0, .string ⟨#[]⟩, .string ⟨#[]⟩, .string ⟨#[]⟩, .string ⟨#[]⟩] #[.int .i64 0, .int .i64 0, .int .i64 0, .int .i64 0, .int .i64 0, .int .i64 0, .string ⟨#[]⟩, .string ⟨#[]⟩, .string ⟨#[]⟩, .string ⟨#[]⟩] 29 29
  obtain ⟨g, hg⟩ : ∃ g, w.heap.size = g := ⟨_, rfl⟩
  rw [hg] at B1 B2 hs2 hbl ⊢
  obtain ⟨y, hy⟩ : ∃ Z, (w.alloc (.cells #[.int .i64 0, .int .i64 0, .int .i64 0, .int .i64 0, .int .i64 0, .int .i64 0, .string ⟨#[]⟩, .string ⟨#[]⟩, .string ⟨#[]⟩, .string ⟨#[]⟩] 29)).alloc (.cells #[.int .i64 0, .int .i64 0, .int .i64 0, .int .i64 0, .int .i64 0, .int .i64 0, .string ⟨#[]⟩, .string ⟨#[]⟩, .string ⟨#[]⟩, .string ⟨#[]⟩] 29) = Z := ⟨_, rfl⟩
  rw [hy] at B1 B2 hbl hs2
  have C2 := blk_setRow (cells := (Req.bare 11).cs) B2
  have C1 : Blk (y.setRow (g + 1) (Req.bare 11).cs) g _ _ := blk_setRow_other B1 (by omega)
  have hO1 : Below g w (y.setRow (g + 1) (Req.bare 11).cs) := below_setRow hbl (by omega) _
  obtain ⟨y2, hy2⟩ : ∃ Z, y.setRow (g + 1) (Req.bare 11).cs = Z := ⟨_, rfl⟩
  have HZ0 := hide B2
  rw [hy2] at C1 C2 hO1
  have HY := hide (show Blk y2 g #[.int .i64 0, .int .i64 0, .int .i64 0, .int .i64 0, .int .i64 0, .int .i64 0, .string ⟨#[]⟩, .string ⟨#[]⟩, .string ⟨#[]⟩, .string ⟨#[]⟩] 29 ∧ Blk y2 (g + 1) (⟨11, 0, 0, 0, 0, 0, ⟨#[]⟩, ⟨#[]⟩, ⟨#[]⟩, ⟨#[]⟩⟩ : Req).cs 29 ∧ Below g w y2 from ⟨C1, C2, hO1⟩)
  have HB0 := hide (built_req 11)
  have HO0 := hide (Req.one (Req.bare 11))
  have c0 : y2.cell? ⟨g + 1, 0, none⟩ = some (.int .i64 11) := by rw [(unhide HY).2.1.cell]; rfl
  clear B1 B2 hbl hs2 C1 C2 hO1 hpk hk ha hb hs hq
  go_enter Tryz.func11, Tryz.ntmps11
  go_wp2_with fail
  refine (unhide HPK _).mono ?_
  rintro e x ⟨rfl, hx⟩
  subst x
  go_wp2_with (first | refine wpList_buildAs rfl 29 #[(0, .tmp 12)] rfl _ rfl (Req.bare 11).cs (unhide HB0) ?_ | refine wpList_store_row rfl 29 (.tmp 9) (.tmp 13) rfl (g + 1) (Req.bare 11).cs rfl rfl 29 #[.int .i64 0, .int .i64 0, .int .i64 0, .int .i64 0, .int .i64 0, .int .i64 0, .string ⟨#[]⟩, .string ⟨#[]⟩, .string ⟨#[]⟩, .string ⟨#[]⟩] (unhide HZ0) size_req rfl (unhide HO0) ?_)
  refine (unhide HP0 _).mono ?_
  rintro e x ⟨rfl, hx⟩
  subst x
  clear hy hy2
  have cf0 : y2.cell? ⟨g + 1, 3, none⟩ = some (.int .i64 0) := by rw [(unhide HY).2.1.cell]; rfl
  have ff0 : y2.frozen? ⟨g + 1, 3, none⟩ = false := (unhide HY).2.1.frozen 3
  obtain ⟨y3, hy3⟩ : ∃ Z, y2.setCell ⟨g + 1, 3, none⟩ (.int .i64 (1 + (p0 : Int))) = Z := ⟨_, rfl⟩
  have HY1 := hide (show Blk y3 g #[.int .i64 0, .int .i64 0, .int .i64 0, .int .i64 0, .int .i64 0, .int .i64 0, .string ⟨#[]⟩, .string ⟨#[]⟩, .string ⟨#[]⟩, .string ⟨#[]⟩] 29 ∧ Blk y3 (g + 1) (⟨11, 0, 0, 1 + (p0 : Int), 0, 0, ⟨#[]⟩, ⟨#[]⟩, ⟨#[]⟩, ⟨#[]⟩⟩ : Req).cs 29 ∧ Below g w y3 from by
    rw [← hy3]
    obtain ⟨q1, q2, q3⟩ := unhide HY
    exact ⟨q1.other _ _ (by show g + 1 ≠ g; omega), q2.set 3 (.int .i64 (1 + (p0 : Int))), q3.setCell (by show g ≤ g + 1; omega) _⟩)
  have c00 : y3.cell? ⟨g + 1, 0, none⟩ = some (.int .i64 11) := by rw [(unhide HY1).2.1.cell]; rfl
  have w0 : IntKind.i64.wrap (1 + (p0 : Int)) = 1 + (p0 : Int) := wrapI_eq _ (by omega) (by omega)
  go_wp2_with fail
  refine (unhide HP1 _).mono ?_
  rintro e x ⟨rfl, hx⟩
  subst x
  have cf1 : y3.cell? ⟨g + 1, 4, none⟩ = some (.int .i64 0) := by rw [(unhide HY1).2.1.cell]; rfl
  have ff1 : y3.frozen? ⟨g + 1, 4, none⟩ = false := (unhide HY1).2.1.frozen 4
  obtain ⟨y4, hy4⟩ : ∃ Z, y3.setCell ⟨g + 1, 4, none⟩ (.int .i64 ((p1 : Int))) = Z := ⟨_, rfl⟩
  have HY2 := hide (show Blk y4 g #[.int .i64 0, .int .i64 0, .int .i64 0, .int .i64 0, .int .i64 0, .int .i64 0, .string ⟨#[]⟩, .string ⟨#[]⟩, .string ⟨#[]⟩, .string ⟨#[]⟩] 29 ∧ Blk y4 (g + 1) (⟨11, 0, 0, 1 + (p0 : Int), (p1 : Int), 0, ⟨#[]⟩, ⟨#[]⟩, ⟨#[]⟩, ⟨#[]⟩⟩ : Req).cs 29 ∧ Below g w y4 from by
    rw [← hy4]
    obtain ⟨q1, q2, q3⟩ := unhide HY1
    exact ⟨q1.other _ _ (by show g + 1 ≠ g; omega), q2.set 4 (.int .i64 ((p1 : Int))), q3.setCell (by show g ≤ g + 1; omega) _⟩)
  have c01 : y4.cell? ⟨g + 1, 0, none⟩ = some (.int .i64 11) := by rw [(unhide HY2).2.1.cell]; rfl
  have BT := blk_setRow (cells := (⟨11, 0, 0, 1 + (p0 : Int), (p1 : Int), 0, ⟨#[]⟩, ⟨#[]⟩, ⟨#[]⟩, ⟨#[]⟩⟩ : Req).cs) (unhide HY2).1
  have HL := hide (iload_blk 29 _ BT Tryz.underlying29 rfl size_req)
  have HRG := hide (show y4.rangeAt (g + 1) 0 (⟨11, 0, 0, 1 + (p0 : Int), (p1 : Int), 0, ⟨#[]⟩, ⟨#[]⟩, ⟨#[]⟩, ⟨#[]⟩⟩ : Req).cl from blk_range (unhide HY2).2.1)
  have HZ := hide (unhide HY2).1
  have HO := hide (Req.one (⟨11, 0, 0, 1 + (p0 : Int), (p1 : Int), 0, ⟨#[]⟩, ⟨#[]⟩, ⟨#[]⟩, ⟨#[]⟩⟩ : Req))
  have HF := hide (show Below g w (y4.setRow g (⟨11, 0, 0, 1 + (p0 : Int), (p1 : Int), 0, ⟨#[]⟩, ⟨#[]⟩, ⟨#[]⟩, ⟨#[]⟩⟩ : Req).cs) from below_setRow (unhide HY2).2.2 (Nat.le_refl _) _)
  have HG := hide (show GoodQ 11 (⟨11, 0, 0, 1 + (p0 : Int), (p1 : Int), 0, ⟨#[]⟩, ⟨#[]⟩, ⟨#[]⟩, ⟨#[]⟩⟩ : Req) from ⟨rfl, by
    have e : rqF 11 = [fVol, fBlo] := rfl
    unfold lqB
    rw [show (⟨11, 0, 0, 1 + (p0 : Int), (p1 : Int), 0, ⟨#[]⟩, ⟨#[]⟩, ⟨#[]⟩, ⟨#[]⟩⟩ : Req).kd = 11 from rfl, e, layQ_ok (f := fVol) (r := (⟨11, 0, 0, 1 + (p0 : Int), (p1 : Int), 0, ⟨#[]⟩, ⟨#[]⟩, ⟨#[]⟩, ⟨#[]⟩⟩ : Req)) (decide_eq_true (p := ((1 : Nat) : Int) ≤ 1 + (p0 : Int) ∧ 1 + (p0 : Int) ≤ ((99 : Nat) : Int)) ⟨by omega, by omega⟩), layQ_ok (f := fBlo) (r := (exq fVol (⟨11, 0, 0, 1 + (p0 : Int), (p1 : Int), 0, ⟨#[]⟩, ⟨#[]⟩, ⟨#[]⟩, ⟨#[]⟩⟩ : Req) Prt.nil).1) (decide_eq_true (p := ((0 : Nat) : Int) ≤ (p1 : Int) ∧ (p1 : Int) ≤ ((255 : Nat) : Int)) ⟨by omega, by omega⟩)]
    exact eqQ_self (Req.bare 11)⟩)
  clear BT
  go_wp2_with (first | refine wpList_load_mid rfl 29 (.tmp 9) rfl (g + 1) 0 rfl (⟨11, 0, 0, 1 + (p0 : Int), (p1 : Int), 0, ⟨#[]⟩, ⟨#[]⟩, ⟨#[]⟩, ⟨#[]⟩⟩ : Req).cl _ (unhide HRG) Tryz.underlying29 rfl size_req ?_ | refine wpList_store_row rfl 29 (.tmp 8) (.tmp 82) rfl g (⟨11, 0, 0, 1 + (p0 : Int), (p1 : Int), 0, ⟨#[]⟩, ⟨#[]⟩, ⟨#[]⟩, ⟨#[]⟩⟩ : Req).cs rfl rfl 29 #[.int .i64 0, .int .i64 0, .int .i64 0, .int .i64 0, .int .i64 0, .int .i64 0, .string ⟨#[]⟩, .string ⟨#[]⟩, .string ⟨#[]⟩, .string ⟨#[]⟩] (unhide HZ) size_req rfl (unhide HO) ?_)
  (try simp only [Exit.inBlock, Exit.then])
  refine bodyPost_ret (results_cell rfl _ _ _ ⟨g, 0, none⟩ rfl _ (unhide HL)) rfl ?_
  exact ⟨⟨_, rfl, unhide HG⟩, unhide HF⟩
set_option maxHeartbeats 4000000 in
theorem rq12_12 (kind a b : Int) (hk : I64 kind) (hq : pickP kind 12 = 11) (ha : I64 a) (hb : I64 b) (s : ByteArray) (hs : s.size ≤ 140737488351232) (w : World) :
    Calls Tryz.prog 11 #[.int .i64 kind, .int .i64 a, .int .i64 b, .string s] w fun e w' => (∃ r : Req, e = .returned (.agg r.cs) ∧ GoodQ 12 r) ∧ Below w.heap.size w w' := by
  have HU := hide (And.intro ha (And.intro hb hs))
  clear HU
  have hpk := fun W => pick12_any kind 12 (by decide) hk 12 rfl W
  simp only [hq, Int.cast_ofNat_Int] at hpk
  have HPK := hide hpk
  have HP0 := hide (fun W => pick12_any a 99 (by decide) ha 99 rfl W)
  have l0 := pickP_lt a 99 (by decide)
  generalize pickP a 99 = p0 at *
  have HP1 := hide (fun W => pick12_any b 256 (by decide) hb 256 rfl W)
  have l1 := pickP_lt b 256 (by decide)
  generalize pickP b 256 = p1 at *
  obtain ⟨B1, B2, hbl, hs2⟩ := two_boxes w #[.int .i64 0, .int .i64 0, .int .i64 0, .int .i64 0, .int .i64 0, .int .i64 0, .string ⟨#[]⟩, .string ⟨#[]⟩, .string ⟨#[]⟩, .string ⟨#[]⟩] #[.int .i64 0, .int .i64 0, .int .i64 0, .int .i64 0, .int .i64 0, .int .i64 0, .string ⟨#[]⟩, .string ⟨#[]⟩, .string ⟨#[]⟩, .string ⟨#[]⟩] 29 29
  obtain ⟨g, hg⟩ : ∃ g, w.heap.size = g := ⟨_, rfl⟩
  rw [hg] at B1 B2 hs2 hbl ⊢
  obtain ⟨y, hy⟩ : ∃ Z, (w.alloc (.cells #[.int .i64 0, .int .i64 0, .int .i64 0, .int .i64 0, .int .i64 0, .int .i64 0, .string ⟨#[]⟩, .string ⟨#[]⟩, .string ⟨#[]⟩, .string ⟨#[]⟩] 29)).alloc (.cells #[.int .i64 0, .int .i64 0, .int .i64 0, .int .i64 0, .int .i64 0, .int .i64 0, .string ⟨#[]⟩, .string ⟨#[]⟩, .string ⟨#[]⟩, .string ⟨#[]⟩] 29) = Z := ⟨_, rfl⟩
  rw [hy] at B1 B2 hbl hs2
  have C2 := blk_setRow (cells := (Req.bare 12).cs) B2
  have C1 : Blk (y.setRow (g + 1) (Req.bare 12).cs) g _ _ := blk_setRow_other B1 (by omega)
  have hO1 : Below g w (y.setRow (g + 1) (Req.bare 12).cs) := below_setRow hbl (by omega) _
  obtain ⟨y2, hy2⟩ : ∃ Z, y.setRow (g + 1) (Req.bare 12).cs = Z := ⟨_, rfl⟩
  have HZ0 := hide B2
  rw [hy2] at C1 C2 hO1
  have HY := hide (show Blk y2 g #[.int .i64 0, .int .i64 0, .int .i64 0, .int .i64 0, .int .i64 0, .int .i64 0, .string ⟨#[]⟩, .string ⟨#[]⟩, .string ⟨#[]⟩, .string ⟨#[]⟩] 29 ∧ Blk y2 (g + 1) (⟨12, 0, 0, 0, 0, 0, ⟨#[]⟩, ⟨#[]⟩, ⟨#[]⟩, ⟨#[]⟩⟩ : Req).cs 29 ∧ Below g w y2 from ⟨C1, C2, hO1⟩)
  have HB0 := hide (built_req 12)
  have HO0 := hide (Req.one (Req.bare 12))
  have c0 : y2.cell? ⟨g + 1, 0, none⟩ = some (.int .i64 12) := by rw [(unhide HY).2.1.cell]; rfl
  clear B1 B2 hbl hs2 C1 C2 hO1 hpk hk ha hb hs hq
  go_enter Tryz.func11, Tryz.ntmps11
  go_wp2_with fail
  refine (unhide HPK _).mono ?_
  rintro e x ⟨rfl, hx⟩
  subst x
  go_wp2_with (first | refine wpList_buildAs rfl 29 #[(0, .tmp 12)] rfl _ rfl (Req.bare 12).cs (unhide HB0) ?_ | refine wpList_store_row rfl 29 (.tmp 9) (.tmp 13) rfl (g + 1) (Req.bare 12).cs rfl rfl 29 #[.int .i64 0, .int .i64 0, .int .i64 0, .int .i64 0, .int .i64 0, .int .i64 0, .string ⟨#[]⟩, .string ⟨#[]⟩, .string ⟨#[]⟩, .string ⟨#[]⟩] (unhide HZ0) size_req rfl (unhide HO0) ?_)
  refine (unhide HP0 _).mono ?_
  rintro e x ⟨rfl, hx⟩
  subst x
  clear hy hy2
  have cf0 : y2.cell? ⟨g + 1, 3, none⟩ = some (.int .i64 0) := by rw [(unhide HY).2.1.cell]; rfl
  have ff0 : y2.frozen? ⟨g + 1, 3, none⟩ = false := (unhide HY).2.1.frozen 3
  obtain ⟨y3, hy3⟩ : ∃ Z, y2.setCell ⟨g + 1, 3, none⟩ (.int .i64 (1 + (p0 : Int))) = Z := ⟨_, rfl⟩
  have HY1 := hide (show Blk y3 g #[.int .i64 0, .int .i64 0, .int .i64 0, .int .i64 0, .int .i64 0, .int .i64 0, .string ⟨#[]⟩, .string ⟨#[]⟩, .string ⟨#[]⟩, .string ⟨#[]⟩] 29 ∧ Blk y3 (g + 1) (⟨12, 0, 0, 1 + (p0 : Int), 0, 0, ⟨#[]⟩, ⟨#[]⟩, ⟨#[]⟩, ⟨#[]⟩⟩ : Req).cs 29 ∧ Below g w y3 from by
    rw [← hy3]
    obtain ⟨q1, q2, q3⟩ := unhide HY
    exact ⟨q1.other _ _ (by show g + 1 ≠ g; omega), q2.set 3 (.int .i64 (1 + (p0 : Int))), q3.setCell (by show g ≤ g + 1; omega) _⟩)
  have c00 : y3.cell? ⟨g + 1, 0, none⟩ = some (.int .i64 12) := by rw [(unhide HY1).2.1.cell]; rfl
  have w0 : IntKind.i64.wrap (1 + (p0 : Int)) = 1 + (p0 : Int) := wrapI_eq _ (by omega) (by omega)
  go_wp2_with fail
  refine (unhide HP1 _).mono ?_
  rintro e x ⟨rfl, hx⟩
  subst x
  have cf1 : y3.cell? ⟨g + 1, 4, none⟩ = some (.int .i64 0) := by rw [(unhide HY1).2.1.cell]; rfl
  have ff1 : y3.frozen? ⟨g + 1, 4, none⟩ = false := (unhide HY1).2.1.frozen 4
  obtain ⟨y4, hy4⟩ : ∃ Z, y3.setCell ⟨g + 1, 4, none⟩ (.int .i64 ((p1 : Int))) = Z := ⟨_, rfl⟩
  have HY2 := hide (show Blk y4 g #[.int .i64 0, .int .i64 0, .int .i64 0, .int .i64 0, .int .i64 0, .int .i64 0, .string ⟨#[]⟩, .string ⟨#[]⟩, .string ⟨#[]⟩, .string ⟨#[]⟩] 29 ∧ Blk y4 (g + 1) (⟨12, 0, 0, 1 + (p0 : Int), (p1 : Int), 0, ⟨#[]⟩, ⟨#[]⟩, ⟨#[]⟩, ⟨#[]⟩⟩ : Req).cs 29 ∧ Below g w y4 from by
    rw [← hy4]
    obtain ⟨q1, q2, q3⟩ := unhide HY1
    exact ⟨q1.other _ _ (by show g + 1 ≠ g; omega), q2.set 4 (.int .i64 ((p1 : Int))), q3.setCell (by show g ≤ g + 1; omega) _⟩)
  have c01 : y4.cell? ⟨g + 1, 0, none⟩ = some (.int .i64 12) := by rw [(unhide HY2).2.1.cell]; rfl
  have BT := blk_setRow (cells := (⟨12, 0, 0, 1 + (p0 : Int), (p1 : Int), 0, ⟨#[]⟩, ⟨#[]⟩, ⟨#[]⟩, ⟨#[]⟩⟩ : Req).cs) (unhide HY2).1
  have HL := hide (iload_blk 29 _ BT Tryz.underlying29 rfl size_req)
  have HRG := hide (show y4.rangeAt (g + 1) 0 (⟨12, 0, 0, 1 + (p0 : Int), (p1 : Int), 0, ⟨#[]⟩, ⟨#[]⟩, ⟨#[]⟩, ⟨#[]⟩⟩ : Req).cl from blk_range (unhide HY2).2.1)
  have HZ := hide (unhide HY2).1
  have HO := hide (Req.one (⟨12, 0, 0, 1 + (p0 : Int), (p1 : Int), 0, ⟨#[]⟩, ⟨#[]⟩, ⟨#[]⟩, ⟨#[]⟩⟩ : Req))
  have HF := hide (show Below g w (y4.setRow g (⟨12, 0, 0, 1 + (p0 : Int), (p1 : Int), 0, ⟨#[]⟩, ⟨#[]⟩, ⟨#[]⟩, ⟨#[]⟩⟩ : Req).cs) from below_setRow (unhide HY2).2.2 (Nat.le_refl _) _)
  have HG := hide (show GoodQ 12 (⟨12, 0, 0, 1 + (p0 : Int), (p1 : Int), 0, ⟨#[]⟩, ⟨#[]⟩, ⟨#[]⟩, ⟨#[]⟩⟩ : Req) from ⟨rfl, by
    have e : rqF 12 = [fVol, fBlo] := rfl
    unfold lqB
    rw [show (⟨12, 0, 0, 1 + (p0 : Int), (p1 : Int), 0, ⟨#[]⟩, ⟨#[]⟩, ⟨#[]⟩, ⟨#[]⟩⟩ : Req).kd = 12 from rfl, e, layQ_ok (f := fVol) (r := (⟨12, 0, 0, 1 + (p0 : Int), (p1 : Int), 0, ⟨#[]⟩, ⟨#[]⟩, ⟨#[]⟩, ⟨#[]⟩⟩ : Req)) (decide_eq_true (p := ((1 : Nat) : Int) ≤ 1 + (p0 : Int) ∧ 1 + (p0 : Int) ≤ ((99 : Nat) : Int)) ⟨by omega, by omega⟩), layQ_ok (f := fBlo) (r := (exq fVol (⟨12, 0, 0, 1 + (p0 : Int), (p1 : Int), 0, ⟨#[]⟩, ⟨#[]⟩, ⟨#[]⟩, ⟨#[]⟩⟩ : Req) Prt.nil).1) (decide_eq_true (p := ((0 : Nat) : Int) ≤ (p1 : Int) ∧ (p1 : Int) ≤ ((255 : Nat) : Int)) ⟨by omega, by omega⟩)]
    exact eqQ_self (Req.bare 12)⟩)
  clear BT
  go_wp2_with (first | refine wpList_load_mid rfl 29 (.tmp 9) rfl (g + 1) 0 rfl (⟨12, 0, 0, 1 + (p0 : Int), (p1 : Int), 0, ⟨#[]⟩, ⟨#[]⟩, ⟨#[]⟩, ⟨#[]⟩⟩ : Req).cl _ (unhide HRG) Tryz.underlying29 rfl size_req ?_ | refine wpList_store_row rfl 29 (.tmp 8) (.tmp 82) rfl g (⟨12, 0, 0, 1 + (p0 : Int), (p1 : Int), 0, ⟨#[]⟩, ⟨#[]⟩, ⟨#[]⟩, ⟨#[]⟩⟩ : Req).cs rfl rfl 29 #[.int .i64 0, .int .i64 0, .int .i64 0, .int .i64 0, .int .i64 0, .int .i64 0, .string ⟨#[]⟩, .string ⟨#[]⟩, .string ⟨#[]⟩, .string ⟨#[]⟩] (unhide HZ) size_req rfl (unhide HO) ?_)
  (try simp only [Exit.inBlock, Exit.then])
  refine bodyPost_ret (results_cell rfl _ _ _ ⟨g, 0, none⟩ rfl _ (unhide HL)) rfl ?_
  exact ⟨⟨_, rfl, unhide HG⟩, unhide HF⟩
theorem request12_any (kind a b : Int) (hk : I64 kind) (ha : I64 a) (hb : I64 b) (s : ByteArray) (hs : s.size ≤ 140737488351232) (w : World) :
    Calls Tryz.prog 11 #[.int .i64 kind, .int .i64 a, .int .i64 b, .string s] w fun e w' => (∃ r : Req, e = .returned (.agg r.cs) ∧ GoodQ ((1 + pickP kind 12 : Nat) : Int) r) ∧ Below w.heap.size w w' := by
  have hl := pickP_lt kind 12 (by decide)
  obtain ⟨q, hq⟩ : ∃ q, pickP kind 12 = q := ⟨_, rfl⟩
  rw [hq] at hl ⊢
  rcases (show q = 0 ∨ q = 1 ∨ q = 2 ∨ q = 3 ∨ q = 4 ∨ q = 5 ∨ q = 6 ∨ q = 7 ∨ q = 8 ∨ q = 9 ∨ q = 10 ∨ q = 11 by omega) with rfl | rfl | rfl | rfl | rfl | rfl | rfl | rfl | rfl | rfl | rfl | rfl
  · exact rq12_1 kind a b hk hq ha hb s hs w
  · exact rq12_2 kind a b hk hq ha hb s hs w
  · exact rq12_3 kind a b hk hq ha hb s hs w
  · exact rq12_4 kind a b hk hq ha hb s hs w
  · exact rq12_5 kind a b hk hq ha hb s hs w
  · exact rq12_6 kind a b hk hq ha hb s hs w
  · exact rq12_7 kind a b hk hq ha hb s hs w
  · exact rq12_8 kind a b hk hq ha hb s hs w
  · exact rq12_9 kind a b hk hq ha hb s hs w
  · exact rq12_10 kind a b hk hq ha hb s hs w
  · exact rq12_11 kind a b hk hq ha hb s hs w
  · exact rq12_12 kind a b hk hq ha hb s hs w
end Go.Proofs.YtpjoibolhkgkhaaGreatDoor
