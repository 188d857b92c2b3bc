import Derived.Test.YtokaomlhnmbajaaDoorLim
import Derived.Test.YtokaomlhnmbajaaDoorHex
import Derived.StillTailTactics
import Derived.Deep.RegionHeld3
namespace Go.Proofs.YtokaomlhnmbajaaDoor
open Go.RowKit
theorem run_make_i64 (c : Nat) (hc : c ≤ 1000) (w : World) : (Instr.makeSlice 28 (.int .i64 (c : Int)) (.int .i64 (c : Int))).run Tryd.prog w = .ok (.slice (some ⟨w.heap.size, 0, none⟩) c c) (w.alloc (.cells ((List.replicate c (0 : Int)).map (Value.int .i64)).toArray 3)) := by
  obtain ⟨i0, hi, hz0, hz1, hz2⟩ := info_parts info3
  have := run_make (P := Tryd.prog) w 28 3 i0 (.int .i64 0) Tryd.underlying28 hi hz0 .i64 .i64 (c : Int) (c : Int) (by omega) (by omega) (by rw [hz2]; omega) (by omega)
  rw [this, hz1]
  simp only [Int.toNat_natCast, Nat.mul_one]
  congr 3
  apply Array.ext
  · simp [size_madeCells]
  · intro j h1 h2
    simp [madeCells, Value.cells, Nat.mod_one]
def TS (A B R : List Int) (i k : Nat) : Prop :=
  R.length = A.length + B.length ∧ lval R = lval (A.take i) * lval B + A.getD i 0 * 65536 ^ i * lval (B.take k) ∧ ∀ j, 0 ≤ R.getD j 0 ∧ R.getD j 0 ≤ ((i * B.length + k : Nat) : Int) * 4294836225
theorem mul_limb {a b : Int} (ha : 0 ≤ a ∧ a < 65536) (hb : 0 ≤ b ∧ b < 65536) : 0 ≤ a * b ∧ a * b ≤ 4294836225 := by
  refine ⟨Int.mul_nonneg ha.1 hb.1, ?_⟩
  have h1 : a * b ≤ 65535 * b := Int.mul_le_mul_of_nonneg_right (by omega) hb.1
  omega
theorem TS.step {A B R : List Int} {i k : Nat} (h : TS A B R i k) (hA : Limbs A) (hB : Limbs B) (hi : i < A.length) (hk : k < B.length) :
    TS A B (R.set (i + k) (R.getD (i + k) 0 + A.getD i 0 * B.getD k 0)) i (k + 1) := by
  obtain ⟨h1, h2, h3⟩ := h
  refine ⟨by simpa using h1, ?_, fun j => ?_⟩
  · rw [lval_set _ _ _ (by omega), h2, lval_take _ _ hk, pow_a]
    generalize (65536 : Int) ^ i = P
    generalize (65536 : Int) ^ k = Q
    grind
  · have hm := mul_limb (hA i) (hB k)
    have hj := h3 j
    have hx := h3 (i + k)
    rw [getD_set' _ _ _ _ (by omega)]
    rw [show (((i * B.length + (k + 1) : Nat)) : Int) = ((i * B.length + k : Nat) : Int) + 1 by omega]
    split
    · omega
    · omega
theorem TS.next {A B R : List Int} {i : Nat} (h : TS A B R i B.length) (hi : i < A.length) : TS A B R (i + 1) 0 := by
  obtain ⟨h1, h2, h3⟩ := h
  refine ⟨h1, ?_, fun j => ?_⟩
  · rw [h2, lval_take _ _ hi, List.take_of_length_le (Nat.le_refl _), List.take_zero]
    simp only [lval]
    grind
  · have := h3 j
    rw [show (i + 1) * B.length + 0 = i * B.length + B.length by grind]
    exact this
theorem TS.bound {A B R : List Int} {i k : Nat} (h : TS A B R i k) (hA : A.length ≤ 8) (hB : B.length ≤ 8) (hi : i ≤ A.length) (hk : i = A.length → k = 0) (hkb : k ≤ B.length) (j : Nat) : 0 ≤ R.getD j 0 ∧ R.getD j 0 ≤ 274877906944 := by
  have h3 := h.2.2 j
  have hc : i * B.length + k ≤ 64 := by
    rcases Nat.lt_or_ge i A.length with h | h
    · have h4 : i * B.length ≤ 7 * B.length := Nat.mul_le_mul_right _ (by omega)
      omega
    · have h4 : i * B.length ≤ 8 * B.length := Nat.mul_le_mul_right _ (by omega)
      have := hk (by omega)
      omega
  omega
def CS (V : Int) (n : Nat) (R : List Int) (i : Nat) : Prop :=
  R.length = n ∧ lval R = V ∧ (∀ j, j < i → R.getD j 0 < 65536) ∧ (∀ j, 0 ≤ R.getD j 0) ∧ R.getD i 0 ≤ 549755813888 ∧ ∀ j, i < j → R.getD j 0 ≤ 274877906944
theorem CS.step {V : Int} {n : Nat} {R : List Int} {i : Nat} (h : CS V n R i) (hi : i + 1 < n) :
    CS V n ((R.set (i + 1) (R.getD (i + 1) 0 + R.getD i 0 / 65536)).set i (R.getD i 0 % 65536)) (i + 1) := by
  obtain ⟨h1, h2, h3, h4, h5, h6⟩ := h
  have e : ∀ j, ((R.set (i + 1) (R.getD (i + 1) 0 + R.getD i 0 / 65536)).set i (R.getD i 0 % 65536)).getD j 0 = if i = j then R.getD i 0 % 65536 else if i + 1 = j then R.getD (i + 1) 0 + R.getD i 0 / 65536 else R.getD j 0 := fun j => by
    rw [getD_set' _ _ _ _ (by simp; omega), getD_set' _ _ _ _ (by omega)]
  have h40 := h4 i
  have h41 := h4 (i + 1)
  have h61 := h6 (i + 1) (by omega)
  refine ⟨by simpa using h1, ?_, fun j hj => ?_, fun j => ?_, ?_, fun j hj => ?_⟩
  · rw [lval_set _ _ _ (by simp; omega), lval_set _ _ _ (by omega), h2, getD_set' _ _ _ _ (by omega), if_neg (by omega), pow_s]
    generalize (65536 : Int) ^ i = P
    have : R.getD i 0 = R.getD i 0 / 65536 * 65536 + R.getD i 0 % 65536 := by omega
    generalize R.getD i 0 / 65536 = q at *
    generalize R.getD i 0 % 65536 = r at *
    generalize R.getD i 0 = x at *
    grind
  · rw [e]
    split
    · omega
    · rw [if_neg (by omega)]; exact h3 j (by omega)
  · rw [e]
    have := h4 j
    split
    · omega
    · split <;> omega
  · rw [e, if_neg (by omega), if_pos rfl]; omega
  · rw [e, if_neg (by omega), if_neg (by omega)]; exact h6 j (by omega)
theorem CS.done {V : Int} {n : Nat} {R : List Int} (h : CS V (n + 1) R n) (hV : V < 65536 ^ (n + 1)) : Limbs R := by
  obtain ⟨h1, h2, h3, h4, h5, h6⟩ := h
  have hl := lval_last R n h1 h4 (by rw [h2]; exact hV)
  intro j
  refine ⟨h4 j, ?_⟩
  rcases Nat.lt_trichotomy j n with h | rfl | h
  · exact h3 j h
  · exact hl
  · rw [List.getD_eq_getElem?_getD, List.getElem?_eq_none (by omega)]; simp
def TmInv (w : World) (R : List Int) (wr : World) : Prop := Arr wr w.heap.size 0 .i64 R ∧ Below w.heap.size w wr ∧ w.heap.size < wr.heap.size
theorem TmInv.put {w : World} {l : List Int} {wr : World} (h : TmInv w l wr) (t : Nat) (ht : t < l.length) (v : Int) : TmInv w (l.set t v) (wr.setCell ⟨w.heap.size, t, none⟩ (.int .i64 v)) :=
  ⟨h.1.set0 t ht v, h.2.1.setCell (by simp) _, by simpa using h.2.2⟩
theorem TmInv.drew {w : World} {l : List Int} {wr : World} (h : TmInv w l wr) : TmInv w l wr.drew := ⟨h.1, h.2.1.drew, h.2.2⟩
set_option maxRecDepth 100000 in
set_option maxHeartbeats 1000000 in
theorem times_any (A B : List Int) (ga gb ca cb : Nat) (w : World) (hA : Limbs A) (hB : Limbs B) (hal : 0 < A.length ∧ A.length ≤ 8) (hbl : 0 < B.length ∧ B.length ≤ 8) (hga : ga < w.heap.size) (hgb : gb < w.heap.size)
    (ha : Arr w ga 0 .i64 A) (hb : Arr w gb 0 .i64 B) :
    Calls Tryd.prog 43 #[.slice (some ⟨ga, 0, none⟩) A.length ca, .slice (some ⟨gb, 0, none⟩) B.length cb] w fun e w' => ∃ R, e = .returned (.slice (some ⟨w.heap.size, 0, none⟩) R.length R.length) ∧ R.length = A.length + B.length ∧ Limbs R ∧ lval R = lval A * lval B ∧ Arr w' w.heap.size 0 .i64 R ∧ w.heap.size < w'.heap.size ∧ Below w.heap.size w w' := by
  have hmk := fun W => run_make_i64 (A.length + B.length) (by omega) W
  simp only [Int.natCast_add] at hmk
  generalize hna : A.length = na at *
  generalize hnb : B.length = nb at *
  have HNA := hide hna
  have HNB := hide hnb
  have HA := hide hA
  have HB := hide hB
  have Ha := hide ha
  have Hb := hide hb
  clear hna hnb hA hB ha hb
  go_enter Tryd.func43, Tryd.ntmps43
  go_wp2
  clear hmk
  go_loopw [6] (fun i wr => ∃ (i' : Nat) (R : List Int), i' ≤ na ∧ i = .int .i64 (i' : Int) ∧ TS A B R i' 0 ∧ TmInv w R wr) (fun i _ => na - (intOf i).toNat)
  case atStart =>
    refine ⟨0, List.replicate (na + nb) 0, by omega, rfl, ⟨by rw [List.length_replicate, unhide HNA, unhide HNB], ?_, fun j => ?_⟩, arr_new w .i64 (List.replicate (na + nb) 0) 3 _ (by simp), (Below.refl _ _).alloc (Nat.le_refl _) _, by simp⟩
    · rw [lval_zeros]; simp [lval]
    · rw [List.getD_eq_getElem?_getD, List.getElem?_replicate]; split <;> simp
  case round =>
    obtain ⟨i, R, hi, rfl, hT, hI⟩ := hrel
    by_cases hlt : i < na
    · obtain ⟨wo, rfl⟩ : ∃ wo : World, wo = wr := ⟨_, rfl⟩
      have HT := hide hT
      have HI := hide hI
      clear hT hI
      go_wp2
      go_loopw [7] (fun k wr => ∃ (k' : Nat) (R : List Int), k' ≤ nb ∧ k = .int .i64 (k' : Int) ∧ TS A B R i k' ∧ TmInv w R wr) (fun k _ => nb - (intOf k).toNat)
      case atStart => exact ⟨0, R, by omega, rfl, unhide HT, unhide HI⟩
      case round =>
        clear HT HI
        obtain ⟨k, R, hk, rfl, hT, hI⟩ := hrel
        by_cases hlk : k < nb
        · have hRl := hT.1
          rw [unhide HNA, unhide HNB] at hRl
          have hbd := hT.bound (by rw [unhide HNA]; omega) (by rw [unhide HNB]; omega) (by rw [unhide HNA]; omega) (fun h => by rw [unhide HNA] at h; omega) (by rw [unhide HNB]; omega) (i + k)
          have HST := hide (hT.step (unhide HA) (unhide HB) (by rw [unhide HNA]; exact hlt) (by rw [unhide HNB]; exact hlk))
          have hm := mul_limb (unhide HA i) (unhide HB k)
          have cR := hI.1.get0 (i + k) (by omega)
          have fR := hI.1.free0 (i + k) (by omega)
          have cA := ((unhide Ha).below hI.2.1 hga).get0 i (by rw [unhide HNA]; exact hlt)
          have cB := ((unhide Hb).below hI.2.1 hgb).get0 k (by rw [unhide HNB]; exact hlk)
          generalize hx : A.getD i 0 = x at *
          generalize hy : B.getD k 0 = y at *
          generalize hz : R.getD (i + k) 0 = z at *
          clear hx hy hz
          have m0 : IntKind.i64.wrap ((i : Int) + (k : Int)) = (i : Int) + (k : Int) := by rw [IntKind.wrap_i64]; omega
          generalize hxy : x * y = xy at *
          have m1 : IntKind.i64.wrap xy = xy := by rw [IntKind.wrap_i64]; omega
          have m2 : IntKind.i64.wrap (z + xy) = z + xy := by rw [IntKind.wrap_i64]; omega
          have q0 : ((i : Int) + (k : Int)).toNat = i + k := by omega
          have j0 : 0 ≤ (i : Int) + (k : Int) := by omega
          have j1 : (i : Int) + (k : Int) < (na : Int) + (nb : Int) := by omega
          have j2 : (i : Int) < (na : Int) := by omega
          have j3 : (k : Int) < (nb : Int) := by omega
          have HI := hide hI
          have HRL := hide hRl
          clear hI hT
          go_wp2
          go_still_tail 21, (by kernel_rfl)
          clear m0 m1 m2 q0 j0 j1 j2 j3 cA cB
          change wpList _ _ _ _ _ wr.drew
          go_wp2
          go_roundw
          case rel => exact ⟨k + 1, _, by omega, by go_num, unhide HST, ((unhide HI).put (i + k) (by rw [unhide HRL]; omega) _).drew⟩
          case measure => simp [intOf]; omega
        · have ek : k = B.length := by rw [unhide HNB]; omega
          rw [ek] at hT
          have HT := hide (hT.next (by rw [unhide HNA]; exact hlt))
          have HI := hide hI
          clear hT hI ek
          go_wp2
          go_roundw
          case rel => exact ⟨i + 1, R, by omega, by go_num, unhide HT, unhide HI⟩
          case measure => simp [intOf]; omega
    · have ei : i = A.length := by rw [unhide HNA]; omega
      have hRl := hT.1
      rw [unhide HNA, unhide HNB] at hRl
      have hbd := hT.bound (by rw [unhide HNA]; omega) (by rw [unhide HNB]; omega) (by rw [unhide HNA]; omega) (fun _ => rfl) (by omega)
      have hv : lval R = lval A * lval B := by
        rw [hT.2.1, ei, List.take_of_length_le (Nat.le_refl _)]
        simp [lval]
      have hC : CS (lval A * lval B) (na + nb) R 0 := ⟨hRl, hv, fun j hj => by omega, fun j => (hbd j).1, by have := (hbd 0).2; omega, fun j _ => (hbd j).2⟩
      have HC := hide hC
      have HI := hide hI
      have HVL : Hid (lval A * lval B < 65536 ^ (na + nb)) := by
        have h1 := lval_lt A (unhide HA)
        have h2 := lval_lt B (unhide HB)
        have h3 := lval_nonneg A fun j => (unhide HA j).1
        have h4 := lval_nonneg B fun j => (unhide HB j).1
        rw [unhide HNA] at h1
        rw [unhide HNB] at h2
        have h5 := pow_p na
        have h6 := pow_p nb
        show _ < _
        rw [pow_a]
        generalize lval A = a at *
        generalize lval B = b at *
        generalize (65536 : Int) ^ na = P at *
        generalize (65536 : Int) ^ nb = Q at *
        exact Int.lt_of_le_of_lt (Int.mul_le_mul_of_nonneg_left (Int.le_of_lt h2) h3) (Int.mul_lt_mul_of_pos_right h1 h6)
      generalize hVV : lval A * lval B = V at *
      have HVV := hide hVV
      clear hVV
      clear hT hI hC hv hbd hRl ei
      obtain ⟨wo, rfl⟩ : ∃ wo : World, wo = wr := ⟨_, rfl⟩
      go_wp2
      go_loopw [8] (fun k wr => ∃ (k' : Nat) (R : List Int), k' + 1 ≤ na + nb ∧ k = .int .i64 (k' : Int) ∧ CS V (na + nb) R k' ∧ TmInv w R wr) (fun k _ => na + nb - (intOf k).toNat)
      case atStart => exact ⟨0, R, by omega, rfl, unhide HC, unhide HI⟩
      case round =>
        clear HC HI
        obtain ⟨k, R, hk, rfl, hC, hI⟩ := hrel
        by_cases hlk : k + 1 < na + nb
        · have HST := hide (hC.step hlk)
          have hRl := hC.1
          have c0 := hI.1.get0 k (by omega)
          have f0 := hI.1.free0 k (by omega)
          have c1 := hI.1.get0 (k + 1) (by omega)
          have f1 := hI.1.free0 (k + 1) (by omega)
          have b0 := hC.2.2.2.1 k
          have b1 := hC.2.2.2.1 (k + 1)
          have b2 := hC.2.2.2.2.1
          have b3 := hC.2.2.2.2.2 (k + 1) (by omega)
          generalize hx : R.getD k 0 = x at *
          generalize hy : R.getD (k + 1) 0 = y at *
          clear hx hy
          have HI := hide hI
          have HRL := hide hRl
          clear hI hC
          have m0 : IntKind.i64.wrap ((k : Int) + 1) = (k : Int) + 1 := by rw [IntKind.wrap_i64]; omega
          have m1 : IntKind.i64.wrap (y + x / 65536) = y + x / 65536 := by rw [IntKind.wrap_i64]; omega
          have q0 : ((k : Int) + 1).toNat = k + 1 := by omega
          have j0 : 0 ≤ (k : Int) + 1 := by omega
          have j1 : (k : Int) + 1 < (na : Int) + (nb : Int) := by omega
          have j2 : (k : Int) < (na : Int) + (nb : Int) := by omega
          go_wp2
          go_still_tail 15, (by kernel_rfl)
          clear m1
          change wpList _ _ _ _ _ wr.drew
          go_wp2
          go_roundw
          case rel => exact ⟨k + 1, _, by omega, by go_num, unhide HST, ((unhide HI).drew.put (k + 1) (by rw [unhide HRL]; omega) _).put k (by rw [List.length_set, unhide HRL]; omega) _⟩
          case measure => simp [intOf]; omega
        · obtain ⟨m, hm⟩ : ∃ m, na + nb = m + 1 := ⟨na + nb - 1, by omega⟩
          have ek : k = m := by omega
          have hV := unhide HVL
          have hC2 := hC
          rw [hm] at hV hC2
          rw [ek] at hC2
          have HL := hide (hC2.done hV)
          have HC := hide hC
          have HI := hide hI
          clear hC hC2 hI hV hm ek
          go_wp2
          go_ret
          exact ⟨R, by rw [(unhide HC).1]; rfl, (unhide HC).1, unhide HL, by rw [(unhide HC).2.1, unhide HVV], (unhide HI).1, (unhide HI).2.2, (unhide HI).2.1⟩
end Go.Proofs.YtokaomlhnmbajaaDoor
