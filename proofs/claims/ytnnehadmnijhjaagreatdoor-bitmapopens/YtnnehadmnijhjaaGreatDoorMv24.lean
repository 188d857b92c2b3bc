import Derived.Test.YtnnehadmnijhjaaGreatDoorMv23
import Derived.Test.YtnnehadmnijhjaaGreatDoorMv08
namespace Go.Proofs.YtnnehadmnijhjaaGreatDoor
open Go.RowKit Go.Maps Go.Sort Go.Shelf
/-- Is a bit of no place set? -/
def strayP (n k : Nat) (bd : ByteArray) : Prop := ∃ i, i < 256 - pin n k ∧ bitB bd (256 * k + pin n k + i) = true
def StrayQ (n k : Nat) (bd : ByteArray) (w : World) (e : Ending) (w' : World) : Prop := ∃ sb : Bool, e = .returned (.bool sb) ∧ (sb = true ↔ strayP n k bd) ∧ Below w.heap.size w w'
set_option maxRecDepth 100000 in
set_option maxHeartbeats 2000000 in
theorem stray_any {w : World} {mb pb a n : Nat} (h : MB w mb pb a n) (hn : n ≤ 1024) (k : Nat) (hk : k < pgs n) (bd : ByteArray) (hbd : bd.size = 32) : Calls Tryz.prog 40 #[.pointer (some ⟨mb, 0, none⟩), .int .i64 (k : Int), .string bd] w (StrayQ n k bd w) := by
  have h4 := pgs_le hn
  have hpg : pgs n = (n + 255) / 256 := rfl
  have HPI := hide (placesIn_any h hn k hk)
  have HFO := hide (fun W => firstOf_any k (by omega) W)
  have HSP := hide (show ∀ sb : Bool, (sb = true ↔ ∃ i, i < 256 - pin n k ∧ bitB bd (256 * k + pin n k + i) = true) → (sb = true ↔ strayP n k bd) from fun _ q => q)
  have hpn2 : pin n k ≤ 256 := by unfold pin; omega
  obtain ⟨pn, hpn⟩ : ∃ q, pin n k = q := ⟨_, rfl⟩
  rw [hpn] at HPI HSP hpn2
  have hkk : k ≤ 4 := by omega
  clear h hpg h4 hk hpn
  go_enter Tryz.func40, Tryz.ntmps40
  go_wp2_with fail
  refine (unhide HPI).mono ?_
  rintro e x1 ⟨rfl, hb1⟩
  have HB1 := hide hb1
  have e0 : (256 : Int) - (pn : Int) = ((256 - pn : Nat) : Int) := by omega
  have hr : 256 - pn ≤ 256 := by omega
  obtain ⟨R, hR⟩ : ∃ q, 256 - pn = q := ⟨_, rfl⟩
  rw [hR] at e0 hr HSP
  clear hb1 HPI
  go_wp2
  go_loopw [14] (fun i wr => ∃ j : Nat, j ≤ R ∧ i = .int .i64 (j : Int) ∧ (∀ t, t < j → bitB bd (256 * k + pn + t) = false) ∧ Below w.heap.size w wr) (fun i _ => R - (intOf i).toNat)
  case atStart => exact ⟨0, by omega, rfl, fun t ht => absurd ht (by omega), unhide HB1⟩
  case round =>
    obtain ⟨j, hj, rfl, hno, hB⟩ := hrel
    obtain ⟨wo, rfl⟩ : ∃ wo, wo = wr := ⟨_, rfl⟩
    have HNO := hide hno
    have HB := hide hB
    clear hno hB
    by_cases hjn : j < R
    · have hjn' : (j : Int) < (R : Int) := by omega
      have HTK := hide (fun W => isTaken_any bd hbd (256 * k + pn + j) (by omega) W)
      have HNX := hide (show bitB bd (256 * k + pn + j) = false → ∀ t, t < j + 1 → bitB bd (256 * k + pn + t) = false from fun q t ht => by
        by_cases e : t = j
        · rw [e]; exact q
        · exact unhide HNO t (by omega))
      have HYS := hide (show bitB bd (256 * k + pn + j) = true → ((true : Bool) = true ↔ strayP n k bd) from fun q => unhide HSP true ⟨fun _ => ⟨j, hjn, q⟩, fun _ => rfl⟩)
      have e1 : ((256 * k : Nat) : Int) + (pn : Int) = ((256 * k + pn : Nat) : Int) := by omega
      have e2 : ((256 * k + pn : Nat) : Int) + (j : Int) = ((256 * k + pn + j : Nat) : Int) := by omega
      have q1 : 256 * k + pn + j < 10000 := by omega
      have q2 : 256 * k + pn < 10000 := by omega
      have q3 : 256 * k < 10000 := by omega
      obtain ⟨bt, hbt⟩ : ∃ r, bitB bd (256 * k + pn + j) = r := ⟨_, rfl⟩
      rw [hbt] at HTK HNX HYS
      clear hbt
      obtain ⟨m3, hm3⟩ : ∃ r, 256 * k + pn + j = r := ⟨_, rfl⟩
      obtain ⟨m2, hm2⟩ : ∃ r, 256 * k + pn = r := ⟨_, rfl⟩
      obtain ⟨m1, hm1⟩ : ∃ r, 256 * k = r := ⟨_, rfl⟩
      rw [hm3] at HTK e2 q1
      rw [hm2] at e1 e2 q2
      rw [hm1] at e1 q3 HFO
      clear hm1 hm2 hm3
      cases bt with
      | false =>
        go_wp2_with (first | (go_at_call 45; refine (unhide HFO _).mono ?_; rintro e w' ⟨rfl, hw'⟩; subst w') | (go_at_call 46; refine (unhide HTK _).mono ?_; rintro e y1 ⟨rfl, hb3⟩))
        go_roundw
        case rel => exact ⟨j + 1, by omega, by go_num, unhide HNX trivial, (unhide HB).trans (hb3.mono (unhide HB).size)⟩
        case measure => simp [intOf]; omega
      | true =>
        go_wp2_with (first | (go_at_call 45; refine (unhide HFO _).mono ?_; rintro e w' ⟨rfl, hw'⟩; subst w') | (go_at_call 46; refine (unhide HTK _).mono ?_; rintro e y1 ⟨rfl, hb3⟩))
        go_ret
        exact ⟨true, rfl, ⟨fun _ => (unhide HYS trivial).1 trivial, fun _ => rfl⟩, (unhide HB).trans (hb3.mono (unhide HB).size)⟩
    · have hjn' : ¬ (j : Int) < (R : Int) := by omega
      have HF := hide (unhide HSP false ⟨fun q => (by cases q), fun ⟨i, hi, hq⟩ => by rw [unhide HNO i (by omega)] at hq; cases hq⟩)
      go_wp2
      go_ret
      exact ⟨false, rfl, unhide HF, unhide HB⟩
/-- A pool over a disk at rest that has written nothing: what is at hand is what the disk holds. -/
structure Frp7 (S : PS) (L : List ByteArray) (A : List (Nat × Nat)) (nx : Nat) : Prop where
  rst : Rst S L A nx
  tx : S.tx = []
  hok : ∀ p ∈ S.h, 0 ≤ p.1 → p.1 < 128 → p.2 = L.getD p.1.toNat ByteArray.empty
theorem Frp7.read {S : PS} {L : List ByteArray} {A : List (Nat × Nat)} {nx : Nat} (h : Frp7 S L A nx) (hL : L.length = 128) (k : Nat) (h2 : k < 128) : (readP S k).1 = L.getD k ByteArray.empty ∧ (readP S k).2.1 = 0 ∧ Frp7 (readP S k).2.2 L A nx ∧ (readP S k).2.2.op = S.op := by
  have hk : k < L.length := by rw [hL]; exact h2
  obtain ⟨r1, r2, r3, r4, _⟩ := read_rest h.rst k hk
  have hT : readT S.s (k : Int) = L.getD k ByteArray.empty := by rw [h.rst.s]; exact (read_rs L A k hk).2
  have hlay : ∀ t, t = L.getD k ByteArray.empty → ∀ p ∈ hLay S.keep (k : Int) t S.h, 0 ≤ p.1 → p.1 < 128 → p.2 = L.getD p.1.toNat ByteArray.empty := fun t ht p hp a1 a2 => by
    rcases hLay_mem hp with q | q
    · subst q; simpa using ht
    · exact h.hok p q a1 a2
  have key : (readP S k).1 = L.getD k ByteArray.empty ∧ ∀ p ∈ (readP S k).2.2.h, 0 ≤ p.1 → p.1 < 128 → p.2 = L.getD p.1.toNat ByteArray.empty := by
    have hh : hasB S.s (k : Int) = true := by rw [h.rst.s]; show (decide (0 ≤ (k : Int)) && decide ((k : Int) < (L.length : Int))) = true; simp; omega
    have hr : readE S.s (k : Int) = 0 := by rw [h.rst.s]; exact (read_rs L A k hk).1
    unfold readP
    rw [hh, h.rst.lost, h.tx]
    show _
    cases hf : txAt S.h (k : Int) with
    | some t =>
      have hmem : ((k : Int), t) ∈ S.h := by
        unfold txAt at hf
        obtain ⟨x, hx, e⟩ := Option.map_eq_some_iff.1 hf
        have a1 := List.mem_of_find?_eq_some hx
        have a2 := List.find?_some hx
        simp only [beq_iff_eq] at a2
        rw [← a2, ← e]
        exact a1
      have ht' := h.hok _ hmem (by show (0 : Int) ≤ (k : Int); omega) (by show (k : Int) < 128; omega)
      simp only [Int.toNat_natCast] at ht'
      exact ⟨ht', hlay t ht'⟩
    | none =>
      simp only [hr, if_true]
      exact ⟨hT, hlay _ hT⟩
  exact ⟨key.1, r1, ⟨r2, by rw [r4, h.tx], key.2⟩, r3⟩
/-- Are the sectors from a on the pages of a map of n places? -/
def pageOk (L : List ByteArray) (a n k : Nat) : Prop := bdOk (L.getD (a + k) ByteArray.empty) k ∧ ¬ strayP n k (pbd (L.getD (a + k) ByteArray.empty))
/-- A pool and a map over it that has written nothing. -/
def MpO (w0 w : World) (b jb pb mb : Nat) (X : Nat → Prop) (a n : Nat) (op : Bool) (L : List ByteArray) (A : List (Nat × Nat)) (nx : Nat) (w' : World) : Prop :=
  ∃ S, PK w0 w' b jb pb S (fun x => X x ∨ x = mb) ∧ MB w' mb pb a n ∧ Frp7 S L A nx ∧ S.op = op ∧ Only (fun x => ¬ (X x ∨ x = mb)) w w'
def OpenQ (w0 w : World) (b jb pb : Nat) (X : Nat → Prop) (a n : Nat) (op : Bool) (L : List ByteArray) (A : List (Nat × Nat)) (nx : Nat) (e : Ending) (w' : World) : Prop :=
  ∃ mb, w.heap.size ≤ mb ∧ MpO w0 w b jb pb mb X a n op L A nx w' ∧ (((∀ k, k < pgs n → pageOk L a n k) ∧ e = .returned (.tuple #[.pointer (some ⟨mb, 0, none⟩), .int .i64 0])) ∨ ((∃ k, k < pgs n ∧ ¬ pageOk L a n k) ∧ e = .returned (.tuple #[.pointer none, .int .i64 73])))
set_option maxRecDepth 100000 in
set_option maxHeartbeats 4000000 in
theorem mopen_any {w0 w : World} {b jb pb : Nat} {X : Nat → Prop} {a n : Nat} {S : PS} {L : List ByteArray} {A : List (Nat × Nat)} {nx : Nat} (K : PK w0 w b jb pb S X) (hg : ETy w0) (hs : Frp7 S L A nx) (hL : L.length = 128) (hz : ∀ t ∈ L, t.size = 256) (h128 : a + pgs n ≤ 128) (hn1 : 1 ≤ n) (hn2 : n ≤ 1024) :
    Calls Tryz.prog 10 #[.pointer (some ⟨pb, 0, none⟩), .int .i64 (a : Int), .int .i64 (n : Int)] w (OpenQ w0 w b jb pb X a n S.op L A nx) := by
  have h4 := pgs_le hn2
  have HCN := hide (fun W => isCount_any (n : Int) W)
  rw [decide_eq_true (show (1 : Int) ≤ (n : Int) by omega), decide_eq_true (show (n : Int) ≤ 1024 by omega)] at HCN
  have HPO := hide (fun W => pagesOf_any n hn2 W)
  have HSZ := hide (show Calls Tryz.prog 37 #[.pointer (some ⟨pb, 0, none⟩)] w fun e w' => e = .returned (.int .i64 128) ∧ w' = w from by
    obtain ⟨bw, bv, ov, Ki⟩ := K
    have := Ki.size
    rw [hs.rst.s, show ((rs L A).last.length : Int) = 128 from by show ((L.length : Nat) : Int) = 128; rw [hL]; rfl] at this
    exact this)
  have ha0 : decide ((a : Int) < 0) = false := decide_eq_false (by omega)
  have ha1 : decide ((128 : Int) - (pgs n : Int) < (a : Int)) = false := decide_eq_false (by omega)
  have HM0 := hide (show ∀ W mb, Below w.heap.size w W → MB W mb pb a n → mb = w.heap.size → mb < W.heap.size → MpO w0 w b jb pb mb X a n S.op L A nx W from fun W mb hb hM hmb hlt => by
    refine ⟨S, K.more hb (fun x hx => ?_), hM, hs, rfl, Only.of_below hb⟩
    rcases hx with q | q
    · exact .inl q
    · rw [q]; exact .inr ⟨by omega, hlt⟩)
  have HLZ := hide (And.intro hL (And.intro hz hg))
  have hpq : pgs n ≤ 4 := h4
  have ha : a ≤ 128 := by omega
  obtain ⟨sop, hsop⟩ : ∃ q, S.op = q := ⟨_, rfl⟩
  rw [hsop] at HM0 ⊢
  obtain ⟨P0, hP0⟩ : ∃ q, pgs n = q := ⟨_, rfl⟩
  rw [hP0] at HPO ha1 hpq
  have HPE := hide hP0
  have H128 := hide h128
  clear K hs hg h4 h128 hP0 hn1 hL hz hsop
  go_enter Tryz.func10, Tryz.ntmps10
  go_wp2_with (first | (go_at_call 36; refine (unhide HCN _).mono ?_; rintro e w' ⟨rfl, hw'⟩; subst w') | (go_at_call 38; refine (unhide HPO _).mono ?_; rintro e w' ⟨rfl, hw'⟩; subst w') | (go_at_call 37; refine (unhide HSZ).mono ?_; rintro e w' ⟨rfl, hw'⟩; subst w'))
  obtain ⟨mb, hmb⟩ : ∃ q, w.heap.size = q := ⟨_, rfl⟩
  obtain ⟨x1, hx1⟩ : ∃ q, w.alloc (.cells #[.pointer (some ⟨pb, 0, none⟩), .int .i64 (a : Int), .int .i64 (n : Int)] 80) = q := ⟨_, rfl⟩
  rw [hx1, hmb]
  have X1 := hide (unhide HM0 x1 mb (by rw [← hx1]; exact (Below.refl _ _).alloc (Nat.le_refl _) _) (by rw [← hx1, ← hmb]; exact Blk.new w _ _) hmb.symm (by rw [← hx1, ← hmb]; simp))
  have HMB := hide (show w.heap.size ≤ mb from by rw [hmb]; exact Nat.le_refl _)
  clear hx1 hmb HM0 ha0 ha1
  go_loopw [10, 11, 39] (fun _ _ i wr => ∃ k : Nat, k ≤ P0 ∧ i = .int .i64 (k : Int) ∧ (∀ t, t < k → pageOk L a n t) ∧ MpO w0 w b jb pb mb X a n sop L A nx wr) (fun _ _ i _ => P0 - (intOf i).toNat)
  case atStart => exact ⟨0, by omega, rfl, fun t ht => absurd ht (by omega), unhide X1⟩
  case round =>
    obtain ⟨k, hk, rfl, hok, hI⟩ := hrel
    obtain ⟨wo, rfl⟩ : ∃ wo, wo = wr := ⟨_, rfl⟩
    clear X1
    have HOK := hide hok
    clear hok
    by_cases hkn : k < P0
    · have hkn' : (k : Int) < (P0 : Int) := by omega
      obtain ⟨S1, K1, hM1, hF1, ho1, hO1⟩ := hI
      have hak : a + k < 128 := by have := unhide H128; have := unhide HPE; omega
      obtain ⟨hL, hz, hg⟩ := unhide HLZ
      obtain ⟨r1, r2, r3, r4⟩ := hF1.read hL (a + k) hak
      have hsz : (L.getD (a + k) ByteArray.empty).size = 256 := hz _ (by rw [List.getD_eq_getElem?_getD, List.getElem?_eq_getElem (by omega : a + k < L.length)]; exact List.getElem_mem _)
      have hc := mread_any K1 hM1 (.inr rfl) hg (by omega) k (by omega) (readT_rest hF1.rst (a + k) (by omega) hz) (by rw [r1, hsz]; decide)
      have e1 : rdE S1 (a + k) k = if bdOk (L.getD (a + k) ByteArray.empty) k then 0 else 73 := by rw [rdE, r2, if_pos rfl, r1]
      have e2 : rdT S1 (a + k) k = bdT (L.getD (a + k) ByteArray.empty) k := by rw [rdT, r2, if_pos rfl, r1]
      rw [e1, e2] at hc
      have HKP := hide (show ∀ W, PK w0 W b jb pb (readP S1 ((a + k : Nat) : Int)).2.2 (fun x => X x ∨ x = mb) → Only (fun x => ¬ (X x ∨ x = mb)) wo W → MpO w0 w b jb pb mb X a n sop L A nx W from fun W hK hO => ⟨_, hK, hM1.only hO (fun q => q (.inr rfl)), r3, r4.trans ho1, hO1.trans hO (fun _ _ q => q)⟩)
      by_cases hbd : bdOk (L.getD (a + k) ByteArray.empty) k
      · rw [if_pos hbd] at hc
        have ebd : bdT (L.getD (a + k) ByteArray.empty) k = pbd (L.getD (a + k) ByteArray.empty) := by rw [bdT, if_pos hbd]
        rw [ebd] at hc
        have hbs := hbd.2.2.2
        have HC := hide hc
        have HPG := hide (show (¬ strayP n k (pbd (L.getD (a + k) ByteArray.empty)) → pageOk L a n k) ∧ (strayP n k (pbd (L.getD (a + k) ByteArray.empty)) → ¬ pageOk L a n k) from ⟨fun q => ⟨hbd, q⟩, fun q r => r.2 q⟩)
        clear hc e1 e2 hbd ebd hsz r1 r2 r3 r4 hL hz hg K1 hM1 hF1 ho1 hO1
        generalize pbd (L.getD (a + k) ByteArray.empty) = bd at *
        go_wp2_with fail
        refine (unhide HC).mono ?_
        rintro e y1 ⟨rfl, K2, hO2⟩
        have hMp := unhide HKP y1 K2 hO2
        have hMB : MB y1 mb pb a n := by
          obtain ⟨_, _, q, _⟩ := hMp
          exact q
        have HST := hide (stray_any hMB hn2 k (by rw [unhide HPE]; exact hkn) bd hbs)
        have HMP := hide hMp
        clear K2 hO2 hMp hMB HC HKP
        go_wp2_with fail
        refine (unhide HST).mono ?_
        rintro e y2 ⟨sb, rfl, hsb, hb2⟩
        have HM2 := hide (show MpO w0 w b jb pb mb X a n sop L A nx y2 from by
          obtain ⟨S2, q1, q2, q3, q4, q5⟩ := unhide HMP
          exact ⟨S2, q1.below hb2, q2.below hb2, q3, q4, q5.trans (Only.of_below (P := fun x => ¬ (X x ∨ x = mb)) hb2) (fun _ _ q => q)⟩)
        cases sb with
        | true =>
          have HF := hide (show OpenQ w0 w b jb pb X a n sop L A nx (.returned (.tuple #[.pointer none, .int .i64 73])) y2 from ⟨mb, unhide HMB, unhide HM2, .inr ⟨⟨k, by rw [unhide HPE]; exact hkn, (unhide HPG).2 (hsb.1 rfl)⟩, rfl⟩⟩)
          clear hsb hb2 HST HMP
          go_wp2
          go_ret2
          exact unhide HF
        | false =>
          have HN := hide (show ∀ t, t < k + 1 → pageOk L a n t from fun t ht => by
            by_cases q : t = k
            · rw [q]; exact (unhide HPG).1 (fun r => by have := hsb.2 r; cases this)
            · exact unhide HOK t (by omega))
          clear hsb hb2 HST HMP
          go_wp2
          go_roundw
          case rel => exact ⟨k + 1, by omega, by go_num, unhide HN, unhide HM2⟩
          case measure => simp [intOf]; omega
      · rw [if_neg hbd] at hc
        have ebd : bdT (L.getD (a + k) ByteArray.empty) k = ⟨#[]⟩ := by rw [bdT, if_neg hbd]
        rw [ebd] at hc
        have HC := hide hc
        have HNO := hide (show ∃ k, k < pgs n ∧ ¬ pageOk L a n k from ⟨k, by rw [unhide HPE]; exact hkn, fun r => hbd r.1⟩)
        clear hc e1 e2 hbd ebd hsz r1 r2 r3 r4 hL hz hg K1 hM1 hF1 ho1 hO1
        go_wp2_with fail
        refine (unhide HC).mono ?_
        rintro e y1 ⟨rfl, K2, hO2⟩
        have HF := hide (show OpenQ w0 w b jb pb X a n sop L A nx (.returned (.tuple #[.pointer none, .int .i64 73])) y1 from ⟨mb, unhide HMB, unhide HKP y1 K2 hO2, .inr ⟨unhide HNO, rfl⟩⟩)
        clear K2 hO2 HC HKP
        go_wp2
        go_ret2
        exact unhide HF
    · have hkn' : ¬ (k : Int) < (P0 : Int) := by omega
      have HF := hide (show OpenQ w0 w b jb pb X a n sop L A nx (.returned (.tuple #[.pointer (some ⟨mb, 0, none⟩), .int .i64 0])) wo from ⟨mb, unhide HMB, hI, .inl ⟨fun t ht => unhide HOK t (by rw [unhide HPE] at ht; omega), rfl⟩⟩)
      clear hI
      go_wp2
      go_ret2
      exact unhide HF
end Go.Proofs.YtnnehadmnijhjaaGreatDoor

namespace Go.Proofs.YtnnehadmnijhjaaGreatDoor
open Go.RowKit Go.Maps Go.Sort Go.Shelf
set_option maxRecDepth 100000
/-- the set that pages tell, bit by bit -/
def tkT (P : List ByteArray) (i : Nat) : Bool := bitB (pbd (P.getD (i / 256) ByteArray.empty)) i
def gdP (P : List ByteArray) (k : Nat) : Prop := prOk (P.getD k ByteArray.empty) ∧ (pbd (P.getD k ByteArray.empty)).size = 32
theorem tk_at (P : List ByteArray) (k m : Nat) (hm : m < 256) : tkT P (256 * k + m) = bitB (pbd (P.getD k ByteArray.empty)) m := by
  unfold tkT
  rw [show (256 * k + m) / 256 = k by omega, bitB_page]
theorem pages_iff (L : List ByteArray) (a n : Nat) (hn2 : n ≤ 1024) (P : List ByteArray) (hP : ∀ k, k < pgs n → P.getD k ByteArray.empty = L.getD (a + k) ByteArray.empty) :
    (∀ k, k < pgs n → pageOk L a n k) ↔ ((∀ k, k < pgs n → gdP P k) ∧ ∀ k, k < pgs n → P.getD k ByteArray.empty = pgT k (bdB (tkT P) n k)) := by
  have hk4 : ∀ k, k < pgs n → k < 4 ∧ 256 * k < n := fun k hk => by unfold pgs at hk; omega
  constructor
  · intro h
    refine ⟨fun k hk => ?_, fun k hk => ?_⟩
    · obtain ⟨⟨h1, h2, h3, h4⟩, h5⟩ := h k hk
      rw [gdP, hP k hk]
      exact ⟨h1, h4⟩
    · obtain ⟨⟨h1, h2, h3, h4⟩, h5⟩ := h k hk
      have e1 : pbd (L.getD (a + k) ByteArray.empty) = bdB (tkT P) n k := by
        refine body_ext _ _ h4 (bdB_size _ _ _) (fun m hm => ?_)
        rw [bdB_bit _ n k m hm, tk_at P k m hm, hP k hk]
        by_cases hmn : 256 * k + m < n
        · rw [decide_eq_true hmn, Bool.true_and]
        · rw [decide_eq_false hmn, Bool.false_and]
          by_cases hb : bitB (pbd (L.getD (a + k) ByteArray.empty)) m = true
          · have := hk4 k hk
            refine absurd ⟨m - pin n k, ?_, ?_⟩ h5
            · unfold pin; omega
            · rw [show 256 * k + pin n k + (m - pin n k) = 256 * k + m by unfold pin; omega, bitB_page]
              exact hb
          · simpa using hb
      rw [hP k hk, ← e1, pgT]
      have := h1.2
      rw [h2, h3] at this
      exact this.symm
  · intro h k hk
    have e := h.2 k hk
    rw [hP k hk] at e
    have := hk4 k hk
    obtain ⟨p1, p2, p3, p4⟩ := make_parse 3 (k : Int) (bdB (tkT P) n k) (pg_err k (by omega) _ (bdB_size _ _ _))
    have e' : L.getD (a + k) ByteArray.empty = makeB 3 (k : Int) (bdB (tkT P) n k) := e
    refine ⟨⟨by rw [e']; exact p1, by rw [e']; exact p2, by rw [e']; exact p3, by rw [e', p4]; exact bdB_size _ _ _⟩, fun hs => ?_⟩
    obtain ⟨i, hi, hb⟩ := hs
    rw [e', p4, Nat.add_assoc, bitB_page, bdB_bit _ n k _ (by unfold pin at hi ⊢; omega)] at hb
    have : ¬ (256 * k + (pin n k + i) < n) := by unfold pin at hi ⊢; omega
    rw [decide_eq_false this] at hb
    cases hb
end Go.Proofs.YtnnehadmnijhjaaGreatDoor
