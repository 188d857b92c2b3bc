import Derived.Test.YtifjmldmilmfjaaGreatDoorMp22
namespace Go.Proofs.YtifjmldmilmfjaaGreatDoor
open Go.RowKit
set_option maxRecDepth 100000
theorem numB_beL (l : List Int) (hb : Bytes l) : ∀ k, k ≤ l.length → numB (beN (l.take k)) k = l.take k
  | 0, _ => by simp [numB]
  | k + 1, h => by
    rw [be_take l k (by omega), numB_snoc _ _ _ (hb k).1 (hb k).2, numB_beL l hb k (by omega), List.take_add_one, List.getD_eq_getElem?_getD, List.getElem?_eq_getElem (by omega)]
    rfl
/-- a row of numbers as values -/
def nrV (L : List Nat) : List Value := L.map fun n : Nat => Value.int .i64 (n : Int)
/-- what the document's end has taken, as a row -/
structure TkR (w : World) (B : Nat) (e : LE) (v : Value) (L : List Nat) : Prop where
  o : w.ownsRow B 3 1 v L.length (nrV L)
  win : Win (fun n => decide (n ∈ L)) e.t e.m
  q : L.length = e.q
  lt : ∀ n ∈ L, n < 9223372036854775808
theorem old_iff {L : List Nat} {e : LE} (hw : Win (fun n => decide (n ∈ L)) e.t e.m) (N : Nat) : e.old N = true ↔ ∃ x ∈ L, x = N ∨ 32 ≤ (x : Int) - (N : Int) := by
  unfold LE.old
  rw [hw.old]
  constructor
  · intro q
    rcases Bool.or_eq_true_iff.1 q with q | q
    · exact ⟨N, of_decide_eq_true q, .inl rfl⟩
    · have q := of_decide_eq_true q
      have h0 : 0 < e.t := by omega
      have h1 := of_decide_eq_true (hw.2.1 h0)
      exact ⟨e.t - 1, h1, .inr (by omega)⟩
  · rintro ⟨x, hx, rfl | q⟩
    · exact Bool.or_eq_true_iff.2 (.inl (decide_eq_true hx))
    · have := hw.1 x (decide_eq_true hx)
      exact Bool.or_eq_true_iff.2 (.inr (decide_eq_true (by omega)))
theorem upT_mem (L : List Nat) (N : Nat) : upT (fun n => decide (n ∈ L)) N true = fun n => decide (n ∈ L ++ [N]) := by
  funext n
  unfold upT
  split
  · rename_i e
    exact (decide_eq_true (by rw [e]; simp)).symm
  · rename_i e
    show decide (n ∈ L) = decide (n ∈ L ++ [N])
    by_cases q : n ∈ L
    · rw [decide_eq_true q, decide_eq_true (by simp [q])]
    · rw [decide_eq_false q, decide_eq_false (by simp [q, e])]
theorem lmB_list : lmB.toList = [76, 77] := by
  rw [ByteArray.toList_eq]
  rfl
def TkP (w : World) (g B : Nat) (_e : LE) (v : Value) (_L : List Nat) (e' : LE) (w' : World) : Prop :=
  ∃ v' L', DEnd w' g e' v' ∧ TkR w' B e' v' L' ∧ Only (fun k => k = g ∨ v.ownBlock = some k) w w' ∧ (v'.ownBlock = v.ownBlock ∨ ∀ q, v'.ownBlock = some q → w.heap.size ≤ q)
set_option maxHeartbeats 8000000 in
theorem rtake_any (g B : Nat) (e : LE) (v : Value) (L : List Nat) (f : ByteArray) (hf : f.size ≤ 4611686018427387904) (hL9 : L.length ≤ 4398046511104) (w : World) (hE : DEnd w g e v) (hT : TkR w B e v L) (hgB : g < B) (hBw : B ≤ w.heap.size) : Calls Tryz.prog 60 #[.pointer (some ⟨g, 0, none⟩), .string f] w fun ev w' => ev = .returned (.tuple #[.string (e.tkM f), .int .i64 (e.tkE f)]) ∧ TkP w g B e v L (e.tkN f) w' := by
  obtain ⟨h, hh⟩ : ∃ h, w.heap.size = h := ⟨_, rfl⟩
  have hg := hE.lt
  have HRD := hide (rlready_any g e v w hE)
  have HST := hide (show ∀ y, Below h w y → DEnd y g e v ∧ TkR y B e v L from fun y hy => ⟨hE.below hy (by omega), ⟨own_bel hT.o (hy.mono (by omega)), hT.win, hT.q, hT.lt⟩⟩)
  have HSAME := hide (show ∀ y, Below h w y → TkP w g B e v L e y from fun y hy => ⟨v, L, (unhide HST y hy).1, (unhide HST y hy).2, Only.of_below (by rw [hh]; exact hy), .inl rfl⟩)
  have hib := hE.2.2.i
  by_cases hr : e.r = true
  · obtain ⟨ho, hc⟩ := hE.2.2.o hr
    rw [hr] at HRD
    obtain ⟨n, hn⟩ : ∃ n, f.size = n := ⟨_, rfl⟩
    have HKY := hide (fun y (hy : Below h w y) => rkeys_any g e v (by omega) (1 - e.i) (by omega) y (unhide HST y hy).1)
    have h1 : e.h (1 - e.i) = hiB e.k e.a e.b (1 - e.i) := by rw [LE.h, if_pos hr]
    have h2 : e.z (1 - e.i) = seB e.k e.a e.b (1 - e.i) := by rw [LE.z, if_pos hr]
    have z1 : (e.h (1 - e.i)).size = 32 := (e.hz hr _).1
    have z2 : (e.z (1 - e.i)).size = 32 := (e.hz hr _).2
    rw [← h1, ← h2] at HKY
    have HEI := hide (show ∀ y, Below h w y → y.cell? ⟨g, 1, none⟩ = some (.int .i64 (e.i : Int)) from fun y hy => (unhide HST y hy).1.1.cell 1)
    clear h1 h2 hE hT
    by_cases c1 : n < 26
    · rw [hn] at hf
      have d1 : decide ((n : Int) < 26) = true := decide_eq_true (by omega)
      have hv : isB (e.z (1 - e.i)) f = false := decide_eq_false (fun q => by omega)
      obtain ⟨s1, s2, s3⟩ := tk_no e f hr hv
      rw [s1, s2, s3]
      clear s1 s2 s3 hv hr
      go_enter Tryz.func60, Tryz.ntmps60
      go_wp2_with fail
      refine (unhide HRD).mono ?_
      rintro ev y1 ⟨rfl, hb⟩
      have HB1 := hide (show Below h w y1 from hb.mono (by omega))
      clear hb HRD
      go_wp2
      go_ret2
      exact ⟨rfl, unhide HSAME _ (unhide HB1)⟩
    have d1 : decide ((n : Int) < 26) = false := decide_eq_false (by omega)
    by_cases c2 : 4122 < n
    · rw [hn] at hf
      have d2 : decide ((n : Int) > 4122) = true := decide_eq_true (by omega)
      have hv : isB (e.z (1 - e.i)) f = false := decide_eq_false (fun q => by omega)
      obtain ⟨s1, s2, s3⟩ := tk_no e f hr hv
      rw [s1, s2, s3]
      clear s1 s2 s3 hv hr
      go_enter Tryz.func60, Tryz.ntmps60
      go_wp2_with fail
      refine (unhide HRD).mono ?_
      rintro ev y1 ⟨rfl, hb⟩
      have HB1 := hide (show Below h w y1 from hb.mono (by omega))
      clear hb HRD
      go_wp2
      go_ret2
      exact ⟨rfl, unhide HSAME _ (unhide HB1)⟩
    have d2 : decide ((n : Int) > 4122) = false := decide_eq_false (by omega)
    have hbz := boB_size f (by omega)
    have hb2 : (boB f).extract 0 2 = f.extract 0 2 := by
      apply nums_inj
      rw [nums_extract, boB, nums_extract, nums_extract, List.drop_zero, List.drop_zero, List.drop_zero, List.take_take, Nat.min_eq_left (by omega)]
    obtain ⟨l2, hl2⟩ : ∃ z, f.extract 0 2 = z := ⟨_, rfl⟩
    by_cases c3 : l2 = lmB
    · obtain ⟨D, hD⟩ : ∃ z, nums ((boB f).extract 2 (boB f).size) = z := ⟨_, rfl⟩
      have hDb : Bytes D := by rw [← hD]; exact nums_bytes _
      have hDl : D.length = n - 18 := by rw [← hD, nums_len, ByteArray.size_extract]; omega
      have hnr : nrB f = beN (D.take 8) := by rw [nrB, hD]
      have hstep : ∀ k, k < 8 → beN (D.take (k + 1)) = 256 * beN (D.take k) + D.getD k 0 := fun k hk => be_take D k (by omega)
      have hbnd : ∀ k, 0 ≤ beN (D.take k) := fun k => (be_bound D hDb k).1
      obtain ⟨x2, hx2⟩ : ∃ z, D.getD 0 0 = z := ⟨_, rfl⟩
      have hix : (nums f).getD 2 0 = x2 := by
        rw [← hx2, ← hD, nums_tail, boB, nums_extract, List.drop_zero, List.getD_eq_getElem?_getD, List.getD_eq_getElem?_getD, List.getElem?_drop, List.getElem?_take, if_pos (by omega)]
      have hlt2 : 2 < f.size := by omega
      have hfx : ((f[2]'hlt2).toNat : Int) = x2 := by
        rw [← hix]
        have hl : 2 < f.data.toList.length := by simpa using hlt2
        simp only [nums, List.getD_eq_getElem?_getD, List.getElem?_map]
        rw [List.getElem?_eq_getElem hl]
        rfl
      have hq8 : (nrB f < 9223372036854775808 ↔ x2 ≤ 127) ∧ (x2 ≤ 127 → ∀ k, k ≤ 8 → beN (D.take k) < 9223372036854775808) := by
        have s0 : beN (D.take 1) = 256 * beN (D.take 0) + D.getD 0 0 := hstep 0 (by omega)
        have s1 : beN (D.take 2) = 256 * beN (D.take 1) + D.getD 1 0 := hstep 1 (by omega)
        have s2 : beN (D.take 3) = 256 * beN (D.take 2) + D.getD 2 0 := hstep 2 (by omega)
        have s3 : beN (D.take 4) = 256 * beN (D.take 3) + D.getD 3 0 := hstep 3 (by omega)
        have s4 : beN (D.take 5) = 256 * beN (D.take 4) + D.getD 4 0 := hstep 4 (by omega)
        have s5 : beN (D.take 6) = 256 * beN (D.take 5) + D.getD 5 0 := hstep 5 (by omega)
        have s6 : beN (D.take 7) = 256 * beN (D.take 6) + D.getD 6 0 := hstep 6 (by omega)
        have s7 : beN (D.take 8) = 256 * beN (D.take 7) + D.getD 7 0 := hstep 7 (by omega)
        have b0 := hDb 0
        have b1 := hDb 1
        have b2 := hDb 2
        have b3 := hDb 3
        have b4 := hDb 4
        have b5 := hDb 5
        have b6 := hDb 6
        have b7 := hDb 7
        rw [hx2] at s0 b0
        have n0 : beN (D.take 0) = 0 := rfl
        rw [hnr]
        constructor
        · constructor <;> intro q <;> omega
        · intro q k hk
          have hk' : k = 0 ∨ k = 1 ∨ k = 2 ∨ k = 3 ∨ k = 4 ∨ k = 5 ∨ k = 6 ∨ k = 7 ∨ k = 8 := by omega
          rcases hk' with rfl | rfl | rfl | rfl | rfl | rfl | rfl | rfl | rfl <;> omega
      have e2' : f.extract 0 2 = l2 := hl2
      by_cases c4 : x2 ≤ 127
      · have hNlt := hq8.1.2 c4
        have hNs := hq8.2 c4
        have d3 : l2.toList = [76, 77] := by rw [c3]; exact lmB_list
        have hb3 : (boB f).extract 0 2 = lmB := by rw [hb2, hl2]; exact c3
        have HC3 := hide hb3
        clear c3 hb2 hb3
        have d4 : ¬ x2 > 127 := by omega
        obtain ⟨N, hN⟩ : ∃ z : Nat, nrB f = (z : Int) := ⟨(nrB f).toNat, by have := nrB_pos f; omega⟩
        obtain ⟨hi, hhi⟩ : ∃ z, e.h (1 - e.i) = z := ⟨_, rfl⟩
        obtain ⟨se, hse⟩ : ∃ z, e.z (1 - e.i) = z := ⟨_, rfl⟩
        rw [hhi] at z1 HKY
        rw [hse] at z2 HKY
        rw [show (((1 - e.i : Nat)) : Int) = 1 - (e.i : Int) from by omega] at HKY
        obtain ⟨ei, hei⟩ : ∃ z, e.i = z := ⟨_, rfl⟩
        have hei1 : ei ≤ 1 := by omega
        have hbe : f.extract 0 (n - 16) = boB f := by rw [boB, hn]
        have hbz2 : (boB f).size = n - 16 := by omega
        have hnu : (boB f).extract 2 10 = nuB (N : Int) := by
          apply nums_inj
          rw [nuB, nums_strOfNums _ (numB_bytes _ _), ← hN, hnr, numB_beL D hDb 8 (by omega), ← hD, nums_tail, nums_extract, List.take_drop]
        have hrs : (boB f).extract 10 (boB f).size = rsB f := rfl
        have hde : ∀ k, k < 8 → (nums (boB f)).getD (k + 2) 0 = D.getD k 0 := fun k hk => by
          rw [← hD, nums_tail, List.getD_eq_getElem?_getD, List.getD_eq_getElem?_getD, List.getElem?_drop, Nat.add_comm 2 k]
        have hrz : (rsB f).size = n - 26 := by rw [rsB, ByteArray.size_extract]; omega
        have HTB := hide (fun (q : tgB se (boB f) = f) => show isB se f = true from decide_eq_true ⟨by omega, by omega, q, unhide HC3, hNlt⟩)
        have HTN := hide (fun (q : ¬ tgB se (boB f) = f) => show isB se f = false from decide_eq_false (fun p => q p.2.2.1))
        have HTG := hide (fun W => rtagged_any se (boB f) (by omega) (by omega) W)
        obtain ⟨tg, htg⟩ : ∃ z, tgB se (boB f) = z := ⟨_, rfl⟩
        rw [htg] at HTG HTB HTN
        obtain ⟨rs, hrs2⟩ : ∃ z, rsB f = z := ⟨_, rfl⟩
        obtain ⟨b, hb⟩ : ∃ z, boB f = z := ⟨_, rfl⟩
        rw [hrs2] at hrs hrz
        rw [hb] at HTG hbe hnu hrs hde hbz2
        have HST2 := HST
        have hNl : N < 9223372036854775808 := by omega
        have HNR := hide (And.intro hN hrs2)
        have HDD := hide (And.intro hDb (And.intro hstep (And.intro hNs (And.intro hde hbz2))))
        have HEQ := hide (And.intro hhi (And.intro hse hei))
        have hN8 : beN (D.take 8) = (N : Int) := by rw [← hnr, hN]
        have HN8 := hide hN8
        have hbs : (b.size : Int) = ((n - 16 : Nat) : Int) := by omega
        have e10 : (10 : Int) ≤ ((n - 16 : Nat) : Int) := by omega
        have hrs3 : b.extract 10 (n - 16) = rs := by rw [← hbz2]; exact hrs
        rw [hei] at HKY HEI
        have e3 : wrap64 ((n : Int) - 16) = ((n - 16 : Nat) : Int) := by rw [wrap64_eq _ (by omega) (by omega)]; omega
        have hsl : (n - 16 : Nat) ≤ n := by omega
        clear hq8 hstep hbnd hnr hN hDb hDl hNs hde hD hx2 hix hNlt hbz hrs2 htg hN8 hhi hse hei hb hib
        by_cases c5 : tg = f
        · have d5 : (f.toList == tg.toList) = true := by rw [c5]; exact beq_self_eq_true _
          obtain ⟨a1, a2, a3⟩ := unhide HEQ
          have hv : isB (e.z (1 - e.i)) f = true := by rw [a2]; exact unhide HTB c5
          have HOL := hide (show e.old N = true ↔ ∃ x ∈ L, x = N ∨ 32 ≤ (x : Int) - (N : Int) from old_iff (unhide HST w (by rw [← hh]; exact Below.refl _ _)).2.win N)
          obtain ⟨n1, n2⟩ := unhide HNR
          have tN : (nrB f).toNat = N := by omega
          have tE : e.tkE f = if e.old N then 213 else 0 := by rw [LE.tkE, if_neg (by rw [hr]; decide), if_neg (by rw [hv]; decide), tN]
          by_cases c6 : e.old N = true
          · rw [if_pos c6] at tE
            have tM : e.tkM f = ⟨#[]⟩ := by rw [LE.tkM, tE, if_neg (by decide)]
            have tNN : e.tkN f = e := by rw [LE.tkN, tE, if_neg (by decide)]
            rw [tE, tM, tNN]
            have HOX := hide ((unhide HOL).1 c6)
            clear tE tM tNN tN n1 n2 hv hr c5 c6 a1 a2 a3 HEQ HNR HTB HTN HOL
            go_enter Tryz.func60, Tryz.ntmps60
            go_wp2_with fail
            refine (unhide HRD).mono ?_
            rintro ev y1 ⟨rfl, hb⟩
            have HB1 := hide (show Below h w y1 from hb.mono (by omega))
            clear hb HRD
            have q1 := unhide HEI y1 (unhide HB1)
            go_wp2_with fail
            refine (unhide HKY _ (unhide HB1)).mono ?_
            rintro ev y2 ⟨rfl, hb⟩
            have HB2 := hide (show Below h w y2 from (unhide HB1).trans (hb.mono (by have := (unhide HB1).size; omega)))
            clear hb HKY HB1 q1
            go_wp2_with fail
            refine (unhide HTG _).mono ?_
            rintro ev y3 ⟨rfl, hb⟩
            have HB3 := hide (show Below h w y3 from (unhide HB2).trans (hb.mono (by have := (unhide HB2).size; omega)))
            clear hb HTG HB2
            go_wp2
            go_loopw [10, 11] (fun nv iv wr => ∃ k : Nat, k ≤ 8 ∧ nv = .int .i64 (beN (D.take k)) ∧ iv = .int .i64 ((k : Int) + 2) ∧ Hid (Below h w wr)) (fun _ iv _ => 10 - (intOf iv).toNat)
            case atStart => exact ⟨0, by omega, rfl, by go_num, HB3⟩
            case round =>
            clear HB3
            obtain ⟨k, hk, rfl, rfl, HB⟩ := hrel
            obtain ⟨wi, rfl⟩ : ∃ z, z = wr := ⟨_, rfl⟩
            by_cases hk8 : k < 8
            · have e7 : (k : Int) + 2 < 10 := by omega
              obtain ⟨hDb, hstep, hNs, hde, hbz2⟩ := unhide HDD
              have hix := index_str b (k + 2) (by omega)
              rw [hde k hk8, show (((k + 2 : Nat)) : Int) = (k : Int) + 2 from by omega] at hix
              have HSK := hide (hstep k hk8)
              have h1 := hNs (k + 1) (by omega)
              rw [hstep k hk8] at h1
              have h0 := (be_bound D hDb k).1
              obtain ⟨b1, b2⟩ := hDb k
              obtain ⟨dk, hdk⟩ : ∃ z, D.getD k 0 = z := ⟨_, rfl⟩
              rw [hdk] at hix h1 b1 b2 HSK
              obtain ⟨ak, hak⟩ : ∃ z, beN (D.take k) = z := ⟨_, rfl⟩
              rw [hak] at h1 h0 HSK
              have HAK := hide hak
              rw [hak]
              clear hDb hstep hNs hde hbz2 hdk hak
              go_wp2
              go_roundw
              case rel => exact ⟨k + 1, by omega, by rw [unhide HSK], by go_num, HB⟩
              case measure => simp [intOf] <;> omega
            obtain rfl : k = 8 := by omega
            have e7 : ¬ (((8 : Nat)) : Int) + 2 < 10 := by omega
            rw [unhide HN8]
            clear HN8 HDD hk8 hk
            go_wp2
            go_loopw [12] (fun jv wr => ∃ j : Nat, j ≤ L.length ∧ jv = .int .i64 (j : Int) ∧ (∀ x ∈ L.take j, ¬ (x = N ∨ 32 ≤ (x : Int) - (N : Int))) ∧ Hid (Below h w wr)) (fun jv _ => L.length - (intOf jv).toNat)
            case atStart => exact ⟨0, by omega, rfl, fun x hx => by simp at hx, HB⟩
            case round =>
            clear HB e7
            obtain ⟨j, hj, rfl, hno, HB⟩ := hrel
            obtain ⟨wj, rfl⟩ : ∃ z, z = wr := ⟨_, rfl⟩
            have HNO := hide hno
            clear hno
            obtain ⟨hDE, hTK⟩ := unhide HST wj (unhide HB)
            obtain ⟨pv, cv, hvf, _⟩ := gr_form hTK.o
            have c66 : wj.cell? ⟨g, 6, none⟩ = some (.slice pv L.length cv) := by rw [hDE.1.cell 6, ← hvf]; rfl
            obtain ⟨cnt, hcnt⟩ : ∃ z, L.length = z := ⟨_, rfl⟩
            rw [hcnt] at hj c66
            by_cases hjc : j < cnt
            · have e8 : (j : Int) < (cnt : Int) := by omega
              have hcell : ∃ g9, pv = some ⟨g9, 0, none⟩ ∧ wj.cell? ⟨g9, j, none⟩ = some (.int .i64 ((L.getD j 0 : Nat) : Int)) := by
                have ho := hTK.o
                rw [hvf, hcnt] at ho
                obtain ⟨g9, q1, q2, _⟩ := gr_cell ho j hjc
                refine ⟨g9, q1, q2.trans ?_⟩
                rw [nrV, List.getElem?_map, List.getElem?_eq_getElem (by omega), List.getD_eq_getElem?_getD, List.getElem?_eq_getElem (by omega)]
                rfl
              obtain ⟨g9, rfl, cj⟩ := hcell
              have hmem : L.getD j 0 ∈ L := by
                rw [List.getD_eq_getElem?_getD, List.getElem?_eq_getElem (by omega)]
                exact List.getElem_mem _
              have hxl := hTK.lt _ hmem
              obtain ⟨x, hx⟩ : ∃ z, L.getD j 0 = z := ⟨_, rfl⟩
              rw [hx] at cj hmem hxl
              have hnext : (∀ x ∈ L.take j, ¬ (x = N ∨ 32 ≤ (x : Int) - (N : Int))) → ¬ (x = N ∨ 32 ≤ (x : Int) - (N : Int)) → ∀ x ∈ L.take (j + 1), ¬ (x = N ∨ 32 ≤ (x : Int) - (N : Int)) := fun q1 q2 y hy => by
                rw [List.take_add_one, List.getElem?_eq_getElem (by omega)] at hy
                rw [List.getD_eq_getElem?_getD, List.getElem?_eq_getElem (by omega)] at hx
                simp only [Option.toList_some, List.mem_append, List.mem_singleton] at hy
                rcases hy with hy | hy
                · exact q1 y hy
                · rw [hy, show L[j] = x from hx]
                  exact q2
              have HNX := hide hnext
              have HMM := hide hmem
              have hw : wrap64 ((x : Int) - (N : Int)) = (x : Int) - (N : Int) := wrap64_eq _ (by omega) (by omega)
              clear hx hnext hmem hDE hTK hvf
              by_cases c7 : x = N
              · have d7 : ((x : Int) == (N : Int)) = true := by rw [c7]; exact beq_self_eq_true _
                have HR := hide (show x = N ∨ 32 ≤ (x : Int) - (N : Int) from .inl c7)
                clear c7
                go_wp2
                go_ret2
                exact ⟨rfl, unhide HSAME _ (unhide HB)⟩
              have d7 : ((x : Int) == (N : Int)) = false := by
                have : ¬ (x : Int) = (N : Int) := by omega
                simpa using this
              by_cases c8 : 32 ≤ (x : Int) - (N : Int)
              · have d8 : decide ((x : Int) - (N : Int) ≥ 32) = true := decide_eq_true c8
                have HR := hide (show x = N ∨ 32 ≤ (x : Int) - (N : Int) from .inr c8)
                go_wp2
                go_ret2
                exact ⟨rfl, unhide HSAME _ (unhide HB)⟩
              have d8 : decide ((x : Int) - (N : Int) ≥ 32) = false := decide_eq_false (fun q => c8 q)
              have HNN := hide (unhide HNX (unhide HNO) (by rintro (q | q); exact c7 q; exact c8 q))
              clear HNX HNO c7 c8
              go_wp2
              go_roundw
              case rel => exact ⟨j + 1, by omega, by go_num, unhide HNN, HB⟩
              case measure => simp [intOf] <;> omega
            obtain ⟨x, hx, hq⟩ := unhide HOX
            exact absurd hq (unhide HNO x (by rw [List.take_of_length_le (by omega)]; exact hx))
          · rw [if_neg c6] at tE
            have tM : e.tkM f = hdB hi (N : Int) rs := by rw [LE.tkM, tE, if_pos rfl, a1, n1, n2]
            have tNN : e.tkN f = { e with t := mkT e.t N, m := mkM e.t e.m N, q := e.q + 1 } := by rw [LE.tkN, tE, if_pos rfl, tN]
            rw [tE, tM, tNN]
            have HOX := hide (fun q => c6 ((unhide HOL).2 q))
            have HM := hide (fun W => rmac_any hi (nuB (N : Int)) (by omega) (by have := nuB_size (N : Int); omega) W)
            rw [show strOfNums (macP (nums hi) (nums (nuB (N : Int)))) = mcB hi (nuB (N : Int)) from rfl] at HM
            have HX := hide (fun W => rxor_any (mcB hi (nuB (N : Int))) 0 rs (by omega) W)
            rw [show xorB (mcB hi (nuB (N : Int))) 0 rs = hdB hi (N : Int) rs from rfl] at HX
            have HQ := hide (show mkM e.t e.m N < 4294967296 ∧ mkT e.t N ≤ 9223372036854775808 from by
              have hok := (unhide HST w (by rw [← hh]; exact Below.refl _ _)).1.2.2
              refine ⟨mkM_lt _ _ _ hok.m (fun h9 => ?_), ?_⟩
              · have c7 : e.old N = false := by simpa using c6
                have c8 := of_decide_eq_false c7
                rcases Nat.lt_or_ge (e.t - 1 - N) 32 with r | r
                · exact r
                · exact absurd ⟨h9, .inl r⟩ c8
              · unfold mkT
                have := hok.t
                split <;> omega)
            generalize hdB hi (N : Int) rs = hd at *
            generalize mcB hi (nuB (N : Int)) = mc at *
            generalize nuB (N : Int) = nu at *
            clear tE tM tNN tN n1 n2 hv hr c5 c6 a1 a2 a3 HEQ HNR HTB HTN HOL
            go_enter Tryz.func60, Tryz.ntmps60
            go_wp2_with fail
            refine (unhide HRD).mono ?_
            rintro ev y1 ⟨rfl, hb⟩
            have HB1 := hide (show Below h w y1 from hb.mono (by omega))
            clear hb HRD
            have q1 := unhide HEI y1 (unhide HB1)
            go_wp2_with fail
            refine (unhide HKY _ (unhide HB1)).mono ?_
            rintro ev y2 ⟨rfl, hb⟩
            have HB2 := hide (show Below h w y2 from (unhide HB1).trans (hb.mono (by have := (unhide HB1).size; omega)))
            clear hb HKY HB1 q1
            go_wp2_with fail
            refine (unhide HTG _).mono ?_
            rintro ev y3 ⟨rfl, hb⟩
            have HB3 := hide (show Below h w y3 from (unhide HB2).trans (hb.mono (by have := (unhide HB2).size; omega)))
            clear hb HTG HB2
            go_wp2
            go_loopw [10, 11] (fun nv iv wr => ∃ k : Nat, k ≤ 8 ∧ nv = .int .i64 (beN (D.take k)) ∧ iv = .int .i64 ((k : Int) + 2) ∧ Hid (Below h w wr)) (fun _ iv _ => 10 - (intOf iv).toNat)
            case atStart => exact ⟨0, by omega, rfl, by go_num, HB3⟩
            case round =>
            clear HB3
            obtain ⟨k, hk, rfl, rfl, HB⟩ := hrel
            obtain ⟨wi, rfl⟩ : ∃ z, z = wr := ⟨_, rfl⟩
            by_cases hk8 : k < 8
            · have e7 : (k : Int) + 2 < 10 := by omega
              obtain ⟨hDb, hstep, hNs, hde, hbz2⟩ := unhide HDD
              have hix := index_str b (k + 2) (by omega)
              rw [hde k hk8, show (((k + 2 : Nat)) : Int) = (k : Int) + 2 from by omega] at hix
              have HSK := hide (hstep k hk8)
              have h1 := hNs (k + 1) (by omega)
              rw [hstep k hk8] at h1
              have h0 := (be_bound D hDb k).1
              obtain ⟨b1, b2⟩ := hDb k
              obtain ⟨dk, hdk⟩ : ∃ z, D.getD k 0 = z := ⟨_, rfl⟩
              rw [hdk] at hix h1 b1 b2 HSK
              obtain ⟨ak, hak⟩ : ∃ z, beN (D.take k) = z := ⟨_, rfl⟩
              rw [hak] at h1 h0 HSK
              have HAK := hide hak
              rw [hak]
              clear hDb hstep hNs hde hbz2 hdk hak
              go_wp2
              go_roundw
              case rel => exact ⟨k + 1, by omega, by rw [unhide HSK], by go_num, HB⟩
              case measure => simp [intOf] <;> omega
            obtain rfl : k = 8 := by omega
            have e7 : ¬ (((8 : Nat)) : Int) + 2 < 10 := by omega
            rw [unhide HN8]
            clear HN8 HDD hk8 hk
            go_wp2
            go_loopw [12] (fun jv wr => ∃ j : Nat, j ≤ L.length ∧ jv = .int .i64 (j : Int) ∧ (∀ x ∈ L.take j, ¬ (x = N ∨ 32 ≤ (x : Int) - (N : Int))) ∧ Hid (Below h w wr)) (fun jv _ => L.length - (intOf jv).toNat)
            case atStart => exact ⟨0, by omega, rfl, fun x hx => by simp at hx, HB⟩
            case round =>
            clear HB e7
            obtain ⟨j, hj, rfl, hno, HB⟩ := hrel
            obtain ⟨wj, rfl⟩ : ∃ z, z = wr := ⟨_, rfl⟩
            have HNO := hide hno
            clear hno
            obtain ⟨hDE, hTK⟩ := unhide HST wj (unhide HB)
            obtain ⟨pv, cv, hvf, _⟩ := gr_form hTK.o
            have c66 : wj.cell? ⟨g, 6, none⟩ = some (.slice pv L.length cv) := by rw [hDE.1.cell 6, ← hvf]; rfl
            obtain ⟨cnt, hcnt⟩ : ∃ z, L.length = z := ⟨_, rfl⟩
            rw [hcnt] at hj c66
            by_cases hjc : j < cnt
            · have e8 : (j : Int) < (cnt : Int) := by omega
              have hcell : ∃ g9, pv = some ⟨g9, 0, none⟩ ∧ wj.cell? ⟨g9, j, none⟩ = some (.int .i64 ((L.getD j 0 : Nat) : Int)) := by
                have ho := hTK.o
                rw [hvf, hcnt] at ho
                obtain ⟨g9, q1, q2, _⟩ := gr_cell ho j hjc
                refine ⟨g9, q1, q2.trans ?_⟩
                rw [nrV, List.getElem?_map, List.getElem?_eq_getElem (by omega), List.getD_eq_getElem?_getD, List.getElem?_eq_getElem (by omega)]
                rfl
              obtain ⟨g9, rfl, cj⟩ := hcell
              have hmem : L.getD j 0 ∈ L := by
                rw [List.getD_eq_getElem?_getD, List.getElem?_eq_getElem (by omega)]
                exact List.getElem_mem _
              have hxl := hTK.lt _ hmem
              obtain ⟨x, hx⟩ : ∃ z, L.getD j 0 = z := ⟨_, rfl⟩
              rw [hx] at cj hmem hxl
              have hnext : (∀ x ∈ L.take j, ¬ (x = N ∨ 32 ≤ (x : Int) - (N : Int))) → ¬ (x = N ∨ 32 ≤ (x : Int) - (N : Int)) → ∀ x ∈ L.take (j + 1), ¬ (x = N ∨ 32 ≤ (x : Int) - (N : Int)) := fun q1 q2 y hy => by
                rw [List.take_add_one, List.getElem?_eq_getElem (by omega)] at hy
                rw [List.getD_eq_getElem?_getD, List.getElem?_eq_getElem (by omega)] at hx
                simp only [Option.toList_some, List.mem_append, List.mem_singleton] at hy
                rcases hy with hy | hy
                · exact q1 y hy
                · rw [hy, show L[j] = x from hx]
                  exact q2
              have HNX := hide hnext
              have HMM := hide hmem
              have hw : wrap64 ((x : Int) - (N : Int)) = (x : Int) - (N : Int) := wrap64_eq _ (by omega) (by omega)
              clear hx hnext hmem hDE hTK hvf
              by_cases c7 : x = N
              · have d7 : ((x : Int) == (N : Int)) = true := by rw [c7]; exact beq_self_eq_true _
                have HR := hide (show x = N ∨ 32 ≤ (x : Int) - (N : Int) from .inl c7)
                clear c7
                exact absurd ⟨x, unhide HMM, unhide HR⟩ (unhide HOX)
              have d7 : ((x : Int) == (N : Int)) = false := by
                have : ¬ (x : Int) = (N : Int) := by omega
                simpa using this
              by_cases c8 : 32 ≤ (x : Int) - (N : Int)
              · have d8 : decide ((x : Int) - (N : Int) ≥ 32) = true := decide_eq_true c8
                have HR := hide (show x = N ∨ 32 ≤ (x : Int) - (N : Int) from .inr c8)
                exact absurd ⟨x, unhide HMM, unhide HR⟩ (unhide HOX)
              have d8 : decide ((x : Int) - (N : Int) ≥ 32) = false := decide_eq_false (fun q => c8 q)
              have HNN := hide (unhide HNX (unhide HNO) (by rintro (q | q); exact c7 q; exact c8 q))
              clear HNX HNO c7 c8
              go_wp2
              go_roundw
              case rel => exact ⟨j + 1, by omega, by go_num, unhide HNN, HB⟩
              case measure => simp [intOf] <;> omega
            have e8 : ¬ (j : Int) < (cnt : Int) := by omega
            have hgv : ∀ q, v.ownBlock = some q → B ≤ q := fun q hq => (hTK.o.lt q hq).1
            have HOf := hide (show (wj.alloc (.cells #[.int .i64 (N : Int)] 3)).ownsRow B 3 1 (.slice pv cnt cv) cnt (nrV L) from by
              have := hTK.o.alloc (.cells #[.int .i64 (N : Int)] 3)
              rw [hvf, hcnt] at this
              exact this)
            have hBz : B ≤ wj.heap.size := by have := (unhide HB).size; omega
            obtain ⟨i3, hi3, hz33, hz13, hz23⟩ := info_parts gr_int
            have HI3 := hide (And.intro hi3 (And.intro hz33 (And.intro hz13 hz23)))
            have hcn9 : cnt ≤ 4398046511104 := by omega
            have HFN := hide (show ∀ g5 c5 x5, x5.ownsRow B 3 1 (.slice (some ⟨g5, 0, none⟩) (cnt + 1) c5) (cnt + 1) (nrV L ++ [.int .i64 (N : Int)]) → (wj.alloc (.cells #[.int .i64 (N : Int)] 3)).grownBy x5 (Value.slice pv cnt cv).ownBlock → ((Value.slice pv cnt cv).ownBlock = some g5 ∨ g5 = wj.heap.size + 1) → (x5.cell? ⟨g, 6, none⟩ = some (.slice pv cnt cv) ∧ x5.frozen? ⟨g, 6, none⟩ = false) ∧ ∀ y, Below (x5.setCell ⟨g, 6, none⟩ (.slice (some ⟨g5, 0, none⟩) (cnt + 1) c5)).heap.size (x5.setCell ⟨g, 6, none⟩ (.slice (some ⟨g5, 0, none⟩) (cnt + 1) c5)) y → TkP w g B e v L { e with t := mkT e.t N, m := mkM e.t e.m N, q := e.q + 1 } y from fun g5 c5 x5 a1 a2 a3 => by
              have hvo : (Value.slice pv cnt cv).ownBlock = v.ownBlock := by rw [hvf, hcnt]
              rw [hvo] at a2 a3
              have hO5 : Only (fun q => v.ownBlock = some q) wj x5 := ((Only.refl _ wj).alloc _).grown a2 (fun _ _ e => e)
              have hgn : ¬ v.ownBlock = some g := fun q => by have := hgv g q; omega
              have hD5 := hDE.only hO5 hgn
              have h6 : x5.cell? ⟨g, 6, none⟩ = some v := hD5.1.cell 6
              refine ⟨⟨by rw [h6, hvf, hcnt], hD5.1.frozen 6⟩, fun y hy => ?_⟩
              obtain ⟨nv, hnv⟩ : ∃ z, Value.slice (some ⟨g5, 0, none⟩) (cnt + 1) c5 = z := ⟨_, rfl⟩
              rw [hnv] at hy a1
              have hnb : nv.ownBlock = some g5 := by rw [← hnv]; rfl
              have hg5 : g5 ≠ g := by have := (a1.lt g5 hnb).1; omega
              have hOS : Only (fun q => q = g) x5 (x5.setCell ⟨g, 6, none⟩ nv) := (Only.refl _ _).setCell _ _ (fun _ => rfl)
              have hok := hD5.2.2
              obtain ⟨hM, hTt⟩ := unhide HQ
              have hb6 := hD5.1.set 6 nv
              have hlen : (L ++ [N]).length = cnt + 1 := by rw [List.length_append, hcnt]; rfl
              refine ⟨nv, L ++ [N], ⟨hb6.below hy hb6.lt, ⟨hD5.2.1.o⟩, hok.k, hok.n, hok.o, hok.i, hok.s, hTt, hM, ?_⟩, ⟨?_, ?_, ?_, ?_⟩, ?_, ?_⟩
              · show e.q + 1 ≤ _
                have := hTK.q
                omega
              · rw [hlen]
                refine own_bel (owns_only ?_ hOS (fun q hq e9 => ?_)) hy
                · rw [show nrV (L ++ [N]) = nrV L ++ [.int .i64 (N : Int)] from by rw [nrV, List.map_append]; rfl]
                  exact a1
                · rw [hnb] at hq
                  injection hq with hq
                  exact hg5 (hq.trans e9)
              · rw [← upT_mem]
                exact hTK.win.mark N
              · show (L ++ [N]).length = e.q + 1
                rw [List.length_append, hTK.q]
                rfl
              · intro z hz
                rcases List.mem_append.1 hz with hz | hz
                · exact hTK.lt z hz
                · rw [List.mem_singleton.1 hz]; exact hNl
              · have h0 : Only (fun k => k = g ∨ v.ownBlock = some k) w wj := Only.of_below (by rw [hh]; exact unhide HB)
                exact ((h0.trans (hO5.mono (fun _ _ q => .inr q)) (fun _ _ q => q)).trans (hOS.mono (fun _ _ q => .inl q)) (fun _ _ q => q)).trans (Only.of_below (P := fun _ => False) hy) (fun _ _ q => q.elim)
              · rw [hnb]
                rcases a3 with r | r
                · exact .inl r.symm
                · refine .inr (fun q hq => ?_)
                  injection hq with hq
                  have := (unhide HB).size
                  omega)
            clear hDE hTK hvf hcnt hgv hi3 hz33 hz13 hz23 HNO
            go_wp2_with (refine wpList_append_lies _ rfl (.tmp 102) (.tmp 104) 23 rfl B 3 i3 (.int .i64 0) 1 8 Tryz.underlying23 (unhide HI3).1 (unhide HI3).2.1 (unhide HI3).2.2.1 (unhide HI3).2.2.2 rfl (by decide) _ cnt _ rfl (unhide HOf) ⟨wj.heap.size, 0, none⟩ 1 1 [.int .i64 (N : Int)] rfl rfl (fun q u hu => gr_new wj 3 _ q u hu) (by simp [Value.oneCell']) (by decide) (by unfold maxLen; omega) (by omega) (by simp; omega) (wj.heap.size + 1) (by simp) ?_)
            intro g5 c5 x5 ho5 hg5 hat5 _
            obtain ⟨⟨k1, k2⟩, k3⟩ := unhide HFN g5 c5 x5 ho5 hg5 hat5
            have HTP := hide k3
            clear k3 ho5 hg5 hat5 HFN HOf c66
            go_wp2_with fail
            generalize x5.setCell ⟨g, 6, none⟩ (.slice (some ⟨g5, 0, none⟩) (cnt + 1) c5) = x7 at *
            generalize errP mc 0 (rs.size : Int) = er at *
            refine wp_region_held_drew (S := fun W => Below x7.heap.size x7 W) (by kernel_rfl) (Below.refl _ _).drew ?_
            intro hS
            refine wpAnyH_takeD 0 (some 109) (.string hi) rfl rfl (by kernel_rfl) (by kernel_rfl) (by kernel_rfl) (fun _ _ _ h => h) (Or.inl ⟨by rfl, fun w hSw => by clear hSw; go_simp; try omega⟩) hS ?_
            simp only [Act.put, List.setIfInBounds_toArray, List.set_cons_zero, List.set_cons_succ]
            refine wpAnyH_takeD 1 (some 110) (.string b) rfl rfl (by kernel_rfl) (by kernel_rfl) (by kernel_rfl) (fun _ _ _ h => h) (Or.inl ⟨by rfl, fun w hSw => by clear hSw; go_simp; try omega⟩) hS ?_
            simp only [Act.put, List.setIfInBounds_toArray, List.set_cons_zero, List.set_cons_succ]
            refine wpAnyH_takeD 2 (some 111) (.string nu) rfl rfl (by kernel_rfl) (by kernel_rfl) (by kernel_rfl) (fun _ _ _ h => h) (Or.inl ⟨by rfl, fun w hSw => by clear hSw; go_simp; try omega⟩) hS ?_
            simp only [Act.put, List.setIfInBounds_toArray, List.set_cons_zero, List.set_cons_succ]
            refine wpAnyH_takeD 4 (some 113) (.string b) rfl rfl (by kernel_rfl) (by kernel_rfl) (by kernel_rfl) (fun _ _ _ h => h) (Or.inl ⟨by rfl, fun w hSw => by clear hSw; go_simp; try omega⟩) hS ?_
            simp only [Act.put, List.setIfInBounds_toArray, List.set_cons_zero, List.set_cons_succ]
            refine wpAnyH_takeD 5 (some 114) (.string rs) rfl rfl (by kernel_rfl) (by kernel_rfl) (by kernel_rfl) (fun _ _ _ h => h) (Or.inl ⟨by rfl, fun w hSw => by clear hSw; go_simp; try omega⟩) hS ?_
            simp only [Act.put, List.setIfInBounds_toArray, List.set_cons_zero, List.set_cons_succ]
            refine wpAnyH_ready (rs := [3]) (by kernel_rfl) (by simp) ?_
            refine AllReadyH.cons rfl (fun K hK => ?_) AllReadyH.nil
            simp only [List.getElem_toArray, List.getElem_cons_succ, List.getElem_cons_zero]
            go_simp
            refine (unhide HM _).mono ?_
            rintro ev y8 ⟨rfl, hb⟩
            have hS9 : Below x7.heap.size x7 y8 := hS.trans (hb.mono hS.size)
            clear hb
            refine hK.out _ _ hS9 (fun hS => ?_)
            clear hK K
            refine wpAnyH_ready (rs := [6]) (by kernel_rfl) (by simp) ?_
            refine AllReadyH.cons rfl (fun K hK => ?_) AllReadyH.nil
            simp only [List.getElem_toArray, List.getElem_cons_succ, List.getElem_cons_zero]
            go_simp
            refine (unhide HX _).mono ?_
            rintro ev y9 ⟨rfl, hb⟩
            have hS9 : Below x7.heap.size x7 y9 := hS.trans (hb.mono hS.size)
            clear hb
            refine hK.out _ _ hS9 (fun hS => ?_)
            clear hK K
            refine wpAnyH_takeD 7 (some 108) (.tuple #[.string hd, .int .i64 er]) rfl rfl (by kernel_rfl) (by kernel_rfl) (by kernel_rfl) (fun _ _ _ h => h) (Or.inl ⟨by rfl, fun w hSw => by clear hSw; go_simp; try omega⟩) hS ?_
            simp only [Act.put, List.setIfInBounds_toArray, List.set_cons_zero, List.set_cons_succ]
            refine wpAnyH_takeD 8 (some 116) (.string hd) rfl rfl (by kernel_rfl) (by kernel_rfl) (by kernel_rfl) (fun _ _ _ h => h) (Or.inl ⟨by rfl, fun w hSw => by clear hSw; go_simp; try omega⟩) hS ?_
            simp only [Act.put, List.setIfInBounds_toArray, List.set_cons_zero, List.set_cons_succ]
            refine wpAnyH_takeD 9 (some 117) (.int .i64 er) rfl rfl (by kernel_rfl) (by kernel_rfl) (by kernel_rfl) (fun _ _ _ h => h) (Or.inl ⟨by rfl, fun w hSw => by clear hSw; go_simp; try omega⟩) hS ?_
            simp only [Act.put, List.setIfInBounds_toArray, List.set_cons_zero, List.set_cons_succ]
            refine wpAnyH_takeD 10 (some 13) (.string hd) rfl rfl (by kernel_rfl) (by kernel_rfl) (by kernel_rfl) (fun _ _ _ h => h) (Or.inl ⟨by rfl, fun w hSw => by clear hSw; go_simp; try omega⟩) hS ?_
            simp only [Act.put, List.setIfInBounds_toArray, List.set_cons_zero, List.set_cons_succ]
            refine wpAnyH_takeD 11 (some 14) (.int .i64 er) rfl rfl (by kernel_rfl) (by kernel_rfl) (by kernel_rfl) (fun _ _ _ h => h) (Or.inl ⟨by rfl, fun w hSw => by clear hSw; go_simp; try omega⟩) hS ?_
            simp only [Act.put, List.setIfInBounds_toArray, List.set_cons_zero, List.set_cons_succ]
            refine wpAnyH_done (by kernel_rfl) ?_ _
            clear HM HX
            go_wp2
            go_ret2
            exact ⟨rfl, unhide HTP _ hS⟩
        · have d5 : (f.toList == tg.toList) = false := str_ne (fun q => c5 q.symm)
          obtain ⟨a1, a2, a3⟩ := unhide HEQ
          have hv : isB (e.z (1 - e.i)) f = false := by rw [a2]; exact unhide HTN c5
          obtain ⟨s1, s2, s3⟩ := tk_no e f hr hv
          rw [s1, s2, s3]
          clear s1 s2 s3 hv hr c5 a1 a2 a3 HDD HEQ HNR HTB HTN
          go_enter Tryz.func60, Tryz.ntmps60
          go_wp2_with fail
          refine (unhide HRD).mono ?_
          rintro ev y1 ⟨rfl, hb⟩
          have HB1 := hide (show Below h w y1 from hb.mono (by omega))
          clear hb HRD
          have q1 := unhide HEI y1 (unhide HB1)
          go_wp2_with fail
          refine (unhide HKY _ (unhide HB1)).mono ?_
          rintro ev y2 ⟨rfl, hb⟩
          have HB2 := hide (show Below h w y2 from (unhide HB1).trans (hb.mono (by have := (unhide HB1).size; omega)))
          clear hb HKY HB1 q1
          go_wp2_with fail
          refine (unhide HTG _).mono ?_
          rintro ev y3 ⟨rfl, hb⟩
          have HB3 := hide (show Below h w y3 from (unhide HB2).trans (hb.mono (by have := (unhide HB2).size; omega)))
          clear hb HTG HB2
          go_wp2
          go_ret2
          exact ⟨rfl, unhide HSAME _ (unhide HB3)⟩
      · have d4 : x2 > 127 := by omega
        have d3 : l2.toList = [76, 77] := by rw [c3]; exact lmB_list
        clear c3
        have q2 : ¬ nrB f < 9223372036854775808 := fun q => c4 (hq8.1.1 q)
        have hv : isB (e.z (1 - e.i)) f = false := decide_eq_false (fun q => q2 q.2.2.2.2)
        obtain ⟨s1, s2, s3⟩ := tk_no e f hr hv
        rw [s1, s2, s3]
        clear s1 s2 s3 hv hr q2 hb2 hq8 hstep hbnd hnr hD hDb hDl hx2 hix
        go_enter Tryz.func60, Tryz.ntmps60
        go_wp2_with fail
        refine (unhide HRD).mono ?_
        rintro ev y1 ⟨rfl, hb⟩
        have HB1 := hide (show Below h w y1 from hb.mono (by omega))
        clear hb HRD
        go_wp2
        go_ret2
        exact ⟨rfl, unhide HSAME _ (unhide HB1)⟩
    · have d3 : ¬ l2.toList = [76, 77] := by
        have q := str_ne c3
        rw [lmB_list] at q
        simpa using q
      have q2 : ¬ (boB f).extract 0 2 = lmB := by rw [hb2, hl2]; exact c3
      have hv : isB (e.z (1 - e.i)) f = false := decide_eq_false (fun q => q2 q.2.2.2.1)
      obtain ⟨s1, s2, s3⟩ := tk_no e f hr hv
      rw [s1, s2, s3]
      clear s1 s2 s3 hv hr q2 hb2
      go_enter Tryz.func60, Tryz.ntmps60
      go_wp2_with fail
      refine (unhide HRD).mono ?_
      rintro ev y1 ⟨rfl, hb⟩
      have HB1 := hide (show Below h w y1 from hb.mono (by omega))
      clear hb HRD
      go_wp2
      go_ret2
      exact ⟨rfl, unhide HSAME _ (unhide HB1)⟩
  · have s1 : e.tkE f = 211 := by rw [LE.tkE, if_pos (by simpa using hr)]
    have s2 : e.tkM f = ⟨#[]⟩ := by rw [LE.tkM, s1, if_neg (by decide)]
    have s3 : e.tkN f = e := by rw [LE.tkN, s1, if_neg (by decide)]
    rw [s1, s2, s3]
    have hr' : e.r = false := by simpa using hr
    rw [hr'] at HRD
    clear s1 s2 s3 hr hr' hE hT
    go_enter Tryz.func60, Tryz.ntmps60
    go_wp2_with fail
    refine (unhide HRD).mono ?_
    rintro ev y1 ⟨rfl, hb⟩
    have HB1 := hide (show Below h w y1 from hb.mono (by omega))
    clear hb HRD
    go_wp2
    go_ret2
    exact ⟨rfl, unhide HSAME _ (unhide HB1)⟩
end Go.Proofs.YtifjmldmilmfjaaGreatDoor
