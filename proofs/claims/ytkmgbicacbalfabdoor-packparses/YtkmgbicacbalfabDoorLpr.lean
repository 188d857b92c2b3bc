import Derived.Test.YtkmgbicacbalfabDoorLmk
namespace Go.Proofs.YtkmgbicacbalfabDoor
open Go.RowKit
theorem parse_both (s : ByteArray) (hs : s.size ≤ 9223372036854775807) : ∃ (k n E : Int) (b : ByteArray),
    (∀ W, ETy W → Calls Tryd.prog 22 #[.string s] W fun e w' => e = .returned (.tuple #[.agg #[.int .i64 k, .int .i64 n, .string b], .int .i64 E]) ∧ Below W.heap.size W w') ∧
    (∀ W, Calls Tryd.prog 23 #[.string s] W fun e w' => e = .returned (.tuple #[.agg #[.int .i64 k, .int .i64 n, .string b], .int .i64 E]) ∧ Below W.heap.size W w') := by
  by_cases h : prOk s
  · refine ⟨pkd s, pnm s, 0, pbd s, fun W hW => parse_yes s hs h W hW, fun W => (rparse_any s W).mono ?_⟩
    rintro e w' ⟨h1 | h1, hb⟩
    · exact ⟨h1.2, hb⟩
    · exact absurd h h1.1
  · refine ⟨0, 0, 35, ⟨#[]⟩, fun W hW => parse_no s hs h W hW, fun W => (rparse_any s W).mono ?_⟩
    rintro e w' ⟨h1 | h1, hb⟩
    · exact absurd h1.1 h
    · exact ⟨h1.2, hb⟩
/-- What is kept between two rounds: the two pages, the bytes. -/
def PInv (w : World) (A B X : Nat) (pa pb : Array Value) (L : List Int) (wr : World) : Prop :=
  Blk wr A pa 46 ∧ Blk wr B pb 46 ∧ Arr wr X 0 .u8 L ∧ L.length = 256 ∧ Below w.heap.size w wr ∧ X < wr.heap.size
theorem PInv.put {w : World} {A B X : Nat} {pa pb : Array Value} {L : List Int} {wr : World} (h : PInv w A B X pa pb L wr) (hA : A ≠ X) (hB : B ≠ X) (hX : w.heap.size ≤ X) (q : Nat) (hq : q < 256) (v : Int) : PInv w A B X pa pb (L.set q v) (wr.setCell ⟨X, q, none⟩ (.int .u8 v)) :=
  ⟨h.1.other _ _ (fun e => hA e.symm), h.2.1.other _ _ (fun e => hB e.symm), h.2.2.1.set0 q (by rw [h.2.2.2.1]; exact hq) v, by rw [List.length_set]; exact h.2.2.2.1, h.2.2.2.2.1.setCell hX _, by simpa using h.2.2.2.2.2⟩
def put3 (w : World) (A : Nat) (a b c : Value) : World := ((w.setCell ⟨A, 0, none⟩ a).setCell ⟨A, 1, none⟩ b).setCell ⟨A, 2, none⟩ c
theorem PInv.putA {w : World} {A B X : Nat} {a0 a1 a2 : Value} {pb : Array Value} {L : List Int} {wr : World} (h : PInv w A B X #[a0, a1, a2] pb L wr) (hB : A ≠ B) (hX : A ≠ X) (hA : w.heap.size ≤ A) (a b c : Value) : PInv w A B X #[a, b, c] pb L (put3 wr A a b c) :=
  ⟨((h.1.set 0 a).set 1 b).set 2 c, ((h.2.1.other _ _ hB).other _ _ hB).other _ _ hB, ((h.2.2.1.other _ _ (Or.inl hX)).other _ _ (Or.inl hX)).other _ _ (Or.inl hX), h.2.2.2.1, ((h.2.2.2.2.1.setCell hA _).setCell hA _).setCell hA _, by simpa [put3] using h.2.2.2.2.2⟩
theorem PInv.putB {w : World} {A B X : Nat} {a0 a1 a2 : Value} {pa : Array Value} {L : List Int} {wr : World} (h : PInv w A B X pa #[a0, a1, a2] L wr) (hB : B ≠ A) (hX : B ≠ X) (hA : w.heap.size ≤ B) (a b c : Value) : PInv w A B X pa #[a, b, c] L (put3 wr B a b c) :=
  ⟨((h.1.other _ _ hB).other _ _ hB).other _ _ hB, ((h.2.1.set 0 a).set 1 b).set 2 c, ((h.2.2.1.other _ _ (Or.inl hX)).other _ _ (Or.inl hX)).other _ _ (Or.inl hX), h.2.2.2.1, ((h.2.2.2.2.1.setCell hA _).setCell hA _).setCell hA _, by simpa [put3] using h.2.2.2.2.2⟩
theorem PInv.step {w : World} {A B X : Nat} {pa pb : Array Value} {L : List Int} {wr w2 : World} (h : PInv w A B X pa pb L wr) (hb : Below wr.heap.size wr w2) (hw : w.heap.size ≤ A) (h1 : A < X) (h2 : B < X) : PInv w A B X pa pb L w2 := by
  have hX := h.2.2.2.2.2
  exact ⟨h.1.below hb (by omega), h.2.1.below hb (by omega), h.2.2.1.below hb hX, h.2.2.2.1, h.2.2.2.2.1.trans (hb.mono (by omega)), by have := hb.size; omega⟩
set_option maxRecDepth 100000 in
set_option maxHeartbeats 8000000 in
theorem parses_walk (s : ByteArray) (hs : s.size ≤ 9223372036854775807) (kind number : Int) (body : ByteArray) (at0 by0 : Int) (hat : I64 at0) (w : World) (hg : ETy w) :
    Calls Tryd.prog 4 #[.string s, .agg #[.int .i64 kind, .int .i64 number, .string body], .int .i64 at0, .int .i64 by0] w fun e w' => e = .returned (.bool true) ∧ Below w.heap.size w w' := by
  obtain ⟨k1, n1, E1, b1, hpa, hpb⟩ := parse_both s hs
  have HPA := hide hpa
  have HPB := hide hpb
  have HRM := hide (fun W => rmake_any kind number body W)
  have HSM := hide (fun W => same_true k1 n1 b1 W)
  have HP3 := hide (fun W => pick_c at0 252 (by decide) hat 252 rfl W)
  have l3 := pickP_lt at0 252 (by decide)
  generalize pickP at0 252 = q at *
  obtain ⟨St, hSt⟩ : ∃ S, makeB kind number body = S := ⟨_, rfl⟩
  obtain ⟨E, hE⟩ : ∃ E, errM kind number body.size = E := ⟨_, rfl⟩
  rw [hSt, hE] at HRM
  have HG := hide hg
  have HSZ := hide (show E = 0 → St.size = 256 by
    intro h0
    obtain ⟨hok, _⟩ := make_parse kind number body (by rw [hE]; exact h0)
    rw [hSt] at hok
    exact (prOk_size St hok).1)
  clear hpa hpb hat hSt hE hg
  go_enter Tryd.func4, Tryd.ntmps4
  go_wp2_with fail
  have hg0 : ETy (w.alloc (Obj.cells #[.int .i64 kind, .int .i64 number, .string body] 46)) := (unhide HG).below ((Below.refl _ w).alloc (Nat.le_refl _) _) (unhide HG).lt
  refine (unhide HPA _ hg0).mono ?_
  rintro ev x1 ⟨rfl, hB1⟩
  have P1 := hide (show Blk x1 w.heap.size #[.int .i64 kind, .int .i64 number, .string body] 46 from (Blk.new w _ _).below hB1 (by simp))
  have B1 := hide (show Below w.heap.size w x1 from ((Below.refl _ w).alloc (Nat.le_refl _) _).trans (hB1.mono (by simp)))
  have hl1 : w.heap.size < x1.heap.size := (unhide P1).lt
  clear hB1 hg0
  go_wp2_with fail
  refine (unhide HPB _).mono ?_
  rintro ev x2 ⟨rfl, hB2⟩
  have P2 := hide (((unhide P1).alloc (Obj.cells #[.int .i64 k1, .int .i64 n1, .string b1] 46)).below hB2 (by simp; omega))
  have A2 := hide ((Blk.new x1 46 #[.int .i64 k1, .int .i64 n1, .string b1]).below hB2 (by simp))
  have B2 := hide (show Below w.heap.size w x2 from ((unhide B1).alloc (by omega) _).trans (hB2.mono (by simp; omega)))
  have hl2 : x1.heap.size < x2.heap.size := (unhide A2).lt
  have a0 : x2.cell? ⟨x1.heap.size, 0, none⟩ = some (.int .i64 k1) := by rw [(unhide A2).cell 0]; rfl
  have a1 : x2.cell? ⟨x1.heap.size, 1, none⟩ = some (.int .i64 n1) := by rw [(unhide A2).cell 1]; rfl
  have a2 : x2.cell? ⟨x1.heap.size, 2, none⟩ = some (.string b1) := by rw [(unhide A2).cell 2]; rfl
  clear hB2 P1 B1
  go_wp2_with fail
  refine (unhide HSM _).mono ?_
  rintro ev x3 ⟨rfl, hB3⟩
  have P3 := hide (((unhide P2).alloc (Obj.cells #[.int .i64 k1, .int .i64 n1, .string b1] 46)).below hB3 (by simp; omega))
  have A3 := hide (((unhide A2).alloc (Obj.cells #[.int .i64 k1, .int .i64 n1, .string b1] 46)).below hB3 (by simp; omega))
  have C3 := hide ((Blk.new x2 46 #[.int .i64 k1, .int .i64 n1, .string b1]).below hB3 (by simp))
  have B3 := hide (show Below w.heap.size w x3 from ((unhide B2).alloc (by omega) _).trans (hB3.mono (by simp; omega)))
  have hl3 : x2.heap.size < x3.heap.size := (unhide C3).lt
  have p0 : x3.cell? ⟨w.heap.size, 0, none⟩ = some (.int .i64 kind) := by rw [(unhide P3).cell 0]; rfl
  have p1 : x3.cell? ⟨w.heap.size, 1, none⟩ = some (.int .i64 number) := by rw [(unhide P3).cell 1]; rfl
  have p2 : x3.cell? ⟨w.heap.size, 2, none⟩ = some (.string body) := by rw [(unhide P3).cell 2]; rfl
  clear hB3 P2 B2 A2 a0 a1 a2 HPA HPB HSM
  go_wp2_with fail
  refine (unhide HRM _).mono ?_
  rintro ev x4 ⟨rfl, hB4⟩
  have A4 := hide ((unhide A3).below hB4 (by omega))
  have C4 := hide ((unhide C3).below hB4 (by omega))
  have B4 := hide (show Below w.heap.size w x4 from (unhide B3).trans (hB4.mono (by omega)))
  have hl4 : x2.heap.size < x4.heap.size := (unhide C4).lt
  clear hB4 P3 B3 A3 C3 p0 p1 p2 HRM
  by_cases hE0 : E = 0
  · have hsz := unhide HSZ hE0
    subst hE0
    obtain ⟨cap, x5, hrun, hBs, hbel⟩ := Bsl.of_string x4 St (by omega)
    rw [hsz] at hrun
    have hI5 : PInv w x1.heap.size x2.heap.size x4.heap.size #[.int .i64 k1, .int .i64 n1, .string b1] #[.int .i64 k1, .int .i64 n1, .string b1] (nums St) x5 := ⟨(unhide A4).below hbel (by omega), (unhide C4).below hbel hl4, hBs.2.2.2.2.1, by rw [nums_len, hsz], (unhide B4).trans (hbel.mono (by omega)), hBs.2.1⟩
    obtain ⟨L, hL⟩ : ∃ L, nums St = L := ⟨_, rfl⟩
    rw [hL] at hI5
    have hcap : 256 ≤ cap := by have := hBs.2.2.1; rw [nums_len, hsz] at this; exact this
    have c1 := hI5.2.2.1.get0 q (by rw [hI5.2.2.2.1]; omega)
    have f1 := hI5.2.2.1.free0 q (by rw [hI5.2.2.2.1]; omega)
    have HI5 := hide hI5
    clear hBs hbel A4 C4 B4 hL hI5
    have hqi : (q : Int) < 256 := by omega
    go_wp2_with fail
    refine (unhide HP3 _).mono ?_
    rintro ev x6 ⟨rfl, rfl⟩
    obtain ⟨V, hV⟩ : ∃ V, by0 % 256 = V := ⟨_, rfl⟩
    have hI6 := (unhide HI5).put (by omega) (by omega) (by omega) q (by omega) V
    obtain ⟨L6, hL6⟩ : ∃ L', L.set q V = L' := ⟨_, rfl⟩
    rw [hL6] at hI6
    have hl6 : (L6.take 252).length = 252 := by rw [List.length_take, hI6.2.2.2.1]; rfl
    have hcv := run_convert_bytes_arg (P := Tryd.prog) (x6.setCell ⟨x4.heap.size, q, none⟩ (.int .u8 V)) 51 5 Tryd.underlying51 Tryd.underlying5 x4.heap.size 0 252 cap (L6.take 252) hl6 (fun j hj => by
      have h1 := hI6.2.2.1.get j (by rw [hI6.2.2.2.1]; omega)
      rw [h1, List.getD_eq_getElem?_getD, List.getD_eq_getElem?_getD, List.getElem?_take, if_pos hj]) 9 Tryd.underlying9
    obtain ⟨T6, hT6⟩ : ∃ T, strOfNums (L6.take 252) = T := ⟨_, rfl⟩
    have hT6s : T6.size = 252 := by rw [← hT6, strOfNums_size, hl6]
    rw [hT6] at hcv
    obtain ⟨c, hc⟩ : ∃ c, c = chkN (nums T6) := ⟨_, rfl⟩
    have hcl : c ≤ 4294967295 := by rw [hc]; exact chkN_lt _
    have HCK := hide (fun W => rcheck_g T6 c hc (by omega) W)
    have HI6 := hide hI6
    clear hI6 hl6 hL6 hT6 hc HI5
    go_wp2_with fail
    refine (unhide HCK _).mono ?_
    rintro ev x7 ⟨rfl, h7⟩
    rw [← h7] at HI6
    clear h7 hcv HCK c1 f1 hT6s HP3 HSZ
    go_wp2
    go_loopw [17, 18] (fun u i wr => ∃ (j m : Nat) (Y : List Int), j ≤ 4 ∧ m ≤ 4294967295 ∧ u = .int .i64 (m : Int) ∧ i = .int .i64 (j : Int) ∧ PInv w x1.heap.size x2.heap.size x4.heap.size #[.int .i64 k1, .int .i64 n1, .string b1] #[.int .i64 k1, .int .i64 n1, .string b1] Y wr) (fun _ i _ => 4 - (intOf i).toNat)
    case atStart => exact ⟨0, c, L6, by omega, hcl, rfl, rfl, unhide HI6⟩
    case round =>
      obtain ⟨j, m, Y, hj, hml, rfl, rfl, hI⟩ := hrel
      obtain ⟨wo, rfl⟩ : ∃ wo, wo = wr := ⟨_, rfl⟩
      clear HI6
      by_cases hj4 : j < 4
      · have hr : ((m : Int)).tmod 256 = ((m % 256 : Nat) : Int) := rfl
        obtain ⟨R, hR⟩ : ∃ R, m % 256 = R := ⟨_, rfl⟩
        obtain ⟨Q, hQ⟩ : ∃ Q, m / 256 = Q := ⟨_, rfl⟩
        have hq : ((m : Int)).tdiv 256 = (Q : Int) := by rw [← hQ]; rfl
        rw [hR] at hr
        have hR8 : R < 256 := by omega
        have hw8 : IntKind.u8.wrap (R : Int) = (R : Int) := by rw [IntKind.wrap_u8']; omega
        have hQl : Q ≤ m := by omega
        obtain ⟨p, hp⟩ : ∃ p, 252 + j = p := ⟨_, rfl⟩
        have hpi : (252 : Int) + (j : Int) = (p : Int) := by omega
        have hp256 : p < 256 := by omega
        have c1 := hI.2.2.1.get0 p (by rw [hI.2.2.2.1]; omega)
        have f1 := hI.2.2.1.free0 p (by rw [hI.2.2.2.1]; omega)
        have HN := hide (hI.put (by omega) (by omega) (by omega) p hp256 (R : Int))
        have hwp : IntKind.i64.wrap (p : Int) = (p : Int) := wrapI_eq _ (by omega) (by omega)
        have i0 : 0 ≤ (p : Int) := by omega
        have i1 : (p : Int) < 256 := by omega
        clear hI hR hQ hp
        go_wp2
        go_roundw
        case rel => exact ⟨j + 1, Q, Y.set p R, by omega, by omega, by go_num, by go_num, unhide HN⟩
        case measure => simp [intOf]; omega
      · have hj' : j = 4 := by omega
        subst hj'
        have hYl := hI.2.2.2.1
        obtain ⟨T7, hT7⟩ : ∃ T, strOfNums Y = T := ⟨_, rfl⟩
        have hT7s : T7.size = 256 := by rw [← hT7, strOfNums_size, hYl]
        have hcv := run_convert_bytes_arg (P := Tryd.prog) wo 51 5 Tryd.underlying51 Tryd.underlying5 x4.heap.size 0 256 cap Y hYl (fun j hj => hI.2.2.1.get j (by omega)) 9 Tryd.underlying9
        rw [hT7] at hcv
        obtain ⟨k2, n2, E2, b2, hpa, hpb⟩ := parse_both T7 (by omega)
        have HPA := hide hpa
        have HPB := hide hpb
        have HI := hide hI
        replace hT7 := hide hT7
        clear hpa hpb hI hYl
        go_wp2_with fail
        refine (unhide HPA _ ((unhide HG).below (unhide HI).2.2.2.2.1 (unhide HG).lt)).mono ?_
        rintro ev x8 ⟨rfl, hB8⟩
        clear hcv
        have HI8 := hide ((unhide HI).step hB8 (by omega) (by omega) (by omega))
        have a0 : x8.cell? ⟨x1.heap.size, 0, none⟩ = some (.int .i64 k1) := by rw [(unhide HI8).1.cell 0]; rfl
        have a1 : x8.cell? ⟨x1.heap.size, 1, none⟩ = some (.int .i64 n1) := by rw [(unhide HI8).1.cell 1]; rfl
        have a2 : x8.cell? ⟨x1.heap.size, 2, none⟩ = some (.string b1) := by rw [(unhide HI8).1.cell 2]; rfl
        have f0 := (unhide HI8).1.frozen 0
        have f1 := (unhide HI8).1.frozen 1
        have f2 := (unhide HI8).1.frozen 2
        have HI9 := hide ((unhide HI8).putA (by omega) (by omega) (by omega) (.int .i64 k2) (.int .i64 n2) (.string b2))
        have hcv := run_convert_bytes_arg (P := Tryd.prog) (put3 x8 x1.heap.size (.int .i64 k2) (.int .i64 n2) (.string b2)) 51 5 Tryd.underlying51 Tryd.underlying5 x4.heap.size 0 256 cap Y (unhide HI9).2.2.2.1 (fun j hj => (unhide HI9).2.2.1.get j (by rw [(unhide HI9).2.2.2.1]; exact hj)) 9 Tryd.underlying9
        rw [unhide hT7] at hcv
        rw [put3] at hcv
        clear hB8 HI HI8
        go_wp2_with fail
        refine (unhide HPB _).mono ?_
        rintro ev x9 ⟨rfl, hB9⟩
        have HI10 := hide ((unhide HI9).step hB9 (by omega) (by omega) (by omega))
        have b0 : x9.cell? ⟨x2.heap.size, 0, none⟩ = some (.int .i64 k1) := by rw [(unhide HI10).2.1.cell 0]; rfl
        have b1' : x9.cell? ⟨x2.heap.size, 1, none⟩ = some (.int .i64 n1) := by rw [(unhide HI10).2.1.cell 1]; rfl
        have b2' : x9.cell? ⟨x2.heap.size, 2, none⟩ = some (.string b1) := by rw [(unhide HI10).2.1.cell 2]; rfl
        have g0 := (unhide HI10).2.1.frozen 0
        have g1 := (unhide HI10).2.1.frozen 1
        have g2 := (unhide HI10).2.1.frozen 2
        have c0 : x9.cell? ⟨x1.heap.size, 0, none⟩ = some (.int .i64 k2) := by rw [(unhide HI10).1.cell 0]; rfl
        have c1 : x9.cell? ⟨x1.heap.size, 1, none⟩ = some (.int .i64 n2) := by rw [(unhide HI10).1.cell 1]; rfl
        have c2 : x9.cell? ⟨x1.heap.size, 2, none⟩ = some (.string b2) := by rw [(unhide HI10).1.cell 2]; rfl
        have HI11 := hide ((unhide HI10).putB (by omega) (by omega) (by omega) (.int .i64 k2) (.int .i64 n2) (.string b2))
        have HSM := hide (fun W => same_true k2 n2 b2 W)
        have hne : x1.heap.size ≠ x2.heap.size := by omega
        clear hB9 HI9 HI10 a0 a1 a2 f0 f1 f2 hcv HPA HPB
        go_wp2_with fail
        refine (unhide HSM _).mono ?_
        rintro ev x10 ⟨rfl, hB10⟩
        have HI12 := hide ((unhide HI11).step hB10 (by omega) (by omega) (by omega))
        clear hB10 HI11
        go_wp2
        go_ret
        exact ⟨rfl, (unhide HI12).2.2.2.2.1⟩
  · have hne : (E != 0) = true := by simp [hE0]
    go_wp2
    go_ret
    exact ⟨rfl, unhide B4⟩
end Go.Proofs.YtkmgbicacbalfabDoor
