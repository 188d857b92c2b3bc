import Derived.Test.YtffiaogbphgmgaaGreatDoorMz31
import Derived.Test.YtffiaogbphgmgaaGreatDoorMz20
namespace Go.Proofs.YtffiaogbphgmgaaGreatDoor
open Go.RowKit
set_option maxRecDepth 100000
theorem Sd.poke {w0 w : World} {xb b br : Nat} {s t : DSt} {cs : Array Value} {X : Nat → Prop} (h : Sd w0 w xb b br s t cs X) {w' : World} {P : Nat → Prop} (ho : Only P w w') (hP : ∀ k, P k → X k ∧ w0.heap.size ≤ k) : Sd w0 w' xb b br s t cs X := by
  obtain ⟨v, vr, h1, h2, h3, h4, h5, h6, h7, h8⟩ := h
  refine ⟨v, vr, h1.only ho (fun k hk q => (h8 k (hP k q).1).1 hk), h2.only ho (fun k hk q => (h8 k (hP k q).1).2.1 hk), h3, h4, h5.only ho (fun q => (h8 xb (hP xb q).1).2.2.1 rfl), h6, h7.trans (ho.below h7.size (fun k hk q => by have := (hP k q).2; omega)), fun k hk => ?_⟩
  obtain ⟨a1, a2, a3, a4⟩ := h8 k hk
  exact ⟨a1, a2, a3, Nat.lt_of_lt_of_le a4 ho.size⟩
/-- what KCommit leaves -/
def StC (w0 : World) (xb b br : Nat) (s : DSt) (wl : List Wr1) (Z : Nat → Prop) (w : World) (e : Ending) (w' : World) : Prop :=
  e = .returned (.bool true) ∧ (∃ s', (s' = s ∨ ∃ nx lost, nx < 4294967296 ∧ s' = (commitR s nx lost wl).s) ∧ ∃ q1 q2 q3 q4, Sj w0 w' xb b br s' q1 q2 q3 q4 Z) ∧ Only (fun k => ¬ Z k) w w'
set_option maxHeartbeats 8000000 in
theorem stepCm {w0 w : World} {xb b br : Nat} {s : DSt} {p1 p2 p3 p4 : Option Addr} {Z : Nat → Prop} (h : Sj w0 w xb b br s p1 p2 p3 p4 Z) (hS : Sane s) (hC : Coh s) (hp : s.pend.length ≤ 30000000) (ha : s.acts.length ≤ 40000000) (on i : Int) (x : ByteArray) (l1 l2 l3 : Option Addr) (n1 n2 n3 m1 m2 m3 : Nat) (hi : I64 i) (wl : List Wr1) (hwl : n1 = wl.length) (hwW : ∀ W, Below w0.heap.size w0 W → Wls W l1 wl) (hw0 : ∀ g o, l1 = some ⟨g, o, none⟩ → 0 < wl.length → g < w0.heap.size) (hn7 : wl.length ≤ 7000000) :
    Calls Tryz.prog 8 #[.pointer (some ⟨xb, 0, none⟩), .agg #[.int .i64 7, .int .i64 on, .int .i64 i, .string x, .slice l1 n1 m1, .slice l2 n2 m2, .slice l3 n3 m3]] w (StC w0 xb b br s wl Z w) := by
  subst hwl
  obtain ⟨go, hgo⟩ : ∃ z, w.heap.size = z := ⟨_, rfl⟩
  obtain ⟨x0, hx0⟩ : ∃ z, w.alloc (.cells #[.int .i64 7, .int .i64 on, .int .i64 i, .string x, .slice l1 wl.length m1, .slice l2 n2 m2, .slice l3 n3 m3] 41) = z := ⟨_, rfl⟩
  have B0 : Blk x0 go #[.int .i64 7, .int .i64 on, .int .i64 i, .string x, .slice l1 wl.length m1, .slice l2 n2 m2, .slice l3 n3 m3] 41 := by rw [← hx0, ← hgo]; exact Blk.new w _ _
  have hb0 : Below w.heap.size w x0 := by rw [← hx0]; exact (Below.refl _ _).alloc (Nat.le_refl _) _
  have hS0 := h.below hb0
  have h0 : Sd w0 x0 xb b br s s #[.pointer (some ⟨b, 0, none⟩), .pointer (some ⟨br, 0, none⟩), .pointer p1, .pointer p2, .pointer p3, .pointer p4] (fun k => (Z k ∨ Js p1 p2 p3 p4 k) ∨ k = go) := h.sd.more hb0 (fun k q => q.imp_right (fun e => by rw [e]; exact ⟨by omega, B0.lt⟩))
  have k0 : x0.cell? ⟨go, 0, none⟩ = some (.int .i64 7) := B0.cell 0
  have k1 : x0.cell? ⟨go, 1, none⟩ = some (.int .i64 on) := B0.cell 1
  have k2 : x0.cell? ⟨go, 2, none⟩ = some (.int .i64 i) := B0.cell 2
  have k3 : x0.cell? ⟨go, 3, none⟩ = some (.string x) := B0.cell 3
  have k4 : x0.cell? ⟨go, 4, none⟩ = some (.slice l1 wl.length m1) := B0.cell 4
  have k5 : x0.cell? ⟨go, 5, none⟩ = some (.slice l2 n2 m2) := B0.cell 5
  have k6 : x0.cell? ⟨go, 6, none⟩ = some (.slice l3 n3 m3) := B0.cell 6
  have HWH := hide (which_any hS0.sd.blk 7 on i x l1 l2 l3 wl.length n2 n3 m1 m2 m3 hi)
  have HBO := hide hb0
  have HLT := hide (show ∀ k, (Z k ∨ Js p1 p2 p3 p4 k) → k < w.heap.size from fun k hk => by
    obtain ⟨v, vr, h1, h2, h3, h4, h5, h6, h7, h8⟩ := h.sd
    exact (h8 k hk).2.2.2)
  have H0 := hide (And.intro h0 (And.intro B0 hS0))
  have HS := hide h
  have HW := hide (And.intro hwW hw0)
  have HN7 := hide hn7
  have HP := hide (And.intro hS (And.intro hC (And.intro hp ha)))
  clear h hS hC hp ha hi hwW hw0 hn7 B0 hb0 hS0 h0
  go_enter Tryz.func8, Tryz.ntmps8
  go_wp2_with fail
  clear hx0 k0 k1 k2 k3 k4 k5 k6
  refine (unhide HWH).mono ?_
  rintro e x1 ⟨⟨q1, q2, rfl, hq⟩, hb1⟩
  have ho1 : Only (fun _ => False) x0 x1 := Only.of_below hb1
  have HB1 := hide hb1
  have hJ : JPr x1 b br q1 q2 := by
    rcases hq with ⟨rfl, rfl⟩ | ⟨rfl, rfl⟩
    · exact (unhide H0).2.2.j1.only ho1 (fun _ _ q => q) (fun _ _ q => q)
    · exact (unhide H0).2.2.j2.only ho1 (fun _ _ q => q) (fun _ _ q => q)
  rcases hJ with ⟨rfl, rfl⟩ | ⟨jb, sb, n, lost, rfl, rfl, hJb, hRj, hn⟩
  · as_aux_lemma =>
      have HF := hide (show StC w0 xb b br s wl Z w (.returned (.bool true)) x1 from ⟨rfl, ⟨s, .inl rfl, _, _, _, _, (unhide H0).2.2.below hb1⟩, (Only.of_below (P := fun k => ¬ Z k) (unhide HBO)).trans (Only.of_below (P := fun k => ¬ Z k) hb1) (fun _ _ q => q)⟩)
      clear hb1 ho1 hq HWH hgo
      go_wp2
      go_ret
      exact unhide HF
  have BG1 := (unhide H0).2.1.below hb1 (unhide H0).2.1.lt
  have o4 : x1.cell? ⟨go, 4, none⟩ = some (.slice l1 wl.length m1) := BG1.cell 4
  have HLN := hide (lent5 x1 l1 m1 wl.length wl rfl ((unhide HW).1 x1 ((unhide H0).1.below hb1).bel) (unhide HN7))
  obtain ⟨g2, hg2⟩ : ∃ z, x1.heap.size = z := ⟨_, rfl⟩
  rw [hg2] at HLN
  clear ho1 BG1 HWH hgo
  go_wp2_with fail
  refine (unhide HLN).mono ?_
  rintro e x2 ⟨rfl, hB2, hb2'⟩
  have hb2 : Below x1.heap.size x1 x2 := by rw [hg2]; exact hb2'
  clear hb2' HLN
  rcases hq with ⟨hq1, hq2⟩ | ⟨hq1, hq2⟩
  · replace hq1 := hq1.symm
    replace hq2 := hq2.symm
    as_aux_lemma =>
      have h2 : Sd w0 x2 xb b br s s #[.pointer (some ⟨b, 0, none⟩), .pointer (some ⟨br, 0, none⟩), .pointer p1, .pointer p2, .pointer p3, .pointer p4] (fun k => ((Z k ∨ Js p1 p2 p3 p4 k) ∨ k = go) ∨ k = g2) := ((unhide H0).1.below hb1).more hb2 (fun k q => q.imp_right (fun e => by rw [e]; exact ⟨by omega, hB2.lt⟩))
      have BG2 := ((unhide H0).2.1.below hb1 (unhide H0).2.1.lt).below hb2 ((unhide H0).2.1.below hb1 (unhide H0).2.1.lt).lt
      have hJ2 : Jb x2 jb b ((n + 1) % 4294967296) lost := Blk.below hJb hb2 (Blk.lt hJb)
      have hR2 : Rj x2 sb br n lost := Blk.below hRj hb2 (Blk.lt hRj)
      have hWo : Wls x2 (some ⟨g2, 0, none⟩) wl := fun j hj => by
        obtain ⟨c0, c1⟩ := hB2.wat j (by rw [lnt_len wl _ (by omega) (by omega)]; omega)
        rw [lnt_at wl j hj] at c0 c1
        exact ⟨g2, 0, rfl, hB2.lt, by rw [Nat.zero_add]; exact c0, by rw [Nat.zero_add]; exact c1⟩
      have njs : jb ≠ sb := fun e => absurd (blk_ty hJ2 (by rw [e]; exact hR2)) (by decide)
      have njg : jb ≠ g2 := fun e => absurd (blk_ty hJ2 (by rw [e]; exact hB2)) (by decide)
      have nsg : sb ≠ g2 := fun e => absurd (blk_ty hR2 (by rw [e]; exact hB2)) (by decide)
      have njo : jb ≠ go := fun e => absurd (blk_ty hJ2 (by rw [e]; exact BG2)) (by decide)
      have nso : sb ≠ go := fun e => absurd (blk_ty hR2 (by rw [e]; exact BG2)) (by decide)
      have HC1 := hide (h2.commit (.inl (.inl (.inr (.inl hq1)))) hJ2 ((unhide HS).lo jb (.inl hq1)) (unhide HP).1 (Nat.mod_lt _ (by decide)) (some ⟨g2, 0, none⟩) (wl.length + 20) wl wl.length rfl hWo (by have := (unhide HP).2.2.1; omega) (by have := (unhide HP).2.2.2; omega))
      obtain ⟨R, hRc⟩ : ∃ z, commitR s ((n + 1) % 4294967296) lost wl = z := ⟨_, rfl⟩
      rw [hRc] at HC1
      have HRC := hide hRc
      have o4 : x2.cell? ⟨go, 4, none⟩ = some (.slice l1 wl.length m1) := BG2.cell 4
      have sw : (0 : Int) ≤ (wl.length : Int) := by omega
      have sx : (wl.length : Int) ≤ ((wl.length + 20 : Nat) : Int) := by omega
      have sy : ((wl.length : Nat) : Int) ≤ (wl.length : Int) + 20 := by omega
      have snz : ¬ wl.length + 20 = 0 := by omega
      have H2 := hide (And.intro hR2 (And.intro hB2 (And.intro BG2 (And.intro njs (And.intro njg (And.intro nsg (And.intro njo nso)))))))
      have HB12 := hide (hb1.trans (hb2.mono hb1.size))
      have HJ2 := hide hJ2
      have HR2P := hide hR2
      have HWG := hide (show w.heap.size ≤ g2 ∧ Below w.heap.size w x2 from ⟨by have := (unhide HBO).size; have := hb1.size; omega, (unhide HBO).trans ((hb1.trans (hb2.mono hb1.size)).mono (unhide HBO).size)⟩)
      have HGL := hide (show w0.heap.size ≤ g2 ∧ wl.length ≤ 7000000 from ⟨by have := ((unhide H0).1.below hb1).bel.size; omega, unhide HN7⟩)
      clear h2 hJ2 hR2 hWo hRc BG2 njs njg nsg njo nso hb1 hb2 hB2 hJb hRj
      go_wp2_with fail
      refine (unhide HC1).mono ?_
      rintro e x3 ⟨rfl, hJ3, h3, hO3⟩
      obtain ⟨hR2, hB2, BG2, njs, njg, nsg, njo, nso⟩ := unhide H2
      have BG3 := BG2.only hO3 (fun q => by
        rcases q with q | q
        · exact q.1 (.inl (.inr rfl))
        · exact njo q.symm)
      have B3 := hB2.only hO3 (fun q => by
        rcases q with q | q
        · exact q.1 (.inr rfl)
        · exact njg q.symm)
      have hR3 : Rj x3 sb br n lost := Blk.only hR2 hO3 (fun q => by
        rcases q with q | q
        · exact q.1 (.inl (.inl (.inr (.inr (.inl hq2)))))
        · exact njs q.symm)
      have o4 : x3.cell? ⟨go, 4, none⟩ = some (.slice l1 wl.length m1) := BG3.cell 4
      have HC2 := hide (h3.rcommit (.inl (.inl (.inr (.inr (.inl hq2))))) hR3 ((unhide HS).lo sb (.inr (.inl hq2))) (unhide HP).1 (unhide HP).2.1 hn l1 m1 wl wl.length rfl ((unhide HW).1 x3 h3.bel) (unhide HW).2 (by have := (unhide HP).2.2.1; omega) (by have := (unhide HP).2.2.2; omega))
      rw [unhide HRC] at HC2
      have H3 := hide (And.intro hJ3 (And.intro hO3 (And.intro B3 (And.intro BG3 h3.bel))))
      clear hJ3 h3 hO3 hR3 B3 BG3 HC1 H2 hR2 hB2 BG2
      go_wp2_with fail
      refine (unhide HC2).mono ?_
      rintro e x4 ⟨rfl, hR4, h4, hO4⟩
      obtain ⟨hJ3, hO3, B3, BG3, hbl3⟩ := unhide H3
      have BG4 := BG3.only hO4 (fun q => by
        rcases q with q | q
        · exact q.1 (.inl (.inr rfl))
        · exact nso q.symm)
      have B4 := B3.only hO4 (fun q => by
        rcases q with q | q
        · exact q.1 (.inr rfl)
        · exact nsg q.symm)
      have hJ4 : Jb x4 jb b R.nx R.lost := Blk.only hJ3 hO4 (fun q => by
        rcases q with q | q
        · exact q.1 (.inl (.inl (.inr (.inl hq1))))
        · exact njs q)
      have o4 : x4.cell? ⟨go, 4, none⟩ = some (.slice l1 wl.length m1) := BG4.cell 4
      have hW4 := (unhide HW).1 x4 h4.bel
      have HKP := hide (kept5 x4 g2 wl.length m1 l1 wl rfl B4 hW4 (fun g o e z => by have := (unhide HW).2 g o e z; have := (unhide HGL).1; omega) (unhide HGL).2)
      have ee : (R.e == R.e) = true := by simp
      have HFIN := hide (show ∀ x5, Only (fun k => k = g2) x4 x5 → StC w0 xb b br s wl Z w (.returned (.bool true)) x5 from fun x5 hO5 => by
        have hS5 := h4.poke hO5 (fun k e => by rw [e]; exact ⟨.inr rfl, (unhide HGL).1⟩)
        have hJ5 : Jb x5 jb b ((numR s n lost wl + 1) % 4294967296) R.lost := by
          rw [(num_next s n lost wl hn).1, unhide HRC]
          exact Blk.only hJ4 hO5 (fun q => njg q)
        have hR5 : Rj x5 sb br (numR s n lost wl) R.lost := Blk.only hR4 hO5 (fun q => nsg q)
        have hO25 : Only (fun k => ((¬ (((Z k ∨ Js p1 p2 p3 p4 k) ∨ k = go) ∨ k = g2) ∧ k ≠ xb) ∨ k = jb) ∨ k = sb ∨ k = g2) x2 x5 := ((hO3.mono (fun k _ q => .inl q)).trans (hO4.mono (fun k _ q => by
          rcases q with q | q
          · exact .inl (.inl q)
          · exact .inr (.inl q))) (fun _ _ q => q)).trans hO5 (fun k _ q => .inr (.inr q))
        have hlt : ∀ k, (Z k ∨ Js p1 p2 p3 p4 k) → k < w.heap.size := (unhide HLT)
        have hgg : w.heap.size ≤ g2 := (unhide HWG).1
        have hR2' : Rj x2 sb br n lost := unhide HR2P
        have hJ2' : Jb x2 jb b ((n + 1) % 4294967296) lost := unhide HJ2
        have hoth : JPr x5 b br p3 p4 := ((unhide HS).j2.only (Only.of_below (P := fun _ => False) (unhide HWG).2) (fun _ _ q => q) (fun _ _ q => q)).only hO25 (fun k q r => by
          have hk := hlt k (.inr (.inr (.inr (.inl q))))
          rcases r with (r | e) | e | e
          · exact r.1 (.inl (.inl (.inr (.inr (.inr (.inl q))))))
          · exact (unhide HS).n1 jb hq1 (by rw [e] at q; exact q)
          · rw [e] at q
            have hq9 := (unhide HS).j2
            rcases hq9 with ⟨z, _⟩ | ⟨jb9, sb9, n9, lost9, z1, z2, zJ, zR, _⟩
            · rw [z] at q; cases q
            · have q' : p3 = some ⟨sb, 0, none⟩ := q
              rw [z1] at q'
              injection q' with q'
              injection q' with q' _
              have zJ' : Jb x2 jb9 b ((n9 + 1) % 4294967296) lost9 := Blk.below zJ (unhide HWG).2 (Blk.lt zJ)
              rw [q'] at zJ'
              exact absurd (blk_ty zJ' hR2') (by decide)
          · omega) (fun k q r => by
          have hk := hlt k (.inr (.inr (.inr (.inr q))))
          rcases r with (r | e) | e | e
          · exact r.1 (.inl (.inl (.inr (.inr (.inr (.inr q))))))
          · rw [e] at q
            have hq9 := (unhide HS).j2
            rcases hq9 with ⟨_, z⟩ | ⟨jb9, sb9, n9, lost9, z1, z2, zJ, zR, _⟩
            · rw [z] at q; cases q
            · have q' : p4 = some ⟨jb, 0, none⟩ := q
              rw [z2] at q'
              injection q' with q'
              injection q' with q' _
              have zR' : Rj x2 sb9 br n9 lost9 := Blk.below zR (unhide HWG).2 (Blk.lt zR)
              rw [q'] at zR'
              exact absurd (blk_ty zR' hJ2') (by decide)
          · exact (unhide HS).n2 sb hq2 (by rw [e] at q; exact q)
          · omega)
        refine ⟨rfl, ⟨R.s, .inr ⟨_, _, Nat.mod_lt _ (by decide), by rw [unhide HRC]⟩, p1, p2, p3, p4, ⟨hS5.more (Below.refl _ _) (fun k q => .inl (.inl (.inl q))), .inr ⟨jb, sb, _, _, hq1, hq2, hJ5, hR5, (num_next s n lost wl hn).2⟩, hoth, (unhide HS).n1, (unhide HS).n2, (unhide HS).zn, (unhide HS).lo⟩⟩, ?_⟩
        refine (Only.of_below (P := fun k => ¬ Z k) (unhide HWG).2).trans (hO25.mono (fun k hk q r => ?_)) (fun _ _ q => q)
        rcases q with (q | q) | q | q
        · exact q.1 (.inl (.inl (.inl r)))
        · rw [q] at r; exact (unhide HS).zn jb r (.inl hq1)
        · rw [q] at r; exact (unhide HS).zn sb r (.inr (.inl hq2))
        · rw [q] at r; have := hlt g2 (.inl r); omega)
      clear hR4 h4 hO4 BG4 B4 hJ4 hW4 HC2 H3 hJ3 hO3 B3 BG3 hbl3
      go_wp2_with fail
      refine (unhide HKP).mono ?_
      rintro e x5 ⟨rfl, hO5⟩
      have HF := hide (unhide HFIN x5 hO5)
      clear hO5 HKP HFIN o4
      go_wp2
      go_ret
      exact unhide HF
  · replace hq1 := hq1.symm
    replace hq2 := hq2.symm
    as_aux_lemma =>
      have h2 : Sd w0 x2 xb b br s s #[.pointer (some ⟨b, 0, none⟩), .pointer (some ⟨br, 0, none⟩), .pointer p1, .pointer p2, .pointer p3, .pointer p4] (fun k => ((Z k ∨ Js p1 p2 p3 p4 k) ∨ k = go) ∨ k = g2) := ((unhide H0).1.below hb1).more hb2 (fun k q => q.imp_right (fun e => by rw [e]; exact ⟨by omega, hB2.lt⟩))
      have BG2 := ((unhide H0).2.1.below hb1 (unhide H0).2.1.lt).below hb2 ((unhide H0).2.1.below hb1 (unhide H0).2.1.lt).lt
      have hJ2 : Jb x2 jb b ((n + 1) % 4294967296) lost := Blk.below hJb hb2 (Blk.lt hJb)
      have hR2 : Rj x2 sb br n lost := Blk.below hRj hb2 (Blk.lt hRj)
      have hWo : Wls x2 (some ⟨g2, 0, none⟩) wl := fun j hj => by
        obtain ⟨c0, c1⟩ := hB2.wat j (by rw [lnt_len wl _ (by omega) (by omega)]; omega)
        rw [lnt_at wl j hj] at c0 c1
        exact ⟨g2, 0, rfl, hB2.lt, by rw [Nat.zero_add]; exact c0, by rw [Nat.zero_add]; exact c1⟩
      have njs : jb ≠ sb := fun e => absurd (blk_ty hJ2 (by rw [e]; exact hR2)) (by decide)
      have njg : jb ≠ g2 := fun e => absurd (blk_ty hJ2 (by rw [e]; exact hB2)) (by decide)
      have nsg : sb ≠ g2 := fun e => absurd (blk_ty hR2 (by rw [e]; exact hB2)) (by decide)
      have njo : jb ≠ go := fun e => absurd (blk_ty hJ2 (by rw [e]; exact BG2)) (by decide)
      have nso : sb ≠ go := fun e => absurd (blk_ty hR2 (by rw [e]; exact BG2)) (by decide)
      have HC1 := hide (h2.commit (.inl (.inl (.inr (.inr (.inr (.inl hq1)))))) hJ2 ((unhide HS).lo jb (.inr (.inr (.inl hq1)))) (unhide HP).1 (Nat.mod_lt _ (by decide)) (some ⟨g2, 0, none⟩) (wl.length + 20) wl wl.length rfl hWo (by have := (unhide HP).2.2.1; omega) (by have := (unhide HP).2.2.2; omega))
      obtain ⟨R, hRc⟩ : ∃ z, commitR s ((n + 1) % 4294967296) lost wl = z := ⟨_, rfl⟩
      rw [hRc] at HC1
      have HRC := hide hRc
      have o4 : x2.cell? ⟨go, 4, none⟩ = some (.slice l1 wl.length m1) := BG2.cell 4
      have sw : (0 : Int) ≤ (wl.length : Int) := by omega
      have sx : (wl.length : Int) ≤ ((wl.length + 20 : Nat) : Int) := by omega
      have sy : ((wl.length : Nat) : Int) ≤ (wl.length : Int) + 20 := by omega
      have snz : ¬ wl.length + 20 = 0 := by omega
      have H2 := hide (And.intro hR2 (And.intro hB2 (And.intro BG2 (And.intro njs (And.intro njg (And.intro nsg (And.intro njo nso)))))))
      have HB12 := hide (hb1.trans (hb2.mono hb1.size))
      have HJ2 := hide hJ2
      have HR2P := hide hR2
      have HWG := hide (show w.heap.size ≤ g2 ∧ Below w.heap.size w x2 from ⟨by have := (unhide HBO).size; have := hb1.size; omega, (unhide HBO).trans ((hb1.trans (hb2.mono hb1.size)).mono (unhide HBO).size)⟩)
      have HGL := hide (show w0.heap.size ≤ g2 ∧ wl.length ≤ 7000000 from ⟨by have := ((unhide H0).1.below hb1).bel.size; omega, unhide HN7⟩)
      clear h2 hJ2 hR2 hWo hRc BG2 njs njg nsg njo nso hb1 hb2 hB2 hJb hRj
      go_wp2_with fail
      refine (unhide HC1).mono ?_
      rintro e x3 ⟨rfl, hJ3, h3, hO3⟩
      obtain ⟨hR2, hB2, BG2, njs, njg, nsg, njo, nso⟩ := unhide H2
      have BG3 := BG2.only hO3 (fun q => by
        rcases q with q | q
        · exact q.1 (.inl (.inr rfl))
        · exact njo q.symm)
      have B3 := hB2.only hO3 (fun q => by
        rcases q with q | q
        · exact q.1 (.inr rfl)
        · exact njg q.symm)
      have hR3 : Rj x3 sb br n lost := Blk.only hR2 hO3 (fun q => by
        rcases q with q | q
        · exact q.1 (.inl (.inl (.inr (.inr (.inr (.inr hq2))))))
        · exact njs q.symm)
      have o4 : x3.cell? ⟨go, 4, none⟩ = some (.slice l1 wl.length m1) := BG3.cell 4
      have HC2 := hide (h3.rcommit (.inl (.inl (.inr (.inr (.inr (.inr hq2)))))) hR3 ((unhide HS).lo sb (.inr (.inr (.inr hq2)))) (unhide HP).1 (unhide HP).2.1 hn l1 m1 wl wl.length rfl ((unhide HW).1 x3 h3.bel) (unhide HW).2 (by have := (unhide HP).2.2.1; omega) (by have := (unhide HP).2.2.2; omega))
      rw [unhide HRC] at HC2
      have H3 := hide (And.intro hJ3 (And.intro hO3 (And.intro B3 (And.intro BG3 h3.bel))))
      clear hJ3 h3 hO3 hR3 B3 BG3 HC1 H2 hR2 hB2 BG2
      go_wp2_with fail
      refine (unhide HC2).mono ?_
      rintro e x4 ⟨rfl, hR4, h4, hO4⟩
      obtain ⟨hJ3, hO3, B3, BG3, hbl3⟩ := unhide H3
      have BG4 := BG3.only hO4 (fun q => by
        rcases q with q | q
        · exact q.1 (.inl (.inr rfl))
        · exact nso q.symm)
      have B4 := B3.only hO4 (fun q => by
        rcases q with q | q
        · exact q.1 (.inr rfl)
        · exact nsg q.symm)
      have hJ4 : Jb x4 jb b R.nx R.lost := Blk.only hJ3 hO4 (fun q => by
        rcases q with q | q
        · exact q.1 (.inl (.inl (.inr (.inr (.inr (.inl hq1))))))
        · exact njs q)
      have o4 : x4.cell? ⟨go, 4, none⟩ = some (.slice l1 wl.length m1) := BG4.cell 4
      have hW4 := (unhide HW).1 x4 h4.bel
      have HKP := hide (kept5 x4 g2 wl.length m1 l1 wl rfl B4 hW4 (fun g o e z => by have := (unhide HW).2 g o e z; have := (unhide HGL).1; omega) (unhide HGL).2)
      have ee : (R.e == R.e) = true := by simp
      have HFIN := hide (show ∀ x5, Only (fun k => k = g2) x4 x5 → StC w0 xb b br s wl Z w (.returned (.bool true)) x5 from fun x5 hO5 => by
        have hS5 := h4.poke hO5 (fun k e => by rw [e]; exact ⟨.inr rfl, (unhide HGL).1⟩)
        have hJ5 : Jb x5 jb b ((numR s n lost wl + 1) % 4294967296) R.lost := by
          rw [(num_next s n lost wl hn).1, unhide HRC]
          exact Blk.only hJ4 hO5 (fun q => njg q)
        have hR5 : Rj x5 sb br (numR s n lost wl) R.lost := Blk.only hR4 hO5 (fun q => nsg q)
        have hO25 : Only (fun k => ((¬ (((Z k ∨ Js p1 p2 p3 p4 k) ∨ k = go) ∨ k = g2) ∧ k ≠ xb) ∨ k = jb) ∨ k = sb ∨ k = g2) x2 x5 := ((hO3.mono (fun k _ q => .inl q)).trans (hO4.mono (fun k _ q => by
          rcases q with q | q
          · exact .inl (.inl q)
          · exact .inr (.inl q))) (fun _ _ q => q)).trans hO5 (fun k _ q => .inr (.inr q))
        have hlt : ∀ k, (Z k ∨ Js p1 p2 p3 p4 k) → k < w.heap.size := (unhide HLT)
        have hgg : w.heap.size ≤ g2 := (unhide HWG).1
        have hR2' : Rj x2 sb br n lost := unhide HR2P
        have hJ2' : Jb x2 jb b ((n + 1) % 4294967296) lost := unhide HJ2
        have hoth : JPr x5 b br p1 p2 := ((unhide HS).j1.only (Only.of_below (P := fun _ => False) (unhide HWG).2) (fun _ _ q => q) (fun _ _ q => q)).only hO25 (fun k q r => by
          have hk := hlt k (.inr (.inl q))
          rcases r with (r | e) | e | e
          · exact r.1 (.inl (.inl (.inr (.inl q))))
          · exact (unhide HS).n1 jb (by rw [e] at q; exact q) hq1
          · rw [e] at q
            have hq9 := (unhide HS).j1
            rcases hq9 with ⟨z, _⟩ | ⟨jb9, sb9, n9, lost9, z1, z2, zJ, zR, _⟩
            · rw [z] at q; cases q
            · have q' : p1 = some ⟨sb, 0, none⟩ := q
              rw [z1] at q'
              injection q' with q'
              injection q' with q' _
              have zJ' : Jb x2 jb9 b ((n9 + 1) % 4294967296) lost9 := Blk.below zJ (unhide HWG).2 (Blk.lt zJ)
              rw [q'] at zJ'
              exact absurd (blk_ty zJ' hR2') (by decide)
          · omega) (fun k q r => by
          have hk := hlt k (.inr (.inr (.inl q)))
          rcases r with (r | e) | e | e
          · exact r.1 (.inl (.inl (.inr (.inr (.inl q)))))
          · rw [e] at q
            have hq9 := (unhide HS).j1
            rcases hq9 with ⟨_, z⟩ | ⟨jb9, sb9, n9, lost9, z1, z2, zJ, zR, _⟩
            · rw [z] at q; cases q
            · have q' : p2 = some ⟨jb, 0, none⟩ := q
              rw [z2] at q'
              injection q' with q'
              injection q' with q' _
              have zR' : Rj x2 sb9 br n9 lost9 := Blk.below zR (unhide HWG).2 (Blk.lt zR)
              rw [q'] at zR'
              exact absurd (blk_ty zR' hJ2') (by decide)
          · exact (unhide HS).n2 sb (by rw [e] at q; exact q) hq2
          · omega)
        refine ⟨rfl, ⟨R.s, .inr ⟨_, _, Nat.mod_lt _ (by decide), by rw [unhide HRC]⟩, p1, p2, p3, p4, ⟨hS5.more (Below.refl _ _) (fun k q => .inl (.inl (.inl q))), hoth, .inr ⟨jb, sb, _, _, hq1, hq2, hJ5, hR5, (num_next s n lost wl hn).2⟩, (unhide HS).n1, (unhide HS).n2, (unhide HS).zn, (unhide HS).lo⟩⟩, ?_⟩
        refine (Only.of_below (P := fun k => ¬ Z k) (unhide HWG).2).trans (hO25.mono (fun k hk q r => ?_)) (fun _ _ q => q)
        rcases q with (q | q) | q | q
        · exact q.1 (.inl (.inl (.inl r)))
        · rw [q] at r; exact (unhide HS).zn jb r (.inr (.inr (.inl hq1)))
        · rw [q] at r; exact (unhide HS).zn sb r (.inr (.inr (.inr hq2)))
        · rw [q] at r; have := hlt g2 (.inl r); omega)
      clear hR4 h4 hO4 BG4 B4 hJ4 hW4 HC2 H3 hJ3 hO3 B3 BG3 hbl3
      go_wp2_with fail
      refine (unhide HKP).mono ?_
      rintro e x5 ⟨rfl, hO5⟩
      have HF := hide (unhide HFIN x5 hO5)
      clear hO5 HKP HFIN o4
      go_wp2
      go_ret
      exact unhide HF
end Go.Proofs.YtffiaogbphgmgaaGreatDoor

namespace Go.Proofs.YtffiaogbphgmgaaGreatDoor
open Go.RowKit
set_option maxRecDepth 100000
/-- A call that turns nothing of a side leaves it, and its fence may take in what is new. -/
theorem Sd.grow {w0 w : World} {xb b br : Nat} {s t : DSt} {cs : Array Value} {X : Nat → Prop} (h : Sd w0 w xb b br s t cs X) {w' : World} {P Y : Nat → Prop} (ho : Only P w w') (hb : Below w0.heap.size w0 w') (hP : ∀ k, k < w.heap.size → P k → X k ∨ k < w0.heap.size) (hY : ∀ k, Y k → X k ∨ (w.heap.size ≤ k ∧ k < w'.heap.size)) : Sd w0 w' xb b br s t cs Y := by
  obtain ⟨v, vr, h1, h2, h3, h4, h5, h6, h7, h8⟩ := h
  have hs := ho.size
  refine ⟨v, vr, h1.only ho (fun k hk q => ?_), h2.only ho (fun k hk q => ?_), h3, h4, h5.only ho (fun q => ?_), h6, hb, fun k hk => ?_⟩
  · have := h1.fd k hk
    rcases hP k this.2 q with r | r
    · exact (h8 k r).1 hk
    · omega
  · have := h2.frB k hk
    rcases hP k this.2 q with r | r
    · exact (h8 k r).2.1 hk
    · omega
  · rcases hP xb h5.lt q with r | r
    · exact (h8 xb r).2.2.1 rfl
    · omega
  · rcases hY k hk with q | q
    · obtain ⟨a1, a2, a3, a4⟩ := h8 k q
      exact ⟨a1, a2, a3, by omega⟩
    · exact ⟨fun r => by have := (h1.fd k r).2; omega, fun r => by have := (h2.frB k r).2; omega, fun e => by have := h5.lt; omega, q.2⟩
theorem Sd.inX {w0 w : World} {xb b br : Nat} {s t : DSt} {cs : Array Value} {X : Nat → Prop} (h : Sd w0 w xb b br s t cs X) (k : Nat) (hk : X k) : k < w.heap.size := by
  obtain ⟨v, vr, h1, h2, h3, h4, h5, h6, h7, h8⟩ := h
  exact (h8 k hk).2.2.2
theorem Sj.grow {w0 w : World} {xb b br : Nat} {s : DSt} {p1 p2 p3 p4 : Option Addr} {Z : Nat → Prop} (h : Sj w0 w xb b br s p1 p2 p3 p4 Z) {w' : World} {P Y : Nat → Prop} (ho : Only P w w') (hb : Below w0.heap.size w0 w') (hP : ∀ k, k < w.heap.size → P k → Z k ∨ k < w0.heap.size) (hY : ∀ k, Y k → Z k ∨ (w.heap.size ≤ k ∧ k < w'.heap.size)) : Sj w0 w' xb b br s p1 p2 p3 p4 Y := by
  have hn : ∀ k, Js p1 p2 p3 p4 k → ¬ P k := fun k hk q => by
    rcases hP k (h.sd.inX k (.inr hk)) q with r | r
    · exact h.zn k r hk
    · have := h.lo k hk
      omega
  refine ⟨h.sd.grow ho hb (fun k hk q => (hP k hk q).imp_left .inl) (fun k q => ?_), h.j1.only ho (fun k q => hn k (.inl q)) (fun k q => hn k (.inr (.inl q))), h.j2.only ho (fun k q => hn k (.inr (.inr (.inl q)))) (fun k q => hn k (.inr (.inr (.inr q)))), h.n1, h.n2, fun k hk r => ?_, h.lo⟩
  · rcases q with q | q
    · exact (hY k q).imp_left .inl
    · exact .inl (.inr q)
  · rcases hY k hk with q | q
    · exact h.zn k q r
    · have := h.sd.inX k (.inr r)
      omega
/-- a side of the law, whatever its disks and journals are -/
def Se (w0 w : World) (xb : Nat) (s : DSt) (Z : Nat → Prop) : Prop := ∃ b br p1 p2 p3 p4, Sj w0 w xb b br s p1 p2 p3 p4 Z
/-- Two sides apart: the blocks Z may be the second's, all others the first's; the blocks F are neither's. -/
def Two (w0 w : World) (xa xb : Nat) (s t : DSt) (F : Nat → Prop) : Prop :=
  ∃ Z : Nat → Prop, Se w0 w xa s (fun k => k < w.heap.size ∧ (Z k ∨ F k)) ∧ Se w0 w xb t (fun k => k < w.heap.size ∧ (¬ Z k ∨ F k))
theorem Two.symm {w0 w : World} {xa xb : Nat} {s t : DSt} {F : Nat → Prop} (h : Two w0 w xa xb s t F) : Two w0 w xb xa t s F := by
  obtain ⟨Z, h1, h2⟩ := h
  refine ⟨fun k => ¬ Z k, h2, ?_⟩
  have e : (fun k => k < w.heap.size ∧ (¬ ¬ Z k ∨ F k)) = (fun k => k < w.heap.size ∧ (Z k ∨ F k)) := by
    funext k
    simp only [Classical.not_not]
  rw [e]
  exact h1
/-- a call of the first side: the second stays as it is -/
theorem Two.left {w0 w : World} {xa xb : Nat} {s t : DSt} {F : Nat → Prop} (h : Two w0 w xa xb s t F) (hF : ∀ k, F k → k < w.heap.size) {f : FuncId} {args : Array Value} {R : Ending → DSt → Prop}
    (C : ∀ Z, Se w0 w xa s Z → Calls Tryz.prog f args w fun e w' => (∃ s', R e s' ∧ Se w0 w' xa s' Z) ∧ Only (fun k => ¬ Z k) w w') :
    Calls Tryz.prog f args w fun e w' => (∃ s', R e s' ∧ Two w0 w' xa xb s' t F) ∧ Only (fun k => ¬ F k) w w' := by
  obtain ⟨Z, h1, h2⟩ := h
  refine (C _ h1).mono ?_
  rintro e w' ⟨⟨s', hR, b, br, p1, p2, p3, p4, h3⟩, hO⟩
  have hs := hO.size
  have hb := h3.sd.bel
  obtain ⟨c, cr, q1, q2, q3, q4, h2⟩ := h2
  refine ⟨⟨s', hR, fun k => k < w.heap.size ∧ Z k, ⟨b, br, p1, p2, p3, p4, ?_⟩, ⟨c, cr, q1, q2, q3, q4, ?_⟩⟩, hO.mono (fun k hk q r => q ⟨hk, .inr r⟩)⟩
  · exact h3.grow (Only.refl (fun _ => False) w') hb (fun _ _ q => q.elim) (fun k q => .inl (by rcases q.2 with r | r; exact ⟨r.1, .inl r.2⟩; exact ⟨hF k r, .inr r⟩))
  · exact h2.grow hO hb (fun k hk q => .inl ⟨hk, .inl (fun r => q ⟨hk, .inl r⟩)⟩) (fun k q => by
      by_cases hk : k < w.heap.size
      · exact .inl ⟨hk, q.2.imp_left (fun r z => r ⟨hk, z⟩)⟩
      · exact .inr ⟨by omega, q.1⟩)
end Go.Proofs.YtffiaogbphgmgaaGreatDoor

namespace Go.Proofs.YtffiaogbphgmgaaGreatDoor
open Go.RowKit
set_option maxRecDepth 100000
set_option maxHeartbeats 4000000 in
/-- a step of no kind does nothing -/
theorem stepNo {w : World} (xb : Nat) (kd : Int) (hk : ¬ (1 ≤ kd ∧ kd ≤ 10)) (on i : Int) (x : ByteArray) (l1 l2 l3 : Value) :
    Calls Tryz.prog 8 #[.pointer (some ⟨xb, 0, none⟩), .agg #[.int .i64 kd, .int .i64 on, .int .i64 i, .string x, l1, l2, l3]] w fun e w' => e = .returned (.bool true) ∧ Below w.heap.size w w' := by
  obtain ⟨go, hgo⟩ : ∃ z, w.heap.size = z := ⟨_, rfl⟩
  obtain ⟨x0, hx0⟩ : ∃ z, w.alloc (.cells #[.int .i64 kd, .int .i64 on, .int .i64 i, .string x, l1, l2, l3] 41) = z := ⟨_, rfl⟩
  have B0 : Blk x0 go #[.int .i64 kd, .int .i64 on, .int .i64 i, .string x, l1, l2, l3] 41 := by rw [← hx0, ← hgo]; exact Blk.new w _ _
  have hb0 : Below w.heap.size w x0 := by rw [← hx0]; exact (Below.refl _ _).alloc (Nat.le_refl _) _
  have k0 : x0.cell? ⟨go, 0, none⟩ = some (.int .i64 kd) := B0.cell 0
  rw [hgo] at hb0
  have HB := hide hb0
  have a1 : (kd == 1) = false := by simp only [beq_eq_false_iff_ne, ne_eq]; omega
  have a2 : (kd == 2) = false := by simp only [beq_eq_false_iff_ne, ne_eq]; omega
  have a3 : (kd == 3) = false := by simp only [beq_eq_false_iff_ne, ne_eq]; omega
  have a4 : (kd == 4) = false := by simp only [beq_eq_false_iff_ne, ne_eq]; omega
  have a5 : (kd == 5) = false := by simp only [beq_eq_false_iff_ne, ne_eq]; omega
  have a6 : (kd == 6) = false := by simp only [beq_eq_false_iff_ne, ne_eq]; omega
  have a7 : (kd == 7) = false := by simp only [beq_eq_false_iff_ne, ne_eq]; omega
  have a8 : (kd == 8) = false := by simp only [beq_eq_false_iff_ne, ne_eq]; omega
  have a9 : (kd == 9) = false := by simp only [beq_eq_false_iff_ne, ne_eq]; omega
  have a10 : (kd == 10) = false := by simp only [beq_eq_false_iff_ne, ne_eq]; omega
  rw [hgo]
  clear B0 hb0 hk
  go_enter Tryz.func8, Tryz.ntmps8
  go_wp2
  go_ret
  exact ⟨rfl, unhide HB⟩
end Go.Proofs.YtffiaogbphgmgaaGreatDoor

namespace Go.Proofs.YtffiaogbphgmgaaGreatDoor
open Go.RowKit
/-- At p lie the acts l, each of two numbers. -/
def Acts (w : World) (p : Option Addr) (l : List (Int × Int)) : Prop := ∀ j, j < l.length → ∃ g o, p = some ⟨g, o, none⟩ ∧ g < w.heap.size ∧ w.cell? ⟨g, o + j * 2, none⟩ = some (.int .i64 (l.getD j (0, 0)).1) ∧ w.cell? ⟨g, o + j * 2 + 1, none⟩ = some (.int .i64 (l.getD j (0, 0)).2)
theorem Acts.below {w w' : World} {p : Option Addr} {l : List (Int × Int)} (h : Acts w p l) (hb : Below w.heap.size w w') : Acts w' p l := fun j hj => by
  obtain ⟨g, o, h1, h2, h3, h4⟩ := h j hj
  exact ⟨g, o, h1, Nat.lt_of_lt_of_le h2 hb.size, (hb.cell (p := ⟨g, o + j * 2, none⟩) h2).trans h3, (hb.cell (p := ⟨g, o + j * 2 + 1, none⟩) h2).trans h4⟩
/-- An act as it is told, by numbers. -/
def telN (p : Nat × Nat) : Int × Int := if p.1 = 1 then (2, 0) else (1, (p.2 : Int))
theorem tel1_eq (p : Nat × Nat) : tel1 p = [.int .i64 (telN p).1, .int .i64 (telN p).2] := by unfold tel1 telN; split <;> rfl
theorem tels_nat : ∀ (l : List (Nat × Nat)) (j : Nat), j < l.length → (tels l)[j * 2]? = some (.int .i64 ((l.map telN).getD j (0, 0)).1) ∧ (tels l)[j * 2 + 1]? = some (.int .i64 ((l.map telN).getD j (0, 0)).2)
  | p :: r, 0, _ => by rw [tels, tel1_eq]; exact ⟨rfl, rfl⟩
  | p :: r, j + 1, h => by
    have ih := tels_nat r j (by simpa using h)
    rw [tels, tel1_eq, show (j + 1) * 2 = j * 2 + 1 + 1 by omega]
    simpa using ih
theorem Acts.own {w : World} {base : Nat} {e : TypeId} {v : Value} {l : List (Nat × Nat)} (h : w.ownsRow base e 2 v l.length (tels l)) : ∃ p c, v = .slice p l.length c ∧ Acts w p (l.map telN) := by
  rcases h.2 with ⟨h1, h2⟩ | ⟨g, cap, cur, h1, _, hg, _⟩
  · refine ⟨none, 0, by rw [h1, h2], fun j hj => ?_⟩
    rw [List.length_map] at hj
    omega
  · refine ⟨some ⟨g, 0, none⟩, cap, h1, fun j hj => ⟨g, 0, rfl, Blk.lt hg, ?_, ?_⟩⟩
    · rw [List.length_map] at hj
      rw [Nat.zero_add, (own_at2 h (by rw [h1]; rfl) (j * 2) (by omega)).1]
      exact (tels_nat l j hj).1
    · rw [List.length_map] at hj
      rw [Nat.zero_add, (own_at2 h (by rw [h1]; rfl) (j * 2 + 1) (by omega)).1]
      exact (tels_nat l j hj).2
end Go.Proofs.YtffiaogbphgmgaaGreatDoor
