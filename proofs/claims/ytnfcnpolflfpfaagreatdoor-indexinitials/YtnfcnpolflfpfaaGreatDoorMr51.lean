import Derived.Test.YtnfcnpolflfpfaaGreatDoorMr50
import Derived.Test.YtnfcnpolflfpfaaGreatDoorMr42
import Derived.BigQuiet
namespace Go.Proofs.YtnfcnpolflfpfaaGreatDoor
open Go.RowKit Go.Maps Go.Sort Go.Shelf
theorem own_below {w w' : World} {B : Nat} {e : TypeId} {k n : Nat} {v : Value} {xs : List Value} (h : w.ownsRow B e k v n xs) (hb : Below w.heap.size w w') : w'.ownsRow B e k v n xs := owns_only h (Only.of_below (P := fun _ => False) hb) (fun _ _ q => q)
/-- A row whose first k elements are s, the others still those of ys. -/
def Ov (B : Nat) (wr : World) (v : Value) (n k : Nat) (s : ByteArray) (ys : List Value) : Prop := ∃ xs, wr.ownsRow B 9 1 v n xs ∧ (∀ i, i < k → xs[i]? = some (.string s)) ∧ ∀ i, k ≤ i → xs[i]? = ys[i]?
theorem Ov.new {B : Nat} {wr : World} {v : Value} {n : Nat} {s : ByteArray} {ys : List Value} (h : wr.ownsRow B 9 1 v n ys) : Ov B wr v n 0 s ys := ⟨ys, h, fun i hi => absurd hi (Nat.not_lt_zero i), fun _ _ => rfl⟩
theorem Ov.set {B : Nat} {wr : World} {g n c k : Nat} {s : ByteArray} {ys : List Value} (h : Ov B wr (.slice (some ⟨g, 0, none⟩) n c) n k s ys) (hk : k < n) : Ov B (wr.setCell ⟨g, k, none⟩ (.string s)) (.slice (some ⟨g, 0, none⟩) n c) n (k + 1) s ys ∧ wr.grownBy (wr.setCell ⟨g, k, none⟩ (.string s)) (some g) := by
  obtain ⟨xs, h1, h2, h3⟩ := h
  obtain ⟨q1, q2⟩ := h1.stored k (.string s)
  have hl := h1.1
  refine ⟨⟨_, q1, fun i hi => ?_, fun i hi => ?_⟩, q2⟩
  · rw [List.getElem?_set]
    by_cases e : k = i
    · rw [if_pos e, if_pos (by omega)]
    · rw [if_neg e]; exact h2 i (by omega)
  · rw [List.getElem?_set, if_neg (by omega)]
    exact h3 i (by omega)
theorem Ov.at {B : Nat} {wr : World} {v : Value} {n k : Nat} {s : ByteArray} {ys : List Value} (h : Ov B wr v n k s ys) {g : Nat} (hv : v.ownBlock = some g) (hk : k < n) : wr.cell? ⟨g, k, none⟩ = ys[k]? ∧ wr.frozen? ⟨g, k, none⟩ = false := by
  obtain ⟨xs, h1, h2, h3⟩ := h
  obtain ⟨q1, q2⟩ := own_at h1 hv k hk
  exact ⟨q1.trans (h3 k (Nat.le_refl _)), q2⟩
theorem Ov.grown {B : Nat} {w w' : World} {v r : Value} {n k : Nat} {s : ByteArray} {ys : List Value} (h : Ov B w v n k s ys) (hg : w.grownBy w' r.ownBlock) (ha : Apt v r) : Ov B w' v n k s ys := by
  obtain ⟨xs, h1, h2⟩ := h
  exact ⟨xs, own_grown h1 hg ha, h2⟩
theorem Ov.below {B : Nat} {w w' : World} {v : Value} {n k : Nat} {s : ByteArray} {ys : List Value} (h : Ov B w v n k s ys) (hb : Below w.heap.size w w') : Ov B w' v n k s ys := by
  obtain ⟨xs, h1, h2⟩ := h
  exact ⟨xs, own_below h1 hb, h2⟩
theorem own_pI {w : World} {B : Nat} {e : TypeId} {k n c : Nat} {p : Option Addr} {xs : List Value} (h : w.ownsRow B e k (.slice p n c) n xs) (hn : 0 < n) : ∃ g, p = some ⟨g, 0, none⟩ := by
  obtain ⟨g, d, e⟩ := own_formI h hn
  injection e with e _ _
  exact ⟨g, e⟩
theorem Ov.pI {w : World} {B : Nat} {n k c : Nat} {p : Option Addr} {s : ByteArray} {ys : List Value} (h : Ov B w (.slice p n c) n k s ys) (hn : 0 < n) : ∃ g, p = some ⟨g, 0, none⟩ := by
  obtain ⟨xs, h1, _⟩ := h
  exact own_pI h1 hn
structure S2 (w wr : World) (n : Nat) (LL : List ByteArray) (v1 v2 v3 : Value) (k : Nat) : Prop where
  l : Ov w.heap.size wr v1 n k ⟨#[111, 118, 101, 114]⟩ (strs LL)
  m : wr.ownsRow w.heap.size 9 1 v2 n (strs LL)
  a : wr.ownsRow w.heap.size 9 1 v3 n (strs LL)
  bel : Below w.heap.size w wr
structure S3 (w wr : World) (n : Nat) (LL : List ByteArray) (v1 v2 v3 v4 v5 : Value) (k : Nat) : Prop where
  l : Cv wr v1 n n ⟨#[111, 118, 101, 114]⟩
  o : Cv wr v4 (n + 1) (n + 1) ⟨#[111, 118, 101, 114]⟩
  m : wr.ownsRow w.heap.size 9 1 v2 n (strs LL)
  a : Ov w.heap.size wr v3 n k ⟨#[109, 105, 110, 101]⟩ (strs LL)
  t : Ov w.heap.size wr v5 n k ⟨#[116, 104, 105, 114, 100]⟩ (strs LL)
  bel : Below w.heap.size w wr
structure S4 (w wr : World) (n : Nat) (v1 v3 v4 v5 : Value) : Prop where
  l : Cv wr v1 n n ⟨#[111, 118, 101, 114]⟩
  o : Cv wr v4 (n + 1) (n + 1) ⟨#[111, 118, 101, 114]⟩
  a : Cv wr v3 n n ⟨#[109, 105, 110, 101]⟩
  t : Cv wr v5 n n ⟨#[116, 104, 105, 114, 100]⟩
  bel : Below w.heap.size w wr
theorem S3.below {w wr wr' : World} {n : Nat} {LL : List ByteArray} {v1 v2 v3 v4 v5 : Value} {k : Nat} (h : S3 w wr n LL v1 v2 v3 v4 v5 k) (hb : Below wr.heap.size wr wr') : S3 w wr' n LL v1 v2 v3 v4 v5 k :=
  ⟨h.l.below hb, h.o.below hb, own_below h.m hb, h.a.below hb, h.t.below hb, h.bel.trans (hb.mono h.bel.size)⟩
theorem S3.step {w wr : World} {n : Nat} {LL : List ByteArray} {v1 v2 v4 : Value} {g3 c3 g5 c5 k : Nat} (h : S3 w wr n LL v1 v2 (.slice (some ⟨g3, 0, none⟩) n c3) v4 (.slice (some ⟨g5, 0, none⟩) n c5) k) (hk : k < n) (a1 : Apt v1 (.slice (some ⟨g3, 0, none⟩) n c3)) (a2 : Apt v2 (.slice (some ⟨g3, 0, none⟩) n c3)) (a4 : Apt v4 (.slice (some ⟨g3, 0, none⟩) n c3)) (b1 : Apt v1 (.slice (some ⟨g5, 0, none⟩) n c5)) (b2 : Apt v2 (.slice (some ⟨g5, 0, none⟩) n c5)) (b4 : Apt v4 (.slice (some ⟨g5, 0, none⟩) n c5)) (b3 : Apt (.slice (some ⟨g3, 0, none⟩) n c3) (.slice (some ⟨g5, 0, none⟩) n c5)) :
    S3 w ((wr.setCell ⟨g3, k, none⟩ (.string ⟨#[109, 105, 110, 101]⟩)).setCell ⟨g5, k, none⟩ (.string ⟨#[116, 104, 105, 114, 100]⟩)) n LL v1 v2 (.slice (some ⟨g3, 0, none⟩) n c3) v4 (.slice (some ⟨g5, 0, none⟩) n c5) (k + 1) := by
  obtain ⟨q1, q2⟩ := h.a.set hk
  have t1 := h.t.grown (r := .slice (some ⟨g3, 0, none⟩) n c3) q2 b3.symm
  obtain ⟨p1, p2⟩ := t1.set hk
  have hb1 := h.bel.grown q2 h.bel.size (fun q hq => by
    obtain ⟨xs, t, _⟩ := h.a
    exact (t.lt q (by rw [← hq]; rfl)).1)
  refine ⟨(h.l.grown q2 a1).grown p2 b1, (h.o.grown q2 a4).grown p2 b4, own_grown (r := .slice (some ⟨g5, 0, none⟩) n c5) (own_grown (r := .slice (some ⟨g3, 0, none⟩) n c3) h.m q2 a2) p2 b2, q1.grown (r := .slice (some ⟨g5, 0, none⟩) n c5) p2 b3, p1, ?_⟩
  exact hb1.grown p2 hb1.size (fun q hq => by
    obtain ⟨xs, t, _⟩ := h.t
    exact (t.lt q (by rw [← hq]; rfl)).1)
theorem Cv.pI {w : World} {n m c : Nat} {p : Option Addr} {s : ByteArray} (h : Cv w (.slice p m c) m n s) (i : Nat) (hi : i < n) : ∃ g, p = some ⟨g, 0, none⟩ ∧ g < w.heap.size ∧ w.cell? ⟨g, i, none⟩ = some (.string s) := by
  obtain ⟨g, d, e, h1, h2⟩ := h i hi
  injection e with e _ _
  exact ⟨g, e, h1, h2⟩
theorem strs_atI (LL : List ByteArray) (k : Nat) (hk : k < LL.length) : ∃ z, (strs LL)[k]? = some (.string z) := ⟨LL[k], by simp [strs, hk]⟩
set_option maxRecDepth 100000 in
set_option maxHeartbeats 4000000 in
theorem initials8_walk (z : Int) (w : World) (hg : ETy w) : Calls Tryz.prog 4 #[.int .i64 z] w fun e w' => e = .returned (.bool true) ∧ Below w.heap.size w w' := by
  have HAW := hide (awake8_any w hg)
  have HI := hide (fun W => iinit_all z W)
  have HR := hide (fun W => rinit8_all z W)
  have hn := PLi_len z
  generalize erI z = er at *
  generalize PLi z = LL at *
  obtain ⟨n, hnE⟩ : ∃ n, LL.length = n := ⟨_, rfl⟩
  rw [hnE] at HI HR hn
  have HL := hide hnE
  have her : (er != er) = false := by simp
  have hnn : ((n : Int) != (n : Int)) = false := by simp
  clear hg hnE
  go_enter Tryz.func4, Tryz.ntmps4
  go_wp2_with fail
  refine (unhide HAW).mono ?_
  rintro e x0 ⟨rfl, hb0⟩
  have HB0 := hide hb0
  clear hb0 HAW
  go_wp2_with fail
  refine (unhide HI _).mono ?_
  rintro e x1 ⟨v1, rfl, ho1, hb1⟩
  obtain ⟨p1, c1, rfl, _⟩ := row_form ho1
  have H1 := hide (And.intro ho1 hb1)
  clear ho1 hb1
  go_wp2_with fail
  refine (unhide HR _).mono ?_
  rintro e x2 ⟨v2, rfl, ho2, hb2⟩
  obtain ⟨p2, c2, rfl, _⟩ := row_form ho2
  have H2 := hide (And.intro ho2 hb2)
  clear ho2 hb2 HR
  go_wp2_with fail
  refine (unhide HI _).mono ?_
  rintro e x3 ⟨v3, rfl, ho3, hb3⟩
  obtain ⟨p3, c3, rfl, _⟩ := row_form ho3
  have hB1 : Below w.heap.size w x1 := (unhide HB0).trans ((unhide H1).2.mono (unhide HB0).size)
  have hB2 := hB1.trans ((unhide H2).2.mono hB1.size)
  have hB3 := hB2.trans (hb3.mono hB2.size)
  have HAP := hide (show Apt (.slice p1 n c1) (.slice p2 n c2) ∧ Apt (.slice p1 n c1) (.slice p3 n c3) ∧ Apt (.slice p2 n c2) (.slice p3 n c3) from ⟨Apt.of_base (unhide H1).1 (unhide H2).1 (Nat.le_refl _), Apt.of_base (unhide H1).1 ho3 (unhide H2).2.size, Apt.of_base (unhide H2).1 ho3 (Nat.le_refl _)⟩)
  have S0 := hide (show S2 w x3 n LL (.slice p1 n c1) (.slice p2 n c2) (.slice p3 n c3) 0 from ⟨Ov.new (owns_base (own_below (own_below (unhide H1).1 (unhide H2).2) hb3) (unhide HB0).size), owns_base (own_below (unhide H2).1 hb3) hB1.size, owns_base ho3 hB2.size, hB3⟩)
  clear ho3 hb3 hB1 hB2 hB3 H1 H2 HB0
  go_wp2
  go_loopw [10] (fun i wr => ∃ k : Nat, k ≤ n ∧ i = .int .i64 (k : Int) ∧ Below x3.heap.size x3 wr) (fun i _ => n - (intOf i).toNat)
  case atStart => exact ⟨0, by omega, rfl, Below.refl _ _⟩
  case round =>
    obtain ⟨k, hk, rfl, hB⟩ := hrel
    obtain ⟨wo, rfl⟩ : ∃ wo, wo = wr := ⟨_, rfl⟩
    by_cases hkn : k < n
    · have hkn' : (k : Int) < (n : Int) := by omega
      have k0 : (0 : Int) ≤ (k : Int) := by omega
      obtain ⟨r1, r2, r3, _⟩ := unhide S0
      obtain ⟨zk, hzk⟩ := strs_atI LL k (by rw [unhide HL]; exact hkn)
      obtain ⟨g2, rfl⟩ := own_pI r2 (by omega)
      obtain ⟨g3, rfl⟩ := own_pI r3 (by omega)
      obtain ⟨xs1, r1, _, rr⟩ := r1
      obtain ⟨g1, rfl⟩ := own_pI r1 (by omega)
      have a1 : wo.cell? ⟨g1, k, none⟩ = some (.string zk) := by rw [hB.cell (p := ⟨g1, k, none⟩) (r1.lt g1 rfl).2, (own_at r1 rfl k hkn).1, rr k (Nat.zero_le _)]; exact hzk
      have a2 : wo.cell? ⟨g2, k, none⟩ = some (.string zk) := by rw [hB.cell (p := ⟨g2, k, none⟩) (r2.lt g2 rfl).2, (own_at r2 rfl k hkn).1]; exact hzk
      have a3 : wo.cell? ⟨g3, k, none⟩ = some (.string zk) := by rw [hB.cell (p := ⟨g3, k, none⟩) (r3.lt g3 rfl).2, (own_at r3 rfl k hkn).1]; exact hzk
      have hse : (zk.toList == zk.toList) = true := by simp
      have HB := hide hB
      clear hB r1 r2 r3 rr hzk
      go_wp2_with fail
      go_quiet (fail)
      go_wp2
      go_roundw
      case rel => exact ⟨k + 1, by omega, by go_num, below_drewN (unhide HB) _⟩
      case measure => simp [intOf]; omega
    · have hkn' : ¬ (k : Int) < (n : Int) := by omega
      have SS2 := hide (show S2 w wo n LL (.slice p1 n c1) (.slice p2 n c2) (.slice p3 n c3) 0 from ⟨(unhide S0).l.below hB, own_below (unhide S0).m hB, own_below (unhide S0).a hB, (unhide S0).bel.trans (hB.mono (unhide S0).bel.size)⟩)
      clear hB S0
      go_wp2
      go_loopw [11] (fun i wr => ∃ k : Nat, k ≤ n ∧ i = .int .i64 (k : Int) ∧ S2 w wr n LL (.slice p1 n c1) (.slice p2 n c2) (.slice p3 n c3) k) (fun i _ => n - (intOf i).toNat)
      case atStart => exact ⟨0, by omega, rfl, unhide SS2⟩
      case round =>
        obtain ⟨k2, hk2, rfl, hS⟩ := hrel
        obtain ⟨wp, rfl⟩ : ∃ wo, wo = wr := ⟨_, rfl⟩
        clear SS2
        by_cases hkn2 : k2 < n
        · have hkn2' : (k2 : Int) < (n : Int) := by omega
          have k20 : (0 : Int) ≤ (k2 : Int) := by omega
          obtain ⟨zk, hzk⟩ := strs_atI LL k2 (by rw [unhide HL]; exact hkn2)
          obtain ⟨g1, rfl⟩ := hS.l.pI (by omega)
          obtain ⟨a1, f1⟩ := hS.l.at (g := g1) rfl hkn2
          rw [hzk] at a1
          obtain ⟨q1, q2⟩ := hS.l.set hkn2
          have HS := hide (show S2 w (wp.setCell ⟨g1, k2, none⟩ (.string ⟨#[111, 118, 101, 114]⟩)) n LL (.slice (some ⟨g1, 0, none⟩) n c1) (.slice p2 n c2) (.slice p3 n c3) (k2 + 1) from ⟨q1, own_grown (r := .slice (some ⟨g1, 0, none⟩) n c1) hS.m q2 (unhide HAP).1.symm, own_grown (r := .slice (some ⟨g1, 0, none⟩) n c1) hS.a q2 (unhide HAP).2.1.symm, hS.bel.grown q2 hS.bel.size (fun q hq => by
            obtain ⟨xs, t, _⟩ := hS.l
            exact (t.lt q (by rw [← hq]; rfl)).1)⟩)
          clear hS q1 q2 hzk
          go_wp2
          go_roundw
          case rel => exact ⟨k2 + 1, by omega, by go_num, unhide HS⟩
          case measure => simp [intOf]; omega
        · have hkn2' : ¬ (k2 : Int) < (n : Int) := by omega
          have hke : k2 = n := by omega
          subst hke
          obtain ⟨xs1, r1, r1a, _⟩ := hS.l
          have HOA := hide (show (wp.alloc (.cells #[.string ⟨#[111, 118, 101, 114]⟩] 9)).ownsRow w.heap.size 9 1 (.slice p1 k2 c1) k2 xs1 from r1.alloc _)
          have hbA : Below wp.heap.size wp (wp.alloc (.cells #[.string ⟨#[111, 118, 101, 114]⟩] 9)) := (Below.refl _ _).alloc (Nat.le_refl _) _
          have HM1 := hide (And.intro (own_below hS.m hbA) (And.intro (own_below hS.a hbA) (hS.bel.trans (hbA.mono hS.bel.size))))
          have HX1 := hide r1a
          clear hS r1 r1a hbA
          go_wp2_with (refine wpL_old rfl (.tmp 93) (.tmp 94) rfl w.heap.size _ k2 xs1 rfl (unhide HOA) ⟨wp.heap.size, 0, none⟩ (.string ⟨#[111, 118, 101, 114]⟩) rfl (fun q u hu => news_one wp 9 _ q u hu) rfl (by omega) (unhide HM1).2.2.size ?_)
          intro v4 y1 ho4 hg4 hat4 hold4
          have hl1 := (unhide HOA).1
          have hCl : Cv y1 (.slice p1 k2 c1) k2 k2 ⟨#[111, 118, 101, 114]⟩ := fun i hi => by
            obtain ⟨g, d, e⟩ := own_formI (unhide HOA) (by omega)
            refine ⟨g, d, e, ?_, hold4 g (by rw [e]; rfl) i _ (unhide HX1 i hi)⟩
            exact Nat.lt_of_lt_of_le ((unhide HOA).lt g (by rw [e]; rfl)).2 hg4.size
          have hCo : Cv y1 v4 (k2 + 1) (k2 + 1) ⟨#[111, 118, 101, 114]⟩ := Cv.of_own ho4 (fun i hi => by
            by_cases q : i < k2
            · rw [List.getElem?_append_left (by omega)]; exact unhide HX1 i q
            · rw [List.getElem?_append_right (by omega), show i - xs1.length = 0 by omega]; rfl)
          have hA4 : ∀ u xs, (wp.alloc (.cells #[.string ⟨#[111, 118, 101, 114]⟩] 9)).ownsRow w.heap.size 9 1 u k2 xs → Apt (.slice p1 k2 c1) u → Apt u v4 := fun u xs hu ha x hx q => by
            rcases hat4 with t | t
            · exact ha x (by rw [← t]; exact q) hx
            · have := (hu.lt x hx).2
              rw [t] at q
              injection q with q
              have hsz : (wp.alloc (.cells #[.string ⟨#[111, 118, 101, 114]⟩] 9)).heap.size = wp.heap.size + 1 := by simp
              omega
          have HA4 := hide (And.intro (hA4 _ _ (unhide HM1).1 (unhide HAP).1) (hA4 _ _ (unhide HM1).2.1 (unhide HAP).2.1))
          have hm4 := own_grown (unhide HM1).1 hg4 (unhide HAP).1.symm
          have ha4 := own_grown (unhide HM1).2.1 hg4 (unhide HAP).2.1.symm
          have hb4 := (unhide HM1).2.2.grown hg4 (unhide HM1).2.2.size (fun q hq => ((unhide HOA).lt q hq).1)
          obtain ⟨p4, c4, rfl, _⟩ := row_form ho4
          have HLT := hide (show ∀ x, (Value.slice p1 k2 c1).ownBlock = some x → x < y1.heap.size from fun x hx => Nat.lt_of_lt_of_le ((unhide HOA).lt x hx).2 hg4.size)
          have H4 := hide (And.intro hCl (And.intro hCo (And.intro hm4 (And.intro ha4 (And.intro hb4 ho4)))))
          clear hCl hCo hA4 hm4 ha4 hb4 ho4 hg4 hat4 hold4 hl1 HOA HM1 HX1
          go_wp2_with fail
          refine (unhide HI _).mono ?_
          rintro e y2 ⟨v5, rfl, ho5, hb5⟩
          obtain ⟨p5, c5, rfl, _⟩ := row_form ho5
          obtain ⟨q1, q2, q3, q4, q5, q6⟩ := unhide H4
          have HA5 := hide (show Apt (.slice p1 k2 c1) (.slice p5 k2 c5) ∧ Apt (.slice p2 k2 c2) (.slice p5 k2 c5) ∧ Apt (.slice p3 k2 c3) (.slice p5 k2 c5) ∧ Apt (.slice p4 (k2 + 1) c4) (.slice p5 k2 c5) from ⟨fun x hx r => by
            have t := (ho5.lt x r).1
            have := unhide HLT x hx
            omega, Apt.of_base q3 ho5 (Nat.le_refl _), Apt.of_base q4 ho5 (Nat.le_refl _), Apt.of_base q6 ho5 (Nat.le_refl _)⟩)
          have S30 := hide (show S3 w y2 k2 LL (.slice p1 k2 c1) (.slice p2 k2 c2) (.slice p3 k2 c3) (.slice p4 (k2 + 1) c4) (.slice p5 k2 c5) 0 from ⟨q1.below hb5, q2.below hb5, own_below q3 hb5, Ov.new (own_below q4 hb5), Ov.new (owns_base ho5 q5.size), q5.trans (hb5.mono q5.size)⟩)
          clear q1 q2 q3 q4 q5 q6 ho5 hb5 H4 HI
          go_wp2
          go_loopw [15] (fun i wr => ∃ k : Nat, k ≤ k2 ∧ i = .int .i64 (k : Int) ∧ S3 w wr k2 LL (.slice p1 k2 c1) (.slice p2 k2 c2) (.slice p3 k2 c3) (.slice p4 (k2 + 1) c4) (.slice p5 k2 c5) k) (fun i _ => k2 - (intOf i).toNat)
          case atStart => exact ⟨0, by omega, rfl, unhide S30⟩
          case round =>
            obtain ⟨k3, hk3, rfl, hS⟩ := hrel
            obtain ⟨wq, rfl⟩ : ∃ wo, wo = wr := ⟨_, rfl⟩
            clear S30
            by_cases hkn3 : k3 < k2
            · have hkn3' : (k3 : Int) < (k2 : Int) := by omega
              have k30 : (0 : Int) ≤ (k3 : Int) := by omega
              obtain ⟨zk, hzk⟩ := strs_atI LL k3 (by rw [unhide HL]; exact hkn3)
              obtain ⟨g2, rfl⟩ := own_pI hS.m (by omega)
              obtain ⟨g3, rfl⟩ := hS.a.pI (by omega)
              obtain ⟨g5, rfl⟩ := hS.t.pI (by omega)
              have hne : g5 ≠ g3 := fun q => (unhide HA5).2.2.1 g3 rfl (by rw [q]; rfl)
              have hne' : g3 ≠ g5 := Ne.symm hne
              obtain ⟨a3, f3⟩ := hS.a.at (g := g3) rfl hkn3
              obtain ⟨a5, f5⟩ := hS.t.at (g := g5) rfl hkn3
              have a2 : wq.cell? ⟨g2, k3, none⟩ = some (.string zk) := (own_at hS.m rfl k3 hkn3).1.trans hzk
              rw [hzk] at a3 a5
              have hse : (zk.toList == zk.toList) = true := by simp
              have HS := hide hS
              clear hS hzk
              go_wp2_with fail
              go_quiet (fail)
              go_wp2
              go_roundw
              case rel =>
                refine ⟨k3 + 1, by omega, by go_num, ?_⟩
                exact ((unhide HS).below (below_drewN (Below.refl _ _) _)).step hkn3 (unhide HAP).2.1 (unhide HAP).2.2 (unhide HA4).2.symm (unhide HA5).1 (unhide HA5).2.1 (unhide HA5).2.2.2 (unhide HA5).2.2.1
              case measure => simp [intOf]; omega
            · have hkn3' : ¬ (k3 : Int) < (k2 : Int) := by omega
              have hke3 : k3 = k2 := by omega
              subst hke3
              obtain ⟨xs3, r3, r3a, _⟩ := hS.a
              obtain ⟨xs5, r5, r5a, _⟩ := hS.t
              have hbA : Below wq.heap.size wq (wq.alloc (.cells #[.string ⟨#[109, 105, 110, 101]⟩] 9)) := (Below.refl _ _).alloc (Nat.le_refl _) _
              have HOA := hide (show (wq.alloc (.cells #[.string ⟨#[109, 105, 110, 101]⟩] 9)).ownsRow w.heap.size 9 1 (.slice p3 k3 c3) k3 xs3 from own_below r3 hbA)
              have HM1 := hide (And.intro (hS.l.below hbA) (And.intro (hS.o.below hbA) (And.intro ((Cv.of_own r5 r5a).below hbA) (hS.bel.trans (hbA.mono hS.bel.size)))))
              have HX1 := hide r3a
              clear hS r3 r3a r5 r5a hbA
              go_wp2_with (refine wpL_old rfl (.tmp 143) (.tmp 144) rfl w.heap.size _ k3 xs3 rfl (unhide HOA) ⟨wq.heap.size, 0, none⟩ (.string ⟨#[109, 105, 110, 101]⟩) rfl (fun q u hu => news_one wq 9 _ q u hu) rfl (by omega) (unhide HM1).2.2.2.size ?_)
              intro v6 z1 ho6 hg6 _ hold6
              obtain ⟨p6, c6, rfl, _⟩ := row_form ho6
              have HS4 := hide (show S4 w z1 k3 (.slice p1 k3 c1) (.slice p3 k3 c3) (.slice p4 (k3 + 1) c4) (.slice p5 k3 c5) from ⟨(unhide HM1).1.grown hg6 (unhide HAP).2.1, (unhide HM1).2.1.grown hg6 (unhide HA4).2.symm, fun i hi => by
                obtain ⟨g, d, e⟩ := own_formI (unhide HOA) (by omega)
                exact ⟨g, d, e, Nat.lt_of_lt_of_le ((unhide HOA).lt g (by rw [e]; rfl)).2 hg6.size, hold6 g (by rw [e]; rfl) i _ (unhide HX1 i hi)⟩, (unhide HM1).2.2.1.grown hg6 (unhide HA5).2.2.1.symm, (unhide HM1).2.2.2.grown hg6 (unhide HM1).2.2.2.size (fun q hq => ((unhide HOA).lt q hq).1)⟩)
              clear ho6 hg6 hold6 HOA HM1 HX1
              go_wp2
              go_loopw [17] (fun i wr => ∃ k : Nat, k ≤ k3 + 1 ∧ i = .int .i64 (k : Int) ∧ Below z1.heap.size z1 wr) (fun i _ => k3 + 1 - (intOf i).toNat)
              case atStart => exact ⟨0, by omega, rfl, Below.refl _ _⟩
              case round =>
                obtain ⟨k4, hk4, rfl, hB4⟩ := hrel
                obtain ⟨wt, rfl⟩ : ∃ wo, wo = wr := ⟨_, rfl⟩
                have k40 : (0 : Int) ≤ (k4 : Int) := by omega
                by_cases hkn4 : k4 < k3
                · have h1 : (k4 : Int) < ((k3 + 1 : Nat) : Int) := by omega
                  have h2 : (k4 : Int) < (k3 : Int) + 1 := by omega
                  have h3 : (k4 : Int) < (k3 : Int) := by omega
                  have h4 : decide ((k4 : Int) < (k3 : Int)) = true := decide_eq_true h3
                  have h5 : k4 < k3 + 1 := by omega
                  obtain ⟨g4, rfl, l4, a4⟩ := (unhide HS4).o.pI k4 (by omega)
                  obtain ⟨g1, rfl, l1, a1⟩ := (unhide HS4).l.pI k4 hkn4
                  obtain ⟨g3, rfl, l3, a3⟩ := (unhide HS4).a.pI k4 hkn4
                  obtain ⟨g5, rfl, l5, a5⟩ := (unhide HS4).t.pI k4 hkn4
                  rw [← hB4.cell (p := ⟨g4, k4, none⟩) l4] at a4
                  rw [← hB4.cell (p := ⟨g1, k4, none⟩) l1] at a1
                  rw [← hB4.cell (p := ⟨g3, k4, none⟩) l3] at a3
                  rw [← hB4.cell (p := ⟨g5, k4, none⟩) l5] at a5
                  have HB4 := hide hB4
                  clear hB4 l4 l1 l3 l5
                  go_wp2
                  go_roundw
                  case rel => exact ⟨k4 + 1, by omega, by go_num, unhide HB4⟩
                  case measure => simp [intOf]; omega
                · by_cases hke4 : k4 = k3
                  · subst hke4
                    have h1 : (k4 : Int) < ((k4 + 1 : Nat) : Int) := by omega
                    have h2 : (k4 : Int) < (k4 : Int) + 1 := by omega
                    have h4 : decide ((k4 : Int) < (k4 : Int)) = false := decide_eq_false (by omega)
                    obtain ⟨g4, rfl, l4, a4⟩ := (unhide HS4).o.pI k4 (by omega)
                    rw [← hB4.cell (p := ⟨g4, k4, none⟩) l4] at a4
                    have HB4 := hide hB4
                    clear hB4 l4
                    go_wp2
                    go_roundw
                    case rel => exact ⟨k4 + 1, by omega, by go_num, unhide HB4⟩
                    case measure => simp [intOf]
                  · have h1 : ¬ (k4 : Int) < ((k3 + 1 : Nat) : Int) := by omega
                    have h2 : ¬ (k4 : Int) < (k3 : Int) + 1 := by omega
                    have HF := hide (show Below w.heap.size w wt from (unhide HS4).bel.trans (hB4.mono (unhide HS4).bel.size))
                    clear hB4
                    go_wp2
                    go_ret
                    exact ⟨rfl, unhide HF⟩
end Go.Proofs.YtnfcnpolflfpfaaGreatDoor
