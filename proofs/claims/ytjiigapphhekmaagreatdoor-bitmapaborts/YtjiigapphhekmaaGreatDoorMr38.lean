import Derived.Test.YtjiigapphhekmaaGreatDoorMr37
namespace Go.Proofs.YtjiigapphhekmaaGreatDoor
open Go.RowKit Go.Maps Go.Sort Go.Shelf
theorem ints_bel {w w' : World} {B : Nat} {p : Option Addr} {l : List Int} (h : Ints w p l) (hb : Below B w w') (hB : w.heap.size ≤ B) : Ints w' p l := fun j hj => by
  obtain ⟨g, o, e, hg, hc⟩ := h j hj
  exact ⟨g, o, e, Nat.lt_of_lt_of_le hg hb.size, (hb.cell (p := ⟨g, o + j, none⟩) (by show g < B; omega)).trans hc⟩
/-- A row of numbers that the fence holds. -/
def Rw (w : World) (X : Nat → Prop) (v : Value) (l : List Int) : Prop := ∃ base, w.ownsRow base 3 1 v l.length (l.map (Value.int .i64)) ∧ ∀ x, v.ownBlock = some x → X x
theorem Rw.new {w : World} {base : Nat} {X : Nat → Prop} {v : Value} {l : List Int} (h : w.ownsRow base 3 1 v l.length (l.map (Value.int .i64))) : Rw w (Xv X v) v l := ⟨base, h, fun _ q => .inr q⟩
theorem Rw.only {w w' : World} {X : Nat → Prop} {v : Value} {l : List Int} (h : Rw w X v l) (ho : Only (fun x => ¬ X x) w w') : Rw w' X v l := by
  obtain ⟨base, h1, h2⟩ := h
  exact ⟨base, owns_only h1 ho (fun k hk q => q (h2 k hk)), h2⟩
theorem Rw.more {w : World} {X Y : Nat → Prop} {v : Value} {l : List Int} (h : Rw w X v l) (hy : ∀ x, X x → Y x) : Rw w Y v l := by
  obtain ⟨base, h1, h2⟩ := h
  exact ⟨base, h1, fun x q => hy x (h2 x q)⟩
theorem Rw.below {w w' : World} {X : Nat → Prop} {v : Value} {l : List Int} (h : Rw w X v l) (hb : Below w.heap.size w w') : Rw w' X v l := by
  obtain ⟨base, h1, h2⟩ := h
  exact ⟨base, owns_only h1 (Only.of_below (P := fun _ => False) hb) (fun _ _ q => q), h2⟩
theorem Rw.form {w : World} {X : Nat → Prop} {v : Value} {l : List Int} (h : Rw w X v l) : ∃ p c, v = .slice p l.length c ∧ Ints w p l := by
  obtain ⟨base, h1, h2⟩ := h
  obtain ⟨p, c, rfl, _⟩ := row_form h1
  exact ⟨p, c, rfl, ints_own h1⟩
set_option maxRecDepth 100000 in
set_option maxHeartbeats 1000000 in
theorem same7_any (w : World) (p1 p2 : Option Addr) (c1 c2 : Nat) (l1 l2 : List Int) (n1 n2 : Nat) (hn1 : n1 = l1.length) (hn2 : n2 = l2.length) (hz : n1 ≤ 1000000) (h1 : Ints w p1 l1) (h2 : Ints w p2 l2) : Calls Tryz.prog 30 #[.slice p1 n1 c1, .slice p2 n2 c2] w fun e w' => e = .returned (.bool (decide (l1 = l2))) ∧ Below w.heap.size w w' := by
  by_cases hne : n1 = n2
  · subst hne
    have HL := hide (And.intro hn1 (And.intro hn2 (And.intro h1 h2)))
    have hnn : ((n1 : Int) != (n1 : Int)) = false := by simp
    clear hn1 hn2 h1 h2
    go_enter Tryz.func30, Tryz.ntmps30
    go_wp2
    go_loopw [5] (fun i wr => ∃ k : Nat, k ≤ n1 ∧ i = .int .i64 (k : Int) ∧ (∀ j, j < k → l1.getD j 0 = l2.getD j 0) ∧ Below w.heap.size w wr) (fun i _ => n1 - (intOf i).toNat)
    case atStart => exact ⟨0, by omega, rfl, fun j hj => absurd hj (by omega), Below.refl _ _⟩
    case round =>
      obtain ⟨k, hk, rfl, hall, hb⟩ := hrel
      obtain ⟨wo, rfl⟩ : ∃ wo, wo = wr := ⟨_, rfl⟩
      have XB := hide hb
      have HA := hide hall
      clear hb hall
      by_cases hkn : k < n1
      · obtain ⟨g1, o1, rfl, q1, d1⟩ := (unhide HL).2.2.1 k (by have := (unhide HL).1; omega)
        obtain ⟨g2, o2, rfl, q2, d2⟩ := (unhide HL).2.2.2 k (by have := (unhide HL).2.1; omega)
        have e1 := ((unhide XB).cell (p := ⟨g1, o1 + k, none⟩) q1).trans d1
        have e2 := ((unhide XB).cell (p := ⟨g2, o2 + k, none⟩) q2).trans d2
        obtain ⟨z1, hz1⟩ : ∃ z, l1.getD k 0 = z := ⟨_, rfl⟩
        obtain ⟨z2, hz2⟩ : ∃ z, l2.getD k 0 = z := ⟨_, rfl⟩
        rw [hz1] at e1
        rw [hz2] at e2
        have HZ := hide (And.intro hz1 hz2)
        clear q1 q2 d1 d2 hz1 hz2
        have j0 : 0 ≤ (k : Int) := by omega
        have j1 : (k : Int) < (n1 : Int) := by omega
        by_cases hzz : z1 = z2
        · subst hzz
          have hq : (z1 != z1) = false := by simp
          go_wp2_with fail
          go_quiet (fail)
          go_wp2
          go_roundw
          case rel =>
            refine ⟨k + 1, by omega, by go_num, fun j hj => ?_, below_drewN (unhide XB) _⟩
            by_cases e : j = k
            · rw [e, (unhide HZ).1, (unhide HZ).2]
            · exact unhide HA j (by omega)
          case measure => simp [intOf]; omega
        · have hq : (z1 != z2) = true := by simpa using hzz
          have HD := hide (show decide (l1 = l2) = false from decide_eq_false (fun e => hzz (by rw [← (unhide HZ).1, ← (unhide HZ).2, e])))
          clear hzz
          go_wp2_with fail
          go_quiet (fail)
          go_wp2
          go_ret
          rw [unhide HD]
          exact ⟨rfl, below_drewN (unhide XB) _⟩
      · have e1 : ¬ (k : Int) < (n1 : Int) := by omega
        have HD := hide (show decide (l1 = l2) = true from decide_eq_true (by
          obtain ⟨a1, a2, _⟩ := unhide HL
          refine List.ext_getElem (by omega) (fun i b1 b2 => ?_)
          have := unhide HA i (by omega)
          rwa [List.getD_eq_getElem?_getD, List.getD_eq_getElem?_getD, List.getElem?_eq_getElem b1, List.getElem?_eq_getElem b2] at this))
        go_wp2
        go_ret
        rw [unhide HD]
        exact ⟨rfl, unhide XB⟩
  · have hnn : ((n1 : Int) != (n2 : Int)) = true := by simp; omega
    have HD := hide (show decide (l1 = l2) = false from decide_eq_false (fun e => hne (by rw [hn1, hn2, e])))
    clear hne hn1 hn2 h1 h2
    go_enter Tryz.func30, Tryz.ntmps30
    go_wp2
    go_ret
    rw [unhide HD]
    exact ⟨rfl, Below.refl _ _⟩
set_option maxRecDepth 100000 in
set_option maxHeartbeats 1000000 in
theorem bytes7_any {w0 w : World} {b : Nat} {Lst : List ByteArray} {A : List (Nat × Nat)} {X : Nat → Prop} (h : DF w0 w b (rs Lst A) X) (hL : Lst.length = 128) (hz : ∀ t ∈ Lst, t.size = 256) : Calls Tryz.prog 35 #[.pointer (some ⟨b, 0, none⟩)] w fun e w' => ∃ b' v, e = .returned (.pointer (some ⟨b', 0, none⟩)) ∧ Dk w' w.heap.size b' v (rs Lst []) ∧ Below w.heap.size w w' := by
  have HI := hide (imageF h hL)
  have HQ := hide (And.intro hL hz)
  clear h hL hz
  go_enter Tryz.func35, Tryz.ntmps35
  go_wp2_with fail
  refine (unhide HI).mono ?_
  rintro e x1 ⟨g, cap, rfl, _, _, hs, hb⟩
  have HL := hide (load128 x1 (some ⟨g, 0, none⟩) cap Lst (unhide HQ).1 (unhide HQ).2 hs)
  have HB := hide hb
  clear hs hb HI
  go_wp2_with fail
  refine (unhide HL).mono ?_
  rintro e x2 ⟨b', v, rfl, hd, hb2⟩
  have HR := hide (And.intro (Dk.lower hd (unhide HB).size) ((unhide HB).trans (hb2.mono (unhide HB).size)))
  clear hd hb2 HL HB
  go_wp2
  go_ret
  exact ⟨b', v, rfl, unhide HR⟩
theorem St.df {w0 w : World} {b jb pb mb : Nat} {X : Nat → Prop} {a n kp : Nat} {op : Bool} {L : List ByteArray} {A : List (Nat × Nat)} {hn : Nat} {Tw T : Nat → Bool} (h : St w0 w b jb pb mb X a n kp op L A hn Tw T) : DF w0 w b (rs L A) X := by
  obtain ⟨S, Mw, Mn, h1, h2, h3, h4⟩ := h
  have := h1.pk.df
  rwa [h1.seen.rst.s] at this
/-- A map that is opened anew, on a disk that has the bytes alone. -/
theorem again_any {w1 x : World} {b a n : Nat} {v : DV} {L : List ByteArray} {T : Nat → Bool} {n0 : Nat} (hd : Dk x w1.heap.size b v (rs L [])) (hb : Below w1.heap.size w1 x) (hg : ETy w1) (hL : L.length = 128) (hz : ∀ t ∈ L, t.size = 256) (hh : L.getD 1 ByteArray.empty = headB n0 []) (hn0 : n0 < 4294967296) (hm : MS L a n T) (keep : Nat) (hk : keep ≤ 64) (h19 : 19 ≤ a) (h128 : a + pgs n ≤ 128) (hn1 : 1 ≤ n) (hn2 : n ≤ 1024) :
    Calls Tryz.prog 34 #[.pointer (some ⟨b, 0, none⟩), .int .i64 (keep : Int), .int .i64 (a : Int), .int .i64 (n : Int)] x fun e w' => ∃ pb mb jb A hn, e = .returned (.tuple #[.pointer (some ⟨pb, 0, none⟩), .pointer (some ⟨mb, 0, none⟩)]) ∧ St w1 w' b jb pb mb (fun x => x = mb) a n keep false L A hn T T := by
  refine (seen_gen (n := n) (a := a) (kp := keep) (keep : Int) (popen_rest (T := T) (n := n) (a := a) hd hb (hg.below hb hg.lt) (Sane.fresh L (by omega) (by omega)) n0 hn0 hL hz hh (Nat.zero_le _) keep hk hm (fun L' _ T' => L' = L ∧ T' = T) ⟨rfl, rfl⟩) hg h19 h128 hn1 hn2).mono ?_
  rintro e w' ⟨pb, mb, rfl, hM⟩
  obtain ⟨jb, L', A, hn, T', hS, rfl, rfl⟩ := hM.st
  exact ⟨pb, mb, jb, A, hn, rfl, hS⟩
end Go.Proofs.YtjiigapphhekmaaGreatDoor

namespace Go.Proofs.YtjiigapphhekmaaGreatDoor
open Go.RowKit Go.Maps Go.Sort Go.Shelf
set_option maxRecDepth 100000 in
set_option maxHeartbeats 4000000 in
theorem aborts_walk (count : Int) (hc : I64 count) (p1 : Option Addr) (c1 : Nat) (l1 : List Int) (m1 : Nat) (hm1 : m1 = l1.length) (hz1 : m1 ≤ 9223372036854775807) (p2 : Option Addr) (c2 : Nat) (l2 : List Int) (m2 : Nat) (hm2 : m2 = l2.length) (hz2 : m2 ≤ 9223372036854775807) (keep : Bool) (w : World) (hg : ETy w) (hl1 : Ints w p1 l1) (hl2 : Ints w p2 l2) (hw1 : ∀ i, I64 (l1.getD i 0)) (hw2 : ∀ i, I64 (l2.getD i 0)) :
    Calls Tryz.prog 6 #[.int .i64 count, .slice p1 m1 c1, .slice p2 m2 c2, .bool keep] w fun e w' => e = .returned (.bool true) ∧ Below w.heap.size w w' := by
  have HPK := hide (fun W => pick7_any count 1024 (by decide) hc 1024 rfl W)
  have hpl := pickP_lt count 1024 (by decide)
  obtain ⟨q, hq⟩ : ∃ q, pickP count 1024 = q := ⟨_, rfl⟩
  rw [hq] at HPK hpl
  have HKN := hide (known7_any w hg)
  have HA := hide (And.intro (And.intro hm1 (And.intro hz1 (And.intro hl1 hw1))) (And.intro hm2 (And.intro hz2 (And.intro hl2 hw2))))
  have HG := hide hg
  have e1 : (1 : Int) + (q : Int) = ((q + 1 : Nat) : Int) := by omega
  obtain ⟨n, hn⟩ : ∃ n, q + 1 = n := ⟨_, rfl⟩
  rw [hn] at e1
  have hn1 : 1 ≤ n := by omega
  have hn2 : n ≤ 1024 := by omega
  clear hq hc hg hl1 hl2 hw1 hw2 hm1 hz1 hm2 hz2 hn
  go_enter Tryz.func6, Tryz.ntmps6
  go_wp2_with (go_at_call 9; refine (unhide HPK _).mono ?_; rintro e w' ⟨rfl, hw'⟩; subst w')
  refine (unhide HKN).mono ?_
  rintro e x0 ⟨rfl, hb0⟩
  have hg0 : ETy x0 := (unhide HG).below hb0 (unhide HG).lt
  have HB0 := hide hb0
  have HC := hide (fresh7_any n hn1 hn2 2 (by decide) x0 hg0)
  simp only [Int.cast_ofNat_Int] at HC
  have HI := hide (And.intro (ints_bel (unhide HA).1.2.2.1 hb0 (Nat.le_refl _)) (ints_bel (unhide HA).2.2.2.1 hb0 (Nat.le_refl _)))
  have HAA := hide (And.intro (And.intro (unhide HA).1.1 (And.intro (unhide HA).1.2.1 (unhide HA).1.2.2.2)) (And.intro (unhide HA).2.1 (And.intro (unhide HA).2.2.1 (unhide HA).2.2.2.2)))
  clear hb0 hg0 HKN HA
  go_wp2_with fail
  refine (unhide HC).mono ?_
  rintro e x1 ⟨b, pb, mb, rfl, hM⟩
  obtain ⟨jb, L, A, hn, T, hS, _, _, hAl⟩ := hM.st
  clear hM HC
  have HC := hide hS.begin
  clear hS
  go_wp2_with fail
  refine (unhide HC).mono ?_
  rintro e x2 ⟨rfl, hS, _⟩
  clear HC
  have HC := hide (drawn_any hS p1 c1 l1 m1 (unhide HAA).1.1 (unhide HAA).1.2.1 (unhide HI).1 (unhide HAA).1.2.2)
  clear hS
  go_wp2_with fail
  refine (unhide HC).mono ?_
  rintro e x3 ⟨rfl, T1, hS, _⟩
  clear HC
  have HC := hide (hS.commit (by omega))
  clear hS
  go_wp2_with fail
  refine (unhide HC).mono ?_
  rintro e x4 ⟨rfl, ⟨L1, A1, hA1, hS⟩, _⟩
  have hA1l : A1.length ≤ 1000 := by omega
  clear HC hA1
  have HC := hide hS.list
  clear hS
  go_wp2_with fail
  refine (unhide HC).mono ?_
  rintro e x5 ⟨v1, rfl, hr1, hS, _⟩
  have hR1 := Rw.new (X := fun x => x = mb) hr1
  obtain ⟨pv1, cv1, hv1, _⟩ := row_form hr1
  have HV1 := hide hv1
  clear HC hr1 hv1
  have HC := hide hS.begin
  have HR1 := hide hR1
  clear hS hR1
  go_wp2_with fail
  refine (unhide HC).mono ?_
  rintro e x6 ⟨rfl, hS, hO6⟩
  have HR1' := hide ((unhide HR1).only hO6)
  clear HC hO6 HR1
  have HC := hide (drawn_any hS p2 c2 l2 m2 (unhide HAA).2.1 (unhide HAA).2.2.1 (unhide HI).2 (unhide HAA).2.2.2)
  clear hS
  go_wp2_with fail
  refine (unhide HC).mono ?_
  rintro e x7 ⟨rfl, T2, hS, hO7⟩
  have HR1 := hide ((unhide HR1').only hO7)
  clear HC hO7 HR1'
  have HC := hide hS.list
  clear hS
  go_wp2_with fail
  refine (unhide HC).mono ?_
  rintro e x8 ⟨v2, rfl, hr2, hS, hO8⟩
  have HR1' := hide (Rw.more (Y := Xv (Xv (fun x => x = mb) v1) v2) ((unhide HR1).only hO8) (fun x q => Or.inl q))
  have HR2 := hide (Rw.new (X := Xv (fun x => x = mb) v1) hr2)
  obtain ⟨pv2, cv2, hv2, _⟩ := row_form hr2
  have HV2 := hide hv2
  have HS := hide hS
  clear HC hr2 hS hO8 HR1 hv2
  -- the two ways
  obtain ⟨Y, hY⟩ : ∃ Y, Xv (Xv (fun x => x = mb) v1) v2 = Y := ⟨_, rfl⟩
  rw [hY] at HR1' HR2 HS
  clear hY
  cases keep with
  | true =>
    have HC := hide ((unhide HS).commit (by omega))
    clear HS
    go_wp2_with fail
    refine (unhide HC).mono ?_
    rintro e x9 ⟨rfl, ⟨L2, A2, hA2, hS⟩, hO9⟩
    have HW := hide ((unhide HR2).only hO9)
    have hv2 := unhide HV2
    clear HC hO9 HR1' HR2 HV2 hA2
    have HC := hide hS.list
    clear hS
    go_wp2_with fail
    refine (unhide HC).mono ?_
    rintro e x10 ⟨v3, rfl, hr3, hS, hO10⟩
    have HW' := hide (Rw.more (Y := Xv Y v3) ((unhide HW).only hO10) (fun x q => Or.inl q))
    have HR3 := hide (Rw.new (X := Y) hr3)
    obtain ⟨pv3, cv3, rfl, _⟩ := row_form hr3
    obtain ⟨hms, hLl, hLz, hLh, hLn⟩ := hS.lasts
    have HC' := hide (bytes7_any hS.df hLl hLz)
    have HST := hide (And.intro hS.bel hS.ety)
    have HLS := hide (And.intro hms (And.intro hLl (And.intro hLz (And.intro hLh hLn))))
    clear HC hr3 hS hO10 HW hms hLl hLz hLh hLn
    go_wp2_with fail
    refine (unhide HC').mono ?_
    rintro e x11 ⟨b', dv, rfl, hd, hb11⟩
    obtain ⟨hms, hLl, hLz, hLh, hLn⟩ := unhide HLS
    have HC := hide (again_any (a := 19) hd hb11 (unhide HST).2 hLl hLz hLh hLn hms 4 (by decide) (by decide) (by have := pgs_le hn2; omega) hn1 hn2)
    simp only [Int.cast_ofNat_Int] at HC
    clear hms hLl hLz hLh hLn hd hb11 HC' HLS
    go_wp2_with fail
    refine (unhide HC).mono ?_
    rintro e x12 ⟨pb', mb', jb', A', hn', rfl, hS⟩
    clear HC
    have HC := hide hS.list
    clear hS
    go_wp2_with fail
    refine (unhide HC).mono ?_
    rintro e x13 ⟨v4, rfl, hr4, hS, _⟩
    have hb13 : Below x10.heap.size x10 x13 := hS.bel
    have hW := (unhide HW').below hb13
    have hR3 := (unhide HR3).below hb13
    obtain ⟨pv4, cv4, rfl, _⟩ := row_form hr4
    obtain ⟨pw, cw, hvw, hiw⟩ := hW.form
    obtain ⟨p3', c3', hv3', hi3⟩ := hR3.form
    rw [hv2] at hvw
    injection hvw with f1 f2 f3
    injection hv3' with f4 f5 f6
    subst f1 f3 f4 f6
    have HC2 := hide (same7_any x13 _ _ cv3 cv2 (lst T2 n) (lst T2 n) (lst T2 n).length (lst T2 n).length rfl rfl (by have := lst_len_le T2 n; omega) hi3 hiw)
    rw [decide_eq_true rfl] at HC2
    have HI2 := hide (And.intro (ints_own hr4) hiw)
    have HBB := hide ((unhide HB0).trans (((unhide HST).1.mono (unhide HB0).size).trans (hb13.mono (Nat.le_trans (unhide HB0).size (unhide HST).1.size))))
    clear HC hr4 hS hb13 hW hR3 hiw hi3 HW' HR3 hv2 f2 f5
    generalize hll : (lst T2 n).length = ll at *
    go_wp2_with fail
    refine (unhide HC2).mono ?_
    rintro e x14 ⟨rfl, hb14⟩
    have HC3 := hide (same7_any x14 _ _ cv4 cv2 (lst T2 n) (lst T2 n) ll ll hll.symm hll.symm (by have := lst_len_le T2 n; omega) (ints_bel (unhide HI2).1 hb14 (Nat.le_refl _)) (ints_bel (unhide HI2).2 hb14 (Nat.le_refl _)))
    rw [decide_eq_true rfl] at HC3
    have HB14 := hide ((unhide HBB).trans (hb14.mono (unhide HBB).size))
    clear HC2 hb14 HI2
    go_wp2_with fail
    refine (unhide HC3).mono ?_
    rintro e x15 ⟨rfl, hb15⟩
    have HF := hide ((unhide HB14).trans (hb15.mono (unhide HB14).size))
    clear HC3 hb15 HB14
    go_wp2
    go_ret
    exact ⟨rfl, unhide HF⟩
  | false =>
    have HC := hide (unhide HS).abort
    clear HS
    go_wp2_with fail
    refine (unhide HC).mono ?_
    rintro e x9 ⟨rfl, hS, hO9⟩
    have HW := hide ((unhide HR1').only hO9)
    have hv1 := unhide HV1
    clear HC hO9 HR1' HR2 HV1
    have HC := hide hS.list
    clear hS
    go_wp2_with fail
    refine (unhide HC).mono ?_
    rintro e x10 ⟨v3, rfl, hr3, hS, hO10⟩
    have HW' := hide (Rw.more (Y := Xv Y v3) ((unhide HW).only hO10) (fun x q => Or.inl q))
    have HR3 := hide (Rw.new (X := Y) hr3)
    obtain ⟨pv3, cv3, rfl, _⟩ := row_form hr3
    obtain ⟨hms, hLl, hLz, hLh, hLn⟩ := hS.lasts
    have HC' := hide (bytes7_any hS.df hLl hLz)
    have HST := hide (And.intro hS.bel hS.ety)
    have HLS := hide (And.intro hms (And.intro hLl (And.intro hLz (And.intro hLh hLn))))
    clear HC hr3 hS hO10 HW hms hLl hLz hLh hLn
    go_wp2_with fail
    refine (unhide HC').mono ?_
    rintro e x11 ⟨b', dv, rfl, hd, hb11⟩
    obtain ⟨hms, hLl, hLz, hLh, hLn⟩ := unhide HLS
    have HC := hide (again_any (a := 19) hd hb11 (unhide HST).2 hLl hLz hLh hLn hms 4 (by decide) (by decide) (by have := pgs_le hn2; omega) hn1 hn2)
    simp only [Int.cast_ofNat_Int] at HC
    clear hms hLl hLz hLh hLn hd hb11 HC' HLS
    go_wp2_with fail
    refine (unhide HC).mono ?_
    rintro e x12 ⟨pb', mb', jb', A', hn', rfl, hS⟩
    clear HC
    have HC := hide hS.list
    clear hS
    go_wp2_with fail
    refine (unhide HC).mono ?_
    rintro e x13 ⟨v4, rfl, hr4, hS, _⟩
    have hb13 : Below x10.heap.size x10 x13 := hS.bel
    have hW := (unhide HW').below hb13
    have hR3 := (unhide HR3).below hb13
    obtain ⟨pv4, cv4, rfl, _⟩ := row_form hr4
    obtain ⟨pw, cw, hvw, hiw⟩ := hW.form
    obtain ⟨p3', c3', hv3', hi3⟩ := hR3.form
    rw [hv1] at hvw
    injection hvw with f1 f2 f3
    injection hv3' with f4 f5 f6
    subst f1 f3 f4 f6
    have HC2 := hide (same7_any x13 _ _ cv3 cv1 (lst T1 n) (lst T1 n) (lst T1 n).length (lst T1 n).length rfl rfl (by have := lst_len_le T1 n; omega) hi3 hiw)
    rw [decide_eq_true rfl] at HC2
    have HI2 := hide (And.intro (ints_own hr4) hiw)
    have HBB := hide ((unhide HB0).trans (((unhide HST).1.mono (unhide HB0).size).trans (hb13.mono (Nat.le_trans (unhide HB0).size (unhide HST).1.size))))
    clear HC hr4 hS hb13 hW hR3 hiw hi3 HW' HR3 hv1 f2 f5
    generalize hll : (lst T1 n).length = ll at *
    go_wp2_with fail
    refine (unhide HC2).mono ?_
    rintro e x14 ⟨rfl, hb14⟩
    have HC3 := hide (same7_any x14 _ _ cv4 cv1 (lst T1 n) (lst T1 n) ll ll hll.symm hll.symm (by have := lst_len_le T1 n; omega) (ints_bel (unhide HI2).1 hb14 (Nat.le_refl _)) (ints_bel (unhide HI2).2 hb14 (Nat.le_refl _)))
    rw [decide_eq_true rfl] at HC3
    have HB14 := hide ((unhide HBB).trans (hb14.mono (unhide HBB).size))
    clear HC2 hb14 HI2
    go_wp2_with fail
    refine (unhide HC3).mono ?_
    rintro e x15 ⟨rfl, hb15⟩
    have HF := hide ((unhide HB14).trans (hb15.mono (unhide HB14).size))
    clear HC3 hb15 HB14
    go_wp2
    go_ret
    exact ⟨rfl, unhide HF⟩
end Go.Proofs.YtjiigapphhekmaaGreatDoor
