import Derived.Test.YtjiigapphhekmaaGreatDoorMr37
namespace Go.Proofs.YtjiigapphhekmaaGreatDoor
open Go.RowKit Go.Maps Go.Sort Go.Shelf
theorem ints_bel {w w' : World} {B : Nat} {p : Option Addr} {l : List Int} (h : Ints w p l) (hb : Below B w w') (hB : w.heap.size ≤ B) : Ints w' p l := fun j hj => by
  obtain ⟨g, o, e, hg, hc⟩ := h j hj
  exact ⟨g, o, e, Nat.lt_of_lt_of_le hg hb.size, (hb.cell (p := ⟨g, o + j, none⟩) (by show g < B; omega)).trans hc⟩
/-- A row of numbers that the fence holds. -/
def Rw (w : World) (X : Nat → Prop) (v : Value) (l : List Int) : Prop := ∃ base, w.ownsRow base 3 1 v l.length (l.map (Value.int .i64)) ∧ ∀ x, v.ownBlock = some x → X x
theorem Rw.new {w : World} {base : Nat} {X : Nat → Prop} {v : Value} {l : List Int} (h : w.ownsRow base 3 1 v l.length (l.map (Value.int .i64))) : Rw w (Xv X v) v l := ⟨base, h, fun _ q => .inr q⟩
theorem Rw.only {w w' : World} {X : Nat → Prop} {v : Value} {l : List Int} (h : Rw w X v l) (ho : Only (fun x => ¬ X x) w w') : Rw w' X v l := by
  obtain ⟨base, h1, h2⟩ := h
  exact ⟨base, owns_only h1 ho (fun k hk q => q (h2 k hk)), h2⟩
theorem Rw.more {w : World} {X Y : Nat → Prop} {v : Value} {l : List Int} (h : Rw w X v l) (hy : ∀ x, X x → Y x) : Rw w Y v l := by
  obtain ⟨base, h1, h2⟩ := h
  exact ⟨base, h1, fun x q => hy x (h2 x q)⟩
theorem Rw.below {w w' : World} {X : Nat → Prop} {v : Value} {l : List Int} (h : Rw w X v l) (hb : Below w.heap.size w w') : Rw w' X v l := by
  obtain ⟨base, h1, h2⟩ := h
  exact ⟨base, owns_only h1 (Only.of_below (P := fun _ => False) hb) (fun _ _ q => q), h2⟩
theorem Rw.form {w : World} {X : Nat → Prop} {v : Value} {l : List Int} (h : Rw w X v l) : ∃ p c, v = .slice p l.length c ∧ Ints w p l := by
  obtain ⟨base, h1, h2⟩ := h
  obtain ⟨p, c, rfl, _⟩ := row_form h1
  exact ⟨p, c, rfl, ints_own h1⟩
set_option maxRecDepth 100000 in
set_option maxHeartbeats 1000000 in
theorem same7_any (w : World) (p1 p2 : Option Addr) (c1 c2 : Nat) (l1 l2 : List Int) (n1 n2 : Nat) (hn1 : n1 = l1.length) (hn2 : n2 = l2.length) (hz : n1 ≤ 1000000) (h1 : Ints w p1 l1) (h2 : Ints w p2 l2) : Calls Tryz.prog 30 #[.slice p1 n1 c1, .slice p2 n2 c2] w fun e w' => e = .returned (.bool (decide (l1 = l2))) ∧ Below w.heap.size w w' := by
  by_cases hne : n1 = n2
  · subst hne
    have HL := hide (And.intro hn1 (And.intro hn2 (And.intro h1 h2)))
    have hnn : ((n1 : Int) != (n1 : Int)) = false := by simp
    clear hn1 hn2 h1 h2
    go_enter Tryz.func30, Tryz.ntmps30
    go_wp2
    go_loopw [5] (fun i wr => ∃ k : Nat, k ≤ n1 ∧ i = .int .i64 (k : Int) ∧ (∀ j, j < k → l1.getD j 0 = l2.getD j 0) ∧ Below w.heap.size w wr) (fun i _ => n1 - (intOf i).toNat)
    case atStart => exact ⟨0, by omega, rfl, fun j hj => absurd hj (by omega), Below.refl _ _⟩
    case round =>
      obtain ⟨k, hk, rfl, hall, hb⟩ := hrel
      obtain ⟨wo, rfl⟩ : ∃ wo, wo = wr := ⟨_, rfl⟩
      have XB := hide hb
      have HA := hide hall
      clear hb hall
      by_cases hkn : k < n1
      · obtain ⟨g1, o1, rfl, q1, d1⟩ := (unhide HL).2.2.1 k (by have := (unhide HL).1; omega)
        obtain ⟨g2, o2, rfl, q2, d2⟩ := (unhide HL).2.2.2 k (by have := (unhide HL).2.1; omega)
        have e1 := ((unhide XB).cell (p := ⟨g1, o1 + k, none⟩) q1).trans d1
        have e2 := ((unhide XB).cell (p := ⟨g2, o2 + k, none⟩) q2).trans d2
        obtain ⟨z1, hz1⟩ : ∃ z, l1.getD k 0 = z := ⟨_, rfl⟩
        obtain ⟨z2, hz2⟩ : ∃ z, l2.getD k 0 = z := ⟨_, rfl⟩
        rw [hz1] at e1
        rw [hz2] at e2
        have HZ := hide (And.intro hz1 hz2)
        clear q1 q2 d1 d2 hz1 hz2
        have j0 : 0 ≤ (k : Int) := by omega
        have j1 : (k : Int) < (n1 : Int) := by omega
        by_cases hzz : z1 = z2
        · subst hzz
          have hq : (z1 != z1) = false := by simp
          go_wp2_with fail
          go_quiet (fail)
          go_wp2
          go_roundw
          case rel =>
            refine ⟨k + 1, by omega, by go_num, fun j hj => ?_, below_drewN (unhide XB) _⟩
            by_cases e : j = k
            · rw [e, (unhide HZ).1, (unhide HZ).2]
            · exact unhide HA j (by omega)
          case measure => simp [intOf]; omega
        · have hq : (z1 != z2) = true := by simpa using hzz
          have HD := hide (show decide (l1 = l2) = false from decide_eq_false (fun e => hzz (by rw [← (unhide HZ).1, ← (unhide HZ).2, e])))
          clear hzz
          go_wp2_with fail
          go_quiet (fail)
          go_wp2
          go_ret
          rw [unhide HD]
          exact ⟨rfl, below_drewN (unhide XB) _⟩
      · have e1 : ¬ (k : Int) < (n1 : Int) := by omega
        have HD := hide (show decide (l1 = l2) = true from decide_eq_true (by
          obtain ⟨a1, a2, _⟩ := unhide HL
          refine List.ext_getElem (by omega) (fun i b1 b2 => ?_)
          have := unhide HA i (by omega)
          rwa [List.getD_eq_getElem?_getD, List.getD_eq_getElem?_getD, List.getElem?_eq_getElem b1, List.getElem?_eq_getElem b2] at this))
        go_wp2
        go_ret
        rw [unhide HD]
        exact ⟨rfl, unhide XB⟩
  · have hnn : ((n1 : Int) != (n2 : Int)) = true := by simp; omega
    have HD := hide (show decide (l1 = l2) = false from decide_eq_false (fun e => hne (by rw [hn1, hn2, e])))
    clear hne hn1 hn2 h1 h2
    go_enter Tryz.func30, Tryz.ntmps30
    go_wp2
    go_ret
    rw [unhide HD]
    exact ⟨rfl, Below.refl _ _⟩
set_option maxRecDepth 100000 in
set_option maxHeartbeats 1000000 in
theorem bytes7_any {w0 w : World} {b : Nat} {Lst : List ByteArray} {A : List (Nat × Nat)} {X : Nat → Prop} (h : DF w0 w b (rs Lst A) X) (hL : Lst.length = 128) (hz : ∀ t ∈ Lst, t.size = 256) : Calls Tryz.prog 35 #[.pointer (some ⟨b, 0, none⟩)] w fun e w' => ∃ b' v, e = .returned (.pointer (some ⟨b', 0, none⟩)) ∧ Dk w' w.heap.size b' v (rs Lst []) ∧ Below w.heap.size w w' := by
  have HI := hide (imageF h hL)
  have HQ := hide (And.intro hL hz)
  clear h hL hz
  go_enter Tryz.func35, Tryz.ntmps35
  go_wp2_with fail
  refine (unhide HI).mono ?_
  rintro e x1 ⟨g, cap, rfl, _, _, hs, hb⟩
  have HL := hide (load128 x1 (some ⟨g, 0, none⟩) cap Lst (unhide HQ).1 (unhide HQ).2 hs)
  have HB := hide hb
  clear hs hb HI
  go_wp2_with fail
  refine (unhide HL).mono ?_
  rintro e x2 ⟨b', v, rfl, hd, hb2⟩
  have HR := hide (And.intro (Dk.lower hd (unhide HB).size) ((unhide HB).trans (hb2.mono (unhide HB).size)))
  clear hd hb2 HL HB
  go_wp2
  go_ret
  exact ⟨b', v, rfl, unhide HR⟩
theorem St.df {w0 w : World} {b jb pb mb : Nat} {X : Nat → Prop} {a n kp : Nat} {op : Bool} {L : List ByteArray} {A : List (Nat × Nat)} {hn : Nat} {Tw T : Nat → Bool} (h : St w0 w b jb pb mb X a n kp op L A hn Tw T) : DF w0 w b (rs L A) X := by
  obtain ⟨S, Mw, Mn, h1, h2, h3, h4⟩ := h
  have := h1.pk.df
  rwa [h1.seen.rst.s] at this
/-- A map that is opened anew, on a disk that has the bytes alone. -/
theorem again_any {w1 x : World} {b a n : Nat} {v : DV} {L : List ByteArray} {T : Nat → Bool} {n0 : Nat} (hd : Dk x w1.heap.size b v (rs L [])) (hb : Below w1.heap.size w1 x) (hg : ETy w1) (hL : L.length = 128) (hz : ∀ t ∈ L, t.size = 256) (hh : L.getD 1 ByteArray.empty = headB n0 []) (hn0 : n0 < 4294967296) (hm : MS L a n T) (keep : Nat) (hk : keep ≤ 64) (h19 : 19 ≤ a) (h128 : a + pgs n ≤ 128) (hn1 : 1 ≤ n) (hn2 : n ≤ 1024) :
    Calls Tryz.prog 34 #[.pointer (some ⟨b, 0, none⟩), .int .i64 (keep : Int), .int .i64 (a : Int), .int .i64 (n : Int)] x fun e w' => ∃ pb mb jb A hn, e = .returned (.tuple #[.pointer (some ⟨pb, 0, none⟩), .pointer (some ⟨mb, 0, none⟩)]) ∧ St w1 w' b jb pb mb (fun x => x = mb) a n keep false L A hn T T := by
  refine (seen_gen (n := n) (a := a) (kp := keep) (keep : Int) (popen_rest (T := T) (n := n) (a := a) hd hb (hg.below hb hg.lt) (Sane.fresh L (by omega) (by omega)) n0 hn0 hL hz hh (Nat.zero_le _) keep hk hm (fun L' _ T' => L' = L ∧ T' = T) ⟨rfl, rfl⟩) hg h19 h128 hn1 hn2).mono ?_
  rintro e w' ⟨pb, mb, rfl, hM⟩
  obtain ⟨jb, L', A, hn, T', hS, rfl, rfl⟩ := hM.st
  exact ⟨pb, mb, jb, A, hn, rfl, hS⟩
end Go.Proofs.YtjiigapphhekmaaGreatDoor
