import Derived.Test.YtnnehadmnijhjaaGreatDoorMv22
import Derived.Test.YtnnehadmnijhjaaGreatDoorMv16
import Derived.Deep.DeepCutAuto
namespace Go.Proofs.YtnnehadmnijhjaaGreatDoor
open Go.RowKit Go.Maps Go.Sort Go.Shelf
/-- A map over a pool whose disk lives: Tw is what was committed, T what the transaction sees. -/
def St (w0 w : World) (b jb pb mb : Nat) (X : Nat → Prop) (a n kp : Nat) (op : Bool) (L : List ByteArray) (A : List (Nat × Nat)) (hn : Nat) (Tw T : Nat → Bool) : Prop :=
  ∃ S Mw Mn, BG w0 w b jb pb mb X a n S L A hn Mw Mn T ∧ MS Mw a n Tw ∧ S.op = op ∧ (TxI S a n ∧ S.keep = kp)
theorem St.below {w0 w : World} {b jb pb mb : Nat} {X : Nat → Prop} {a n kp : Nat} {op : Bool} {L : List ByteArray} {A : List (Nat × Nat)} {hn : Nat} {Tw T : Nat → Bool} (h : St w0 w b jb pb mb X a n kp op L A hn Tw T) {w' : World} (hb : Below w.heap.size w w') : St w0 w' b jb pb mb X a n kp op L A hn Tw T := by
  obtain ⟨S, Mw, Mn, h1, h2, h3, h4⟩ := h
  exact ⟨S, Mw, Mn, h1.below hb, h2, h3, h4⟩
theorem St.more {w0 w : World} {b jb pb mb : Nat} {X : Nat → Prop} {a n kp : Nat} {op : Bool} {L : List ByteArray} {A : List (Nat × Nat)} {hn : Nat} {Tw T : Nat → Bool} (h : St w0 w b jb pb mb X a n kp op L A hn Tw T) {w' : World} {Y : Nat → Prop} (hb : Below w.heap.size w w') (hy : ∀ x, Y x → X x ∨ (w.heap.size ≤ x ∧ x < w'.heap.size)) (hm : Y mb) : St w0 w' b jb pb mb Y a n kp op L A hn Tw T := by
  obtain ⟨S, Mw, Mn, h1, h2, h3, h4⟩ := h
  exact ⟨S, Mw, Mn, h1.more hb hy hm, h2, h3, h4⟩
theorem St.less {w0 w : World} {b jb pb mb : Nat} {X : Nat → Prop} {a n kp : Nat} {op : Bool} {L : List ByteArray} {A : List (Nat × Nat)} {hn : Nat} {Tw T : Nat → Bool} (h : St w0 w b jb pb mb X a n kp op L A hn Tw T) {Y : Nat → Prop} (hy : ∀ x, Y x → X x) (hm : Y mb) : St w0 w b jb pb mb Y a n kp op L A hn Tw T := h.more (Below.refl _ _) (fun x q => .inl (hy x q)) hm
theorem St.bel {w0 w : World} {b jb pb mb : Nat} {X : Nat → Prop} {a n kp : Nat} {op : Bool} {L : List ByteArray} {A : List (Nat × Nat)} {hn : Nat} {Tw T : Nat → Bool} (h : St w0 w b jb pb mb X a n kp op L A hn Tw T) : Below w0.heap.size w0 w := by
  obtain ⟨S, Mw, Mn, h1, h2, h3, h4⟩ := h
  exact h1.pk.bel
theorem St.lt {w0 w : World} {b jb pb mb : Nat} {X : Nat → Prop} {a n kp : Nat} {op : Bool} {L : List ByteArray} {A : List (Nat × Nat)} {hn : Nat} {Tw T : Nat → Bool} (h : St w0 w b jb pb mb X a n kp op L A hn Tw T) (x : Nat) (hx : X x) : x < w.heap.size := by
  obtain ⟨S, Mw, Mn, h1, h2, h3, h4⟩ := h
  exact h1.pk.lt x hx
theorem St.xm {w0 w : World} {b jb pb mb : Nat} {X : Nat → Prop} {a n kp : Nat} {op : Bool} {L : List ByteArray} {A : List (Nat × Nat)} {hn : Nat} {Tw T : Nat → Bool} (h : St w0 w b jb pb mb X a n kp op L A hn Tw T) : X mb := by
  obtain ⟨S, Mw, Mn, h1, h2, h3, h4⟩ := h
  exact h1.xm
theorem St.ety {w0 w : World} {b jb pb mb : Nat} {X : Nat → Prop} {a n kp : Nat} {op : Bool} {L : List ByteArray} {A : List (Nat × Nat)} {hn : Nat} {Tw T : Nat → Bool} (h : St w0 w b jb pb mb X a n kp op L A hn Tw T) : ETy w := by
  obtain ⟨S, Mw, Mn, h1, h2, h3, h4⟩ := h
  exact h1.ety.below h1.pk.bel h1.ety.lt
theorem St.n2 {w0 w : World} {b jb pb mb : Nat} {X : Nat → Prop} {a n kp : Nat} {op : Bool} {L : List ByteArray} {A : List (Nat × Nat)} {hn : Nat} {Tw T : Nat → Bool} (h : St w0 w b jb pb mb X a n kp op L A hn Tw T) : n ≤ 1024 := by
  obtain ⟨S, Mw, Mn, h1, h2, h3, h4⟩ := h
  exact h1.n2
theorem St.kept {w0 w : World} {b jb pb mb : Nat} {X : Nat → Prop} {a n kp : Nat} {op : Bool} {L : List ByteArray} {A : List (Nat × Nat)} {hn : Nat} {Tw T : Nat → Bool} {S : PS} {Mw Mn : List ByteArray} {w' : World} (k : Kept w0 w b jb pb mb X a n S L A hn Mw Mn T w') (h2 : MS Mw a n Tw) (h3 : S.op = op) (h4 : TxI S a n ∧ S.keep = kp) : St w0 w' b jb pb mb X a n kp op L A hn Tw T ∧ Only (fun x => ¬ X x) w w' := by
  obtain ⟨S', k1, k2, k3, k4⟩ := k
  exact ⟨⟨S', Mw, Mn, k1, h2, k2.trans h3, ⟨by unfold TxI; rw [k3.1]; exact h4.1, k3.2.trans h4.2⟩⟩, k4⟩
theorem St.count {w0 w : World} {b jb pb mb : Nat} {X : Nat → Prop} {a n kp : Nat} {op : Bool} {L : List ByteArray} {A : List (Nat × Nat)} {hn : Nat} {Tw T : Nat → Bool} (h : St w0 w b jb pb mb X a n kp op L A hn Tw T) : Calls Tryz.prog 27 #[.pointer (some ⟨mb, 0, none⟩)] w fun e w' => e = .returned (.tuple #[.int .i64 ((lst T n).length : Int), .int .i64 0]) ∧ St w0 w' b jb pb mb X a n kp op L A hn Tw T ∧ Only (fun x => ¬ X x) w w' := by
  obtain ⟨S, Mw, Mn, h1, h2, h3, h4⟩ := h
  refine (mcount_any h1).mono ?_
  rintro e w' ⟨rfl, k⟩
  exact ⟨rfl, St.kept k h2 h3 h4⟩
theorem St.begin {w0 w : World} {b jb pb mb : Nat} {X : Nat → Prop} {a n kp : Nat} {L : List ByteArray} {A : List (Nat × Nat)} {hn : Nat} {Tw T : Nat → Bool} (h : St w0 w b jb pb mb X a n kp false L A hn Tw T) : Calls Tryz.prog 19 #[.pointer (some ⟨pb, 0, none⟩)] w fun e w' => e = .returned (.int .i64 0) ∧ St w0 w' b jb pb mb X a n kp true L A hn Tw T ∧ Only (fun x => ¬ X x) w w' := by
  obtain ⟨S, Mw, Mn, h1, h2, h3, h4⟩ := h
  obtain ⟨s1, s2, s3, s4⟩ := h1.seen.begin
  rw [h3] at s1
  have hc := pbegin_any h1.pk
  rw [show beginE S = 0 from s1] at hc
  refine hc.mono ?_
  rintro e w' ⟨rfl, K, hO⟩
  exact ⟨rfl, ⟨_, Mw, Mn, h1.next K hO s2 h1.ms, h2, s3, ⟨by unfold TxI; rw [s4]; exact h4.1, by rw [← h4.2]; unfold beginS; split <;> (try split) <;> rfl⟩⟩, hO⟩
theorem St.alloc_none {w0 w : World} {b jb pb mb : Nat} {X : Nat → Prop} {a n kp : Nat} {L : List ByteArray} {A : List (Nat × Nat)} {hn : Nat} {Tw T : Nat → Bool} (h : St w0 w b jb pb mb X a n kp false L A hn Tw T) : Calls Tryz.prog 25 #[.pointer (some ⟨mb, 0, none⟩)] w fun e w' => e = .returned (.tuple #[.int .i64 0, .int .i64 61]) ∧ St w0 w' b jb pb mb X a n kp false L A hn Tw T ∧ Only (fun x => ¬ X x) w w' := by
  obtain ⟨S, Mw, Mn, h1, h2, h3, h4⟩ := h
  refine (malloc_none h1 h3).mono ?_
  rintro e w' ⟨rfl, k⟩
  exact ⟨rfl, St.kept k h2 h3 h4⟩
theorem St.alloc {w0 w : World} {b jb pb mb : Nat} {X : Nat → Prop} {a n kp : Nat} {L : List ByteArray} {A : List (Nat × Nat)} {hn : Nat} {Tw T : Nat → Bool} (h : St w0 w b jb pb mb X a n kp true L A hn Tw T) (p : Nat) (hl : Lea T n p) : Calls Tryz.prog 25 #[.pointer (some ⟨mb, 0, none⟩)] w fun e w' => e = .returned (.tuple #[.int .i64 (p : Int), .int .i64 0]) ∧ St w0 w' b jb pb mb X a n kp true L A hn Tw (flp T p) ∧ Only (fun x => ¬ X x) w w' := by
  obtain ⟨S, Mw, Mn, h1, h2, h3, h4⟩ := h
  refine (malloc_ok h1 h3 p hl (h1.room h4.1 _)).mono ?_
  rintro e w' ⟨rfl, k⟩
  obtain ⟨S', Mn', k1, k2, k3, k5, k4⟩ := k.txi h4.1 hl.1
  exact ⟨rfl, ⟨S', Mw, Mn', k1, h2, k2, k3, k5.trans h4.2⟩, k4⟩
theorem St.free {w0 w : World} {b jb pb mb : Nat} {X : Nat → Prop} {a n kp : Nat} {L : List ByteArray} {A : List (Nat × Nat)} {hn : Nat} {Tw T : Nat → Bool} (h : St w0 w b jb pb mb X a n kp true L A hn Tw T) (i : Nat) (hi : i < n) (hT : T i = true) : Calls Tryz.prog 26 #[.pointer (some ⟨mb, 0, none⟩), .int .i64 (i : Int)] w fun e w' => e = .returned (.int .i64 0) ∧ St w0 w' b jb pb mb X a n kp true L A hn Tw (flp T i) ∧ Only (fun x => ¬ X x) w w' := by
  obtain ⟨S, Mw, Mn, h1, h2, h3, h4⟩ := h
  refine (mfree_ok h1 h3 i hi hT (h1.room h4.1 _)).mono ?_
  rintro e w' ⟨rfl, k⟩
  obtain ⟨S', Mn', k1, k2, k3, k5, k4⟩ := k.txi h4.1 hi
  exact ⟨rfl, ⟨S', Mw, Mn', k1, h2, k2, k3, k5.trans h4.2⟩, k4⟩
/-- Without a transaction the two sets are one. -/
theorem St.same {w0 w : World} {b jb pb mb : Nat} {X : Nat → Prop} {a n kp : Nat} {L : List ByteArray} {A : List (Nat × Nat)} {hn : Nat} {Tw T : Nat → Bool} (h : St w0 w b jb pb mb X a n kp false L A hn Tw T) (i : Nat) (hi : i < n) : Tw i = T i := by
  obtain ⟨S, Mw, Mn, h1, h2, h3, h4⟩ := h
  have ht := h1.seen.cl h3
  refine MS.one h2 (h1.ms.over (fun k hk => ?_)) h1.n2 i hi
  have h5 := h1.hi
  have h6 := h1.lo
  rw [h1.seen.now (a + k) (by omega) (by omega), ht]
  rfl
/-- What lasts on the disk beneath. -/
theorem St.lasts {w0 w : World} {b jb pb mb : Nat} {X : Nat → Prop} {a n kp : Nat} {op : Bool} {L : List ByteArray} {A : List (Nat × Nat)} {hn : Nat} {Tw T : Nat → Bool} (h : St w0 w b jb pb mb X a n kp op L A hn Tw T) : MS L a n Tw ∧ L.length = 128 ∧ (∀ t ∈ L, t.size = 256) ∧ L.getD 1 ByteArray.empty = headB hn [] ∧ hn < 4294967296 := by
  obtain ⟨S, Mw, Mn, h1, h2, h3, h4⟩ := h
  have h5 := h1.hi
  have h6 := h1.lo
  refine ⟨h2.over (fun k hk => h1.seen.was (a + k) (by omega) (by rw [h1.seen.len]; omega)), h1.seen.len, h1.seen.siz, h1.seen.hd, h1.seen.hn⟩
theorem MapM.st {w0 w : World} {b a n kp pb mb : Nat} {R : List ByteArray → List (Nat × Nat) → (Nat → Bool) → Prop} (h : MapM w0 b a n kp R pb mb w) : ∃ jb L A hn T, St w0 w b jb pb mb (fun x => x = mb) a n kp false L A hn T T ∧ R L A T := by
  obtain ⟨jb, S, L, A, n0, T, h1, h2, h3, h4⟩ := h
  exact ⟨jb, L, A, n0, T, ⟨S, L, L, h1, h1.ms, h2, (by unfold TxI; rw [h3.1]; intro p hp; cases hp), h3.2⟩, h4⟩
end Go.Proofs.YtnnehadmnijhjaaGreatDoor

namespace Go.Proofs.YtnnehadmnijhjaaGreatDoor
open Go.RowKit Go.Maps Go.Sort Go.Shelf
def T0 : Nat → Bool := fun _ => false
theorem kn1 : Lea T0 10 0 := ⟨by decide, rfl, fun i hi => absurd hi (by omega)⟩
theorem kn2 : Lea (flp T0 0) 10 1 := by
  refine ⟨by decide, rfl, fun i hi => ?_⟩
  have h : i = 0 := by omega
  subst h
  rfl
theorem kn3 : flp (flp T0 0) 1 0 = true := rfl
theorem kn4 : Lea (flp (flp (flp T0 0) 1) 0) 10 0 := ⟨by decide, rfl, fun i hi => absurd hi (by omega)⟩
theorem kn5 : (lst (flp (flp (flp (flp T0 0) 1) 0) 0) 10).length = 2 := by decide
set_option maxRecDepth 100000 in
set_option maxHeartbeats 2000000 in
theorem known7_any (w : World) (hg : ETy w) : Calls Tryz.prog 5 #[] w fun e w' => e = .returned (.bool true) ∧ Below w.heap.size w w' := by
  have HF := hide (fresh7_any 10 (by decide) (by decide) 4 (by decide) w hg)
  simp only [Int.cast_ofNat_Int] at HF
  clear hg
  go_enter Tryz.func5, Tryz.ntmps5
  go_wp2_with fail
  refine (unhide HF).mono ?_
  rintro e x0 ⟨b, pb, mb, rfl, hM⟩
  obtain ⟨jb, L, A, hn, T, hS, _, hT, _⟩ := hM.st
  subst hT
  have H0 := hide (show St w x0 b jb pb mb (fun x => x = mb) 19 10 4 false L A hn T0 T0 from hS)
  clear hM hS HF
  have HC := hide (unhide H0).alloc_none
  clear H0
  go_wp2_with fail
  refine (unhide HC).mono ?_
  rintro e x1 ⟨rfl, hS, _⟩
  clear HC
  have HC := hide (hS.begin)
  clear hS
  go_wp2_with fail
  refine (unhide HC).mono ?_
  rintro e x2 ⟨rfl, hS, _⟩
  clear HC
  have HC := hide (hS.alloc 0 kn1)
  clear hS
  go_wp2_with fail
  refine (unhide HC).mono ?_
  rintro e x3 ⟨rfl, hS, _⟩
  clear HC
  have HC := hide (hS.alloc 1 kn2)
  clear hS
  go_wp2_with fail
  refine (unhide HC).mono ?_
  rintro e x4 ⟨rfl, hS, _⟩
  clear HC
  have HC := hide (hS.free 0 (by decide) kn3)
  clear hS
  go_wp2_with fail
  refine (unhide HC).mono ?_
  rintro e x5 ⟨rfl, hS, _⟩
  clear HC
  have HC := hide (hS.alloc 0 kn4)
  clear hS
  go_wp2_with fail
  refine (unhide HC).mono ?_
  rintro e x6 ⟨rfl, hS, _⟩
  clear HC
  have HC := hide (hS.count)
  rw [kn5] at HC
  clear hS
  simp only [Int.cast_ofNat_Int] at HC
  go_wp2_with fail
  refine (unhide HC).mono ?_
  rintro e x7 ⟨rfl, hS, _⟩
  have HB := hide hS.bel
  clear HC hS
  go_wp2
  go_ret
  exact ⟨rfl, unhide HB⟩
end Go.Proofs.YtnnehadmnijhjaaGreatDoor

namespace Go.Proofs.YtnnehadmnijhjaaGreatDoor
open Go.RowKit Go.Maps Go.Sort Go.Shelf
set_option maxRecDepth 100000 in
set_option maxHeartbeats 1000000 in
theorem same7_any (w : World) (p1 p2 : Option Addr) (c1 c2 : Nat) (l1 l2 : List Int) (n1 n2 : Nat) (hn1 : n1 = l1.length) (hn2 : n2 = l2.length) (hz : n1 ≤ 1000000) (h1 : Ints w p1 l1) (h2 : Ints w p2 l2) : Calls Tryz.prog 15 #[.slice p1 n1 c1, .slice p2 n2 c2] w fun e w' => e = .returned (.bool (decide (l1 = l2))) ∧ Below w.heap.size w w' := by
  by_cases hne : n1 = n2
  · subst hne
    have HL := hide (And.intro hn1 (And.intro hn2 (And.intro h1 h2)))
    have hnn : ((n1 : Int) != (n1 : Int)) = false := by simp
    clear hn1 hn2 h1 h2
    go_enter Tryz.func15, Tryz.ntmps15
    go_wp2
    go_loopw [5] (fun i wr => ∃ k : Nat, k ≤ n1 ∧ i = .int .i64 (k : Int) ∧ (∀ j, j < k → l1.getD j 0 = l2.getD j 0) ∧ Below w.heap.size w wr) (fun i _ => n1 - (intOf i).toNat)
    case atStart => exact ⟨0, by omega, rfl, fun j hj => absurd hj (by omega), Below.refl _ _⟩
    case round =>
      obtain ⟨k, hk, rfl, hall, hb⟩ := hrel
      obtain ⟨wo, rfl⟩ : ∃ wo, wo = wr := ⟨_, rfl⟩
      have XB := hide hb
      have HA := hide hall
      clear hb hall
      by_cases hkn : k < n1
      · obtain ⟨g1, o1, rfl, q1, d1⟩ := (unhide HL).2.2.1 k (by have := (unhide HL).1; omega)
        obtain ⟨g2, o2, rfl, q2, d2⟩ := (unhide HL).2.2.2 k (by have := (unhide HL).2.1; omega)
        have e1 := ((unhide XB).cell (p := ⟨g1, o1 + k, none⟩) q1).trans d1
        have e2 := ((unhide XB).cell (p := ⟨g2, o2 + k, none⟩) q2).trans d2
        obtain ⟨z1, hz1⟩ : ∃ z, l1.getD k 0 = z := ⟨_, rfl⟩
        obtain ⟨z2, hz2⟩ : ∃ z, l2.getD k 0 = z := ⟨_, rfl⟩
        rw [hz1] at e1
        rw [hz2] at e2
        have HZ := hide (And.intro hz1 hz2)
        clear q1 q2 d1 d2 hz1 hz2
        have j0 : 0 ≤ (k : Int) := by omega
        have j1 : (k : Int) < (n1 : Int) := by omega
        by_cases hzz : z1 = z2
        · subst hzz
          have hq : (z1 != z1) = false := by simp
          go_wp2_with fail
          go_quiet (fail)
          go_wp2
          go_roundw
          case rel =>
            refine ⟨k + 1, by omega, by go_num, fun j hj => ?_, below_drewN (unhide XB) _⟩
            by_cases e : j = k
            · rw [e, (unhide HZ).1, (unhide HZ).2]
            · exact unhide HA j (by omega)
          case measure => simp [intOf]; omega
        · have hq : (z1 != z2) = true := by simpa using hzz
          have HD := hide (show decide (l1 = l2) = false from decide_eq_false (fun e => hzz (by rw [← (unhide HZ).1, ← (unhide HZ).2, e])))
          clear hzz
          go_wp2_with fail
          go_quiet (fail)
          go_wp2
          go_ret
          rw [unhide HD]
          exact ⟨rfl, below_drewN (unhide XB) _⟩
      · have e1 : ¬ (k : Int) < (n1 : Int) := by omega
        have HD := hide (show decide (l1 = l2) = true from decide_eq_true (by
          obtain ⟨a1, a2, _⟩ := unhide HL
          refine List.ext_getElem (by omega) (fun i b1 b2 => ?_)
          have := unhide HA i (by omega)
          rwa [List.getD_eq_getElem?_getD, List.getD_eq_getElem?_getD, List.getElem?_eq_getElem b1, List.getElem?_eq_getElem b2] at this))
        go_wp2
        go_ret
        rw [unhide HD]
        exact ⟨rfl, unhide XB⟩
  · have hnn : ((n1 : Int) != (n2 : Int)) = true := by simp; omega
    have HD := hide (show decide (l1 = l2) = false from decide_eq_false (fun e => hne (by rw [hn1, hn2, e])))
    clear hne hn1 hn2 h1 h2
    go_enter Tryz.func15, Tryz.ntmps15
    go_wp2
    go_ret
    rw [unhide HD]
    exact ⟨rfl, Below.refl _ _⟩
end Go.Proofs.YtnnehadmnijhjaaGreatDoor

namespace Go.Proofs.YtnnehadmnijhjaaGreatDoor
open Go.RowKit Go.Maps Go.Sort Go.Shelf
/-- The bytes of page k, as the document lays them: behind j bits. -/
def bdL (T : Nat → Bool) (k : Nat) : Nat → List Int
  | 0 => List.replicate 32 0
  | j + 1 => if T (256 * k + j) then (bdL T k j).set (j / 8) ((bdL T k j).getD (j / 8) 0 + ((2 ^ (j % 8) : Nat) : Int)) else bdL T k j
theorem bdL_len (T : Nat → Bool) (k : Nat) : ∀ j, (bdL T k j).length = 32
  | 0 => by simp [bdL]
  | j + 1 => by
    rw [bdL]
    split
    · rw [List.length_set]; exact bdL_len T k j
    · exact bdL_len T k j
theorem pow_mono8 (a b : Nat) (h : a ≤ b) : 2 ^ a ≤ 2 ^ b := Nat.pow_le_pow_right (by decide) h
theorem bdL_bound (T : Nat → Bool) (k : Nat) : ∀ j m, 0 ≤ (bdL T k j).getD m 0 ∧ (bdL T k j).getD m 0 < ((2 ^ min 8 (j - 8 * m) : Nat) : Int)
  | 0, m => by
    have : (bdL T k 0).getD m 0 = 0 := by
      rw [bdL, List.getD_eq_getElem?_getD, List.getElem?_replicate]
      split <;> rfl
    rw [this]
    have := Nat.two_pow_pos (min 8 (0 - 8 * m))
    omega
  | j + 1, m => by
    obtain ⟨h1, h2⟩ := bdL_bound T k j m
    have hm : 2 ^ min 8 (j - 8 * m) ≤ 2 ^ min 8 (j + 1 - 8 * m) := pow_mono8 _ _ (by omega)
    rw [bdL]
    split
    · have hl := bdL_len T k j
      rw [List.getD_eq_getElem?_getD, List.getElem?_set]
      by_cases e : j / 8 = m
      · rw [if_pos e]
        split
        · rw [e]
          have e1 : min 8 (j - 8 * m) = j % 8 := by omega
          have e2 : min 8 (j + 1 - 8 * m) = j % 8 + 1 := by omega
          rw [e1] at h2
          rw [e2, Nat.pow_succ]
          simp only [Option.getD_some]
          omega
        · simp only [Option.getD_none]
          have := Nat.two_pow_pos (min 8 (j + 1 - 8 * m))
          omega
      · rw [if_neg e, ← List.getD_eq_getElem?_getD]
        omega
    · omega
theorem bdL_bytes (T : Nat → Bool) (k j : Nat) : Bytes (bdL T k j) := fun m => by
  obtain ⟨h1, h2⟩ := bdL_bound T k j m
  have : 2 ^ min 8 (j - 8 * m) ≤ 2 ^ 8 := pow_mono8 _ _ (by omega)
  have h8 : (2 : Nat) ^ 8 = 256 := by decide
  omega
theorem bdL_fits (T : Nat → Bool) (k j : Nat) : (bdL T k j).getD (j / 8) 0 + ((2 ^ (j % 8) : Nat) : Int) < 256 := by
  obtain ⟨h1, h2⟩ := bdL_bound T k j (j / 8)
  rw [show min 8 (j - 8 * (j / 8)) = j % 8 by omega] at h2
  have : 2 ^ (j % 8 + 1) ≤ 2 ^ 8 := pow_mono8 _ _ (by omega)
  have h8 : (2 : Nat) ^ 8 = 256 := by decide
  rw [Nat.pow_succ] at this
  omega
def bdB (T : Nat → Bool) (n k : Nat) : ByteArray := strOfNums (bdL T k (pin n k))
theorem bdB_size (T : Nat → Bool) (n k : Nat) : (bdB T n k).size = 32 := by rw [bdB, strOfNums_size, bdL_len]
/-- The document's pages of a set. -/
def pagesL (T : Nat → Bool) (n m : Nat) : List ByteArray := (List.range m).map fun k => pgT k (bdB T n k)
theorem pagesL_succ (T : Nat → Bool) (n m : Nat) : strs (pagesL T n (m + 1)) = strs (pagesL T n m) ++ [.string (pgT m (bdB T n m))] := by simp [pagesL, strs, List.range_succ]
/-- Truths in memory. -/
def Bls (w : World) (p : Option Addr) (T : Nat → Bool) (n : Nat) : Prop := ∀ j, j < n → ∃ g o, p = some ⟨g, o, none⟩ ∧ g < w.heap.size ∧ w.cell? ⟨g, o + j, none⟩ = some (.bool (T j))
theorem rmany_any (z : Int) (w : World) : Calls Tryz.prog 11 #[.int .i64 z] w fun e w' => e = .returned (.int .i64 (if 1 ≤ z ∧ z ≤ 1024 then (pgs z.toNat : Int) else 0)) ∧ w' = w := by
  by_cases h1 : z < 1
  · rw [if_neg (by omega)]
    have d1 : decide (z < 1) = true := decide_eq_true h1
    clear h1
    go_enter Tryz.func11, Tryz.ntmps11
    go_wp2
    go_ret
    exact ⟨rfl, rfl⟩
  · have d1 : decide (z < 1) = false := decide_eq_false h1
    by_cases h2 : 1024 < z
    · rw [if_neg (by omega)]
      have d2 : decide (1024 < z) = true := decide_eq_true h2
      clear h1 h2
      go_enter Tryz.func11, Tryz.ntmps11
      go_wp2
      go_ret
      exact ⟨rfl, rfl⟩
    · rw [if_pos (by omega)]
      have d2 : decide (1024 < z) = false := decide_eq_false h2
      have e1 : (z + 256 - 1).tdiv 256 = (pgs z.toNat : Int) := by
        rw [Int.tdiv_eq_ediv_of_nonneg (by omega)]; unfold pgs; omega
      have hq : pgs z.toNat ≤ 4 := pgs_le (by omega)
      generalize pgs z.toNat = q at *
      go_enter Tryz.func11, Tryz.ntmps11
      go_wp2
      go_ret
      exact ⟨rfl, rfl⟩
def RpP (w : World) (T : Nat → Bool) (n m : Nat) (u : Value) (wr : World) : Prop := wr.ownsRow w.heap.size 9 1 u m (strs (pagesL T n m)) ∧ Below w.heap.size w wr
set_option maxRecDepth 100000 in
set_option maxHeartbeats 4000000 in
theorem rpages_any (p : Option Addr) (c n : Nat) (hn1 : 1 ≤ n) (hn2 : n ≤ 1024) (T : Nat → Bool) (w : World) (hT : Bls w p T n) : Calls Tryz.prog 43 #[.slice p n c] w fun e w' => ∃ v, e = .returned v ∧ RpP w T n (pgs n) v w' := by
  obtain ⟨i0, hi, hz0, hz1, hz2⟩ := info_parts infoS
  have HI := hide (And.intro hi (And.intro hz0 (And.intro hz1 hz2)))
  clear hi hz0 hz1 hz2
  have h4 := pgs_le hn2
  have hpg : pgs n = (n + 255) / 256 := rfl
  have HT := hide hT
  clear hT
  generalize pgs n = P0 at *
  go_enter Tryz.func43, Tryz.ntmps43
  go_wp2
  go_loopw [3, 4] (fun u i wr => ∃ k : Nat, k ≤ P0 ∧ i = .int .i64 (k : Int) ∧ RpP w T n k u wr) (fun _ i _ => P0 - (intOf i).toNat)
  case atStart => exact ⟨0, by omega, rfl, World.ownsRow_nil _ _ _ _, Below.refl _ _⟩
  case round =>
    obtain ⟨k, hk, rfl, hR, hB⟩ := hrel
    obtain ⟨wo, rfl⟩ : ∃ wo, wo = wr := ⟨_, rfl⟩
    obtain ⟨pv, cv, rfl, hcv⟩ := row_form hR
    have HR := hide hR
    have HB := hide hB
    clear hR hB hcv
    have em : (256 : Int) * (k : Int) = ((256 * k : Nat) : Int) := by omega
    have hfm : 256 * k ≤ 2000 := by omega
    by_cases hkn : k < P0
    · have hkn' : ((256 * k : Nat) : Int) < (n : Int) := by omega
      have hpin : pin n k = min 256 (n - 256 * k) := rfl
      have hmk := run_make_u8 32 32 (by omega) (by omega) wo
      simp only [Int.cast_ofNat_Int] at hmk
      have X0 := hide (show KeyInv wo (bdL T k 0) (wo.alloc (.cells ((List.replicate 32 (0 : Int)).map (Value.int .u8)).toArray 5)) from ⟨arr_new wo .u8 _ 5 _ rfl, (Below.refl _ _).alloc (Nat.le_refl _) _, by simp⟩)
      generalize hx : wo.alloc (.cells ((List.replicate 32 (0 : Int)).map (Value.int .u8)).toArray 5) = x2 at *
      clear hx
      obtain ⟨fk, hfk⟩ : ∃ q, 256 * k = q := ⟨_, rfl⟩
      rw [hfk] at em hkn' hfm
      have HFK := hide hfk
      obtain ⟨PN, hPN⟩ : ∃ q, pin n k = q := ⟨_, rfl⟩
      rw [hPN, hfk] at hpin
      have HPN := hide hPN
      clear hfk hPN
      obtain ⟨gb, hgb⟩ : ∃ q, wo.heap.size = q := ⟨_, rfl⟩
      rw [hgb] at hmk
      have HGB := hide hgb
      clear hgb
      go_wp2
      go_loopw [6] (fun j wr => ∃ t : Nat, t ≤ PN ∧ j = .int .i64 (t : Int) ∧ KeyInv wo (bdL T k t) wr) (fun j _ => PN - (intOf j).toNat)
      case atStart => exact ⟨0, by omega, rfl, unhide X0⟩
      case round =>
        obtain ⟨t, ht, rfl, hK⟩ := hrel
        obtain ⟨wi, rfl⟩ : ∃ wi, wi = wr := ⟨_, rfl⟩
        clear X0 hmk
        have HK := hide hK
        clear hK
        obtain ⟨cb, hcb⟩ : ∃ cb : Bool, decide (t < 256 ∧ fk + t < n) = cb := ⟨_, rfl⟩
        have HCB := hide hcb
        clear hcb
        have et : (fk : Int) + (t : Int) = ((fk + t : Nat) : Int) := by omega
        have ht256 : t ≤ 256 := by omega
        go_upto_region 7 with fail
        go_cut [27] (fun c wx => c = .bool cb ∧ wx = wi)
        case first =>
          by_cases g1 : t < 256
          · have g1' : (t : Int) < 256 := by omega
            have g1d : decide ((t : Int) < 256) = true := decide_eq_true g1'
            by_cases g2 : fk + t < n
            · have g2' : ((fk + t : Nat) : Int) < (n : Int) := by omega
              generalize fk + t = ft at *
              go_wp2_with fail
              go_meet
              exact ⟨congrArg Value.bool (by rw [← unhide HCB]; exact (decide_eq_true ⟨g1, g2⟩).symm), rfl⟩
            · have g2' : ¬ ((fk + t : Nat) : Int) < (n : Int) := by omega
              have hft : fk + t ≤ 5000 := by omega
              generalize fk + t = ft at *
              go_wp2_with fail
              go_meet
              exact ⟨congrArg Value.bool (by rw [← unhide HCB]; exact (decide_eq_false (fun r => g2 r.2)).symm), rfl⟩
          · have g1' : ¬ (t : Int) < 256 := by omega
            go_wp2_with fail
            go_meet
            exact ⟨congrArg Value.bool (by rw [← unhide HCB]; exact (decide_eq_false (fun r => g1 r.1)).symm), rfl⟩
        case rest =>
        obtain ⟨rfl, hwc⟩ := hcut
        subst wc
        cases cb with
        | true =>
          have hgo := of_decide_eq_true (unhide HCB)
          obtain ⟨g, oo, rfl, hgl, cg⟩ := (unhide HT) (fk + t) hgo.2
          have hbw : Below w.heap.size w wi := (unhide HB).trans ((unhide HK).2.1.mono (unhide HB).size)
          have cg' : wi.cell? ⟨g, oo + (fk + t), none⟩ = some (.bool (T (fk + t))) := (hbw.cell (p := ⟨g, oo + (fk + t), none⟩) hgl).trans cg
          have s0 : (0 : Int) ≤ ((fk + t : Nat) : Int) := by omega
          have s1 : ((fk + t : Nat) : Int) < (n : Int) := by omega
          have hft : fk + t ≤ 5000 := by omega
          have htl : t < PN := by omega
          have HST := hide (show bdL T k (t + 1) = if T (fk + t) then (bdL T k t).set (t / 8) ((bdL T k t).getD (t / 8) 0 + ((2 ^ (t % 8) : Nat) : Int)) else bdL T k t from by rw [bdL, unhide HFK])
          clear hbw cg hgl
          generalize fk + t = ft at *
          cases hTf : T ft with
          | false =>
            rw [hTf] at cg' HST
            simp only [Bool.false_eq_true, if_false] at HST
            clear hTf
            go_wp2
            go_roundw
            case rel => exact ⟨t + 1, by omega, by go_num, by rw [unhide HST]; exact unhide HK⟩
            case measure => simp [intOf]; omega
          | true =>
            rw [hTf] at cg' HST
            simp only [if_true] at HST
            have hlen := bdL_len T k t
            have hfit := bdL_fits T k t
            have hlo := (bdL_bound T k t (t / 8)).1
            have c1 := (unhide HK).1.get0 (t / 8) (by omega)
            have f1 := (unhide HK).1.free0 (t / 8) (by omega)
            have HPUT := hide (show ∀ W v, KeyInv wo (bdL T k t) W → v = (bdL T k t).getD (t / 8) 0 + ((2 ^ (t % 8) : Nat) : Int) → KeyInv wo (bdL T k (t + 1)) (W.setCell ⟨wo.heap.size, t / 8, none⟩ (.int .u8 v)).drew from fun W v h e => by
              have h' := h.put (l' := bdL T k (t + 1)) (t / 8) (by omega) v (by rw [e, unhide HST])
              exact ⟨h'.1, h'.2.1.drew, h'.2.2⟩)
            have dq : (t : Int).tdiv 8 = ((t / 8 : Nat) : Int) := by rw [Int.tdiv_eq_ediv_of_nonneg (by omega)]; omega
            have dr : (t : Int).tmod 8 = ((t % 8 : Nat) : Int) := by rw [Int.tmod_eq_emod_of_nonneg (by omega)]; omega
            have hq32 : t / 8 < 32 := by omega
            have hr8 : t % 8 < 8 := Nat.mod_lt _ (by decide)
            have j0 : (0 : Int) ≤ ((t / 8 : Nat) : Int) := by omega
            have j1 : ((t / 8 : Nat) : Int) < 32 := by omega
            have hgbe := unhide HGB
            rw [hgbe] at c1 f1 HPUT
            generalize (bdL T k t).getD (t / 8) 0 = x at *
            have HS := hide (show ∀ cc : Int, cc = ((2 ^ (t % 8) : Nat) : Int) → IntKind.u8.wrap (x + cc) = x + cc from fun cc hc => by
              have hcp : 0 ≤ cc := by rw [hc]; exact Int.natCast_nonneg _
              rw [← hc] at hfit
              rw [IntKind.wrap_u8]
              omega)
            have HXX := hide (And.intro hlo hfit)
            clear hTf hlen hfit hlo hgbe
            have hwq : IntKind.i64.wrap ((t / 8 : Nat) : Int) = ((t / 8 : Nat) : Int) := wrapI_eq _ (by omega) (by omega)
            have hwr : IntKind.i64.wrap ((t % 8 : Nat) : Int) = ((t % 8 : Nat) : Int) := wrapI_eq _ (by omega) (by omega)
            generalize t / 8 = qd at *
            generalize t % 8 = r at *
            obtain rfl | rfl | rfl | rfl | rfl | rfl | rfl | rfl : r = 0 ∨ r = 1 ∨ r = 2 ∨ r = 3 ∨ r = 4 ∨ r = 5 ∨ r = 6 ∨ r = 7 := by omega
            all_goals
              have hsum := unhide HS _ rfl
              simp only [Nat.reducePow, Int.cast_ofNat_Int] at hsum dr hwr
              clear HS
              go_wp2_with fail
              go_still_tail 13, (by kernel_rfl)
              change wpList _ _ _ _ _ wi.drew
              go_wp2
              go_roundw
              case rel => exact ⟨t + 1, by omega, by go_num, unhide HPUT wi _ (unhide HK) (by have hh := unhide HXX; simp only [Nat.reducePow, Int.cast_ofNat_Int] at hh ⊢; omega)⟩
              case measure => simp [intOf]; omega
        | false =>
          have htp : t = PN := by
            have hno := of_decide_eq_false (unhide HCB)
            omega
          subst htp
          have hlen := bdL_len T k t
          have hA := (unhide HK).1
          have hcv' := run_convert_bytes_arg (P := Tryz.prog) wi 122 5 Tryz.underlying122 Tryz.underlying5 wo.heap.size 0 32 32 (bdL T k t) hlen (fun i hi => hA.get i (by omega)) 9 Tryz.underlying9
          rw [unhide HGB] at hcv'
          have HBD := hide (show strOfNums (bdL T k t) = bdB T n k from by rw [bdB, unhide HPN])
          obtain ⟨bd, hbd⟩ : ∃ q, strOfNums (bdL T k t) = q := ⟨_, rfl⟩
          rw [hbd] at hcv' HBD
          have HMK := hide (fun W => rmake_any 3 (k : Int) bd W)
          have HPG := hide (show makeB 3 (k : Int) bd = pgT k (bdB T n k) from by rw [unhide HBD]; rfl)
          obtain ⟨pg, hpg'⟩ : ∃ q, makeB 3 (k : Int) bd = q := ⟨_, rfl⟩
          rw [hpg'] at HMK HPG
          generalize errM 3 (k : Int) bd.size = er at *
          have HB2 := hide ((unhide HB).trans ((unhide HK).2.1.mono (unhide HB).size))
          have HR2 := hide (owns_only (unhide HR) (Only.of_below (P := fun _ => False) (unhide HK).2.1) (fun _ _ q => q))
          clear hlen hA hbd hpg' HR HB HK
          go_wp2_with fail
          refine (unhide HMK _).mono ?_
          rintro e y1 ⟨rfl, hb1⟩
          have HRA := hide (show (y1.alloc (.cells #[.string pg] 9)).ownsRow w.heap.size 9 1 (.slice pv k cv) k (strs (pagesL T n k)) from (owns_only (unhide HR2) (Only.of_below (P := fun _ => False) hb1) (fun _ _ q => q)).alloc _)
          have HXB := hide (show Below w.heap.size w (y1.alloc (.cells #[.string pg] 9)) from ((unhide HB2).trans (hb1.mono (unhide HB2).size)).alloc ((unhide HB2).trans (hb1.mono (unhide HB2).size)).size _)
          clear hb1 HB2 HR2 HMK
          go_wp2_with (refine wpList_append_own _ rfl (.tmp 58) (.tmp 60) 22 rfl w.heap.size 9 i0 (.string ⟨#[]⟩) 1 16 Tryz.underlying22 (unhide HI).1 (unhide HI).2.1 (unhide HI).2.2.1 (unhide HI).2.2.2 rfl (by decide) _ k (strs (pagesL T n k)) rfl (unhide HRA) ⟨y1.heap.size, 0, none⟩ 1 1 [.string pg] rfl rfl (fun q u hu => news_one y1 9 _ q u hu) (by simp [Value.oneCell']) (by unfold maxLen; omega) (by omega) (unhide HXB).size ?_)
          intro v5 x5 ho5 hg5 _
          have HRR := hide (show RpP w T n (k + 1) v5 x5 from ⟨by rw [pagesL_succ, ← unhide HPG]; exact ho5, (unhide HXB).grown hg5 (unhide HXB).size (fun q hq => ((unhide HRA).lt q hq).1)⟩)
          clear ho5 hg5 HRA HXB HPG
          go_wp2
          go_roundw
          case rel => exact ⟨k + 1, by omega, by go_num, unhide HRR⟩
          case measure => simp [intOf]; omega
    · have hke : k = P0 := by omega
      have hkn' : ¬ ((256 * k : Nat) : Int) < (n : Int) := by omega
      clear hpg
      subst hke
      have HF := hide (show RpP w T n k (.slice pv k cv) wo from ⟨unhide HR, unhide HB⟩)
      clear HR HB
      generalize 256 * k = fk at *
      go_wp2
      go_ret
      exact ⟨_, rfl, unhide HF⟩
end Go.Proofs.YtnnehadmnijhjaaGreatDoor

namespace Go.Proofs.YtnnehadmnijhjaaGreatDoor
open Go.RowKit Go.Maps Go.Sort Go.Shelf
/-- A bit that is added above all others. -/
theorem add_bit (x r i : Nat) (hx : x < 2 ^ r) : (x + 2 ^ r).testBit i = if i = r then true else x.testBit i := by
  by_cases e : i = r
  · subst e
    rw [if_pos rfl, Nat.add_comm, Nat.testBit_two_pow_add_eq, Nat.testBit_lt_two_pow hx]
    rfl
  · rw [if_neg e]
    rcases Nat.lt_or_ge i r with q | q
    · rw [Nat.add_comm, Nat.testBit_two_pow_add_gt q]
    · have h1 : x + 2 ^ r < 2 ^ (r + 1) := by rw [Nat.pow_succ]; omega
      have h2 : 2 ^ (r + 1) ≤ 2 ^ i := pow_mono8 _ _ (by omega)
      have h3 : 2 ^ r ≤ 2 ^ i := pow_mono8 _ _ (by omega)
      rw [Nat.testBit_lt_two_pow (by omega), Nat.testBit_lt_two_pow (by omega)]
/-- The bits of the document's bytes. -/
theorem bdL_bit (T : Nat → Bool) (k : Nat) : ∀ j, j ≤ 256 → ∀ m, m < 256 → ((bdL T k j).getD (m / 8) 0).toNat.testBit (m % 8) = (decide (m < j) && T (256 * k + m))
  | 0, _, m, hm => by
    have : (bdL T k 0).getD (m / 8) 0 = 0 := by
      rw [bdL, List.getD_eq_getElem?_getD, List.getElem?_replicate]
      split <;> rfl
    rw [this]
    simp
  | j + 1, hj, m, hm => by
    have ih := bdL_bit T k j (by omega) m hm
    have hl := bdL_len T k j
    rw [bdL]
    cases hT : T (256 * k + j) with
    | false =>
      rw [if_neg (by decide), ih]
      by_cases e : m = j
      · subst e
        rw [hT]
        simp
      · rw [show decide (m < j + 1) = decide (m < j) from by
          by_cases q : m < j
          · rw [decide_eq_true q, decide_eq_true (by omega)]
          · rw [decide_eq_false q, decide_eq_false (by omega)]]
    | true =>
      rw [if_pos rfl, List.getD_eq_getElem?_getD, List.getElem?_set]
      by_cases e : j / 8 = m / 8
      · rw [if_pos e, if_pos (by omega), Option.getD_some]
        obtain ⟨b1, b2⟩ := bdL_bound T k j (j / 8)
        rw [show min 8 (j - 8 * (j / 8)) = j % 8 by omega] at b2
        rw [show ((bdL T k j).getD (j / 8) 0 + ((2 ^ (j % 8) : Nat) : Int)).toNat = ((bdL T k j).getD (j / 8) 0).toNat + 2 ^ (j % 8) by omega, add_bit _ _ _ (by omega), e, ih]
        by_cases q : m % 8 = j % 8
        · have hmj : m = j := by omega
          rw [if_pos q, hmj, hT]
          simp
        · rw [if_neg q, show decide (m < j + 1) = decide (m < j) from by
            by_cases r : m < j
            · rw [decide_eq_true r, decide_eq_true (by omega)]
            · rw [decide_eq_false r, decide_eq_false (by omega)]]
      · rw [if_neg e, ← List.getD_eq_getElem?_getD, ih, show decide (m < j + 1) = decide (m < j) from by
          by_cases r : m < j
          · rw [decide_eq_true r, decide_eq_true (by omega)]
          · rw [decide_eq_false r, decide_eq_false (by omega)]]
theorem bdB_bit (T : Nat → Bool) (n k m : Nat) (hm : m < 256) : bitB (bdB T n k) m = (decide (256 * k + m < n) && T (256 * k + m)) := by
  have hp : pin n k ≤ 256 := by unfold pin; omega
  unfold bitB byN bdB
  rw [nums_strOfNums _ (bdL_bytes T k _), Nat.mod_eq_of_lt hm, bdL_bit T k (pin n k) hp m hm]
  congr 1
  unfold pin
  by_cases q : 256 * k + m < n
  · rw [decide_eq_true q, decide_eq_true (by omega)]
  · rw [decide_eq_false q, decide_eq_false (by omega)]
/-- Bodies with the same bits are one. -/
theorem body_ext (a b : ByteArray) (ha : a.size = 32) (hb : b.size = 32) (h : ∀ m, m < 256 → bitB a m = bitB b m) : a = b := by
  have hn : nums a = nums b := by
    refine List.ext_getElem (by rw [nums_len, nums_len, ha, hb]) (fun q q1 q2 => ?_)
    have hq : q < 32 := by rw [nums_len, ha] at q1; exact q1
    have e : byN a q = byN b q := by
      apply Nat.eq_of_testBit_eq
      intro i
      by_cases hi : i < 8
      · have := h (8 * q + i) (by omega)
        unfold bitB at this
        rwa [show (8 * q + i) % 256 / 8 = q by omega, show (8 * q + i) % 8 = i by omega] at this
      · have h8 : 2 ^ 8 ≤ 2 ^ i := pow_mono8 _ _ (by omega)
        have h1 := byN_lt a q
        have h2 := byN_lt b q
        have h256 : (2 : Nat) ^ 8 = 256 := by decide
        rw [Nat.testBit_lt_two_pow (by omega), Nat.testBit_lt_two_pow (by omega)]
    have e1 := byN_eq a q
    have e2 := byN_eq b q
    rw [List.getD_eq_getElem?_getD, List.getElem?_eq_getElem q1] at e1
    rw [List.getD_eq_getElem?_getD, List.getElem?_eq_getElem q2] at e2
    simp only [Option.getD_some] at e1 e2
    rw [e1, e2, e]
  rw [← strOfNums_nums a, hn, strOfNums_nums]
/-- The pages tell the set just when they are the document's. -/
theorem pg_page {n : Nat} {T : Nat → Bool} {k : Nat} {b s : ByteArray} (h : Pg n T k b s) : b = bdB T n k := body_ext b _ h.1 (bdB_size T n k) (fun m hm => by rw [h.2.2 m hm, bdB_bit T n k m hm])
theorem page_pg (T : Nat → Bool) (n k : Nat) : Pg n T k (bdB T n k) (pgT k (bdB T n k)) := ⟨bdB_size T n k, rfl, fun m hm => bdB_bit T n k m hm⟩
theorem ms_iff (M : List ByteArray) (a n : Nat) (T : Nat → Bool) : MS M a n T ↔ ∀ k, k < pgs n → M.getD (a + k) ByteArray.empty = pgT k (bdB T n k) := by
  constructor
  · intro h k hk
    obtain ⟨b, hb⟩ := h k hk
    rw [hb.2.1, pg_page hb]
  · intro h k hk
    rw [h k hk]
    exact ⟨_, page_pg T n k⟩
end Go.Proofs.YtnnehadmnijhjaaGreatDoor
