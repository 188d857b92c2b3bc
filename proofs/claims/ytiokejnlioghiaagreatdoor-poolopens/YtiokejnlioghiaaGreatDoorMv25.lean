import Derived.Test.YtiokejnlioghiaaGreatDoorMv24
import Derived.Test.YtiokejnlioghiaaGreatDoorMv22
import Derived.Test.YtiokejnlioghiaaGreatDoorMv23
import Derived.Test.YtiokejnlioghiaaGreatDoorMv20
import Derived.Test.YtiokejnlioghiaaGreatDoorMv19
namespace Go.Proofs.YtiokejnlioghiaaGreatDoor
open Go.RowKit
set_option maxRecDepth 100000
/-- Behind a call of the document's journal at jb over its disk at b. -/
def RJP (base b jb : Nat) (v : RV) (r : CR) (n : Nat) (w w' : World) : Prop :=
  ∃ v', Rk w' base b v' r.s ∧ Rj w' jb b n r.lost ∧ ¬ Fr4 b v' jb ∧ Only (fun k => Fr4 b v k ∨ k = jb) w w' ∧ ∀ k, Fr4 b v' k → Fr4 b v k ∨ w.heap.size ≤ k
/-- the document's number behind a commit -/
def numR (s : DSt) (n : Nat) (lost : Bool) (l : List Wr1) : Nat := if refE l (s.last.length : Int) ≠ 0 then n else if lost = true then n else if (runsR s (runsOf ((n + 1) % 4294967296) l)).1 = 0 then (n + 1) % 4294967296 else n
set_option maxHeartbeats 4000000 in
/-- The document's Commit answers what the program's does. -/
theorem rcommit_any (w : World) (base b jb n : Nat) (lost : Bool) (v : RV) (s : DSt) (h : Rk w base b v s) (hb : base ≤ w.heap.size) (hS : Sane s) (hC : Coh s) (hp : s.pend.length ≤ 100000) (ha : s.acts.length ≤ 10000000) (hJ : Rj w jb b n lost) (hn : n < 4294967296) (hfj : ¬ Fr4 b v jb) (p : Option Addr) (c m : Nat) (l : List Wr1) (hm : m = l.length) (hl : Wls w p l) (hfp : ∀ g o, p = some ⟨g, o, none⟩ → ¬ Fr4 b v g) :
    Calls Tryz.prog 16 #[.pointer (some ⟨jb, 0, none⟩), .slice p m c] w fun e w' => e = .returned (.int .i64 (commitR s ((n + 1) % 4294967296) lost l).e) ∧ RJP base b jb v (commitR s ((n + 1) % 4294967296) lost l) (numR s n lost l) w w' := by
  obtain ⟨nx, hnx⟩ : ∃ z, (n + 1) % 4294967296 = z := ⟨_, rfl⟩
  have HRF := hide (rrefused_any w base b jb n lost v s h hJ p c l m hm hl)
  have HAC := hide (fun (W : World) (hW : Below w.heap.size w W) (hr : refE l (s.last.length : Int) = 0) => racts_any W base b jb n lost v s (h.below hW) (Nat.le_trans hb hW.size) hS hC hp ha (Blk.below hJ hW (Blk.lt hJ)) hn hfj p c m l hm (hl.only (Only.of_below (P := fun _ => False) hW) (fun _ _ _ q => q)) hfp hr nx hnx)
  have HX := hide (And.intro h (And.intro hJ (And.intro hn hfj)))
  have HNXW := hide hnx
  obtain ⟨re, hre⟩ : ∃ z, refE l (s.last.length : Int) = z := ⟨_, rfl⟩
  rw [hre] at HRF
  obtain ⟨R, hR⟩ : ∃ z, commitR s nx lost l = z := ⟨_, rfl⟩
  obtain ⟨M, hM⟩ : ∃ z, numR s n lost l = z := ⟨_, rfl⟩
  rw [hnx, hR, hM]
  rw [commitR, hre] at hR
  rw [numR, hnx, hre] at hM
  rw [hre] at HAC
  clear h hb hS hC hp ha hJ hn hfj hm hl hfp hnx hre
  by_cases h0 : re = 0
  case neg =>
    rw [if_pos h0] at hR hM
    subst hR hM
    have h0' : (re == 0) = false := by simpa using h0
    go_enter Tryz.func16, Tryz.ntmps16
    go_wp2_with fail
    refine (unhide HRF).mono ?_
    rintro e x1 ⟨rfl, hb1⟩
    have HB1 := hide hb1
    clear hb1
    go_wp2
    go_ret
    refine ⟨rfl, v, (unhide HX).1.below (unhide HB1), Blk.below (unhide HX).2.1 (unhide HB1) (Blk.lt (unhide HX).2.1), (unhide HX).2.2.2, Only.of_below (unhide HB1), fun _ q => .inl q⟩
  subst h0
  rw [if_neg (fun q => q rfl)] at hR hM
  cases lost with
  | true =>
    rw [if_pos rfl] at hR hM
    subst hR hM
    go_enter Tryz.func16, Tryz.ntmps16
    go_wp2_with fail
    refine (unhide HRF).mono ?_
    rintro e x1 ⟨rfl, hb1⟩
    have c2 : x1.cell? ⟨jb, 2, none⟩ = some (.bool true) := by rw [Blk.cell (Blk.below (unhide HX).2.1 hb1 (Blk.lt (unhide HX).2.1)) 2]; rfl
    have HB1 := hide hb1
    clear hb1
    go_wp2
    go_ret
    exact ⟨rfl, v, (unhide HX).1.below (unhide HB1), Blk.below (unhide HX).2.1 (unhide HB1) (Blk.lt (unhide HX).2.1), (unhide HX).2.2.2, Only.of_below (unhide HB1), fun _ q => .inl q⟩
  | false =>
    obtain ⟨e0, s0, hres⟩ : ∃ e0 s0, runsR s (runsOf nx l) = (e0, s0) := ⟨_, _, rfl⟩
    rw [hres] at HAC hR hM
    have hR' : R = if e0 = 0 then ⟨0, s0, (nx + 1) % 4294967296, false⟩ else ⟨e0, s0, nx, true⟩ := by rw [← hR]; rfl
    have hM' : M = if e0 = 0 then nx else n := by rw [← hM]; rfl
    have HRM := hide (And.intro hR' hM')
    clear hres hR hM hR' hM'
    go_enter Tryz.func16, Tryz.ntmps16
    go_wp2_with fail
    refine (unhide HRF).mono ?_
    rintro e x1 ⟨rfl, hb1⟩
    have c2 : x1.cell? ⟨jb, 2, none⟩ = some (.bool false) := by rw [Blk.cell (Blk.below (unhide HX).2.1 hb1 (Blk.lt (unhide HX).2.1)) 2]; rfl
    have HB1 := hide hb1
    have HA1 := hide (unhide HAC x1 hb1 (by first | rfl | trivial))
    clear hb1 HAC HRF
    go_wp2_with fail
    refine (unhide HA1).mono ?_
    rintro e x2 ⟨rfl, hP⟩
    obtain ⟨v2, k1, k2, k3⟩ := RPst.belowL (unhide HB1) hP
    have hJ2 : Rj x2 jb b n false := Blk.only (unhide HX).2.1 k2 (unhide HX).2.2.2
    have hn2 : ¬ Fr4 b v2 jb := fun q => by
      rcases k3 jb q with r | r
      · exact (unhide HX).2.2.2 r
      · have := Blk.lt (unhide HX).2.1; omega
    have H2 := hide (And.intro k1 (And.intro k2 (And.intro k3 (And.intro hJ2 hn2))))
    clear hP k1 k2 k3 hJ2 hn2 HA1 c2
    by_cases he : e0 = 0
    · subst he
      have HNX := hide (rnext_any x2 jb b n false (unhide H2).2.2.2.1 (unhide HX).2.2.1)
      rw [unhide HNXW] at HNX
      have c1 : x2.cell? ⟨jb, 1, none⟩ = some (.int .i64 (n : Int)) := by rw [Blk.cell (unhide H2).2.2.2.1 1]; rfl
      have f1 : x2.frozen? ⟨jb, 1, none⟩ = false := Blk.frozen (unhide H2).2.2.2.1 1
      obtain ⟨x3, hx3⟩ : ∃ z, x2.setCell ⟨jb, 1, none⟩ (.int .i64 (nx : Int)) = z := ⟨_, rfl⟩
      have HF := hide (show 0 = R.e ∧ RJP base b jb v R M w x3 from by
        have q1 := (unhide HRM).1
        have q2 := (unhide HRM).2
        rw [if_pos rfl] at q1 q2
        rw [q1, q2]
        refine ⟨rfl, ?_⟩
        obtain ⟨k1, k2, k3, k4, k5⟩ := unhide H2
        have o3 : Only (fun k => k = jb) x2 x3 := by rw [← hx3]; exact (Only.refl (fun k => k = jb) x2).setCell ⟨jb, 1, none⟩ _ (fun _ => rfl)
        refine ⟨v2, k1.only o3 (fun k hk e => k5 (by rw [← e]; exact hk)), ?_, k5, (k2.mono (fun k _ q => .inl q)).trans o3 (fun k _ q => .inr q), k3⟩
        have := Blk.set k4 1 (.int .i64 (nx : Int))
        rw [hx3] at this
        exact this)
      clear H2 HRM
      go_wp2_with fail
      refine (unhide HNX).mono ?_
      rintro e y ⟨rfl, hy⟩
      subst y
      clear HNX
      go_wp2
      go_ret
      exact ⟨congrArg (fun z => Ending.returned (Value.int .i64 z)) (unhide HF).1, (unhide HF).2⟩
    · have he' : (e0 == 0) = false := by simpa using he
      have c1 : x2.cell? ⟨jb, 2, none⟩ = some (.bool false) := by rw [Blk.cell (unhide H2).2.2.2.1 2]; rfl
      have f1 : x2.frozen? ⟨jb, 2, none⟩ = false := Blk.frozen (unhide H2).2.2.2.1 2
      obtain ⟨x3, hx3⟩ : ∃ z, x2.setCell ⟨jb, 2, none⟩ (.bool true) = z := ⟨_, rfl⟩
      have HF := hide (show e0 = R.e ∧ RJP base b jb v R M w x3 from by
        have q1 := (unhide HRM).1
        have q2 := (unhide HRM).2
        rw [if_neg he] at q1 q2
        rw [q1, q2]
        refine ⟨rfl, ?_⟩
        obtain ⟨k1, k2, k3, k4, k5⟩ := unhide H2
        have o3 : Only (fun k => k = jb) x2 x3 := by rw [← hx3]; exact (Only.refl (fun k => k = jb) x2).setCell ⟨jb, 2, none⟩ _ (fun _ => rfl)
        refine ⟨v2, k1.only o3 (fun k hk e => k5 (by rw [← e]; exact hk)), ?_, k5, (k2.mono (fun k _ q => .inl q)).trans o3 (fun k _ q => .inr q), k3⟩
        have := Blk.set k4 2 (.bool true)
        rw [hx3] at this
        exact this)
      clear H2 he HRM
      go_wp2
      go_ret
      exact ⟨congrArg (fun z => Ending.returned (Value.int .i64 z)) (unhide HF).1, (unhide HF).2⟩
end Go.Proofs.YtiokejnlioghiaaGreatDoor

namespace Go.Proofs.YtiokejnlioghiaaGreatDoor
open Go.RowKit
set_option maxRecDepth 100000
/-- Two disks, the program's and the document's, apart from one another, and a fence X of blocks that belong to none of them. -/
def Pr (w0 w : World) (b br : Nat) (s t : DSt) (X : Nat → Prop) : Prop :=
  ∃ v vr, Dk w w0.heap.size b v s ∧ Rk w w0.heap.size br vr t ∧ (∀ k, Fd b v k → ¬ Fr4 br vr k) ∧ Below w0.heap.size w0 w ∧ ∀ k, X k → ¬ Fd b v k ∧ ¬ Fr4 br vr k ∧ k < w.heap.size
theorem Pr.more {w0 w : World} {b br : Nat} {s t : DSt} {X : Nat → Prop} (h : Pr w0 w b br s t X) {w' : World} {Y : Nat → Prop} (hb : Below w.heap.size w w') (hY : ∀ k, Y k → X k ∨ (w.heap.size ≤ k ∧ k < w'.heap.size)) : Pr w0 w' b br s t Y := by
  obtain ⟨v, vr, h1, h2, h3, h7, h8⟩ := h
  refine ⟨v, vr, h1.below hb, h2.below hb, h3, h7.trans (hb.mono h7.size), fun k hk => ?_⟩
  have hs := hb.size
  rcases hY k hk with q | q
  · obtain ⟨a1, a2, a4⟩ := h8 k q
    exact ⟨a1, a2, by omega⟩
  · exact ⟨fun r => by have := (h1.fd k r).2; omega, fun r => by have := (h2.frB k r).2; omega, q.2⟩
theorem Pr.below {w0 w : World} {b br : Nat} {s t : DSt} {X : Nat → Prop} (h : Pr w0 w b br s t X) {w' : World} (hb : Below w.heap.size w w') : Pr w0 w' b br s t X := h.more hb (fun _ q => .inl q)
theorem Pr.bel {w0 w : World} {b br : Nat} {s t : DSt} {X : Nat → Prop} (h : Pr w0 w b br s t X) : Below w0.heap.size w0 w := by
  obtain ⟨v, vr, h1, h2, h3, h7, h8⟩ := h
  exact h7
theorem Pr.prog {w0 w : World} {b br : Nat} {s t : DSt} {X : Nat → Prop} (h : Pr w0 w b br s t X) {s' : DSt} {f : FuncId} {args : Array Value} {R : Ending → World → Prop}
    (C : ∀ v, Dk w w0.heap.size b v s → Calls Tryz.prog f args w fun e w' => R e w' ∧ DPost w0.heap.size b v s' w w') :
    Calls Tryz.prog f args w fun e w' => R e w' ∧ Pr w0 w' b br s' t X ∧ Only (fun k => ¬ X k) w w' := by
  obtain ⟨v, vr, h1, h2, h3, h7, h8⟩ := h
  refine (C v h1).mono ?_
  rintro e w' ⟨hR, v', d1, d2, d3⟩
  have hs := d2.size
  refine ⟨hR, ⟨v', vr, d1, h2.only d2 (fun k hk q => h3 k q hk), fun k hk => ?_, h7.trans (d2.below h7.size (fun k hk q => by have := (h1.fd k q).1; omega)), fun k hk => ?_⟩, d2.mono (fun k _ q r => (h8 k r).1 q)⟩
  · rcases d3 k hk with q | q
    · exact h3 k q
    · exact fun r => by have := (h2.frB k r).2; omega
  · obtain ⟨a1, a2, a4⟩ := h8 k hk
    exact ⟨fun r => by rcases d3 k r with q | q; exact a1 q; omega, a2, by omega⟩
theorem Pr.doc {w0 w : World} {b br : Nat} {s t : DSt} {X : Nat → Prop} (h : Pr w0 w b br s t X) {t' : DSt} {f : FuncId} {args : Array Value} {R : Ending → World → Prop}
    (C : ∀ v, Rk w w0.heap.size br v t → (∀ k, X k → ¬ Fr4 br v k) → Calls Tryz.prog f args w fun e w' => R e w' ∧ RPst w0.heap.size br v t' w w') :
    Calls Tryz.prog f args w fun e w' => R e w' ∧ Pr w0 w' b br s t' X ∧ Only (fun k => ¬ X k) w w' := by
  obtain ⟨v, vr, h1, h2, h3, h7, h8⟩ := h
  refine (C vr h2 (fun k hk => (h8 k hk).2.1)).mono ?_
  rintro e w' ⟨hR, v', d1, d2, d3⟩
  have hs := d2.size
  refine ⟨hR, ⟨v, v', h1.only d2 (fun k hk q => h3 k hk q), d1, fun k hk r => ?_, h7.trans (d2.below h7.size (fun k hk q => by have := (h2.frB k q).1; omega)), fun k hk => ?_⟩, d2.mono (fun k _ q r => (h8 k r).2.1 q)⟩
  · rcases d3 k r with q | q
    · exact h3 k hk q
    · have := (h1.fd k hk).2
      omega
  · obtain ⟨a1, a2, a4⟩ := h8 k hk
    exact ⟨a1, fun r => by rcases d3 k r with q | q; exact a2 q; omega, by omega⟩
/-- A block of another type comes into the fence. -/
theorem Pr.fen {w0 w : World} {b br : Nat} {s t : DSt} {X : Nat → Prop} (h : Pr w0 w b br s t X) {jb : Nat} {c : Array Value} {T : TypeId} (hB : Blk w jb c T) (hT : FT T) : Pr w0 w b br s t (fun k => X k ∨ k = jb) := by
  obtain ⟨v, vr, h1, h2, h3, h7, h8⟩ := h
  refine ⟨v, vr, h1, h2, h3, h7, fun k hk => ?_⟩
  rcases hk with q | q
  · exact h8 k q
  · rw [← q] at hB
    exact ⟨h1.noty hB hT, h2.noty hB hT, hB.lt⟩
/-- blocks of the fence turn -/
theorem Pr.poke {w0 w : World} {b br : Nat} {s t : DSt} {X : Nat → Prop} (h : Pr w0 w b br s t X) {w' : World} {P : Nat → Prop} (ho : Only P w w') (hP : ∀ k, P k → X k ∧ w0.heap.size ≤ k) : Pr w0 w' b br s t X := by
  obtain ⟨v, vr, h1, h2, h3, h7, h8⟩ := h
  refine ⟨v, vr, h1.only ho (fun k hk q => (h8 k (hP k q).1).1 hk), h2.only ho (fun k hk q => (h8 k (hP k q).1).2.1 hk), h3, h7.trans (ho.below h7.size (fun k hk q => by have := (hP k q).2; omega)), fun k hk => ?_⟩
  obtain ⟨a1, a2, a4⟩ := h8 k hk
  exact ⟨a1, a2, Nat.lt_of_lt_of_le a4 ho.size⟩
theorem Rk.lowerP {w : World} {base base0 b : Nat} {v : RV} {s : DSt} (g1 : Rk w base b v s) (h : base0 ≤ base) : Rk w base0 b v s :=
  ⟨g1.blk, owns_base g1.rl h, owns_base g1.rp h, owns_base g1.ra h, Nat.le_trans h g1.lo⟩
/-- Two disks as they begin. -/
theorem Pr.init {w0 w2 w3 : World} {b br : Nat} {v : DV} {vr : RV} {s t : DSt} (hD : Dk w2 w0.heap.size b v s) (hb2 : Below w0.heap.size w0 w2) (hR : Rk w3 w2.heap.size br vr t) (hb3 : Below w2.heap.size w2 w3) : Pr w0 w3 b br s t (fun _ => False) := by
  have z2 := hb2.size
  refine ⟨v, vr, hD.below hb3, hR.lowerP z2, fun k hk r => ?_, hb2.trans (hb3.mono z2), fun k q => q.elim⟩
  have k1 := (hD.fd k hk).2
  have k2 := (hR.frB k r).1
  omega
theorem Pr.wr {w0 w : World} {b br : Nat} {s t : DSt} {X : Nat → Prop} (h : Pr w0 w b br s t X) (hS : Sane s) (hp : s.pend.length ≤ 1000000) (ha : s.acts.length ≤ 1000000) (i : Int) (x : ByteArray) :
    Calls Tryz.prog 19 #[.pointer (some ⟨b, 0, none⟩), .int .i64 i, .string x] w fun e w' => e = .returned (.int .i64 (writeE s i x)) ∧ Pr w0 w' b br (writeS s i x) t X ∧ Only (fun k => ¬ X k) w w' :=
  h.prog (R := fun e _ => e = .returned (.int .i64 (writeE s i x))) (fun v hD => write_any w _ b v s hD h.bel.size hS (by omega) (by omega) i x)
theorem Pr.arm {w0 w : World} {b br : Nat} {s t : DSt} {X : Nat → Prop} (h : Pr w0 w b br s t X) (i : Int) :
    Calls Tryz.prog 12 #[.pointer (some ⟨b, 0, none⟩), .int .i64 i] w fun e w' => e = .returned (.int .i64 (armE s i)) ∧ Pr w0 w' b br (armS s i) t X ∧ Only (fun k => ¬ X k) w w' :=
  h.prog (R := fun e _ => e = .returned (.int .i64 (armE s i))) (fun v hD => (arm_any w _ b v s hD i).mono (fun _ _ q => ⟨q.1, v, q.2.1, q.2.2, fun _ r => .inl r⟩))
theorem Pr.crash {w0 w : World} {b br : Nat} {s t : DSt} {X : Nat → Prop} (h : Pr w0 w b br s t X) (hS : Sane s) (hp : s.pend.length ≤ 1000000) (p : Option Addr) (l : List Int) (c : Nat) (hl : Ints w p l) (hll : l.length ≤ 9223372036854775807) :
    Calls Tryz.prog 17 #[.pointer (some ⟨b, 0, none⟩), .slice p l.length c] w fun e w' => e = .returned (.int .i64 (crashE s l)) ∧ Pr w0 w' b br (crashS s l) t X ∧ Only (fun k => ¬ X k) w w' :=
  h.prog (R := fun e _ => e = .returned (.int .i64 (crashE s l))) (fun v hD => crash_any w _ b v s hD h.bel.size hS (by omega) p l c hl hll)
theorem Pr.fmt {w0 w : World} {b br : Nat} {s t : DSt} {X : Nat → Prop} (h : Pr w0 w b br s t X) (hS : Sane s) (hp : s.pend.length ≤ 1000000) (ha : s.acts.length ≤ 1000000) :
    Calls Tryz.prog 7 #[.pointer (some ⟨b, 0, none⟩)] w fun e w' => e = .returned (.int .i64 ((layR s [(1, headB 0 [])]).1)) ∧ Pr w0 w' b br ((layR s [(1, headB 0 [])]).2) t X ∧ Only (fun k => ¬ X k) w w' :=
  h.prog (R := fun e _ => e = .returned (.int .i64 ((layR s [(1, headB 0 [])]).1))) (fun v hD => format_any w _ b v s hD h.bel.size hS (by omega) (by omega))
theorem Pr.rwr {w0 w : World} {b br : Nat} {s t : DSt} {X : Nat → Prop} (h : Pr w0 w b br s t X) (hS : Sane t) (hC : Coh t) (hp : t.pend.length ≤ 1000000) (ha : t.acts.length ≤ 1000000) (i : Int) (x : ByteArray) :
    Calls Tryz.prog 20 #[.pointer (some ⟨br, 0, none⟩), .int .i64 i, .string x] w fun e w' => e = .returned (.int .i64 (writeE t i x)) ∧ Pr w0 w' b br s (writeS t i x) X ∧ Only (fun k => ¬ X k) w w' :=
  h.doc (R := fun e _ => e = .returned (.int .i64 (writeE t i x))) (fun v hD _ => rwrite_any w _ br v t hD h.bel.size hS hC (by omega) (by omega) i x)
theorem Pr.rarm {w0 w : World} {b br : Nat} {s t : DSt} {X : Nat → Prop} (h : Pr w0 w b br s t X) (i : Int) :
    Calls Tryz.prog 14 #[.pointer (some ⟨br, 0, none⟩), .int .i64 i] w fun e w' => e = .returned (.int .i64 (armE t i)) ∧ Pr w0 w' b br s (armS t i) X ∧ Only (fun k => ¬ X k) w w' :=
  h.doc (R := fun e _ => e = .returned (.int .i64 (armE t i))) (fun v hD _ => (rarm_any w _ br v t hD i).mono (fun _ _ q => ⟨q.1, v, q.2.1, q.2.2, fun _ r => .inl r⟩))
theorem Pr.rcrash {w0 w : World} {b br : Nat} {s t : DSt} {X : Nat → Prop} (h : Pr w0 w b br s t X) (hS : Sane t) (hp : t.pend.length ≤ 1000000) (p : Option Addr) (l : List Int) (c : Nat) (hl : Ints w p l) (hll : l.length ≤ 9223372036854775807) (hp2 : ∀ g o, p = some ⟨g, o, none⟩ → X g) :
    Calls Tryz.prog 18 #[.pointer (some ⟨br, 0, none⟩), .slice p l.length c] w fun e w' => e = .returned (.int .i64 (crashE t l)) ∧ Pr w0 w' b br s (crashS t l) X ∧ Only (fun k => ¬ X k) w w' :=
  h.doc (R := fun e _ => e = .returned (.int .i64 (crashE t l))) (fun v hD hX => rcrash_any w _ br v t hD hS (by omega) p l c hl hll (fun g o e => hX g (hp2 g o e)))
theorem Pr.rfmt {w0 w : World} {b br : Nat} {s t : DSt} {X : Nat → Prop} (h : Pr w0 w b br s t X) (hS : Sane t) (hC : Coh t) (hp : t.pend.length ≤ 1000000) (ha : t.acts.length ≤ 1000000) :
    Calls Tryz.prog 8 #[.pointer (some ⟨br, 0, none⟩)] w fun e w' => e = .returned (.int .i64 ((layR t [(1, headB 0 [])]).1)) ∧ Pr w0 w' b br s ((layR t [(1, headB 0 [])]).2) X ∧ Only (fun k => ¬ X k) w w' :=
  h.doc (R := fun e _ => e = .returned (.int .i64 ((layR t [(1, headB 0 [])]).1))) (fun v hD _ => rformat_any w _ br v t hD h.bel.size hS hC (by omega) (by omega))
theorem Pr.openP {w0 w : World} {b br : Nat} {s t : DSt} {X : Nat → Prop} (h : Pr w0 w b br s t X) (hg : ETy w) (hS : Sane s) (ht : (readT s 1).size ≤ 9223372036854775807) (hp : s.pend.length ≤ 1000000) (ha : s.acts.length ≤ 10000000) {n : Nat} {H : List Int} {ok : Bool} {s' : DSt} {er : Int} {ag has : Bool} (hR : RHP (readT s 1) (s.last.length : Int) (n : Int) H ok) (hO : OR s n H ok s' er ag has) :
    Calls Tryz.prog 10 #[.pointer (some ⟨b, 0, none⟩)] w fun e w' => (∃ jp, e = .returned (.tuple #[.pointer jp, .bool ag, .int .i64 er]) ∧ JpQ has w (fun W jb => Jb W jb b ((n + 1) % 4294967296) false) jp w') ∧ Pr w0 w' b br s' t X ∧ Only (fun k => ¬ X k) w w' :=
  h.prog (R := fun e w' => ∃ jp, e = .returned (.tuple #[.pointer jp, .bool ag, .int .i64 er]) ∧ JpQ has w (fun W jb => Jb W jb b ((n + 1) % 4294967296) false) jp w') (fun v hD => (open_any w _ b v s hD hg h.bel.size hS ht hp ha).mono (fun _ _ hq => OpenPost.or hq hR hO))
theorem Pr.openR {w0 w : World} {b br : Nat} {s t : DSt} {X : Nat → Prop} (h : Pr w0 w b br s t X) (hS : Sane t) (hC : Coh t) (hp : t.pend.length ≤ 1000000) (ha : t.acts.length ≤ 100000000) (hL : 18 ≤ t.last.length) {n : Nat} {H : List Int} {ok : Bool} {s' : DSt} {er : Int} {ag has : Bool} (hR : RHP (readT t 1) (t.last.length : Int) (n : Int) H ok) (hO : OR t n H ok s' er ag has) :
    Calls Tryz.prog 11 #[.pointer (some ⟨br, 0, none⟩)] w fun e w' => (∃ jp, e = .returned (.tuple #[.pointer jp, .bool ag, .int .i64 er]) ∧ JpQ has w (fun W jb => Rj W jb br n false) jp w') ∧ Pr w0 w' b br s s' X ∧ Only (fun k => ¬ X k) w w' :=
  h.doc (R := fun e w' => ∃ jp, e = .returned (.tuple #[.pointer jp, .bool ag, .int .i64 er]) ∧ JpQ has w (fun W jb => Rj W jb br n false) jp w') (fun _ hD _ => (ropen_any hD h.bel.size hS hC hp ha hL).mono (fun _ _ hq => ROQ.or hq hR hO))
/-- The program's Commit. -/
theorem Pr.commit {w0 w : World} {b br : Nat} {s t : DSt} {X : Nat → Prop} (h : Pr w0 w b br s t X) {jb nx : Nat} {lost : Bool} (hX : X jb) (hJ : Jb w jb b nx lost) (hlo : w0.heap.size ≤ jb) (hS : Sane s) (hnx : nx < 4294967296) (p : Option Addr) (c : Nat) (l : List Wr1) (m : Nat) (hm : m = l.length) (hl : Wls w p l) (hp : s.pend.length ≤ 1000000) (ha : s.acts.length ≤ 1000000) :
    Calls Tryz.prog 15 #[.pointer (some ⟨jb, 0, none⟩), .slice p m c] w fun e w' => e = .returned (.int .i64 (commitR s nx lost l).e) ∧ Jb w' jb b (commitR s nx lost l).nx (commitR s nx lost l).lost ∧ Pr w0 w' b br (commitR s nx lost l).s t X ∧ Only (fun k => ¬ X k ∨ k = jb) w w' := by
  obtain ⟨v, vr, h1, h2, h3, h7, h8⟩ := h
  refine (commit_any w _ b jb nx v s lost h1 hJ (h8 jb hX).1 h7.size hS hnx p c l m hm hl hp (by omega)).mono ?_
  rintro e w' ⟨rfl, v', d1, dj, d2, d3⟩
  have hs := d2.size
  refine ⟨rfl, dj, ⟨v', vr, d1, h2.only d2 (fun k hk q => ?_), fun k hk => ?_, h7.trans (d2.below h7.size (fun k hk q => ?_)), fun k hk => ?_⟩, d2.mono (fun k _ q => ?_)⟩
  · rcases q with q | q
    · exact h3 k q hk
    · rw [q] at hk; exact (h8 jb hX).2.1 hk
  · rcases d3 k hk with q | q
    · exact h3 k q
    · exact fun r => by have := (h2.frB k r).2; omega
  · rcases q with q | q
    · have := (h1.fd k q).1; omega
    · omega
  · obtain ⟨a1, a2, a4⟩ := h8 k hk
    exact ⟨fun r => by rcases d3 k r with q | q; exact a1 q; omega, a2, by omega⟩
  · rcases q with q | q
    · exact .inl (fun r => (h8 k r).1 q)
    · exact .inr q
/-- The document's Commit. -/
theorem Pr.rcommit {w0 w : World} {b br : Nat} {s t : DSt} {X : Nat → Prop} (h : Pr w0 w b br s t X) {jb n : Nat} {lost : Bool} (hX : X jb) (hJ : Rj w jb br n lost) (hlo : w0.heap.size ≤ jb) (hS : Sane t) (hC : Coh t) (hn : n < 4294967296) (p : Option Addr) (c : Nat) (l : List Wr1) (m : Nat) (hm : m = l.length) (hl : Wls w p l) (hpX : ∀ g o, p = some ⟨g, o, none⟩ → X g ∨ g < w0.heap.size) (hp : t.pend.length ≤ 100000) (ha : t.acts.length ≤ 1000000) :
    Calls Tryz.prog 16 #[.pointer (some ⟨jb, 0, none⟩), .slice p m c] w fun e w' => e = .returned (.int .i64 (commitR t ((n + 1) % 4294967296) lost l).e) ∧ Rj w' jb br (numR t n lost l) (commitR t ((n + 1) % 4294967296) lost l).lost ∧ Pr w0 w' b br s (commitR t ((n + 1) % 4294967296) lost l).s X ∧ Only (fun k => ¬ X k ∨ k = jb) w w' := by
  obtain ⟨v, vr, h1, h2, h3, h7, h8⟩ := h
  refine (rcommit_any w _ br jb n lost vr t h2 h7.size hS hC hp (by omega) hJ hn (h8 jb hX).2.1 p c m l hm hl (fun g o e q => ?_)).mono ?_
  · rcases hpX g o e with r | r
    · exact (h8 g r).2.1 q
    · have := (h2.frB g q).1; omega
  rintro e w' ⟨rfl, v', d1, dj, dn, d2, d3⟩
  have hs := d2.size
  refine ⟨rfl, dj, ⟨v, v', h1.only d2 (fun k hk q => ?_), d1, fun k hk r => ?_, h7.trans (d2.below h7.size (fun k hk q => ?_)), fun k hk => ?_⟩, d2.mono (fun k _ q => ?_)⟩
  · rcases q with q | q
    · exact h3 k hk q
    · rw [q] at hk; exact (h8 jb hX).1 hk
  · rcases d3 k r with q | q
    · exact h3 k hk q
    · have := (h1.fd k hk).2
      omega
  · rcases q with q | q
    · have := (h2.frB k q).1; omega
    · omega
  · obtain ⟨a1, a2, a4⟩ := h8 k hk
    exact ⟨a1, fun r => by rcases d3 k r with q | q; exact a2 q; omega, by omega⟩
  · rcases q with q | q
    · exact .inl (fun r => (h8 k r).2.1 q)
    · exact .inr q
theorem layR_coh (l : List Wr1) : ∀ (s : DSt), Coh s → Coh (layR s l).2 := by
  induction l with
  | nil => intro s h; rw [layR]; exact h.flush
  | cons p r ih =>
    intro s h
    rw [layR]
    split
    · exact ih _ (h.write _ _)
    · exact h.write _ _
theorem runsR_coh (R : List (List Wr1)) : ∀ (s : DSt), Coh s → Coh (runsR s R).2 := by
  induction R with
  | nil => intro s h; rw [runsR]; exact h
  | cons r R ih =>
    intro s h
    rw [runsR]
    split
    · exact ih _ (layR_coh _ _ h)
    · exact layR_coh _ _ h
theorem commit_coh (s : DSt) (nx : Nat) (lost : Bool) (l : List Wr1) (h : Coh s) : Coh (commitR s nx lost l).s := by
  unfold commitR
  split
  · exact h
  · split
    · exact h
    · split
      · exact runsR_coh _ _ h
      · exact runsR_coh _ _ h
theorem layR_len (l : List Wr1) : ∀ (s : DSt), (layR s l).2.last.length = s.last.length := by
  induction l with
  | nil =>
    intro s
    rw [layR]
    show (flushS s).last.length = _
    unfold flushS
    split
    · rw [diesS_last]
    · exact layP_len _ _
  | cons p r ih =>
    intro s
    rw [layR]
    split
    · rw [ih, writeS_lastX]
    · show (writeS s p.1 p.2).last.length = _
      rw [writeS_lastX]
theorem runsR_len (R : List (List Wr1)) : ∀ (s : DSt), (runsR s R).2.last.length = s.last.length := by
  induction R with
  | nil => intro s; rw [runsR]
  | cons r R ih =>
    intro s
    rw [runsR]
    split
    · rw [ih, layR_len]
    · rw [layR_len]
theorem commit_len (s : DSt) (nx : Nat) (lost : Bool) (l : List Wr1) : (commitR s nx lost l).s.last.length = s.last.length := by
  unfold commitR
  split
  · rfl
  · split
    · rfl
    · split
      · exact runsR_len _ _
      · exact runsR_len _ _
theorem runsR_grow (R : List (List Wr1)) : ∀ (s : DSt), (runsR s R).2.pend.length ≤ s.pend.length + (R.map List.length).sum ∧ (runsR s R).2.acts.length ≤ s.acts.length + (R.map List.length).sum + R.length := by
  induction R with
  | nil => intro s; rw [runsR]; exact ⟨by simp, by simp⟩
  | cons r R ih =>
    intro s
    have h1 := layR_pend r s
    have h2 := layR_acts r s
    rw [runsR]
    split
    · obtain ⟨a, b⟩ := ih (layR s r).2
      simp only [List.map_cons, List.sum_cons, List.length_cons]
      constructor <;> omega
    · simp only [List.map_cons, List.sum_cons, List.length_cons]
      constructor <;> omega
theorem commit_grow (s : DSt) (nx : Nat) (lost : Bool) (l : List Wr1) : (commitR s nx lost l).s.pend.length ≤ s.pend.length + 40 ∧ (commitR s nx lost l).s.acts.length ≤ s.acts.length + 40 := by
  unfold commitR
  split
  · exact ⟨Nat.le_add_right _ _, Nat.le_add_right _ _⟩
  · rename_i hr
    split
    · exact ⟨Nat.le_add_right _ _, Nat.le_add_right _ _⟩
    · have h16 := (ref0 (Decidable.not_not.1 hr)).1
      have e1 := filled_len l h16
      obtain ⟨a, b⟩ := runsR_grow (runsOf nx l) s
      have e2 : ((runsOf nx l).map List.length).sum = 34 := by simp [runsOf, recL_len, e1]
      have e3 : (runsOf nx l).length = 4 := rfl
      split
      · exact ⟨by show (runsR s (runsOf nx l)).2.pend.length ≤ _; omega, by show (runsR s (runsOf nx l)).2.acts.length ≤ _; omega⟩
      · exact ⟨by show (runsR s (runsOf nx l)).2.pend.length ≤ _; omega, by show (runsR s (runsOf nx l)).2.acts.length ≤ _; omega⟩
end Go.Proofs.YtiokejnlioghiaaGreatDoor

namespace Go.Proofs.YtiokejnlioghiaaGreatDoor
open Go.RowKit
set_option maxRecDepth 100000
/-- no text on the disk is longer than a sector -/
def Sz3 (s : DSt) : Prop := (∀ t ∈ s.now, t.size ≤ 256) ∧ (∀ t ∈ s.last, t.size ≤ 256) ∧ ∀ p ∈ s.pend, p.2.size ≤ 256
theorem layP_mem3 (ps : List (Nat × ByteArray)) : ∀ (l : List ByteArray) (t : ByteArray), t ∈ layP l ps → t ∈ l ∨ ∃ p ∈ ps, t = p.2 := by
  induction ps with
  | nil => intro l t h; exact .inl h
  | cons p r ih =>
    intro l t h
    rcases ih (l.set p.1 p.2) t h with q | ⟨p', q, e⟩
    · rcases List.mem_or_eq_of_mem_set q with q | q
      · exact .inl q
      · exact .inr ⟨p, List.mem_cons_self .., q⟩
    · exact .inr ⟨p', List.mem_cons_of_mem _ q, e⟩
theorem Sz3.dies {s : DSt} (h : Sz3 s) : Sz3 (diesS s) := ⟨by rw [diesS_now]; exact h.1, by rw [diesS_last]; exact h.2.1, by rw [diesS_pend]; exact h.2.2⟩
theorem Sz3.write {s : DSt} (h : Sz3 s) (i : Int) (t : ByteArray) : Sz3 (writeS s i t) := by
  unfold writeS
  split
  · split
    · rename_i ht
      split
      · exact h.dies
      · refine ⟨fun u hu => ?_, fun u hu => ?_, fun p hp => ?_⟩
        · rcases List.mem_or_eq_of_mem_set hu with q | q
          · exact h.1 u q
          · rw [q]; omega
        · have hu' : u ∈ (diesS s).last := hu
          rw [diesS_last] at hu'
          exact h.2.1 u hu'
        · rcases List.mem_append.1 hp with q | q
          · exact h.2.2 p q
          · rw [List.mem_singleton.1 q]
            exact Nat.le_of_eq ht
    · exact h
  · exact h
theorem Sz3.flush {s : DSt} (h : Sz3 s) : Sz3 (flushS s) := by
  unfold flushS
  split
  · exact h.dies
  · refine ⟨fun u hu => ?_, fun u hu => ?_, fun p hp => by cases hp⟩
    · have hu' : u ∈ (diesS s).now := hu
      rw [diesS_now] at hu'
      exact h.1 u hu'
    · rcases layP_mem3 _ _ u hu with q | ⟨p, q, e⟩
      · exact h.2.1 u q
      · rw [e]; exact h.2.2 p q
theorem Sz3.lay (l : List Wr1) : ∀ {s : DSt}, Sz3 s → Sz3 (layR s l).2 := by
  induction l with
  | nil => intro s h; rw [layR]; exact h.flush
  | cons p r ih =>
    intro s h
    rw [layR]
    split
    · exact ih (h.write _ _)
    · exact h.write _ _
theorem Sz3.runs (R : List (List Wr1)) : ∀ {s : DSt}, Sz3 s → Sz3 (runsR s R).2 := by
  induction R with
  | nil => intro s h; rw [runsR]; exact h
  | cons r R ih =>
    intro s h
    rw [runsR]
    split
    · exact ih (Sz3.lay _ h)
    · exact Sz3.lay _ h
theorem Sz3.commit {s : DSt} (h : Sz3 s) (nx : Nat) (lost : Bool) (l : List Wr1) : Sz3 (commitR s nx lost l).s := by
  unfold commitR
  split
  · exact h
  · split
    · exact h
    · split
      · exact Sz3.runs _ h
      · exact Sz3.runs _ h
theorem Sz3.arm {s : DSt} (h : Sz3 s) (n : Int) : Sz3 (armS s n) := by
  unfold armS
  split
  · exact h
  · split
    · exact h
    · exact h
theorem Sz3.crash {s : DSt} (h : Sz3 s) (l : List Int) : Sz3 (crashS s l) := by
  have k : ∀ t ∈ layP s.last (keepP s.pend (keptL s.pend.length l)), t.size ≤ 256 := fun t ht => by
    rcases layP_mem3 _ _ t ht with q | ⟨p, q, e⟩
    · exact h.2.1 t q
    · rw [e]; exact h.2.2 p (keepP_mem _ _ p q)
  unfold crashS
  split
  · exact ⟨k, k, fun p hp => by cases hp⟩
  · exact h
theorem Sz3.redo {s : DSt} (h : Sz3 s) (n : Nat) (H : List Int) : Sz3 (redoR s n H).2 := by
  unfold redoR
  split
  · exact Sz3.lay _ (Sz3.lay _ h)
  · exact Sz3.lay _ h
theorem Sz3.or {s s' : DSt} {n : Nat} {H : List Int} {ok : Bool} {er : Int} {ag has : Bool} (hS : Sz3 s) (h : OR s n H ok s' er ag has) : Sz3 s' := by
  rcases h with ⟨_, _, _, _, q⟩ | ⟨_, _, _, _, _, q⟩ | ⟨_, _, _, _, _, _, q⟩ | ⟨_, _, _, _, _, _, _, q⟩ | ⟨_, _, _, _, _, _, _, q⟩
  · rw [q]; exact hS
  · rw [q]; exact hS
  · rw [q]; exact hS
  · rw [q]; exact hS.redo n H
  · rw [q]; exact hS.redo n H
theorem Sz3.read {s : DSt} (h : Sz3 s) (i : Int) : (readT s i).size ≤ 256 := by
  unfold readT
  split
  · split
    · exact Nat.zero_le _
    · rw [List.getD_eq_getElem?_getD]
      by_cases q : i.toNat < s.now.length
      · rw [List.getElem?_eq_getElem q]; exact h.1 _ (List.getElem_mem _)
      · rw [List.getElem?_eq_none (by omega)]; exact Nat.zero_le _
  · exact Nat.zero_le _
/-- all that is kept of a disk from call to call -/
structure Gd (s : DSt) (n p a : Nat) : Prop where
  sane : Sane s
  coh : Coh s
  sz : Sz3 s
  len : s.last.length = n
  pend : s.pend.length ≤ p
  acts : s.acts.length ≤ a
theorem Gd.arm {s : DSt} {n p a : Nat} (h : Gd s n p a) (k : Int) (hk : k ≤ 9223372036854775807) : Gd (armS s k) n p a := by
  refine ⟨h.sane.arm k hk, h.coh.arm k, h.sz.arm k, ?_, ?_, ?_⟩
  · rw [← h.len]; unfold armS; split; rfl; split; rfl; rfl
  · refine Nat.le_trans (Nat.le_of_eq ?_) h.pend; unfold armS; split; rfl; split; rfl; rfl
  · refine Nat.le_trans (Nat.le_of_eq ?_) h.acts; unfold armS; split; rfl; split; rfl; rfl
theorem Gd.commit {s : DSt} {n p a : Nat} (h : Gd s n p a) (nx : Nat) (lost : Bool) (l : List Wr1) : Gd (commitR s nx lost l).s n (p + 40) (a + 40) := by
  obtain ⟨q1, q2⟩ := commit_grow s nx lost l
  have h1 := h.pend
  have h2 := h.acts
  exact ⟨commit_sane s nx lost l h.sane, commit_coh s nx lost l h.coh, h.sz.commit nx lost l, by rw [commit_len]; exact h.len, by omega, by omega⟩
theorem Gd.crash {s : DSt} {n p a : Nat} (h : Gd s n p a) (l : List Int) : Gd (crashS s l) n p a := by
  refine ⟨h.sane.crash l, h.coh.crash l, h.sz.crash l, ?_, ?_, ?_⟩
  · rw [← h.len]; unfold crashS; split; exact layP_len _ _; rfl
  · unfold crashS; split; exact Nat.zero_le _; exact h.pend
  · unfold crashS; split; exact h.acts; exact h.acts
theorem Gd.write {s : DSt} {n p a : Nat} (h : Gd s n p a) (i : Int) (t : ByteArray) : Gd (writeS s i t) n (p + 1) (a + 1) := by
  have q1 := pend_grow s i t
  have q2 := acts_grow s i t
  have h1 := h.pend
  have h2 := h.acts
  exact ⟨h.sane.write i t, h.coh.write i t, h.sz.write i t, by rw [writeS_lastX]; exact h.len, by omega, by omega⟩
theorem Gd.lay {s : DSt} {n p a : Nat} (h : Gd s n p a) (l : List Wr1) : Gd (layR s l).2 n (p + l.length) (a + l.length + 1) := by
  have q1 := layR_pend l s
  have q2 := layR_acts l s
  have h1 := h.pend
  have h2 := h.acts
  exact ⟨layR_sane l s h.sane, layR_coh l s h.coh, Sz3.lay l h.sz, by rw [layR_len]; exact h.len, by omega, by omega⟩
theorem Gd.more {s : DSt} {n p a p' a' : Nat} (h : Gd s n p a) (hp : p ≤ p') (ha : a ≤ a') : Gd s n p' a' := ⟨h.sane, h.coh, h.sz, h.len, Nat.le_trans h.pend hp, Nat.le_trans h.acts ha⟩
theorem Gd.redo {s : DSt} {n p a : Nat} (h : Gd s n p a) (m : Nat) (H : List Int) (hH : H.length ≤ 16) : Gd (redoR s m H).2 n (p + 20) (a + 20) := by
  unfold redoR
  split
  · exact ((h.lay (redoL s H)).lay [(1, headB m [])]).more (by rw [redoL_len]; simp; omega) (by rw [redoL_len]; simp; omega)
  · exact (h.lay (redoL s H)).more (by rw [redoL_len]; omega) (by rw [redoL_len]; omega)
theorem Gd.or {s s' : DSt} {n p a m : Nat} {H : List Int} {ok : Bool} {er : Int} {ag has : Bool} (hS : Gd s n p a) (h : OR s m H ok s' er ag has) (hH : ok = true → H.length ≤ 16) : Gd s' n (p + 20) (a + 20) := by
  rcases h with ⟨_, _, _, _, q⟩ | ⟨_, _, _, _, _, q⟩ | ⟨_, _, _, _, _, _, q⟩ | ⟨_, k, _, _, _, _, _, q⟩ | ⟨_, k, _, _, _, _, _, q⟩
  · rw [q]; exact hS.more (by omega) (by omega)
  · rw [q]; exact hS.more (by omega) (by omega)
  · rw [q]; exact hS.more (by omega) (by omega)
  · rw [q]; exact hS.redo m H (hH k)
  · rw [q]; exact hS.redo m H (hH k)
theorem OR.er0 {s s' : DSt} {n : Nat} {H : List Int} {ok : Bool} {er : Int} {ag has : Bool} (h : OR s n H ok s' er ag has) : (has = true ∧ er = 0) ∨ (has = false ∧ er ≠ 0) := by
  rcases h with ⟨q, e, _, r, _⟩ | ⟨_, _, e, _, r, _⟩ | ⟨_, _, _, e, _, r, _⟩ | ⟨_, _, _, q, e, _, r, _⟩ | ⟨_, _, _, _, e, _, r, _⟩
  · exact .inr ⟨r, by rw [e]; exact q⟩
  · exact .inr ⟨r, by rw [e]; decide⟩
  · exact .inl ⟨r, e⟩
  · exact .inr ⟨r, by rw [e]; exact q⟩
  · exact .inl ⟨r, e⟩
end Go.Proofs.YtiokejnlioghiaaGreatDoor
