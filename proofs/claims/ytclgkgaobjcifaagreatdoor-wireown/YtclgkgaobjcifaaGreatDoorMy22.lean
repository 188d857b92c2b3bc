import Derived.Test.YtclgkgaobjcifaaGreatDoorMy20
import Derived.BigQuiet
import Derived.Deep.DeepCutAuto
namespace Go.Proofs.YtclgkgaobjcifaaGreatDoor
open Go.RowKit
set_option maxRecDepth 100000
set_option maxHeartbeats 4000000 in
theorem rising_any (w : World) (p : Option Addr) (c n : Nat) (L : List Int) (hn : L.length = n) (hL : Lst w w.heap.size p L) (hz : n ≤ 9000000000000000000) : Calls Tryz.prog 77 #[.slice p n c] w fun e w' => e = .returned (.bool (voB L)) ∧ Below w.heap.size w w' := by
  have HL := hide (And.intro hn hL)
  have HV := hide (show ∀ k, k < n → ¬ ((1 ≤ L.getD k 0 ∧ L.getD k 0 ≤ 99) ∧ (0 < k → L.getD (k - 1) 0 < L.getD k 0)) → voB L = false from fun k hk h => by
    have : areV L = false := decide_eq_false (fun q => h (q k (by omega)))
    rw [voB, this, Bool.and_false])
  clear hn hL
  go_enter Tryz.func77, Tryz.ntmps77
  go_wp2
  go_loopw [3] (fun i wr => ∃ k : Nat, k ≤ n ∧ i = .int .i64 (k : Int) ∧ (∀ j, j < k → (1 ≤ L.getD j 0 ∧ L.getD j 0 ≤ 99) ∧ (0 < j → L.getD (j - 1) 0 < L.getD j 0)) ∧ Below w.heap.size w wr) (fun i _ => n - (intOf i).toNat)
  case atStart => exact ⟨0, by omega, rfl, fun j hj => absurd hj (by omega), Below.refl _ _⟩
  case round =>
    obtain ⟨k, hk, rfl, hall, hb⟩ := hrel
    obtain ⟨wo, rfl⟩ : ∃ wo, wo = wr := ⟨_, rfl⟩
    have XB := hide hb
    have HA := hide hall
    clear hb hall
    by_cases hkn : k < n
    · obtain ⟨g1, o1, rfl, q1, d1⟩ := (unhide HL).2 k (by have := (unhide HL).1; omega)
      have e1 := ((unhide XB).cell (p := ⟨g1, o1 + k, none⟩) q1).trans d1
      obtain ⟨z, hz1⟩ : ∃ z, L.getD k 0 = z := ⟨_, rfl⟩
      rw [hz1] at e1
      have HZ := hide hz1
      have HV1 := hide (unhide HV k hkn)
      rw [hz1] at HV1
      clear q1 d1 hz1
      have j0 : 0 ≤ (k : Int) := by omega
      have j1 : (k : Int) < (n : Int) := by omega
      by_cases a1 : z < 1
      · have i1 : decide (z < 1) = true := decide_eq_true a1
        have HD := hide (unhide HV1 (fun q => by omega))
        clear a1
        go_wp2_with fail
        go_quiet (fail)
        go_wp2
        go_ret
        rw [unhide HD]
        exact ⟨rfl, below_drewN (unhide XB) _⟩
      · have i1 : decide (z < 1) = false := decide_eq_false a1
        by_cases a2 : z > 99
        · have i2 : decide (z > 99) = true := decide_eq_true a2
          have HD := hide (unhide HV1 (fun q => by omega))
          clear a1 a2
          go_wp2_with fail
          go_quiet (fail)
          go_wp2
          go_ret
          rw [unhide HD]
          exact ⟨rfl, below_drewN (unhide XB) _⟩
        · have i2 : decide (z > 99) = false := decide_eq_false a2
          rcases Nat.eq_zero_or_pos k with h0 | h0
          · have i3 : decide (0 < k) = false := decide_eq_false (by omega)
            have HQ := hide (show 1 ≤ z ∧ z ≤ 99 by omega)
            have HK0 := hide h0
            clear a1 a2 h0
            go_wp2_with fail
            go_quiet (fail)
            go_wp2
            go_roundw
            case rel =>
              have h0 := unhide HK0
              refine ⟨k + 1, by omega, by go_num, fun j hj => ?_, below_drewN (unhide XB) _⟩
              obtain rfl : j = k := by omega
              rw [unhide HZ]
              exact ⟨unhide HQ, fun q => absurd q (by omega)⟩
            case measure => simp [intOf]; omega
          · obtain ⟨j, rfl⟩ : ∃ j, k = j + 1 := ⟨k - 1, by omega⟩
            have i3 : decide (((j + 1 : Nat) : Int) > 0) = true := decide_eq_true (by omega)
            obtain ⟨g2, o2, e2', q2, d2⟩ := (unhide HL).2 j (by have := (unhide HL).1; omega)
            cases e2'
            have e2 := ((unhide XB).cell (p := ⟨g1, o1 + j, none⟩) q2).trans d2
            obtain ⟨y, hy1⟩ : ∃ y, L.getD j 0 = y := ⟨_, rfl⟩
            rw [hy1] at e2
            rw [Nat.add_sub_cancel, hy1] at HV1
            have HY := hide hy1
            have w1 : IntKind.i64.wrap (((j + 1 : Nat) : Int) - 1) = (j : Int) := by rw [wrapI_eq _ (by omega) (by omega)]; omega
            have j2 : 0 ≤ (j : Int) := by omega
            have j3 : (j : Int) < (n : Int) := by omega
            clear q2 d2 hy1
            by_cases a3 : z ≤ y
            · have i4 : decide (z ≤ y) = true := decide_eq_true a3
              have HD := hide (unhide HV1 (fun q => by have := q.2 (by omega); omega))
              clear a1 a2 a3
              go_wp2_with fail
              go_quiet (fail)
              go_wp2
              go_ret
              rw [unhide HD]
              exact ⟨rfl, below_drewN (unhide XB) _⟩
            · have i4 : decide (z ≤ y) = false := decide_eq_false a3
              have HQ := hide (show (1 ≤ z ∧ z ≤ 99) ∧ y < z by omega)
              clear a1 a2 a3
              go_wp2_with fail
              go_quiet (fail)
              go_wp2
              go_roundw
              case rel =>
                refine ⟨j + 1 + 1, by omega, by go_num, fun i hi => ?_, below_drewN (unhide XB) _⟩
                by_cases e : i < j + 1
                · exact unhide HA i e
                · obtain rfl : i = j + 1 := by omega
                  rw [Nat.add_sub_cancel, unhide HZ, unhide HY]
                  exact ⟨(unhide HQ).1, fun _ => (unhide HQ).2⟩
              case measure => simp [intOf]; omega
    · have e1 : ¬ (k : Int) < (n : Int) := by omega
      obtain rfl : k = n := by omega
      have HD := hide (show voB L = decide ((k : Int) ≤ 8) from by
        have h1 : areV L = true := decide_eq_true (fun j hj => unhide HA j (by have := (unhide HL).1; omega))
        have h2 := (unhide HL).1
        rw [voB, h1, Bool.and_true, h2]
        exact decide_eq_decide.2 (by omega))
      go_wp2
      go_ret
      rw [unhide HD]
      exact ⟨by simp, unhide XB⟩
/-- has a reply nothing but its status, but for some fields? -/
def blankE (b1 e1 e2 b2 e3 b3 e4 e5 b4 e6 e7 : Bool) : Bool := (b1 || (e1 && e2)) && (b2 || e3) && (b3 || (e4 && e5)) && (b4 || (e6 && e7))
def blankB (r : Rep) (b1 b2 b3 b4 : Bool) : Bool := blankE b1 (r.qu == 0) (r.ch == 0) b2 ((r.vm : Int) == 0) b3 (r.no == 0) ((r.pm : Int) == 0) b4 r.wr.toList.isEmpty r.da.toList.isEmpty
set_option maxHeartbeats 8000000 in
theorem blank_any (r : Rep) (b1 b2 b3 b4 : Bool) (w : World) : Calls Tryz.prog 75 #[.agg r.cl.toArray, .bool b1, .bool b2, .bool b3, .bool b4] w fun e w' => e = .returned (.bool (blankB r b1 b2 b3 b4)) ∧ Below w.heap.size w w' := by
  unfold blankB
  obtain ⟨st, qu, ch, vp, vm, vc, no, pp, pm, pc, wr, da⟩ := r
  simp only [Rep.cl]
  generalize E1 : (qu == 0) = e1
  generalize E2 : (ch == 0) = e2
  generalize E3 : ((vm : Int) == 0) = e3
  generalize E4 : (no == 0) = e4
  generalize E5 : ((pm : Int) == 0) = e5
  generalize E6 : wr.toList.isEmpty = e6
  generalize E7 : da.toList.isEmpty = e7
  cases b1 with
  | true =>
    cases b2 with
    | true =>
      cases b3 with
      | true =>
        cases b4 with
        | true =>
          go_enter Tryz.func75, Tryz.ntmps75
          go_wp2
          go_ret
          exact ⟨rfl, (Below.refl _ _).alloc (Nat.le_refl _) _⟩
        | false =>
          cases e6 with
          | false =>
            go_enter Tryz.func75, Tryz.ntmps75
            go_wp2
            go_ret
            exact ⟨rfl, (Below.refl _ _).alloc (Nat.le_refl _) _⟩
          | true =>
            go_enter Tryz.func75, Tryz.ntmps75
            go_wp2
            go_ret
            exact ⟨rfl, (Below.refl _ _).alloc (Nat.le_refl _) _⟩
      | false =>
        cases e4 with
        | false =>
          go_enter Tryz.func75, Tryz.ntmps75
          go_wp2
          go_ret
          exact ⟨rfl, (Below.refl _ _).alloc (Nat.le_refl _) _⟩
        | true =>
          cases e5 with
          | false =>
            go_enter Tryz.func75, Tryz.ntmps75
            go_wp2
            go_ret
            exact ⟨rfl, (Below.refl _ _).alloc (Nat.le_refl _) _⟩
          | true =>
            cases b4 with
            | true =>
              go_enter Tryz.func75, Tryz.ntmps75
              go_wp2
              go_ret
              exact ⟨rfl, (Below.refl _ _).alloc (Nat.le_refl _) _⟩
            | false =>
              cases e6 with
              | false =>
                go_enter Tryz.func75, Tryz.ntmps75
                go_wp2
                go_ret
                exact ⟨rfl, (Below.refl _ _).alloc (Nat.le_refl _) _⟩
              | true =>
                go_enter Tryz.func75, Tryz.ntmps75
                go_wp2
                go_ret
                exact ⟨rfl, (Below.refl _ _).alloc (Nat.le_refl _) _⟩
    | false =>
      cases e3 with
      | false =>
        go_enter Tryz.func75, Tryz.ntmps75
        go_wp2
        go_ret
        exact ⟨rfl, (Below.refl _ _).alloc (Nat.le_refl _) _⟩
      | true =>
        cases b3 with
        | true =>
          cases b4 with
          | true =>
            go_enter Tryz.func75, Tryz.ntmps75
            go_wp2
            go_ret
            exact ⟨rfl, (Below.refl _ _).alloc (Nat.le_refl _) _⟩
          | false =>
            cases e6 with
            | false =>
              go_enter Tryz.func75, Tryz.ntmps75
              go_wp2
              go_ret
              exact ⟨rfl, (Below.refl _ _).alloc (Nat.le_refl _) _⟩
            | true =>
              go_enter Tryz.func75, Tryz.ntmps75
              go_wp2
              go_ret
              exact ⟨rfl, (Below.refl _ _).alloc (Nat.le_refl _) _⟩
        | false =>
          cases e4 with
          | false =>
            go_enter Tryz.func75, Tryz.ntmps75
            go_wp2
            go_ret
            exact ⟨rfl, (Below.refl _ _).alloc (Nat.le_refl _) _⟩
          | true =>
            cases e5 with
            | false =>
              go_enter Tryz.func75, Tryz.ntmps75
              go_wp2
              go_ret
              exact ⟨rfl, (Below.refl _ _).alloc (Nat.le_refl _) _⟩
            | true =>
              cases b4 with
              | true =>
                go_enter Tryz.func75, Tryz.ntmps75
                go_wp2
                go_ret
                exact ⟨rfl, (Below.refl _ _).alloc (Nat.le_refl _) _⟩
              | false =>
                cases e6 with
                | false =>
                  go_enter Tryz.func75, Tryz.ntmps75
                  go_wp2
                  go_ret
                  exact ⟨rfl, (Below.refl _ _).alloc (Nat.le_refl _) _⟩
                | true =>
                  go_enter Tryz.func75, Tryz.ntmps75
                  go_wp2
                  go_ret
                  exact ⟨rfl, (Below.refl _ _).alloc (Nat.le_refl _) _⟩
  | false =>
    cases e1 with
    | false =>
      go_enter Tryz.func75, Tryz.ntmps75
      go_wp2
      go_ret
      exact ⟨rfl, (Below.refl _ _).alloc (Nat.le_refl _) _⟩
    | true =>
      cases e2 with
      | false =>
        go_enter Tryz.func75, Tryz.ntmps75
        go_wp2
        go_ret
        exact ⟨rfl, (Below.refl _ _).alloc (Nat.le_refl _) _⟩
      | true =>
        cases b2 with
        | true =>
          cases b3 with
          | true =>
            cases b4 with
            | true =>
              go_enter Tryz.func75, Tryz.ntmps75
              go_wp2
              go_ret
              exact ⟨rfl, (Below.refl _ _).alloc (Nat.le_refl _) _⟩
            | false =>
              cases e6 with
              | false =>
                go_enter Tryz.func75, Tryz.ntmps75
                go_wp2
                go_ret
                exact ⟨rfl, (Below.refl _ _).alloc (Nat.le_refl _) _⟩
              | true =>
                go_enter Tryz.func75, Tryz.ntmps75
                go_wp2
                go_ret
                exact ⟨rfl, (Below.refl _ _).alloc (Nat.le_refl _) _⟩
          | false =>
            cases e4 with
            | false =>
              go_enter Tryz.func75, Tryz.ntmps75
              go_wp2
              go_ret
              exact ⟨rfl, (Below.refl _ _).alloc (Nat.le_refl _) _⟩
            | true =>
              cases e5 with
              | false =>
                go_enter Tryz.func75, Tryz.ntmps75
                go_wp2
                go_ret
                exact ⟨rfl, (Below.refl _ _).alloc (Nat.le_refl _) _⟩
              | true =>
                cases b4 with
                | true =>
                  go_enter Tryz.func75, Tryz.ntmps75
                  go_wp2
                  go_ret
                  exact ⟨rfl, (Below.refl _ _).alloc (Nat.le_refl _) _⟩
                | false =>
                  cases e6 with
                  | false =>
                    go_enter Tryz.func75, Tryz.ntmps75
                    go_wp2
                    go_ret
                    exact ⟨rfl, (Below.refl _ _).alloc (Nat.le_refl _) _⟩
                  | true =>
                    go_enter Tryz.func75, Tryz.ntmps75
                    go_wp2
                    go_ret
                    exact ⟨rfl, (Below.refl _ _).alloc (Nat.le_refl _) _⟩
        | false =>
          cases e3 with
          | false =>
            go_enter Tryz.func75, Tryz.ntmps75
            go_wp2
            go_ret
            exact ⟨rfl, (Below.refl _ _).alloc (Nat.le_refl _) _⟩
          | true =>
            cases b3 with
            | true =>
              cases b4 with
              | true =>
                go_enter Tryz.func75, Tryz.ntmps75
                go_wp2
                go_ret
                exact ⟨rfl, (Below.refl _ _).alloc (Nat.le_refl _) _⟩
              | false =>
                cases e6 with
                | false =>
                  go_enter Tryz.func75, Tryz.ntmps75
                  go_wp2
                  go_ret
                  exact ⟨rfl, (Below.refl _ _).alloc (Nat.le_refl _) _⟩
                | true =>
                  go_enter Tryz.func75, Tryz.ntmps75
                  go_wp2
                  go_ret
                  exact ⟨rfl, (Below.refl _ _).alloc (Nat.le_refl _) _⟩
            | false =>
              cases e4 with
              | false =>
                go_enter Tryz.func75, Tryz.ntmps75
                go_wp2
                go_ret
                exact ⟨rfl, (Below.refl _ _).alloc (Nat.le_refl _) _⟩
              | true =>
                cases e5 with
                | false =>
                  go_enter Tryz.func75, Tryz.ntmps75
                  go_wp2
                  go_ret
                  exact ⟨rfl, (Below.refl _ _).alloc (Nat.le_refl _) _⟩
                | true =>
                  cases b4 with
                  | true =>
                    go_enter Tryz.func75, Tryz.ntmps75
                    go_wp2
                    go_ret
                    exact ⟨rfl, (Below.refl _ _).alloc (Nat.le_refl _) _⟩
                  | false =>
                    cases e6 with
                    | false =>
                      go_enter Tryz.func75, Tryz.ntmps75
                      go_wp2
                      go_ret
                      exact ⟨rfl, (Below.refl _ _).alloc (Nat.le_refl _) _⟩
                    | true =>
                      go_enter Tryz.func75, Tryz.ntmps75
                      go_wp2
                      go_ret
                      exact ⟨rfl, (Below.refl _ _).alloc (Nat.le_refl _) _⟩
end Go.Proofs.YtclgkgaobjcifaaGreatDoor

namespace Go.Proofs.YtclgkgaobjcifaaGreatDoor
open Go.RowKit
set_option maxRecDepth 100000
set_option maxHeartbeats 8000000 in
theorem rgood_3 (r : Rep) (V Pl : List Int) (hvm : V.length = r.vm) (hpm : Pl.length = r.pm) (hm9 : r.vm ≤ 9000000000000000000 ∧ r.pm ≤ 9000000000000000000) (h1 : decide (r.st < 0) = false) (h2 : decide (r.st > 13) = false) (hfull : fullP 3 r.st = true) (w : World) (hLV : Lst w w.heap.size r.vp V) (hLP : Lst w w.heap.size r.pp Pl) : Calls Tryz.prog 46 #[.int .i64 3, .agg r.cl.toArray] w fun e w' => e = .returned (.bool (blankB r true true false false && (decide (0 ≤ r.qu ∧ r.qu ≤ 65535) && decide (0 ≤ r.ch ∧ r.ch ≤ 65535)) && voB V)) ∧ Below w.heap.size w w' := by
  obtain ⟨g, hg⟩ : ∃ g, w.heap.size = g := ⟨_, rfl⟩
  obtain ⟨x, hx⟩ : ∃ Z, w.alloc (.cells r.cl.toArray 34) = Z := ⟨_, rfl⟩
  have B : Blk x g r.cl.toArray 34 := by rw [← hx, ← hg]; exact Blk.new w _ _
  have hb : Below g w x := by rw [← hx, ← hg]; exact (Below.refl _ w).alloc (Nat.le_refl _) _
  have HX := hide (And.intro B hb)
  have HW := hide (rwhole_any 3 r.st)
  rw [hfull] at HW
  have HR := hide (fun W (q : Below g w W) => rising_any W r.vp r.vc r.vm V hvm (((hg ▸ hLV).below q).mono (by rw [← hg]; exact q.size)) hm9.1)
  have HP := hide (fun W (q : Below g w W) => askedL_any W r.pp r.pc r.pm Pl hpm (((hg ▸ hLP).below q).mono (by rw [← hg]; exact q.size)) hm9.2)
  have HB := hide (fun W => blank_any r true true false false W)
  have HQ := hide (within_any r.qu 0 65535)
  have HC := hide (within_any r.ch 0 65535)
  have HN := hide (within_any r.no 0 4294967295)
  have HSZ := hide (show (Tryz.prog.info? 34).map (·.size) = some r.cl.length from size_rep)
  have HCE := hide (show ∀ W, Blk W g r.cl.toArray 34 → W.cell? ⟨g, 4, none⟩ = some (.int .i64 r.no) ∧ W.cell? ⟨g, 5, none⟩ = some (.slice r.pp r.pm r.pc) ∧ W.cell? ⟨g, 6, none⟩ = some (.string r.wr) ∧ W.cell? ⟨g, 7, none⟩ = some (.string r.da) from fun W q => ⟨q.cell 4, q.cell 5, q.cell 6, q.cell 7⟩)
  have d0 : x.cell? ⟨g, 0, none⟩ = some (.int .i64 r.st) := by rw [B.cell]; rfl
  have d1 : x.cell? ⟨g, 1, none⟩ = some (.int .i64 r.qu) := by rw [B.cell]; rfl
  have d2 : x.cell? ⟨g, 2, none⟩ = some (.int .i64 r.ch) := by rw [B.cell]; rfl
  have d3 : x.cell? ⟨g, 3, none⟩ = some (.slice r.vp r.vm r.vc) := by rw [B.cell]; rfl
  clear B hb hfull hLV hLP hvm hpm hm9
  rw [hg]
  generalize blankB r true true false false = RB at *
  generalize voB V = RV at *
  generalize plB Pl = RP at *
  generalize decide (0 ≤ r.qu ∧ r.qu ≤ 65535) = Q1 at *
  generalize decide (0 ≤ r.ch ∧ r.ch ≤ 65535) = Q2 at *
  generalize decide (0 ≤ r.no ∧ r.no ≤ 4294967295) = QN at *
  generalize r.cl = rl at *
  generalize r.st = st at *
  generalize r.qu = qu at *
  generalize r.ch = ch at *
  generalize r.no = no at *
  generalize r.vp = vp at *
  generalize r.vm = vm at *
  generalize r.vc = vc at *
  generalize r.pp = pp at *
  generalize r.pm = pm at *
  generalize r.pc = pc at *
  generalize r.wr = wr at *
  generalize r.da = da at *
  obtain ⟨QQ, hQQ⟩ : ∃ Z, (Q1 && Q2) = Z := ⟨_, rfl⟩
  rw [hQQ]
  have HQQ := hide hQQ
  clear hQQ
  go_enter Tryz.func46, Tryz.ntmps46
  go_upto_region 6 with (first | (go_at_call 74; refine (unhide HW _).mono ?_; rintro e y ⟨rfl, hy⟩; subst y))
  go_cut [6] (fun s6 wx => s6 = .bool QQ ∧ wx = x)
  case first =>
    cases Q1 with
    | false =>
      go_wp2_with (first | (go_at_call 76; refine (unhide HQ _).mono ?_; rintro e y ⟨rfl, hy⟩; subst y))
      go_meet
      exact ⟨congrArg Value.bool (unhide HQQ), rfl⟩
    | true =>
      go_wp2_with fail
      refine (unhide HQ _).mono ?_
      rintro e y ⟨rfl, hy⟩
      subst y
      go_wp2_with fail
      refine (unhide HC _).mono ?_
      rintro e y ⟨rfl, hy⟩
      subst y
      go_wp2_with fail
      go_meet
      exact ⟨congrArg Value.bool (unhide HQQ), rfl⟩
  case rest =>
  obtain ⟨rfl, rfl⟩ := hcut
  clear HQQ
  clear d0 d1 d2
  go_wp2_with fail
  refine (unhide HR _ (unhide HX).2).mono ?_
  rintro e y1 ⟨rfl, hy1⟩
  have H1 := hide (show Blk y1 g rl.toArray 34 ∧ Below g w y1 from ⟨(unhide HX).1.below hy1 (unhide HX).1.lt, (unhide HX).2.trans (hy1.mono (Nat.le_of_lt (unhide HX).1.lt))⟩)
  have d5 := (unhide HCE y1 (unhide H1).1).2.1
  clear hy1 d3 HX
  go_wp2_with fail
  refine (unhide HP _ (unhide H1).2).mono ?_
  rintro e y2 ⟨rfl, hy2⟩
  have H2 := hide (show Blk y2 g rl.toArray 34 ∧ Below g w y2 from ⟨(unhide H1).1.below hy2 (unhide H1).1.lt, (unhide H1).2.trans (hy2.mono (Nat.le_of_lt (unhide H1).1.lt))⟩)
  have HRG := hide (show y2.rangeAt g 0 rl from blk_range (unhide H2).1)
  clear hy2 d5 H1
  go_wp2_with (refine wpList_load_mid rfl 34 (.tmp 3) rfl g 0 rfl rl _ (unhide HRG) Tryz.underlying34 rfl (unhide HSZ) ?_)
  refine (unhide HB _).mono ?_
  rintro e y3 ⟨rfl, hy3⟩
  have H3 := hide (show Blk y3 g rl.toArray 34 ∧ Below g w y3 from ⟨(unhide H2).1.below hy3 (unhide H2).1.lt, (unhide H2).2.trans (hy3.mono (Nat.le_of_lt (unhide H2).1.lt))⟩)
  have d4 := (unhide HCE y3 (unhide H3).1).1
  have d6 := (unhide HCE y3 (unhide H3).1).2.2.1
  have d7 := (unhide HCE y3 (unhide H3).1).2.2.2
  clear hy3 HRG H2
  cases RB <;> cases QQ
  all_goals (
    go_wp2_with (first | (go_at_call 76; refine (unhide HN _).mono ?_; rintro e y ⟨rfl, hy⟩; subst y))
    go_ret
    exact ⟨rfl, (unhide H3).2⟩)
set_option maxHeartbeats 8000000 in
theorem rgood_6 (r : Rep) (V Pl : List Int) (hvm : V.length = r.vm) (hpm : Pl.length = r.pm) (hm9 : r.vm ≤ 9000000000000000000 ∧ r.pm ≤ 9000000000000000000) (h1 : decide (r.st < 0) = false) (h2 : decide (r.st > 13) = false) (hfull : fullP 6 r.st = true) (w : World) (hLV : Lst w w.heap.size r.vp V) (hLP : Lst w w.heap.size r.pp Pl) : Calls Tryz.prog 46 #[.int .i64 6, .agg r.cl.toArray] w fun e w' => e = .returned (.bool (blankB r false true false false && voB V)) ∧ Below w.heap.size w w' := by
  obtain ⟨g, hg⟩ : ∃ g, w.heap.size = g := ⟨_, rfl⟩
  obtain ⟨x, hx⟩ : ∃ Z, w.alloc (.cells r.cl.toArray 34) = Z := ⟨_, rfl⟩
  have B : Blk x g r.cl.toArray 34 := by rw [← hx, ← hg]; exact Blk.new w _ _
  have hb : Below g w x := by rw [← hx, ← hg]; exact (Below.refl _ w).alloc (Nat.le_refl _) _
  have HX := hide (And.intro B hb)
  have HW := hide (rwhole_any 6 r.st)
  rw [hfull] at HW
  have HR := hide (fun W (q : Below g w W) => rising_any W r.vp r.vc r.vm V hvm (((hg ▸ hLV).below q).mono (by rw [← hg]; exact q.size)) hm9.1)
  have HP := hide (fun W (q : Below g w W) => askedL_any W r.pp r.pc r.pm Pl hpm (((hg ▸ hLP).below q).mono (by rw [← hg]; exact q.size)) hm9.2)
  have HB := hide (fun W => blank_any r false true false false W)
  have HQ := hide (within_any r.qu 0 65535)
  have HC := hide (within_any r.ch 0 65535)
  have HN := hide (within_any r.no 0 4294967295)
  have HSZ := hide (show (Tryz.prog.info? 34).map (·.size) = some r.cl.length from size_rep)
  have HCE := hide (show ∀ W, Blk W g r.cl.toArray 34 → W.cell? ⟨g, 4, none⟩ = some (.int .i64 r.no) ∧ W.cell? ⟨g, 5, none⟩ = some (.slice r.pp r.pm r.pc) ∧ W.cell? ⟨g, 6, none⟩ = some (.string r.wr) ∧ W.cell? ⟨g, 7, none⟩ = some (.string r.da) from fun W q => ⟨q.cell 4, q.cell 5, q.cell 6, q.cell 7⟩)
  have d0 : x.cell? ⟨g, 0, none⟩ = some (.int .i64 r.st) := by rw [B.cell]; rfl
  have d1 : x.cell? ⟨g, 1, none⟩ = some (.int .i64 r.qu) := by rw [B.cell]; rfl
  have d2 : x.cell? ⟨g, 2, none⟩ = some (.int .i64 r.ch) := by rw [B.cell]; rfl
  have d3 : x.cell? ⟨g, 3, none⟩ = some (.slice r.vp r.vm r.vc) := by rw [B.cell]; rfl
  clear B hb hfull hLV hLP hvm hpm hm9
  rw [hg]
  generalize blankB r false true false false = RB at *
  generalize voB V = RV at *
  generalize plB Pl = RP at *
  generalize decide (0 ≤ r.qu ∧ r.qu ≤ 65535) = Q1 at *
  generalize decide (0 ≤ r.ch ∧ r.ch ≤ 65535) = Q2 at *
  generalize decide (0 ≤ r.no ∧ r.no ≤ 4294967295) = QN at *
  generalize r.cl = rl at *
  generalize r.st = st at *
  generalize r.qu = qu at *
  generalize r.ch = ch at *
  generalize r.no = no at *
  generalize r.vp = vp at *
  generalize r.vm = vm at *
  generalize r.vc = vc at *
  generalize r.pp = pp at *
  generalize r.pm = pm at *
  generalize r.pc = pc at *
  generalize r.wr = wr at *
  generalize r.da = da at *
  obtain ⟨QQ, hQQ⟩ : ∃ Z, (Q1 && Q2) = Z := ⟨_, rfl⟩
  skip
  have HQQ := hide hQQ
  clear hQQ
  go_enter Tryz.func46, Tryz.ntmps46
  go_upto_region 6 with (first | (go_at_call 74; refine (unhide HW _).mono ?_; rintro e y ⟨rfl, hy⟩; subst y))
  go_cut [6] (fun s6 wx => s6 = .bool QQ ∧ wx = x)
  case first =>
    cases Q1 with
    | false =>
      go_wp2_with (first | (go_at_call 76; refine (unhide HQ _).mono ?_; rintro e y ⟨rfl, hy⟩; subst y))
      go_meet
      exact ⟨congrArg Value.bool (unhide HQQ), rfl⟩
    | true =>
      go_wp2_with fail
      refine (unhide HQ _).mono ?_
      rintro e y ⟨rfl, hy⟩
      subst y
      go_wp2_with fail
      refine (unhide HC _).mono ?_
      rintro e y ⟨rfl, hy⟩
      subst y
      go_wp2_with fail
      go_meet
      exact ⟨congrArg Value.bool (unhide HQQ), rfl⟩
  case rest =>
  obtain ⟨rfl, rfl⟩ := hcut
  clear HQQ
  clear d0 d1 d2
  go_wp2_with fail
  refine (unhide HR _ (unhide HX).2).mono ?_
  rintro e y1 ⟨rfl, hy1⟩
  have H1 := hide (show Blk y1 g rl.toArray 34 ∧ Below g w y1 from ⟨(unhide HX).1.below hy1 (unhide HX).1.lt, (unhide HX).2.trans (hy1.mono (Nat.le_of_lt (unhide HX).1.lt))⟩)
  have d5 := (unhide HCE y1 (unhide H1).1).2.1
  clear hy1 d3 HX
  go_wp2_with fail
  refine (unhide HP _ (unhide H1).2).mono ?_
  rintro e y2 ⟨rfl, hy2⟩
  have H2 := hide (show Blk y2 g rl.toArray 34 ∧ Below g w y2 from ⟨(unhide H1).1.below hy2 (unhide H1).1.lt, (unhide H1).2.trans (hy2.mono (Nat.le_of_lt (unhide H1).1.lt))⟩)
  have HRG := hide (show y2.rangeAt g 0 rl from blk_range (unhide H2).1)
  clear hy2 d5 H1
  go_wp2_with (refine wpList_load_mid rfl 34 (.tmp 3) rfl g 0 rfl rl _ (unhide HRG) Tryz.underlying34 rfl (unhide HSZ) ?_)
  refine (unhide HB _).mono ?_
  rintro e y3 ⟨rfl, hy3⟩
  have H3 := hide (show Blk y3 g rl.toArray 34 ∧ Below g w y3 from ⟨(unhide H2).1.below hy3 (unhide H2).1.lt, (unhide H2).2.trans (hy3.mono (Nat.le_of_lt (unhide H2).1.lt))⟩)
  have d4 := (unhide HCE y3 (unhide H3).1).1
  have d6 := (unhide HCE y3 (unhide H3).1).2.2.1
  have d7 := (unhide HCE y3 (unhide H3).1).2.2.2
  clear hy3 HRG H2
  cases RB
  all_goals (
    go_wp2_with (first | (go_at_call 76; refine (unhide HN _).mono ?_; rintro e y ⟨rfl, hy⟩; subst y))
    go_ret
    exact ⟨rfl, (unhide H3).2⟩)
set_option maxHeartbeats 8000000 in
theorem rgood_o (kd : Int) (k3 : (kd == 3) = false) (k6 : (kd == 6) = false) (k7 : (kd == 7) = false) (k8 : (kd == 8) = false) (k11 : (kd == 11) = false) (r : Rep) (V Pl : List Int) (hvm : V.length = r.vm) (hpm : Pl.length = r.pm) (hm9 : r.vm ≤ 9000000000000000000 ∧ r.pm ≤ 9000000000000000000) (h1 : decide (r.st < 0) = false) (h2 : decide (r.st > 13) = false) (hfull : fullP kd r.st = true) (w : World) (hLV : Lst w w.heap.size r.vp V) (hLP : Lst w w.heap.size r.pp Pl) : Calls Tryz.prog 46 #[.int .i64 kd, .agg r.cl.toArray] w fun e w' => e = .returned (.bool (blankB r false false false false)) ∧ Below w.heap.size w w' := by
  obtain ⟨g, hg⟩ : ∃ g, w.heap.size = g := ⟨_, rfl⟩
  obtain ⟨x, hx⟩ : ∃ Z, w.alloc (.cells r.cl.toArray 34) = Z := ⟨_, rfl⟩
  have B : Blk x g r.cl.toArray 34 := by rw [← hx, ← hg]; exact Blk.new w _ _
  have hb : Below g w x := by rw [← hx, ← hg]; exact (Below.refl _ w).alloc (Nat.le_refl _) _
  have HX := hide (And.intro B hb)
  have HW := hide (rwhole_any kd r.st)
  rw [hfull] at HW
  have HR := hide (fun W (q : Below g w W) => rising_any W r.vp r.vc r.vm V hvm (((hg ▸ hLV).below q).mono (by rw [← hg]; exact q.size)) hm9.1)
  have HP := hide (fun W (q : Below g w W) => askedL_any W r.pp r.pc r.pm Pl hpm (((hg ▸ hLP).below q).mono (by rw [← hg]; exact q.size)) hm9.2)
  have HB := hide (fun W => blank_any r false false false false W)
  have HQ := hide (within_any r.qu 0 65535)
  have HC := hide (within_any r.ch 0 65535)
  have HN := hide (within_any r.no 0 4294967295)
  have HSZ := hide (show (Tryz.prog.info? 34).map (·.size) = some r.cl.length from size_rep)
  have HCE := hide (show ∀ W, Blk W g r.cl.toArray 34 → W.cell? ⟨g, 4, none⟩ = some (.int .i64 r.no) ∧ W.cell? ⟨g, 5, none⟩ = some (.slice r.pp r.pm r.pc) ∧ W.cell? ⟨g, 6, none⟩ = some (.string r.wr) ∧ W.cell? ⟨g, 7, none⟩ = some (.string r.da) from fun W q => ⟨q.cell 4, q.cell 5, q.cell 6, q.cell 7⟩)
  have d0 : x.cell? ⟨g, 0, none⟩ = some (.int .i64 r.st) := by rw [B.cell]; rfl
  have d1 : x.cell? ⟨g, 1, none⟩ = some (.int .i64 r.qu) := by rw [B.cell]; rfl
  have d2 : x.cell? ⟨g, 2, none⟩ = some (.int .i64 r.ch) := by rw [B.cell]; rfl
  have d3 : x.cell? ⟨g, 3, none⟩ = some (.slice r.vp r.vm r.vc) := by rw [B.cell]; rfl
  clear B hb hfull hLV hLP hvm hpm hm9
  rw [hg]
  generalize blankB r false false false false = RB at *
  generalize voB V = RV at *
  generalize plB Pl = RP at *
  generalize decide (0 ≤ r.qu ∧ r.qu ≤ 65535) = Q1 at *
  generalize decide (0 ≤ r.ch ∧ r.ch ≤ 65535) = Q2 at *
  generalize decide (0 ≤ r.no ∧ r.no ≤ 4294967295) = QN at *
  generalize r.cl = rl at *
  generalize r.st = st at *
  generalize r.qu = qu at *
  generalize r.ch = ch at *
  generalize r.no = no at *
  generalize r.vp = vp at *
  generalize r.vm = vm at *
  generalize r.vc = vc at *
  generalize r.pp = pp at *
  generalize r.pm = pm at *
  generalize r.pc = pc at *
  generalize r.wr = wr at *
  generalize r.da = da at *
  obtain ⟨QQ, hQQ⟩ : ∃ Z, (Q1 && Q2) = Z := ⟨_, rfl⟩
  skip
  have HQQ := hide hQQ
  clear hQQ
  go_enter Tryz.func46, Tryz.ntmps46
  go_upto_region 6 with (first | (go_at_call 74; refine (unhide HW _).mono ?_; rintro e y ⟨rfl, hy⟩; subst y))
  go_cut [6] (fun s6 wx => s6 = .bool QQ ∧ wx = x)
  case first =>
    cases Q1 with
    | false =>
      go_wp2_with (first | (go_at_call 76; refine (unhide HQ _).mono ?_; rintro e y ⟨rfl, hy⟩; subst y))
      go_meet
      exact ⟨congrArg Value.bool (unhide HQQ), rfl⟩
    | true =>
      go_wp2_with fail
      refine (unhide HQ _).mono ?_
      rintro e y ⟨rfl, hy⟩
      subst y
      go_wp2_with fail
      refine (unhide HC _).mono ?_
      rintro e y ⟨rfl, hy⟩
      subst y
      go_wp2_with fail
      go_meet
      exact ⟨congrArg Value.bool (unhide HQQ), rfl⟩
  case rest =>
  obtain ⟨rfl, rfl⟩ := hcut
  clear HQQ
  clear d0 d1 d2
  go_wp2_with fail
  refine (unhide HR _ (unhide HX).2).mono ?_
  rintro e y1 ⟨rfl, hy1⟩
  have H1 := hide (show Blk y1 g rl.toArray 34 ∧ Below g w y1 from ⟨(unhide HX).1.below hy1 (unhide HX).1.lt, (unhide HX).2.trans (hy1.mono (Nat.le_of_lt (unhide HX).1.lt))⟩)
  have d5 := (unhide HCE y1 (unhide H1).1).2.1
  clear hy1 d3 HX
  go_wp2_with fail
  refine (unhide HP _ (unhide H1).2).mono ?_
  rintro e y2 ⟨rfl, hy2⟩
  have H2 := hide (show Blk y2 g rl.toArray 34 ∧ Below g w y2 from ⟨(unhide H1).1.below hy2 (unhide H1).1.lt, (unhide H1).2.trans (hy2.mono (Nat.le_of_lt (unhide H1).1.lt))⟩)
  have HRG := hide (show y2.rangeAt g 0 rl from blk_range (unhide H2).1)
  clear hy2 d5 H1
  go_wp2_with (refine wpList_load_mid rfl 34 (.tmp 3) rfl g 0 rfl rl _ (unhide HRG) Tryz.underlying34 rfl (unhide HSZ) ?_)
  refine (unhide HB _).mono ?_
  rintro e y3 ⟨rfl, hy3⟩
  have H3 := hide (show Blk y3 g rl.toArray 34 ∧ Below g w y3 from ⟨(unhide H2).1.below hy3 (unhide H2).1.lt, (unhide H2).2.trans (hy3.mono (Nat.le_of_lt (unhide H2).1.lt))⟩)
  have d4 := (unhide HCE y3 (unhide H3).1).1
  have d6 := (unhide HCE y3 (unhide H3).1).2.2.1
  have d7 := (unhide HCE y3 (unhide H3).1).2.2.2
  clear hy3 HRG H2
  skip
  all_goals (
    go_wp2_with (first | (go_at_call 76; refine (unhide HN _).mono ?_; rintro e y ⟨rfl, hy⟩; subst y))
    go_ret
    exact ⟨rfl, (unhide H3).2⟩)
end Go.Proofs.YtclgkgaobjcifaaGreatDoor
