import Derived.Test.YtiokejnlioghiaaGreatDoorMv25
import Derived.Test.YtiokejnlioghiaaGreatDoorMv20
import Derived.Shelf.Spec.SlicesInsertGrow
import Derived.Shelf.SlicesE.DeleteFunc
import Derived.Shelf.SlIterI.Sorted
import Derived.Shelf.SlIterI.Keys
import Derived.Test.YtiokejnlioghiaaGreatDoorProg
import Derived.Test.YtiokejnlioghiaaGreatDoorMv22
import Derived.Test.YtiokejnlioghiaaGreatDoorMv05
import Derived.Test.YtiokejnlioghiaaGreatDoorCards
import Derived.Test.YtiokejnlioghiaaGreatDoorTie
import Derived.ProofKit
import Derived.OpenShut
import Derived.ShutString
import Derived.SizedLaws
import Derived.Deep.DeepHandedRow
import Derived.LaidLaws
import Derived.LaidHandle
import Derived.Lib.LaidTab
import Derived.Deep.Slices
import Derived.Deep.Strs
import Derived.Lib.SmallJoins
namespace Go.Proofs.YtiokejnlioghiaaGreatDoor
open Go.RowKit
set_option maxRecDepth 100000
set_option maxHeartbeats 2000000 in
theorem rpopen_bad (w : World) (p : Option Addr) (k : Int) (hk : ¬ (0 ≤ k ∧ k ≤ 64)) : Calls Tryz.prog 62 #[.pointer p, .int .i64 k] w fun e w' => e = .returned (.tuple #[.pointer none, .int .i64 1]) ∧ w' = w := by
  by_cases h0 : k < 0
  · have hd : decide (k < 0) = true := by simpa using h0
    clear hk
    go_enter Tryz.func62, Tryz.ntmps62
    go_wp2
    go_ret2
    exact ⟨rfl, rfl⟩
  · have hd : decide (k < 0) = false := by simpa using h0
    have h1 : 64 < k := by omega
    have hd1 : decide (64 < k) = true := by simpa using h1
    clear hk
    go_enter Tryz.func62, Tryz.ntmps62
    go_wp2
    go_ret2
    exact ⟨rfl, rfl⟩
def RpO (br keep : Nat) (er : Int) (Q : Option Addr → World → Prop) (e : Ending) (w' : World) : Prop := ∃ jp w1, Q jp w1 ∧ ((er ≠ 0 ∧ e = .returned (.tuple #[.pointer none, .int .i64 er]) ∧ w' = w1) ∨ (er = 0 ∧ e = .returned (.tuple #[.pointer (some ⟨w1.heap.size, 0, none⟩), .int .i64 0]) ∧ w' = w1.alloc (.cells #[.pointer (some ⟨br, 0, none⟩), .pointer jp, .int .i64 (keep : Int), .slice none 0 0, .slice none 0 0, .bool false, .bool false, .int .i64 0, .int .i64 0] 166)))
set_option maxHeartbeats 2000000 in
/-- the document's Open, whatever its journal says -/
theorem rpopen_any (w : World) (br keep : Nat) (hk : keep ≤ 64) (er : Int) (Q : Option Addr → World → Prop) (hJ : Calls Tryz.prog 11 #[.pointer (some ⟨br, 0, none⟩)] w fun e w' => ∃ jp ag, e = .returned (.tuple #[.pointer jp, .bool ag, .int .i64 er]) ∧ Q jp w') :
    Calls Tryz.prog 62 #[.pointer (some ⟨br, 0, none⟩), .int .i64 (keep : Int)] w (RpO br keep er Q) := by
  have hd : decide ((keep : Int) < 0) = false := decide_eq_false (by omega)
  have hd1 : decide (64 < (keep : Int)) = false := decide_eq_false (by omega)
  have h1 : ¬ (keep : Int) < 0 := by omega
  have h2 : ¬ 64 < (keep : Int) := by omega
  have HJ := hide hJ
  clear hJ hk
  by_cases he : er = 0
  · subst he
    go_enter Tryz.func62, Tryz.ntmps62
    go_wp2_with fail
    refine (unhide HJ).mono ?_
    rintro e x1 ⟨jp, ag, rfl, hQ⟩
    have HQ := hide hQ
    clear hQ HJ
    go_wp2
    go_ret2
    exact ⟨jp, x1, unhide HQ, .inr ⟨rfl, rfl, rfl⟩⟩
  · have he' : (er == 0) = false := by simpa using he
    go_enter Tryz.func62, Tryz.ntmps62
    go_wp2_with fail
    refine (unhide HJ).mono ?_
    rintro e x1 ⟨jp, ag, rfl, hQ⟩
    have HQ := hide hQ
    have HE := hide he
    clear hQ HJ he
    go_wp2
    go_ret2
    exact ⟨jp, x1, unhide HQ, .inl ⟨unhide HE, rfl, rfl⟩⟩
theorem rpsizeK {w : World} {base br qb keep : Nat} {jp : Option Addr} {v : RV} {s : DSt} (h : Rk w base br v s) (hq : Blk w qb #[.pointer (some ⟨br, 0, none⟩), .pointer jp, .int .i64 (keep : Int), .slice none 0 0, .slice none 0 0, .bool false, .bool false, .int .i64 0, .int .i64 0] 166) :
    Calls Tryz.prog 80 #[.pointer (some ⟨qb, 0, none⟩)] w fun e w' => e = .returned (.int .i64 (s.last.length : Int)) ∧ w' = w := by
  obtain ⟨p, cp, hv, -⟩ := row_form h.rl
  have c0 : w.cell? ⟨qb, 0, none⟩ = some (.pointer (some ⟨br, 0, none⟩)) := hq.cell 0
  have c1 : w.cell? ⟨br, 0, none⟩ = some (.slice p s.last.length cp) := by
    have := h.blk.cell 0
    rw [hv] at this
    exact this
  clear h hq hv
  go_enter Tryz.func80, Tryz.ntmps80
  go_wp2
  go_ret
  exact ⟨rfl, rfl⟩
theorem rat_nilK (i : Int) (w : World) : Calls Tryz.prog 119 #[.slice none 0 0, .int .i64 i] w fun e w' => e = .returned (.int .i64 (-1)) ∧ w' = w := by
  go_enter Tryz.func119, Tryz.ntmps119
  go_wp2
  go_loopw [5] (fun k wr => k = .int .i64 0 ∧ wr = w) (fun _ _ => 0)
  case atStart => exact ⟨rfl, rfl⟩
  case round =>
    obtain ⟨rfl, rfl⟩ := hrel
    go_wp2
    go_ret
    exact ⟨rfl, rfl⟩
set_option maxHeartbeats 2000000 in
theorem rlayZ {w : World} {br qb : Nat} {jp : Option Addr} {m : Int} (hq : Blk w qb #[.pointer (some ⟨br, 0, none⟩), .pointer jp, .int .i64 0, .slice none 0 0, .slice none 0 0, .bool false, .bool false, .int .i64 0, .int .i64 m] 166) (i : Int) (s : ByteArray) :
    Calls Tryz.prog 120 #[.pointer (some ⟨qb, 0, none⟩), .agg #[.int .i64 i, .string s]] w fun e w' => e = .returned (.tuple #[]) ∧ Only (fun x => x = qb) w w' := by
  obtain ⟨g1, hg1⟩ : ∃ z, w.heap.size = z := ⟨_, rfl⟩
  obtain ⟨x1, hx1⟩ : ∃ z, w.alloc (.cells #[.int .i64 i, .string s] 36) = z := ⟨_, rfl⟩
  have B1 : Blk x1 g1 #[.int .i64 i, .string s] 36 := by rw [← hx1, ← hg1]; exact Blk.new w _ _
  have a0 : x1.cell? ⟨g1, 0, none⟩ = some (.int .i64 i) := B1.cell 0
  have a1 : x1.cell? ⟨g1, 1, none⟩ = some (.string s) := B1.cell 1
  have q1 : Blk x1 qb #[.pointer (some ⟨br, 0, none⟩), .pointer jp, .int .i64 0, .slice none 0 0, .slice none 0 0, .bool false, .bool false, .int .i64 0, .int .i64 m] 166 := by rw [← hx1]; exact hq.alloc _
  obtain ⟨g2, hg2⟩ : ∃ z, x1.heap.size = z := ⟨_, rfl⟩
  obtain ⟨x2, hx2⟩ : ∃ z, x1.alloc (.cells #[.int .i64 i, .string s] 36) = z := ⟨_, rfl⟩
  have q2 : Blk x2 qb #[.pointer (some ⟨br, 0, none⟩), .pointer jp, .int .i64 0, .slice none 0 0, .slice none 0 0, .bool false, .bool false, .int .i64 0, .int .i64 m] 166 := by rw [← hx2]; exact q1.alloc _
  have c2 : x2.cell? ⟨qb, 2, none⟩ = some (.int .i64 0) := q2.cell 2
  have c3 : x2.cell? ⟨qb, 3, none⟩ = some (.slice none 0 0) := q2.cell 3
  have f3 : x2.frozen? ⟨qb, 3, none⟩ = false := q2.frozen 3
  have hO : Only (fun x => x = qb) w x2 := by rw [← hx2, ← hx1]; exact ((Only.refl _ w).alloc _).alloc _
  have HO := hide (fun u => hO.setCell ⟨qb, 3, none⟩ u (fun _ => rfl))
  clear hq B1 q1 q2 hO
  go_enter Tryz.func120, Tryz.ntmps120
  go_wp2
  (try rw [hx1])
  (try rw [hx2])
  clear hx1 hx2 hg1 hg2 a0 a1
  go_loopw [4, 5] (fun l k wr => k = .int .i64 0 ∧ l = .slice (some ⟨g2, 0, none⟩) 1 1 ∧ wr = x2) (fun _ _ _ => 0)
  case atStart => exact ⟨rfl, rfl, rfl⟩
  case round =>
    obtain ⟨rfl, rfl, rfl⟩ := hrel
    go_wp2
    go_end0
    exact ⟨rfl, unhide HO _⟩
set_option maxHeartbeats 2000000 in
theorem rlayK {w : World} {br qb : Nat} {jp : Option Addr} {m : Int} {keep : Nat} (hk : 1 ≤ keep) (hq : Blk w qb #[.pointer (some ⟨br, 0, none⟩), .pointer jp, .int .i64 (keep : Int), .slice none 0 0, .slice none 0 0, .bool false, .bool false, .int .i64 0, .int .i64 m] 166) (i : Int) (s : ByteArray) :
    Calls Tryz.prog 120 #[.pointer (some ⟨qb, 0, none⟩), .agg #[.int .i64 i, .string s]] w fun e w' => e = .returned (.tuple #[]) ∧ Only (fun x => x = qb) w w' := by
  have hgt : ¬ ((keep : Int) < 1) := by omega
  have hgd : decide ((keep : Int) < 1) = false := decide_eq_false hgt
  clear hk
  obtain ⟨g1, hg1⟩ : ∃ z, w.heap.size = z := ⟨_, rfl⟩
  obtain ⟨x1, hx1⟩ : ∃ z, w.alloc (.cells #[.int .i64 i, .string s] 36) = z := ⟨_, rfl⟩
  have B1 : Blk x1 g1 #[.int .i64 i, .string s] 36 := by rw [← hx1, ← hg1]; exact Blk.new w _ _
  have a0 : x1.cell? ⟨g1, 0, none⟩ = some (.int .i64 i) := B1.cell 0
  have a1 : x1.cell? ⟨g1, 1, none⟩ = some (.string s) := B1.cell 1
  have q1 : Blk x1 qb #[.pointer (some ⟨br, 0, none⟩), .pointer jp, .int .i64 (keep : Int), .slice none 0 0, .slice none 0 0, .bool false, .bool false, .int .i64 0, .int .i64 m] 166 := by rw [← hx1]; exact hq.alloc _
  obtain ⟨g2, hg2⟩ : ∃ z, x1.heap.size = z := ⟨_, rfl⟩
  obtain ⟨x2, hx2⟩ : ∃ z, x1.alloc (.cells #[.int .i64 i, .string s] 36) = z := ⟨_, rfl⟩
  have q2 : Blk x2 qb #[.pointer (some ⟨br, 0, none⟩), .pointer jp, .int .i64 (keep : Int), .slice none 0 0, .slice none 0 0, .bool false, .bool false, .int .i64 0, .int .i64 m] 166 := by rw [← hx2]; exact q1.alloc _
  have c2 : x2.cell? ⟨qb, 2, none⟩ = some (.int .i64 (keep : Int)) := q2.cell 2
  have c3 : x2.cell? ⟨qb, 3, none⟩ = some (.slice none 0 0) := q2.cell 3
  have f3 : x2.frozen? ⟨qb, 3, none⟩ = false := q2.frozen 3
  have hO : Only (fun x => x = qb) w x2 := by rw [← hx2, ← hx1]; exact ((Only.refl _ w).alloc _).alloc _
  have HO := hide (fun u => hO.setCell ⟨qb, 3, none⟩ u (fun _ => rfl))
  clear hq B1 q1 q2 hO
  go_enter Tryz.func120, Tryz.ntmps120
  go_wp2
  (try rw [hx1])
  (try rw [hx2])
  clear hx1 hx2 hg1 hg2 a0 a1
  go_loopw [4, 5] (fun l k wr => k = .int .i64 0 ∧ l = .slice (some ⟨g2, 0, none⟩) 1 1 ∧ wr = x2) (fun _ _ _ => 0)
  case atStart => exact ⟨rfl, rfl, rfl⟩
  case round =>
    obtain ⟨rfl, rfl, rfl⟩ := hrel
    go_wp2
    go_end0
    exact ⟨rfl, unhide HO _⟩
theorem rlayA {w : World} {br qb keep : Nat} {jp : Option Addr} {m : Int} (hq : Blk w qb #[.pointer (some ⟨br, 0, none⟩), .pointer jp, .int .i64 (keep : Int), .slice none 0 0, .slice none 0 0, .bool false, .bool false, .int .i64 0, .int .i64 m] 166) (i : Int) (s : ByteArray) :
    Calls Tryz.prog 120 #[.pointer (some ⟨qb, 0, none⟩), .agg #[.int .i64 i, .string s]] w fun e w' => e = .returned (.tuple #[]) ∧ Only (fun x => x = qb) w w' := by
  by_cases h : 1 ≤ keep
  · exact rlayK h hq i s
  · obtain rfl : keep = 0 := by omega
    exact rlayZ hq i s
set_option maxHeartbeats 4000000 in
theorem rpread_ok {w : World} {base br qb keep : Nat} {jp : Option Addr} {v : RV} {s : DSt} (h : Rk w base br v s) (hC : Coh s) (hp : s.pend.length ≤ 1000000) (hq : Blk w qb #[.pointer (some ⟨br, 0, none⟩), .pointer jp, .int .i64 (keep : Int), .slice none 0 0, .slice none 0 0, .bool false, .bool false, .int .i64 0, .int .i64 0] 166) (i : Nat) (hi : i < s.last.length) (hE : readE s (i : Int) = 0) :
    Calls Tryz.prog 66 #[.pointer (some ⟨qb, 0, none⟩), .int .i64 (i : Int)] w fun e w' => e = .returned (.tuple #[.string (readT s (i : Int)), .int .i64 0]) ∧ Only (fun x => x = qb) w w' := by
  have HSZ := hide (rpsizeK h hq)
  have HD := hide (rrd_any w base br v s h hC (by omega) (i : Int))
  have HAT := hide (fun W => rat_nilK (i : Int) W)
  have HQ := hide hq
  have c6 : w.cell? ⟨qb, 6, none⟩ = some (.bool false) := hq.cell 6
  have c4 : w.cell? ⟨qb, 4, none⟩ = some (.slice none 0 0) := hq.cell 4
  have c3 : w.cell? ⟨qb, 3, none⟩ = some (.slice none 0 0) := hq.cell 3
  have c0 : w.cell? ⟨qb, 0, none⟩ = some (.pointer (some ⟨br, 0, none⟩)) := hq.cell 0
  have d0 : decide ((i : Int) < 0) = false := decide_eq_false (by omega)
  have d1 : decide ((s.last.length : Int) ≤ (i : Int)) = false := decide_eq_false (by omega)
  have n0 : ¬ (i : Int) < 0 := by omega
  have n1 : ¬ (s.last.length : Int) ≤ (i : Int) := by omega
  obtain ⟨tx, htx⟩ : ∃ z, readT s (i : Int) = z := ⟨_, rfl⟩
  obtain ⟨n, hn⟩ : ∃ z, s.last.length = z := ⟨_, rfl⟩
  rw [hn] at HSZ d1 n1
  rw [htx, hE] at HD
  rw [htx]
  clear h hC hq htx hi hn hp hE
  go_enter Tryz.func66, Tryz.ntmps66
  go_wp2_with (first | (go_at_call 80; refine (unhide HSZ).mono ?_; rintro e w' ⟨rfl, hw'⟩; subst w') | (go_at_call 119; refine (unhide HAT _).mono ?_; rintro e w' ⟨rfl, hw'⟩; subst w'))
  refine (unhide HD).mono ?_
  rintro e x1 ⟨rfl, hb1⟩
  have q1 := (unhide HQ).below hb1 (unhide HQ).lt
  have c8 : x1.cell? ⟨qb, 8, none⟩ = some (.int .i64 0) := q1.cell 8
  have f8 : x1.frozen? ⟨qb, 8, none⟩ = false := q1.frozen 8
  have q2 : Blk (x1.setCell ⟨qb, 8, none⟩ (.int .i64 1)) qb #[.pointer (some ⟨br, 0, none⟩), .pointer jp, .int .i64 (keep : Int), .slice none 0 0, .slice none 0 0, .bool false, .bool false, .int .i64 0, .int .i64 1] 166 := q1.set 8 (.int .i64 1)
  have HLY := hide (rlayA q2 (i : Int) tx)
  have HO := hide (show Only (fun x => x = qb) w (x1.setCell ⟨qb, 8, none⟩ (.int .i64 1)) from (Only.of_below (P := fun x => x = qb) hb1).setCell _ _ (fun _ => rfl))
  obtain ⟨x2, hx2⟩ : ∃ z, x1.setCell ⟨qb, 8, none⟩ (.int .i64 1) = z := ⟨_, rfl⟩
  rw [hx2] at HLY HO
  clear hb1 q1 q2 HD HSZ HAT HQ c6 c4 c3 c0
  go_wp2_with fail
  refine (unhide HLY).mono ?_
  rintro e x3 ⟨rfl, hO3⟩
  have HF := hide ((unhide HO).trans hO3 (fun _ _ q => q))
  clear hO3 HLY HO
  go_wp2
  go_ret2
  exact ⟨rfl, unhide HF⟩
set_option maxHeartbeats 4000000 in
theorem rpread_no {w : World} {base br qb keep : Nat} {jp : Option Addr} {v : RV} {s : DSt} (h : Rk w base br v s) (hC : Coh s) (hp : s.pend.length ≤ 1000000) (hq : Blk w qb #[.pointer (some ⟨br, 0, none⟩), .pointer jp, .int .i64 (keep : Int), .slice none 0 0, .slice none 0 0, .bool false, .bool false, .int .i64 0, .int .i64 0] 166) (i : Nat) (hi : i < s.last.length) (hE : readE s (i : Int) ≠ 0) :
    Calls Tryz.prog 66 #[.pointer (some ⟨qb, 0, none⟩), .int .i64 (i : Int)] w fun e w' => e = .returned (.tuple #[.string ⟨#[]⟩, .int .i64 2]) ∧ Only (fun x => x = qb) w w' := by
  have HSZ := hide (rpsizeK h hq)
  have HD := hide (rrd_any w base br v s h hC (by omega) (i : Int))
  have HAT := hide (fun W => rat_nilK (i : Int) W)
  have HQ := hide hq
  have c6 : w.cell? ⟨qb, 6, none⟩ = some (.bool false) := hq.cell 6
  have c4 : w.cell? ⟨qb, 4, none⟩ = some (.slice none 0 0) := hq.cell 4
  have c3 : w.cell? ⟨qb, 3, none⟩ = some (.slice none 0 0) := hq.cell 3
  have c0 : w.cell? ⟨qb, 0, none⟩ = some (.pointer (some ⟨br, 0, none⟩)) := hq.cell 0
  have d0 : decide ((i : Int) < 0) = false := decide_eq_false (by omega)
  have d1 : decide ((s.last.length : Int) ≤ (i : Int)) = false := decide_eq_false (by omega)
  have n0 : ¬ (i : Int) < 0 := by omega
  have n1 : ¬ (s.last.length : Int) ≤ (i : Int) := by omega
  obtain ⟨tx, htx⟩ : ∃ z, readT s (i : Int) = z := ⟨_, rfl⟩
  obtain ⟨n, hn⟩ : ∃ z, s.last.length = z := ⟨_, rfl⟩
  rw [hn] at HSZ d1 n1
  obtain ⟨ed, hed⟩ : ∃ z, readE s (i : Int) = z := ⟨_, rfl⟩
  rw [htx, hed] at HD
  rw [hed] at hE
  have he' : (ed == 0) = false := by simpa using hE
  clear h hC hq htx hi hn hp hed hE
  go_enter Tryz.func66, Tryz.ntmps66
  go_wp2_with (first | (go_at_call 80; refine (unhide HSZ).mono ?_; rintro e w' ⟨rfl, hw'⟩; subst w') | (go_at_call 119; refine (unhide HAT _).mono ?_; rintro e w' ⟨rfl, hw'⟩; subst w'))
  refine (unhide HD).mono ?_
  rintro e x1 ⟨rfl, hb1⟩
  have q1 := (unhide HQ).below hb1 (unhide HQ).lt
  have c6' : x1.cell? ⟨qb, 6, none⟩ = some (.bool false) := q1.cell 6
  have f6 : x1.frozen? ⟨qb, 6, none⟩ = false := q1.frozen 6
  have HO := hide (show Only (fun x => x = qb) w (x1.setCell ⟨qb, 6, none⟩ (.bool true)) from (Only.of_below (P := fun x => x = qb) hb1).setCell _ _ (fun _ => rfl))
  obtain ⟨x2, hx2⟩ : ∃ z, x1.setCell ⟨qb, 6, none⟩ (.bool true) = z := ⟨_, rfl⟩
  rw [hx2] at HO
  clear hb1 q1 HD HSZ HAT HQ c6 c4 c3 c0
  go_wp2
  go_ret2
  exact ⟨rfl, unhide HO⟩
end Go.Proofs.YtiokejnlioghiaaGreatDoor

namespace Go.Proofs.YtiokejnlioghiaaGreatDoor
open Go.Shelf
def Tryz.insL_ren : Go.Shelf.Ren := ⟨fun | 21 => 153 | 27 => 175 | 28 => 176 | 35 => 189 | 39 => 194 | n => n, fun | 22 => 48 | 3 => 3 | 4 => 4 | 0 => 0 | n => n, fun | n => n⟩
theorem Tryz.insL : Go.Proofs.Lays2.n21 Tryz.prog Tryz.insL_ren := {
  mixed := by kernel_rfl
  f21 := Tryz.func153.trans (congrArg some (by kernel_rfl))
  f27 := Tryz.func175.trans (congrArg some (by kernel_rfl))
  f28 := Tryz.func176.trans (congrArg some (by kernel_rfl))
  f35 := Tryz.func189.trans (congrArg some (by kernel_rfl))
  f39 := Tryz.func194.trans (congrArg some (by kernel_rfl))
  t0 := Tryz.underlying0
  a0 := Tryz.isAgg0
  z0 := Tryz.sizeOf0
  v0 := Tryz.zeroValue0
  t3 := Tryz.underlying3
  a3 := Tryz.isAgg3
  z3 := Tryz.sizeOf3
  v3 := Tryz.zeroValue3
  t4 := Tryz.underlying4
  a4 := Tryz.isAgg4
  z4 := Tryz.sizeOf4
  v4 := Tryz.zeroValue4
  t22 := Tryz.underlying48
  a22 := Tryz.isAgg48
  z22 := Tryz.sizeOf48
  v22 := Tryz.zeroValue48
  i3 := by kernel_rfl }
def Tryz.delL_ren : Go.Shelf.Ren := ⟨fun | 10 => 173 | 6 => 188 | n => n, fun | 22 => 48 | 23 => 3 | 25 => 55 | 3 => 3 | 4 => 4 | 0 => 0 | n => n, fun | n => n⟩
theorem Tryz.delL : Go.Proofs.SlLaysH.n10 Tryz.prog Tryz.delL_ren := {
  mixed := by kernel_rfl
  f6 := ⟨Tryz.f188.name, by decide, Tryz.func188.trans (congrArg some (by kernel_rfl))⟩
  f10 := ⟨Tryz.f173.name, by decide, Tryz.func173.trans (congrArg some (by kernel_rfl))⟩
  t0 := Tryz.underlying0
  a0 := Tryz.isAgg0
  z0 := Tryz.sizeOf0
  v0 := Tryz.zeroValue0
  t3 := Tryz.underlying3
  a3 := Tryz.isAgg3
  z3 := Tryz.sizeOf3
  v3 := Tryz.zeroValue3
  t4 := Tryz.underlying4
  a4 := Tryz.isAgg4
  z4 := Tryz.sizeOf4
  v4 := Tryz.zeroValue4
  t22 := Tryz.underlying48
  a22 := Tryz.isAgg48
  z22 := Tryz.sizeOf48
  v22 := Tryz.zeroValue48
  a23 := Tryz.isAgg3
  z23 := Tryz.sizeOf3
  t25 := Tryz.underlying55
  a25 := Tryz.isAgg55
  z25 := Tryz.sizeOf55
  v25 := Tryz.zeroValue55 }
def Tryz.keysL_ren : Go.Shelf.Ren := ⟨fun | 7 => 124 | 10 => 156 | n => n, fun | 23 => 74 | 26 => 3 | 3 => 9 | 28 => 173 | 0 => 0 | 27 => 172 | 33 => 55 | 4 => 4 | n => n, fun | n => n⟩
theorem Tryz.keysL : Go.Proofs.SlLaysZI.n7 Tryz.prog Tryz.keysL_ren := {
  mixed := by kernel_rfl
  f7 := ⟨Tryz.f124.name, by decide, Tryz.func124.trans (congrArg some (by kernel_rfl))⟩
  f10 := ⟨Tryz.f156.name, by decide, Tryz.func156.trans (congrArg some (by kernel_rfl))⟩
  t0 := Tryz.underlying0
  a0 := Tryz.isAgg0
  z0 := Tryz.sizeOf0
  v0 := Tryz.zeroValue0
  t4 := Tryz.underlying4
  a4 := Tryz.isAgg4
  z4 := Tryz.sizeOf4
  v4 := Tryz.zeroValue4
  t23 := Tryz.underlying74
  a23 := Tryz.isAgg74
  z23 := Tryz.sizeOf74
  v23 := Tryz.zeroValue74
  t26 := Tryz.underlying3
  a26 := Tryz.isAgg3
  z26 := Tryz.sizeOf3
  v26 := Tryz.zeroValue3
  t27 := Tryz.underlying172
  a27 := Tryz.isAgg172
  z27 := Tryz.sizeOf172
  v27 := Tryz.zeroValue172
  t28 := Tryz.underlying173
  a28 := Tryz.isAgg173
  z28 := Tryz.sizeOf173
  v28 := Tryz.zeroValue173
  t33 := Tryz.underlying55
  a33 := Tryz.isAgg55
  z33 := Tryz.sizeOf55
  v33 := Tryz.zeroValue55 }
def Tryz.sortedL_ren : Go.Shelf.Ren := ⟨fun | 6 => 123 | 8 => 155 | 9 => 108 | 11 => 177 | 13 => 150 | 12 => 149 | 23 => 171 | 24 => 172 | 14 => 162 | 15 => 163 | 16 => 164 | 17 => 165 | 18 => 166 | 19 => 167 | 20 => 168 | 21 => 169 | 22 => 170 | 25 => 182 | 26 => 183 | 27 => 184 | 28 => 185 | 29 => 186 | 30 => 187 | 31 => 193 | n => n, fun | 26 => 3 | 28 => 173 | 24 => 48 | 0 => 0 | 3 => 3 | 37 => 128 | 48 => 81 | 50 => 179 | 4 => 4 | 40 => 207 | 39 => 206 | 45 => 211 | 5 => 5 | 9 => 9 | 51 => 229 | 55 => 233 | 57 => 250 | 58 => 251 | 33 => 55 | n => n, fun | n => n⟩
theorem Tryz.sortedL : Go.Proofs.SlLaysZI.n6 Tryz.prog Tryz.sortedL_ren := {
  mixed := by kernel_rfl
  f6 := ⟨Tryz.f123.name, by decide, Tryz.func123.trans (congrArg some (by kernel_rfl))⟩
  f8 := ⟨Tryz.f155.name, by decide, Tryz.func155.trans (congrArg some (by kernel_rfl))⟩
  f11 := ⟨Tryz.f177.name, by decide, Tryz.func177.trans (congrArg some (by kernel_rfl))⟩
  t0 := Tryz.underlying0
  a0 := Tryz.isAgg0
  z0 := Tryz.sizeOf0
  v0 := Tryz.zeroValue0
  t24 := Tryz.underlying48
  a24 := Tryz.isAgg48
  z24 := Tryz.sizeOf48
  v24 := Tryz.zeroValue48
  t26 := Tryz.underlying3
  a26 := Tryz.isAgg3
  z26 := Tryz.sizeOf3
  v26 := Tryz.zeroValue3
  t28 := Tryz.underlying173
  a28 := Tryz.isAgg173
  z28 := Tryz.sizeOf173
  v28 := Tryz.zeroValue173
  i26 := by kernel_rfl }
end Go.Proofs.YtiokejnlioghiaaGreatDoor

namespace Go.Proofs.YtiokejnlioghiaaGreatDoor
open Go.RowKit
/-- A disk and its journal, made behind w0, and a fence: blocks that belong to neither. -/
def JK (w0 w : World) (b jb : Nat) (s : DSt) (nx : Nat) (lost : Bool) (X : Nat → Prop) : Prop :=
  ∃ v, Dk w w0.heap.size b v s ∧ Jb w jb b nx lost ∧ ¬ Fd b v jb ∧ w0.heap.size ≤ jb ∧ Below w0.heap.size w0 w ∧ Sane s ∧ ∀ x, X x → ¬ Fd b v x ∧ x ≠ jb ∧ x < w.heap.size
theorem JK.ji {w0 w : World} {b jb : Nat} {s : DSt} {nx : Nat} {lost : Bool} {X : Nat → Prop} (h : JK w0 w b jb s nx lost X) : JI w0 w b jb s nx lost := by
  obtain ⟨v, h1, h2, h3, h4, h5, h6, _⟩ := h
  exact ⟨v, h1, h2, h3, h4, h5, h6⟩
theorem JI.jk {w0 w : World} {b jb : Nat} {s : DSt} {nx : Nat} {lost : Bool} (h : JI w0 w b jb s nx lost) : JK w0 w b jb s nx lost (fun _ => False) := by
  obtain ⟨v, h1, h2, h3, h4, h5, h6⟩ := h
  exact ⟨v, h1, h2, h3, h4, h5, h6, fun _ q => q.elim⟩
theorem JK.bel {w0 w : World} {b jb : Nat} {s : DSt} {nx : Nat} {lost : Bool} {X : Nat → Prop} (h : JK w0 w b jb s nx lost X) : Below w0.heap.size w0 w := h.ji.bel
theorem JK.more {w0 w w' : World} {b jb : Nat} {s : DSt} {nx : Nat} {lost : Bool} {X : Nat → Prop} (h : JK w0 w b jb s nx lost X) (hb : Below w.heap.size w w') (Y : Nat → Prop) (hy : ∀ x, Y x → X x ∨ (w.heap.size ≤ x ∧ x < w'.heap.size)) : JK w0 w' b jb s nx lost Y := by
  obtain ⟨v, h1, h2, h3, h4, h5, h6, h7⟩ := h
  refine ⟨v, h1.below hb, Blk.below h2 hb (Blk.lt h2), h3, h4, h5.trans (hb.mono h5.size), h6, fun x hx => ?_⟩
  rcases hy x hx with q | ⟨q1, q2⟩
  · obtain ⟨a1, a2, a3⟩ := h7 x q
    exact ⟨a1, a2, Nat.lt_of_lt_of_le a3 hb.size⟩
  · refine ⟨fun q => ?_, fun q => ?_, q2⟩
    · have := (h1.fd x q).2; omega
    · have := Blk.lt h2; omega
theorem JK.below {w0 w w' : World} {b jb : Nat} {s : DSt} {nx : Nat} {lost : Bool} {X : Nat → Prop} (h : JK w0 w b jb s nx lost X) (hb : Below w.heap.size w w') : JK w0 w' b jb s nx lost X := h.more hb X (fun _ q => .inl q)
theorem JK.lt {w0 w : World} {b jb : Nat} {s : DSt} {nx : Nat} {lost : Bool} {X : Nat → Prop} (h : JK w0 w b jb s nx lost X) (x : Nat) (hx : X x) : x < w.heap.size := by
  obtain ⟨v, h1, h2, h3, h4, h5, h6, h7⟩ := h
  exact (h7 x hx).2.2
end Go.Proofs.YtiokejnlioghiaaGreatDoor

namespace Go.Proofs.YtiokejnlioghiaaGreatDoor
open Go.RowKit
/-- At p lie the acts l, each of two numbers. -/
def Acts (w : World) (p : Option Addr) (l : List (Int × Int)) : Prop := ∀ j, j < l.length → ∃ g o, p = some ⟨g, o, none⟩ ∧ g < w.heap.size ∧ w.cell? ⟨g, o + j * 2, none⟩ = some (.int .i64 (l.getD j (0, 0)).1) ∧ w.cell? ⟨g, o + j * 2 + 1, none⟩ = some (.int .i64 (l.getD j (0, 0)).2)
theorem Acts.below {w w' : World} {p : Option Addr} {l : List (Int × Int)} (h : Acts w p l) (hb : Below w.heap.size w w') : Acts w' p l := fun j hj => by
  obtain ⟨g, o, h1, h2, h3, h4⟩ := h j hj
  exact ⟨g, o, h1, Nat.lt_of_lt_of_le h2 hb.size, (hb.cell (p := ⟨g, o + j * 2, none⟩) h2).trans h3, (hb.cell (p := ⟨g, o + j * 2 + 1, none⟩) h2).trans h4⟩
/-- An act as it is told, by numbers. -/
def telN (p : Nat × Nat) : Int × Int := if p.1 = 1 then (2, 0) else (1, (p.2 : Int))
theorem tel1_eq (p : Nat × Nat) : tel1 p = [.int .i64 (telN p).1, .int .i64 (telN p).2] := by unfold tel1 telN; split <;> rfl
theorem tels_nat : ∀ (l : List (Nat × Nat)) (j : Nat), j < l.length → (tels l)[j * 2]? = some (.int .i64 ((l.map telN).getD j (0, 0)).1) ∧ (tels l)[j * 2 + 1]? = some (.int .i64 ((l.map telN).getD j (0, 0)).2)
  | p :: r, 0, _ => by rw [tels, tel1_eq]; exact ⟨rfl, rfl⟩
  | p :: r, j + 1, h => by
    have ih := tels_nat r j (by simpa using h)
    rw [tels, tel1_eq, show (j + 1) * 2 = j * 2 + 1 + 1 by omega]
    simpa using ih
theorem Acts.own {w : World} {base : Nat} {e : TypeId} {v : Value} {l : List (Nat × Nat)} (h : w.ownsRow base e 2 v l.length (tels l)) : ∃ p c, v = .slice p l.length c ∧ Acts w p (l.map telN) := by
  rcases h.2 with ⟨h1, h2⟩ | ⟨g, cap, cur, h1, _, hg, _⟩
  · refine ⟨none, 0, by rw [h1, h2], fun j hj => ?_⟩
    rw [List.length_map] at hj
    omega
  · refine ⟨some ⟨g, 0, none⟩, cap, h1, fun j hj => ⟨g, 0, rfl, Blk.lt hg, ?_, ?_⟩⟩
    · rw [List.length_map] at hj
      rw [Nat.zero_add, (own_at2 h (by rw [h1]; rfl) (j * 2) (by omega)).1]
      exact (tels_nat l j hj).1
    · rw [List.length_map] at hj
      rw [Nat.zero_add, (own_at2 h (by rw [h1]; rfl) (j * 2 + 1) (by omega)).1]
      exact (tels_nat l j hj).2
end Go.Proofs.YtiokejnlioghiaaGreatDoor

namespace Go.Proofs.YtiokejnlioghiaaGreatDoor
open Go.ChangeShapes Go.WideShapes Go.ChangeAt Go.RowKit
theorem own : ownKnob Tryz.prog.godebug = none := by kernel_rfl
theorem laidOut : laidOutB Tryz.prog = true := by kernel_rfl
theorem gEt : Tryz.prog.globalNamed "errors.errorType" = some 1 := by kernel_rfl
theorem gRt : (Tryz.prog.cutTypes.find? (·.1 == "internal/reflectlite.rtype")).map (·.2) = some 237 := by kernel_rfl
theorem gOne : ((List.range 278).filter fun t => Tryz.prog.rowNamed t [101, 114, 114, 111, 114]) = [137] := by kernel_rfl
theorem gSize : Tryz.prog.types.size = 278 := by kernel_rfl
def laidL : List (String × DataW Unit) := [("errors.errorType", Rows.laid_errors_errorType)]
theorem wf_I64 {z : Int} (h : (Lit.int .i64 z).wf = true) : I64 z := by
  simpa [I64, Lit.wf, IntKind.min, IntKind.max, IntKind.signed, IntKind.bits] using h
/-- What the row's list gives. -/
theorem ety_of {W : World} (h : laidMetH Tryz.prog laidL W) : ETy W := by
  have h' : laidMet Tryz.prog [] W ∧ handlesMet Tryz.prog laidL W := h
  obtain ⟨name, u, ty, e1, e2, e3, e4, e5⟩ := h'.2 _ (List.mem_singleton.2 rfl)
  have en : name = [101, 114, 114, 111, 114] := (Option.some.inj e1).symm
  subst en
  obtain rfl := Option.some.inj (gRt.symm.trans e2)
  have hm : ty ∈ (List.range 278).filter fun t => Tryz.prog.rowNamed t [101, 114, 114, 111, 114] := List.mem_filter.2 ⟨List.mem_range.2 (by rw [← gSize]; exact e3), e4⟩
  rw [gOne] at hm
  obtain rfl := List.mem_singleton.1 hm
  have hh : typeHandle Tryz.prog 137 = .pointer (some ⟨2, 137, none⟩) := by kernel_rfl
  rw [hh] at e5
  have := World.var?_cell gEt e5 0
  unfold ETy
  simpa using this
/-- A world for the witness: the settled one, the variable's cell laid. -/
noncomputable def laidWorld (os : Os) : World :=
  let w0 := World.holding Tryz.prog os ⟨#[], #[], []⟩
  { w0 with heap := w0.heap.modify 1 fun
      | .cells _ t frozen => .cells #[.iface 237 (.agg #[.pointer (some ⟨2, 137, none⟩)])] t frozen
      | o => o }
end Go.Proofs.YtiokejnlioghiaaGreatDoor
