import Derived.Test.YtkkndlkelpdehaaGreatDoorMr15
import Derived.BigQuiet
import Derived.Test.YtkkndlkelpdehaaGreatDoorMr09
namespace Go.Proofs.YtkkndlkelpdehaaGreatDoor
open Go.RowKit
set_option maxRecDepth 100000 in
set_option maxHeartbeats 400000 in
theorem newReader_any (s : ByteArray) (w : World) :
    Calls Tryz.prog 109 #[.string s] w fun e w' => e = .returned (.pointer (some ⟨w.heap.size, 0, none⟩)) ∧ Rdr w' w.heap.size s 0 0 ∧ Below w.heap.size w w' ∧ w'.heap.size = w.heap.size + 1 := by
  go_enter Tryz.func109, Tryz.ntmps109
  go_wp2
  go_ret
  exact ⟨rfl, Blk.new _ _ _, (Below.refl _ _).alloc (Nat.le_refl _) _, by simp⟩
def doneE (r : ByteArray) (e : Int) : Int := if e = 0 ∧ 0 < r.size then 33 else e
set_option maxRecDepth 100000 in
set_option maxHeartbeats 1000000 in
theorem rdone_any (w : World) (b : Nat) (r : ByteArray) (t e : Int) (h : Rdr w b r t e) :
    Calls Tryz.prog 112 #[.pointer (some ⟨b, 0, none⟩)] w fun ev w' => ev = .returned (.tuple #[.int .i64 (doneE r e), .int .i64 t]) ∧ Below w.heap.size w w' := by
  obtain ⟨c0, c1, c2, f0, f1, f2⟩ := h.cells
  clear h
  by_cases he : e = 0
  · subst he
    by_cases hs : 0 < r.size
    · have hD : doneE r 0 = 33 := by rw [doneE, if_pos ⟨rfl, hs⟩]
      rw [hD]
      clear hD
      go_enter Tryz.func112, Tryz.ntmps112
      go_wp2
      go_quiet (fail)
      go_wp2
      go_ret2
      exact ⟨rfl, below_drewN (Below.refl _ _) _⟩
    · have hD : doneE r 0 = 0 := by rw [doneE, if_neg (fun q => hs q.2)]
      rw [hD]
      clear hD
      go_enter Tryz.func112, Tryz.ntmps112
      go_wp2
      go_quiet (fail)
      go_wp2
      go_ret2
      exact ⟨rfl, below_drewN (Below.refl _ _) _⟩
  · have hD : doneE r e = e := by rw [doneE, if_neg (fun q => he q.1)]
    rw [hD]
    have hne : (e == 0) = false := by simp [he]
    clear hD
    go_enter Tryz.func112, Tryz.ntmps112
    go_wp2
    go_quiet (fail)
    go_wp2
    go_ret2
    exact ⟨rfl, below_drewN (Below.refl _ _) _⟩
end Go.Proofs.YtkkndlkelpdehaaGreatDoor

namespace Go.Proofs.YtkkndlkelpdehaaGreatDoor
open Go.RowKit
/-- A Reader's state: what is left, how much was taken, what was wrong first. -/
structure RSt where
  r : ByteArray
  t : Int
  e : Int
def stepR (s : RSt) (E : Int) (c : Nat) : RSt := if s.e = 0 then ⟨rRest s.r E c, rTak s.t E c, E⟩ else s
def Rds (w : World) (b : Nat) (s : RSt) : Prop := Rdr w b s.r s.t s.e
def RSt.ok (s : RSt) (N : Nat) : Prop := 0 ≤ s.t ∧ s.t + (s.r.size : Int) ≤ (N : Int)
theorem rRest_size (r : ByteArray) (E : Int) (c : Nat) : (rRest r E c).size = if E = 0 then r.size - c else 0 := by
  unfold rRest
  split
  · simp
  · rfl
theorem stepR_ok (s : RSt) (E : Int) (c N : Nat) (h : s.ok N) (hc : E = 0 → c ≤ s.r.size) : (stepR s E c).ok N := by
  unfold stepR
  split
  · refine ⟨?_, ?_⟩
    · show 0 ≤ rTak s.t E c
      have := h.1
      unfold rTak
      split <;> omega
    · show rTak s.t E c + ((rRest s.r E c).size : Int) ≤ (N : Int)
      rw [rRest_size]
      have h1 := h.1
      have h2 := h.2
      unfold rTak
      split
      · rename_i h0
        have := hc h0
        omega
      · omega
  · exact h
theorem numS (w : World) (b : Nat) (s : RSt) (h : Rds w b s) (hg : ETy w) (hN : s.ok 9223372036854775807) (bytes : Int) :
    Calls Tryz.prog 110 #[.pointer (some ⟨b, 0, none⟩), .int .i64 bytes] w fun ev w' => ev = .returned (.int .i64 (if s.e = 0 then numV bytes s.r else 0)) ∧ Rds w' b (stepR s (numE bytes s.r) (bytes.toNat)) ∧ Only (fun k => k = b) w w' := by
  by_cases he : s.e = 0
  · have h' : Rdr w b s.r s.t 0 := by rw [← he]; exact h
    refine (rnum_any w b s.r s.t h' hg hN.1 hN.2 bytes).mono ?_
    rintro ev w' ⟨rfl, hR, hO⟩
    refine ⟨by rw [if_pos he], ?_, hO⟩
    unfold Rds stepR
    rw [if_pos he]
    exact hR
  · refine (rNum_wrong w b s.r s.t s.e h he bytes).mono ?_
    rintro ev w' ⟨rfl, hR, hO⟩
    refine ⟨by rw [if_neg he], ?_, hO⟩
    unfold Rds stepR
    rw [if_neg he]
    exact hR
theorem rawS (w : World) (b : Nat) (s : RSt) (h : Rds w b s) (hg : ETy w) (hN : s.ok 9223372036854775807) (n : Int) :
    Calls Tryz.prog 129 #[.pointer (some ⟨b, 0, none⟩), .int .i64 n] w fun ev w' => ev = .returned (.string (if s.e = 0 then rawV n s.r else ⟨#[]⟩)) ∧ Rds w' b (stepR s (rawE n s.r) (n.toNat)) ∧ Only (fun k => k = b) w w' := by
  by_cases he : s.e = 0
  · have h' : Rdr w b s.r s.t 0 := by rw [← he]; exact h
    refine (rraw_any w b s.r s.t h' hg hN.1 hN.2 n).mono ?_
    rintro ev w' ⟨rfl, hR, hO⟩
    refine ⟨by rw [if_pos he], ?_, hO⟩
    unfold Rds stepR
    rw [if_pos he]
    exact hR
  · refine (rRaw_wrong w b s.r s.t s.e h he n).mono ?_
    rintro ev w' ⟨rfl, hR, hO⟩
    refine ⟨by rw [if_neg he], ?_, hO⟩
    unfold Rds stepR
    rw [if_neg he]
    exact hR
theorem numE_le (bytes : Int) (r : ByteArray) (h : numE bytes r = 0) : bytes.toNat ≤ r.size ∧ 1 ≤ bytes ∧ bytes ≤ 8 := by
  unfold numE at h
  split at h
  · cases h
  · split at h
    · cases h
    · omega
theorem rawE_le (n : Int) (r : ByteArray) (h : rawE n r = 0) : n.toNat ≤ r.size ∧ 0 ≤ n := by
  unfold rawE at h
  split at h
  · cases h
  · split at h
    · cases h
    · omega
theorem textE_le (most : Int) (r : ByteArray) (h : textE most r = 0) : varC r + varV r ≤ r.size ∧ varE r = 0 ∧ (varV r : Int) ≤ most ∧ 0 ≤ most := by
  unfold textE at h
  split at h
  · cases h
  · split at h
    · rename_i h1 h2; exact absurd h h2
    · split at h
      · cases h
      · split at h
        · cases h
        · rename_i h1 h2 h3 h4
          exact ⟨by omega, by simpa using h2, by omega, by omega⟩
theorem Rds.only {w w' : World} {b : Nat} {s : RSt} {P : Nat → Prop} (h : Rds w b s) (ho : Only P w w') (hp : ¬ P b) : Rds w' b s := Blk.only h ho hp
theorem Rds.ne {w : World} {b : Nat} {s : RSt} (h : Rds w b s) (hg : ETy w) : b ≠ 1 := hg.ne h
end Go.Proofs.YtkkndlkelpdehaaGreatDoor

namespace Go.Proofs.YtkkndlkelpdehaaGreatDoor
open Go.RowKit
/-- What ParsePage reads off a text, step by step. -/
def ps1 (s : ByteArray) : RSt := stepR ⟨s, 0, 0⟩ (rawE 2 s) 2
def pkd (s : ByteArray) : Int := if (ps1 s).e = 0 then numV 1 (ps1 s).r else 0
def ps2 (s : ByteArray) : RSt := stepR (ps1 s) (numE 1 (ps1 s).r) 1
def pln (s : ByteArray) : Int := if (ps2 s).e = 0 then numV 1 (ps2 s).r else 0
def ps3 (s : ByteArray) : RSt := stepR (ps2 s) (numE 1 (ps2 s).r) 1
def pnm (s : ByteArray) : Int := if (ps3 s).e = 0 then numV 4 (ps3 s).r else 0
def ps4 (s : ByteArray) : RSt := stepR (ps3 s) (numE 4 (ps3 s).r) 4
def pbd (s : ByteArray) : ByteArray := if (ps4 s).e = 0 then rawV (pln s) (ps4 s).r else ⟨#[]⟩
def prOk (s : ByteArray) : Prop := errM (pkd s) (pnm s) (pbd s).size = 0 ∧ makeB (pkd s) (pnm s) (pbd s) = s
def ParsePost (s : ByteArray) (w : World) (e : Ending) (w' : World) : Prop :=
  ((prOk s ∧ e = .returned (.tuple #[.agg #[.int .i64 (pkd s), .int .i64 (pnm s), .string (pbd s)], .int .i64 0])) ∨ (¬ prOk s ∧ e = .returned (.tuple #[.agg #[.int .i64 0, .int .i64 0, .string ⟨#[]⟩], .int .i64 35]))) ∧ Below w.heap.size w w'
theorem ps_ok (s : ByteArray) (N : Nat) (h : s.size ≤ N) : (ps1 s).ok N ∧ (ps2 s).ok N ∧ (ps3 s).ok N ∧ (ps4 s).ok N := by
  have h0 : RSt.ok ⟨s, 0, 0⟩ N := ⟨Int.le_refl _, by simp; omega⟩
  have h1 : (ps1 s).ok N := stepR_ok _ _ _ _ h0 (fun e => (rawE_le 2 s e).1)
  have h2 : (ps2 s).ok N := stepR_ok _ _ _ _ h1 (fun e => (numE_le 1 _ e).1)
  have h3 : (ps3 s).ok N := stepR_ok _ _ _ _ h2 (fun e => (numE_le 1 _ e).1)
  exact ⟨h1, h2, h3, stepR_ok _ _ _ _ h3 (fun e => (numE_le 4 _ e).1)⟩
theorem results_pair {fn : Func} {p q : Tmp} {ty : TypeId} (h : fn.results = #[.cell p ty, .tmp q]) (tmps : Array Value) (P : Program) (w : World) (ad : Addr) (ha : tmps.getD p undef = .pointer (some ad)) (v : Value) (hl : (loadVar ty ad).run P w = .ok v w) (u : Value) (hu : tmps.getD q undef = u) :
    (results fn tmps).run P w = .ok (.tuple #[v, u]) w := by
  subst hu
  have ha' : tmps[p]?.getD undef = .pointer (some ad) := by simpa using ha
  simp only [results, h]
  simp [ha', asAddr, hl]
theorem load_page (w : World) (b : Nat) (kind number : Int) (body : ByteArray) (h : Blk w b #[.int .i64 kind, .int .i64 number, .string body] 128) :
    (loadVar 128 ⟨b, 0, none⟩).run Tryz.prog w = .ok (.agg #[.int .i64 kind, .int .i64 number, .string body]) w := by
  have c0 : w.cell? ⟨b, 0, none⟩ = some (.int .i64 kind) := by rw [h.cell 0]; rfl
  have c1 : w.cell? ⟨b, 1, none⟩ = some (.int .i64 number) := by rw [h.cell 1]; rfl
  have c2 : w.cell? ⟨b, 2, none⟩ = some (.string body) := by rw [h.cell 2]; rfl
  simp [loadVar, isAgg, underlying, Tryz.underlying128, Result.andThen, loadCells, loadCellsFrom, Addr.add, c0, c1, c2]
set_option maxRecDepth 100000 in
set_option maxHeartbeats 4000000 in
theorem parse_any (hRep : RepOk) (s : ByteArray) (hs : s.size ≤ 9223372036854775807) (w : World) (hg : ETy w) :
    Calls Tryz.prog 108 #[.string s] w fun e w' => ParsePost s w e w' := by
  have HK := hide (ps_ok s 9223372036854775807 hs)
  have HMK := hide (fun W => make_any hRep (pkd s) (pnm s) (pbd s) W)
  have HNR := hide (fun W => newReader_any s W)
  have HG := hide hg
  clear hRep hg
  go_enter Tryz.func108, Tryz.ntmps108
  go_wp2_with fail
  refine (unhide HNR _).mono ?_
  rintro ev x0 ⟨rfl, hR0, hB0, hS0⟩
  obtain ⟨b, hb⟩ : ∃ b, (w.alloc (Obj.cells #[.int .i64 0, .int .i64 0, .string ⟨#[]⟩] 128)).heap.size = b := ⟨_, rfl⟩
  have hb' : b = w.heap.size + 1 := by rw [← hb]; simp
  rw [hb] at hR0 hS0
  have HA := hide (show Blk x0 w.heap.size #[.int .i64 0, .int .i64 0, .string ⟨#[]⟩] 128 from (Blk.new w _ _).below hB0 (by simp))
  have hBx : Below w.heap.size w x0 := ((Below.refl _ w).alloc (Nat.le_refl _) _).trans (hB0.mono (by simp))
  have hG0 : ETy x0 := (unhide HG).below hBx (unhide HG).lt
  have HBx := hide hBx
  have HG0 := hide hG0
  have hne0 : b ≠ 1 := by have := (unhide HG).lt; omega
  have hb1 : w.heap.size + 1 = b := by omega
  have HR0 := hide (show Rds x0 b ⟨s, 0, 0⟩ from hR0)
  have HO0 := hide (Only.refl (fun k => k = b) x0)
  have Hb := hide hb
  have Hb' := hide hb'
  have HS0 := hide hS0
  clear hR0 hB0 hS0 hBx hG0 HNR hb hb'
  go_wp2_with fail
  refine (rawS x0 b ⟨s, 0, 0⟩ (unhide HR0) ((unhide HG0).only (unhide HO0) (fun q => hne0 q.symm)) ⟨Int.le_refl _, by simp; omega⟩ 2).mono ?_
  rintro ev x1 ⟨rfl, hR, hO⟩
  have HR1 := hide (show Rds x1 b (ps1 s) from hR)
  have HO1 := hide ((unhide HO0).trans hO (fun _ _ q => q))
  clear hR hO HR0 HO0
  go_wp2_with fail
  refine (numS x1 b (ps1 s) (unhide HR1) ((unhide HG0).only (unhide HO1) (fun q => hne0 q.symm)) (unhide HK).1 1).mono ?_
  rintro ev x2 ⟨rfl, hR, hO⟩
  have HR2 := hide (show Rds x2 b (ps2 s) from hR)
  have HO2 := hide ((unhide HO1).trans hO (fun _ _ q => q))
  clear hR hO HR1 HO1
  obtain ⟨kd, hkd⟩ : ∃ k, (if (ps1 s).e = 0 then numV 1 (ps1 s).r else 0) = k := ⟨_, rfl⟩
  rw [hkd]
  have Hkd := hide hkd
  clear hkd
  go_wp2_with fail
  refine (numS x2 b (ps2 s) (unhide HR2) ((unhide HG0).only (unhide HO2) (fun q => hne0 q.symm)) (unhide HK).2.1 1).mono ?_
  rintro ev x3 ⟨rfl, hR, hO⟩
  have HR3 := hide (show Rds x3 b (ps3 s) from hR)
  have HO3 := hide ((unhide HO2).trans hO (fun _ _ q => q))
  clear hR hO HR2 HO2
  obtain ⟨ln, hln⟩ : ∃ k, (if (ps2 s).e = 0 then numV 1 (ps2 s).r else 0) = k := ⟨_, rfl⟩
  rw [hln]
  have Hln := hide hln
  clear hln
  go_wp2_with fail
  refine (numS x3 b (ps3 s) (unhide HR3) ((unhide HG0).only (unhide HO3) (fun q => hne0 q.symm)) (unhide HK).2.2.1 4).mono ?_
  rintro ev x4 ⟨rfl, hR, hO⟩
  have HR4 := hide (show Rds x4 b (ps4 s) from hR)
  have HO4 := hide ((unhide HO3).trans hO (fun _ _ q => q))
  clear hR hO HR3 HO3
  obtain ⟨nm, hnm⟩ : ∃ k, (if (ps3 s).e = 0 then numV 4 (ps3 s).r else 0) = k := ⟨_, rfl⟩
  rw [hnm]
  have Hnm := hide hnm
  clear hnm
  go_wp2_with fail
  refine (rawS x4 b (ps4 s) (unhide HR4) ((unhide HG0).only (unhide HO4) (fun q => hne0 q.symm)) (unhide HK).2.2.2 ln).mono ?_
  rintro ev x5 ⟨rfl, hR, hO⟩
  have HR5 := hide (show Rds x5 b (stepR (ps4 s) (rawE ln (ps4 s).r) ln.toNat) from hR)
  have HO5 := hide ((unhide HO4).trans hO (fun _ _ q => q))
  clear hR hO HR4 HO4
  obtain ⟨bd, hbd⟩ : ∃ k, (if (ps4 s).e = 0 then rawV ln (ps4 s).r else ⟨#[]⟩) = k := ⟨_, rfl⟩
  rw [hbd]
  have hk1 : pkd s = kd := unhide Hkd
  have hl1 : pln s = ln := unhide Hln
  have hn1 : pnm s = nm := unhide Hnm
  have hb1' : pbd s = bd := by rw [← hbd, ← hl1]; rfl
  rw [hk1, hn1, hb1'] at HMK
  have HPK := hide (And.intro hk1 (And.intro hn1 hb1'))
  obtain ⟨mb, hmb⟩ : ∃ m, makeB kd nm bd = m := ⟨_, rfl⟩
  obtain ⟨me, hme⟩ : ∃ m, errM kd nm bd.size = m := ⟨_, rfl⟩
  rw [hmb, hme] at HMK
  have Hmb := hide hmb
  have Hme := hide hme
  clear hbd hk1 hl1 hn1 hb1' hmb hme Hkd Hln Hnm HK HR5
  have hwA : w.heap.size < x5.heap.size := by have := (unhide HO5).size; have := unhide HS0; have := unhide Hb'; omega
  have HA5 := hide ((unhide HA).only (unhide HO5) (by show ¬ w.heap.size = b; omega))
  clear HA
  go_wp2_with fail
  refine (unhide HMK _).mono ?_
  rintro ev x6 ⟨rfl, hB6⟩
  have HB6 := hide hB6
  have HA6 := hide (((unhide HA5).alloc (Obj.cells #[.int .i64 kd, .int .i64 nm, .string bd] 128)).below hB6 (by simp; omega))
  have HC6 := hide ((Blk.new x5 128 #[.int .i64 kd, .int .i64 nm, .string bd]).below hB6 (by simp))
  have a0 : x6.cell? ⟨w.heap.size, 0, none⟩ = some (.int .i64 0) := by rw [(unhide HA6).cell 0]; rfl
  have a1 : x6.cell? ⟨w.heap.size, 1, none⟩ = some (.int .i64 0) := by rw [(unhide HA6).cell 1]; rfl
  have a2 : x6.cell? ⟨w.heap.size, 2, none⟩ = some (.string ⟨#[]⟩) := by rw [(unhide HA6).cell 2]; rfl
  have f0 := (unhide HA6).frozen 0
  have f1 := (unhide HA6).frozen 1
  have f2 := (unhide HA6).frozen 2
  have d0 : x6.cell? ⟨x5.heap.size, 0, none⟩ = some (.int .i64 kd) := by rw [(unhide HC6).cell 0]; rfl
  have d1 : x6.cell? ⟨x5.heap.size, 1, none⟩ = some (.int .i64 nm) := by rw [(unhide HC6).cell 1]; rfl
  have d2 : x6.cell? ⟨x5.heap.size, 2, none⟩ = some (.string bd) := by rw [(unhide HC6).cell 2]; rfl
  have HB7 := hide (show Below w.heap.size w x6 from (unhide HBx).trans (((unhide HO5).below (B := w.heap.size) (by have := unhide HS0; have := unhide Hb'; omega) (fun k hk => by show ¬ k = b; have := unhide Hb'; omega)).trans (((Below.refl _ x5).alloc (by omega) _).trans (hB6.mono (by simp; omega)))))
  clear hB6 HMK HBx HO5 HA5 HB6
  by_cases hok : me = 0 ∧ mb = s
  · obtain ⟨h1, h2⟩ := hok
    subst h1
    have HOK := hide (show prOk s from ⟨by rw [(unhide HPK).1, (unhide HPK).2.1, (unhide HPK).2.2]; exact unhide Hme, by rw [(unhide HPK).1, (unhide HPK).2.1, (unhide HPK).2.2, unhide Hmb]; exact h2⟩)
    have hq : (mb.toList == s.toList) = true := by rw [h2]; simp
    have H2 := hide h2
    clear h2
    go_wp2
    have hA7 := (((unhide HA6).set 0 (.int .i64 kd)).set 1 (.int .i64 nm)).set 2 (.string bd)
    refine bodyPost_ret (v := .tuple #[.agg #[.int .i64 kd, .int .i64 nm, .string bd], .int .i64 0]) ?_ rfl ?_
    · exact results_pair (p := 2) (q := 3) (ty := 128) rfl _ _ _ ⟨w.heap.size, 0, none⟩ (by rfl) _ (load_page _ _ _ _ _ hA7) _ (by rfl)
    · refine ⟨.inl ⟨unhide HOK, ?_⟩, (((unhide HB7).setCell (p := ⟨w.heap.size, 0, none⟩) (Nat.le_refl _) _).setCell (p := ⟨w.heap.size, 1, none⟩) (Nat.le_refl _) _).setCell (p := ⟨w.heap.size, 2, none⟩) (Nat.le_refl _) _⟩
      rw [(unhide HPK).1, (unhide HPK).2.1, (unhide HPK).2.2]
  · have HOK := hide (show ¬ prOk s from fun q => hok ⟨by rw [← unhide Hme, ← (unhide HPK).1, ← (unhide HPK).2.1, ← (unhide HPK).2.2]; exact q.1, by rw [← unhide Hmb, ← (unhide HPK).1, ← (unhide HPK).2.1, ← (unhide HPK).2.2]; exact q.2⟩)
    by_cases he : me = 0
    · subst he
      have hq : (mb.toList == s.toList) = false := str_ne (fun q => hok ⟨rfl, q⟩)
      clear hok
      go_wp2
      have hA7 := (((unhide HA6).set 0 (.int .i64 0)).set 1 (.int .i64 0)).set 2 (.string ⟨#[]⟩)
      refine bodyPost_ret (v := .tuple #[.agg #[.int .i64 0, .int .i64 0, .string ⟨#[]⟩], .int .i64 35]) ?_ rfl ?_
      · exact results_pair (p := 2) (q := 3) (ty := 128) rfl _ _ _ ⟨w.heap.size, 0, none⟩ (by rfl) _ (load_page _ _ _ _ _ hA7) _ (by rfl)
      · exact ⟨.inr ⟨unhide HOK, rfl⟩, (((unhide HB7).setCell (p := ⟨w.heap.size, 0, none⟩) (Nat.le_refl _) _).setCell (p := ⟨w.heap.size, 1, none⟩) (Nat.le_refl _) _).setCell (p := ⟨w.heap.size, 2, none⟩) (Nat.le_refl _) _⟩
    · have hq : (me != 0) = true := by simp [he]
      clear hok
      go_wp2
      have hA7 := (((unhide HA6).set 0 (.int .i64 0)).set 1 (.int .i64 0)).set 2 (.string ⟨#[]⟩)
      refine bodyPost_ret (v := .tuple #[.agg #[.int .i64 0, .int .i64 0, .string ⟨#[]⟩], .int .i64 35]) ?_ rfl ?_
      · exact results_pair (p := 2) (q := 3) (ty := 128) rfl _ _ _ ⟨w.heap.size, 0, none⟩ (by rfl) _ (load_page _ _ _ _ _ hA7) _ (by rfl)
      · exact ⟨.inr ⟨unhide HOK, rfl⟩, (((unhide HB7).setCell (p := ⟨w.heap.size, 0, none⟩) (Nat.le_refl _) _).setCell (p := ⟨w.heap.size, 1, none⟩) (Nat.le_refl _) _).setCell (p := ⟨w.heap.size, 2, none⟩) (Nat.le_refl _) _⟩
end Go.Proofs.YtkkndlkelpdehaaGreatDoor
