import Derived.Test.YtnfcnpolflfpfaaGreatDoorMr47
import Derived.BigQuiet
namespace Go.Proofs.YtnfcnpolflfpfaaGreatDoor
open Go.RowKit Go.Maps Go.Sort Go.Shelf
theorem WR.congr {w : World} {wb n : Nat} {T U : Nat → En} (h : WR w wb n T) (e : ∀ i, i < n → T i = U i) : WR w wb n U := by
  obtain ⟨cs, h1, h2, h3⟩ := h
  exact ⟨cs, h1, h2, fun i hi => by rw [h3 i hi, e i hi]⟩
/-- Find of any digest answers something. -/
theorem ifind_some {w0 w : World} {xb pb a eb bm n : Nat} {U : Nat → En} (h : IM w0 w xb pb a eb bm n U) (d : ByteArray) (hd : d.size = 32) : ∃ (i : Int) (is : Bool), Calls Tryz.prog 41 #[.pointer (some ⟨xb, 0, none⟩), .string d] w fun e w' => e = .returned (.tuple #[.int .i64 i, .bool is]) ∧ Below w.heap.size w w' := by
  by_cases q : ∃ i c, U i = some (d, c)
  · obtain ⟨i, c, hU⟩ := q
    exact ⟨_, _, ifindx_gen h d hd (i : Int) true (fun W hW => hW.hit hU hd)⟩
  · exact ⟨_, _, ifindx_gen h d hd 0 false (fun W hW => hW.miss hd (fun i c r => q ⟨i, c, r⟩))⟩
set_option maxRecDepth 100000 in
set_option maxHeartbeats 2000000 in
theorem told_false {w0 w : World} {xb pb a eb bm n wb : Nat} {T U : Nat → En} (h : IM w0 w xb pb a eb bm n U) (hU : TOk n U) (hT : TOk n T) (hn : n ≤ 1024) (hW : WR w wb n T) (m : Nat) (hm : m < n) (hlow : ∀ i, i < m → T i = U i) (hdif : T m ≠ U m) :
    Calls Tryz.prog 21 #[.pointer (some ⟨xb, 0, none⟩), .slice (some ⟨wb, 0, none⟩) n n] w fun e w' => e = .returned (.bool false) ∧ Below w.heap.size w w' := by
  have HH := hide (And.intro h (And.intro hU (And.intro hT (And.intro hW (And.intro hlow hdif)))))
  clear h hU hT hW hlow hdif
  go_enter Tryz.func21, Tryz.ntmps21
  go_wp2
  go_loopw [5, 6] (fun c i wr => ∃ k lk : Nat, k ≤ m ∧ lk ≤ k ∧ c = .int .i64 (lk : Int) ∧ i = .int .i64 (k : Int) ∧ Below w.heap.size w wr) (fun _ i _ => n - (intOf i).toNat)
  case atStart => exact ⟨0, 0, by omega, by omega, rfl, rfl, Below.refl _ _⟩
  case round =>
    obtain ⟨k, lk, hk, hlk, rfl, rfl, hB⟩ := hrel
    obtain ⟨wo, rfl⟩ : ∃ wo, wo = wr := ⟨_, rfl⟩
    have hkn : k < n := by omega
    have hkn' : (k : Int) < (n : Int) := by omega
    have k0 : (0 : Int) ≤ (k : Int) := by omega
    obtain ⟨h, hU, hT, hW, hlow, hdif⟩ := unhide HH
    cases hTk : T k with
    | none =>
      cases hUk : U k with
      | none =>
        have hkm : k < m := by
          rcases Nat.lt_or_ge k m with q | q
          · exact q
          · exact absurd (by rw [show m = k by omega, hTk, hUk]) hdif
        have HG := hide (iget_none (h.below hB) hU hn k hkn none rfl hUk)
        have HX := hide (And.intro hTk hB)
        clear h hU hT hW hTk hUk hB hlow hdif
        go_wp2_with fail
        refine (unhide HG).mono ?_
        rintro e y1 ⟨rfl, hb1⟩
        have hB1 : Below w.heap.size w y1 := (unhide HX).2.trans (hb1.mono (unhide HX).2.size)
        have hB2 := hB1.alloc hB1.size (.cells #[.int .i64 0, .string ⟨#[]⟩, .int .i64 0] 46)
        have HB2 := hide hB2
        have a3 : y1.cell? ⟨wb, k * 3 + 2, none⟩ = some (.int .i64 0) := by
          obtain ⟨q, _⟩ := ((unhide HH).2.2.2.1.below hB1).at k hkn 2 (by decide)
          rw [(unhide HX).1] at q
          exact q
        have hwl : wb < y1.heap.size := Nat.lt_of_lt_of_le (unhide HH).2.2.2.1.lt hB1.size
        clear hb1 hB1 hB2 HG
        go_wp2
        go_roundw
        case rel => exact ⟨k + 1, lk, by omega, by omega, rfl, by go_num, unhide HB2⟩
        case measure => simp [intOf]; omega
      | some q =>
        obtain ⟨d, c⟩ := q
        have HG := hide (iget_some (h.below hB) hU hn k hkn d c hUk)
        have HX := hide (And.intro hTk hB)
        clear h hU hT hW hTk hUk hB hlow hdif
        go_wp2_with fail
        refine (unhide HG).mono ?_
        rintro e y1 ⟨rfl, hb1⟩
        have hB1 : Below w.heap.size w y1 := (unhide HX).2.trans (hb1.mono (unhide HX).2.size)
        have hB2 := hB1.alloc hB1.size (.cells #[.int .i64 (k : Int), .string d, .int .i64 (c : Int)] 46)
        have HB2 := hide hB2
        have a3 : y1.cell? ⟨wb, k * 3 + 2, none⟩ = some (.int .i64 0) := by
          obtain ⟨q, _⟩ := ((unhide HH).2.2.2.1.below hB1).at k hkn 2 (by decide)
          rw [(unhide HX).1] at q
          exact q
        have hwl : wb < y1.heap.size := Nat.lt_of_lt_of_le (unhide HH).2.2.2.1.lt hB1.size
        clear hb1 hB1 hB2 HG
        go_wp2
        go_ret
        exact ⟨rfl, unhide HB2⟩
    | some q =>
      obtain ⟨d, c⟩ := q
      have hok := hT.ok k d c hTk
      have hcz : ((c : Int) == 0) = false := by simp; omega
      have hcn : 0 < c := hok.2.1
      cases hUk : U k with
      | none =>
        have HG := hide (iget_none (h.below hB) hU hn k hkn none rfl hUk)
        have HX := hide (And.intro hTk (And.intro hB hok))
        clear h hU hT hW hTk hUk hB hok hlow hdif
        go_wp2_with fail
        refine (unhide HG).mono ?_
        rintro e y1 ⟨rfl, hb1⟩
        have hB1 : Below w.heap.size w y1 := (unhide HX).2.1.trans (hb1.mono (unhide HX).2.1.size)
        have hB2 : Below w.heap.size w (y1.alloc (.cells #[.int .i64 0, .string ⟨#[]⟩, .int .i64 0] 46)) := hB1.alloc hB1.size _
        obtain ⟨a1, f1⟩ := ((unhide HH).2.2.2.1.below hB1).at k hkn 1 (by decide)
        obtain ⟨a2, f2⟩ := ((unhide HH).2.2.2.1.below hB1).at k hkn 2 (by decide)
        rw [(unhide HX).1] at a1 a2
        simp only [slC, List.getElem?_cons_zero, List.getElem?_cons_succ] at a1 a2
        have hwl : wb < y1.heap.size := Nat.lt_of_lt_of_le (unhide HH).2.2.2.1.lt hB1.size
        obtain ⟨fi, fs, hF⟩ := ifind_some ((unhide HH).1.below hB2) d (unhide HX).2.2.1
        have HFI := hide hF
        have H2 := hide hB2
        clear hb1 hB1 hB2 f1 f2 HG hF
        go_wp2_with fail
        refine (unhide HFI).mono ?_
        rintro e y3 ⟨rfl, hb3⟩
        have hB3 := (unhide H2).trans (hb3.mono (unhide H2).size)
        have HB3 := hide hB3
        clear hb3 a1 a2 HFI hwl
        obtain ⟨a0, f0⟩ := ((unhide HH).2.2.2.1.below hB3).at k hkn 0 (by decide)
        obtain ⟨b1, f1⟩ := ((unhide HH).2.2.2.1.below hB3).at k hkn 1 (by decide)
        obtain ⟨b2, f2⟩ := ((unhide HH).2.2.2.1.below hB3).at k hkn 2 (by decide)
        rw [(unhide HX).1, Nat.add_zero] at a0
        rw [(unhide HX).1] at b1 b2
        simp only [slC, List.getElem?_cons_zero, List.getElem?_cons_succ] at a0 b1 b2
        clear hB3 f0 f1 f2
        go_wp2
        go_quiet (fail)
        go_wp2
        go_ret
        exact ⟨rfl, below_drewN (unhide HB3) _⟩
      | some q' =>
        obtain ⟨d', c'⟩ := q'
        by_cases heq : d' = d ∧ c' = c
        · obtain ⟨rfl, rfl⟩ := heq
          have hkm : k < m := by
            rcases Nat.lt_or_ge k m with q | q
            · exact q
            · exact absurd (by rw [show m = k by omega, hTk, hUk]) hdif
          have HG := hide (iget_some (h.below hB) hU hn k hkn d' c' hUk)
          have HX := hide (And.intro hTk (And.intro hB (And.intro hok hUk)))
          clear h hU hT hW hTk hUk hB hok hlow hdif
          go_wp2_with fail
          refine (unhide HG).mono ?_
          rintro e y1 ⟨rfl, hb1⟩
          have hB1 : Below w.heap.size w y1 := (unhide HX).2.1.trans (hb1.mono (unhide HX).2.1.size)
          obtain ⟨x2, hx2⟩ : ∃ q, y1.alloc (.cells #[.int .i64 (k : Int), .string d', .int .i64 (c' : Int)] 46) = q := ⟨_, rfl⟩
          obtain ⟨g2, hg2⟩ : ∃ q, y1.heap.size = q := ⟨_, rfl⟩
          have B2 : Blk x2 g2 #[.int .i64 (k : Int), .string d', .int .i64 (c' : Int)] 46 := by rw [← hx2, ← hg2]; exact Blk.new y1 _ _
          have hB2 : Below w.heap.size w x2 := by rw [← hx2]; exact hB1.alloc hB1.size _
          obtain ⟨a1, f1⟩ := ((unhide HH).2.2.2.1.below hB2).at k hkn 1 (by decide)
          obtain ⟨a2, f2⟩ := ((unhide HH).2.2.2.1.below hB2).at k hkn 2 (by decide)
          rw [(unhide HX).1] at a1 a2
          simp only [slC, List.getElem?_cons_zero, List.getElem?_cons_succ] at a1 a2
          have HFI := hide (ifindx_gen ((unhide HH).1.below hB2) d' (unhide HX).2.2.1.1 (k : Int) true (fun W hW => hW.hit (unhide HX).2.2.2 (unhide HX).2.2.1.1))
          have H2 := hide (And.intro B2 hB2)
          have HX2 := hide hx2
          have HG2 := hide hg2
          clear hb1 hB1 hB2 B2 f1 f2 HG
          go_wp2_with fail
          refine (unhide HFI).mono ?_
          rintro e y3 ⟨rfl, hb3⟩
          have hB3 : Below w.heap.size w y3 := (unhide H2).2.trans (hb3.mono (unhide H2).2.size)
          have B3 := (unhide H2).1.below hb3 (unhide H2).1.lt
          obtain ⟨a0, f0⟩ := ((unhide HH).2.2.2.1.below hB3).at k hkn 0 (by decide)
          obtain ⟨b1, f1⟩ := ((unhide HH).2.2.2.1.below hB3).at k hkn 1 (by decide)
          obtain ⟨b2, f2⟩ := ((unhide HH).2.2.2.1.below hB3).at k hkn 2 (by decide)
          rw [(unhide HX).1, Nat.add_zero] at a0
          rw [(unhide HX).1] at b1 b2
          simp only [slC, List.getElem?_cons_zero, List.getElem?_cons_succ] at a0 b1 b2
          have e0 : y3.cell? ⟨g2, 0, none⟩ = some (.int .i64 (k : Int)) := B3.cell 0
          have e1 : y3.cell? ⟨g2, 1, none⟩ = some (.string d') := B3.cell 1
          have e2 : y3.cell? ⟨g2, 2, none⟩ = some (.int .i64 (c' : Int)) := B3.cell 2
          have hse : (d'.toList == d'.toList) = true := by simp
          have HB3 := hide hB3
          clear hb3 hB3 B3 f0 f1 f2 a1 a2 HFI hx2 hg2
          go_wp2
          go_quiet (fail)
          go_wp2
          go_roundw
          case rel => exact ⟨k + 1, lk + 1, by omega, by omega, by go_num, by go_num, below_drewN (unhide HB3) _⟩
          case measure => simp [intOf]; omega
        · have HG := hide (iget_some (h.below hB) hU hn k hkn d' c' hUk)
          have HX := hide (And.intro hTk (And.intro hB (And.intro hok hUk)))
          have hdec : (d'.toList == d.toList) = false ∨ ((d'.toList == d.toList) = true ∧ ((c' : Int) == (c : Int)) = false) := by
            by_cases e1 : d' = d
            · refine .inr ⟨by rw [e1]; simp, ?_⟩
              have : c' ≠ c := fun q => heq ⟨e1, q⟩
              simp only [beq_eq_false_iff_ne, ne_eq]
              omega
            · exact .inl (str_ne e1)
          clear h hU hT hW hTk hUk hB hok hlow hdif heq
          go_wp2_with fail
          refine (unhide HG).mono ?_
          rintro e y1 ⟨rfl, hb1⟩
          have hB1 : Below w.heap.size w y1 := (unhide HX).2.1.trans (hb1.mono (unhide HX).2.1.size)
          obtain ⟨x2, hx2⟩ : ∃ q, y1.alloc (.cells #[.int .i64 (k : Int), .string d', .int .i64 (c' : Int)] 46) = q := ⟨_, rfl⟩
          obtain ⟨g2, hg2⟩ : ∃ q, y1.heap.size = q := ⟨_, rfl⟩
          have B2 : Blk x2 g2 #[.int .i64 (k : Int), .string d', .int .i64 (c' : Int)] 46 := by rw [← hx2, ← hg2]; exact Blk.new y1 _ _
          have hB2 : Below w.heap.size w x2 := by rw [← hx2]; exact hB1.alloc hB1.size _
          obtain ⟨a1, f1⟩ := ((unhide HH).2.2.2.1.below hB2).at k hkn 1 (by decide)
          obtain ⟨a2, f2⟩ := ((unhide HH).2.2.2.1.below hB2).at k hkn 2 (by decide)
          rw [(unhide HX).1] at a1 a2
          simp only [slC, List.getElem?_cons_zero, List.getElem?_cons_succ] at a1 a2
          obtain ⟨fi, fs, hF⟩ := ifind_some ((unhide HH).1.below hB2) d (unhide HX).2.2.1.1
          have HFI := hide hF
          clear hF
          have H2 := hide (And.intro B2 hB2)
          have HX2 := hide hx2
          have HG2 := hide hg2
          clear hb1 hB1 hB2 B2 f1 f2 HG
          go_wp2_with fail
          refine (unhide HFI).mono ?_
          rintro e y3 ⟨rfl, hb3⟩
          have hB3 : Below w.heap.size w y3 := (unhide H2).2.trans (hb3.mono (unhide H2).2.size)
          have B3 := (unhide H2).1.below hb3 (unhide H2).1.lt
          obtain ⟨a0, f0⟩ := ((unhide HH).2.2.2.1.below hB3).at k hkn 0 (by decide)
          obtain ⟨b1, f1⟩ := ((unhide HH).2.2.2.1.below hB3).at k hkn 1 (by decide)
          obtain ⟨b2, f2⟩ := ((unhide HH).2.2.2.1.below hB3).at k hkn 2 (by decide)
          rw [(unhide HX).1, Nat.add_zero] at a0
          rw [(unhide HX).1] at b1 b2
          simp only [slC, List.getElem?_cons_zero, List.getElem?_cons_succ] at a0 b1 b2
          have e0 : y3.cell? ⟨g2, 0, none⟩ = some (.int .i64 (k : Int)) := B3.cell 0
          have e1 : y3.cell? ⟨g2, 1, none⟩ = some (.string d') := B3.cell 1
          have e2 : y3.cell? ⟨g2, 2, none⟩ = some (.int .i64 (c' : Int)) := B3.cell 2
          have hse : (d'.toList == d'.toList) = true := by simp
          have HB3 := hide hB3
          clear hb3 hB3 B3 f0 f1 f2 a1 a2 HFI hx2 hg2
          rcases hdec with h1 | ⟨h1, h2⟩
          all_goals
            go_wp2
            go_quiet (fail)
            go_wp2
            go_ret
            exact ⟨rfl, below_drewN (unhide HB3) _⟩
/-- Told, whatever the row holds. -/
theorem told_all {w0 w : World} {xb pb a eb bm n wb : Nat} {T U : Nat → En} (h : IM w0 w xb pb a eb bm n U) (hU : TOk n U) (hT : TOk n T) (hn : n ≤ 1024) (hW : WR w wb n T) :
    ∃ r : Bool, (T = U → r = true) ∧ Calls Tryz.prog 21 #[.pointer (some ⟨xb, 0, none⟩), .slice (some ⟨wb, 0, none⟩) n n] w fun e w' => e = .returned (.bool r) ∧ Below w.heap.size w w' := by
  by_cases q : ∀ i, i < n → T i = U i
  · exact ⟨true, fun _ => rfl, told_true h hU hn (hW.congr q)⟩
  · obtain ⟨m, hm1, hm2⟩ : ∃ m, (m < n ∧ T m ≠ U m) ∧ ∀ i, i < m → T i = U i := by
      have hex : ∃ m, m < n ∧ T m ≠ U m := by
        apply Classical.byContradiction
        intro r
        exact q (fun i hi => Classical.byContradiction (fun s => r ⟨i, hi, s⟩))
      obtain ⟨m0, hm0⟩ := hex
      have : ∀ m, (m < n ∧ T m ≠ U m) → ∃ m, (m < n ∧ T m ≠ U m) ∧ ∀ i, i < m → T i = U i := by
        intro m
        induction m using Nat.strongRecOn with
        | ind m ih =>
          intro hm
          by_cases r : ∀ i, i < m → T i = U i
          · exact ⟨m, hm, r⟩
          · have : ∃ i, i < m ∧ T i ≠ U i := Classical.byContradiction (fun s => r (fun i hi => Classical.byContradiction (fun t => s ⟨i, hi, t⟩)))
            obtain ⟨i, hi, hne⟩ := this
            exact ih i hi ⟨by omega, hne⟩
      exact this m0 hm0
    exact ⟨false, fun e => absurd (by rw [e]) hm1.2, told_false h hU hT hn hW m hm1.1 hm2 hm1.2⟩
end Go.Proofs.YtnfcnpolflfpfaaGreatDoor
