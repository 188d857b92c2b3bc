import Derived.Test.YtnfcnpolflfpfaaGreatDoorMr46
import Derived.BigQuiet
namespace Go.Proofs.YtnfcnpolflfpfaaGreatDoor
open Go.RowKit Go.Maps Go.Sort Go.Shelf
theorem lstE_succ (T : Nat → En) (k : Nat) : (lstE T (k + 1)).length = (lstE T k).length + (if (T k).isSome then 1 else 0) := by
  unfold lstE
  rw [List.range_succ, List.filter_append, List.length_append]
  congr 1
  cases hq : (T k).isSome <;> simp [List.filter, hq]
theorem lstE_rise (T : Nat → En) (n k : Nat) (hk : k + 1 < (lstE T n).length) : (lstE T n).getD k 0 < (lstE T n).getD (k + 1) 0 := by
  have hs : (lstE T n).Pairwise (fun x y => x < y) := (List.pairwise_lt_range (n := n)).filter _
  have h1 : k < (lstE T n).length := by omega
  have := List.pairwise_iff_getElem.1 hs k (k + 1) h1 hk (by omega)
  simpa [h1, hk] using this
set_option maxRecDepth 100000 in
set_option maxHeartbeats 2000000 in
theorem told_true {w0 w : World} {xb pb a eb bm n wb : Nat} {T : Nat → En} (h : IM w0 w xb pb a eb bm n T) (hT : TOk n T) (hn : n ≤ 1024) (hW : WR w wb n T) :
    Calls Tryz.prog 21 #[.pointer (some ⟨xb, 0, none⟩), .slice (some ⟨wb, 0, none⟩) n n] w fun e w' => e = .returned (.bool true) ∧ Below w.heap.size w w' := by
  have HH := hide (And.intro h (And.intro hT hW))
  clear h hT hW
  go_enter Tryz.func21, Tryz.ntmps21
  go_wp2
  go_loopw [5, 6] (fun c i wr => ∃ k : Nat, k ≤ n ∧ c = .int .i64 ((lstE T k).length : Int) ∧ i = .int .i64 (k : Int) ∧ Below w.heap.size w wr) (fun _ i _ => n - (intOf i).toNat)
  case atStart => exact ⟨0, by omega, rfl, rfl, Below.refl _ _⟩
  case round =>
    obtain ⟨k, hk, rfl, rfl, hB⟩ := hrel
    obtain ⟨wo, rfl⟩ : ∃ wo, wo = wr := ⟨_, rfl⟩
    have hlk : (lstE T k).length ≤ 1024 := by
      have := List.length_filter_le (fun i => (T i).isSome) (List.range k)
      rw [List.length_range] at this
      exact Nat.le_trans this (by omega)
    have HSU := hide (lstE_succ T k)
    obtain ⟨lk, hlkE⟩ : ∃ q, (lstE T k).length = q := ⟨_, rfl⟩
    rw [hlkE] at HSU hlk ⊢
    have HLK := hide hlkE
    clear hlkE
    by_cases hkn : k < n
    · have hkn' : (k : Int) < (n : Int) := by omega
      have k0 : (0 : Int) ≤ (k : Int) := by omega
      obtain ⟨h, hT, hW⟩ := unhide HH
      cases hTk : T k with
      | none =>
        have HG := hide (iget_none (h.below hB) hT hn k hkn none rfl hTk)
        have HX := hide (And.intro hTk hB)
        clear h hT hW hTk hB
        go_wp2_with fail
        refine (unhide HG).mono ?_
        rintro e y1 ⟨rfl, hb1⟩
        have hB1 : Below w.heap.size w y1 := (unhide HX).2.trans (hb1.mono (unhide HX).2.size)
        have hB2 := hB1.alloc hB1.size (.cells #[.int .i64 0, .string ⟨#[]⟩, .int .i64 0] 46)
        obtain ⟨a2, f2⟩ := ((unhide HH).2.2.below hB2).at k hkn 2 (by decide)
        rw [(unhide HX).1] at a2
        simp only [slC, List.getElem?_cons_zero, List.getElem?_cons_succ] at a2
        have HB2 := hide hB2
        have a3 : y1.cell? ⟨wb, k * 3 + 2, none⟩ = some (.int .i64 0) := by
          obtain ⟨q, _⟩ := ((unhide HH).2.2.below hB1).at k hkn 2 (by decide)
          rw [(unhide HX).1] at q
          exact q
        have hwl : wb < y1.heap.size := Nat.lt_of_lt_of_le (unhide HH).2.2.lt hB1.size
        clear hb1 hB1 hB2 f2 HG
        go_wp2
        go_roundw
        case rel => exact ⟨k + 1, by omega, by rw [unhide HSU, (unhide HX).1]; rfl, by go_num, unhide HB2⟩
        case measure => simp [intOf]; omega
      | some q =>
        obtain ⟨d, c⟩ := q
        have HG := hide (iget_some (h.below hB) hT hn k hkn d c hTk)
        have hok := hT.ok k d c hTk
        have hcz : ((c : Int) == 0) = false := by simp; omega
        have hcn : 0 < c := hok.2.1
        have HX := hide (And.intro hTk (And.intro hB hok))
        clear h hT hW hTk hB hok
        go_wp2_with fail
        refine (unhide HG).mono ?_
        rintro e y1 ⟨rfl, hb1⟩
        have hB1 : Below w.heap.size w y1 := (unhide HX).2.1.trans (hb1.mono (unhide HX).2.1.size)
        obtain ⟨x2, hx2⟩ : ∃ q, y1.alloc (.cells #[.int .i64 (k : Int), .string d, .int .i64 (c : Int)] 46) = q := ⟨_, rfl⟩
        obtain ⟨g2, hg2⟩ : ∃ q, y1.heap.size = q := ⟨_, rfl⟩
        have B2 : Blk x2 g2 #[.int .i64 (k : Int), .string d, .int .i64 (c : Int)] 46 := by rw [← hx2, ← hg2]; exact Blk.new y1 _ _
        have hB2 : Below w.heap.size w x2 := by rw [← hx2]; exact hB1.alloc hB1.size _
        obtain ⟨a1, f1⟩ := ((unhide HH).2.2.below hB2).at k hkn 1 (by decide)
        obtain ⟨a2, f2⟩ := ((unhide HH).2.2.below hB2).at k hkn 2 (by decide)
        rw [(unhide HX).1] at a1 a2
        simp only [slC, List.getElem?_cons_zero, List.getElem?_cons_succ] at a1 a2
        have HFI := hide (ifindx_gen ((unhide HH).1.below hB2) d (unhide HX).2.2.1 (k : Int) true (fun W hW => hW.hit (unhide HX).1 (unhide HX).2.2.1))
        have H2 := hide (And.intro B2 hB2)
        have HX2 := hide hx2
        have HG2 := hide hg2
        clear hb1 hB1 hB2 B2 f1 f2 HG
        go_wp2_with fail
        refine (unhide HFI).mono ?_
        rintro e y3 ⟨rfl, hb3⟩
        have hB3 : Below w.heap.size w y3 := (unhide H2).2.trans (hb3.mono (unhide H2).2.size)
        have B3 := (unhide H2).1.below hb3 (unhide H2).1.lt
        obtain ⟨a0, f0⟩ := ((unhide HH).2.2.below hB3).at k hkn 0 (by decide)
        obtain ⟨b1, f1⟩ := ((unhide HH).2.2.below hB3).at k hkn 1 (by decide)
        obtain ⟨b2, f2⟩ := ((unhide HH).2.2.below hB3).at k hkn 2 (by decide)
        rw [(unhide HX).1, Nat.add_zero] at a0
        rw [(unhide HX).1] at b1 b2
        simp only [slC, List.getElem?_cons_zero, List.getElem?_cons_succ] at a0 b1 b2
        have e0 : y3.cell? ⟨g2, 0, none⟩ = some (.int .i64 (k : Int)) := B3.cell 0
        have e1 : y3.cell? ⟨g2, 1, none⟩ = some (.string d) := B3.cell 1
        have e2 : y3.cell? ⟨g2, 2, none⟩ = some (.int .i64 (c : Int)) := B3.cell 2
        have hse : (d.toList == d.toList) = true := by simp
        have HB3 := hide hB3
        clear hb3 hB3 B3 f0 f1 f2 a1 a2 HFI hx2 hg2
        go_wp2
        go_quiet (fail)
        go_wp2
        go_roundw
        case rel => exact ⟨k + 1, by omega, by rw [unhide HSU, (unhide HX).1]; show _ = Value.int .i64 ((lk + 1 : Nat) : Int); go_num, by go_num, below_drewN (unhide HB3) _⟩
        case measure => simp [intOf]; omega
    · have hke : k = n := by omega
      have hkn' : ¬ (k : Int) < (n : Int) := by omega
      obtain ⟨h, hT, hW⟩ := unhide HH
      have HEA := hide (ieach_any (h.below hB) hT hn)
      have hlk' := unhide HLK
      rw [hke] at hlk'
      rw [hlk'] at HEA
      have HB := hide (And.intro hB hlk')
      clear h hT hW hB hlk' hke HSU
      go_wp2_with fail
      refine (unhide HEA).mono ?_
      rintro e w1 ⟨pv, cv, rfl, hSl, hb1⟩
      have hB1 : Below w.heap.size w w1 := (unhide HB).1.trans (hb1.mono (unhide HB).1.size)
      have H1 := hide (And.intro hSl hB1)
      clear hSl hb1 hB1 HEA
      go_wp2
      go_loopw [12] (fun i wr => ∃ j : Nat, j ≤ lk ∧ i = .int .i64 (j : Int) ∧ Below w1.heap.size w1 wr) (fun i _ => lk - (intOf i).toNat)
      case atStart => exact ⟨0, by omega, rfl, Below.refl _ _⟩
      case round =>
        obtain ⟨j, hj, rfl, hBj⟩ := hrel
        obtain ⟨wq, rfl⟩ : ∃ wq, wq = wr := ⟨_, rfl⟩
        by_cases hjn : j < lk
        · have hjn' : (j : Int) < (lk : Int) := by omega
          have j0 : (0 : Int) ≤ (j : Int) := by omega
          have hjl : j < (lstE T n).length := by rw [(unhide HB).2]; exact hjn
          obtain ⟨_, l2, ⟨d, c, l3⟩, _⟩ := lstE_at T n j hjl
          obtain ⟨g, oo, rfl, hgl, hcc⟩ := (unhide H1).1 j hjl
          have s0 := hcc 0 (by decide)
          have s1 := hcc 1 (by decide)
          have s2 := hcc 2 (by decide)
          rw [l3, ← hBj.cell (p := ⟨g, _, none⟩) hgl] at s0 s1 s2
          rw [Nat.add_zero] at s0
          obtain ⟨i, hii⟩ : ∃ q, (lstE T n).getD j 0 = q := ⟨_, rfl⟩
          rw [hii] at l2 l3 s0 s1 s2
          have hBw : Below w.heap.size w wq := (unhide H1).2.trans (hBj.mono (unhide H1).2.size)
          obtain ⟨a0, f0⟩ := ((unhide HH).2.2.below hBw).at i l2 0 (by decide)
          obtain ⟨a1, f1⟩ := ((unhide HH).2.2.below hBw).at i l2 1 (by decide)
          obtain ⟨a2, f2⟩ := ((unhide HH).2.2.below hBw).at i l2 2 (by decide)
          rw [l3, Nat.add_zero] at a0
          rw [l3] at a1 a2
          simp only [slC, List.getElem?_cons_zero, List.getElem?_cons_succ] at a0 a1 a2 s0 s1 s2
          have hse : (d.toList == d.toList) = true := by simp
          have d1 : decide ((i : Int) < 0) = false := decide_eq_false (by omega)
          have d2 : decide ((n : Int) ≤ (i : Int)) = false := decide_eq_false (by omega)
          have i0 : (0 : Int) ≤ (i : Int) := by omega
          have i1 : (i : Int) < (n : Int) := by omega
          have i2 : ¬ n ≤ i := by omega
          have HBJ := hide hBj
          cases j with
          | zero =>
            simp only [Nat.zero_mul, Nat.add_zero, Int.cast_ofNat_Int] at *
            clear hcc f0 f1 f2 hBw hBj hjl l3 hii
            go_wp2
            go_quiet (fail)
            go_wp2
            go_roundw
            case rel => exact ⟨1, by omega, by go_num, below_drewN (unhide HBJ) _⟩
            case measure => simp [intOf]; omega
          | succ km =>
            have hjl2 : km < (lstE T n).length := by omega
            obtain ⟨_, p2, ⟨d', c', p3⟩, _⟩ := lstE_at T n km hjl2
            have hri := lstE_rise T n km hjl
            obtain ⟨g', oo', e', _, hcc'⟩ := (unhide H1).1 km hjl2
            obtain ⟨rfl, rfl⟩ : g = g' ∧ oo = oo' := by simpa using e'
            have t0 := hcc' 0 (by decide)
            rw [p3, ← hBj.cell (p := ⟨g, _, none⟩) hgl, Nat.add_zero] at t0
            obtain ⟨ip, hip⟩ : ∃ q, (lstE T n).getD km 0 = q := ⟨_, rfl⟩
            rw [hii, hip] at hri
            rw [hip] at t0
            simp only [slC, List.getElem?_cons_zero] at t0
            have d3 : decide ((i : Int) ≤ (ip : Int)) = false := decide_eq_false (by omega)
            have i3 : ¬ i ≤ ip := by omega
            obtain ⟨j, hjj⟩ : ∃ q, km + 1 = q := ⟨_, rfl⟩
            have e1 : (j : Int) - 1 = (km : Int) := by omega
            have km0 : (0 : Int) ≤ (km : Int) := by omega
            have kml : (km : Int) < (lk : Int) := by omega
            have d4 : decide ((0 : Int) < (j : Int)) = true := decide_eq_true (by omega)
            have j3 : 0 < j := by omega
            rw [hjj] at s0 s1 s2 hjn hjn' j0 hj ⊢
            clear hcc hcc' f0 f1 f2 hBw hBj hjl hjl2 l3 hii hip p3 e' hjj hri
            go_wp2
            go_quiet (fail)
            go_wp2
            go_roundw
            case rel => exact ⟨j + 1, by omega, by go_num, below_drewN (unhide HBJ) _⟩
            case measure => simp [intOf]; omega
        · have hje : j = lk := by omega
          have hjn' : ¬ (j : Int) < (lk : Int) := by omega
          have HF := hide ((unhide H1).2.trans (hBj.mono (unhide H1).2.size))
          clear hBj hje
          go_wp2
          go_ret
          exact ⟨rfl, unhide HF⟩
end Go.Proofs.YtnfcnpolflfpfaaGreatDoor
