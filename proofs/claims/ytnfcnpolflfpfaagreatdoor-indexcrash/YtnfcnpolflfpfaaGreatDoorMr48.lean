import Derived.Test.YtnfcnpolflfpfaaGreatDoorMr47
import Derived.Test.YtnfcnpolflfpfaaGreatDoorMr14
namespace Go.Proofs.YtnfcnpolflfpfaaGreatDoor
open Go.RowKit Go.Maps Go.Sort Go.Shelf
theorem only_setRow {w : World} {g : Nat} {old cs : Array Value} {t : TypeId} (hg : Blk w g old t) : Only (fun x => x = g) w (w.setRow g cs) ∧ Blk (w.setRow g cs) g cs t := by
  refine ⟨⟨⟨rfl, rfl, rfl, by simp, fun k hk => absurd hk (Nat.not_lt_zero k)⟩, fun k _ hk => setRow_other w g k cs hk⟩, setRow_heap w g old cs t (0, 0) hg⟩
theorem slC_one (i : Nat) (e : En) : ∀ v ∈ slC i e, v.oneCell' = true := fun v hv => by
  cases e with
  | none => simp [slC] at hv; rcases hv with rfl | rfl | rfl <;> rfl
  | some p => simp [slC] at hv; rcases hv with rfl | rfl | rfl <;> rfl
theorem infoSl3 : (Tryz.prog.info? 46).map (·.size) = some 3 := by kernel_rfl
/-- A row of slots is copied over another. -/
theorem wcopy {w : World} {wb nb n : Nat} {T : Nat → En} {cur : Array Value} (hW : WR w wb n T) (hB : Blk w nb cur 46) (hc : cur.size = 3 * n) :
    ∃ w', (∀ ty, (Builtin.copy_ #[29, 29] ty #[.slice (some ⟨nb, 0, none⟩) n n, .slice (some ⟨wb, 0, none⟩) n n]).run Tryz.prog w = .ok (.int .i64 (n : Int)) w') ∧ WR w' nb n T ∧ Only (fun x => x = nb) w w' := by
  obtain ⟨cs, h1, h2, h3⟩ := hW
  obtain ⟨q1, q2⟩ := only_setRow (cs := (cur.toList.take 0 ++ cs ++ cur.toList.drop (0 + cs.length)).toArray) hB
  have hone : ∀ v ∈ cs, v.oneCell' = true := fun v hv => by
    obtain ⟨j, hj, rfl⟩ := List.mem_iff_getElem.1 hv
    have hi := h3 (j / 3) (by omega)
    refine slC_one (j / 3) (T (j / 3)) _ ?_
    rw [← hi, List.mem_iff_getElem?]
    exact ⟨j % 3, by rw [List.getElem?_take, if_pos (by omega), List.getElem?_drop, show j / 3 * 3 + j % 3 = j by omega, List.getElem?_eq_getElem hj]⟩
  refine ⟨_, fun ty => run_copy_rowK w 29 29 ty 46 3 nb 0 n n ⟨wb, 0, none⟩ n n cur 46 cs n Tryz.underlying29 infoSl3 hB (by simp) (by omega) (fun j v hv => ?_) (by omega) hone, ⟨cs, ?_, h2, h3⟩, q1⟩
  · rw [Addr.add_mid, Nat.zero_add, h1.cell]
    simpa using hv
  · have e : cur.toList.take 0 ++ cs ++ cur.toList.drop (0 + cs.length) = cs := by
      rw [List.take_zero, List.nil_append, List.drop_of_length_le (by rw [Array.length_toList]; omega), List.append_nil]
    rw [e] at q2 ⊢
    exact q2
/-- Lists of changes, as they lie there. -/
def Rll (w : World) (p : Option Addr) (m : Nat) : Prop := ∀ i, i < m → ∃ g o q l c, p = some ⟨g, o, none⟩ ∧ g < w.heap.size ∧ w.cell? ⟨g, o + i, none⟩ = some (.slice q l c) ∧ Raws w q l ∧ l ≤ 9223372036854775807
theorem Rll.below {w w' : World} {p : Option Addr} {m : Nat} (h : Rll w p m) (hb : Below w.heap.size w w') : Rll w' p m := fun i hi => by
  obtain ⟨g, o, q, l, c, e, hg, c0, r, hl⟩ := h i hi
  exact ⟨g, o, q, l, c, e, Nat.lt_of_lt_of_le hg hb.size, by rw [hb.cell (p := ⟨g, _, none⟩) hg]; exact c0, r.below hb, hl⟩
/-- An index between transactions, and the row that tells what was committed. -/
def FRun (x0 : World) (b jb pb xb : Nat) (k : Nat) (u : Value) (wr : World) : Prop :=
  ∃ wb L A hn T, u = .slice (some ⟨wb, 0, none⟩) 20 20 ∧ A.length ≤ 1000 + 38 * k ∧ x0.heap.size ≤ wb ∧ ISt x0 wr b jb pb xb (fun x => x = wb) 30 20 4 false L A hn T T T ∧ WR wr wb 20 T
/-- Within a transaction: the row wb tells what was committed, nb what the transaction sees. -/
def FIn (x0 : World) (b jb pb xb : Nat) (L : List ByteArray) (A : List (Nat × Nat)) (hn : Nat) (T : Nat → En) (wb nb : Nat) (wr : World) : Prop :=
  ∃ T', ISt x0 wr b jb pb xb (fun x => x = wb ∨ x = nb) 30 20 4 true L A hn T T' T' ∧ WR wr nb 20 T' ∧ WR wr wb 20 T
set_option maxRecDepth 100000 in
set_option maxHeartbeats 8000000 in
theorem finds8_walk (p : Option Addr) (m c : Nat) (x1 : Int) (w : World) (hg : ETy w) (hR : Rll w p m) (hm : m ≤ 9223372036854775807) :
    Calls Tryz.prog 5 #[.slice p m c, .int .i64 x1] w fun e w' => e = .returned (.bool true) ∧ Below w.heap.size w w' := by
  have HAW := hide (awake8_any w hg)
  have HH := hide (And.intro hg hR)
  clear hg hR
  go_enter Tryz.func5, Tryz.ntmps5
  go_wp2_with fail
  refine (unhide HAW).mono ?_
  rintro e x0 ⟨rfl, hb0⟩
  have hg0 : ETy x0 := (unhide HH).1.below hb0 (unhide HH).1.lt
  have HOP := hide (opened_any 20 (by decide) (by decide) x0 hg0)
  simp only [Int.cast_ofNat_Int] at HOP
  have H0 := hide (And.intro hb0 ((unhide HH).2.below hb0))
  clear hb0 hg0 HAW
  go_wp2_with fail
  refine (unhide HOP).mono ?_
  rintro e x2 ⟨b, pb, xb, rfl, jb, L, A, hn, hA, hS⟩
  have hmk := wmake 20 (by decide) x2
  simp only [Int.cast_ofNat_Int] at hmk
  obtain ⟨wb, hwb⟩ : ∃ q, x2.heap.size = q := ⟨_, rfl⟩
  obtain ⟨x3, hx3⟩ : ∃ q, x2.alloc (.cells (madeCells #[.int .i64 0, .string ⟨#[]⟩, .int .i64 0] (20 * 3)) 46) = q := ⟨_, rfl⟩
  rw [hx3, hwb] at hmk
  have hW2 : WR x3 wb 20 (fun _ => none) := by rw [← hx3, ← hwb]; exact wr_made x2 20
  have hb2 : Below x2.heap.size x2 x3 := by rw [← hx3]; exact (Below.refl _ _).alloc (Nat.le_refl _) _
  have hS2 := hS.more (Z := fun x => x = wb) hb2 (fun x q => by rw [q, hwb]; exact .inr ⟨Nat.le_refl _, hW2.lt⟩)
  have X3 := hide (show FRun x0 b jb pb xb 0 (.slice (some ⟨wb, 0, none⟩) 20 20) x3 from ⟨wb, L, A, hn, _, rfl, by omega, by rw [← hwb]; exact hS.bel.size, hS2, hW2⟩)
  clear hS hb2 hW2 hS2 hA HOP hx3 hwb
  go_wp2
  clear hmk
  go_loopw [10, 11] (fun u i wr => ∃ k : Nat, k ≤ m ∧ k ≤ 12 ∧ i = .int .i64 (k : Int) ∧ FRun x0 b jb pb xb k u wr) (fun _ i _ => m - (intOf i).toNat)
  case atStart => exact ⟨0, by omega, by omega, rfl, unhide X3⟩
  case round =>
    obtain ⟨k, hk, hk12, rfl, wb, L, A, hn, T, rfl, hA, hwb, hS, hW⟩ := hrel
    obtain ⟨wo, rfl⟩ : ∃ wo, wo = wr := ⟨_, rfl⟩
    clear X3
    by_cases hkn : k < m ∧ k < 12
    · have hd1 : decide ((k : Int) < (m : Int)) = true := decide_eq_true (by omega)
      have hd2 : decide ((k : Int) < 12) = true := decide_eq_true (by omega)
      have k0 : (0 : Int) ≤ (k : Int) := by omega
      have k1 : (k : Int) < (m : Int) := by omega
      obtain ⟨g, oo, q, l, c2, rfl, hgl, cg, hraw, hll⟩ := (unhide H0).2 k hkn.1
      have HBE := hide hS.begin
      have H1 := hide (And.intro hA (And.intro hwb (And.intro hW (And.intro hgl (And.intro cg hraw)))))
      clear hA hwb hS hW hgl cg hraw
      go_wp2_with fail
      refine (unhide HBE).mono ?_
      rintro e y1 ⟨rfl, hS1, hO1⟩
      obtain ⟨hA, hwb, hW, hgl, cg, hraw⟩ := unhide H1
      have hW1 := hW.only hO1 (fun q => q rfl)
      have hmk := wmake 20 (by decide) y1
      simp only [Int.cast_ofNat_Int] at hmk
      obtain ⟨nb, hnb⟩ : ∃ q, y1.heap.size = q := ⟨_, rfl⟩
      obtain ⟨y2, hy2⟩ : ∃ q, y1.alloc (.cells (madeCells #[.int .i64 0, .string ⟨#[]⟩, .int .i64 0] (20 * 3)) 46) = q := ⟨_, rfl⟩
      rw [hy2, hnb] at hmk
      have hb2 : Below y1.heap.size y1 y2 := by rw [← hy2]; exact (Below.refl _ _).alloc (Nat.le_refl _) _
      have B2 : Blk y2 nb (madeCells #[.int .i64 0, .string ⟨#[]⟩, .int .i64 0] (20 * 3)) 46 := by rw [← hy2, ← hnb]; exact Blk.new y1 _ _
      have hwn : wb ≠ nb := by have := hW1.lt; omega
      have hS2 := hS1.more (Z := fun x => x = wb ∨ x = nb) hb2 (fun x q => by
        rcases q with q | q
        · exact .inl q
        · rw [q, ← hnb]; exact .inr ⟨Nat.le_refl _, by rw [hnb]; exact B2.lt⟩)
      obtain ⟨y3, hcp, hN3, hO3⟩ := wcopy (hW1.below hb2) B2 (by rw [size_madeCells])
      simp only [Int.cast_ofNat_Int] at hcp
      have hnl : x0.heap.size ≤ nb := by rw [← hnb]; exact hS1.bel.size
      have hS3 := hS2.poke (Z := fun x => x = wb ∨ x = nb) hO3 (fun x r _ => .inr r) (fun x r => by rw [r]; exact hnl) (fun x q => .inl q)
      have X3 := hide (show FIn x0 b jb pb xb L A hn T wb nb y3 from ⟨T, hS3, hN3, (hW1.below hb2).only hO3 hwn⟩)
      have H2 := hide (And.intro hwn hnl)
      clear hS1 hO1 hA hwb hW hgl cg hraw hW1 hb2 B2 hwn hS2 hN3 hO3 hnl hS3 HBE hy2 hnb
      go_wp2
      clear hmk hcp
      go_loopw [14] (fun i wr => ∃ j : Nat, j ≤ l ∧ j ≤ 30 ∧ i = .int .i64 (j : Int) ∧ FIn x0 b jb pb xb L A hn T wb nb wr) (fun i _ => l - (intOf i).toNat)
      case atStart => exact ⟨0, by omega, by omega, rfl, unhide X3⟩
      case round =>
        obtain ⟨j, hj, hj30, rfl, T', hS, hN, hW⟩ := hrel
        obtain ⟨wq, rfl⟩ : ∃ wq, wq = wr := ⟨_, rfl⟩
        clear X3
        have cg : wq.cell? ⟨g, oo + k, none⟩ = some (.slice q l c2) := by rw [hS.bel.cell (p := ⟨g, oo + k, none⟩) (unhide H1).2.2.2.1]; exact (unhide H1).2.2.2.2.1
        by_cases hjn : j < l ∧ j < 30
        · have hd3 : decide ((j : Int) < (l : Int)) = true := decide_eq_true (by omega)
          have hd4 : decide ((j : Int) < 30) = true := decide_eq_true (by omega)
          have j0 : (0 : Int) ≤ (j : Int) := by omega
          have j1 : (j : Int) < (l : Int) := by omega
          obtain ⟨g', o', kd, pl, dg, ct, rfl, hgl', c0, c1, c2', c3, i1, i2, i3⟩ := (unhide H1).2.2.2.2.2 j hjn.1
          rw [← hS.bel.cell (p := ⟨g', _, none⟩) hgl'] at c0 c1 c2' c3
          have HCH := hide (change_any hS (by decide) (by decide) (.inr rfl) (unhide H2).2 hN kd pl dg ct i1 i2 i3)
          have HWW := hide hW
          clear hS hN hW hgl' i1 i2 i3
          go_wp2_with fail
          refine (unhide HCH).mono ?_
          rintro e y4 ⟨rfl, T2, k1', k2', k3'⟩
          have HC := hide (show FIn x0 b jb pb xb L A hn T wb nb y4 from ⟨T2, k1', k2', (unhide HWW).only k3' (by rintro (q | q); exact q (.inl rfl); exact (unhide H2).1 q)⟩)
          clear k1' k2' k3' HCH HWW
          go_wp2
          go_roundw
          case rel => exact ⟨j + 1, by omega, by omega, by go_num, unhide HC⟩
          case measure => simp [intOf]; omega
        · have hdd : (¬ j < l ∧ decide ((j : Int) < (l : Int)) = false) ∨ (decide ((j : Int) < (l : Int)) = true ∧ decide ((j : Int) < 30) = false ∧ j < l ∧ ¬ j < 30) := by
            by_cases q : j < l
            · exact .inr ⟨decide_eq_true (by omega), decide_eq_false (by omega), q, by omega⟩
            · exact .inl ⟨q, decide_eq_false (by omega)⟩
          obtain ⟨eb, bm, hM⟩ := hS.im
          have HTO := hide (told_true hM hS.ok.1 (by decide) hN)
          have HS := hide (And.intro hS (And.intro hN hW))
          clear hS hN hW hM hjn
          rcases hdd with ⟨hq1, hd3⟩ | ⟨hd3, hd4, hq1, hq2⟩
          all_goals
            go_wp2_with fail
            refine (unhide HTO).mono ?_
            rintro e y5 ⟨rfl, hb5⟩
            obtain ⟨hS, hN, hW⟩ := unhide HS
            have HAB := hide (hS.below hb5).abort
            have HCM := hide ((hS.below hb5).commit (by have := (unhide H1).1; omega))
            have H5 := hide (And.intro (hN.below hb5) (hW.below hb5))
            clear hS hN hW hb5 HTO
            go_wp2_with fail
            · clear HCM
              refine (unhide HAB).mono ?_
              rintro e y6 ⟨rfl, hS6, hO6⟩
              have HRL := hide hS6.reload
              have HW6 := hide ((unhide H5).2.only hO6 (fun q => q (.inl rfl)))
              clear hS6 hO6 HAB
              go_wp2_with fail
              refine (unhide HRL).mono ?_
              rintro e y7 ⟨rfl, hS7, hO7⟩
              have hW7 := (unhide HW6).only hO7 (fun q => q (.inl rfl))
              obtain ⟨eb', bm', hM⟩ := hS7.im
              have HTO := hide (told_true hM hS7.ok.1 (by decide) hW7)
              have HS7 := hide (And.intro hS7 hW7)
              clear hS7 hO7 hW7 hM HW6 HRL
              go_wp2_with fail
              refine (unhide HTO).mono ?_
              rintro e y8 ⟨rfl, hb8⟩
              have HF := hide (show FRun x0 b jb pb xb (k + 1) (.slice (some ⟨wb, 0, none⟩) 20 20) y8 from ⟨wb, L, A, hn, T, rfl, by have := (unhide H1).1; omega, (unhide H1).2.1, ((unhide HS7).1.less (fun x q => .inl q)).below hb8, (unhide HS7).2.below hb8⟩)
              clear hb8 HTO HS7
              go_wp2
              go_roundw
              case rel => exact ⟨k + 1, by omega, by omega, by go_num, unhide HF⟩
              case measure => simp [intOf]; omega
            · clear HAB
              refine (unhide HCM).mono ?_
              rintro e y6 ⟨rfl, ⟨L', A', hA', hS6⟩, hO6⟩
              have hW7 := (unhide H5).1.only hO6 (fun q => q (.inr rfl))
              obtain ⟨eb', bm', hM⟩ := hS6.im
              have HTO := hide (told_true hM hS6.ok.1 (by decide) hW7)
              have HS7 := hide (And.intro hA' (And.intro hS6 hW7))
              clear hS6 hO6 hW7 hM hA' HCM
              go_wp2_with fail
              refine (unhide HTO).mono ?_
              rintro e y8 ⟨rfl, hb8⟩
              have HF := hide (show FRun x0 b jb pb xb (k + 1) (.slice (some ⟨nb, 0, none⟩) 20 20) y8 from ⟨nb, L', A', _, T', rfl, by have := (unhide H1).1; have := (unhide HS7).1; omega, (unhide H2).2, ((unhide HS7).2.1.less (fun x q => .inr q)).below hb8, (unhide HS7).2.2.below hb8⟩)
              clear hb8 HTO HS7
              go_wp2
              go_roundw
              case rel => exact ⟨k + 1, by omega, by omega, by go_num, unhide HF⟩
              case measure => simp [intOf]; omega
    · have hdd : (¬ k < m ∧ decide ((k : Int) < (m : Int)) = false) ∨ (decide ((k : Int) < (m : Int)) = true ∧ decide ((k : Int) < 12) = false ∧ k < m ∧ ¬ k < 12) := by
        by_cases q : k < m
        · exact .inr ⟨decide_eq_true (by omega), decide_eq_false (by omega), q, by omega⟩
        · exact .inl ⟨q, decide_eq_false (by omega)⟩
      have HIM := hide hS.image
      have HS := hide (And.intro hwb (And.intro hS hW))
      clear hS hW hwb hkn
      rcases hdd with ⟨hq1, hd1⟩ | ⟨hd1, hd2, hq1, hq2⟩
      all_goals
        go_wp2_with fail
        refine (unhide HIM).mono ?_
        rintro e y1 ⟨gi, cap, rfl, hgi, hI, hb1⟩
        have HLD := hide (load128 y1 (some ⟨gi, 0, none⟩) cap L (unhide HS).2.1.lasts.2.1 (unhide HS).2.1.lasts.2.2.1 hI)
        have HB1 := hide (And.intro hb1 trivial)
        clear hgi hI hb1 HIM
        go_wp2_with fail
        refine (unhide HLD).mono ?_
        rintro e y2 ⟨cb, cv, rfl, hD, hb2⟩
        obtain ⟨hwb, hS, hW⟩ := unhide HS
        have hb1 := (unhide HB1).1
        obtain ⟨l1, l2, l3, l4, l5⟩ := hS.lasts
        have hg1 : ETy y1 := hS.ety.below hb1 hS.ety.lt
        have HPO := hide (ipopen_rest (w0 := y1) hD hb2 (hg1.below hb2 hg1.lt) (Sane.fresh L (by omega) (by omega)) hn l5 l2 l3 l4 (by simp) 1 (by decide) l1 hS.ok.2.2 (fun L' A' T' => T' = T) rfl)
        have HB2 := hide (And.intro hS.bel (And.intro hb1 (And.intro (hW.below hb1) hg1)))
        clear hwb hS hW hb1 hb2 hD l1 l2 l3 l4 l5 hg1 HLD HS HB1
        go_wp2_with fail
        refine (unhide HPO).mono ?_
        rintro e y3 ⟨jq, pq, Sq, Lq, Aq, nq, Tq, rfl, hK, hSe, hop, htx, hIS, hTO, rfl⟩
        have HIO := hide (PoolI.open hK (unhide HB2).2.2.2 hSe hop htx hIS hTO (by decide) (by decide) (by decide) (by decide))
        clear hK hSe hop htx hIS hTO HPO
        go_wp2_with fail
        refine (unhide HIO).mono ?_
        rintro e y4 ⟨xq, rfl, hS4⟩
        obtain ⟨eb', bm', hM⟩ := hS4.im
        have HTO := hide (told_true hM hS4.ok.1 (by decide) ((unhide HB2).2.2.1.below hS4.bel))
        have HB4 := hide hS4.bel
        clear hM hS4 HIO
        go_wp2_with fail
        refine (unhide HTO).mono ?_
        rintro e y5 ⟨rfl, hb5⟩
        have HB5 := hide (show Below w.heap.size w y5 from by
          have q1 := (unhide H0).1
          have q2 := q1.trans ((unhide HB2).1.mono q1.size)
          have q3 := q2.trans ((unhide HB2).2.1.mono q2.size)
          have q4 := q3.trans ((unhide HB4).mono q3.size)
          exact q4.trans (hb5.mono q4.size))
        clear hb5 HTO
        go_wp2
        go_ret
        exact ⟨rfl, unhide HB5⟩
end Go.Proofs.YtnfcnpolflfpfaaGreatDoor
