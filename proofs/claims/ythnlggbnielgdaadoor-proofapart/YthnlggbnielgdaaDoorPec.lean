import Derived.Test.YthnlggbnielgdaaDoorPeb
namespace Go.Proofs.YthnlggbnielgdaaDoor
open Go.RowKit Go.Conc
set_option maxRecDepth 100000
theorem sizeOp : (Tryd.prog.info? 42).map (·.size) = some 11 := by kernel_rfl
theorem opr_one (x : Opr) : x.cl.toArray.all (·.oneCell') = true := by simp [Opr.cl, Value.oneCell']
theorem OpR.at {w z : World} {N : Nat} {p : Option Addr} {n : Nat} {f : Nat → Opr} (h : OpR w p n f) (hn : w.heap.size = N) (hb : Below N w z) (i : Nat) (hi : i < n) : ∃ g o, p = some ⟨g, o, none⟩ ∧ z.rangeAt g (o + i * 11) (f i).cl := by
  obtain ⟨g, o, e, hg, hr, hok⟩ := h i hi
  exact ⟨g, o, e, fun j v hv => (hb.cell (p := ⟨g, o + i * 11 + j, none⟩) (by show g < N; omega)).trans (hr j v hv)⟩
theorem same13_eq (w : World) (p1 p2 : Option Addr) (c1 c2 : Nat) (l : List Int) (n : Nat) (hn : n = l.length) (hz : n ≤ 1000000) (h1 : Ils w p1 l) (h2 : Ils w p2 l) : Calls Tryd.prog 17 #[.slice p1 n c1, .slice p2 n c2] w fun e w' => e = .returned (.bool true) ∧ Below w.heap.size w w' := by
  refine (same13_any w p1 p2 c1 c2 l l n n hn hn hz h1 h2).mono ?_
  rintro e w' ⟨rfl, hb⟩
  exact ⟨by rw [decide_eq_true rfl], hb⟩
theorem kil_new {z z1 z2 : World} {G : Nat} {ao : Option Addr} {l : List Int} (h : Ils z ao l) (hb : Below z.heap.size z z1) (ho : Only (fun x => x = G) z1 z2) (hG : z.heap.size = G) : Ils z2 ao l := fun j hj => by
  obtain ⟨g, o, e, hg, hc⟩ := h j hj
  have h1 := hb.size
  have h2 := ho.size
  exact ⟨g, o, e, by omega, only_cell ho (show ¬ (g = G) by omega) ((hb.cell (p := ⟨g, o + j, none⟩) hg).trans hc)⟩
theorem range_low {z z' : World} {g o : Nat} {cs : List Value} (hb : Below z.heap.size z z') (h : z.rangeAt g o cs) (hg : g < z.heap.size) : z'.rangeAt g o cs := fun j v hv => (hb.cell (p := ⟨g, o + j, none⟩) hg).trans (h j v hv)
theorem run_neO (a b : Int) (c d : ByteArray) (w : World) : (binOp .neq 31 (.agg #[.int .i64 a, .int .i64 b, .string c, .string d]) (.agg #[.int .i64 a, .int .i64 b, .string c, .string d])).run Tryd.prog w = .ok (.bool false) w := by
  rw [run_neq_struct, run_equalIn_struct _ _ _ _ _ (by kernel_rfl) stood_off]
  simp [Program.fieldsOf, Tryd.underlying31, go_sem]
theorem wpList_neO {ops : Array Oper} {rest : List Oper} {op : Oper} {a : Act} {w : World} {Q : Exit → Act → World → Prop} (hg : op.guard = none) (x y : Operand) (ho : op.op = .binOp .neq 31 x y 31) (u v : Int) (c d : ByteArray) (hx : a.eval x = .agg #[.int .i64 u, .int .i64 v, .string c, .string d]) (hy : a.eval y = .agg #[.int .i64 u, .int .i64 v, .string c, .string d]) (h : wpList Tryd.prog ops Q rest (a.put op.dst (.bool false)) w) : wpList Tryd.prog ops Q (op :: rest) a w :=
  wpList_plain hg fun _ hK => by
    have e := run_neO u v c d w
    have e2 := run_eqGuard_agg (P := Tryd.prog) w .neq 31 x y #[.int .i64 u, .int .i64 v, .string c, .string d] #[.int .i64 u, .int .i64 v, .string c, .string d] guard_off
    unfold Oper.wp execOp
    simp only [ho, hx, hy, Sem.run_bind, e2, Result.andThen_ok, e, Sem.run_pure]
    exact hK _ _ h
theorem only_set (w : World) (G o : Nat) (v : Value) : Only (fun x => x = G) w (w.setCell ⟨G, o, none⟩ v) := only_cells (w := w) G o [v] rfl
theorem onB_far {B G : Nat} (h : B + 9 ≤ G) : ¬ OnB B (fun i => B + 1 + i) G := fun q => by
  rcases q with q | ⟨i, hi, q⟩
  · omega
  · have q9 : G = B + 1 + i := q
    omega
set_option maxHeartbeats 4000000 in
theorem apart13 (tn : Int) (h1 : I64 tn) (p1 p2 : Option Addr) (n1 n2 c1 c2 : Nat) (f1 f2 : Nat → Opr) (w : World) (hK : KTab w) (hz1 : n1 ≤ 9223372036854775807) (hz2 : n2 ≤ 9223372036854775807) (hR1 : OpR w p1 n1 f1) (hR2 : OpR w p2 n2 f2) :
    Calls Tryd.prog 4 #[.int .i64 tn, .slice p1 n1 c1, .slice p2 n2 c2] w fun e w' => e = .returned (.bool true) ∧ Below w.heap.size w w' := by
  obtain ⟨N, hn⟩ : ∃ N, w.heap.size = N := ⟨_, rfl⟩
  have HKN := hide (known13_any w hK)
  rw [hn] at HKN
  have HKT := hide (fun (z : World) (h : Below N w z) => hK.low (w' := z) (by rw [hn]; exact h))
  have hp1 := fun W => pick13_any tn 8 (by omega) h1 W
  simp only [Int.cast_ofNat_Int] at hp1
  have hq1 := pickP_lt tn 8 (by omega)
  have HP1 := hide hp1
  obtain ⟨a, ha⟩ : ∃ a, pickP tn 8 = a := ⟨_, rfl⟩
  rw [ha] at HP1 hq1
  have HR1 := hide (fun (z : World) (h : Below N w z) (i : Nat) (hi : i < n1) => hR1.at hn h i hi)
  have HR2 := hide (fun (z : World) (h : Below N w z) (i : Nat) (hi : i < n2) => hR2.at hn h i hi)
  have HO1 := hide (fun (i : Nat) (hi : i < n1) => let ⟨_, _, _, _, _, h⟩ := hR1 i hi; h)
  have HO2 := hide (fun (i : Nat) (hi : i < n2) => let ⟨_, _, _, _, _, h⟩ := hR2 i hi; h)
  have HOF := hide (fun (c : Int) (hc : I64 c) (z : World) (h : Below N w z) => offer13_any c hc z (unhide HKT z h))
  have HDR := hide (fun (c : Int) (z : World) => draw_any c z)
  clear hp1 ha hK h1 hR1 hR2
  rw [hn]
  have w1 : IntKind.i64.wrap (1 + (a : Int)) = 1 + (a : Int) := wrapI_eq _ (by omega) (by omega)
  go_enter Tryd.func4, Tryd.ntmps4
  go_wp2_with fail
  refine (unhide HKN).mono ?_
  rintro e z1 ⟨rfl, hb1⟩
  have HL1 := hide hb1
  clear hb1 HKN
  go_wp2_with fail
  refine (unhide HP1 _).mono ?_
  rintro e z ⟨rfl, rfl⟩
  have HNW := hide (bnew_any z)
  go_wp2_with fail
  refine (unhide HNW).mono ?_
  rintro e z2 ⟨rfl, hB2, hb2⟩
  have hNb : N ≤ z.heap.size := by have h9 := (unhide HL1).size; rw [hn] at h9; exact h9
  have hL2 := (unhide HL1).trans (hb2.mono hNb)
  obtain ⟨A, hA⟩ : ∃ b, z.heap.size = b := ⟨_, rfl⟩
  rw [hA] at hB2 hNb ⊢
  have hz2s : A + 9 ≤ z2.heap.size := by
    have h9 := (hB2.ch 7 (by omega)).lt
    have h8 : A + 1 + 7 < z2.heap.size := h9
    omega
  have HNW2 := hide (bnew_any z2)
  have HB2 := hide hB2
  have HL2 := hide hL2
  clear hB2 hb2 hL2 HNW HL1 hA w1
  clear z
  go_wp2_with fail
  refine (unhide HNW2).mono ?_
  rintro e z3 ⟨rfl, hB3, hb3⟩
  have hA3 := (unhide HB2).below hb3
  have hL3 := (unhide HL2).trans (hb3.mono (by omega))
  obtain ⟨B, hBB⟩ : ∃ b, z2.heap.size = b := ⟨_, rfl⟩
  rw [hBB] at hB3 hz2s ⊢
  have HS0 := hide (show ∃ n l, Ap w N A B a n l n l z3 from ⟨0, [], ⟨_, _, _, _, ⟨hA3, hB3, hL3, hNb, hz2s⟩, fun _ => Int.le_refl _, fun _ => Int.le_refl _, rfl, rfl, rfl, rfl⟩⟩)
  have HAB := hide (And.intro hNb hz2s)
  clear hB3 hb3 hA3 hL3 HB2 HL2 HNW2 hBB hNb hz2s
  clear z2
  go_wp2
  go_loopw [11, 12] (fun u i wr => ∃ x k : Nat, x ≤ n2 ∧ k ≤ n1 ∧ u = .int .i64 (x : Int) ∧ i = .int .i64 (k : Int) ∧ ∃ n l, Ap w N A B a n l n l wr) (fun _ i _ => n1 - (intOf i).toNat)
  case atStart => exact ⟨0, 0, by omega, by omega, rfl, rfl, unhide HS0⟩
  case round =>
    obtain ⟨x, k, hx, hk, rfl, rfl, hS⟩ := hrel
    by_cases hlt : k < n1
    · have i1 : (k : Int) < (n1 : Int) := by omega
      have HSk := hide hS
      clear hS HS0
      have e3 : (k : Int).tmod 3 = ((k % 3 : Nat) : Int) := by
        rw [Int.tmod_eq_emod_of_nonneg (by omega)]
        omega
      obtain ⟨r, hr⟩ : ∃ r, k % 3 = r := ⟨_, rfl⟩
      have hr3 : r < 3 := by omega
      rw [hr] at e3
      clear hr
      have w3 : IntKind.i64.wrap (r : Int) = (r : Int) := wrapI_eq _ (by omega) (by omega)
      go_wp2
      go_loopw [11, 13] (fun u j wr => ∃ x y : Nat, x ≤ n2 ∧ y ≤ 3 ∧ u = .int .i64 (x : Int) ∧ j = .int .i64 (y : Int) ∧ ∃ n l, Ap w N A B a n l n l wr) (fun _ j _ => 3 - (intOf j).toNat)
      case atStart => exact ⟨x, 0, hx, by omega, rfl, rfl, unhide HSk⟩
      case round =>
        obtain ⟨x, y, hx, hy, rfl, rfl, hS⟩ := hrel
        obtain ⟨n, l, hS⟩ := hS
        have HSn := hide hS
        clear hS HSk
        by_cases hyr : y ≤ r
        · by_cases hxn : x < n2
          · have d1 : decide ((y : Int) ≤ (r : Int)) = true := decide_eq_true (by omega)
            have d2 : (y : Int) ≤ (r : Int) := by omega
            have d3 : (x : Int) < (n2 : Int) := by omega
            have d4 : 0 ≤ (x : Int) := by omega
            have d5 : decide ((x : Int) < (n2 : Int)) = true := decide_eq_true (by omega)
            have w5 : IntKind.i64.wrap ((x : Int) + 1) = (x : Int) + 1 := wrapI_eq _ (by omega) (by omega)
            have w6 : IntKind.i64.wrap ((y : Int) + 1) = (y : Int) + 1 := wrapI_eq _ (by omega) (by omega)
            obtain ⟨g, o, rfl, hrg⟩ := unhide HR2 _ (unhide HSn).lo x hxn
            have hok := unhide HO2 x hxn
            obtain ⟨q, hq⟩ : ∃ q, f2 x = q := ⟨_, rfl⟩
            rw [hq] at hrg hok
            clear hq
            obtain ⟨qo, qk, qt, qn, qr, qq, qv, qb, qd, qw, qdr⟩ := q
            simp only [Opr.cl] at hrg
            obtain ⟨o1, o2, o3, _, _⟩ := hok
            simp only at o1 o2 o3
            have HRG := hide hrg
            have HQN := hide o3
            clear hrg o1 o2 o3
            by_cases hte : qt = 1 + (a : Int)
            · subst hte
              by_cases k1 : qk = 1
              · subst k1
                as_aux_lemma =>
                  obtain ⟨G, hG⟩ : ∃ G, wr.heap.size = G := ⟨_, rfl⟩
                  obtain ⟨y1, hy1⟩ : ∃ Z, wr.alloc (.cells #[.bool false, .int .i64 0, .int .i64 0, .int .i64 0, .bool false, .bool false, .int .i64 0, .int .i64 0, .string ⟨#[]⟩, .string ⟨#[]⟩, .string ⟨#[]⟩] 42) = Z := ⟨_, rfl⟩
                  have hly : Below wr.heap.size wr y1 := by rw [← hy1]; exact (Below.refl _ _).alloc (Nat.le_refl _) _
                  have hby : Blk y1 G #[.bool false, .int .i64 0, .int .i64 0, .int .i64 0, .bool false, .bool false, .int .i64 0, .int .i64 0, .string ⟨#[]⟩, .string ⟨#[]⟩, .string ⟨#[]⟩] 42 := by rw [← hy1, ← hG]; exact Blk.new _ _ _
                  have hty := (unhide HSn).top
                  have hyA := (unhide HSn).low hly
                  have hTG : B + 9 ≤ G := by omega
                  have HTH := hide (blk_there hby 11 rfl)
                  have hoz : Only (fun x => x = G) y1 (y1.setCells G 0 [.bool qo, .int .i64 1, .int .i64 (1 + (a : Int)), .int .i64 qn, .bool qr, .bool qq, .int .i64 qv, .int .i64 qb, .string qd, .string qw, .string qdr]) := only_cells G 0 _ rfl
                  have hwz := setCells_all hby [.bool qo, .int .i64 1, .int .i64 (1 + (a : Int)), .int .i64 qn, .bool qr, .bool qq, .int .i64 qv, .int .i64 qb, .string qd, .string qw, .string qdr] rfl
                  have hsz := hyA.oth hoz hTG
                  obtain ⟨z4, hz4⟩ : ∃ Z, y1.setCells G 0 (#[.bool qo, .int .i64 1, .int .i64 (1 + (a : Int)), .int .i64 qn, .bool qr, .bool qq, .int .i64 qv, .int .i64 qb, .string qd, .string qw, .string qdr] : Array Value).toList = Z := ⟨_, rfl⟩
                  have hz4' : y1.setCells G 0 [.bool qo, .int .i64 1, .int .i64 (1 + (a : Int)), .int .i64 qn, .bool qr, .bool qq, .int .i64 qv, .int .i64 qb, .string qd, .string qw, .string qdr] = z4 := hz4
                  rw [hz4'] at hoz hwz hsz
                  have HZ4 := hide hz4
                  have HTG := hide hTG
                  have c1 : z4.cell? ⟨G, 1, none⟩ = some (.int .i64 1) := hwz.cell 1
                  have c2 : z4.cell? ⟨G, 2, none⟩ = some (.int .i64 (1 + (a : Int))) := hwz.cell 2
                  have c3 : z4.cell? ⟨G, 3, none⟩ = some (.int .i64 qn) := hwz.cell 3
                  have f2 : z4.frozen? ⟨G, 2, none⟩ = false := hwz.frozen 2
                  have HSa := hide hsz
                  have HWz := hide (show Blk z4 G #[.bool qo, .int .i64 1, .int .i64 (1 + (a : Int)), .int .i64 qn, .bool qr, .bool qq, .int .i64 qv, .int .i64 qb, .string qd, .string qw, .string qdr] 42 from hwz)
                  clear hly hby hty hyA hTG hoz hwz hsz hz4 hz4' HSn
                  have hz5w := (unhide HWz).set 2 (.int .i64 0)
                  have hz5o : Only (fun x => x = G) z4 (z4.setCell ⟨G, 2, none⟩ (.int .i64 0)) := only_set z4 G 2 _
                  obtain ⟨z5, hz5⟩ : ∃ Z, z4.setCell ⟨G, 2, none⟩ (.int .i64 0) = Z := ⟨_, rfl⟩
                  rw [hz5] at hz5w hz5o
                  have HSb := hide ((unhide HSa).oth hz5o (unhide HTG))
                  have HWy := hide (show Blk z5 G #[.bool qo, .int .i64 1, .int .i64 0, .int .i64 qn, .bool qr, .bool qq, .int .i64 qv, .int .i64 qb, .string qd, .string qw, .string qdr] 42 from hz5w)
                  have b1 : z5.cell? ⟨G, 1, none⟩ = some (.int .i64 1) := (unhide HWy).cell 1
                  have b2 : z5.cell? ⟨G, 2, none⟩ = some (.int .i64 0) := (unhide HWy).cell 2
                  have b3 : z5.cell? ⟨G, 3, none⟩ = some (.int .i64 qn) := (unhide HWy).cell 3
                  clear hz5w hz5o HSa HWz
                  have g1 : (1 + (a : Int) == 1 + (a : Int)) = true := by simp
                  have HNE := hide (show (a : Int) + 1 ≠ 0 from by omega)
                  go_wp2_with (first | refine wpList_load_mid rfl 42 (.tmp 71) rfl g (o + x * 11) rfl [.bool qo, .int .i64 1, .int .i64 (1 + (a : Int)), .int .i64 qn, .bool qr, .bool qq, .int .i64 qv, .int .i64 qb, .string qd, .string qw, .string qdr] _ (unhide HRG) Tryd.underlying42 rfl (by rw [sizeOp]; rfl) ?_ | (refine wpList_store_mid rfl 42 (.tmp 14) (.tmp 72) rfl G 0 #[.bool qo, .int .i64 1, .int .i64 (1 + (a : Int)), .int .i64 qn, .bool qr, .bool qq, .int .i64 qv, .int .i64 qb, .string qd, .string qw, .string qdr] rfl rfl (unhide HTH) (by rw [sizeOp]; rfl) (by simp [Value.oneCell']) ?_; rw [unhide HZ4]))
                  have HS20 := hide (show Blk z5.drew G #[.bool qo, .int .i64 1, .int .i64 0, .int .i64 qn, .bool qr, .bool qq, .int .i64 qv, .int .i64 qb, .string qd, .string qw, .string qdr] 42 ∧ Ap w N A B a n l n l z5.drew from ⟨(unhide HWy).below (Below.refl _ _).drew (unhide HWy).lt, (unhide HSb).low (Below.refl _ _).drew⟩)
                  clear HWy HSb
                  refine wp_region_held_drew (S := fun W => Blk W G #[.bool qo, .int .i64 1, .int .i64 0, .int .i64 qn, .bool qr, .bool qq, .int .i64 qv, .int .i64 qb, .string qd, .string qw, .string qdr] 42 ∧ Ap w N A B a n l n l W) (by kernel_rfl) (unhide HS20) ?_
                  intro hS
                  generalize z5.drew = zd at *
                  refine wpAnyH_takeD 0 (some 84) (.pointer (some ⟨B, 0, none⟩)) rfl rfl (by kernel_rfl) (by kernel_rfl) (by kernel_rfl) (fun _ _ _ h => h) (Or.inl ⟨by rfl, fun w hSw => by have a2 : w.cell? ⟨G, 2, none⟩ = some (.int .i64 0) := Blk.cell hSw.1 2; have a3 : w.cell? ⟨G, 3, none⟩ = some (.int .i64 qn) := Blk.cell hSw.1 3; clear hSw; go_simp⟩) hS ?_
                  simp only [Act.put, List.setIfInBounds_toArray, List.set_cons_zero, List.set_cons_succ]
                  refine wpAnyH_takeD 1 (some 85) (.pointer (some ⟨G, 2, none⟩)) rfl rfl (by kernel_rfl) (by kernel_rfl) (by kernel_rfl) (fun _ _ _ h => h) (Or.inl ⟨by rfl, fun w hSw => by have a2 : w.cell? ⟨G, 2, none⟩ = some (.int .i64 0) := Blk.cell hSw.1 2; have a3 : w.cell? ⟨G, 3, none⟩ = some (.int .i64 qn) := Blk.cell hSw.1 3; clear hSw; go_simp⟩) hS ?_
                  simp only [Act.put, List.setIfInBounds_toArray, List.set_cons_zero, List.set_cons_succ]
                  refine wpAnyH_takeD 2 (some 86) (.int .i64 0) rfl rfl (by kernel_rfl) (by kernel_rfl) (by kernel_rfl) (fun _ _ _ h => h) (Or.inl ⟨by rfl, fun w hSw => by have a2 : w.cell? ⟨G, 2, none⟩ = some (.int .i64 0) := Blk.cell hSw.1 2; have a3 : w.cell? ⟨G, 3, none⟩ = some (.int .i64 qn) := Blk.cell hSw.1 3; clear hSw; go_simp⟩) hS ?_
                  simp only [Act.put, List.setIfInBounds_toArray, List.set_cons_zero, List.set_cons_succ]
                  refine wpAnyH_takeD 3 (some 87) (.pointer (some ⟨G, 3, none⟩)) rfl rfl (by kernel_rfl) (by kernel_rfl) (by kernel_rfl) (fun _ _ _ h => h) (Or.inl ⟨by rfl, fun w hSw => by have a2 : w.cell? ⟨G, 2, none⟩ = some (.int .i64 0) := Blk.cell hSw.1 2; have a3 : w.cell? ⟨G, 3, none⟩ = some (.int .i64 qn) := Blk.cell hSw.1 3; clear hSw; go_simp⟩) hS ?_
                  simp only [Act.put, List.setIfInBounds_toArray, List.set_cons_zero, List.set_cons_succ]
                  refine wpAnyH_takeD 4 (some 88) (.int .i64 qn) rfl rfl (by kernel_rfl) (by kernel_rfl) (by kernel_rfl) (fun _ _ _ h => h) (Or.inl ⟨by rfl, fun w hSw => by have a2 : w.cell? ⟨G, 2, none⟩ = some (.int .i64 0) := Blk.cell hSw.1 2; have a3 : w.cell? ⟨G, 3, none⟩ = some (.int .i64 qn) := Blk.cell hSw.1 3; clear hSw; go_simp⟩) hS ?_
                  simp only [Act.put, List.setIfInBounds_toArray, List.set_cons_zero, List.set_cons_succ]
                  refine wpAnyH_takeD 6 (some 90) (.pointer (some ⟨G, 3, none⟩)) rfl rfl (by kernel_rfl) (by kernel_rfl) (by kernel_rfl) (fun _ _ _ h => h) (Or.inl ⟨by rfl, fun w hSw => by have a2 : w.cell? ⟨G, 2, none⟩ = some (.int .i64 0) := Blk.cell hSw.1 2; have a3 : w.cell? ⟨G, 3, none⟩ = some (.int .i64 qn) := Blk.cell hSw.1 3; clear hSw; go_simp⟩) hS ?_
                  simp only [Act.put, List.setIfInBounds_toArray, List.set_cons_zero, List.set_cons_succ]
                  refine wpAnyH_takeD 7 (some 91) (.int .i64 qn) rfl rfl (by kernel_rfl) (by kernel_rfl) (by kernel_rfl) (fun _ _ _ h => h) (Or.inl ⟨by rfl, fun w hSw => by have a2 : w.cell? ⟨G, 2, none⟩ = some (.int .i64 0) := Blk.cell hSw.1 2; have a3 : w.cell? ⟨G, 3, none⟩ = some (.int .i64 qn) := Blk.cell hSw.1 3; clear hSw; go_simp⟩) hS ?_
                  simp only [Act.put, List.setIfInBounds_toArray, List.set_cons_zero, List.set_cons_succ]
                  refine wpAnyH_ready (rs := [5]) (by kernel_rfl) (by simp) ?_
                  refine AllReadyH.cons rfl (fun K hK => ?_) AllReadyH.nil
                  simp only [List.getElem_toArray, List.getElem_cons_succ, List.getElem_cons_zero]
                  go_simp
                  refine (unhide HOF qn (unhide HQN) _ hS.2.lo).mono ?_
                  rintro e v1 ⟨rfl, hb⟩
                  have hS1 : Blk v1 G #[.bool qo, .int .i64 1, .int .i64 0, .int .i64 qn, .bool qr, .bool qq, .int .i64 qv, .int .i64 qb, .string qd, .string qw, .string qdr] 42 ∧ Ap w N A B a n l n l v1 := ⟨hS.1.below hb hS.1.lt, hS.2.low hb⟩
                  clear hb
                  refine hK.out _ _ hS1 (fun hS => ?_)
                  clear hK K
                  refine wpAnyH_ready (rs := [8]) (by kernel_rfl) (by simp) ?_
                  refine AllReadyH.cons rfl (fun K hK => ?_) AllReadyH.nil
                  simp only [List.getElem_toArray, List.getElem_cons_succ, List.getElem_cons_zero]
                  go_simp
                  refine (unhide HDR qn _).mono ?_
                  rintro e v2 ⟨rfl, hb⟩
                  have hS2 : Blk v2 G #[.bool qo, .int .i64 1, .int .i64 0, .int .i64 qn, .bool qr, .bool qq, .int .i64 qv, .int .i64 qb, .string qd, .string qw, .string qdr] 42 ∧ Ap w N A B a n l n l v2 := ⟨hS.1.below hb hS.1.lt, hS.2.low hb⟩
                  clear hb
                  refine hK.out _ _ hS2 (fun hS => ?_)
                  clear hK K
                  refine wpAnyH_ready (rs := [9]) (by kernel_rfl) (by simp) ?_
                  refine AllReadyH.cons rfl (fun K hK => ?_) AllReadyH.nil
                  simp only [List.getElem_toArray, List.getElem_cons_succ, List.getElem_cons_zero]
                  go_simp
                  refine (hS.2.offerB 0 (unhide HNE) (ofV qn : Int) (ofB qn : Int) (ofD qn) (ofW qn) (drB qn) (drB_size qn) (ofD_size qn) (unhide HKT _ hS.2.lo)).mono ?_
                  rintro e v3 ⟨rv, rfl, hA, hO⟩
                  have hS3 : Blk v3 G #[.bool qo, .int .i64 1, .int .i64 0, .int .i64 qn, .bool qr, .bool qq, .int .i64 qv, .int .i64 qb, .string qd, .string qw, .string qdr] 42 ∧ Ap w N A B a n l n l v3 := ⟨hS.1.only hO (onB_far (unhide HTG)), hA⟩
                  clear hA hO
                  refine hK.out _ _ hS3 (fun hS => ?_)
                  clear hK K
                  refine wpAnyH_done (by kernel_rfl) ?_ _
                  have HSe := hide hS.2
                  clear hS
                  go_wp2
                  go_roundw
                  case rel => exact ⟨x + 1, y + 1, by omega, by omega, by go_num, by go_num, n, l, unhide HSe⟩
                  case measure => simp [intOf]; omega
              · by_cases k2 : qk = 2
                · subst k2
                  as_aux_lemma =>
                    obtain ⟨G, hG⟩ : ∃ G, wr.heap.size = G := ⟨_, rfl⟩
                    obtain ⟨y1, hy1⟩ : ∃ Z, wr.alloc (.cells #[.bool false, .int .i64 0, .int .i64 0, .int .i64 0, .bool false, .bool false, .int .i64 0, .int .i64 0, .string ⟨#[]⟩, .string ⟨#[]⟩, .string ⟨#[]⟩] 42) = Z := ⟨_, rfl⟩
                    have hly : Below wr.heap.size wr y1 := by rw [← hy1]; exact (Below.refl _ _).alloc (Nat.le_refl _) _
                    have hby : Blk y1 G #[.bool false, .int .i64 0, .int .i64 0, .int .i64 0, .bool false, .bool false, .int .i64 0, .int .i64 0, .string ⟨#[]⟩, .string ⟨#[]⟩, .string ⟨#[]⟩] 42 := by rw [← hy1, ← hG]; exact Blk.new _ _ _
                    have hty := (unhide HSn).top
                    have hyA := (unhide HSn).low hly
                    have hTG : B + 9 ≤ G := by omega
                    have HTH := hide (blk_there hby 11 rfl)
                    have hoz : Only (fun x => x = G) y1 (y1.setCells G 0 [.bool qo, .int .i64 2, .int .i64 (1 + (a : Int)), .int .i64 qn, .bool qr, .bool qq, .int .i64 qv, .int .i64 qb, .string qd, .string qw, .string qdr]) := only_cells G 0 _ rfl
                    have hwz := setCells_all hby [.bool qo, .int .i64 2, .int .i64 (1 + (a : Int)), .int .i64 qn, .bool qr, .bool qq, .int .i64 qv, .int .i64 qb, .string qd, .string qw, .string qdr] rfl
                    have hsz := hyA.oth hoz hTG
                    obtain ⟨z4, hz4⟩ : ∃ Z, y1.setCells G 0 (#[.bool qo, .int .i64 2, .int .i64 (1 + (a : Int)), .int .i64 qn, .bool qr, .bool qq, .int .i64 qv, .int .i64 qb, .string qd, .string qw, .string qdr] : Array Value).toList = Z := ⟨_, rfl⟩
                    have hz4' : y1.setCells G 0 [.bool qo, .int .i64 2, .int .i64 (1 + (a : Int)), .int .i64 qn, .bool qr, .bool qq, .int .i64 qv, .int .i64 qb, .string qd, .string qw, .string qdr] = z4 := hz4
                    rw [hz4'] at hoz hwz hsz
                    have HZ4 := hide hz4
                    have HTG := hide hTG
                    have c1 : z4.cell? ⟨G, 1, none⟩ = some (.int .i64 2) := hwz.cell 1
                    have c2 : z4.cell? ⟨G, 2, none⟩ = some (.int .i64 (1 + (a : Int))) := hwz.cell 2
                    have c3 : z4.cell? ⟨G, 3, none⟩ = some (.int .i64 qn) := hwz.cell 3
                    have f2 : z4.frozen? ⟨G, 2, none⟩ = false := hwz.frozen 2
                    have HSa := hide hsz
                    have HWz := hide (show Blk z4 G #[.bool qo, .int .i64 2, .int .i64 (1 + (a : Int)), .int .i64 qn, .bool qr, .bool qq, .int .i64 qv, .int .i64 qb, .string qd, .string qw, .string qdr] 42 from hwz)
                    clear hly hby hty hyA hTG hoz hwz hsz hz4 hz4' HSn
                    have hz5w := (unhide HWz).set 2 (.int .i64 0)
                    have hz5o : Only (fun x => x = G) z4 (z4.setCell ⟨G, 2, none⟩ (.int .i64 0)) := only_set z4 G 2 _
                    obtain ⟨z5, hz5⟩ : ∃ Z, z4.setCell ⟨G, 2, none⟩ (.int .i64 0) = Z := ⟨_, rfl⟩
                    rw [hz5] at hz5w hz5o
                    have HSb := hide ((unhide HSa).oth hz5o (unhide HTG))
                    have HWy := hide (show Blk z5 G #[.bool qo, .int .i64 2, .int .i64 0, .int .i64 qn, .bool qr, .bool qq, .int .i64 qv, .int .i64 qb, .string qd, .string qw, .string qdr] 42 from hz5w)
                    have b1 : z5.cell? ⟨G, 1, none⟩ = some (.int .i64 2) := (unhide HWy).cell 1
                    have b2 : z5.cell? ⟨G, 2, none⟩ = some (.int .i64 0) := (unhide HWy).cell 2
                    have b3 : z5.cell? ⟨G, 3, none⟩ = some (.int .i64 qn) := (unhide HWy).cell 3
                    clear hz5w hz5o HSa HWz
                    have g1 : (1 + (a : Int) == 1 + (a : Int)) = true := by simp
                    have HNE := hide (show (a : Int) + 1 ≠ 0 from by omega)
                    go_wp2_with (first | refine wpList_load_mid rfl 42 (.tmp 71) rfl g (o + x * 11) rfl [.bool qo, .int .i64 2, .int .i64 (1 + (a : Int)), .int .i64 qn, .bool qr, .bool qq, .int .i64 qv, .int .i64 qb, .string qd, .string qw, .string qdr] _ (unhide HRG) Tryd.underlying42 rfl (by rw [sizeOp]; rfl) ?_ | (refine wpList_store_mid rfl 42 (.tmp 14) (.tmp 72) rfl G 0 #[.bool qo, .int .i64 2, .int .i64 (1 + (a : Int)), .int .i64 qn, .bool qr, .bool qq, .int .i64 qv, .int .i64 qb, .string qd, .string qw, .string qdr] rfl rfl (unhide HTH) (by rw [sizeOp]; rfl) (by simp [Value.oneCell']) ?_; rw [unhide HZ4]))
                    have HTK := hide ((unhide HSb).takeB 0 (unhide HNE) qn)
                    clear HSb
                    refine (unhide HTK).mono ?_
                    rintro e y3 ⟨v, rfl, hA, hO⟩
                    have HSe := hide hA
                    clear hA hO HTK HWy HNE
                    go_wp2
                    go_roundw
                    case rel => exact ⟨x + 1, y + 1, by omega, by omega, by go_num, by go_num, n, l, unhide HSe⟩
                    case measure => simp [intOf]; omega
                · by_cases k3 : qk = 3
                  · subst k3
                    as_aux_lemma =>
                      obtain ⟨G, hG⟩ : ∃ G, wr.heap.size = G := ⟨_, rfl⟩
                      obtain ⟨y1, hy1⟩ : ∃ Z, wr.alloc (.cells #[.bool false, .int .i64 0, .int .i64 0, .int .i64 0, .bool false, .bool false, .int .i64 0, .int .i64 0, .string ⟨#[]⟩, .string ⟨#[]⟩, .string ⟨#[]⟩] 42) = Z := ⟨_, rfl⟩
                      have hly : Below wr.heap.size wr y1 := by rw [← hy1]; exact (Below.refl _ _).alloc (Nat.le_refl _) _
                      have hby : Blk y1 G #[.bool false, .int .i64 0, .int .i64 0, .int .i64 0, .bool false, .bool false, .int .i64 0, .int .i64 0, .string ⟨#[]⟩, .string ⟨#[]⟩, .string ⟨#[]⟩] 42 := by rw [← hy1, ← hG]; exact Blk.new _ _ _
                      have hty := (unhide HSn).top
                      have hyA := (unhide HSn).low hly
                      have hTG : B + 9 ≤ G := by omega
                      have HTH := hide (blk_there hby 11 rfl)
                      have hoz : Only (fun x => x = G) y1 (y1.setCells G 0 [.bool qo, .int .i64 3, .int .i64 (1 + (a : Int)), .int .i64 qn, .bool qr, .bool qq, .int .i64 qv, .int .i64 qb, .string qd, .string qw, .string qdr]) := only_cells G 0 _ rfl
                      have hwz := setCells_all hby [.bool qo, .int .i64 3, .int .i64 (1 + (a : Int)), .int .i64 qn, .bool qr, .bool qq, .int .i64 qv, .int .i64 qb, .string qd, .string qw, .string qdr] rfl
                      have hsz := hyA.oth hoz hTG
                      obtain ⟨z4, hz4⟩ : ∃ Z, y1.setCells G 0 (#[.bool qo, .int .i64 3, .int .i64 (1 + (a : Int)), .int .i64 qn, .bool qr, .bool qq, .int .i64 qv, .int .i64 qb, .string qd, .string qw, .string qdr] : Array Value).toList = Z := ⟨_, rfl⟩
                      have hz4' : y1.setCells G 0 [.bool qo, .int .i64 3, .int .i64 (1 + (a : Int)), .int .i64 qn, .bool qr, .bool qq, .int .i64 qv, .int .i64 qb, .string qd, .string qw, .string qdr] = z4 := hz4
                      rw [hz4'] at hoz hwz hsz
                      have HZ4 := hide hz4
                      have HTG := hide hTG
                      have c1 : z4.cell? ⟨G, 1, none⟩ = some (.int .i64 3) := hwz.cell 1
                      have c2 : z4.cell? ⟨G, 2, none⟩ = some (.int .i64 (1 + (a : Int))) := hwz.cell 2
                      have c3 : z4.cell? ⟨G, 3, none⟩ = some (.int .i64 qn) := hwz.cell 3
                      have f2 : z4.frozen? ⟨G, 2, none⟩ = false := hwz.frozen 2
                      have HSa := hide hsz
                      have HWz := hide (show Blk z4 G #[.bool qo, .int .i64 3, .int .i64 (1 + (a : Int)), .int .i64 qn, .bool qr, .bool qq, .int .i64 qv, .int .i64 qb, .string qd, .string qw, .string qdr] 42 from hwz)
                      clear hly hby hty hyA hTG hoz hwz hsz hz4 hz4' HSn
                      have hz5w := (unhide HWz).set 2 (.int .i64 0)
                      have hz5o : Only (fun x => x = G) z4 (z4.setCell ⟨G, 2, none⟩ (.int .i64 0)) := only_set z4 G 2 _
                      obtain ⟨z5, hz5⟩ : ∃ Z, z4.setCell ⟨G, 2, none⟩ (.int .i64 0) = Z := ⟨_, rfl⟩
                      rw [hz5] at hz5w hz5o
                      have HSb := hide ((unhide HSa).oth hz5o (unhide HTG))
                      have HWy := hide (show Blk z5 G #[.bool qo, .int .i64 3, .int .i64 0, .int .i64 qn, .bool qr, .bool qq, .int .i64 qv, .int .i64 qb, .string qd, .string qw, .string qdr] 42 from hz5w)
                      have b1 : z5.cell? ⟨G, 1, none⟩ = some (.int .i64 3) := (unhide HWy).cell 1
                      have b2 : z5.cell? ⟨G, 2, none⟩ = some (.int .i64 0) := (unhide HWy).cell 2
                      have b3 : z5.cell? ⟨G, 3, none⟩ = some (.int .i64 qn) := (unhide HWy).cell 3
                      clear hz5w hz5o HSa HWz
                      have g1 : (1 + (a : Int) == 1 + (a : Int)) = true := by simp
                      have HNE := hide (show (a : Int) + 1 ≠ 0 from by omega)
                      go_wp2_with (first | refine wpList_load_mid rfl 42 (.tmp 71) rfl g (o + x * 11) rfl [.bool qo, .int .i64 3, .int .i64 (1 + (a : Int)), .int .i64 qn, .bool qr, .bool qq, .int .i64 qv, .int .i64 qb, .string qd, .string qw, .string qdr] _ (unhide HRG) Tryd.underlying42 rfl (by rw [sizeOp]; rfl) ?_ | (refine wpList_store_mid rfl 42 (.tmp 14) (.tmp 72) rfl G 0 #[.bool qo, .int .i64 3, .int .i64 (1 + (a : Int)), .int .i64 qn, .bool qr, .bool qq, .int .i64 qv, .int .i64 qb, .string qd, .string qw, .string qdr] rfl rfl (unhide HTH) (by rw [sizeOp]; rfl) (by simp [Value.oneCell']) ?_; rw [unhide HZ4]))
                      have HTK := hide ((unhide HSb).forgetB 0 (unhide HNE))
                      clear HSb
                      refine (unhide HTK).mono ?_
                      rintro e y3 ⟨v, rfl, hA, hO⟩
                      have HSe := hide hA
                      clear hA hO HTK HWy HNE
                      go_wp2
                      go_roundw
                      case rel => exact ⟨x + 1, y + 1, by omega, by omega, by go_num, by go_num, n, l, unhide HSe⟩
                      case measure => simp [intOf]; omega
                  · have j1 : (qk == 1) = false := by simpa using k1
                    have j2 : (qk == 2) = false := by simpa using k2
                    have j3 : (qk == 3) = false := by simpa using k3
                    clear k1 k2 k3
                    as_aux_lemma =>
                      obtain ⟨G, hG⟩ : ∃ G, wr.heap.size = G := ⟨_, rfl⟩
                      obtain ⟨y1, hy1⟩ : ∃ Z, wr.alloc (.cells #[.bool false, .int .i64 0, .int .i64 0, .int .i64 0, .bool false, .bool false, .int .i64 0, .int .i64 0, .string ⟨#[]⟩, .string ⟨#[]⟩, .string ⟨#[]⟩] 42) = Z := ⟨_, rfl⟩
                      have hly : Below wr.heap.size wr y1 := by rw [← hy1]; exact (Below.refl _ _).alloc (Nat.le_refl _) _
                      have hby : Blk y1 G #[.bool false, .int .i64 0, .int .i64 0, .int .i64 0, .bool false, .bool false, .int .i64 0, .int .i64 0, .string ⟨#[]⟩, .string ⟨#[]⟩, .string ⟨#[]⟩] 42 := by rw [← hy1, ← hG]; exact Blk.new _ _ _
                      have hty := (unhide HSn).top
                      have hyA := (unhide HSn).low hly
                      have hTG : B + 9 ≤ G := by omega
                      have HTH := hide (blk_there hby 11 rfl)
                      have hoz : Only (fun x => x = G) y1 (y1.setCells G 0 [.bool qo, .int .i64 qk, .int .i64 (1 + (a : Int)), .int .i64 qn, .bool qr, .bool qq, .int .i64 qv, .int .i64 qb, .string qd, .string qw, .string qdr]) := only_cells G 0 _ rfl
                      have hwz := setCells_all hby [.bool qo, .int .i64 qk, .int .i64 (1 + (a : Int)), .int .i64 qn, .bool qr, .bool qq, .int .i64 qv, .int .i64 qb, .string qd, .string qw, .string qdr] rfl
                      have hsz := hyA.oth hoz hTG
                      obtain ⟨z4, hz4⟩ : ∃ Z, y1.setCells G 0 (#[.bool qo, .int .i64 qk, .int .i64 (1 + (a : Int)), .int .i64 qn, .bool qr, .bool qq, .int .i64 qv, .int .i64 qb, .string qd, .string qw, .string qdr] : Array Value).toList = Z := ⟨_, rfl⟩
                      have hz4' : y1.setCells G 0 [.bool qo, .int .i64 qk, .int .i64 (1 + (a : Int)), .int .i64 qn, .bool qr, .bool qq, .int .i64 qv, .int .i64 qb, .string qd, .string qw, .string qdr] = z4 := hz4
                      rw [hz4'] at hoz hwz hsz
                      have HZ4 := hide hz4
                      have HTG := hide hTG
                      have c1 : z4.cell? ⟨G, 1, none⟩ = some (.int .i64 qk) := hwz.cell 1
                      have c2 : z4.cell? ⟨G, 2, none⟩ = some (.int .i64 (1 + (a : Int))) := hwz.cell 2
                      have c3 : z4.cell? ⟨G, 3, none⟩ = some (.int .i64 qn) := hwz.cell 3
                      have f2 : z4.frozen? ⟨G, 2, none⟩ = false := hwz.frozen 2
                      have HSa := hide hsz
                      have HWz := hide (show Blk z4 G #[.bool qo, .int .i64 qk, .int .i64 (1 + (a : Int)), .int .i64 qn, .bool qr, .bool qq, .int .i64 qv, .int .i64 qb, .string qd, .string qw, .string qdr] 42 from hwz)
                      clear hly hby hty hyA hTG hoz hwz hsz hz4 hz4' HSn
                      have hz5w := (unhide HWz).set 2 (.int .i64 0)
                      have hz5o : Only (fun x => x = G) z4 (z4.setCell ⟨G, 2, none⟩ (.int .i64 0)) := only_set z4 G 2 _
                      obtain ⟨z5, hz5⟩ : ∃ Z, z4.setCell ⟨G, 2, none⟩ (.int .i64 0) = Z := ⟨_, rfl⟩
                      rw [hz5] at hz5w hz5o
                      have HSb := hide ((unhide HSa).oth hz5o (unhide HTG))
                      have HWy := hide (show Blk z5 G #[.bool qo, .int .i64 qk, .int .i64 0, .int .i64 qn, .bool qr, .bool qq, .int .i64 qv, .int .i64 qb, .string qd, .string qw, .string qdr] 42 from hz5w)
                      have b1 : z5.cell? ⟨G, 1, none⟩ = some (.int .i64 qk) := (unhide HWy).cell 1
                      have b2 : z5.cell? ⟨G, 2, none⟩ = some (.int .i64 0) := (unhide HWy).cell 2
                      have b3 : z5.cell? ⟨G, 3, none⟩ = some (.int .i64 qn) := (unhide HWy).cell 3
                      clear hz5w hz5o HSa HWz
                      have g1 : (1 + (a : Int) == 1 + (a : Int)) = true := by simp
                      have HNE := hide (show (a : Int) + 1 ≠ 0 from by omega)
                      go_wp2_with (first | refine wpList_load_mid rfl 42 (.tmp 71) rfl g (o + x * 11) rfl [.bool qo, .int .i64 qk, .int .i64 (1 + (a : Int)), .int .i64 qn, .bool qr, .bool qq, .int .i64 qv, .int .i64 qb, .string qd, .string qw, .string qdr] _ (unhide HRG) Tryd.underlying42 rfl (by rw [sizeOp]; rfl) ?_ | (refine wpList_store_mid rfl 42 (.tmp 14) (.tmp 72) rfl G 0 #[.bool qo, .int .i64 qk, .int .i64 (1 + (a : Int)), .int .i64 qn, .bool qr, .bool qq, .int .i64 qv, .int .i64 qb, .string qd, .string qw, .string qdr] rfl rfl (unhide HTH) (by rw [sizeOp]; rfl) (by simp [Value.oneCell']) ?_; rw [unhide HZ4]))
                      go_roundw
                      case rel => exact ⟨x + 1, y + 1, by omega, by omega, by go_num, by go_num, n, l, unhide HSb⟩
                      case measure => simp [intOf]; omega
            · skip
              by_cases k1 : qk = 1
              · subst k1
                as_aux_lemma =>
                  obtain ⟨G, hG⟩ : ∃ G, wr.heap.size = G := ⟨_, rfl⟩
                  obtain ⟨y1, hy1⟩ : ∃ Z, wr.alloc (.cells #[.bool false, .int .i64 0, .int .i64 0, .int .i64 0, .bool false, .bool false, .int .i64 0, .int .i64 0, .string ⟨#[]⟩, .string ⟨#[]⟩, .string ⟨#[]⟩] 42) = Z := ⟨_, rfl⟩
                  have hly : Below wr.heap.size wr y1 := by rw [← hy1]; exact (Below.refl _ _).alloc (Nat.le_refl _) _
                  have hby : Blk y1 G #[.bool false, .int .i64 0, .int .i64 0, .int .i64 0, .bool false, .bool false, .int .i64 0, .int .i64 0, .string ⟨#[]⟩, .string ⟨#[]⟩, .string ⟨#[]⟩] 42 := by rw [← hy1, ← hG]; exact Blk.new _ _ _
                  have hty := (unhide HSn).top
                  have hyA := (unhide HSn).low hly
                  have hTG : B + 9 ≤ G := by omega
                  have HTH := hide (blk_there hby 11 rfl)
                  have hoz : Only (fun x => x = G) y1 (y1.setCells G 0 [.bool qo, .int .i64 1, .int .i64 qt, .int .i64 qn, .bool qr, .bool qq, .int .i64 qv, .int .i64 qb, .string qd, .string qw, .string qdr]) := only_cells G 0 _ rfl
                  have hwz := setCells_all hby [.bool qo, .int .i64 1, .int .i64 qt, .int .i64 qn, .bool qr, .bool qq, .int .i64 qv, .int .i64 qb, .string qd, .string qw, .string qdr] rfl
                  have hsz := hyA.oth hoz hTG
                  obtain ⟨z4, hz4⟩ : ∃ Z, y1.setCells G 0 (#[.bool qo, .int .i64 1, .int .i64 qt, .int .i64 qn, .bool qr, .bool qq, .int .i64 qv, .int .i64 qb, .string qd, .string qw, .string qdr] : Array Value).toList = Z := ⟨_, rfl⟩
                  have hz4' : y1.setCells G 0 [.bool qo, .int .i64 1, .int .i64 qt, .int .i64 qn, .bool qr, .bool qq, .int .i64 qv, .int .i64 qb, .string qd, .string qw, .string qdr] = z4 := hz4
                  rw [hz4'] at hoz hwz hsz
                  have HZ4 := hide hz4
                  have HTG := hide hTG
                  have c1 : z4.cell? ⟨G, 1, none⟩ = some (.int .i64 1) := hwz.cell 1
                  have c2 : z4.cell? ⟨G, 2, none⟩ = some (.int .i64 qt) := hwz.cell 2
                  have c3 : z4.cell? ⟨G, 3, none⟩ = some (.int .i64 qn) := hwz.cell 3
                  have f2 : z4.frozen? ⟨G, 2, none⟩ = false := hwz.frozen 2
                  have HSa := hide hsz
                  have HWz := hide (show Blk z4 G #[.bool qo, .int .i64 1, .int .i64 qt, .int .i64 qn, .bool qr, .bool qq, .int .i64 qv, .int .i64 qb, .string qd, .string qw, .string qdr] 42 from hwz)
                  clear hly hby hty hyA hTG hoz hwz hsz hz4 hz4' HSn
                  have g1 : (qt == 1 + (a : Int)) = false := by simp; omega
                  have g2 : decide (qt = 1 + (a : Int)) = false := decide_eq_false (by omega)
                  have HNE := hide (show (a : Int) + 1 ≠ qt from by omega)
                  clear hte
                  go_wp2_with (first | refine wpList_load_mid rfl 42 (.tmp 71) rfl g (o + x * 11) rfl [.bool qo, .int .i64 1, .int .i64 qt, .int .i64 qn, .bool qr, .bool qq, .int .i64 qv, .int .i64 qb, .string qd, .string qw, .string qdr] _ (unhide HRG) Tryd.underlying42 rfl (by rw [sizeOp]; rfl) ?_ | (refine wpList_store_mid rfl 42 (.tmp 14) (.tmp 72) rfl G 0 #[.bool qo, .int .i64 1, .int .i64 qt, .int .i64 qn, .bool qr, .bool qq, .int .i64 qv, .int .i64 qb, .string qd, .string qw, .string qdr] rfl rfl (unhide HTH) (by rw [sizeOp]; rfl) (by simp [Value.oneCell']) ?_; rw [unhide HZ4]))
                  have HS20 := hide (show Blk z4.drew G #[.bool qo, .int .i64 1, .int .i64 qt, .int .i64 qn, .bool qr, .bool qq, .int .i64 qv, .int .i64 qb, .string qd, .string qw, .string qdr] 42 ∧ Ap w N A B a n l n l z4.drew from ⟨(unhide HWz).below (Below.refl _ _).drew (unhide HWz).lt, (unhide HSa).low (Below.refl _ _).drew⟩)
                  clear HWz HSa
                  refine wp_region_held_drew (S := fun W => Blk W G #[.bool qo, .int .i64 1, .int .i64 qt, .int .i64 qn, .bool qr, .bool qq, .int .i64 qv, .int .i64 qb, .string qd, .string qw, .string qdr] 42 ∧ Ap w N A B a n l n l W) (by kernel_rfl) (unhide HS20) ?_
                  intro hS
                  generalize z4.drew = zd at *
                  refine wpAnyH_takeD 0 (some 84) (.pointer (some ⟨B, 0, none⟩)) rfl rfl (by kernel_rfl) (by kernel_rfl) (by kernel_rfl) (fun _ _ _ h => h) (Or.inl ⟨by rfl, fun w hSw => by have a2 : w.cell? ⟨G, 2, none⟩ = some (.int .i64 qt) := Blk.cell hSw.1 2; have a3 : w.cell? ⟨G, 3, none⟩ = some (.int .i64 qn) := Blk.cell hSw.1 3; clear hSw; go_simp⟩) hS ?_
                  simp only [Act.put, List.setIfInBounds_toArray, List.set_cons_zero, List.set_cons_succ]
                  refine wpAnyH_takeD 1 (some 85) (.pointer (some ⟨G, 2, none⟩)) rfl rfl (by kernel_rfl) (by kernel_rfl) (by kernel_rfl) (fun _ _ _ h => h) (Or.inl ⟨by rfl, fun w hSw => by have a2 : w.cell? ⟨G, 2, none⟩ = some (.int .i64 qt) := Blk.cell hSw.1 2; have a3 : w.cell? ⟨G, 3, none⟩ = some (.int .i64 qn) := Blk.cell hSw.1 3; clear hSw; go_simp⟩) hS ?_
                  simp only [Act.put, List.setIfInBounds_toArray, List.set_cons_zero, List.set_cons_succ]
                  refine wpAnyH_takeD 2 (some 86) (.int .i64 qt) rfl rfl (by kernel_rfl) (by kernel_rfl) (by kernel_rfl) (fun _ _ _ h => h) (Or.inl ⟨by rfl, fun w hSw => by have a2 : w.cell? ⟨G, 2, none⟩ = some (.int .i64 qt) := Blk.cell hSw.1 2; have a3 : w.cell? ⟨G, 3, none⟩ = some (.int .i64 qn) := Blk.cell hSw.1 3; clear hSw; go_simp⟩) hS ?_
                  simp only [Act.put, List.setIfInBounds_toArray, List.set_cons_zero, List.set_cons_succ]
                  refine wpAnyH_takeD 3 (some 87) (.pointer (some ⟨G, 3, none⟩)) rfl rfl (by kernel_rfl) (by kernel_rfl) (by kernel_rfl) (fun _ _ _ h => h) (Or.inl ⟨by rfl, fun w hSw => by have a2 : w.cell? ⟨G, 2, none⟩ = some (.int .i64 qt) := Blk.cell hSw.1 2; have a3 : w.cell? ⟨G, 3, none⟩ = some (.int .i64 qn) := Blk.cell hSw.1 3; clear hSw; go_simp⟩) hS ?_
                  simp only [Act.put, List.setIfInBounds_toArray, List.set_cons_zero, List.set_cons_succ]
                  refine wpAnyH_takeD 4 (some 88) (.int .i64 qn) rfl rfl (by kernel_rfl) (by kernel_rfl) (by kernel_rfl) (fun _ _ _ h => h) (Or.inl ⟨by rfl, fun w hSw => by have a2 : w.cell? ⟨G, 2, none⟩ = some (.int .i64 qt) := Blk.cell hSw.1 2; have a3 : w.cell? ⟨G, 3, none⟩ = some (.int .i64 qn) := Blk.cell hSw.1 3; clear hSw; go_simp⟩) hS ?_
                  simp only [Act.put, List.setIfInBounds_toArray, List.set_cons_zero, List.set_cons_succ]
                  refine wpAnyH_takeD 6 (some 90) (.pointer (some ⟨G, 3, none⟩)) rfl rfl (by kernel_rfl) (by kernel_rfl) (by kernel_rfl) (fun _ _ _ h => h) (Or.inl ⟨by rfl, fun w hSw => by have a2 : w.cell? ⟨G, 2, none⟩ = some (.int .i64 qt) := Blk.cell hSw.1 2; have a3 : w.cell? ⟨G, 3, none⟩ = some (.int .i64 qn) := Blk.cell hSw.1 3; clear hSw; go_simp⟩) hS ?_
                  simp only [Act.put, List.setIfInBounds_toArray, List.set_cons_zero, List.set_cons_succ]
                  refine wpAnyH_takeD 7 (some 91) (.int .i64 qn) rfl rfl (by kernel_rfl) (by kernel_rfl) (by kernel_rfl) (fun _ _ _ h => h) (Or.inl ⟨by rfl, fun w hSw => by have a2 : w.cell? ⟨G, 2, none⟩ = some (.int .i64 qt) := Blk.cell hSw.1 2; have a3 : w.cell? ⟨G, 3, none⟩ = some (.int .i64 qn) := Blk.cell hSw.1 3; clear hSw; go_simp⟩) hS ?_
                  simp only [Act.put, List.setIfInBounds_toArray, List.set_cons_zero, List.set_cons_succ]
                  refine wpAnyH_ready (rs := [5]) (by kernel_rfl) (by simp) ?_
                  refine AllReadyH.cons rfl (fun K hK => ?_) AllReadyH.nil
                  simp only [List.getElem_toArray, List.getElem_cons_succ, List.getElem_cons_zero]
                  go_simp
                  refine (unhide HOF qn (unhide HQN) _ hS.2.lo).mono ?_
                  rintro e v1 ⟨rfl, hb⟩
                  have hS1 : Blk v1 G #[.bool qo, .int .i64 1, .int .i64 qt, .int .i64 qn, .bool qr, .bool qq, .int .i64 qv, .int .i64 qb, .string qd, .string qw, .string qdr] 42 ∧ Ap w N A B a n l n l v1 := ⟨hS.1.below hb hS.1.lt, hS.2.low hb⟩
                  clear hb
                  refine hK.out _ _ hS1 (fun hS => ?_)
                  clear hK K
                  refine wpAnyH_ready (rs := [8]) (by kernel_rfl) (by simp) ?_
                  refine AllReadyH.cons rfl (fun K hK => ?_) AllReadyH.nil
                  simp only [List.getElem_toArray, List.getElem_cons_succ, List.getElem_cons_zero]
                  go_simp
                  refine (unhide HDR qn _).mono ?_
                  rintro e v2 ⟨rfl, hb⟩
                  have hS2 : Blk v2 G #[.bool qo, .int .i64 1, .int .i64 qt, .int .i64 qn, .bool qr, .bool qq, .int .i64 qv, .int .i64 qb, .string qd, .string qw, .string qdr] 42 ∧ Ap w N A B a n l n l v2 := ⟨hS.1.below hb hS.1.lt, hS.2.low hb⟩
                  clear hb
                  refine hK.out _ _ hS2 (fun hS => ?_)
                  clear hK K
                  refine wpAnyH_ready (rs := [9]) (by kernel_rfl) (by simp) ?_
                  refine AllReadyH.cons rfl (fun K hK => ?_) AllReadyH.nil
                  simp only [List.getElem_toArray, List.getElem_cons_succ, List.getElem_cons_zero]
                  go_simp
                  refine (hS.2.offerB qt (unhide HNE) (ofV qn : Int) (ofB qn : Int) (ofD qn) (ofW qn) (drB qn) (drB_size qn) (ofD_size qn) (unhide HKT _ hS.2.lo)).mono ?_
                  rintro e v3 ⟨rv, rfl, hA, hO⟩
                  have hS3 : Blk v3 G #[.bool qo, .int .i64 1, .int .i64 qt, .int .i64 qn, .bool qr, .bool qq, .int .i64 qv, .int .i64 qb, .string qd, .string qw, .string qdr] 42 ∧ Ap w N A B a n l n l v3 := ⟨hS.1.only hO (onB_far (unhide HTG)), hA⟩
                  clear hA hO
                  refine hK.out _ _ hS3 (fun hS => ?_)
                  clear hK K
                  refine wpAnyH_done (by kernel_rfl) ?_ _
                  have HSe := hide hS.2
                  clear hS
                  go_wp2
                  go_roundw
                  case rel => exact ⟨x + 1, y + 1, by omega, by omega, by go_num, by go_num, n, l, unhide HSe⟩
                  case measure => simp [intOf]; omega
              · by_cases k2 : qk = 2
                · subst k2
                  as_aux_lemma =>
                    obtain ⟨G, hG⟩ : ∃ G, wr.heap.size = G := ⟨_, rfl⟩
                    obtain ⟨y1, hy1⟩ : ∃ Z, wr.alloc (.cells #[.bool false, .int .i64 0, .int .i64 0, .int .i64 0, .bool false, .bool false, .int .i64 0, .int .i64 0, .string ⟨#[]⟩, .string ⟨#[]⟩, .string ⟨#[]⟩] 42) = Z := ⟨_, rfl⟩
                    have hly : Below wr.heap.size wr y1 := by rw [← hy1]; exact (Below.refl _ _).alloc (Nat.le_refl _) _
                    have hby : Blk y1 G #[.bool false, .int .i64 0, .int .i64 0, .int .i64 0, .bool false, .bool false, .int .i64 0, .int .i64 0, .string ⟨#[]⟩, .string ⟨#[]⟩, .string ⟨#[]⟩] 42 := by rw [← hy1, ← hG]; exact Blk.new _ _ _
                    have hty := (unhide HSn).top
                    have hyA := (unhide HSn).low hly
                    have hTG : B + 9 ≤ G := by omega
                    have HTH := hide (blk_there hby 11 rfl)
                    have hoz : Only (fun x => x = G) y1 (y1.setCells G 0 [.bool qo, .int .i64 2, .int .i64 qt, .int .i64 qn, .bool qr, .bool qq, .int .i64 qv, .int .i64 qb, .string qd, .string qw, .string qdr]) := only_cells G 0 _ rfl
                    have hwz := setCells_all hby [.bool qo, .int .i64 2, .int .i64 qt, .int .i64 qn, .bool qr, .bool qq, .int .i64 qv, .int .i64 qb, .string qd, .string qw, .string qdr] rfl
                    have hsz := hyA.oth hoz hTG
                    obtain ⟨z4, hz4⟩ : ∃ Z, y1.setCells G 0 (#[.bool qo, .int .i64 2, .int .i64 qt, .int .i64 qn, .bool qr, .bool qq, .int .i64 qv, .int .i64 qb, .string qd, .string qw, .string qdr] : Array Value).toList = Z := ⟨_, rfl⟩
                    have hz4' : y1.setCells G 0 [.bool qo, .int .i64 2, .int .i64 qt, .int .i64 qn, .bool qr, .bool qq, .int .i64 qv, .int .i64 qb, .string qd, .string qw, .string qdr] = z4 := hz4
                    rw [hz4'] at hoz hwz hsz
                    have HZ4 := hide hz4
                    have HTG := hide hTG
                    have c1 : z4.cell? ⟨G, 1, none⟩ = some (.int .i64 2) := hwz.cell 1
                    have c2 : z4.cell? ⟨G, 2, none⟩ = some (.int .i64 qt) := hwz.cell 2
                    have c3 : z4.cell? ⟨G, 3, none⟩ = some (.int .i64 qn) := hwz.cell 3
                    have f2 : z4.frozen? ⟨G, 2, none⟩ = false := hwz.frozen 2
                    have HSa := hide hsz
                    have HWz := hide (show Blk z4 G #[.bool qo, .int .i64 2, .int .i64 qt, .int .i64 qn, .bool qr, .bool qq, .int .i64 qv, .int .i64 qb, .string qd, .string qw, .string qdr] 42 from hwz)
                    clear hly hby hty hyA hTG hoz hwz hsz hz4 hz4' HSn
                    have g1 : (qt == 1 + (a : Int)) = false := by simp; omega
                    have g2 : decide (qt = 1 + (a : Int)) = false := decide_eq_false (by omega)
                    have HNE := hide (show (a : Int) + 1 ≠ qt from by omega)
                    clear hte
                    go_wp2_with (first | refine wpList_load_mid rfl 42 (.tmp 71) rfl g (o + x * 11) rfl [.bool qo, .int .i64 2, .int .i64 qt, .int .i64 qn, .bool qr, .bool qq, .int .i64 qv, .int .i64 qb, .string qd, .string qw, .string qdr] _ (unhide HRG) Tryd.underlying42 rfl (by rw [sizeOp]; rfl) ?_ | (refine wpList_store_mid rfl 42 (.tmp 14) (.tmp 72) rfl G 0 #[.bool qo, .int .i64 2, .int .i64 qt, .int .i64 qn, .bool qr, .bool qq, .int .i64 qv, .int .i64 qb, .string qd, .string qw, .string qdr] rfl rfl (unhide HTH) (by rw [sizeOp]; rfl) (by simp [Value.oneCell']) ?_; rw [unhide HZ4]))
                    have HTK := hide ((unhide HSa).takeB qt (unhide HNE) qn)
                    clear HSa
                    refine (unhide HTK).mono ?_
                    rintro e y3 ⟨v, rfl, hA, hO⟩
                    have HSe := hide hA
                    clear hA hO HTK HWz HNE
                    go_wp2
                    go_roundw
                    case rel => exact ⟨x + 1, y + 1, by omega, by omega, by go_num, by go_num, n, l, unhide HSe⟩
                    case measure => simp [intOf]; omega
                · by_cases k3 : qk = 3
                  · subst k3
                    as_aux_lemma =>
                      obtain ⟨G, hG⟩ : ∃ G, wr.heap.size = G := ⟨_, rfl⟩
                      obtain ⟨y1, hy1⟩ : ∃ Z, wr.alloc (.cells #[.bool false, .int .i64 0, .int .i64 0, .int .i64 0, .bool false, .bool false, .int .i64 0, .int .i64 0, .string ⟨#[]⟩, .string ⟨#[]⟩, .string ⟨#[]⟩] 42) = Z := ⟨_, rfl⟩
                      have hly : Below wr.heap.size wr y1 := by rw [← hy1]; exact (Below.refl _ _).alloc (Nat.le_refl _) _
                      have hby : Blk y1 G #[.bool false, .int .i64 0, .int .i64 0, .int .i64 0, .bool false, .bool false, .int .i64 0, .int .i64 0, .string ⟨#[]⟩, .string ⟨#[]⟩, .string ⟨#[]⟩] 42 := by rw [← hy1, ← hG]; exact Blk.new _ _ _
                      have hty := (unhide HSn).top
                      have hyA := (unhide HSn).low hly
                      have hTG : B + 9 ≤ G := by omega
                      have HTH := hide (blk_there hby 11 rfl)
                      have hoz : Only (fun x => x = G) y1 (y1.setCells G 0 [.bool qo, .int .i64 3, .int .i64 qt, .int .i64 qn, .bool qr, .bool qq, .int .i64 qv, .int .i64 qb, .string qd, .string qw, .string qdr]) := only_cells G 0 _ rfl
                      have hwz := setCells_all hby [.bool qo, .int .i64 3, .int .i64 qt, .int .i64 qn, .bool qr, .bool qq, .int .i64 qv, .int .i64 qb, .string qd, .string qw, .string qdr] rfl
                      have hsz := hyA.oth hoz hTG
                      obtain ⟨z4, hz4⟩ : ∃ Z, y1.setCells G 0 (#[.bool qo, .int .i64 3, .int .i64 qt, .int .i64 qn, .bool qr, .bool qq, .int .i64 qv, .int .i64 qb, .string qd, .string qw, .string qdr] : Array Value).toList = Z := ⟨_, rfl⟩
                      have hz4' : y1.setCells G 0 [.bool qo, .int .i64 3, .int .i64 qt, .int .i64 qn, .bool qr, .bool qq, .int .i64 qv, .int .i64 qb, .string qd, .string qw, .string qdr] = z4 := hz4
                      rw [hz4'] at hoz hwz hsz
                      have HZ4 := hide hz4
                      have HTG := hide hTG
                      have c1 : z4.cell? ⟨G, 1, none⟩ = some (.int .i64 3) := hwz.cell 1
                      have c2 : z4.cell? ⟨G, 2, none⟩ = some (.int .i64 qt) := hwz.cell 2
                      have c3 : z4.cell? ⟨G, 3, none⟩ = some (.int .i64 qn) := hwz.cell 3
                      have f2 : z4.frozen? ⟨G, 2, none⟩ = false := hwz.frozen 2
                      have HSa := hide hsz
                      have HWz := hide (show Blk z4 G #[.bool qo, .int .i64 3, .int .i64 qt, .int .i64 qn, .bool qr, .bool qq, .int .i64 qv, .int .i64 qb, .string qd, .string qw, .string qdr] 42 from hwz)
                      clear hly hby hty hyA hTG hoz hwz hsz hz4 hz4' HSn
                      have g1 : (qt == 1 + (a : Int)) = false := by simp; omega
                      have g2 : decide (qt = 1 + (a : Int)) = false := decide_eq_false (by omega)
                      have HNE := hide (show (a : Int) + 1 ≠ qt from by omega)
                      clear hte
                      go_wp2_with (first | refine wpList_load_mid rfl 42 (.tmp 71) rfl g (o + x * 11) rfl [.bool qo, .int .i64 3, .int .i64 qt, .int .i64 qn, .bool qr, .bool qq, .int .i64 qv, .int .i64 qb, .string qd, .string qw, .string qdr] _ (unhide HRG) Tryd.underlying42 rfl (by rw [sizeOp]; rfl) ?_ | (refine wpList_store_mid rfl 42 (.tmp 14) (.tmp 72) rfl G 0 #[.bool qo, .int .i64 3, .int .i64 qt, .int .i64 qn, .bool qr, .bool qq, .int .i64 qv, .int .i64 qb, .string qd, .string qw, .string qdr] rfl rfl (unhide HTH) (by rw [sizeOp]; rfl) (by simp [Value.oneCell']) ?_; rw [unhide HZ4]))
                      have HTK := hide ((unhide HSa).forgetB qt (unhide HNE))
                      clear HSa
                      refine (unhide HTK).mono ?_
                      rintro e y3 ⟨v, rfl, hA, hO⟩
                      have HSe := hide hA
                      clear hA hO HTK HWz HNE
                      go_wp2
                      go_roundw
                      case rel => exact ⟨x + 1, y + 1, by omega, by omega, by go_num, by go_num, n, l, unhide HSe⟩
                      case measure => simp [intOf]; omega
                  · have j1 : (qk == 1) = false := by simpa using k1
                    have j2 : (qk == 2) = false := by simpa using k2
                    have j3 : (qk == 3) = false := by simpa using k3
                    clear k1 k2 k3
                    as_aux_lemma =>
                      obtain ⟨G, hG⟩ : ∃ G, wr.heap.size = G := ⟨_, rfl⟩
                      obtain ⟨y1, hy1⟩ : ∃ Z, wr.alloc (.cells #[.bool false, .int .i64 0, .int .i64 0, .int .i64 0, .bool false, .bool false, .int .i64 0, .int .i64 0, .string ⟨#[]⟩, .string ⟨#[]⟩, .string ⟨#[]⟩] 42) = Z := ⟨_, rfl⟩
                      have hly : Below wr.heap.size wr y1 := by rw [← hy1]; exact (Below.refl _ _).alloc (Nat.le_refl _) _
                      have hby : Blk y1 G #[.bool false, .int .i64 0, .int .i64 0, .int .i64 0, .bool false, .bool false, .int .i64 0, .int .i64 0, .string ⟨#[]⟩, .string ⟨#[]⟩, .string ⟨#[]⟩] 42 := by rw [← hy1, ← hG]; exact Blk.new _ _ _
                      have hty := (unhide HSn).top
                      have hyA := (unhide HSn).low hly
                      have hTG : B + 9 ≤ G := by omega
                      have HTH := hide (blk_there hby 11 rfl)
                      have hoz : Only (fun x => x = G) y1 (y1.setCells G 0 [.bool qo, .int .i64 qk, .int .i64 qt, .int .i64 qn, .bool qr, .bool qq, .int .i64 qv, .int .i64 qb, .string qd, .string qw, .string qdr]) := only_cells G 0 _ rfl
                      have hwz := setCells_all hby [.bool qo, .int .i64 qk, .int .i64 qt, .int .i64 qn, .bool qr, .bool qq, .int .i64 qv, .int .i64 qb, .string qd, .string qw, .string qdr] rfl
                      have hsz := hyA.oth hoz hTG
                      obtain ⟨z4, hz4⟩ : ∃ Z, y1.setCells G 0 (#[.bool qo, .int .i64 qk, .int .i64 qt, .int .i64 qn, .bool qr, .bool qq, .int .i64 qv, .int .i64 qb, .string qd, .string qw, .string qdr] : Array Value).toList = Z := ⟨_, rfl⟩
                      have hz4' : y1.setCells G 0 [.bool qo, .int .i64 qk, .int .i64 qt, .int .i64 qn, .bool qr, .bool qq, .int .i64 qv, .int .i64 qb, .string qd, .string qw, .string qdr] = z4 := hz4
                      rw [hz4'] at hoz hwz hsz
                      have HZ4 := hide hz4
                      have HTG := hide hTG
                      have c1 : z4.cell? ⟨G, 1, none⟩ = some (.int .i64 qk) := hwz.cell 1
                      have c2 : z4.cell? ⟨G, 2, none⟩ = some (.int .i64 qt) := hwz.cell 2
                      have c3 : z4.cell? ⟨G, 3, none⟩ = some (.int .i64 qn) := hwz.cell 3
                      have f2 : z4.frozen? ⟨G, 2, none⟩ = false := hwz.frozen 2
                      have HSa := hide hsz
                      have HWz := hide (show Blk z4 G #[.bool qo, .int .i64 qk, .int .i64 qt, .int .i64 qn, .bool qr, .bool qq, .int .i64 qv, .int .i64 qb, .string qd, .string qw, .string qdr] 42 from hwz)
                      clear hly hby hty hyA hTG hoz hwz hsz hz4 hz4' HSn
                      have g1 : (qt == 1 + (a : Int)) = false := by simp; omega
                      have g2 : decide (qt = 1 + (a : Int)) = false := decide_eq_false (by omega)
                      have HNE := hide (show (a : Int) + 1 ≠ qt from by omega)
                      clear hte
                      go_wp2_with (first | refine wpList_load_mid rfl 42 (.tmp 71) rfl g (o + x * 11) rfl [.bool qo, .int .i64 qk, .int .i64 qt, .int .i64 qn, .bool qr, .bool qq, .int .i64 qv, .int .i64 qb, .string qd, .string qw, .string qdr] _ (unhide HRG) Tryd.underlying42 rfl (by rw [sizeOp]; rfl) ?_ | (refine wpList_store_mid rfl 42 (.tmp 14) (.tmp 72) rfl G 0 #[.bool qo, .int .i64 qk, .int .i64 qt, .int .i64 qn, .bool qr, .bool qq, .int .i64 qv, .int .i64 qb, .string qd, .string qw, .string qdr] rfl rfl (unhide HTH) (by rw [sizeOp]; rfl) (by simp [Value.oneCell']) ?_; rw [unhide HZ4]))
                      go_roundw
                      case rel => exact ⟨x + 1, y + 1, by omega, by omega, by go_num, by go_num, n, l, unhide HSa⟩
                      case measure => simp [intOf]; omega
          · skip
            have d1 : decide ((y : Int) ≤ (r : Int)) = true := decide_eq_true (by omega)
            have d2 : (y : Int) ≤ (r : Int) := by omega
            have d3 : decide ((x : Int) < (n2 : Int)) = false := decide_eq_false (by omega)
            have d4 : decide (x < n2) = false := decide_eq_false (by omega)
            have d5 : (n2 : Int) ≤ (x : Int) := by omega
            clear hxn
            have i2 : 0 ≤ (k : Int) := by omega
            have w7 : IntKind.i64.wrap ((k : Int) + 1) = (k : Int) + 1 := wrapI_eq _ (by omega) (by omega)
            obtain ⟨g, o, rfl, hrg⟩ := unhide HR1 _ (unhide HSn).lo k hlt
            have hok := unhide HO1 k hlt
            obtain ⟨q, hq⟩ : ∃ q, f1 k = q := ⟨_, rfl⟩
            rw [hq] at hrg hok
            clear hq
            obtain ⟨qo, qk, qt, qn, qr, qq, qv, qb, qd, qw, qdr⟩ := q
            simp only [Opr.cl] at hrg
            obtain ⟨o1, o2, o3, _, _⟩ := hok
            simp only at o1 o2 o3
            have HRG := hide hrg
            have HQN := hide o3
            clear hrg o1 o2 o3
            by_cases k1 : qk = 1
            · subst k1
              as_aux_lemma =>
                obtain ⟨G, hG⟩ : ∃ G, wr.heap.size = G := ⟨_, rfl⟩
                obtain ⟨y1, hy1⟩ : ∃ Z, wr.alloc (.cells #[.bool false, .int .i64 0, .int .i64 0, .int .i64 0, .bool false, .bool false, .int .i64 0, .int .i64 0, .string ⟨#[]⟩, .string ⟨#[]⟩, .string ⟨#[]⟩] 42) = Z := ⟨_, rfl⟩
                have hly : Below wr.heap.size wr y1 := by rw [← hy1]; exact (Below.refl _ _).alloc (Nat.le_refl _) _
                have hby : Blk y1 G #[.bool false, .int .i64 0, .int .i64 0, .int .i64 0, .bool false, .bool false, .int .i64 0, .int .i64 0, .string ⟨#[]⟩, .string ⟨#[]⟩, .string ⟨#[]⟩] 42 := by rw [← hy1, ← hG]; exact Blk.new _ _ _
                have hty := (unhide HSn).top
                have hyA := (unhide HSn).low hly
                have hTG : B + 9 ≤ G := by omega
                have HTH := hide (blk_there hby 11 rfl)
                have hoz : Only (fun x => x = G) y1 (y1.setCells G 0 [.bool qo, .int .i64 1, .int .i64 qt, .int .i64 qn, .bool qr, .bool qq, .int .i64 qv, .int .i64 qb, .string qd, .string qw, .string qdr]) := only_cells G 0 _ rfl
                have hwz := setCells_all hby [.bool qo, .int .i64 1, .int .i64 qt, .int .i64 qn, .bool qr, .bool qq, .int .i64 qv, .int .i64 qb, .string qd, .string qw, .string qdr] rfl
                have hsz := hyA.oth hoz hTG
                obtain ⟨z4, hz4⟩ : ∃ Z, y1.setCells G 0 (#[.bool qo, .int .i64 1, .int .i64 qt, .int .i64 qn, .bool qr, .bool qq, .int .i64 qv, .int .i64 qb, .string qd, .string qw, .string qdr] : Array Value).toList = Z := ⟨_, rfl⟩
                have hz4' : y1.setCells G 0 [.bool qo, .int .i64 1, .int .i64 qt, .int .i64 qn, .bool qr, .bool qq, .int .i64 qv, .int .i64 qb, .string qd, .string qw, .string qdr] = z4 := hz4
                rw [hz4'] at hoz hwz hsz
                have HZ4 := hide hz4
                have HTG := hide hTG
                have c1 : z4.cell? ⟨G, 1, none⟩ = some (.int .i64 1) := hwz.cell 1
                have c2 : z4.cell? ⟨G, 2, none⟩ = some (.int .i64 qt) := hwz.cell 2
                have c3 : z4.cell? ⟨G, 3, none⟩ = some (.int .i64 qn) := hwz.cell 3
                have f2 : z4.frozen? ⟨G, 2, none⟩ = false := hwz.frozen 2
                have HSa := hide hsz
                have HWz := hide (show Blk z4 G #[.bool qo, .int .i64 1, .int .i64 qt, .int .i64 qn, .bool qr, .bool qq, .int .i64 qv, .int .i64 qb, .string qd, .string qw, .string qdr] 42 from hwz)
                clear hly hby hty hyA hTG hoz hwz hsz hz4 hz4' HSn
                clear c2 f2
                have HAB2 := hide (show A + 9 ≤ G from by have h1 := unhide HAB; have h2 := unhide HTG; omega)
                go_wp2_with (first | refine wpList_load_mid rfl 42 (.tmp 110) rfl g (o + k * 11) rfl [.bool qo, .int .i64 1, .int .i64 qt, .int .i64 qn, .bool qr, .bool qq, .int .i64 qv, .int .i64 qb, .string qd, .string qw, .string qdr] _ (unhide HRG) Tryd.underlying42 rfl (by rw [sizeOp]; rfl) ?_ | (refine wpList_store_mid rfl 42 (.tmp 15) (.tmp 111) rfl G 0 #[.bool qo, .int .i64 1, .int .i64 qt, .int .i64 qn, .bool qr, .bool qq, .int .i64 qv, .int .i64 qb, .string qd, .string qw, .string qdr] rfl rfl (unhide HTH) (by rw [sizeOp]; rfl) (by simp [Value.oneCell']) ?_; rw [unhide HZ4]))
                have HWA := hide (unhide HWz)
                clear HWz
                have HI0A := hide (show Ap w N A B a n l n l z4.drew from (unhide HSa).low (Below.refl _ _).drew)
                have HW0A := hide (show Blk z4.drew G #[.bool qo, .int .i64 1, .int .i64 qt, .int .i64 qn, .bool qr, .bool qq, .int .i64 qv, .int .i64 qb, .string qd, .string qw, .string qdr] 42 from (unhide HWA).below (Below.refl _ _).drew (unhide HWA).lt)
                clear HSa HWA
                refine wp_region_held_drew (S := fun W => Blk W G #[.bool qo, .int .i64 1, .int .i64 qt, .int .i64 qn, .bool qr, .bool qq, .int .i64 qv, .int .i64 qb, .string qd, .string qw, .string qdr] 42) (by kernel_rfl) (unhide HW0A) ?_
                intro hS
                generalize z4.drew = zdA at *
                refine wpAnyH_takeD 0 (some 139) (.pointer (some ⟨A, 0, none⟩)) rfl rfl (by kernel_rfl) (by kernel_rfl) (by kernel_rfl) (fun _ _ _ h => h) (Or.inl ⟨by rfl, fun w hSw => by have a3 : w.cell? ⟨G, 3, none⟩ = some (.int .i64 qn) := Blk.cell hSw 3; clear hSw; go_simp⟩) hS ?_
                simp only [Act.put, List.setIfInBounds_toArray, List.set_cons_zero, List.set_cons_succ]
                refine wpAnyH_takeD 1 (some 140) (.int .i64 (1 + (a : Int))) rfl rfl (by kernel_rfl) (by kernel_rfl) (by kernel_rfl) (fun _ _ _ h => h) (Or.inl ⟨by rfl, fun w hSw => by have a3 : w.cell? ⟨G, 3, none⟩ = some (.int .i64 qn) := Blk.cell hSw 3; clear hSw; go_simp⟩) hS ?_
                simp only [Act.put, List.setIfInBounds_toArray, List.set_cons_zero, List.set_cons_succ]
                refine wpAnyH_takeD 2 (some 141) (.pointer (some ⟨G, 3, none⟩)) rfl rfl (by kernel_rfl) (by kernel_rfl) (by kernel_rfl) (fun _ _ _ h => h) (Or.inl ⟨by rfl, fun w hSw => by have a3 : w.cell? ⟨G, 3, none⟩ = some (.int .i64 qn) := Blk.cell hSw 3; clear hSw; go_simp⟩) hS ?_
                simp only [Act.put, List.setIfInBounds_toArray, List.set_cons_zero, List.set_cons_succ]
                refine wpAnyH_takeD 3 (some 142) (.int .i64 qn) rfl rfl (by kernel_rfl) (by kernel_rfl) (by kernel_rfl) (fun _ _ _ h => h) (Or.inl ⟨by rfl, fun w hSw => by have a3 : w.cell? ⟨G, 3, none⟩ = some (.int .i64 qn) := Blk.cell hSw 3; clear hSw; go_simp⟩) hS ?_
                simp only [Act.put, List.setIfInBounds_toArray, List.set_cons_zero, List.set_cons_succ]
                refine wpAnyH_takeD 5 (some 144) (.pointer (some ⟨G, 3, none⟩)) rfl rfl (by kernel_rfl) (by kernel_rfl) (by kernel_rfl) (fun _ _ _ h => h) (Or.inl ⟨by rfl, fun w hSw => by have a3 : w.cell? ⟨G, 3, none⟩ = some (.int .i64 qn) := Blk.cell hSw 3; clear hSw; go_simp⟩) hS ?_
                simp only [Act.put, List.setIfInBounds_toArray, List.set_cons_zero, List.set_cons_succ]
                refine wpAnyH_takeD 6 (some 145) (.int .i64 qn) rfl rfl (by kernel_rfl) (by kernel_rfl) (by kernel_rfl) (fun _ _ _ h => h) (Or.inl ⟨by rfl, fun w hSw => by have a3 : w.cell? ⟨G, 3, none⟩ = some (.int .i64 qn) := Blk.cell hSw 3; clear hSw; go_simp⟩) hS ?_
                simp only [Act.put, List.setIfInBounds_toArray, List.set_cons_zero, List.set_cons_succ]
                refine wpAnyH_ready (rs := [4]) (by kernel_rfl) (by simp) ?_
                refine AllReadyH.cons rfl (fun K hK => ?_) AllReadyH.nil
                simp only [List.getElem_toArray, List.getElem_cons_succ, List.getElem_cons_zero]
                go_simp
                refine (unhide HOF qn (unhide HQN) _ (unhide HI0A).lo).mono ?_
                rintro e v1A ⟨rfl, hb⟩
                have hS1 : Blk v1A G #[.bool qo, .int .i64 1, .int .i64 qt, .int .i64 qn, .bool qr, .bool qq, .int .i64 qv, .int .i64 qb, .string qd, .string qw, .string qdr] 42 := hS.below hb hS.lt
                have HI1A := hide (show Ap w N A B a n l n l v1A from (unhide HI0A).low hb)
                clear hb HI0A
                refine hK.out _ _ hS1 (fun hS => ?_)
                clear hK K
                refine wpAnyH_ready (rs := [7]) (by kernel_rfl) (by simp) ?_
                refine AllReadyH.cons rfl (fun K hK => ?_) AllReadyH.nil
                simp only [List.getElem_toArray, List.getElem_cons_succ, List.getElem_cons_zero]
                go_simp
                refine (unhide HDR qn _).mono ?_
                rintro e v2A ⟨rfl, hb⟩
                have hS2 : Blk v2A G #[.bool qo, .int .i64 1, .int .i64 qt, .int .i64 qn, .bool qr, .bool qq, .int .i64 qv, .int .i64 qb, .string qd, .string qw, .string qdr] 42 := hS.below hb hS.lt
                have HI2A := hide (show Ap w N A B a n l n l v2A from (unhide HI1A).low hb)
                clear hb HI1A
                refine hK.out _ _ hS2 (fun hS => ?_)
                clear hK K
                refine wpAnyH_ready (rs := [8]) (by kernel_rfl) (by simp) ?_
                refine AllReadyH.cons rfl (fun K hK => ?_) AllReadyH.nil
                simp only [List.getElem_toArray, List.getElem_cons_succ, List.getElem_cons_zero]
                go_simp
                refine ((unhide HI2A).ownOfferA hq1 (1 + (a : Int)) (by omega) (ofV qn : Int) (ofB qn : Int) (ofD qn) (ofW qn) (drB qn) (drB_size qn) (ofD_size qn) (unhide HKT _ (unhide HI2A).lo)).mono ?_
                rintro e v3A ⟨ao, rfl, hI, hF, hA, hO⟩
                have hS3 : Blk v3A G #[.bool qo, .int .i64 1, .int .i64 qt, .int .i64 qn, .bool qr, .bool qq, .int .i64 qv, .int .i64 qb, .string qd, .string qw, .string qdr] 42 := hS.only hO (onB_far (unhide HAB2))
                have HJA := hide (And.intro hA hI)
                have HFA := hide hF
                clear hI hF hA hO HI2A
                refine hK.out _ _ hS3 (fun hS => ?_)
                clear hK K
                refine wpAnyH_takeD 9 (some 138) (.tuple #[.int .i64 (nxN n), .slice ao 8 8, .int .i64 0]) rfl rfl (by kernel_rfl) (by kernel_rfl) (by kernel_rfl) (fun _ _ _ h => h) (Or.inl ⟨by rfl, fun w hSw => by have a3 : w.cell? ⟨G, 3, none⟩ = some (.int .i64 qn) := Blk.cell hSw 3; clear hSw; go_simp⟩) hS ?_
                simp only [Act.put, List.setIfInBounds_toArray, List.set_cons_zero, List.set_cons_succ]
                refine wpAnyH_takeD 10 (some 148) (.int .i64 (nxN n)) rfl rfl (by kernel_rfl) (by kernel_rfl) (by kernel_rfl) (fun _ _ _ h => h) (Or.inl ⟨by rfl, fun w hSw => by have a3 : w.cell? ⟨G, 3, none⟩ = some (.int .i64 qn) := Blk.cell hSw 3; clear hSw; go_simp⟩) hS ?_
                simp only [Act.put, List.setIfInBounds_toArray, List.set_cons_zero, List.set_cons_succ]
                refine wpAnyH_takeD 11 (some 149) (.slice ao 8 8) rfl rfl (by kernel_rfl) (by kernel_rfl) (by kernel_rfl) (fun _ _ _ h => h) (Or.inl ⟨by rfl, fun w hSw => by have a3 : w.cell? ⟨G, 3, none⟩ = some (.int .i64 qn) := Blk.cell hSw 3; clear hSw; go_simp⟩) hS ?_
                simp only [Act.put, List.setIfInBounds_toArray, List.set_cons_zero, List.set_cons_succ]
                refine wpAnyH_takeD 12 (some 150) (.int .i64 0) rfl rfl (by kernel_rfl) (by kernel_rfl) (by kernel_rfl) (fun _ _ _ h => h) (Or.inl ⟨by rfl, fun w hSw => by have a3 : w.cell? ⟨G, 3, none⟩ = some (.int .i64 qn) := Blk.cell hSw 3; clear hSw; go_simp⟩) hS ?_
                simp only [Act.put, List.setIfInBounds_toArray, List.set_cons_zero, List.set_cons_succ]
                refine wpAnyH_takeD 13 (some 16) (.int .i64 (nxN n)) rfl rfl (by kernel_rfl) (by kernel_rfl) (by kernel_rfl) (fun _ _ _ h => h) (Or.inl ⟨by rfl, fun w hSw => by have a3 : w.cell? ⟨G, 3, none⟩ = some (.int .i64 qn) := Blk.cell hSw 3; clear hSw; go_simp⟩) hS ?_
                simp only [Act.put, List.setIfInBounds_toArray, List.set_cons_zero, List.set_cons_succ]
                refine wpAnyH_takeD 14 (some 17) (.slice ao 8 8) rfl rfl (by kernel_rfl) (by kernel_rfl) (by kernel_rfl) (fun _ _ _ h => h) (Or.inl ⟨by rfl, fun w hSw => by have a3 : w.cell? ⟨G, 3, none⟩ = some (.int .i64 qn) := Blk.cell hSw 3; clear hSw; go_simp⟩) hS ?_
                simp only [Act.put, List.setIfInBounds_toArray, List.set_cons_zero, List.set_cons_succ]
                refine wpAnyH_takeD 15 (some 18) (.int .i64 0) rfl rfl (by kernel_rfl) (by kernel_rfl) (by kernel_rfl) (fun _ _ _ h => h) (Or.inl ⟨by rfl, fun w hSw => by have a3 : w.cell? ⟨G, 3, none⟩ = some (.int .i64 qn) := Blk.cell hSw 3; clear hSw; go_simp⟩) hS ?_
                simp only [Act.put, List.setIfInBounds_toArray, List.set_cons_zero, List.set_cons_succ]
                refine wpAnyH_done (by kernel_rfl) ?_ _
                have HWB := hide hS
                clear hS
                go_wp2
                have HI0B := hide (show Ap w N A B a (nxN n) (nxL n l (ofV qn : Int) (ofB qn : Int) (ofD qn) (ofW qn) (drB qn)) n l v3A.drew ∧ Ils v3A.drew ao (plI (drB qn) (ofD qn)) from ⟨(unhide HJA).1.low (Below.refl _ _).drew, (unhide HJA).2.below (Below.refl _ _).drew⟩)
                have HW0B := hide (show Blk v3A.drew G #[.bool qo, .int .i64 1, .int .i64 qt, .int .i64 qn, .bool qr, .bool qq, .int .i64 qv, .int .i64 qb, .string qd, .string qw, .string qdr] 42 from (unhide HWB).below (Below.refl _ _).drew (unhide HWB).lt)
                clear HJA HWB
                refine wp_region_held_drew (S := fun W => Blk W G #[.bool qo, .int .i64 1, .int .i64 qt, .int .i64 qn, .bool qr, .bool qq, .int .i64 qv, .int .i64 qb, .string qd, .string qw, .string qdr] 42) (by kernel_rfl) (unhide HW0B) ?_
                intro hS
                generalize v3A.drew = zdB at *
                refine wpAnyH_takeD 0 (some 152) (.pointer (some ⟨B, 0, none⟩)) rfl rfl (by kernel_rfl) (by kernel_rfl) (by kernel_rfl) (fun _ _ _ h => h) (Or.inl ⟨by rfl, fun w hSw => by have a3 : w.cell? ⟨G, 3, none⟩ = some (.int .i64 qn) := Blk.cell hSw 3; clear hSw; go_simp⟩) hS ?_
                simp only [Act.put, List.setIfInBounds_toArray, List.set_cons_zero, List.set_cons_succ]
                refine wpAnyH_takeD 1 (some 153) (.int .i64 (1 + (a : Int))) rfl rfl (by kernel_rfl) (by kernel_rfl) (by kernel_rfl) (fun _ _ _ h => h) (Or.inl ⟨by rfl, fun w hSw => by have a3 : w.cell? ⟨G, 3, none⟩ = some (.int .i64 qn) := Blk.cell hSw 3; clear hSw; go_simp⟩) hS ?_
                simp only [Act.put, List.setIfInBounds_toArray, List.set_cons_zero, List.set_cons_succ]
                refine wpAnyH_takeD 2 (some 154) (.pointer (some ⟨G, 3, none⟩)) rfl rfl (by kernel_rfl) (by kernel_rfl) (by kernel_rfl) (fun _ _ _ h => h) (Or.inl ⟨by rfl, fun w hSw => by have a3 : w.cell? ⟨G, 3, none⟩ = some (.int .i64 qn) := Blk.cell hSw 3; clear hSw; go_simp⟩) hS ?_
                simp only [Act.put, List.setIfInBounds_toArray, List.set_cons_zero, List.set_cons_succ]
                refine wpAnyH_takeD 3 (some 155) (.int .i64 qn) rfl rfl (by kernel_rfl) (by kernel_rfl) (by kernel_rfl) (fun _ _ _ h => h) (Or.inl ⟨by rfl, fun w hSw => by have a3 : w.cell? ⟨G, 3, none⟩ = some (.int .i64 qn) := Blk.cell hSw 3; clear hSw; go_simp⟩) hS ?_
                simp only [Act.put, List.setIfInBounds_toArray, List.set_cons_zero, List.set_cons_succ]
                refine wpAnyH_takeD 5 (some 157) (.pointer (some ⟨G, 3, none⟩)) rfl rfl (by kernel_rfl) (by kernel_rfl) (by kernel_rfl) (fun _ _ _ h => h) (Or.inl ⟨by rfl, fun w hSw => by have a3 : w.cell? ⟨G, 3, none⟩ = some (.int .i64 qn) := Blk.cell hSw 3; clear hSw; go_simp⟩) hS ?_
                simp only [Act.put, List.setIfInBounds_toArray, List.set_cons_zero, List.set_cons_succ]
                refine wpAnyH_takeD 6 (some 158) (.int .i64 qn) rfl rfl (by kernel_rfl) (by kernel_rfl) (by kernel_rfl) (fun _ _ _ h => h) (Or.inl ⟨by rfl, fun w hSw => by have a3 : w.cell? ⟨G, 3, none⟩ = some (.int .i64 qn) := Blk.cell hSw 3; clear hSw; go_simp⟩) hS ?_
                simp only [Act.put, List.setIfInBounds_toArray, List.set_cons_zero, List.set_cons_succ]
                refine wpAnyH_ready (rs := [4]) (by kernel_rfl) (by simp) ?_
                refine AllReadyH.cons rfl (fun K hK => ?_) AllReadyH.nil
                simp only [List.getElem_toArray, List.getElem_cons_succ, List.getElem_cons_zero]
                go_simp
                refine (unhide HOF qn (unhide HQN) _ (unhide HI0B).1.lo).mono ?_
                rintro e v1B ⟨rfl, hb⟩
                have hS1 : Blk v1B G #[.bool qo, .int .i64 1, .int .i64 qt, .int .i64 qn, .bool qr, .bool qq, .int .i64 qv, .int .i64 qb, .string qd, .string qw, .string qdr] 42 := hS.below hb hS.lt
                have HI1B := hide (show Ap w N A B a (nxN n) (nxL n l (ofV qn : Int) (ofB qn : Int) (ofD qn) (ofW qn) (drB qn)) n l v1B ∧ Ils v1B ao (plI (drB qn) (ofD qn)) from ⟨(unhide HI0B).1.low hb, (unhide HI0B).2.below hb⟩)
                clear hb HI0B
                refine hK.out _ _ hS1 (fun hS => ?_)
                clear hK K
                refine wpAnyH_ready (rs := [7]) (by kernel_rfl) (by simp) ?_
                refine AllReadyH.cons rfl (fun K hK => ?_) AllReadyH.nil
                simp only [List.getElem_toArray, List.getElem_cons_succ, List.getElem_cons_zero]
                go_simp
                refine (unhide HDR qn _).mono ?_
                rintro e v2B ⟨rfl, hb⟩
                have hS2 : Blk v2B G #[.bool qo, .int .i64 1, .int .i64 qt, .int .i64 qn, .bool qr, .bool qq, .int .i64 qv, .int .i64 qb, .string qd, .string qw, .string qdr] 42 := hS.below hb hS.lt
                have HI2B := hide (show Ap w N A B a (nxN n) (nxL n l (ofV qn : Int) (ofB qn : Int) (ofD qn) (ofW qn) (drB qn)) n l v2B ∧ Ils v2B ao (plI (drB qn) (ofD qn)) from ⟨(unhide HI1B).1.low hb, (unhide HI1B).2.below hb⟩)
                clear hb HI1B
                refine hK.out _ _ hS2 (fun hS => ?_)
                clear hK K
                refine wpAnyH_ready (rs := [8]) (by kernel_rfl) (by simp) ?_
                refine AllReadyH.cons rfl (fun K hK => ?_) AllReadyH.nil
                simp only [List.getElem_toArray, List.getElem_cons_succ, List.getElem_cons_zero]
                go_simp
                refine ((unhide HI2B).1.ownOfferB hq1 (1 + (a : Int)) (by omega) (ofV qn : Int) (ofB qn : Int) (ofD qn) (ofW qn) (drB qn) (drB_size qn) (ofD_size qn) (unhide HKT _ (unhide HI2B).1.lo)).mono ?_
                rintro e v3B ⟨ap, rfl, hI, hF, hA, hO⟩
                have hS3 : Blk v3B G #[.bool qo, .int .i64 1, .int .i64 qt, .int .i64 qn, .bool qr, .bool qq, .int .i64 qv, .int .i64 qb, .string qd, .string qw, .string qdr] 42 := hS.only hO (onB_far (unhide HTG))
                have HJB := hide (And.intro hA (And.intro (Kil.of hO (Nat.le_refl _) _ _ (unhide HI2B).2 (unhide HFA)) hI))
                clear HFA
                clear hI hF hA hO HI2B
                refine hK.out _ _ hS3 (fun hS => ?_)
                clear hK K
                refine wpAnyH_takeD 9 (some 151) (.tuple #[.int .i64 (nxN n), .slice ap 8 8, .int .i64 0]) rfl rfl (by kernel_rfl) (by kernel_rfl) (by kernel_rfl) (fun _ _ _ h => h) (Or.inl ⟨by rfl, fun w hSw => by have a3 : w.cell? ⟨G, 3, none⟩ = some (.int .i64 qn) := Blk.cell hSw 3; clear hSw; go_simp⟩) hS ?_
                simp only [Act.put, List.setIfInBounds_toArray, List.set_cons_zero, List.set_cons_succ]
                refine wpAnyH_takeD 10 (some 161) (.int .i64 (nxN n)) rfl rfl (by kernel_rfl) (by kernel_rfl) (by kernel_rfl) (fun _ _ _ h => h) (Or.inl ⟨by rfl, fun w hSw => by have a3 : w.cell? ⟨G, 3, none⟩ = some (.int .i64 qn) := Blk.cell hSw 3; clear hSw; go_simp⟩) hS ?_
                simp only [Act.put, List.setIfInBounds_toArray, List.set_cons_zero, List.set_cons_succ]
                refine wpAnyH_takeD 11 (some 162) (.slice ap 8 8) rfl rfl (by kernel_rfl) (by kernel_rfl) (by kernel_rfl) (fun _ _ _ h => h) (Or.inl ⟨by rfl, fun w hSw => by have a3 : w.cell? ⟨G, 3, none⟩ = some (.int .i64 qn) := Blk.cell hSw 3; clear hSw; go_simp⟩) hS ?_
                simp only [Act.put, List.setIfInBounds_toArray, List.set_cons_zero, List.set_cons_succ]
                refine wpAnyH_takeD 12 (some 163) (.int .i64 0) rfl rfl (by kernel_rfl) (by kernel_rfl) (by kernel_rfl) (fun _ _ _ h => h) (Or.inl ⟨by rfl, fun w hSw => by have a3 : w.cell? ⟨G, 3, none⟩ = some (.int .i64 qn) := Blk.cell hSw 3; clear hSw; go_simp⟩) hS ?_
                simp only [Act.put, List.setIfInBounds_toArray, List.set_cons_zero, List.set_cons_succ]
                refine wpAnyH_takeD 13 (some 19) (.int .i64 (nxN n)) rfl rfl (by kernel_rfl) (by kernel_rfl) (by kernel_rfl) (fun _ _ _ h => h) (Or.inl ⟨by rfl, fun w hSw => by have a3 : w.cell? ⟨G, 3, none⟩ = some (.int .i64 qn) := Blk.cell hSw 3; clear hSw; go_simp⟩) hS ?_
                simp only [Act.put, List.setIfInBounds_toArray, List.set_cons_zero, List.set_cons_succ]
                refine wpAnyH_takeD 14 (some 20) (.slice ap 8 8) rfl rfl (by kernel_rfl) (by kernel_rfl) (by kernel_rfl) (fun _ _ _ h => h) (Or.inl ⟨by rfl, fun w hSw => by have a3 : w.cell? ⟨G, 3, none⟩ = some (.int .i64 qn) := Blk.cell hSw 3; clear hSw; go_simp⟩) hS ?_
                simp only [Act.put, List.setIfInBounds_toArray, List.set_cons_zero, List.set_cons_succ]
                refine wpAnyH_takeD 15 (some 21) (.int .i64 0) rfl rfl (by kernel_rfl) (by kernel_rfl) (by kernel_rfl) (fun _ _ _ h => h) (Or.inl ⟨by rfl, fun w hSw => by have a3 : w.cell? ⟨G, 3, none⟩ = some (.int .i64 qn) := Blk.cell hSw 3; clear hSw; go_simp⟩) hS ?_
                simp only [Act.put, List.setIfInBounds_toArray, List.set_cons_zero, List.set_cons_succ]
                refine wpAnyH_done (by kernel_rfl) ?_ _
                clear hS
                have HSM := hide (same13_eq v3B ao ap 8 8 (plI (drB qn) (ofD qn)) 8 (plI_len _ _ (drB_size qn) (ofD_size qn)).symm (by omega) (unhide HJB).2.1 (unhide HJB).2.2)
                have HSf := hide (unhide HJB).1
                clear HJB
                go_wp2_with fail
                refine (unhide HSM).mono ?_
                rintro e y9 ⟨rfl, hb⟩
                have HSe := hide ((unhide HSf).low hb)
                clear hb HSf HSM
                have t1 : (nxN n != nxN n) = false := by simp
                go_wp2
                go_roundw
                case rel => exact ⟨x, k + 1, hx, by omega, rfl, by go_num, _, _, unhide HSe⟩
                case measure => simp [intOf]; omega
            · by_cases k2 : qk = 2
              · subst k2
                as_aux_lemma =>
                  obtain ⟨G, hG⟩ : ∃ G, wr.heap.size = G := ⟨_, rfl⟩
                  obtain ⟨y1, hy1⟩ : ∃ Z, wr.alloc (.cells #[.bool false, .int .i64 0, .int .i64 0, .int .i64 0, .bool false, .bool false, .int .i64 0, .int .i64 0, .string ⟨#[]⟩, .string ⟨#[]⟩, .string ⟨#[]⟩] 42) = Z := ⟨_, rfl⟩
                  have hly : Below wr.heap.size wr y1 := by rw [← hy1]; exact (Below.refl _ _).alloc (Nat.le_refl _) _
                  have hby : Blk y1 G #[.bool false, .int .i64 0, .int .i64 0, .int .i64 0, .bool false, .bool false, .int .i64 0, .int .i64 0, .string ⟨#[]⟩, .string ⟨#[]⟩, .string ⟨#[]⟩] 42 := by rw [← hy1, ← hG]; exact Blk.new _ _ _
                  have hty := (unhide HSn).top
                  have hyA := (unhide HSn).low hly
                  have hTG : B + 9 ≤ G := by omega
                  have HTH := hide (blk_there hby 11 rfl)
                  have hoz : Only (fun x => x = G) y1 (y1.setCells G 0 [.bool qo, .int .i64 2, .int .i64 qt, .int .i64 qn, .bool qr, .bool qq, .int .i64 qv, .int .i64 qb, .string qd, .string qw, .string qdr]) := only_cells G 0 _ rfl
                  have hwz := setCells_all hby [.bool qo, .int .i64 2, .int .i64 qt, .int .i64 qn, .bool qr, .bool qq, .int .i64 qv, .int .i64 qb, .string qd, .string qw, .string qdr] rfl
                  have hsz := hyA.oth hoz hTG
                  obtain ⟨z4, hz4⟩ : ∃ Z, y1.setCells G 0 (#[.bool qo, .int .i64 2, .int .i64 qt, .int .i64 qn, .bool qr, .bool qq, .int .i64 qv, .int .i64 qb, .string qd, .string qw, .string qdr] : Array Value).toList = Z := ⟨_, rfl⟩
                  have hz4' : y1.setCells G 0 [.bool qo, .int .i64 2, .int .i64 qt, .int .i64 qn, .bool qr, .bool qq, .int .i64 qv, .int .i64 qb, .string qd, .string qw, .string qdr] = z4 := hz4
                  rw [hz4'] at hoz hwz hsz
                  have HZ4 := hide hz4
                  have HTG := hide hTG
                  have c1 : z4.cell? ⟨G, 1, none⟩ = some (.int .i64 2) := hwz.cell 1
                  have c2 : z4.cell? ⟨G, 2, none⟩ = some (.int .i64 qt) := hwz.cell 2
                  have c3 : z4.cell? ⟨G, 3, none⟩ = some (.int .i64 qn) := hwz.cell 3
                  have f2 : z4.frozen? ⟨G, 2, none⟩ = false := hwz.frozen 2
                  have HSa := hide hsz
                  have HWz := hide (show Blk z4 G #[.bool qo, .int .i64 2, .int .i64 qt, .int .i64 qn, .bool qr, .bool qq, .int .i64 qv, .int .i64 qb, .string qd, .string qw, .string qdr] 42 from hwz)
                  clear hly hby hty hyA hTG hoz hwz hsz hz4 hz4' HSn
                  clear c2 f2
                  have HAB2 := hide (show A + 9 ≤ G from by have h1 := unhide HAB; have h2 := unhide HTG; omega)
                  go_wp2_with (first | refine wpList_load_mid rfl 42 (.tmp 110) rfl g (o + k * 11) rfl [.bool qo, .int .i64 2, .int .i64 qt, .int .i64 qn, .bool qr, .bool qq, .int .i64 qv, .int .i64 qb, .string qd, .string qw, .string qdr] _ (unhide HRG) Tryd.underlying42 rfl (by rw [sizeOp]; rfl) ?_ | (refine wpList_store_mid rfl 42 (.tmp 15) (.tmp 111) rfl G 0 #[.bool qo, .int .i64 2, .int .i64 qt, .int .i64 qn, .bool qr, .bool qq, .int .i64 qv, .int .i64 qb, .string qd, .string qw, .string qdr] rfl rfl (unhide HTH) (by rw [sizeOp]; rfl) (by simp [Value.oneCell']) ?_; rw [unhide HZ4]))
                  have HTA := hide ((unhide HSa).ownTakeA hq1 (1 + (a : Int)) (by omega) qn)
                  have HWA := hide (unhide HWz)
                  clear HSa HWz
                  refine (unhide HTA).mono ?_
                  rintro e yA ⟨ao, ca, rfl, hI, hF, hA, hO⟩
                  obtain ⟨GA, hGA⟩ : ∃ G, yA.heap.size = G := ⟨_, rfl⟩
                  obtain ⟨uA, huA⟩ : ∃ Z, yA.alloc (.cells #[.int .i64 0, .int .i64 0, .string ⟨#[]⟩, .string ⟨#[]⟩] 31) = Z := ⟨_, rfl⟩
                  have hly : Below yA.heap.size yA uA := by rw [← huA]; exact (Below.refl _ _).alloc (Nat.le_refl _) _
                  have hby : Blk uA GA #[.int .i64 0, .int .i64 0, .string ⟨#[]⟩, .string ⟨#[]⟩] 31 := by rw [← huA, ← hGA]; exact Blk.new _ _ _
                  have hty := hA.top
                  have hTGA : B + 9 ≤ GA := by omega
                  have HTHA := hide (blk_there hby 4 rfl)
                  have hoz : Only (fun x => x = GA) uA (uA.setCells GA 0 [.int .i64 (tkv qn l), .int .i64 (tkk qn l), .string (tkd qn l), .string (tkq qn l)]) := only_cells GA 0 _ rfl
                  have hwz := setCells_all hby [.int .i64 (tkv qn l), .int .i64 (tkk qn l), .string (tkd qn l), .string (tkq qn l)] rfl
                  obtain ⟨zA, hzA⟩ : ∃ Z, uA.setCells GA 0 (#[.int .i64 (tkv qn l), .int .i64 (tkk qn l), .string (tkd qn l), .string (tkq qn l)] : Array Value).toList = Z := ⟨_, rfl⟩
                  have hzA' : uA.setCells GA 0 [.int .i64 (tkv qn l), .int .i64 (tkk qn l), .string (tkd qn l), .string (tkq qn l)] = zA := hzA
                  rw [hzA'] at hoz hwz
                  have HZA := hide hzA
                  have HAA := hide ((hA.low hly).oth hoz hTGA)
                  have hbw := (unhide HWA).only hO (onB_far (unhide HAB2))
                  have hgl := hbw.lt
                  have hbw2 := (hbw.below hly hgl).only hoz (show ¬ (G = GA) by omega)
                  have s3 : zA.cell? ⟨G, 3, none⟩ = some (.int .i64 qn) := hbw2.cell 3
                  have HBA := hide (show Blk zA GA #[.int .i64 (tkv qn l), .int .i64 (tkk qn l), .string (tkd qn l), .string (tkq qn l)] 31 from hwz)
                  have HIA := hide (kil_new hI hly hoz hGA)
                  have HFA := hide hF
                  have HTB := hide ((unhide HAA).ownTakeB hq1 (1 + (a : Int)) (by omega) qn)
                  have HGA := hide hTGA
                  clear hly hby hty hoz hwz hzA hzA' hbw hgl hbw2 hI hF hA hO hTGA HWA HTA HAA
                  go_wp2_with (refine wpList_store_mid rfl 31 (.tmp 23) (.tmp 187) rfl GA 0 #[.int .i64 (tkv qn l), .int .i64 (tkk qn l), .string (tkd qn l), .string (tkq qn l)] rfl rfl (unhide HTHA) (by rw [sizeOff]; rfl) (by simp [Value.oneCell']) ?_; rw [unhide HZA])
                  refine (unhide HTB).mono ?_
                  rintro e yB ⟨ap, cb, rfl, hI, hF, hA, hO⟩
                  obtain ⟨GB, hGB⟩ : ∃ G, yB.heap.size = G := ⟨_, rfl⟩
                  obtain ⟨uB, huB⟩ : ∃ Z, yB.alloc (.cells #[.int .i64 0, .int .i64 0, .string ⟨#[]⟩, .string ⟨#[]⟩] 31) = Z := ⟨_, rfl⟩
                  have hly : Below yB.heap.size yB uB := by rw [← huB]; exact (Below.refl _ _).alloc (Nat.le_refl _) _
                  have hby : Blk uB GB #[.int .i64 0, .int .i64 0, .string ⟨#[]⟩, .string ⟨#[]⟩] 31 := by rw [← huB, ← hGB]; exact Blk.new _ _ _
                  have hty := hA.top
                  have hTGB : B + 9 ≤ GB := by omega
                  have HTHB := hide (blk_there hby 4 rfl)
                  have hoz : Only (fun x => x = GB) uB (uB.setCells GB 0 [.int .i64 (tkv qn l), .int .i64 (tkk qn l), .string (tkd qn l), .string (tkq qn l)]) := only_cells GB 0 _ rfl
                  have hwz := setCells_all hby [.int .i64 (tkv qn l), .int .i64 (tkk qn l), .string (tkd qn l), .string (tkq qn l)] rfl
                  obtain ⟨zB, hzB⟩ : ∃ Z, uB.setCells GB 0 (#[.int .i64 (tkv qn l), .int .i64 (tkk qn l), .string (tkd qn l), .string (tkq qn l)] : Array Value).toList = Z := ⟨_, rfl⟩
                  have hzB' : uB.setCells GB 0 [.int .i64 (tkv qn l), .int .i64 (tkk qn l), .string (tkd qn l), .string (tkq qn l)] = zB := hzB
                  rw [hzB'] at hoz hwz
                  have HZB := hide hzB
                  have HABB := hide ((hA.low hly).oth hoz hTGB)
                  have hbw := (unhide HBA).only hO (onB_far (unhide HGA))
                  have hgl := hbw.lt
                  have hbw2 := (hbw.below hly hgl).only hoz (show ¬ (GA = GB) by omega)
                  have HRA := hide (blk_range (cs := [.int .i64 (tkv qn l), .int .i64 (tkk qn l), .string (tkd qn l), .string (tkq qn l)]) hbw2)
                  have HRB := hide (blk_range (cs := [.int .i64 (tkv qn l), .int .i64 (tkk qn l), .string (tkd qn l), .string (tkq qn l)]) (show Blk zB GB #[.int .i64 (tkv qn l), .int .i64 (tkk qn l), .string (tkd qn l), .string (tkq qn l)] 31 from hwz))
                  have HLA := hide hbw2.lt
                  have HLB := hide hwz.lt
                  have hIa := kil_new (Kil.of hO (Nat.le_refl _) _ _ (unhide HIA) (unhide HFA)) hly hoz hGB
                  have hIb := kil_new hI hly hoz hGB
                  have HSM := hide (same13_eq zB ao ap ca cb (tkP qn l) (tkP qn l).length rfl (by have := tkP_len qn l; omega) hIa hIb)
                  clear hly hby hty hoz hwz hzB hzB' hbw hgl hbw2 hI hF hA hO hTGB hIa hIb HTB HIA HFA HBA
                  go_wp2_with (refine wpList_store_mid rfl 31 (.tmp 26) (.tmp 196) rfl GB 0 #[.int .i64 (tkv qn l), .int .i64 (tkk qn l), .string (tkd qn l), .string (tkq qn l)] rfl rfl (unhide HTHB) (by rw [sizeOff]; rfl) (by simp [Value.oneCell']) ?_; rw [unhide HZB])
                  refine (unhide HSM).mono ?_
                  rintro e y9 ⟨rfl, hb⟩
                  have HSe := hide ((unhide HABB).low hb)
                  have hra := range_low hb (unhide HRA) (unhide HLA)
                  have hrb := range_low hb (unhide HRB) (unhide HLB)
                  have HRA := hide hra
                  have HRB := hide hrb
                  clear hb HABB HSM hra hrb
                  have t1 : (tkE qn l != tkE qn l) = false := by simp
                  go_wp2_with (first | refine wpList_load_mid rfl 31 (.tmp 23) rfl GA 0 rfl [.int .i64 (tkv qn l), .int .i64 (tkk qn l), .string (tkd qn l), .string (tkq qn l)] _ (unhide HRA) Tryd.underlying31 rfl (by rw [sizeOff]; rfl) ?_ | refine wpList_load_mid rfl 31 (.tmp 26) rfl GB 0 rfl [.int .i64 (tkv qn l), .int .i64 (tkk qn l), .string (tkd qn l), .string (tkq qn l)] _ (unhide HRB) Tryd.underlying31 rfl (by rw [sizeOff]; rfl) ?_ | refine wpList_neO rfl (.tmp 202) (.tmp 203) rfl _ _ _ _ rfl rfl ?_)
                  go_roundw
                  case rel => exact ⟨x, k + 1, hx, by omega, rfl, by go_num, _, _, unhide HSe⟩
                  case measure => simp [intOf]; omega
              · have j1 : (qk == 1) = false := by simpa using k1
                have j2 : (qk == 2) = false := by simpa using k2
                clear k1 k2
                as_aux_lemma =>
                  obtain ⟨G, hG⟩ : ∃ G, wr.heap.size = G := ⟨_, rfl⟩
                  obtain ⟨y1, hy1⟩ : ∃ Z, wr.alloc (.cells #[.bool false, .int .i64 0, .int .i64 0, .int .i64 0, .bool false, .bool false, .int .i64 0, .int .i64 0, .string ⟨#[]⟩, .string ⟨#[]⟩, .string ⟨#[]⟩] 42) = Z := ⟨_, rfl⟩
                  have hly : Below wr.heap.size wr y1 := by rw [← hy1]; exact (Below.refl _ _).alloc (Nat.le_refl _) _
                  have hby : Blk y1 G #[.bool false, .int .i64 0, .int .i64 0, .int .i64 0, .bool false, .bool false, .int .i64 0, .int .i64 0, .string ⟨#[]⟩, .string ⟨#[]⟩, .string ⟨#[]⟩] 42 := by rw [← hy1, ← hG]; exact Blk.new _ _ _
                  have hty := (unhide HSn).top
                  have hyA := (unhide HSn).low hly
                  have hTG : B + 9 ≤ G := by omega
                  have HTH := hide (blk_there hby 11 rfl)
                  have hoz : Only (fun x => x = G) y1 (y1.setCells G 0 [.bool qo, .int .i64 qk, .int .i64 qt, .int .i64 qn, .bool qr, .bool qq, .int .i64 qv, .int .i64 qb, .string qd, .string qw, .string qdr]) := only_cells G 0 _ rfl
                  have hwz := setCells_all hby [.bool qo, .int .i64 qk, .int .i64 qt, .int .i64 qn, .bool qr, .bool qq, .int .i64 qv, .int .i64 qb, .string qd, .string qw, .string qdr] rfl
                  have hsz := hyA.oth hoz hTG
                  obtain ⟨z4, hz4⟩ : ∃ Z, y1.setCells G 0 (#[.bool qo, .int .i64 qk, .int .i64 qt, .int .i64 qn, .bool qr, .bool qq, .int .i64 qv, .int .i64 qb, .string qd, .string qw, .string qdr] : Array Value).toList = Z := ⟨_, rfl⟩
                  have hz4' : y1.setCells G 0 [.bool qo, .int .i64 qk, .int .i64 qt, .int .i64 qn, .bool qr, .bool qq, .int .i64 qv, .int .i64 qb, .string qd, .string qw, .string qdr] = z4 := hz4
                  rw [hz4'] at hoz hwz hsz
                  have HZ4 := hide hz4
                  have HTG := hide hTG
                  have c1 : z4.cell? ⟨G, 1, none⟩ = some (.int .i64 qk) := hwz.cell 1
                  have c2 : z4.cell? ⟨G, 2, none⟩ = some (.int .i64 qt) := hwz.cell 2
                  have c3 : z4.cell? ⟨G, 3, none⟩ = some (.int .i64 qn) := hwz.cell 3
                  have f2 : z4.frozen? ⟨G, 2, none⟩ = false := hwz.frozen 2
                  have HSa := hide hsz
                  have HWz := hide (show Blk z4 G #[.bool qo, .int .i64 qk, .int .i64 qt, .int .i64 qn, .bool qr, .bool qq, .int .i64 qv, .int .i64 qb, .string qd, .string qw, .string qdr] 42 from hwz)
                  clear hly hby hty hyA hTG hoz hwz hsz hz4 hz4' HSn
                  clear c2 f2
                  have HAB2 := hide (show A + 9 ≤ G from by have h1 := unhide HAB; have h2 := unhide HTG; omega)
                  go_wp2_with (first | refine wpList_load_mid rfl 42 (.tmp 110) rfl g (o + k * 11) rfl [.bool qo, .int .i64 qk, .int .i64 qt, .int .i64 qn, .bool qr, .bool qq, .int .i64 qv, .int .i64 qb, .string qd, .string qw, .string qdr] _ (unhide HRG) Tryd.underlying42 rfl (by rw [sizeOp]; rfl) ?_ | (refine wpList_store_mid rfl 42 (.tmp 15) (.tmp 111) rfl G 0 #[.bool qo, .int .i64 qk, .int .i64 qt, .int .i64 qn, .bool qr, .bool qq, .int .i64 qv, .int .i64 qb, .string qd, .string qw, .string qdr] rfl rfl (unhide HTH) (by rw [sizeOp]; rfl) (by simp [Value.oneCell']) ?_; rw [unhide HZ4]))
                  have HPA := hide ((unhide HSa).ownPendA hq1 (1 + (a : Int)) (by omega))
                  have HLN := hide ((unhide HSa).lenA hq1)
                  clear HSa HWz
                  refine (unhide HPA).mono ?_
                  rintro e yA ⟨ao, ca, rfl, hI, hF, hA, hO⟩
                  have HPB := hide (hA.ownPendB hq1 (1 + (a : Int)) (by omega))
                  have HIA := hide hI
                  have HFA := hide hF
                  clear hI hF hA hO HPA
                  go_wp2_with fail
                  refine (unhide HPB).mono ?_
                  rintro e yB ⟨ap, cb, rfl, hI, hF, hA, hO⟩
                  have hIa := Kil.of hO (Nat.le_refl _) _ _ (unhide HIA) (unhide HFA)
                  have HSM := hide (same13_eq yB ao ap ca cb (ncs l) (ncs l).length rfl (by have := unhide HLN; have := ncs_len l; omega) hIa hI)
                  have HSf := hide hA
                  clear hI hF hA hO HPB hIa HIA HFA HLN
                  go_wp2_with fail
                  refine (unhide HSM).mono ?_
                  rintro e y9 ⟨rfl, hb⟩
                  have HSe := hide ((unhide HSf).low hb)
                  clear hb HSf HSM
                  go_wp2
                  go_roundw
                  case rel => exact ⟨x, k + 1, hx, by omega, rfl, by go_num, _, _, unhide HSe⟩
                  case measure => simp [intOf]; omega
        · skip
          have d1 : decide ((y : Int) ≤ (r : Int)) = false := decide_eq_false (by omega)
          have d2 : decide (y ≤ r) = false := decide_eq_false (by omega)
          have d3 : (r : Int) < (y : Int) := by omega
          clear hyr
          have i2 : 0 ≤ (k : Int) := by omega
          have w7 : IntKind.i64.wrap ((k : Int) + 1) = (k : Int) + 1 := wrapI_eq _ (by omega) (by omega)
          obtain ⟨g, o, rfl, hrg⟩ := unhide HR1 _ (unhide HSn).lo k hlt
          have hok := unhide HO1 k hlt
          obtain ⟨q, hq⟩ : ∃ q, f1 k = q := ⟨_, rfl⟩
          rw [hq] at hrg hok
          clear hq
          obtain ⟨qo, qk, qt, qn, qr, qq, qv, qb, qd, qw, qdr⟩ := q
          simp only [Opr.cl] at hrg
          obtain ⟨o1, o2, o3, _, _⟩ := hok
          simp only at o1 o2 o3
          have HRG := hide hrg
          have HQN := hide o3
          clear hrg o1 o2 o3
          by_cases k1 : qk = 1
          · subst k1
            as_aux_lemma =>
              obtain ⟨G, hG⟩ : ∃ G, wr.heap.size = G := ⟨_, rfl⟩
              obtain ⟨y1, hy1⟩ : ∃ Z, wr.alloc (.cells #[.bool false, .int .i64 0, .int .i64 0, .int .i64 0, .bool false, .bool false, .int .i64 0, .int .i64 0, .string ⟨#[]⟩, .string ⟨#[]⟩, .string ⟨#[]⟩] 42) = Z := ⟨_, rfl⟩
              have hly : Below wr.heap.size wr y1 := by rw [← hy1]; exact (Below.refl _ _).alloc (Nat.le_refl _) _
              have hby : Blk y1 G #[.bool false, .int .i64 0, .int .i64 0, .int .i64 0, .bool false, .bool false, .int .i64 0, .int .i64 0, .string ⟨#[]⟩, .string ⟨#[]⟩, .string ⟨#[]⟩] 42 := by rw [← hy1, ← hG]; exact Blk.new _ _ _
              have hty := (unhide HSn).top
              have hyA := (unhide HSn).low hly
              have hTG : B + 9 ≤ G := by omega
              have HTH := hide (blk_there hby 11 rfl)
              have hoz : Only (fun x => x = G) y1 (y1.setCells G 0 [.bool qo, .int .i64 1, .int .i64 qt, .int .i64 qn, .bool qr, .bool qq, .int .i64 qv, .int .i64 qb, .string qd, .string qw, .string qdr]) := only_cells G 0 _ rfl
              have hwz := setCells_all hby [.bool qo, .int .i64 1, .int .i64 qt, .int .i64 qn, .bool qr, .bool qq, .int .i64 qv, .int .i64 qb, .string qd, .string qw, .string qdr] rfl
              have hsz := hyA.oth hoz hTG
              obtain ⟨z4, hz4⟩ : ∃ Z, y1.setCells G 0 (#[.bool qo, .int .i64 1, .int .i64 qt, .int .i64 qn, .bool qr, .bool qq, .int .i64 qv, .int .i64 qb, .string qd, .string qw, .string qdr] : Array Value).toList = Z := ⟨_, rfl⟩
              have hz4' : y1.setCells G 0 [.bool qo, .int .i64 1, .int .i64 qt, .int .i64 qn, .bool qr, .bool qq, .int .i64 qv, .int .i64 qb, .string qd, .string qw, .string qdr] = z4 := hz4
              rw [hz4'] at hoz hwz hsz
              have HZ4 := hide hz4
              have HTG := hide hTG
              have c1 : z4.cell? ⟨G, 1, none⟩ = some (.int .i64 1) := hwz.cell 1
              have c2 : z4.cell? ⟨G, 2, none⟩ = some (.int .i64 qt) := hwz.cell 2
              have c3 : z4.cell? ⟨G, 3, none⟩ = some (.int .i64 qn) := hwz.cell 3
              have f2 : z4.frozen? ⟨G, 2, none⟩ = false := hwz.frozen 2
              have HSa := hide hsz
              have HWz := hide (show Blk z4 G #[.bool qo, .int .i64 1, .int .i64 qt, .int .i64 qn, .bool qr, .bool qq, .int .i64 qv, .int .i64 qb, .string qd, .string qw, .string qdr] 42 from hwz)
              clear hly hby hty hyA hTG hoz hwz hsz hz4 hz4' HSn
              clear c2 f2
              have HAB2 := hide (show A + 9 ≤ G from by have h1 := unhide HAB; have h2 := unhide HTG; omega)
              go_wp2_with (first | refine wpList_load_mid rfl 42 (.tmp 110) rfl g (o + k * 11) rfl [.bool qo, .int .i64 1, .int .i64 qt, .int .i64 qn, .bool qr, .bool qq, .int .i64 qv, .int .i64 qb, .string qd, .string qw, .string qdr] _ (unhide HRG) Tryd.underlying42 rfl (by rw [sizeOp]; rfl) ?_ | (refine wpList_store_mid rfl 42 (.tmp 15) (.tmp 111) rfl G 0 #[.bool qo, .int .i64 1, .int .i64 qt, .int .i64 qn, .bool qr, .bool qq, .int .i64 qv, .int .i64 qb, .string qd, .string qw, .string qdr] rfl rfl (unhide HTH) (by rw [sizeOp]; rfl) (by simp [Value.oneCell']) ?_; rw [unhide HZ4]))
              have HWA := hide (unhide HWz)
              clear HWz
              have HI0A := hide (show Ap w N A B a n l n l z4.drew from (unhide HSa).low (Below.refl _ _).drew)
              have HW0A := hide (show Blk z4.drew G #[.bool qo, .int .i64 1, .int .i64 qt, .int .i64 qn, .bool qr, .bool qq, .int .i64 qv, .int .i64 qb, .string qd, .string qw, .string qdr] 42 from (unhide HWA).below (Below.refl _ _).drew (unhide HWA).lt)
              clear HSa HWA
              refine wp_region_held_drew (S := fun W => Blk W G #[.bool qo, .int .i64 1, .int .i64 qt, .int .i64 qn, .bool qr, .bool qq, .int .i64 qv, .int .i64 qb, .string qd, .string qw, .string qdr] 42) (by kernel_rfl) (unhide HW0A) ?_
              intro hS
              generalize z4.drew = zdA at *
              refine wpAnyH_takeD 0 (some 139) (.pointer (some ⟨A, 0, none⟩)) rfl rfl (by kernel_rfl) (by kernel_rfl) (by kernel_rfl) (fun _ _ _ h => h) (Or.inl ⟨by rfl, fun w hSw => by have a3 : w.cell? ⟨G, 3, none⟩ = some (.int .i64 qn) := Blk.cell hSw 3; clear hSw; go_simp⟩) hS ?_
              simp only [Act.put, List.setIfInBounds_toArray, List.set_cons_zero, List.set_cons_succ]
              refine wpAnyH_takeD 1 (some 140) (.int .i64 (1 + (a : Int))) rfl rfl (by kernel_rfl) (by kernel_rfl) (by kernel_rfl) (fun _ _ _ h => h) (Or.inl ⟨by rfl, fun w hSw => by have a3 : w.cell? ⟨G, 3, none⟩ = some (.int .i64 qn) := Blk.cell hSw 3; clear hSw; go_simp⟩) hS ?_
              simp only [Act.put, List.setIfInBounds_toArray, List.set_cons_zero, List.set_cons_succ]
              refine wpAnyH_takeD 2 (some 141) (.pointer (some ⟨G, 3, none⟩)) rfl rfl (by kernel_rfl) (by kernel_rfl) (by kernel_rfl) (fun _ _ _ h => h) (Or.inl ⟨by rfl, fun w hSw => by have a3 : w.cell? ⟨G, 3, none⟩ = some (.int .i64 qn) := Blk.cell hSw 3; clear hSw; go_simp⟩) hS ?_
              simp only [Act.put, List.setIfInBounds_toArray, List.set_cons_zero, List.set_cons_succ]
              refine wpAnyH_takeD 3 (some 142) (.int .i64 qn) rfl rfl (by kernel_rfl) (by kernel_rfl) (by kernel_rfl) (fun _ _ _ h => h) (Or.inl ⟨by rfl, fun w hSw => by have a3 : w.cell? ⟨G, 3, none⟩ = some (.int .i64 qn) := Blk.cell hSw 3; clear hSw; go_simp⟩) hS ?_
              simp only [Act.put, List.setIfInBounds_toArray, List.set_cons_zero, List.set_cons_succ]
              refine wpAnyH_takeD 5 (some 144) (.pointer (some ⟨G, 3, none⟩)) rfl rfl (by kernel_rfl) (by kernel_rfl) (by kernel_rfl) (fun _ _ _ h => h) (Or.inl ⟨by rfl, fun w hSw => by have a3 : w.cell? ⟨G, 3, none⟩ = some (.int .i64 qn) := Blk.cell hSw 3; clear hSw; go_simp⟩) hS ?_
              simp only [Act.put, List.setIfInBounds_toArray, List.set_cons_zero, List.set_cons_succ]
              refine wpAnyH_takeD 6 (some 145) (.int .i64 qn) rfl rfl (by kernel_rfl) (by kernel_rfl) (by kernel_rfl) (fun _ _ _ h => h) (Or.inl ⟨by rfl, fun w hSw => by have a3 : w.cell? ⟨G, 3, none⟩ = some (.int .i64 qn) := Blk.cell hSw 3; clear hSw; go_simp⟩) hS ?_
              simp only [Act.put, List.setIfInBounds_toArray, List.set_cons_zero, List.set_cons_succ]
              refine wpAnyH_ready (rs := [4]) (by kernel_rfl) (by simp) ?_
              refine AllReadyH.cons rfl (fun K hK => ?_) AllReadyH.nil
              simp only [List.getElem_toArray, List.getElem_cons_succ, List.getElem_cons_zero]
              go_simp
              refine (unhide HOF qn (unhide HQN) _ (unhide HI0A).lo).mono ?_
              rintro e v1A ⟨rfl, hb⟩
              have hS1 : Blk v1A G #[.bool qo, .int .i64 1, .int .i64 qt, .int .i64 qn, .bool qr, .bool qq, .int .i64 qv, .int .i64 qb, .string qd, .string qw, .string qdr] 42 := hS.below hb hS.lt
              have HI1A := hide (show Ap w N A B a n l n l v1A from (unhide HI0A).low hb)
              clear hb HI0A
              refine hK.out _ _ hS1 (fun hS => ?_)
              clear hK K
              refine wpAnyH_ready (rs := [7]) (by kernel_rfl) (by simp) ?_
              refine AllReadyH.cons rfl (fun K hK => ?_) AllReadyH.nil
              simp only [List.getElem_toArray, List.getElem_cons_succ, List.getElem_cons_zero]
              go_simp
              refine (unhide HDR qn _).mono ?_
              rintro e v2A ⟨rfl, hb⟩
              have hS2 : Blk v2A G #[.bool qo, .int .i64 1, .int .i64 qt, .int .i64 qn, .bool qr, .bool qq, .int .i64 qv, .int .i64 qb, .string qd, .string qw, .string qdr] 42 := hS.below hb hS.lt
              have HI2A := hide (show Ap w N A B a n l n l v2A from (unhide HI1A).low hb)
              clear hb HI1A
              refine hK.out _ _ hS2 (fun hS => ?_)
              clear hK K
              refine wpAnyH_ready (rs := [8]) (by kernel_rfl) (by simp) ?_
              refine AllReadyH.cons rfl (fun K hK => ?_) AllReadyH.nil
              simp only [List.getElem_toArray, List.getElem_cons_succ, List.getElem_cons_zero]
              go_simp
              refine ((unhide HI2A).ownOfferA hq1 (1 + (a : Int)) (by omega) (ofV qn : Int) (ofB qn : Int) (ofD qn) (ofW qn) (drB qn) (drB_size qn) (ofD_size qn) (unhide HKT _ (unhide HI2A).lo)).mono ?_
              rintro e v3A ⟨ao, rfl, hI, hF, hA, hO⟩
              have hS3 : Blk v3A G #[.bool qo, .int .i64 1, .int .i64 qt, .int .i64 qn, .bool qr, .bool qq, .int .i64 qv, .int .i64 qb, .string qd, .string qw, .string qdr] 42 := hS.only hO (onB_far (unhide HAB2))
              have HJA := hide (And.intro hA hI)
              have HFA := hide hF
              clear hI hF hA hO HI2A
              refine hK.out _ _ hS3 (fun hS => ?_)
              clear hK K
              refine wpAnyH_takeD 9 (some 138) (.tuple #[.int .i64 (nxN n), .slice ao 8 8, .int .i64 0]) rfl rfl (by kernel_rfl) (by kernel_rfl) (by kernel_rfl) (fun _ _ _ h => h) (Or.inl ⟨by rfl, fun w hSw => by have a3 : w.cell? ⟨G, 3, none⟩ = some (.int .i64 qn) := Blk.cell hSw 3; clear hSw; go_simp⟩) hS ?_
              simp only [Act.put, List.setIfInBounds_toArray, List.set_cons_zero, List.set_cons_succ]
              refine wpAnyH_takeD 10 (some 148) (.int .i64 (nxN n)) rfl rfl (by kernel_rfl) (by kernel_rfl) (by kernel_rfl) (fun _ _ _ h => h) (Or.inl ⟨by rfl, fun w hSw => by have a3 : w.cell? ⟨G, 3, none⟩ = some (.int .i64 qn) := Blk.cell hSw 3; clear hSw; go_simp⟩) hS ?_
              simp only [Act.put, List.setIfInBounds_toArray, List.set_cons_zero, List.set_cons_succ]
              refine wpAnyH_takeD 11 (some 149) (.slice ao 8 8) rfl rfl (by kernel_rfl) (by kernel_rfl) (by kernel_rfl) (fun _ _ _ h => h) (Or.inl ⟨by rfl, fun w hSw => by have a3 : w.cell? ⟨G, 3, none⟩ = some (.int .i64 qn) := Blk.cell hSw 3; clear hSw; go_simp⟩) hS ?_
              simp only [Act.put, List.setIfInBounds_toArray, List.set_cons_zero, List.set_cons_succ]
              refine wpAnyH_takeD 12 (some 150) (.int .i64 0) rfl rfl (by kernel_rfl) (by kernel_rfl) (by kernel_rfl) (fun _ _ _ h => h) (Or.inl ⟨by rfl, fun w hSw => by have a3 : w.cell? ⟨G, 3, none⟩ = some (.int .i64 qn) := Blk.cell hSw 3; clear hSw; go_simp⟩) hS ?_
              simp only [Act.put, List.setIfInBounds_toArray, List.set_cons_zero, List.set_cons_succ]
              refine wpAnyH_takeD 13 (some 16) (.int .i64 (nxN n)) rfl rfl (by kernel_rfl) (by kernel_rfl) (by kernel_rfl) (fun _ _ _ h => h) (Or.inl ⟨by rfl, fun w hSw => by have a3 : w.cell? ⟨G, 3, none⟩ = some (.int .i64 qn) := Blk.cell hSw 3; clear hSw; go_simp⟩) hS ?_
              simp only [Act.put, List.setIfInBounds_toArray, List.set_cons_zero, List.set_cons_succ]
              refine wpAnyH_takeD 14 (some 17) (.slice ao 8 8) rfl rfl (by kernel_rfl) (by kernel_rfl) (by kernel_rfl) (fun _ _ _ h => h) (Or.inl ⟨by rfl, fun w hSw => by have a3 : w.cell? ⟨G, 3, none⟩ = some (.int .i64 qn) := Blk.cell hSw 3; clear hSw; go_simp⟩) hS ?_
              simp only [Act.put, List.setIfInBounds_toArray, List.set_cons_zero, List.set_cons_succ]
              refine wpAnyH_takeD 15 (some 18) (.int .i64 0) rfl rfl (by kernel_rfl) (by kernel_rfl) (by kernel_rfl) (fun _ _ _ h => h) (Or.inl ⟨by rfl, fun w hSw => by have a3 : w.cell? ⟨G, 3, none⟩ = some (.int .i64 qn) := Blk.cell hSw 3; clear hSw; go_simp⟩) hS ?_
              simp only [Act.put, List.setIfInBounds_toArray, List.set_cons_zero, List.set_cons_succ]
              refine wpAnyH_done (by kernel_rfl) ?_ _
              have HWB := hide hS
              clear hS
              go_wp2
              have HI0B := hide (show Ap w N A B a (nxN n) (nxL n l (ofV qn : Int) (ofB qn : Int) (ofD qn) (ofW qn) (drB qn)) n l v3A.drew ∧ Ils v3A.drew ao (plI (drB qn) (ofD qn)) from ⟨(unhide HJA).1.low (Below.refl _ _).drew, (unhide HJA).2.below (Below.refl _ _).drew⟩)
              have HW0B := hide (show Blk v3A.drew G #[.bool qo, .int .i64 1, .int .i64 qt, .int .i64 qn, .bool qr, .bool qq, .int .i64 qv, .int .i64 qb, .string qd, .string qw, .string qdr] 42 from (unhide HWB).below (Below.refl _ _).drew (unhide HWB).lt)
              clear HJA HWB
              refine wp_region_held_drew (S := fun W => Blk W G #[.bool qo, .int .i64 1, .int .i64 qt, .int .i64 qn, .bool qr, .bool qq, .int .i64 qv, .int .i64 qb, .string qd, .string qw, .string qdr] 42) (by kernel_rfl) (unhide HW0B) ?_
              intro hS
              generalize v3A.drew = zdB at *
              refine wpAnyH_takeD 0 (some 152) (.pointer (some ⟨B, 0, none⟩)) rfl rfl (by kernel_rfl) (by kernel_rfl) (by kernel_rfl) (fun _ _ _ h => h) (Or.inl ⟨by rfl, fun w hSw => by have a3 : w.cell? ⟨G, 3, none⟩ = some (.int .i64 qn) := Blk.cell hSw 3; clear hSw; go_simp⟩) hS ?_
              simp only [Act.put, List.setIfInBounds_toArray, List.set_cons_zero, List.set_cons_succ]
              refine wpAnyH_takeD 1 (some 153) (.int .i64 (1 + (a : Int))) rfl rfl (by kernel_rfl) (by kernel_rfl) (by kernel_rfl) (fun _ _ _ h => h) (Or.inl ⟨by rfl, fun w hSw => by have a3 : w.cell? ⟨G, 3, none⟩ = some (.int .i64 qn) := Blk.cell hSw 3; clear hSw; go_simp⟩) hS ?_
              simp only [Act.put, List.setIfInBounds_toArray, List.set_cons_zero, List.set_cons_succ]
              refine wpAnyH_takeD 2 (some 154) (.pointer (some ⟨G, 3, none⟩)) rfl rfl (by kernel_rfl) (by kernel_rfl) (by kernel_rfl) (fun _ _ _ h => h) (Or.inl ⟨by rfl, fun w hSw => by have a3 : w.cell? ⟨G, 3, none⟩ = some (.int .i64 qn) := Blk.cell hSw 3; clear hSw; go_simp⟩) hS ?_
              simp only [Act.put, List.setIfInBounds_toArray, List.set_cons_zero, List.set_cons_succ]
              refine wpAnyH_takeD 3 (some 155) (.int .i64 qn) rfl rfl (by kernel_rfl) (by kernel_rfl) (by kernel_rfl) (fun _ _ _ h => h) (Or.inl ⟨by rfl, fun w hSw => by have a3 : w.cell? ⟨G, 3, none⟩ = some (.int .i64 qn) := Blk.cell hSw 3; clear hSw; go_simp⟩) hS ?_
              simp only [Act.put, List.setIfInBounds_toArray, List.set_cons_zero, List.set_cons_succ]
              refine wpAnyH_takeD 5 (some 157) (.pointer (some ⟨G, 3, none⟩)) rfl rfl (by kernel_rfl) (by kernel_rfl) (by kernel_rfl) (fun _ _ _ h => h) (Or.inl ⟨by rfl, fun w hSw => by have a3 : w.cell? ⟨G, 3, none⟩ = some (.int .i64 qn) := Blk.cell hSw 3; clear hSw; go_simp⟩) hS ?_
              simp only [Act.put, List.setIfInBounds_toArray, List.set_cons_zero, List.set_cons_succ]
              refine wpAnyH_takeD 6 (some 158) (.int .i64 qn) rfl rfl (by kernel_rfl) (by kernel_rfl) (by kernel_rfl) (fun _ _ _ h => h) (Or.inl ⟨by rfl, fun w hSw => by have a3 : w.cell? ⟨G, 3, none⟩ = some (.int .i64 qn) := Blk.cell hSw 3; clear hSw; go_simp⟩) hS ?_
              simp only [Act.put, List.setIfInBounds_toArray, List.set_cons_zero, List.set_cons_succ]
              refine wpAnyH_ready (rs := [4]) (by kernel_rfl) (by simp) ?_
              refine AllReadyH.cons rfl (fun K hK => ?_) AllReadyH.nil
              simp only [List.getElem_toArray, List.getElem_cons_succ, List.getElem_cons_zero]
              go_simp
              refine (unhide HOF qn (unhide HQN) _ (unhide HI0B).1.lo).mono ?_
              rintro e v1B ⟨rfl, hb⟩
              have hS1 : Blk v1B G #[.bool qo, .int .i64 1, .int .i64 qt, .int .i64 qn, .bool qr, .bool qq, .int .i64 qv, .int .i64 qb, .string qd, .string qw, .string qdr] 42 := hS.below hb hS.lt
              have HI1B := hide (show Ap w N A B a (nxN n) (nxL n l (ofV qn : Int) (ofB qn : Int) (ofD qn) (ofW qn) (drB qn)) n l v1B ∧ Ils v1B ao (plI (drB qn) (ofD qn)) from ⟨(unhide HI0B).1.low hb, (unhide HI0B).2.below hb⟩)
              clear hb HI0B
              refine hK.out _ _ hS1 (fun hS => ?_)
              clear hK K
              refine wpAnyH_ready (rs := [7]) (by kernel_rfl) (by simp) ?_
              refine AllReadyH.cons rfl (fun K hK => ?_) AllReadyH.nil
              simp only [List.getElem_toArray, List.getElem_cons_succ, List.getElem_cons_zero]
              go_simp
              refine (unhide HDR qn _).mono ?_
              rintro e v2B ⟨rfl, hb⟩
              have hS2 : Blk v2B G #[.bool qo, .int .i64 1, .int .i64 qt, .int .i64 qn, .bool qr, .bool qq, .int .i64 qv, .int .i64 qb, .string qd, .string qw, .string qdr] 42 := hS.below hb hS.lt
              have HI2B := hide (show Ap w N A B a (nxN n) (nxL n l (ofV qn : Int) (ofB qn : Int) (ofD qn) (ofW qn) (drB qn)) n l v2B ∧ Ils v2B ao (plI (drB qn) (ofD qn)) from ⟨(unhide HI1B).1.low hb, (unhide HI1B).2.below hb⟩)
              clear hb HI1B
              refine hK.out _ _ hS2 (fun hS => ?_)
              clear hK K
              refine wpAnyH_ready (rs := [8]) (by kernel_rfl) (by simp) ?_
              refine AllReadyH.cons rfl (fun K hK => ?_) AllReadyH.nil
              simp only [List.getElem_toArray, List.getElem_cons_succ, List.getElem_cons_zero]
              go_simp
              refine ((unhide HI2B).1.ownOfferB hq1 (1 + (a : Int)) (by omega) (ofV qn : Int) (ofB qn : Int) (ofD qn) (ofW qn) (drB qn) (drB_size qn) (ofD_size qn) (unhide HKT _ (unhide HI2B).1.lo)).mono ?_
              rintro e v3B ⟨ap, rfl, hI, hF, hA, hO⟩
              have hS3 : Blk v3B G #[.bool qo, .int .i64 1, .int .i64 qt, .int .i64 qn, .bool qr, .bool qq, .int .i64 qv, .int .i64 qb, .string qd, .string qw, .string qdr] 42 := hS.only hO (onB_far (unhide HTG))
              have HJB := hide (And.intro hA (And.intro (Kil.of hO (Nat.le_refl _) _ _ (unhide HI2B).2 (unhide HFA)) hI))
              clear HFA
              clear hI hF hA hO HI2B
              refine hK.out _ _ hS3 (fun hS => ?_)
              clear hK K
              refine wpAnyH_takeD 9 (some 151) (.tuple #[.int .i64 (nxN n), .slice ap 8 8, .int .i64 0]) rfl rfl (by kernel_rfl) (by kernel_rfl) (by kernel_rfl) (fun _ _ _ h => h) (Or.inl ⟨by rfl, fun w hSw => by have a3 : w.cell? ⟨G, 3, none⟩ = some (.int .i64 qn) := Blk.cell hSw 3; clear hSw; go_simp⟩) hS ?_
              simp only [Act.put, List.setIfInBounds_toArray, List.set_cons_zero, List.set_cons_succ]
              refine wpAnyH_takeD 10 (some 161) (.int .i64 (nxN n)) rfl rfl (by kernel_rfl) (by kernel_rfl) (by kernel_rfl) (fun _ _ _ h => h) (Or.inl ⟨by rfl, fun w hSw => by have a3 : w.cell? ⟨G, 3, none⟩ = some (.int .i64 qn) := Blk.cell hSw 3; clear hSw; go_simp⟩) hS ?_
              simp only [Act.put, List.setIfInBounds_toArray, List.set_cons_zero, List.set_cons_succ]
              refine wpAnyH_takeD 11 (some 162) (.slice ap 8 8) rfl rfl (by kernel_rfl) (by kernel_rfl) (by kernel_rfl) (fun _ _ _ h => h) (Or.inl ⟨by rfl, fun w hSw => by have a3 : w.cell? ⟨G, 3, none⟩ = some (.int .i64 qn) := Blk.cell hSw 3; clear hSw; go_simp⟩) hS ?_
              simp only [Act.put, List.setIfInBounds_toArray, List.set_cons_zero, List.set_cons_succ]
              refine wpAnyH_takeD 12 (some 163) (.int .i64 0) rfl rfl (by kernel_rfl) (by kernel_rfl) (by kernel_rfl) (fun _ _ _ h => h) (Or.inl ⟨by rfl, fun w hSw => by have a3 : w.cell? ⟨G, 3, none⟩ = some (.int .i64 qn) := Blk.cell hSw 3; clear hSw; go_simp⟩) hS ?_
              simp only [Act.put, List.setIfInBounds_toArray, List.set_cons_zero, List.set_cons_succ]
              refine wpAnyH_takeD 13 (some 19) (.int .i64 (nxN n)) rfl rfl (by kernel_rfl) (by kernel_rfl) (by kernel_rfl) (fun _ _ _ h => h) (Or.inl ⟨by rfl, fun w hSw => by have a3 : w.cell? ⟨G, 3, none⟩ = some (.int .i64 qn) := Blk.cell hSw 3; clear hSw; go_simp⟩) hS ?_
              simp only [Act.put, List.setIfInBounds_toArray, List.set_cons_zero, List.set_cons_succ]
              refine wpAnyH_takeD 14 (some 20) (.slice ap 8 8) rfl rfl (by kernel_rfl) (by kernel_rfl) (by kernel_rfl) (fun _ _ _ h => h) (Or.inl ⟨by rfl, fun w hSw => by have a3 : w.cell? ⟨G, 3, none⟩ = some (.int .i64 qn) := Blk.cell hSw 3; clear hSw; go_simp⟩) hS ?_
              simp only [Act.put, List.setIfInBounds_toArray, List.set_cons_zero, List.set_cons_succ]
              refine wpAnyH_takeD 15 (some 21) (.int .i64 0) rfl rfl (by kernel_rfl) (by kernel_rfl) (by kernel_rfl) (fun _ _ _ h => h) (Or.inl ⟨by rfl, fun w hSw => by have a3 : w.cell? ⟨G, 3, none⟩ = some (.int .i64 qn) := Blk.cell hSw 3; clear hSw; go_simp⟩) hS ?_
              simp only [Act.put, List.setIfInBounds_toArray, List.set_cons_zero, List.set_cons_succ]
              refine wpAnyH_done (by kernel_rfl) ?_ _
              clear hS
              have HSM := hide (same13_eq v3B ao ap 8 8 (plI (drB qn) (ofD qn)) 8 (plI_len _ _ (drB_size qn) (ofD_size qn)).symm (by omega) (unhide HJB).2.1 (unhide HJB).2.2)
              have HSf := hide (unhide HJB).1
              clear HJB
              go_wp2_with fail
              refine (unhide HSM).mono ?_
              rintro e y9 ⟨rfl, hb⟩
              have HSe := hide ((unhide HSf).low hb)
              clear hb HSf HSM
              have t1 : (nxN n != nxN n) = false := by simp
              go_wp2
              go_roundw
              case rel => exact ⟨x, k + 1, hx, by omega, rfl, by go_num, _, _, unhide HSe⟩
              case measure => simp [intOf]; omega
          · by_cases k2 : qk = 2
            · subst k2
              as_aux_lemma =>
                obtain ⟨G, hG⟩ : ∃ G, wr.heap.size = G := ⟨_, rfl⟩
                obtain ⟨y1, hy1⟩ : ∃ Z, wr.alloc (.cells #[.bool false, .int .i64 0, .int .i64 0, .int .i64 0, .bool false, .bool false, .int .i64 0, .int .i64 0, .string ⟨#[]⟩, .string ⟨#[]⟩, .string ⟨#[]⟩] 42) = Z := ⟨_, rfl⟩
                have hly : Below wr.heap.size wr y1 := by rw [← hy1]; exact (Below.refl _ _).alloc (Nat.le_refl _) _
                have hby : Blk y1 G #[.bool false, .int .i64 0, .int .i64 0, .int .i64 0, .bool false, .bool false, .int .i64 0, .int .i64 0, .string ⟨#[]⟩, .string ⟨#[]⟩, .string ⟨#[]⟩] 42 := by rw [← hy1, ← hG]; exact Blk.new _ _ _
                have hty := (unhide HSn).top
                have hyA := (unhide HSn).low hly
                have hTG : B + 9 ≤ G := by omega
                have HTH := hide (blk_there hby 11 rfl)
                have hoz : Only (fun x => x = G) y1 (y1.setCells G 0 [.bool qo, .int .i64 2, .int .i64 qt, .int .i64 qn, .bool qr, .bool qq, .int .i64 qv, .int .i64 qb, .string qd, .string qw, .string qdr]) := only_cells G 0 _ rfl
                have hwz := setCells_all hby [.bool qo, .int .i64 2, .int .i64 qt, .int .i64 qn, .bool qr, .bool qq, .int .i64 qv, .int .i64 qb, .string qd, .string qw, .string qdr] rfl
                have hsz := hyA.oth hoz hTG
                obtain ⟨z4, hz4⟩ : ∃ Z, y1.setCells G 0 (#[.bool qo, .int .i64 2, .int .i64 qt, .int .i64 qn, .bool qr, .bool qq, .int .i64 qv, .int .i64 qb, .string qd, .string qw, .string qdr] : Array Value).toList = Z := ⟨_, rfl⟩
                have hz4' : y1.setCells G 0 [.bool qo, .int .i64 2, .int .i64 qt, .int .i64 qn, .bool qr, .bool qq, .int .i64 qv, .int .i64 qb, .string qd, .string qw, .string qdr] = z4 := hz4
                rw [hz4'] at hoz hwz hsz
                have HZ4 := hide hz4
                have HTG := hide hTG
                have c1 : z4.cell? ⟨G, 1, none⟩ = some (.int .i64 2) := hwz.cell 1
                have c2 : z4.cell? ⟨G, 2, none⟩ = some (.int .i64 qt) := hwz.cell 2
                have c3 : z4.cell? ⟨G, 3, none⟩ = some (.int .i64 qn) := hwz.cell 3
                have f2 : z4.frozen? ⟨G, 2, none⟩ = false := hwz.frozen 2
                have HSa := hide hsz
                have HWz := hide (show Blk z4 G #[.bool qo, .int .i64 2, .int .i64 qt, .int .i64 qn, .bool qr, .bool qq, .int .i64 qv, .int .i64 qb, .string qd, .string qw, .string qdr] 42 from hwz)
                clear hly hby hty hyA hTG hoz hwz hsz hz4 hz4' HSn
                clear c2 f2
                have HAB2 := hide (show A + 9 ≤ G from by have h1 := unhide HAB; have h2 := unhide HTG; omega)
                go_wp2_with (first | refine wpList_load_mid rfl 42 (.tmp 110) rfl g (o + k * 11) rfl [.bool qo, .int .i64 2, .int .i64 qt, .int .i64 qn, .bool qr, .bool qq, .int .i64 qv, .int .i64 qb, .string qd, .string qw, .string qdr] _ (unhide HRG) Tryd.underlying42 rfl (by rw [sizeOp]; rfl) ?_ | (refine wpList_store_mid rfl 42 (.tmp 15) (.tmp 111) rfl G 0 #[.bool qo, .int .i64 2, .int .i64 qt, .int .i64 qn, .bool qr, .bool qq, .int .i64 qv, .int .i64 qb, .string qd, .string qw, .string qdr] rfl rfl (unhide HTH) (by rw [sizeOp]; rfl) (by simp [Value.oneCell']) ?_; rw [unhide HZ4]))
                have HTA := hide ((unhide HSa).ownTakeA hq1 (1 + (a : Int)) (by omega) qn)
                have HWA := hide (unhide HWz)
                clear HSa HWz
                refine (unhide HTA).mono ?_
                rintro e yA ⟨ao, ca, rfl, hI, hF, hA, hO⟩
                obtain ⟨GA, hGA⟩ : ∃ G, yA.heap.size = G := ⟨_, rfl⟩
                obtain ⟨uA, huA⟩ : ∃ Z, yA.alloc (.cells #[.int .i64 0, .int .i64 0, .string ⟨#[]⟩, .string ⟨#[]⟩] 31) = Z := ⟨_, rfl⟩
                have hly : Below yA.heap.size yA uA := by rw [← huA]; exact (Below.refl _ _).alloc (Nat.le_refl _) _
                have hby : Blk uA GA #[.int .i64 0, .int .i64 0, .string ⟨#[]⟩, .string ⟨#[]⟩] 31 := by rw [← huA, ← hGA]; exact Blk.new _ _ _
                have hty := hA.top
                have hTGA : B + 9 ≤ GA := by omega
                have HTHA := hide (blk_there hby 4 rfl)
                have hoz : Only (fun x => x = GA) uA (uA.setCells GA 0 [.int .i64 (tkv qn l), .int .i64 (tkk qn l), .string (tkd qn l), .string (tkq qn l)]) := only_cells GA 0 _ rfl
                have hwz := setCells_all hby [.int .i64 (tkv qn l), .int .i64 (tkk qn l), .string (tkd qn l), .string (tkq qn l)] rfl
                obtain ⟨zA, hzA⟩ : ∃ Z, uA.setCells GA 0 (#[.int .i64 (tkv qn l), .int .i64 (tkk qn l), .string (tkd qn l), .string (tkq qn l)] : Array Value).toList = Z := ⟨_, rfl⟩
                have hzA' : uA.setCells GA 0 [.int .i64 (tkv qn l), .int .i64 (tkk qn l), .string (tkd qn l), .string (tkq qn l)] = zA := hzA
                rw [hzA'] at hoz hwz
                have HZA := hide hzA
                have HAA := hide ((hA.low hly).oth hoz hTGA)
                have hbw := (unhide HWA).only hO (onB_far (unhide HAB2))
                have hgl := hbw.lt
                have hbw2 := (hbw.below hly hgl).only hoz (show ¬ (G = GA) by omega)
                have s3 : zA.cell? ⟨G, 3, none⟩ = some (.int .i64 qn) := hbw2.cell 3
                have HBA := hide (show Blk zA GA #[.int .i64 (tkv qn l), .int .i64 (tkk qn l), .string (tkd qn l), .string (tkq qn l)] 31 from hwz)
                have HIA := hide (kil_new hI hly hoz hGA)
                have HFA := hide hF
                have HTB := hide ((unhide HAA).ownTakeB hq1 (1 + (a : Int)) (by omega) qn)
                have HGA := hide hTGA
                clear hly hby hty hoz hwz hzA hzA' hbw hgl hbw2 hI hF hA hO hTGA HWA HTA HAA
                go_wp2_with (refine wpList_store_mid rfl 31 (.tmp 23) (.tmp 187) rfl GA 0 #[.int .i64 (tkv qn l), .int .i64 (tkk qn l), .string (tkd qn l), .string (tkq qn l)] rfl rfl (unhide HTHA) (by rw [sizeOff]; rfl) (by simp [Value.oneCell']) ?_; rw [unhide HZA])
                refine (unhide HTB).mono ?_
                rintro e yB ⟨ap, cb, rfl, hI, hF, hA, hO⟩
                obtain ⟨GB, hGB⟩ : ∃ G, yB.heap.size = G := ⟨_, rfl⟩
                obtain ⟨uB, huB⟩ : ∃ Z, yB.alloc (.cells #[.int .i64 0, .int .i64 0, .string ⟨#[]⟩, .string ⟨#[]⟩] 31) = Z := ⟨_, rfl⟩
                have hly : Below yB.heap.size yB uB := by rw [← huB]; exact (Below.refl _ _).alloc (Nat.le_refl _) _
                have hby : Blk uB GB #[.int .i64 0, .int .i64 0, .string ⟨#[]⟩, .string ⟨#[]⟩] 31 := by rw [← huB, ← hGB]; exact Blk.new _ _ _
                have hty := hA.top
                have hTGB : B + 9 ≤ GB := by omega
                have HTHB := hide (blk_there hby 4 rfl)
                have hoz : Only (fun x => x = GB) uB (uB.setCells GB 0 [.int .i64 (tkv qn l), .int .i64 (tkk qn l), .string (tkd qn l), .string (tkq qn l)]) := only_cells GB 0 _ rfl
                have hwz := setCells_all hby [.int .i64 (tkv qn l), .int .i64 (tkk qn l), .string (tkd qn l), .string (tkq qn l)] rfl
                obtain ⟨zB, hzB⟩ : ∃ Z, uB.setCells GB 0 (#[.int .i64 (tkv qn l), .int .i64 (tkk qn l), .string (tkd qn l), .string (tkq qn l)] : Array Value).toList = Z := ⟨_, rfl⟩
                have hzB' : uB.setCells GB 0 [.int .i64 (tkv qn l), .int .i64 (tkk qn l), .string (tkd qn l), .string (tkq qn l)] = zB := hzB
                rw [hzB'] at hoz hwz
                have HZB := hide hzB
                have HABB := hide ((hA.low hly).oth hoz hTGB)
                have hbw := (unhide HBA).only hO (onB_far (unhide HGA))
                have hgl := hbw.lt
                have hbw2 := (hbw.below hly hgl).only hoz (show ¬ (GA = GB) by omega)
                have HRA := hide (blk_range (cs := [.int .i64 (tkv qn l), .int .i64 (tkk qn l), .string (tkd qn l), .string (tkq qn l)]) hbw2)
                have HRB := hide (blk_range (cs := [.int .i64 (tkv qn l), .int .i64 (tkk qn l), .string (tkd qn l), .string (tkq qn l)]) (show Blk zB GB #[.int .i64 (tkv qn l), .int .i64 (tkk qn l), .string (tkd qn l), .string (tkq qn l)] 31 from hwz))
                have HLA := hide hbw2.lt
                have HLB := hide hwz.lt
                have hIa := kil_new (Kil.of hO (Nat.le_refl _) _ _ (unhide HIA) (unhide HFA)) hly hoz hGB
                have hIb := kil_new hI hly hoz hGB
                have HSM := hide (same13_eq zB ao ap ca cb (tkP qn l) (tkP qn l).length rfl (by have := tkP_len qn l; omega) hIa hIb)
                clear hly hby hty hoz hwz hzB hzB' hbw hgl hbw2 hI hF hA hO hTGB hIa hIb HTB HIA HFA HBA
                go_wp2_with (refine wpList_store_mid rfl 31 (.tmp 26) (.tmp 196) rfl GB 0 #[.int .i64 (tkv qn l), .int .i64 (tkk qn l), .string (tkd qn l), .string (tkq qn l)] rfl rfl (unhide HTHB) (by rw [sizeOff]; rfl) (by simp [Value.oneCell']) ?_; rw [unhide HZB])
                refine (unhide HSM).mono ?_
                rintro e y9 ⟨rfl, hb⟩
                have HSe := hide ((unhide HABB).low hb)
                have hra := range_low hb (unhide HRA) (unhide HLA)
                have hrb := range_low hb (unhide HRB) (unhide HLB)
                have HRA := hide hra
                have HRB := hide hrb
                clear hb HABB HSM hra hrb
                have t1 : (tkE qn l != tkE qn l) = false := by simp
                go_wp2_with (first | refine wpList_load_mid rfl 31 (.tmp 23) rfl GA 0 rfl [.int .i64 (tkv qn l), .int .i64 (tkk qn l), .string (tkd qn l), .string (tkq qn l)] _ (unhide HRA) Tryd.underlying31 rfl (by rw [sizeOff]; rfl) ?_ | refine wpList_load_mid rfl 31 (.tmp 26) rfl GB 0 rfl [.int .i64 (tkv qn l), .int .i64 (tkk qn l), .string (tkd qn l), .string (tkq qn l)] _ (unhide HRB) Tryd.underlying31 rfl (by rw [sizeOff]; rfl) ?_ | refine wpList_neO rfl (.tmp 202) (.tmp 203) rfl _ _ _ _ rfl rfl ?_)
                go_roundw
                case rel => exact ⟨x, k + 1, hx, by omega, rfl, by go_num, _, _, unhide HSe⟩
                case measure => simp [intOf]; omega
            · have j1 : (qk == 1) = false := by simpa using k1
              have j2 : (qk == 2) = false := by simpa using k2
              clear k1 k2
              as_aux_lemma =>
                obtain ⟨G, hG⟩ : ∃ G, wr.heap.size = G := ⟨_, rfl⟩
                obtain ⟨y1, hy1⟩ : ∃ Z, wr.alloc (.cells #[.bool false, .int .i64 0, .int .i64 0, .int .i64 0, .bool false, .bool false, .int .i64 0, .int .i64 0, .string ⟨#[]⟩, .string ⟨#[]⟩, .string ⟨#[]⟩] 42) = Z := ⟨_, rfl⟩
                have hly : Below wr.heap.size wr y1 := by rw [← hy1]; exact (Below.refl _ _).alloc (Nat.le_refl _) _
                have hby : Blk y1 G #[.bool false, .int .i64 0, .int .i64 0, .int .i64 0, .bool false, .bool false, .int .i64 0, .int .i64 0, .string ⟨#[]⟩, .string ⟨#[]⟩, .string ⟨#[]⟩] 42 := by rw [← hy1, ← hG]; exact Blk.new _ _ _
                have hty := (unhide HSn).top
                have hyA := (unhide HSn).low hly
                have hTG : B + 9 ≤ G := by omega
                have HTH := hide (blk_there hby 11 rfl)
                have hoz : Only (fun x => x = G) y1 (y1.setCells G 0 [.bool qo, .int .i64 qk, .int .i64 qt, .int .i64 qn, .bool qr, .bool qq, .int .i64 qv, .int .i64 qb, .string qd, .string qw, .string qdr]) := only_cells G 0 _ rfl
                have hwz := setCells_all hby [.bool qo, .int .i64 qk, .int .i64 qt, .int .i64 qn, .bool qr, .bool qq, .int .i64 qv, .int .i64 qb, .string qd, .string qw, .string qdr] rfl
                have hsz := hyA.oth hoz hTG
                obtain ⟨z4, hz4⟩ : ∃ Z, y1.setCells G 0 (#[.bool qo, .int .i64 qk, .int .i64 qt, .int .i64 qn, .bool qr, .bool qq, .int .i64 qv, .int .i64 qb, .string qd, .string qw, .string qdr] : Array Value).toList = Z := ⟨_, rfl⟩
                have hz4' : y1.setCells G 0 [.bool qo, .int .i64 qk, .int .i64 qt, .int .i64 qn, .bool qr, .bool qq, .int .i64 qv, .int .i64 qb, .string qd, .string qw, .string qdr] = z4 := hz4
                rw [hz4'] at hoz hwz hsz
                have HZ4 := hide hz4
                have HTG := hide hTG
                have c1 : z4.cell? ⟨G, 1, none⟩ = some (.int .i64 qk) := hwz.cell 1
                have c2 : z4.cell? ⟨G, 2, none⟩ = some (.int .i64 qt) := hwz.cell 2
                have c3 : z4.cell? ⟨G, 3, none⟩ = some (.int .i64 qn) := hwz.cell 3
                have f2 : z4.frozen? ⟨G, 2, none⟩ = false := hwz.frozen 2
                have HSa := hide hsz
                have HWz := hide (show Blk z4 G #[.bool qo, .int .i64 qk, .int .i64 qt, .int .i64 qn, .bool qr, .bool qq, .int .i64 qv, .int .i64 qb, .string qd, .string qw, .string qdr] 42 from hwz)
                clear hly hby hty hyA hTG hoz hwz hsz hz4 hz4' HSn
                clear c2 f2
                have HAB2 := hide (show A + 9 ≤ G from by have h1 := unhide HAB; have h2 := unhide HTG; omega)
                go_wp2_with (first | refine wpList_load_mid rfl 42 (.tmp 110) rfl g (o + k * 11) rfl [.bool qo, .int .i64 qk, .int .i64 qt, .int .i64 qn, .bool qr, .bool qq, .int .i64 qv, .int .i64 qb, .string qd, .string qw, .string qdr] _ (unhide HRG) Tryd.underlying42 rfl (by rw [sizeOp]; rfl) ?_ | (refine wpList_store_mid rfl 42 (.tmp 15) (.tmp 111) rfl G 0 #[.bool qo, .int .i64 qk, .int .i64 qt, .int .i64 qn, .bool qr, .bool qq, .int .i64 qv, .int .i64 qb, .string qd, .string qw, .string qdr] rfl rfl (unhide HTH) (by rw [sizeOp]; rfl) (by simp [Value.oneCell']) ?_; rw [unhide HZ4]))
                have HPA := hide ((unhide HSa).ownPendA hq1 (1 + (a : Int)) (by omega))
                have HLN := hide ((unhide HSa).lenA hq1)
                clear HSa HWz
                refine (unhide HPA).mono ?_
                rintro e yA ⟨ao, ca, rfl, hI, hF, hA, hO⟩
                have HPB := hide (hA.ownPendB hq1 (1 + (a : Int)) (by omega))
                have HIA := hide hI
                have HFA := hide hF
                clear hI hF hA hO HPA
                go_wp2_with fail
                refine (unhide HPB).mono ?_
                rintro e yB ⟨ap, cb, rfl, hI, hF, hA, hO⟩
                have hIa := Kil.of hO (Nat.le_refl _) _ _ (unhide HIA) (unhide HFA)
                have HSM := hide (same13_eq yB ao ap ca cb (ncs l) (ncs l).length rfl (by have := unhide HLN; have := ncs_len l; omega) hIa hI)
                have HSf := hide hA
                clear hI hF hA hO HPB hIa HIA HFA HLN
                go_wp2_with fail
                refine (unhide HSM).mono ?_
                rintro e y9 ⟨rfl, hb⟩
                have HSe := hide ((unhide HSf).low hb)
                clear hb HSf HSM
                go_wp2
                go_roundw
                case rel => exact ⟨x, k + 1, hx, by omega, rfl, by go_num, _, _, unhide HSe⟩
                case measure => simp [intOf]; omega
    · have hk' : k = n1 := by omega
      subst hk'
      have i1 : ¬ ((k : Int) < (k : Int)) := by omega
      obtain ⟨n, l, hS⟩ := hS
      have HS := hide hS.lo
      clear hS hlt HS0
      go_wp2
      go_ret
      exact ⟨rfl, unhide HS⟩
end Go.Proofs.YthnlggbnielgdaaDoor
