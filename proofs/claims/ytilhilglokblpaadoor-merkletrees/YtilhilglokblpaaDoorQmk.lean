import Derived.Test.YtilhilglokblpaaDoorQmj
namespace Go.Proofs.YtilhilglokblpaaDoor
open Go.RowKit
set_option maxRecDepth 100000
theorem wpList_load_midG {ops : Array Oper} {rest : List Oper} {op : Oper} {a : Act} {w : World} {Q : Exit → Act → World → Prop} (hw : Region.wanted op (yielded ops a.tmps) = true) (ty : TypeId) (x : Operand) (ho : op.op = .load ty x) (b o : Nat) (hx : a.eval x = .pointer (some ⟨b, o, none⟩)) (cs : List Value) (d : TypeDesc) (hc : w.rangeAt b o cs) (hu : Tryd.prog.underlying ty = some d) (hd : d.isRow = true) (hi : (Tryd.prog.info? ty).map (·.size) = some cs.length) (h : wpList Tryd.prog ops Q rest (a.put op.dst (.agg cs.toArray)) w) : wpList Tryd.prog ops Q (op :: rest) a w :=
  wpList_step fun K hK => by simp only [hw, if_true]; exact wp_load_mid ty x ho b o hx cs d hc hu hd hi (hK _ _ h)
theorem wpList_eqDG {ops : Array Oper} {rest : List Oper} {op : Oper} {a : Act} {w : World} {Q : Exit → Act → World → Prop} {r : Bool} (hw : Region.wanted op (yielded ops a.tmps) = true) (x y : Operand) (ho : op.op = .binOp .eql 46 x y 46) (A B : Array Value) (hx : a.eval x = .agg A) (hy : a.eval y = .agg B)
    (he : ∀ w, (binOp .eql 46 (.agg A) (.agg B)).run Tryd.prog w = .ok (.bool r) w) (h : wpList Tryd.prog ops Q rest (a.put op.dst (.bool r)) w) : wpList Tryd.prog ops Q (op :: rest) a w :=
  wpList_step fun K hK => by
    simp only [hw, if_true]
    have e2 := run_eqGuard_agg (P := Tryd.prog) w .eql 46 x y A B guard_D
    unfold Oper.wp execOp
    simp only [ho, hx, hy, Sem.run_bind, e2, Result.andThen_ok, he w, Sem.run_pure]
    exact hK _ _ h
/-- does a proof show that n have grown from the first m -/
noncomputable def hgB (o r : ByteArray) (m n : Nat) (P : List ByteArray) : Bool :=
  if m = 0 then decide (P.length = 0) && (decide (o = dg ⟨#[]⟩) && (decide (0 < n) || decide (r = dg ⟨#[]⟩)))
  else match cm m n true o P with
    | some x => decide (x.1 = o) && decide (x.2 = r)
    | none => false
set_option maxHeartbeats 4000000 in
theorem hasGrown_any (o r : ByteArray) (ho : o.size = 32) (hr : r.size = 32) (m n : Nat) (hmn : m ≤ n) (hn : n ≤ 65536) (P : List ByteArray) (q : Nat) (hq : P.length = q) (w : World) (B c : Nat) (p : Option Addr) (hS : SB w B p P) (hB : B ≤ w.heap.size) (hK : KTab w) (hqc : q ≤ c) (hc9 : c ≤ 9223372036854775807) : Calls Tryd.prog 29 #[.agg (dC o).toArray, .int .i64 (m : Int), .agg (dC r).toArray, .int .i64 (n : Int), .slice p q c] w fun e w' => e = .returned (.bool (hgB o r m n P)) ∧ Below w.heap.size w w' := by
  obtain ⟨h, hh⟩ : ∃ h, w.heap.size = h := ⟨_, rfl⟩
  obtain ⟨x0, hx0⟩ : ∃ z, w.alloc (.cells (dC o).toArray 46) = z := ⟨_, rfl⟩
  obtain ⟨x1, hx1⟩ : ∃ z, x0.alloc (.cells (dC r).toArray 46) = z := ⟨_, rfl⟩
  have e0 : x0.heap.size = h + 1 := by rw [← hx0]; simp [hh]
  have HE1 := hide (show x1.heap.size = h + 2 from by rw [← hx1]; simp [e0])
  have HB0 := hide (show Below h w x1 from by rw [← hx1, ← hx0, ← hh]; exact ((Below.refl _ w).alloc (Nat.le_refl _) _).alloc (by simp) _)
  have HKB := hide (show ∀ W, Below (h + 2) x1 W → KTab W from fun W hW => (hK.below (unhide HB0) (by rw [← hh]; exact hK.1)).below hW (by have := hK.1; omega))
  have HRO := hide (show ∀ W, Below (h + 2) x1 W → W.rangeAt h 0 (dC o) ∧ W.rangeAt (h + 1) 0 (dC r) from fun W hW => ⟨rangeAt_below (by
    have := (dC_new w o).alloc (by rw [← hx0] at e0; omega) (.cells (dC r).toArray 46)
    rw [hx0, hx1, hh] at this
    exact this.range) hW (by omega), rangeAt_below (by
    have := dC_new x0 r
    rw [hx1, e0] at this
    exact this.range) hW (by omega)⟩)
  have HBx := hide (show Below (h + 2) x1 x1 from Below.refl _ _)
  have HLo := hide (dC_len o ho)
  have HLr := hide (dC_len r hr)
  have hgd0 : hgB o r m n P = if m = 0 then decide (P.length = 0) && (decide (o = dg ⟨#[]⟩) && (decide (0 < n) || decide (r = dg ⟨#[]⟩))) else match cm m n true o P with | some x => decide (x.1 = o) && decide (x.2 = r) | none => false := rfl
  rw [hgd0, hh]
  clear hgd0
  by_cases hm : m = 0
  · rw [if_pos hm, hq]
    have HSU := hide (fun W (hW : Below (h + 2) x1 W) => sumOf_any ⟨#[]⟩ W (unhide HKB W hW) (by decide))
    have hzs := dg_size ⟨#[]⟩
    obtain ⟨zz, hzz⟩ : ∃ z, dg ⟨#[]⟩ = z := ⟨_, rfl⟩
    rw [hzz] at HSU hzs ⊢
    have HQ1' := hide (fun W => eqD o zz ho hzs W)
    have HQ2' := hide (fun W => eqD r zz hr hzs W)
    obtain ⟨b1, hb1⟩ : ∃ z, decide (o = zz) = z := ⟨_, rfl⟩
    obtain ⟨b2, hb2⟩ : ∃ z, decide (r = zz) = z := ⟨_, rfl⟩
    rw [hb1] at HQ1' ⊢
    rw [hb2] at HQ2' ⊢
    have HLz := hide (dC_len zz hzs)
    have HKz := hide (dC_all zz)
    obtain ⟨b0, hb0⟩ : ∃ z, decide (q = 0) = z := ⟨_, rfl⟩
    obtain ⟨b3, hb3⟩ : ∃ z, decide (0 < n) = z := ⟨_, rfl⟩
    rw [hb0, hb3]
    have e1 : ((q : Int) == 0) = b0 := by rw [← hb0]; by_cases e : q = 0 <;> simp [e]
    have e3 : (decide ((0 : Int) < (n : Int))) = b3 := by rw [← hb3]; by_cases e : 0 < n <;> simp [e]
    have hq0 : b0 = true → q = 0 := fun e => by rw [← hb0] at e; exact of_decide_eq_true e
    have hqn : b0 = false → ¬ (q : Int) = 0 := fun e => by rw [← hb0] at e; have := of_decide_eq_false e; omega
    have hn0 : b3 = true → (0 : Int) < (n : Int) := fun e => by rw [← hb3] at e; have := of_decide_eq_true e; omega
    have hnn : b3 = false → ¬ (0 : Int) < (n : Int) := fun e => by rw [← hb3] at e; have := of_decide_eq_false e; omega
    subst hm
    clear hS hK hq hb1 hb2 hb0 hb3 hzz hzs
    generalize dC o = co at *
    generalize dC r = cr at *
    generalize dC zz = cz at *
    go_enter Tryd.func29, Tryd.ntmps29
    go_wp2_with fail
    refine (unhide HSU _ (unhide HBx)).mono ?_
    rintro e y1 ⟨rfl, hb⟩
    have hs1 : h + 2 ≤ y1.heap.size := by have := hb.size; rw [unhide HE1] at this; exact this
    have HB1 := hide (show Below (h + 2) x1 y1 from hb.mono (by rw [unhide HE1]; omega))
    clear hb
    obtain ⟨gd, hgd⟩ : ∃ q, y1.heap.size = q := ⟨_, rfl⟩
    obtain ⟨x2, hx2⟩ : ∃ q, y1.alloc (.cells #[.int .u8 0, .int .u8 0, .int .u8 0, .int .u8 0, .int .u8 0, .int .u8 0, .int .u8 0, .int .u8 0, .int .u8 0, .int .u8 0, .int .u8 0, .int .u8 0, .int .u8 0, .int .u8 0, .int .u8 0, .int .u8 0, .int .u8 0, .int .u8 0, .int .u8 0, .int .u8 0, .int .u8 0, .int .u8 0, .int .u8 0, .int .u8 0, .int .u8 0, .int .u8 0, .int .u8 0, .int .u8 0, .int .u8 0, .int .u8 0, .int .u8 0, .int .u8 0] 46) = q := ⟨_, rfl⟩
    have HT2 := hide (show x2.there gd 0 32 from by rw [← hx2, ← hgd]; simpa using (zD_new y1).there)
    obtain ⟨x3, hx3⟩ : ∃ q, x2.setCells gd 0 cz = q := ⟨_, rfl⟩
    have HRZ := hide (show x3.rangeAt gd 0 cz from by rw [← hx3]; exact World.rangeAt_setCells_same x2 gd 0 cz (by rw [unhide HLz]; exact unhide HT2))
    have hB3 : Below (h + 2) x1 x3 := by rw [← hx3]; exact below_setCells (by omega) _ _ (by rw [← hx2]; exact (unhide HB1).alloc (by omega) _)
    have HR1 := hide (unhide HRO x3 hB3).1
    have HR2 := hide (unhide HRO x3 hB3).2
    have HW3 := hide (show Below h w x3 from (unhide HB0).trans (hB3.mono (by omega)))
    have HQ1 := hide (fun W => unhide HQ1' W)
    have HQ2 := hide (fun W => unhide HQ2' W)
    clear hB3 HQ1' HQ2'
    cases b0 with
    | false =>
      have qq := hqn rfl
      clear hq0 hqn hn0 hnn
      go_wp2_with (first | refine wpList_load_midG (by rfl) 46 (.tmp 5) rfl h 0 rfl _ _ (unhide HR1) Tryd.underlying46 rfl (by rw [szD, unhide HLo]) ?_ | refine wpList_load_midG (by rfl) 46 (.tmp 11) rfl gd 0 rfl _ _ (unhide HRZ) Tryd.underlying46 rfl (by rw [szD, unhide HLz]) ?_ | refine wpList_load_midG (by rfl) 46 (.tmp 7) rfl (h + 1) 0 rfl _ _ (unhide HR2) Tryd.underlying46 rfl (by rw [szD, unhide HLr]) ?_ | refine wpList_eqDG (by rfl) (.tmp 21) (.tmp 22) rfl _ _ rfl rfl (unhide HQ1) ?_ | refine wpList_eqDG (by rfl) (.tmp 29) (.tmp 30) rfl _ _ rfl rfl (unhide HQ2) ?_ | refine wpList_store_mid rfl 46 (.tmp 11) (.tmp 16) rfl gd 0 cz.toArray rfl rfl (by simpa [unhide HLz] using unhide HT2) (by rw [szD]; simp [unhide HLz]) (unhide HKz) ?_)
      go_ret
      exact ⟨rfl, unhide HW3⟩
    | true =>
      cases b1 with
      | false =>
        have qq := hq0 rfl
        subst qq
        clear hq0 hqn hn0 hnn
        go_wp2_with (first | refine wpList_load_midG (by rfl) 46 (.tmp 5) rfl h 0 rfl _ _ (unhide HR1) Tryd.underlying46 rfl (by rw [szD, unhide HLo]) ?_ | refine wpList_load_midG (by rfl) 46 (.tmp 11) rfl gd 0 rfl _ _ (unhide HRZ) Tryd.underlying46 rfl (by rw [szD, unhide HLz]) ?_ | refine wpList_load_midG (by rfl) 46 (.tmp 7) rfl (h + 1) 0 rfl _ _ (unhide HR2) Tryd.underlying46 rfl (by rw [szD, unhide HLr]) ?_ | refine wpList_eqDG (by rfl) (.tmp 21) (.tmp 22) rfl _ _ rfl rfl (unhide HQ1) ?_ | refine wpList_eqDG (by rfl) (.tmp 29) (.tmp 30) rfl _ _ rfl rfl (unhide HQ2) ?_ | refine wpList_store_mid rfl 46 (.tmp 11) (.tmp 16) rfl gd 0 cz.toArray rfl rfl (by simpa [unhide HLz] using unhide HT2) (by rw [szD]; simp [unhide HLz]) (unhide HKz) ?_)
        go_ret
        exact ⟨rfl, unhide HW3⟩
      | true =>
        cases b3 with
        | true =>
          have qq := hq0 rfl
          subst qq
          have nn := hn0 rfl
          clear hq0 hqn hn0 hnn
          go_wp2_with (first | refine wpList_load_midG (by rfl) 46 (.tmp 5) rfl h 0 rfl _ _ (unhide HR1) Tryd.underlying46 rfl (by rw [szD, unhide HLo]) ?_ | refine wpList_load_midG (by rfl) 46 (.tmp 11) rfl gd 0 rfl _ _ (unhide HRZ) Tryd.underlying46 rfl (by rw [szD, unhide HLz]) ?_ | refine wpList_load_midG (by rfl) 46 (.tmp 7) rfl (h + 1) 0 rfl _ _ (unhide HR2) Tryd.underlying46 rfl (by rw [szD, unhide HLr]) ?_ | refine wpList_eqDG (by rfl) (.tmp 21) (.tmp 22) rfl _ _ rfl rfl (unhide HQ1) ?_ | refine wpList_eqDG (by rfl) (.tmp 29) (.tmp 30) rfl _ _ rfl rfl (unhide HQ2) ?_ | refine wpList_store_mid rfl 46 (.tmp 11) (.tmp 16) rfl gd 0 cz.toArray rfl rfl (by simpa [unhide HLz] using unhide HT2) (by rw [szD]; simp [unhide HLz]) (unhide HKz) ?_)
          go_ret
          exact ⟨rfl, unhide HW3⟩
        | false =>
          cases b2 with
          | true =>
            have qq := hq0 rfl
            subst qq
            have nn := hnn rfl
            obtain rfl : n = 0 := by omega
            clear hq0 hqn hn0 hnn nn
            clear hn
            go_wp2_with (first | refine wpList_load_midG (by rfl) 46 (.tmp 5) rfl h 0 rfl _ _ (unhide HR1) Tryd.underlying46 rfl (by rw [szD, unhide HLo]) ?_ | refine wpList_load_midG (by rfl) 46 (.tmp 11) rfl gd 0 rfl _ _ (unhide HRZ) Tryd.underlying46 rfl (by rw [szD, unhide HLz]) ?_ | refine wpList_load_midG (by rfl) 46 (.tmp 7) rfl (h + 1) 0 rfl _ _ (unhide HR2) Tryd.underlying46 rfl (by rw [szD, unhide HLr]) ?_ | refine wpList_eqDG (by rfl) (.tmp 21) (.tmp 22) rfl _ _ rfl rfl (unhide HQ1) ?_ | refine wpList_eqDG (by rfl) (.tmp 29) (.tmp 30) rfl _ _ rfl rfl (unhide HQ2) ?_ | refine wpList_store_mid rfl 46 (.tmp 11) (.tmp 16) rfl gd 0 cz.toArray rfl rfl (by simpa [unhide HLz] using unhide HT2) (by rw [szD]; simp [unhide HLz]) (unhide HKz) ?_)
            go_ret
            exact ⟨rfl, unhide HW3⟩
          | false =>
            have qq := hq0 rfl
            subst qq
            have nn := hnn rfl
            obtain rfl : n = 0 := by omega
            clear hq0 hqn hn0 hnn nn
            clear hn
            go_wp2_with (first | refine wpList_load_midG (by rfl) 46 (.tmp 5) rfl h 0 rfl _ _ (unhide HR1) Tryd.underlying46 rfl (by rw [szD, unhide HLo]) ?_ | refine wpList_load_midG (by rfl) 46 (.tmp 11) rfl gd 0 rfl _ _ (unhide HRZ) Tryd.underlying46 rfl (by rw [szD, unhide HLz]) ?_ | refine wpList_load_midG (by rfl) 46 (.tmp 7) rfl (h + 1) 0 rfl _ _ (unhide HR2) Tryd.underlying46 rfl (by rw [szD, unhide HLr]) ?_ | refine wpList_eqDG (by rfl) (.tmp 21) (.tmp 22) rfl _ _ rfl rfl (unhide HQ1) ?_ | refine wpList_eqDG (by rfl) (.tmp 29) (.tmp 30) rfl _ _ rfl rfl (unhide HQ2) ?_ | refine wpList_store_mid rfl 46 (.tmp 11) (.tmp 16) rfl gd 0 cz.toArray rfl rfl (by simpa [unhide HLz] using unhide HT2) (by rw [szD]; simp [unhide HLz]) (unhide HKz) ?_)
            go_ret
            exact ⟨rfl, unhide HW3⟩
  · rw [if_neg hm]
    have HRB := hide (show ∀ W, Below (h + 2) x1 W → Calls Tryd.prog 42 #[.agg (dC o).toArray, .int .i64 (m : Int), .int .i64 (n : Int), .slice p q c, .bool true] W (GrQ W m n true o P) from fun W hW => rootsBy_any o ho n m true P q hq W B c p (by omega) hmn hn ((hS.below ((unhide HB0).mono (by omega))).below (hW.mono (by omega))) (by have := hW.size; have := unhide HE1; omega) (unhide HKB W hW) hqc hc9)
    have e1 : ((m : Int) == 0) = false := by simp; omega
    have HEO := hide (fun x (hx : x.size = 32) W => eqD x o hx ho W)
    have HER := hide (fun x (hx : x.size = 32) W => eqD x r hx hr W)
    have HR1' := hide (unhide HRO x1 (unhide HBx)).1
    obtain ⟨res, hres⟩ : ∃ z, (match cm m n true o P with | some x => decide (x.1 = o) && decide (x.2 = r) | none => false) = z := ⟨_, rfl⟩
    rw [hres]
    have HRES := hide (show ∀ x y b, ((b = true ∧ cm m n true o P = some (x, y)) ∨ (b = false ∧ cm m n true o P = none)) → res = (b && (decide (x = o) && decide (y = r))) from fun x y b hc => by
      rw [← hres]
      rcases hc with ⟨rfl, c2⟩ | ⟨rfl, c2⟩
      · rw [c2]; simp
      · rw [c2]; simp)
    clear hS hK hq hres hm
    generalize hco : dC o = co at *
    generalize hcr : dC r = cr at *
    go_enter Tryd.func29, Tryd.ntmps29
    go_wp2_with (first | refine wpList_load_mid rfl 46 (.tmp 5) rfl h 0 rfl _ _ (unhide HR1') Tryd.underlying46 rfl (by rw [szD, unhide HLo]) ?_ | fail)
    refine (unhide HRB _ (unhide HBx)).mono ?_
    rintro e y2 ⟨hb2, x, y, bf, hx, hy, rfl, hc⟩
    obtain rfl := unhide HRES x y bf hc
    have HB2 := hide (show Below (h + 2) x1 y2 from hb2.mono (by rw [unhide HE1]; omega))
    obtain ⟨gq, hgq⟩ : ∃ z, y2.heap.size = z := ⟨_, rfl⟩
    have hgh : h + 2 ≤ gq := by have := hb2.size; rw [unhide HE1] at this; omega
    obtain ⟨x5, hx5⟩ : ∃ z, y2.alloc (.cells #[.int .u8 0, .int .u8 0, .int .u8 0, .int .u8 0, .int .u8 0, .int .u8 0, .int .u8 0, .int .u8 0, .int .u8 0, .int .u8 0, .int .u8 0, .int .u8 0, .int .u8 0, .int .u8 0, .int .u8 0, .int .u8 0, .int .u8 0, .int .u8 0, .int .u8 0, .int .u8 0, .int .u8 0, .int .u8 0, .int .u8 0, .int .u8 0, .int .u8 0, .int .u8 0, .int .u8 0, .int .u8 0, .int .u8 0, .int .u8 0, .int .u8 0, .int .u8 0, .int .u8 0, .int .u8 0, .int .u8 0, .int .u8 0, .int .u8 0, .int .u8 0, .int .u8 0, .int .u8 0, .int .u8 0, .int .u8 0, .int .u8 0, .int .u8 0, .int .u8 0, .int .u8 0, .int .u8 0, .int .u8 0, .int .u8 0, .int .u8 0, .int .u8 0, .int .u8 0, .int .u8 0, .int .u8 0, .int .u8 0, .int .u8 0, .int .u8 0, .int .u8 0, .int .u8 0, .int .u8 0, .int .u8 0, .int .u8 0, .int .u8 0, .int .u8 0] 74) = z := ⟨_, rfl⟩
    have HT5 := hide (show x5.there gq 0 64 from by rw [← hx5, ← hgq]; exact blk_there (Blk.new y2 _ _) 64 (Nat.le_refl _))
    obtain ⟨x4, hx4⟩ : ∃ z, x5.setCells gq 0 (dC x ++ dC y) = z := ⟨_, rfl⟩
    obtain ⟨_, r2, r3⟩ := gr64 x5 gq (dC x) (dC y) (dC_len x hx) (dC_len y hy) (unhide HT5)
    rw [hx4] at r2 r3
    have hB4 : Below (h + 2) x1 x4 := by rw [← hx4]; exact below_setCells (by omega) _ _ (by rw [← hx5]; exact (unhide HB2).alloc (by omega) _)
    have HRX := hide r2
    have HRY := hide r3
    have HR1 := hide (unhide HRO x4 hB4).1
    have HR2 := hide (unhide HRO x4 hB4).2
    have HW4 := hide (show Below h w x4 from (unhide HB0).trans (hB4.mono (by omega)))
    have HQ1' := hide (fun W => unhide HEO x hx W)
    have HQ2' := hide (fun W => unhide HER y hy W)
    obtain ⟨b1, hb1⟩ : ∃ z, decide (x = o) = z := ⟨_, rfl⟩
    obtain ⟨b2, hb2'⟩ : ∃ z, decide (y = r) = z := ⟨_, rfl⟩
    rw [hb1] at HQ1'
    rw [hb2'] at HQ2'
    have HLx := hide (dC_len x hx)
    have HLy := hide (dC_len y hy)
    have HLq := hide (show (dC x ++ dC y).length = 64 from by rw [List.length_append, dC_len x hx, dC_len y hy])
    have HOq := hide (one64 x y)
    have HFI := hide (show (bf && (decide (x = o) && decide (y = r))) = (bf && (b1 && b2)) from by rw [hb1, hb2'])
    clear r2 r3 hB4 hb2 hc HRES HEO HER hb1 hb2' HRB
    generalize dC x = cx at *
    generalize dC y = cy at *
    have HQ1 := hide (fun W => unhide HQ1' W)
    have HQ2 := hide (fun W => unhide HQ2' W)
    clear HQ1' HQ2'
    cases bf with
    | false =>
      go_wp2_with (first | refine wpList_load_midG (by rfl) 46 (.tmp 44) rfl gq 0 rfl _ _ (unhide HRX) Tryd.underlying46 rfl (by rw [szD, unhide HLx]) ?_ | refine wpList_load_midG (by rfl) 46 (.tmp 5) rfl h 0 rfl _ _ (unhide HR1) Tryd.underlying46 rfl (by rw [szD, unhide HLo]) ?_ | refine wpList_load_midG (by rfl) 46 (.tmp 50) rfl gq 32 rfl _ _ (unhide HRY) Tryd.underlying46 rfl (by rw [szD, unhide HLy]) ?_ | refine wpList_load_midG (by rfl) 46 (.tmp 7) rfl (h + 1) 0 rfl _ _ (unhide HR2) Tryd.underlying46 rfl (by rw [szD, unhide HLr]) ?_ | refine wpList_eqDG (by rfl) (.tmp 45) (.tmp 46) rfl _ _ rfl rfl (unhide HQ1) ?_ | refine wpList_eqDG (by rfl) (.tmp 51) (.tmp 52) rfl _ _ rfl rfl (unhide HQ2) ?_ | refine wpList_store_mid rfl 74 (.tmp 12) (.tmp 40) rfl gq 0 (cx ++ cy).toArray rfl rfl (by simpa [unhide HLq] using unhide HT5) (by rw [szG]; simp [unhide HLq]) (unhide HOq) ?_)
      go_ret
      exact ⟨by rw [unhide HFI]; rfl, unhide HW4⟩
    | true =>
      cases b1 with
      | false =>
        go_wp2_with (first | refine wpList_load_midG (by rfl) 46 (.tmp 44) rfl gq 0 rfl _ _ (unhide HRX) Tryd.underlying46 rfl (by rw [szD, unhide HLx]) ?_ | refine wpList_load_midG (by rfl) 46 (.tmp 5) rfl h 0 rfl _ _ (unhide HR1) Tryd.underlying46 rfl (by rw [szD, unhide HLo]) ?_ | refine wpList_load_midG (by rfl) 46 (.tmp 50) rfl gq 32 rfl _ _ (unhide HRY) Tryd.underlying46 rfl (by rw [szD, unhide HLy]) ?_ | refine wpList_load_midG (by rfl) 46 (.tmp 7) rfl (h + 1) 0 rfl _ _ (unhide HR2) Tryd.underlying46 rfl (by rw [szD, unhide HLr]) ?_ | refine wpList_eqDG (by rfl) (.tmp 45) (.tmp 46) rfl _ _ rfl rfl (unhide HQ1) ?_ | refine wpList_eqDG (by rfl) (.tmp 51) (.tmp 52) rfl _ _ rfl rfl (unhide HQ2) ?_ | refine wpList_store_mid rfl 74 (.tmp 12) (.tmp 40) rfl gq 0 (cx ++ cy).toArray rfl rfl (by simpa [unhide HLq] using unhide HT5) (by rw [szG]; simp [unhide HLq]) (unhide HOq) ?_)
        go_ret
        exact ⟨by rw [unhide HFI]; rfl, unhide HW4⟩
      | true =>
        go_wp2_with (first | refine wpList_load_midG (by rfl) 46 (.tmp 44) rfl gq 0 rfl _ _ (unhide HRX) Tryd.underlying46 rfl (by rw [szD, unhide HLx]) ?_ | refine wpList_load_midG (by rfl) 46 (.tmp 5) rfl h 0 rfl _ _ (unhide HR1) Tryd.underlying46 rfl (by rw [szD, unhide HLo]) ?_ | refine wpList_load_midG (by rfl) 46 (.tmp 50) rfl gq 32 rfl _ _ (unhide HRY) Tryd.underlying46 rfl (by rw [szD, unhide HLy]) ?_ | refine wpList_load_midG (by rfl) 46 (.tmp 7) rfl (h + 1) 0 rfl _ _ (unhide HR2) Tryd.underlying46 rfl (by rw [szD, unhide HLr]) ?_ | refine wpList_eqDG (by rfl) (.tmp 45) (.tmp 46) rfl _ _ rfl rfl (unhide HQ1) ?_ | refine wpList_eqDG (by rfl) (.tmp 51) (.tmp 52) rfl _ _ rfl rfl (unhide HQ2) ?_ | refine wpList_store_mid rfl 74 (.tmp 12) (.tmp 40) rfl gq 0 (cx ++ cy).toArray rfl rfl (by simpa [unhide HLq] using unhide HT5) (by rw [szG]; simp [unhide HLq]) (unhide HOq) ?_)
        go_ret
        exact ⟨by rw [unhide HFI]; rfl, unhide HW4⟩
end Go.Proofs.YtilhilglokblpaaDoor
