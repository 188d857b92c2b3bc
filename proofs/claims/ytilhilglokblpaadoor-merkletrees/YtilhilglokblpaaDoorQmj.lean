import Derived.Test.YtilhilglokblpaaDoorQmh
namespace Go.Proofs.YtilhilglokblpaaDoor
open Go.RowKit
set_option maxRecDepth 100000
theorem szG : (Tryd.prog.info? 74).map (·.size) = some 64 := by kernel_rfl
theorem built_gr (l m : List Value) (hl : l.length = 32) (hm : m.length = 32) : Tryd.prog.built 74 [(0, .agg l.toArray), (1, .agg m.toArray)] = some (l ++ m).toArray := by
  match l, hl, m, hm with
  | [a0, a1, a2, a3, a4, a5, a6, a7, a8, a9, a10, a11, a12, a13, a14, a15, a16, a17, a18, a19, a20, a21, a22, a23, a24, a25, a26, a27, a28, a29, a30, a31], _, [b0, b1, b2, b3, b4, b5, b6, b7, b8, b9, b10, b11, b12, b13, b14, b15, b16, b17, b18, b19, b20, b21, b22, b23, b24, b25, b26, b27, b28, b29, b30, b31], _ =>
    show Program.built _ _ _ = _
    kernel_rfl
theorem yieldsIf_built2 {ops : Array Oper} {S : World → Prop} {op : Oper} {a : Act} (hw : Region.wanted op (yielded ops a.tmps) = true) (t : TypeId) (x y : Operand) (ho : op.op = .build t #[(0, x), (1, y)]) (cells : Array Value) (vx vy : Value) (hx : a.eval x = vx) (hy : a.eval y = vy)
    (hb : Tryd.prog.built t [(0, vx), (1, vy)] = some cells) : YieldsIf Tryd.prog ops S op (.agg cells) a :=
  .inl ⟨hw, fun w _ => by
    have e : ((#[(0, x), (1, y)] : Array (Nat × Operand)).map fun (i, x) => (i, a.eval x)) = #[(0, vx), (1, vy)] := by simp [hx, hy]
    unfold execOp
    simp only [ho, e, Sem.run_bind, run_build w t #[(0, vx), (1, vy)] cells hb, Result.andThen_ok]
    rfl⟩
theorem wpList_built0 {ops : Array Oper} {rest : List Oper} {op : Oper} {a : Act} {w : World} {Q : Exit → Act → World → Prop} (hg : op.guard = none) (t : TypeId) (ho : op.op = .build t #[]) (cells : Array Value)
    (hb : Tryd.prog.built t [] = some cells) (h : wpList Tryd.prog ops Q rest (a.put op.dst (.agg cells)) w) : wpList Tryd.prog ops Q (op :: rest) a w :=
  wpList_plain hg fun _ hK => by
    exact wp_build t _ ho (by simp [hb]) (by simp only [List.map_toArray, List.map_nil, hb, Option.getD_some]; exact hK _ _ h)
theorem built_g0 : Tryd.prog.built 74 [] = some (dC zB ++ dC zB).toArray := by
  rw [zB_cells]
  kernel_rfl
/-- two digests in a block of 64 cells -/
theorem gr64 (y : World) (g : Nat) (l m : List Value) (hl : l.length = 32) (hm : m.length = 32) (A : y.there g 0 64) : (loadVar 74 ⟨g, 0, none⟩).run Tryd.prog (y.setCells g 0 (l ++ m)) = .ok (.agg (l ++ m).toArray) (y.setCells g 0 (l ++ m)) ∧ (y.setCells g 0 (l ++ m)).rangeAt g 0 l ∧ (y.setCells g 0 (l ++ m)).rangeAt g 32 m := by
  have hr := World.rangeAt_setCells_same y g 0 (l ++ m) (by rw [List.length_append, hl, hm]; exact A)
  refine ⟨run_loadVar_mid (P := Tryd.prog) _ g 0 74 (l ++ m) _ hr Tryd.underlying74 rfl (by rw [szG, List.length_append, hl, hm]), fun j v hv => ?_, fun j v hv => ?_⟩
  · have hj := (List.getElem?_eq_some_iff.1 hv).1
    exact hr j v (by rw [List.getElem?_append_left hj]; exact hv)
  · have := hr (32 + j) v (by rw [List.getElem?_append_right (by omega), hl, Nat.add_sub_cancel_left]; exact hv)
    rw [Nat.zero_add] at this
    exact this
theorem one64 (x y : ByteArray) : (dC x ++ dC y).toArray.all (·.oneCell') = true := all_oneCell_toArray (fun v hv => by
  rcases List.mem_append.1 hv with h | h
  · exact dC_one x v h
  · exact dC_one y v h)
/-- what rootsBy answers -/
def GrQ (w : World) (m n : Nat) (k : Bool) (o : ByteArray) (P : List ByteArray) (e : Ending) (w' : World) : Prop := Below w.heap.size w w' ∧ ∃ x y b, x.size = 32 ∧ y.size = 32 ∧ e = .returned (.tuple #[.agg (dC x ++ dC y).toArray, .bool b]) ∧ ((b = true ∧ cm m n k o P = some (x, y)) ∨ (b = false ∧ cm m n k o P = none))
set_option maxHeartbeats 8000000 in
theorem rootsBy_any (o : ByteArray) (ho : o.size = 32) : ∀ (n m : Nat) (kn : Bool) (P : List ByteArray) (q : Nat), P.length = q → ∀ (w : World) (B c : Nat) (p : Option Addr), 1 ≤ m → m ≤ n → n ≤ 65536 → SB w B p P → B ≤ w.heap.size → KTab w → q ≤ c → c ≤ 9223372036854775807 → Calls Tryd.prog 42 #[.agg (dC o).toArray, .int .i64 (m : Int), .int .i64 (n : Int), .slice p q c, .bool kn] w (GrQ w m n kn o P) := by
  intro n
  induction n using Nat.strongRecOn with
  | _ n ih =>
  intro m kn P q hq w B c p hm1 hmn hn hS hB hK hqc hc9
  obtain ⟨h, hh⟩ : ∃ h, w.heap.size = h := ⟨_, rfl⟩
  obtain ⟨x0, hx0⟩ : ∃ z, w.alloc (.cells (dC o).toArray 46) = z := ⟨_, rfl⟩
  obtain ⟨x1, hx1⟩ : ∃ z, x0.alloc (.cells #[.int .u8 0, .int .u8 0, .int .u8 0, .int .u8 0, .int .u8 0, .int .u8 0, .int .u8 0, .int .u8 0, .int .u8 0, .int .u8 0, .int .u8 0, .int .u8 0, .int .u8 0, .int .u8 0, .int .u8 0, .int .u8 0, .int .u8 0, .int .u8 0, .int .u8 0, .int .u8 0, .int .u8 0, .int .u8 0, .int .u8 0, .int .u8 0, .int .u8 0, .int .u8 0, .int .u8 0, .int .u8 0, .int .u8 0, .int .u8 0, .int .u8 0, .int .u8 0, .int .u8 0, .int .u8 0, .int .u8 0, .int .u8 0, .int .u8 0, .int .u8 0, .int .u8 0, .int .u8 0, .int .u8 0, .int .u8 0, .int .u8 0, .int .u8 0, .int .u8 0, .int .u8 0, .int .u8 0, .int .u8 0, .int .u8 0, .int .u8 0, .int .u8 0, .int .u8 0, .int .u8 0, .int .u8 0, .int .u8 0, .int .u8 0, .int .u8 0, .int .u8 0, .int .u8 0, .int .u8 0, .int .u8 0, .int .u8 0, .int .u8 0, .int .u8 0] 74) = z := ⟨_, rfl⟩
  have e0 : x0.heap.size = h + 1 := by rw [← hx0]; simp [hh]
  have HE1 := hide (show x1.heap.size = h + 2 from by rw [← hx1]; simp [e0])
  have HB0 := hide (show Below h w x1 from by rw [← hx1, ← hx0, ← hh]; exact ((Below.refl _ w).alloc (Nat.le_refl _) _).alloc (by simp) _)
  have HKB := hide (show ∀ W, Below (h + 2) x1 W → KTab W from fun W hW => (hK.below (unhide HB0) (by rw [← hh]; exact hK.1)).below hW (by have := hK.1; omega))
  have HRO := hide (show ∀ W, Below (h + 2) x1 W → W.rangeAt h 0 (dC o) from fun W hW => rangeAt_below (by
    have := (dC_new w o).alloc (by rw [← hx0] at e0; omega) (.cells #[.int .u8 0, .int .u8 0, .int .u8 0, .int .u8 0, .int .u8 0, .int .u8 0, .int .u8 0, .int .u8 0, .int .u8 0, .int .u8 0, .int .u8 0, .int .u8 0, .int .u8 0, .int .u8 0, .int .u8 0, .int .u8 0, .int .u8 0, .int .u8 0, .int .u8 0, .int .u8 0, .int .u8 0, .int .u8 0, .int .u8 0, .int .u8 0, .int .u8 0, .int .u8 0, .int .u8 0, .int .u8 0, .int .u8 0, .int .u8 0, .int .u8 0, .int .u8 0, .int .u8 0, .int .u8 0, .int .u8 0, .int .u8 0, .int .u8 0, .int .u8 0, .int .u8 0, .int .u8 0, .int .u8 0, .int .u8 0, .int .u8 0, .int .u8 0, .int .u8 0, .int .u8 0, .int .u8 0, .int .u8 0, .int .u8 0, .int .u8 0, .int .u8 0, .int .u8 0, .int .u8 0, .int .u8 0, .int .u8 0, .int .u8 0, .int .u8 0, .int .u8 0, .int .u8 0, .int .u8 0, .int .u8 0, .int .u8 0, .int .u8 0, .int .u8 0] 74)
    rw [hx0, hx1, hh] at this
    exact this.range) hW (by omega))
  have HT64 := hide (show ∀ W, Below (h + 2) x1 W → W.there (h + 1) 0 64 from fun W hW => blk_there ((show Blk x1 (h + 1) #[.int .u8 0, .int .u8 0, .int .u8 0, .int .u8 0, .int .u8 0, .int .u8 0, .int .u8 0, .int .u8 0, .int .u8 0, .int .u8 0, .int .u8 0, .int .u8 0, .int .u8 0, .int .u8 0, .int .u8 0, .int .u8 0, .int .u8 0, .int .u8 0, .int .u8 0, .int .u8 0, .int .u8 0, .int .u8 0, .int .u8 0, .int .u8 0, .int .u8 0, .int .u8 0, .int .u8 0, .int .u8 0, .int .u8 0, .int .u8 0, .int .u8 0, .int .u8 0, .int .u8 0, .int .u8 0, .int .u8 0, .int .u8 0, .int .u8 0, .int .u8 0, .int .u8 0, .int .u8 0, .int .u8 0, .int .u8 0, .int .u8 0, .int .u8 0, .int .u8 0, .int .u8 0, .int .u8 0, .int .u8 0, .int .u8 0, .int .u8 0, .int .u8 0, .int .u8 0, .int .u8 0, .int .u8 0, .int .u8 0, .int .u8 0, .int .u8 0, .int .u8 0, .int .u8 0, .int .u8 0, .int .u8 0, .int .u8 0, .int .u8 0, .int .u8 0] 74 from by rw [← hx1, ← e0]; exact Blk.new x0 _ _).below hW (by omega)) 64 (Nat.le_refl _))
  have HSB := hide (show ∀ W, Below (h + 2) x1 W → SB W B p P from fun W hW => (hS.below ((unhide HB0).mono (by omega))).below (hW.mono (by omega)))
  have HLo := hide (dC_len o ho)
  have HBx := hide (show Below (h + 2) x1 x1 from Below.refl _ _)
  have HFIN := hide (show ∀ x y : ByteArray, x.size = 32 → y.size = 32 → ∀ b z, Below (h + 2) x1 z → ((b = true ∧ cm m n kn o P = some (x, y)) ∨ (b = false ∧ cm m n kn o P = none)) → z.there (h + 1) 0 64 ∧ (loadVar 74 ⟨h + 1, 0, none⟩).run Tryd.prog (z.setCells (h + 1) 0 (dC x ++ dC y)) = .ok (.agg (dC x ++ dC y).toArray) (z.setCells (h + 1) 0 (dC x ++ dC y)) ∧ GrQ w m n kn o P (.returned (.tuple #[.agg (dC x ++ dC y).toArray, .bool b])) (z.setCells (h + 1) 0 (dC x ++ dC y)) from fun x y hx hy b z hz hc => ⟨unhide HT64 z hz, (gr64 z (h + 1) _ _ (dC_len x hx) (dC_len y hy) (unhide HT64 z hz)).1, ⟨by rw [hh]; exact below_setCells (by omega) _ _ ((unhide HB0).trans (hz.mono (by omega))), x, y, b, hx, hy, rfl, hc⟩⟩)
  by_cases hA : m = n ∧ kn = true
  · obtain ⟨rfl, rfl⟩ := hA
    obtain ⟨bz, hbz⟩ : ∃ b, ((q : Int) == 0) = b := ⟨_, rfl⟩
    obtain ⟨q1, q2, q3⟩ := unhide HFIN o o ho ho bz x1 (unhide HBx) (by
      by_cases hP : P = []
      · subst hP
        obtain rfl : q = 0 := by simpa using hq.symm
        exact .inl ⟨by rw [← hbz]; rfl, cm_known m o⟩
      · have : q ≠ 0 := by rw [← hq]; exact fun e => hP (List.eq_nil_of_length_eq_zero e)
        exact .inr ⟨by rw [← hbz]; simp; omega, cm_known_no m o P hP⟩)
    have HTH := hide q1
    have HLD := hide q2
    have HE := hide q3
    have HBU := hide (built_gr (dC o) (dC o) (dC_len o ho) (dC_len o ho))
    have HO9 := hide (one64 o o)
    have HL9 := hide (show (dC o ++ dC o).length = 64 from by rw [List.length_append, dC_len o ho])
    have HRO1 := hide (unhide HRO x1 (unhide HBx))
    have e4 : ((m : Int) == (m : Int)) = true := by simp
    clear q1 q2 q3 hS hK ih hq HFIN
    generalize dC o = co at *
    go_enter Tryd.func42, Tryd.ntmps42
    go_wp2_with (first | refine wpList_load_mid rfl 46 (.tmp 5) rfl h 0 rfl _ _ (unhide HRO1) Tryd.underlying46 rfl (by rw [szD, unhide HLo]) ?_ | refine wpList_built2 rfl 74 (.tmp 26) (.tmp 27) rfl _ _ _ rfl rfl (unhide HBU) ?_ | refine wpList_store_mid rfl 74 (.tmp 10) (.tmp 28) rfl (h + 1) 0 (co ++ co).toArray rfl rfl (by simpa [unhide HL9] using unhide HTH) (by rw [szG]; simp [unhide HL9]) (unhide HO9) ?_)
    exact bodyPost_ret (v := .tuple #[.agg (co ++ co).toArray, .bool bz]) (by rw [results_cell_tmp (fn := Tryd.f42) (p := 10) (u := 11) (ty := 74) rfl]; simp [asAddr, unhide HLD, Result.andThen]) rfl (unhide HE)
  have hAn : ¬ (kn = true ∧ m = n) := fun e => hA ⟨e.2, e.1⟩
  have hA2 : ∀ b, (if ((m : Int) == (n : Int)) = true then kn else false) = b → b = false := fun b hb => by
    by_cases e : m = n
    · rw [if_pos (by simp; omega)] at hb
      cases kn with
      | true => exact absurd ⟨e, rfl⟩ hA
      | false => exact hb.symm
    · rw [if_neg (by simp; omega)] at hb
      exact hb.symm
  clear hA2
  have HCU0 := hide (cutLast_any P q hq x1 B c p (unhide HSB x1 (unhide HBx)) (by rw [unhide HE1]; omega) hqc hc9)
  by_cases hno : ∀ Q b, P = Q ++ [b] → b.size ≠ 32
  · have hcm : cm m n kn o P = none := by
      by_cases hP : P = []
      · rw [hP]; exact cm_nil m n kn o hAn (fun _ => by omega)
      · obtain ⟨Q, b, e⟩ := list_last P hP
        rw [e]
        exact cm_bad m n kn o Q b hAn (fun _ => by omega) (hno Q b e)
    have HCU := hide ((unhide HCU0).mono (fun e z (hz : CuQ x1 p c P e z) => (show Below x1.heap.size x1 z ∧ ∃ (v : Value) (cb : List Value), cb.length = 32 ∧ (cb.toArray.all fun x => x.oneCell') = true ∧ e = .returned (.tuple #[v, .agg cb.toArray, .bool false]) from ⟨hz.1, by
      by_cases hP : P = []
      · exact ⟨_, _, dC_len _ zB_size, dC_all _, hz.2.1 hP⟩
      · obtain ⟨Q, b, e1⟩ := list_last P hP
        have := hz.2.2 Q b e1
        rw [decide_eq_false (hno Q b e1)] at this
        exact ⟨_, _, dC_len _ (rdB_size b), dC_all _, this⟩⟩)))
    have HFN := hide (fun z hz => unhide HFIN zB zB zB_size zB_size false z hz (.inr ⟨rfl, hcm⟩))
    have HBU := hide built_g0
    have HO9 := hide (one64 zB zB)
    have HL9 := hide (show (dC zB ++ dC zB).length = 64 from by rw [List.length_append, dC_len _ zB_size])
    clear hS hK ih hq hcm hno HCU0 HFIN
    generalize dC zB = cz at *
    generalize dC o = co at *
    by_cases hmn2 : m = n
    case' pos =>
      have e4 : ((m : Int) == (n : Int)) = true := by simp; omega
      obtain rfl : kn = false := by cases kn with | true => exact absurd ⟨hmn2, rfl⟩ hA | false => rfl
    case' neg => have e4 : ((m : Int) == (n : Int)) = false := by simp; omega
    all_goals (
      clear hA hAn
      go_enter Tryd.func42, Tryd.ntmps42
      go_wp2_with fail
      refine (unhide HCU).mono ?_
      rintro e y1 ⟨hb1, v, cb, hlb, hcb1, rfl⟩
      have HLb := hide hlb
      have HK1 := hide hcb1
      have hs1 : h + 2 ≤ y1.heap.size := by have := hb1.size; rw [unhide HE1] at this; exact this
      have HB1 := hide (show Below (h + 2) x1 y1 from hb1.mono (by rw [unhide HE1]; omega))
      clear hb1 hlb hcb1
      obtain ⟨gd, hgd⟩ : ∃ q, y1.heap.size = q := ⟨_, rfl⟩
      obtain ⟨x2, hx2⟩ : ∃ q, y1.alloc (.cells #[.int .u8 0, .int .u8 0, .int .u8 0, .int .u8 0, .int .u8 0, .int .u8 0, .int .u8 0, .int .u8 0, .int .u8 0, .int .u8 0, .int .u8 0, .int .u8 0, .int .u8 0, .int .u8 0, .int .u8 0, .int .u8 0, .int .u8 0, .int .u8 0, .int .u8 0, .int .u8 0, .int .u8 0, .int .u8 0, .int .u8 0, .int .u8 0, .int .u8 0, .int .u8 0, .int .u8 0, .int .u8 0, .int .u8 0, .int .u8 0, .int .u8 0, .int .u8 0] 46) = q := ⟨_, rfl⟩
      have HT2 := hide (show x2.there gd 0 32 from by rw [← hx2, ← hgd]; simpa using (zD_new y1).there)
      obtain ⟨x3, hx3⟩ : ∃ q, x2.setCells gd 0 cb = q := ⟨_, rfl⟩
      have hB3 : Below (h + 2) x1 x3 := by rw [← hx3]; exact below_setCells (by omega) _ _ (by rw [← hx2]; exact (unhide HB1).alloc (by omega) _)
      obtain ⟨q1, q2, q3⟩ := unhide HFN x3 hB3
      have HTH := hide q1
      have HLD := hide q2
      have HE := hide q3
      clear q1 q2 q3 hB3
      go_wp2_with (first | refine wpList_store_mid rfl 46 (.tmp 13) (.tmp 36) rfl gd 0 cb.toArray rfl rfl (by simpa [unhide HLb] using unhide HT2) (by rw [szD]; simp [unhide HLb]) (unhide HK1) ?_ | refine wpList_built0 rfl 74 rfl _ (unhide HBU) ?_ | refine wpList_store_mid rfl 74 (.tmp 10) (.tmp 40) rfl (h + 1) 0 (cz ++ cz).toArray rfl rfl (by simpa [unhide HL9] using unhide HTH) (by rw [szG]; simp [unhide HL9]) (unhide HO9) ?_)
      exact bodyPost_ret (v := .tuple #[.agg (cz ++ cz).toArray, .bool false]) (by rw [results_cell_tmp (fn := Tryd.f42) (p := 10) (u := 11) (ty := 74) rfl]; simp [asAddr, unhide HLD, Result.andThen]) rfl (unhide HE))
  obtain ⟨Q, b, rfl, hbs⟩ : ∃ Q b, P = Q ++ [b] ∧ b.size = 32 := Classical.byContradiction (fun hc => hno (fun Q b e hb => hc ⟨Q, b, e, hb⟩))
  obtain ⟨qn, hqn⟩ : ∃ n, Q.length = n := ⟨_, rfl⟩
  obtain rfl : q = qn + 1 := by rw [← hq, List.length_append, hqn]; rfl
  obtain ⟨g, o9, rfl, hgB, _⟩ := hS qn (by omega)
  have HCU := hide ((unhide HCU0).mono (fun e z (hz : CuQ x1 (some ⟨g, o9, none⟩) c (Q ++ [b]) e z) => (show Below x1.heap.size x1 z ∧ e = .returned (.tuple #[.slice (some ⟨g, o9, none⟩) qn c, .agg (dC b).toArray, .bool true]) from ⟨hz.1, by
    have := hz.2.2 Q b rfl
    rw [decide_eq_true hbs, hqn, rdB, if_pos hbs] at this
    exact this⟩)))
  have HSQ := hide (show ∀ W, Below (h + 2) x1 W → SB W B (some ⟨g, o9, none⟩) Q from fun W hW => by
    have := (unhide HSB W hW).take Q.length
    rw [List.take_left] at this
    exact this)
  have HLb := hide (dC_len b hbs)
  have HK1 := hide (dC_all b)
  clear hno HCU0 hq
  by_cases hmn2 : m = n
  · obtain rfl : kn = false := by cases kn with | true => exact absurd ⟨hmn2, rfl⟩ hA | false => rfl
    obtain ⟨bz, hbz⟩ : ∃ z, ((qn : Int) == 0) = z := ⟨_, rfl⟩
    have HFN := hide (fun z hz => unhide HFIN b b hbs hbs bz z hz (by
      subst hmn2
      by_cases hQ : Q = []
      · subst hQ
        obtain rfl : qn = 0 := by simpa using hqn.symm
        exact .inl ⟨by rw [← hbz]; rfl, cm_one m o b hbs⟩
      · have : qn ≠ 0 := by rw [← hqn]; exact fun e => hQ (List.eq_nil_of_length_eq_zero e)
        exact .inr ⟨by rw [← hbz]; simp; omega, cm_one_no m o b Q hbs hQ⟩))
    have HBU := hide (built_gr (dC b) (dC b) (dC_len b hbs) (dC_len b hbs))
    have HO9 := hide (one64 b b)
    have HL9 := hide (show (dC b ++ dC b).length = 64 from by rw [List.length_append, dC_len _ hbs])
    have e4 : ((m : Int) == (n : Int)) = true := by simp; omega
    clear hS hK ih HFIN hA hAn hmn2
    generalize dC b = cb at *
    generalize dC o = co at *
    go_enter Tryd.func42, Tryd.ntmps42
    go_wp2_with fail
    refine (unhide HCU).mono ?_
    rintro e y1 ⟨hb1, rfl⟩
    have hs1 : h + 2 ≤ y1.heap.size := by have := hb1.size; rw [unhide HE1] at this; exact this
    have HB1 := hide (show Below (h + 2) x1 y1 from hb1.mono (by rw [unhide HE1]; omega))
    clear hb1
    obtain ⟨gd, hgd⟩ : ∃ q, y1.heap.size = q := ⟨_, rfl⟩
    obtain ⟨x2, hx2⟩ : ∃ q, y1.alloc (.cells #[.int .u8 0, .int .u8 0, .int .u8 0, .int .u8 0, .int .u8 0, .int .u8 0, .int .u8 0, .int .u8 0, .int .u8 0, .int .u8 0, .int .u8 0, .int .u8 0, .int .u8 0, .int .u8 0, .int .u8 0, .int .u8 0, .int .u8 0, .int .u8 0, .int .u8 0, .int .u8 0, .int .u8 0, .int .u8 0, .int .u8 0, .int .u8 0, .int .u8 0, .int .u8 0, .int .u8 0, .int .u8 0, .int .u8 0, .int .u8 0, .int .u8 0, .int .u8 0] 46) = q := ⟨_, rfl⟩
    have HT2 := hide (show x2.there gd 0 32 from by rw [← hx2, ← hgd]; simpa using (zD_new y1).there)
    have hs2 : x2.heap.size = gd + 1 := by rw [← hx2]; simp [hgd]
    obtain ⟨x3, hx3⟩ : ∃ q, x2.setCells gd 0 cb = q := ⟨_, rfl⟩
    have HCD3 := hide (show x3.rangeAt gd 0 cb from by rw [← hx3]; exact World.rangeAt_setCells_same x2 gd 0 cb (by rw [unhide HLb]; exact unhide HT2))
    have HB3 := hide (show Below (h + 2) x1 x3 from by rw [← hx3]; exact below_setCells (by omega) _ _ (by rw [← hx2]; exact (unhide HB1).alloc (by omega) _))
    have HS3 := hide (show gd < x3.heap.size ∧ h + 2 ≤ gd from ⟨by have := (show Below gd x2 x3 from by rw [← hx3]; exact below_setCells (Nat.le_refl _) _ _ (Below.refl _ _)).size; omega, by omega⟩)
    clear hs2
    obtain ⟨q1, q2, q3⟩ := unhide HFN x3 (unhide HB3)
    have HTH := hide q1
    have HLD := hide q2
    have HE := hide q3
    clear q1 q2 q3
    go_wp2_with (first | refine wpList_store_mid rfl 46 (.tmp 13) (.tmp 36) rfl gd 0 cb.toArray rfl rfl (by simpa [unhide HLb] using unhide HT2) (by rw [szD]; simp [unhide HLb]) (unhide HK1) ?_ | refine wpList_load_mid rfl 46 (.tmp 13) rfl gd 0 rfl _ _ (unhide HCD3) Tryd.underlying46 rfl (by rw [szD, unhide HLb]) ?_ | refine wpList_built2 rfl 74 (.tmp 44) (.tmp 45) rfl _ _ _ rfl rfl (unhide HBU) ?_ | refine wpList_store_mid rfl 74 (.tmp 10) (.tmp 46) rfl (h + 1) 0 (cb ++ cb).toArray rfl rfl (by simpa [unhide HL9] using unhide HTH) (by rw [szG]; simp [unhide HL9]) (unhide HO9) ?_)
    exact bodyPost_ret (v := .tuple #[.agg (cb ++ cb).toArray, .bool bz]) (by rw [results_cell_tmp (fn := Tryd.f42) (p := 10) (u := 11) (ty := 74) rfl]; simp [asAddr, unhide HLD, Result.andThen]) rfl (unhide HE)
  have e4 : ((m : Int) == (n : Int)) = false := by simp; omega
  have k1 := kk_pos n
  have k2 := kk_lt n (by omega)
  have HFP := hide (fun W => firstPart_any n (by omega) hn W)
  by_cases hik : m ≤ kk n
  · have e5 : (m : Int) ≤ (kk n : Int) := by omega
    have hcm := cm_left m n kn o Q b (by omega) hmn2 hbs hik
    have HRE := hide (show ∀ W, Below (h + 2) x1 W → Calls Tryd.prog 42 #[.agg (dC o).toArray, .int .i64 (m : Int), .int .i64 ((kk n : Nat) : Int), .slice (some ⟨g, o9, none⟩) qn c, .bool kn] W (GrQ W m (kk n) kn o Q) from fun W hW => ih (kk n) k2 m kn Q qn hqn W B c _ hm1 hik (by omega) (unhide HSQ W hW) (by have := hW.size; have := unhide HE1; omega) (unhide HKB W hW) (by omega) hc9)
    have HOV0 := hide (fun (x y : ByteArray) (hx : x.size = 32) (hy : y.size = 32) (W : World) (hW : Below (h + 2) x1 W) => (show Calls Tryd.prog 24 #[.agg (dC y).toArray, .agg (dC b).toArray] W fun e w' => e = .returned (.agg (dC (ndB y b)).toArray) ∧ Below W.heap.size W w' from by have _ := hx; exact over_any y b hy hbs W (unhide HKB W hW)))
    have HFN := hide (show ∀ x y : ByteArray, x.size = 32 → y.size = 32 → ∀ bf z, Below (h + 2) x1 z → ((bf = true ∧ cm (m) (kk n) kn o Q = some (x, y)) ∨ (bf = false ∧ cm (m) (kk n) kn o Q = none)) → _ from fun x y hx hy bf z hz hc => unhide HFIN (x) (ndB y b) (hx) (ndB_size _ _) bf z hz (by
      rw [hcm]
      rcases hc with ⟨c1, c2⟩ | ⟨c1, c2⟩
      · exact .inl ⟨c1, by rw [c2]; rfl⟩
      · exact .inr ⟨c1, by rw [c2]; rfl⟩))
    clear hS hK ih HFIN hA hAn hmn2 hcm
    generalize kk n = k at *
    generalize hcbb : dC b = cb at *
    generalize dC o = co at *
    go_enter Tryd.func42, Tryd.ntmps42
    go_wp2_with fail
    refine (unhide HCU).mono ?_
    rintro e y1 ⟨hb1, rfl⟩
    have hs1 : h + 2 ≤ y1.heap.size := by have := hb1.size; rw [unhide HE1] at this; exact this
    have HB1 := hide (show Below (h + 2) x1 y1 from hb1.mono (by rw [unhide HE1]; omega))
    clear hb1
    obtain ⟨gd, hgd⟩ : ∃ q, y1.heap.size = q := ⟨_, rfl⟩
    obtain ⟨x2, hx2⟩ : ∃ q, y1.alloc (.cells #[.int .u8 0, .int .u8 0, .int .u8 0, .int .u8 0, .int .u8 0, .int .u8 0, .int .u8 0, .int .u8 0, .int .u8 0, .int .u8 0, .int .u8 0, .int .u8 0, .int .u8 0, .int .u8 0, .int .u8 0, .int .u8 0, .int .u8 0, .int .u8 0, .int .u8 0, .int .u8 0, .int .u8 0, .int .u8 0, .int .u8 0, .int .u8 0, .int .u8 0, .int .u8 0, .int .u8 0, .int .u8 0, .int .u8 0, .int .u8 0, .int .u8 0, .int .u8 0] 46) = q := ⟨_, rfl⟩
    have HT2 := hide (show x2.there gd 0 32 from by rw [← hx2, ← hgd]; simpa using (zD_new y1).there)
    have hs2 : x2.heap.size = gd + 1 := by rw [← hx2]; simp [hgd]
    obtain ⟨x3, hx3⟩ : ∃ q, x2.setCells gd 0 cb = q := ⟨_, rfl⟩
    have HCD3 := hide (show x3.rangeAt gd 0 cb from by rw [← hx3]; exact World.rangeAt_setCells_same x2 gd 0 cb (by rw [unhide HLb]; exact unhide HT2))
    have HB3 := hide (show Below (h + 2) x1 x3 from by rw [← hx3]; exact below_setCells (by omega) _ _ (by rw [← hx2]; exact (unhide HB1).alloc (by omega) _))
    have HS3 := hide (show gd < x3.heap.size ∧ h + 2 ≤ gd from ⟨by have := (show Below gd x2 x3 from by rw [← hx3]; exact below_setCells (Nat.le_refl _) _ _ (Below.refl _ _)).size; omega, by omega⟩)
    clear hs2
    go_wp2_with (first | refine wpList_store_mid rfl 46 (.tmp 13) (.tmp 36) rfl gd 0 cb.toArray rfl rfl (by simpa [unhide HLb] using unhide HT2) (by rw [szD]; simp [unhide HLb]) (unhide HK1) ?_ | fail)
    refine (unhide HFP _).mono ?_
    rintro e y9 ⟨rfl, hy9⟩
    subst y9
    go_wp2_with (first | refine wpList_load_mid rfl 46 (.tmp 5) rfl h 0 rfl _ _ (unhide HRO x3 (unhide HB3)) Tryd.underlying46 rfl (by rw [szD, unhide HLo]) ?_ | fail)
    refine (unhide HRE _ (unhide HB3)).mono ?_
    rintro e y2 ⟨hb2, x, y, bf, hx, hy, rfl, hc⟩
    have HB2 := hide (show Below (h + 2) x1 y2 from (unhide HB3).trans (hb2.mono (by have := unhide HS3; omega)))
    have HRB2 := hide (rangeAt_below (unhide HCD3) hb2 (unhide HS3).1)
    obtain ⟨gq, hgq⟩ : ∃ z, y2.heap.size = z := ⟨_, rfl⟩
    have HG2 := hide (show gd < gq ∧ h + 2 ≤ gd from by have := hb2.size; have := unhide HS3; omega)
    obtain ⟨x5, hx5⟩ : ∃ z, y2.alloc (.cells #[.int .u8 0, .int .u8 0, .int .u8 0, .int .u8 0, .int .u8 0, .int .u8 0, .int .u8 0, .int .u8 0, .int .u8 0, .int .u8 0, .int .u8 0, .int .u8 0, .int .u8 0, .int .u8 0, .int .u8 0, .int .u8 0, .int .u8 0, .int .u8 0, .int .u8 0, .int .u8 0, .int .u8 0, .int .u8 0, .int .u8 0, .int .u8 0, .int .u8 0, .int .u8 0, .int .u8 0, .int .u8 0, .int .u8 0, .int .u8 0, .int .u8 0, .int .u8 0, .int .u8 0, .int .u8 0, .int .u8 0, .int .u8 0, .int .u8 0, .int .u8 0, .int .u8 0, .int .u8 0, .int .u8 0, .int .u8 0, .int .u8 0, .int .u8 0, .int .u8 0, .int .u8 0, .int .u8 0, .int .u8 0, .int .u8 0, .int .u8 0, .int .u8 0, .int .u8 0, .int .u8 0, .int .u8 0, .int .u8 0, .int .u8 0, .int .u8 0, .int .u8 0, .int .u8 0, .int .u8 0, .int .u8 0, .int .u8 0, .int .u8 0, .int .u8 0] 74) = z := ⟨_, rfl⟩
    have HT5 := hide (show x5.there gq 0 64 from by rw [← hx5, ← hgq]; exact blk_there (Blk.new y2 _ _) 64 (Nat.le_refl _))
    have hs5 : x5.heap.size = gq + 1 := by rw [← hx5]; simp [hgq]
    obtain ⟨x4, hx4⟩ : ∃ z, x5.setCells gq 0 (dC x ++ dC y) = z := ⟨_, rfl⟩
    obtain ⟨_, r2, r3⟩ := gr64 x5 gq (dC x) (dC y) (dC_len x hx) (dC_len y hy) (unhide HT5)
    rw [hx4] at r2 r3
    have hB4 : Below (h + 2) x1 x4 := by rw [← hx4]; exact below_setCells (by have := unhide HG2; omega) _ _ (by rw [← hx5]; exact (unhide HB2).alloc (by have := unhide HG2; omega) _)
    obtain ⟨b4, hb4⟩ : ∃ z, x4.heap.size = z := ⟨_, rfl⟩
    have HG4 := hide (show gq < b4 from by have := (show Below gq x5 x4 from by rw [← hx4]; exact below_setCells (Nat.le_refl _) _ _ (Below.refl _ _)).size; omega)
    have r4 : x4.rangeAt gd 0 cb := rangeAt_below (unhide HRB2) (show Below gq y2 x4 from by rw [← hx4, ← hx5]; exact below_setCells (Nat.le_refl _) _ _ ((Below.refl _ _).alloc (by omega) _)) (unhide HG2).1
    have HS0 := hide (show ∀ W, Below b4 x4 W → W.rangeAt gq 0 (dC x) ∧ W.rangeAt gq 32 (dC y) ∧ W.rangeAt gd 0 cb from fun W hW => ⟨rangeAt_below r2 hW (unhide HG4), rangeAt_below r3 hW (unhide HG4), rangeAt_below r4 hW (by have := unhide HG4; have := unhide HG2; omega)⟩)
    have HB4d := hide (show Below b4 x4 x4.drew from (Below.refl _ _).drew)
    have HW4 := hide (show ∀ W, Below b4 x4 W → Below (h + 2) x1 W from fun W hW => hB4.trans (hW.mono (by have := unhide HG4; have := unhide HG2; omega)))
    have HOV := hide (fun (W : World) (hW : Below b4 x4 W) => unhide HOV0 x y hx hy W (unhide HW4 W hW))
    have HZ := hide (fun (W : World) (hW : Below b4 x4 W) => unhide HFN x y hx hy bf W (unhide HW4 W hW) hc)
    have HS9 := hide (show ∀ W, Below b4 x4 W → ∀ l, (W.setCells (h + 1) 0 l).rangeAt gq 0 (dC x) ∧ (W.setCells (h + 1) 0 l).rangeAt gq 32 (dC y) ∧ (W.setCells (h + 1) 0 l).rangeAt gd 0 cb from fun W hW l => ⟨World.rangeAt_setCells_apart (unhide HS0 W hW).1 _ _ _ (.inl (by have := unhide HG2; omega)), World.rangeAt_setCells_apart (unhide HS0 W hW).2.1 _ _ _ (.inl (by have := unhide HG2; omega)), World.rangeAt_setCells_apart (unhide HS0 W hW).2.2 _ _ _ (.inl (by have := unhide HG2; omega))⟩)
    have HBU := hide (built_gr (dC (x)) (dC (ndB y b)) (dC_len _ (hx)) (dC_len _ (ndB_size _ _)))
    have HO9 := hide (one64 (x) (ndB y b))
    have HL9 := hide (show (dC (x) ++ dC (ndB y b)).length = 64 from by rw [List.length_append, dC_len _ (hx), dC_len _ (ndB_size _ _)])
    have HLx := hide (dC_len x hx)
    have HLy := hide (dC_len y hy)
    have HLq := hide (show (dC x ++ dC y).length = 64 from by rw [List.length_append, dC_len x hx, dC_len y hy])
    have HOq := hide (one64 x y)
    clear hb2 hs5 r2 r3 r4 hB4 HOV0 HFN hc HRE HRB2 HB2 HB3 HCD3
    generalize dC (ndB y b) = cy9 at *
    generalize hcx9 : dC x = cx at *
    generalize dC y = cy at *
    go_wp2_with (refine wpList_store_mid rfl 74 (.tmp 16) (.tmp 62) rfl gq 0 (cx ++ cy).toArray rfl rfl (by simpa [unhide HLq] using unhide HT5) (by rw [szG]; simp [unhide HLq]) (unhide HOq) ?_)
    refine wp_region_held_drew (S := fun W => W.rangeAt gq 0 cx ∧ W.rangeAt gq 32 cy ∧ W.rangeAt gd 0 cb) (by kernel_rfl) (unhide HS0 _ (Below.refl _ _).drew) ?_
    intro hS
    refine wpAnyH_takeD 0 (some 64) (.pointer (some ⟨gq, 0, none⟩)) rfl rfl (by kernel_rfl) (by kernel_rfl) (by kernel_rfl) (fun _ _ _ h => h) (Or.inl ⟨by rfl, fun w hSw => by clear hSw; go_simp⟩) hS ?_
    simp only [Act.put, List.setIfInBounds_toArray, List.set_cons_zero, List.set_cons_succ]
    refine wpAnyH_takeD 1 (some 65) (.agg cx.toArray) rfl rfl (by kernel_rfl) (by kernel_rfl) (by kernel_rfl) (fun _ _ _ h => h) (yieldsIf_load_mid (by rfl) 46 (.tmp 64) rfl gq 0 rfl _ _ (fun w hSw => hSw.1) Tryd.underlying46 rfl (by rw [szD, unhide HLx])) hS ?_
    simp only [Act.put, List.setIfInBounds_toArray, List.set_cons_zero, List.set_cons_succ]
    refine wpAnyH_takeD 2 (some 66) (.pointer (some ⟨gq, 32, none⟩)) rfl rfl (by kernel_rfl) (by kernel_rfl) (by kernel_rfl) (fun _ _ _ h => h) (Or.inl ⟨by rfl, fun w hSw => by clear hSw; go_simp⟩) hS ?_
    simp only [Act.put, List.setIfInBounds_toArray, List.set_cons_zero, List.set_cons_succ]
    refine wpAnyH_takeD 3 (some 67) (.agg cy.toArray) rfl rfl (by kernel_rfl) (by kernel_rfl) (by kernel_rfl) (fun _ _ _ h => h) (yieldsIf_load_mid (by rfl) 46 (.tmp 66) rfl gq 32 rfl _ _ (fun w hSw => hSw.2.1) Tryd.underlying46 rfl (by rw [szD, unhide HLy])) hS ?_
    simp only [Act.put, List.setIfInBounds_toArray, List.set_cons_zero, List.set_cons_succ]
    refine wpAnyH_takeD 4 (some 68) (.agg cb.toArray) rfl rfl (by kernel_rfl) (by kernel_rfl) (by kernel_rfl) (fun _ _ _ h => h) (yieldsIf_load_mid (by rfl) 46 (.tmp 13) rfl gd 0 rfl _ _ (fun w hSw => hSw.2.2) Tryd.underlying46 rfl (by rw [szD, unhide HLb])) hS ?_
    simp only [Act.put, List.setIfInBounds_toArray, List.set_cons_zero, List.set_cons_succ]
    refine wpAnyH_takeD 7 (some 71) (.bool bf) rfl rfl (by kernel_rfl) (by kernel_rfl) (by kernel_rfl) (fun _ _ _ h => h) (Or.inl ⟨by rfl, fun w hSw => by clear hSw; go_simp⟩) hS ?_
    simp only [Act.put, List.setIfInBounds_toArray, List.set_cons_zero, List.set_cons_succ]
    refine wpAnyH_ready (rs := [5]) (by kernel_rfl) (by simp) ?_
    refine AllReadyH.cons rfl (fun K hK => ?_) AllReadyH.nil
    simp only [List.getElem_toArray, List.getElem_cons_succ, List.getElem_cons_zero]
    go_simp
    refine (unhide HOV _ (unhide HB4d)).mono ?_
    rintro e y5 ⟨rfl, hb⟩
    have HB5 := hide (show Below b4 x4 y5 from (unhide HB4d).trans (hb.mono (by have := (unhide HB4d).size; omega)))
    clear hb
    obtain ⟨q1, q2, q3⟩ := unhide HZ y5 (unhide HB5)
    have HTH := hide q1
    have HLD := hide q2
    have HBE := hide q3
    clear q1 q2 q3
    refine hK.out _ _ (unhide HS0 _ (unhide HB5)) (fun hS => ?_)
    clear hK K
    refine wpAnyH_takeD 6 (some 70) (.agg (cx ++ cy9).toArray) rfl rfl (by kernel_rfl) (by kernel_rfl) (by kernel_rfl) (fun _ _ _ h => h) (yieldsIf_built2 rfl 74 (.tmp 65) (.tmp 69) rfl _ _ _ rfl rfl (unhide HBU)) hS ?_
    simp only [Act.put, List.setIfInBounds_toArray, List.set_cons_zero, List.set_cons_succ]
    refine wpAnyH_ready (rs := [8]) (by kernel_rfl) (by simp) ?_
    refine AllReadyH.cons rfl (fun K hK => ?_) AllReadyH.nil
    rw [if_pos (by rfl)]
    refine wp_store_mid 74 (.tmp 10) (.tmp 70) rfl (h + 1) 0 (cx ++ cy9).toArray rfl rfl (by simpa [unhide HL9] using unhide HTH) (by rw [szG]; simp [unhide HL9]) (unhide HO9) ?_
    simp only [List.getElem_toArray, List.getElem_cons_succ, List.getElem_cons_zero, Act.put]
    refine hK.out _ _ (unhide HS9 _ (unhide HB5) _) (fun hS => ?_)
    clear hK K
    refine wpAnyH_takeD 9 (some 11) (.bool bf) rfl rfl (by kernel_rfl) (by kernel_rfl) (by kernel_rfl) (fun _ _ _ h => h) (Or.inl ⟨by rfl, fun w hSw => by clear hSw; go_simp⟩) hS ?_
    simp only [Act.put, List.setIfInBounds_toArray, List.set_cons_zero, List.set_cons_succ]
    refine wpAnyH_done (by kernel_rfl) ?_ _
    go_wp2_with fail
    exact bodyPost_ret (v := .tuple #[.agg (cx ++ cy9).toArray, .bool bf]) (by rw [results_cell_tmp (fn := Tryd.f42) (p := 10) (u := 11) (ty := 74) rfl]; simp [asAddr, unhide HLD, Result.andThen]) rfl (unhide HBE)
  · have e5 : ¬ (m : Int) ≤ (kk n : Int) := by omega
    have hcm := cm_right m n kn o Q b (by omega) hmn2 hbs hik
    have HRE := hide (show ∀ W, Below (h + 2) x1 W → Calls Tryd.prog 42 #[.agg (dC o).toArray, .int .i64 ((m - kk n : Nat) : Int), .int .i64 ((n - kk n : Nat) : Int), .slice (some ⟨g, o9, none⟩) qn c, .bool false] W (GrQ W (m - kk n) (n - kk n) false o Q) from fun W hW => ih (n - kk n) (by omega) (m - kk n) false Q qn hqn W B c _ (by omega) (by omega) (by omega) (unhide HSQ W hW) (by have := hW.size; have := unhide HE1; omega) (unhide HKB W hW) (by omega) hc9)
    have hd1 : ((n : Int) - (kk n : Int)) = ((n - kk n : Nat) : Int) := by omega
    have hd2 : IntKind.i64.wrap ((n - kk n : Nat) : Int) = ((n - kk n : Nat) : Int) := wrapI_eq _ (by omega) (by omega)
    have hd3 : ((m : Int) - (kk n : Int)) = ((m - kk n : Nat) : Int) := by omega
    have hd4 : IntKind.i64.wrap ((m - kk n : Nat) : Int) = ((m - kk n : Nat) : Int) := wrapI_eq _ (by omega) (by omega)
    have HOV0 := hide (fun (x y : ByteArray) (hx : x.size = 32) (hy : y.size = 32) (W : World) (hW : Below (h + 2) x1 W) => (show Calls Tryd.prog 24 #[.agg (dC b).toArray, .agg (dC y).toArray] W fun e w' => e = .returned (.agg (dC (ndB b y)).toArray) ∧ Below W.heap.size W w' from by have _ := hx; exact over_any b y hbs hy W (unhide HKB W hW)))
    have HOX0 := hide (fun (x y : ByteArray) (hx : x.size = 32) (_ : y.size = 32) (W : World) (hW : Below (h + 2) x1 W) => over_any b x hbs hx W (unhide HKB W hW))
    have HFN := hide (show ∀ x y : ByteArray, x.size = 32 → y.size = 32 → ∀ bf z, Below (h + 2) x1 z → ((bf = true ∧ cm (m - kk n) (n - kk n) false o Q = some (x, y)) ∨ (bf = false ∧ cm (m - kk n) (n - kk n) false o Q = none)) → _ from fun x y hx hy bf z hz hc => unhide HFIN (ndB b x) (ndB b y) (ndB_size _ _) (ndB_size _ _) bf z hz (by
      rw [hcm]
      rcases hc with ⟨c1, c2⟩ | ⟨c1, c2⟩
      · exact .inl ⟨c1, by rw [c2]; rfl⟩
      · exact .inr ⟨c1, by rw [c2]; rfl⟩))
    clear hS hK ih HFIN hA hAn hmn2 hcm
    generalize n - kk n = n' at *
    generalize m - kk n = m' at *
    generalize kk n = k at *
    generalize hcbb : dC b = cb at *
    generalize dC o = co at *
    go_enter Tryd.func42, Tryd.ntmps42
    go_wp2_with fail
    refine (unhide HCU).mono ?_
    rintro e y1 ⟨hb1, rfl⟩
    have hs1 : h + 2 ≤ y1.heap.size := by have := hb1.size; rw [unhide HE1] at this; exact this
    have HB1 := hide (show Below (h + 2) x1 y1 from hb1.mono (by rw [unhide HE1]; omega))
    clear hb1
    obtain ⟨gd, hgd⟩ : ∃ q, y1.heap.size = q := ⟨_, rfl⟩
    obtain ⟨x2, hx2⟩ : ∃ q, y1.alloc (.cells #[.int .u8 0, .int .u8 0, .int .u8 0, .int .u8 0, .int .u8 0, .int .u8 0, .int .u8 0, .int .u8 0, .int .u8 0, .int .u8 0, .int .u8 0, .int .u8 0, .int .u8 0, .int .u8 0, .int .u8 0, .int .u8 0, .int .u8 0, .int .u8 0, .int .u8 0, .int .u8 0, .int .u8 0, .int .u8 0, .int .u8 0, .int .u8 0, .int .u8 0, .int .u8 0, .int .u8 0, .int .u8 0, .int .u8 0, .int .u8 0, .int .u8 0, .int .u8 0] 46) = q := ⟨_, rfl⟩
    have HT2 := hide (show x2.there gd 0 32 from by rw [← hx2, ← hgd]; simpa using (zD_new y1).there)
    have hs2 : x2.heap.size = gd + 1 := by rw [← hx2]; simp [hgd]
    obtain ⟨x3, hx3⟩ : ∃ q, x2.setCells gd 0 cb = q := ⟨_, rfl⟩
    have HCD3 := hide (show x3.rangeAt gd 0 cb from by rw [← hx3]; exact World.rangeAt_setCells_same x2 gd 0 cb (by rw [unhide HLb]; exact unhide HT2))
    have HB3 := hide (show Below (h + 2) x1 x3 from by rw [← hx3]; exact below_setCells (by omega) _ _ (by rw [← hx2]; exact (unhide HB1).alloc (by omega) _))
    have HS3 := hide (show gd < x3.heap.size ∧ h + 2 ≤ gd from ⟨by have := (show Below gd x2 x3 from by rw [← hx3]; exact below_setCells (Nat.le_refl _) _ _ (Below.refl _ _)).size; omega, by omega⟩)
    clear hs2
    go_wp2_with (first | refine wpList_store_mid rfl 46 (.tmp 13) (.tmp 36) rfl gd 0 cb.toArray rfl rfl (by simpa [unhide HLb] using unhide HT2) (by rw [szD]; simp [unhide HLb]) (unhide HK1) ?_ | fail)
    refine (unhide HFP _).mono ?_
    rintro e y9 ⟨rfl, hy9⟩
    subst y9
    go_wp2_with (first | refine wpList_load_mid rfl 46 (.tmp 5) rfl h 0 rfl _ _ (unhide HRO x3 (unhide HB3)) Tryd.underlying46 rfl (by rw [szD, unhide HLo]) ?_ | fail)
    refine (unhide HRE _ (unhide HB3)).mono ?_
    rintro e y2 ⟨hb2, x, y, bf, hx, hy, rfl, hc⟩
    have HB2 := hide (show Below (h + 2) x1 y2 from (unhide HB3).trans (hb2.mono (by have := unhide HS3; omega)))
    have HRB2 := hide (rangeAt_below (unhide HCD3) hb2 (unhide HS3).1)
    obtain ⟨gq, hgq⟩ : ∃ z, y2.heap.size = z := ⟨_, rfl⟩
    have HG2 := hide (show gd < gq ∧ h + 2 ≤ gd from by have := hb2.size; have := unhide HS3; omega)
    obtain ⟨x5, hx5⟩ : ∃ z, y2.alloc (.cells #[.int .u8 0, .int .u8 0, .int .u8 0, .int .u8 0, .int .u8 0, .int .u8 0, .int .u8 0, .int .u8 0, .int .u8 0, .int .u8 0, .int .u8 0, .int .u8 0, .int .u8 0, .int .u8 0, .int .u8 0, .int .u8 0, .int .u8 0, .int .u8 0, .int .u8 0, .int .u8 0, .int .u8 0, .int .u8 0, .int .u8 0, .int .u8 0, .int .u8 0, .int .u8 0, .int .u8 0, .int .u8 0, .int .u8 0, .int .u8 0, .int .u8 0, .int .u8 0, .int .u8 0, .int .u8 0, .int .u8 0, .int .u8 0, .int .u8 0, .int .u8 0, .int .u8 0, .int .u8 0, .int .u8 0, .int .u8 0, .int .u8 0, .int .u8 0, .int .u8 0, .int .u8 0, .int .u8 0, .int .u8 0, .int .u8 0, .int .u8 0, .int .u8 0, .int .u8 0, .int .u8 0, .int .u8 0, .int .u8 0, .int .u8 0, .int .u8 0, .int .u8 0, .int .u8 0, .int .u8 0, .int .u8 0, .int .u8 0, .int .u8 0, .int .u8 0] 74) = z := ⟨_, rfl⟩
    have HT5 := hide (show x5.there gq 0 64 from by rw [← hx5, ← hgq]; exact blk_there (Blk.new y2 _ _) 64 (Nat.le_refl _))
    have hs5 : x5.heap.size = gq + 1 := by rw [← hx5]; simp [hgq]
    obtain ⟨x4, hx4⟩ : ∃ z, x5.setCells gq 0 (dC x ++ dC y) = z := ⟨_, rfl⟩
    obtain ⟨_, r2, r3⟩ := gr64 x5 gq (dC x) (dC y) (dC_len x hx) (dC_len y hy) (unhide HT5)
    rw [hx4] at r2 r3
    have hB4 : Below (h + 2) x1 x4 := by rw [← hx4]; exact below_setCells (by have := unhide HG2; omega) _ _ (by rw [← hx5]; exact (unhide HB2).alloc (by have := unhide HG2; omega) _)
    obtain ⟨b4, hb4⟩ : ∃ z, x4.heap.size = z := ⟨_, rfl⟩
    have HG4 := hide (show gq < b4 from by have := (show Below gq x5 x4 from by rw [← hx4]; exact below_setCells (Nat.le_refl _) _ _ (Below.refl _ _)).size; omega)
    have r4 : x4.rangeAt gd 0 cb := rangeAt_below (unhide HRB2) (show Below gq y2 x4 from by rw [← hx4, ← hx5]; exact below_setCells (Nat.le_refl _) _ _ ((Below.refl _ _).alloc (by omega) _)) (unhide HG2).1
    have HS0 := hide (show ∀ W, Below b4 x4 W → W.rangeAt gq 0 (dC x) ∧ W.rangeAt gq 32 (dC y) ∧ W.rangeAt gd 0 cb from fun W hW => ⟨rangeAt_below r2 hW (unhide HG4), rangeAt_below r3 hW (unhide HG4), rangeAt_below r4 hW (by have := unhide HG4; have := unhide HG2; omega)⟩)
    have HB4d := hide (show Below b4 x4 x4.drew from (Below.refl _ _).drew)
    have HW4 := hide (show ∀ W, Below b4 x4 W → Below (h + 2) x1 W from fun W hW => hB4.trans (hW.mono (by have := unhide HG4; have := unhide HG2; omega)))
    have HOV := hide (fun (W : World) (hW : Below b4 x4 W) => unhide HOV0 x y hx hy W (unhide HW4 W hW))
    have HOX := hide (fun (W : World) (hW : Below b4 x4 W) => unhide HOX0 x y hx hy W (unhide HW4 W hW))
    have HZ := hide (fun (W : World) (hW : Below b4 x4 W) => unhide HFN x y hx hy bf W (unhide HW4 W hW) hc)
    have HS9 := hide (show ∀ W, Below b4 x4 W → ∀ l, (W.setCells (h + 1) 0 l).rangeAt gq 0 (dC x) ∧ (W.setCells (h + 1) 0 l).rangeAt gq 32 (dC y) ∧ (W.setCells (h + 1) 0 l).rangeAt gd 0 cb from fun W hW l => ⟨World.rangeAt_setCells_apart (unhide HS0 W hW).1 _ _ _ (.inl (by have := unhide HG2; omega)), World.rangeAt_setCells_apart (unhide HS0 W hW).2.1 _ _ _ (.inl (by have := unhide HG2; omega)), World.rangeAt_setCells_apart (unhide HS0 W hW).2.2 _ _ _ (.inl (by have := unhide HG2; omega))⟩)
    have HBU := hide (built_gr (dC (ndB b x)) (dC (ndB b y)) (dC_len _ (ndB_size _ _)) (dC_len _ (ndB_size _ _)))
    have HO9 := hide (one64 (ndB b x) (ndB b y))
    have HL9 := hide (show (dC (ndB b x) ++ dC (ndB b y)).length = 64 from by rw [List.length_append, dC_len _ (ndB_size _ _), dC_len _ (ndB_size _ _)])
    have HLx := hide (dC_len x hx)
    have HLy := hide (dC_len y hy)
    have HLq := hide (show (dC x ++ dC y).length = 64 from by rw [List.length_append, dC_len x hx, dC_len y hy])
    have HOq := hide (one64 x y)
    clear hb2 hs5 r2 r3 r4 hB4 HOV0 HFN hc HRE HRB2 HB2 HB3 HCD3
    generalize dC (ndB b y) = cy9 at *
    generalize dC (ndB b x) = cx9 at *
    generalize dC x = cx at *
    generalize dC y = cy at *
    go_wp2_with (refine wpList_store_mid rfl 74 (.tmp 18) (.tmp 82) rfl gq 0 (cx ++ cy).toArray rfl rfl (by simpa [unhide HLq] using unhide HT5) (by rw [szG]; simp [unhide HLq]) (unhide HOq) ?_)
    refine wp_region_held_drew (S := fun W => W.rangeAt gq 0 cx ∧ W.rangeAt gq 32 cy ∧ W.rangeAt gd 0 cb) (by kernel_rfl) (unhide HS0 _ (Below.refl _ _).drew) ?_
    intro hS
    refine wpAnyH_takeD 0 (some 84) (.agg cb.toArray) rfl rfl (by kernel_rfl) (by kernel_rfl) (by kernel_rfl) (fun _ _ _ h => h) (yieldsIf_load_mid (by rfl) 46 (.tmp 13) rfl gd 0 rfl _ _ (fun w hSw => hSw.2.2) Tryd.underlying46 rfl (by rw [szD, unhide HLb])) hS ?_
    simp only [Act.put, List.setIfInBounds_toArray, List.set_cons_zero, List.set_cons_succ]
    refine wpAnyH_takeD 1 (some 85) (.pointer (some ⟨gq, 0, none⟩)) rfl rfl (by kernel_rfl) (by kernel_rfl) (by kernel_rfl) (fun _ _ _ h => h) (Or.inl ⟨by rfl, fun w hSw => by clear hSw; go_simp⟩) hS ?_
    simp only [Act.put, List.setIfInBounds_toArray, List.set_cons_zero, List.set_cons_succ]
    refine wpAnyH_takeD 2 (some 86) (.agg cx.toArray) rfl rfl (by kernel_rfl) (by kernel_rfl) (by kernel_rfl) (fun _ _ _ h => h) (yieldsIf_load_mid (by rfl) 46 (.tmp 85) rfl gq 0 rfl _ _ (fun w hSw => hSw.1) Tryd.underlying46 rfl (by rw [szD, unhide HLx])) hS ?_
    simp only [Act.put, List.setIfInBounds_toArray, List.set_cons_zero, List.set_cons_succ]
    refine wpAnyH_takeD 4 (some 88) (.agg cb.toArray) rfl rfl (by kernel_rfl) (by kernel_rfl) (by kernel_rfl) (fun _ _ _ h => h) (yieldsIf_load_mid (by rfl) 46 (.tmp 13) rfl gd 0 rfl _ _ (fun w hSw => hSw.2.2) Tryd.underlying46 rfl (by rw [szD, unhide HLb])) hS ?_
    simp only [Act.put, List.setIfInBounds_toArray, List.set_cons_zero, List.set_cons_succ]
    refine wpAnyH_takeD 5 (some 89) (.pointer (some ⟨gq, 32, none⟩)) rfl rfl (by kernel_rfl) (by kernel_rfl) (by kernel_rfl) (fun _ _ _ h => h) (Or.inl ⟨by rfl, fun w hSw => by clear hSw; go_simp⟩) hS ?_
    simp only [Act.put, List.setIfInBounds_toArray, List.set_cons_zero, List.set_cons_succ]
    refine wpAnyH_takeD 6 (some 90) (.agg cy.toArray) rfl rfl (by kernel_rfl) (by kernel_rfl) (by kernel_rfl) (fun _ _ _ h => h) (yieldsIf_load_mid (by rfl) 46 (.tmp 89) rfl gq 32 rfl _ _ (fun w hSw => hSw.2.1) Tryd.underlying46 rfl (by rw [szD, unhide HLy])) hS ?_
    simp only [Act.put, List.setIfInBounds_toArray, List.set_cons_zero, List.set_cons_succ]
    refine wpAnyH_takeD 9 (some 93) (.bool bf) rfl rfl (by kernel_rfl) (by kernel_rfl) (by kernel_rfl) (fun _ _ _ h => h) (Or.inl ⟨by rfl, fun w hSw => by clear hSw; go_simp⟩) hS ?_
    simp only [Act.put, List.setIfInBounds_toArray, List.set_cons_zero, List.set_cons_succ]
    refine wpAnyH_ready (rs := [3]) (by kernel_rfl) (by simp) ?_
    refine AllReadyH.cons rfl (fun K hK => ?_) AllReadyH.nil
    simp only [List.getElem_toArray, List.getElem_cons_succ, List.getElem_cons_zero]
    go_simp
    refine (unhide HOX _ (unhide HB4d)).mono ?_
    rintro e y4 ⟨rfl, hb⟩
    have HB4e := hide (show Below b4 x4 y4 from (unhide HB4d).trans (hb.mono (by have := (unhide HB4d).size; omega)))
    clear hb
    refine hK.out _ _ (unhide HS0 _ (unhide HB4e)) (fun hS => ?_)
    clear hK K
    refine wpAnyH_ready (rs := [7]) (by kernel_rfl) (by simp) ?_
    refine AllReadyH.cons rfl (fun K hK => ?_) AllReadyH.nil
    simp only [List.getElem_toArray, List.getElem_cons_succ, List.getElem_cons_zero]
    go_simp
    refine (unhide HOV _ (unhide HB4e)).mono ?_
    rintro e y5 ⟨rfl, hb⟩
    have HB5 := hide (show Below b4 x4 y5 from (unhide HB4e).trans (hb.mono (by have := (unhide HB4e).size; omega)))
    clear hb
    obtain ⟨q1, q2, q3⟩ := unhide HZ y5 (unhide HB5)
    have HTH := hide q1
    have HLD := hide q2
    have HBE := hide q3
    clear q1 q2 q3
    refine hK.out _ _ (unhide HS0 _ (unhide HB5)) (fun hS => ?_)
    clear hK K
    refine wpAnyH_takeD 8 (some 92) (.agg (cx9 ++ cy9).toArray) rfl rfl (by kernel_rfl) (by kernel_rfl) (by kernel_rfl) (fun _ _ _ h => h) (yieldsIf_built2 rfl 74 (.tmp 87) (.tmp 91) rfl _ _ _ rfl rfl (unhide HBU)) hS ?_
    simp only [Act.put, List.setIfInBounds_toArray, List.set_cons_zero, List.set_cons_succ]
    refine wpAnyH_ready (rs := [10]) (by kernel_rfl) (by simp) ?_
    refine AllReadyH.cons rfl (fun K hK => ?_) AllReadyH.nil
    rw [if_pos (by rfl)]
    refine wp_store_mid 74 (.tmp 10) (.tmp 92) rfl (h + 1) 0 (cx9 ++ cy9).toArray rfl rfl (by simpa [unhide HL9] using unhide HTH) (by rw [szG]; simp [unhide HL9]) (unhide HO9) ?_
    simp only [List.getElem_toArray, List.getElem_cons_succ, List.getElem_cons_zero, Act.put]
    refine hK.out _ _ (unhide HS9 _ (unhide HB5) _) (fun hS => ?_)
    clear hK K
    refine wpAnyH_takeD 11 (some 11) (.bool bf) rfl rfl (by kernel_rfl) (by kernel_rfl) (by kernel_rfl) (fun _ _ _ h => h) (Or.inl ⟨by rfl, fun w hSw => by clear hSw; go_simp⟩) hS ?_
    simp only [Act.put, List.setIfInBounds_toArray, List.set_cons_zero, List.set_cons_succ]
    refine wpAnyH_done (by kernel_rfl) ?_ _
    go_wp2_with fail
    exact bodyPost_ret (v := .tuple #[.agg (cx9 ++ cy9).toArray, .bool bf]) (by rw [results_cell_tmp (fn := Tryd.f42) (p := 10) (u := 11) (ty := 74) rfl]; simp [asAddr, unhide HLD, Result.andThen]) rfl (unhide HBE)
end Go.Proofs.YtilhilglokblpaaDoor
