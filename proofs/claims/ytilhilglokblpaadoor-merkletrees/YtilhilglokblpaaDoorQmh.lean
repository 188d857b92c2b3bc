import Derived.Test.YtilhilglokblpaaDoorQmg
import Derived.DeepKeys
namespace Go.Proofs.YtilhilglokblpaaDoor
open Go.RowKit
set_option maxRecDepth 100000
theorem mapM_someD {α β : Type} (f : α → Option β) (g : α → β) : ∀ (L : List α), (∀ x ∈ L, f x = some (g x)) → L.mapM f = some (L.map g)
  | [], _ => rfl
  | x :: r, h => by
    rw [List.mapM_cons, h x (by simp), mapM_someD f g r (fun y hy => h y (by simp [hy]))]
    rfl
theorem cellsD : Tryd.prog.cellsOf 46 = 32 := by kernel_rfl
theorem cells5D : Tryd.prog.cellsOf 5 = 1 := by kernel_rfl
theorem guard_D : Tryd.prog.eqGuardType Tryd.prog.depth 46 = false := by kernel_rfl
theorem lits_u8D (m : Nat) (x : Int) (h0 : 0 ≤ x) (h1 : x < 256) : Tryd.prog.keyLits (m + 1) 5 [.int .u8 x] = some [.int .u8 x] := by
  have hw : (Lit.int .u8 x).wf = true := by simp [Lit.wf, IntKind.min, IntKind.max, IntKind.signed, IntKind.bits]; omega
  simp [Program.keyLits, Tryd.underlying5, hw]
theorem lits_D (d : ByteArray) (hd : d.size = 32) : Tryd.prog.keyLits 2 46 (dC d) = some ((List.range 32).map fun i => Lit.int .u8 ((nums d).getD i 0)) := by
  have hl := dC_len d hd
  unfold Program.keyLits
  rw [Tryd.underlying46]
  simp only [cellsD, hl, if_true, cells5D, Nat.mul_one]
  rw [mapM_someD _ (fun i => [Lit.int .u8 ((nums d).getD i 0)]) (List.range 32) (fun i hi => by
    have hi' := List.mem_range.1 hi
    have hb := nums_bytes d i
    have e : ((dC d).drop i).take 1 = [.int .u8 ((nums d).getD i 0)] := by
      have hn : i < (nums d).length := by rw [nums_len, hd]; exact hi'
      rw [List.drop_eq_getElem_cons (by rw [hl]; exact hi')]
      simp [dC, hn]
    rw [e]
    exact lits_u8D 0 _ hb.1 hb.2)]
  simp only [Option.map_some, Option.some.injEq]
  generalize List.range 32 = R
  induction R with
  | nil => rfl
  | cons a r ih => rw [List.map_cons, List.flatten_cons, ih]; rfl
theorem lits_inj (a b : ByteArray) (ha : a.size = 32) (hb : b.size = 32) : ((List.range 32).map fun i => Lit.int .u8 ((nums a).getD i 0)) = ((List.range 32).map fun i => Lit.int .u8 ((nums b).getD i 0)) ↔ a = b := by
  refine ⟨fun h => ?_, fun h => by rw [h]⟩
  have h1 : nums a = nums b := by
    refine List.ext_getElem (by rw [nums_len, nums_len, ha, hb]) (fun i h1 h2 => ?_)
    have hi : i < 32 := by rw [nums_len, ha] at h1; exact h1
    have := congrArg (fun l => l[i]?) h
    simp only [List.getElem?_map, List.getElem?_range hi, Option.map_some, Option.some.injEq, Lit.int.injEq, true_and] at this
    rw [List.getD_eq_getElem?_getD, List.getD_eq_getElem?_getD, List.getElem?_eq_getElem h1, List.getElem?_eq_getElem h2] at this
    exact this
  rw [← strOfNums_nums a, ← strOfNums_nums b, h1]
theorem equalD (a b : ByteArray) (ha : a.size = 32) (hb : b.size = 32) (w : World) : (Op.equalIn 10000 46 (.agg (dC a).toArray) (.agg (dC b).toArray)).run Tryd.prog w = .ok (decide (a = b)) w := by
  have fm : ∀ d : ByteArray, d.size = 32 → (Value.agg (dC d).toArray).formed Tryd.prog 46 = true := fun d hd => by
    simp [Value.formed, Tryd.underlying46, cellsD, dC_len d hd]
  obtain ⟨r, h1, h2⟩ := run_equalIn_deep (P := Tryd.prog) 9998 2 46 (by kernel_rfl) w 2 2 _ _ _ _ (fm a ha) (fm b hb) (lits_D a ha) (lits_D b hb)
  rw [lits_inj a b ha hb] at h2
  rw [h1]
  congr 1
  cases r
  · exact (decide_eq_false (fun e => by have := h2.2 e; cases this)).symm
  · exact (decide_eq_true (h2.1 rfl)).symm
theorem eqD (a b : ByteArray) (ha : a.size = 32) (hb : b.size = 32) (w : World) : (binOp .eql 46 (.agg (dC a).toArray) (.agg (dC b).toArray)).run Tryd.prog w = .ok (.bool (decide (a = b))) w := by
  rw [run_eql_struct, equalD a b ha hb]
  rfl
theorem neqD (a b : ByteArray) (ha : a.size = 32) (hb : b.size = 32) (w : World) : (binOp .neq 46 (.agg (dC a).toArray) (.agg (dC b).toArray)).run Tryd.prog w = .ok (.bool (!decide (a = b))) w := by
  rw [run_neq_struct, equalD a b ha hb]
  rfl
theorem yieldsIf_neqD {ops : Array Oper} {S : World → Prop} {op : Oper} {a : Act} {r : Bool} (hw : Region.wanted op (yielded ops a.tmps) = true) (x y : Operand) (ho : op.op = .binOp .neq 46 x y 46) (A B : Array Value) (hx : a.eval x = .agg A) (hy : a.eval y = .agg B)
    (he : ∀ w, (binOp .neq 46 (.agg A) (.agg B)).run Tryd.prog w = .ok (.bool r) w) : YieldsIf Tryd.prog ops S op (.bool r) a :=
  .inl ⟨hw, fun w _ => by
    have e2 := run_eqGuard_agg (P := Tryd.prog) w .neq 46 x y A B guard_D
    unfold execOp
    simp only [ho, hx, hy, Sem.run_bind, e2, Result.andThen_ok, he w, Sem.run_pure]⟩
theorem yieldsIf_eqD {ops : Array Oper} {S : World → Prop} {op : Oper} {a : Act} {r : Bool} (hw : Region.wanted op (yielded ops a.tmps) = true) (x y : Operand) (ho : op.op = .binOp .eql 46 x y 46) (A B : Array Value) (hx : a.eval x = .agg A) (hy : a.eval y = .agg B)
    (he : ∀ w, (binOp .eql 46 (.agg A) (.agg B)).run Tryd.prog w = .ok (.bool r) w) : YieldsIf Tryd.prog ops S op (.bool r) a :=
  .inl ⟨hw, fun w _ => by
    have e2 := run_eqGuard_agg (P := Tryd.prog) w .eql 46 x y A B guard_D
    unfold execOp
    simp only [ho, hx, hy, Sem.run_bind, e2, Result.andThen_ok, he w, Sem.run_pure]⟩
/-- what climb answers -/
def ClQ (w : World) (root : ByteArray) (n i : Int) (s : ByteArray) (P : List ByteArray) (e : Ending) (w' : World) : Prop := Below w.heap.size w w' ∧ ∃ v, e = .returned (.tuple #[v, .int .i64 (ckE root n i s P)]) ∧ (ckE root n i s P = 0 → ∀ T, up n.toNat i.toNat s P = some T → w'.ownsRow w.heap.size 93 33 v T.length (rgC T))
set_option maxHeartbeats 4000000 in
theorem climb_any (root : ByteArray) (N I0 : Int) (s : ByteArray) (hs : s.size ≤ 140737488355000) (P : List ByteArray) (q : Nat) (hq : P.length = q) (w : World) (B c : Nat) (p : Option Addr) (hS : SB w B p P) (hB : B ≤ w.heap.size) (hK : KTab w) (hqc : q ≤ c) (hc9 : c ≤ 9223372036854775807) : Calls Tryd.prog 31 #[PV root N I0, .string s, .slice p q c] w (ClQ w root N I0 s P) := by
  obtain ⟨h, hh⟩ : ∃ h, w.heap.size = h := ⟨_, rfl⟩
  obtain ⟨pv, hpv⟩ : ∃ l : List Value, [.string root, .int .i64 N, .int .i64 I0, .func (.func 20) #[] #[]] = l := ⟨_, rfl⟩
  have hPV : PV root N I0 = .agg pv.toArray := by rw [← hpv]; rfl
  obtain ⟨x1, hx1⟩ : ∃ q, w.alloc (.cells pv.toArray 64) = q := ⟨_, rfl⟩
  have HE1 := hide (show x1.heap.size = h + 1 from by rw [← hx1]; simp [hh])
  have HB0 := hide (show Below h w x1 from by rw [← hx1, ← hh]; exact (Below.refl _ w).alloc (Nat.le_refl _) _)
  have HKB := hide (show ∀ W, Below (h + 1) x1 W → KTab W from fun W hW => (hK.below (unhide HB0) (by rw [← hh]; exact hK.1)).below hW (by have := hK.1; omega))
  have HSB := hide (show ∀ W, Below (h + 1) x1 W → SB W B p P from fun W hW => (hS.below ((unhide HB0).mono (by omega))).below (hW.mono (by omega)))
  have HPL := hide (show pv.length = 4 from by rw [← hpv]; rfl)
  have HPR := hide (show ∀ W, Below (h + 1) x1 W → W.rangeAt h 0 pv from fun W hW => rangeAt_below (by
    rw [← hx1, ← hh]
    intro j v hv
    rw [Nat.zero_add, (Blk.new w 64 pv.toArray).cell j, ← hv]
    simp) hW (by omega))
  have HPC := hide (show ∀ W, Below (h + 1) x1 W → W.cell? ⟨h, 0, none⟩ = some (.string root) ∧ W.cell? ⟨h, 1, none⟩ = some (.int .i64 N) ∧ W.cell? ⟨h, 2, none⟩ = some (.int .i64 I0) from fun W hW => by
    have hr := unhide HPR W hW
    rw [← hpv] at hr
    exact ⟨hr 0 _ rfl, hr 1 _ rfl, hr 2 _ rfl⟩)
  have hc0 := (unhide HPC x1 (Below.refl _ _)).1
  have HRD := hide (fun W => readDigest_any root W)
  have hrs := rdB_size root
  have HLb := hide (dC_len _ hrs)
  have HK1 := hide (dC_all (rdB root))
  have HER := hide (show ∀ er z v, ckE root N I0 s P = er → er ≠ 0 → Below h w z → ClQ w root N I0 s P (.returned (.tuple #[v, .int .i64 er])) z from fun er z v h1 h2 h3 => ⟨by rw [hh]; exact h3, v, by rw [h1], fun h4 => absurd (h1.symm.trans h4) h2⟩)
  have hck : ckE root N I0 s P = if root.size = 32 then (if 1 ≤ N ∧ N ≤ 4096 ∧ 0 ≤ I0 ∧ I0 < N then (match up N.toNat I0.toNat s P with | none => 192 | some T => if dg (T.getLastD ⟨#[]⟩) = root then 0 else 192) else 190) else 193 := rfl
  by_cases hr : root.size = 32
  case neg =>
    rw [if_neg hr] at hck
    have HE := hide (fun z v => unhide HER 193 z v hck (by decide))
    rw [decide_eq_false hr] at HRD
    generalize dC (rdB root) = cb at *
    rw [hPV]
    clear hS hK hq hpv hPV hck hr HER
    go_enter Tryd.func31, Tryd.ntmps31
    go_wp2_with fail
    refine (unhide HRD _).mono ?_
    rintro e y1 ⟨rfl, hb1⟩
    have HB1' := hide (show Below (h + 1) x1 y1 from hb1.mono (by rw [unhide HE1]; exact Nat.le_refl _))
    have hs1 : h + 1 ≤ y1.heap.size := by have := hb1.size; rw [unhide HE1] at this; exact this
    clear hb1
    obtain ⟨gd, hgd⟩ : ∃ q, y1.heap.size = q := ⟨_, rfl⟩
    obtain ⟨x2, hx2⟩ : ∃ q, y1.alloc (.cells #[.int .u8 0, .int .u8 0, .int .u8 0, .int .u8 0, .int .u8 0, .int .u8 0, .int .u8 0, .int .u8 0, .int .u8 0, .int .u8 0, .int .u8 0, .int .u8 0, .int .u8 0, .int .u8 0, .int .u8 0, .int .u8 0, .int .u8 0, .int .u8 0, .int .u8 0, .int .u8 0, .int .u8 0, .int .u8 0, .int .u8 0, .int .u8 0, .int .u8 0, .int .u8 0, .int .u8 0, .int .u8 0, .int .u8 0, .int .u8 0, .int .u8 0, .int .u8 0] 46) = q := ⟨_, rfl⟩
    have HT2 := hide (show x2.there gd 0 32 from by rw [← hx2, ← hgd]; simpa using (zD_new y1).there)
    have hb2 : Below (h + 1) x1 x2 := by rw [← hx2]; exact (unhide HB1').alloc (by omega) _
    have hs2 : x2.heap.size = gd + 1 := by rw [← hx2]; simp [hgd]
    obtain ⟨x3, hx3⟩ : ∃ q, x2.setCells gd 0 cb = q := ⟨_, rfl⟩
    have HCD3 := hide (show x3.rangeAt gd 0 cb from by rw [← hx3]; exact World.rangeAt_setCells_same x2 gd 0 cb (by rw [unhide HLb]; exact unhide HT2))
    have HB3 := hide (show Below (h + 1) x1 x3 from by rw [← hx3]; exact below_setCells (by omega) _ _ hb2)
    have HS3 := hide (show gd < x3.heap.size ∧ h + 1 ≤ gd from ⟨by have := (show Below gd x2 x3 from by rw [← hx3]; exact below_setCells (Nat.le_refl _) _ _ (Below.refl _ _)).size; omega, by omega⟩)
    have HW3 := hide (show Below h w x3 from (unhide HB0).trans ((unhide HB3).mono (by omega)))
    have hcA := (unhide HPC x3 (unhide HB3)).2.1
    have hcB := (unhide HPC x3 (unhide HB3)).2.2
    clear hb2 hs2
    go_wp2_with (refine wpList_store_mid rfl 46 (.tmp 8) (.tmp 16) rfl gd 0 cb.toArray rfl rfl (by simpa [unhide HLb] using unhide HT2) (by rw [szD]; simp [unhide HLb]) (unhide HK1) ?_)
    go_ret2
    exact unhide HE _ _ (unhide HW3)
  rw [if_pos hr] at hck
  rw [decide_eq_true hr] at HRD
  by_cases hin : 1 ≤ N ∧ N ≤ 4096 ∧ 0 ≤ I0 ∧ I0 < N
  case neg =>
    rw [if_neg hin] at hck
    have HE := hide (fun z v => unhide HER 190 z v hck (by decide))
    generalize dC (rdB root) = cb at *
    rw [hPV]
    clear hS hK hq hpv hPV hck HER
    by_cases a1 : N < 1
    case' pos => skip
    case' neg =>
      by_cases a2 : 4096 < N
      case' pos => skip
      case' neg =>
        by_cases a3 : I0 < 0
        case' pos => skip
        case' neg =>
          have a4 : N ≤ I0 := by omega
    all_goals (
      clear hin
      go_enter Tryd.func31, Tryd.ntmps31
      go_wp2_with fail
      refine (unhide HRD _).mono ?_
      rintro e y1 ⟨rfl, hb1⟩
      have HB1' := hide (show Below (h + 1) x1 y1 from hb1.mono (by rw [unhide HE1]; exact Nat.le_refl _))
      have hs1 : h + 1 ≤ y1.heap.size := by have := hb1.size; rw [unhide HE1] at this; exact this
      clear hb1
      obtain ⟨gd, hgd⟩ : ∃ q, y1.heap.size = q := ⟨_, rfl⟩
      obtain ⟨x2, hx2⟩ : ∃ q, y1.alloc (.cells #[.int .u8 0, .int .u8 0, .int .u8 0, .int .u8 0, .int .u8 0, .int .u8 0, .int .u8 0, .int .u8 0, .int .u8 0, .int .u8 0, .int .u8 0, .int .u8 0, .int .u8 0, .int .u8 0, .int .u8 0, .int .u8 0, .int .u8 0, .int .u8 0, .int .u8 0, .int .u8 0, .int .u8 0, .int .u8 0, .int .u8 0, .int .u8 0, .int .u8 0, .int .u8 0, .int .u8 0, .int .u8 0, .int .u8 0, .int .u8 0, .int .u8 0, .int .u8 0] 46) = q := ⟨_, rfl⟩
      have HT2 := hide (show x2.there gd 0 32 from by rw [← hx2, ← hgd]; simpa using (zD_new y1).there)
      have hb2 : Below (h + 1) x1 x2 := by rw [← hx2]; exact (unhide HB1').alloc (by omega) _
      have hs2 : x2.heap.size = gd + 1 := by rw [← hx2]; simp [hgd]
      obtain ⟨x3, hx3⟩ : ∃ q, x2.setCells gd 0 cb = q := ⟨_, rfl⟩
      have HCD3 := hide (show x3.rangeAt gd 0 cb from by rw [← hx3]; exact World.rangeAt_setCells_same x2 gd 0 cb (by rw [unhide HLb]; exact unhide HT2))
      have HB3 := hide (show Below (h + 1) x1 x3 from by rw [← hx3]; exact below_setCells (by omega) _ _ hb2)
      have HS3 := hide (show gd < x3.heap.size ∧ h + 1 ≤ gd from ⟨by have := (show Below gd x2 x3 from by rw [← hx3]; exact below_setCells (Nat.le_refl _) _ _ (Below.refl _ _)).size; omega, by omega⟩)
      have HW3 := hide (show Below h w x3 from (unhide HB0).trans ((unhide HB3).mono (by omega)))
      have hcA := (unhide HPC x3 (unhide HB3)).2.1
      have hcB := (unhide HPC x3 (unhide HB3)).2.2
      clear hb2 hs2
      go_wp2_with (refine wpList_store_mid rfl 46 (.tmp 8) (.tmp 16) rfl gd 0 cb.toArray rfl rfl (by simpa [unhide HLb] using unhide HT2) (by rw [szD]; simp [unhide HLb]) (unhide HK1) ?_)
      go_ret2
      exact unhide HE _ _ (unhide HW3))
  rw [if_pos hin] at hck
  obtain ⟨g1, g2, g3, g4⟩ := hin
  obtain ⟨n, rfl⟩ : ∃ n : Nat, N = (n : Int) := ⟨N.toNat, by omega⟩
  obtain ⟨i, rfl⟩ : ∃ i : Nat, I0 = (i : Int) := ⟨I0.toNat, by omega⟩
  rw [Int.toNat_natCast, Int.toNat_natCast] at hck
  have a1 : ¬ (n : Int) < 1 := by omega
  have a2 : ¬ 4096 < (n : Int) := by omega
  have a3 : ¬ (i : Int) < 0 := by omega
  have a4 : ¬ (n : Int) ≤ (i : Int) := by omega
  have HRU := hide (show ∀ W, Below (h + 1) x1 W → Calls Tryd.prog 43 #[PV root n i, .int .i64 (n : Int), .int .i64 (i : Int), .string s, .slice p q c] W (RuQ W n i s P) from fun W hW => rungs_any root n i s hs n i P q hq W B c p (by omega) (by omega) (by omega) (unhide HSB W hW) (by have := hW.size; have := unhide HE1; omega) (unhide HKB W hW) hqc hc9)
  have hrr : rdB root = root := if_pos hr
  cases hup : up n i s P with
  | none =>
    rw [hup] at hck
    have HE := hide (fun z v => unhide HER 192 z v hck (by decide))
    have HRU2 := hide (fun (W : World) (hW : Below (h + 1) x1 W) => (unhide HRU W hW).mono (fun e z (hz : RuQ W n i s P e z) => (show Below W.heap.size W z ∧ ∃ v, e = .returned (.tuple #[v, .bool false]) from ⟨hz.1, hz.2.2 hup⟩)))
    generalize dC (rdB root) = cb at *
    rw [hPV] at HRU2 ⊢
    clear hS hK hq hpv hPV hck hup HRU HER hrr hs
    go_enter Tryd.func31, Tryd.ntmps31
    go_wp2_with fail
    refine (unhide HRD _).mono ?_
    rintro e y1 ⟨rfl, hb1⟩
    have HB1' := hide (show Below (h + 1) x1 y1 from hb1.mono (by rw [unhide HE1]; exact Nat.le_refl _))
    have hs1 : h + 1 ≤ y1.heap.size := by have := hb1.size; rw [unhide HE1] at this; exact this
    clear hb1
    obtain ⟨gd, hgd⟩ : ∃ q, y1.heap.size = q := ⟨_, rfl⟩
    obtain ⟨x2, hx2⟩ : ∃ q, y1.alloc (.cells #[.int .u8 0, .int .u8 0, .int .u8 0, .int .u8 0, .int .u8 0, .int .u8 0, .int .u8 0, .int .u8 0, .int .u8 0, .int .u8 0, .int .u8 0, .int .u8 0, .int .u8 0, .int .u8 0, .int .u8 0, .int .u8 0, .int .u8 0, .int .u8 0, .int .u8 0, .int .u8 0, .int .u8 0, .int .u8 0, .int .u8 0, .int .u8 0, .int .u8 0, .int .u8 0, .int .u8 0, .int .u8 0, .int .u8 0, .int .u8 0, .int .u8 0, .int .u8 0] 46) = q := ⟨_, rfl⟩
    have HT2 := hide (show x2.there gd 0 32 from by rw [← hx2, ← hgd]; simpa using (zD_new y1).there)
    have hb2 : Below (h + 1) x1 x2 := by rw [← hx2]; exact (unhide HB1').alloc (by omega) _
    have hs2 : x2.heap.size = gd + 1 := by rw [← hx2]; simp [hgd]
    obtain ⟨x3, hx3⟩ : ∃ q, x2.setCells gd 0 cb = q := ⟨_, rfl⟩
    have HCD3 := hide (show x3.rangeAt gd 0 cb from by rw [← hx3]; exact World.rangeAt_setCells_same x2 gd 0 cb (by rw [unhide HLb]; exact unhide HT2))
    have HB3 := hide (show Below (h + 1) x1 x3 from by rw [← hx3]; exact below_setCells (by omega) _ _ hb2)
    have HS3 := hide (show gd < x3.heap.size ∧ h + 1 ≤ gd from ⟨by have := (show Below gd x2 x3 from by rw [← hx3]; exact below_setCells (Nat.le_refl _) _ _ (Below.refl _ _)).size; omega, by omega⟩)
    have HW3 := hide (show Below h w x3 from (unhide HB0).trans ((unhide HB3).mono (by omega)))
    have hcA := (unhide HPC x3 (unhide HB3)).2.1
    have hcB := (unhide HPC x3 (unhide HB3)).2.2
    clear hb2 hs2
    go_wp2_with (first | refine wpList_store_mid rfl 46 (.tmp 8) (.tmp 16) rfl gd 0 cb.toArray rfl rfl (by simpa [unhide HLb] using unhide HT2) (by rw [szD]; simp [unhide HLb]) (unhide HK1) ?_ | refine wpList_load_mid rfl 64 (.tmp 3) rfl h 0 rfl _ _ (unhide HPR _ (unhide HB3)) Tryd.underlying64 rfl (by rw [szP, unhide HPL]) ?_)
    · clear hcA hcB
      refine (unhide HRU2 _ (unhide HB3)).mono ?_
      rintro e y4 ⟨hb4, v, rfl⟩
      obtain ⟨b3, hb3⟩ : ∃ z, x3.heap.size = z := ⟨_, rfl⟩
      rw [hb3] at hb4
      have HB4 := hide hb4
      have hle : h ≤ b3 := by have := unhide HS3; omega
      clear hb4
      go_wp2_with fail
      refine wp_region_held_drew (S := fun W => Below b3 x3 W) (by kernel_rfl) (unhide HB4).drew ?_
      intro hS
      refine wpAnyH_takeD 0 (some 51) (.bool false) rfl rfl (by kernel_rfl) (by kernel_rfl) (by kernel_rfl) (fun _ _ _ h => h) (Or.inl ⟨by rfl, fun w hSw => by clear hSw; go_simp⟩) hS ?_
      simp only [Act.put, List.setIfInBounds_toArray, List.set_cons_zero, List.set_cons_succ]
      refine wpAnyH_takeD 1 (some 52) (.bool true) rfl rfl (by kernel_rfl) (by kernel_rfl) (by kernel_rfl) (fun _ _ _ h => h) (Or.inl ⟨by rfl, fun w hSw => by clear hSw; go_simp⟩) hS ?_
      simp only [Act.put, List.setIfInBounds_toArray, List.set_cons_zero, List.set_cons_succ]
      refine wpAnyH_takeD 2 (some 53) (.bool true) rfl rfl (by kernel_rfl) (by kernel_rfl) (by kernel_rfl) (fun _ _ _ h => h) (Or.inl ⟨by rfl, fun w hSw => by clear hSw; go_simp⟩) hS ?_
      simp only [Act.put, List.setIfInBounds_toArray, List.set_cons_zero, List.set_cons_succ]
      refine wpAnyH_takeD 3 (some 54) undef rfl rfl (by kernel_rfl) (by kernel_rfl) (by kernel_rfl) (fun _ _ _ h => h) (Or.inr ⟨by rfl, rfl⟩) hS ?_
      simp only [Act.put, List.setIfInBounds_toArray, List.set_cons_zero, List.set_cons_succ]
      refine wpAnyH_takeD 4 (some 55) undef rfl rfl (by kernel_rfl) (by kernel_rfl) (by kernel_rfl) (fun _ _ _ h => h) (Or.inr ⟨by rfl, rfl⟩) hS ?_
      simp only [Act.put, List.setIfInBounds_toArray, List.set_cons_zero, List.set_cons_succ]
      refine wpAnyH_takeD 5 (some 56) undef rfl rfl (by kernel_rfl) (by kernel_rfl) (by kernel_rfl) (fun _ _ _ h => h) (Or.inr ⟨by rfl, rfl⟩) hS ?_
      simp only [Act.put, List.setIfInBounds_toArray, List.set_cons_zero, List.set_cons_succ]
      refine wpAnyH_takeD 6 (some 57) undef rfl rfl (by kernel_rfl) (by kernel_rfl) (by kernel_rfl) (fun _ _ _ h => h) (Or.inr ⟨by rfl, rfl⟩) hS ?_
      simp only [Act.put, List.setIfInBounds_toArray, List.set_cons_zero, List.set_cons_succ]
      refine wpAnyH_takeD 7 (some 58) (.bool true) rfl rfl (by kernel_rfl) (by kernel_rfl) (by kernel_rfl) (fun _ _ _ h => h) (Or.inl ⟨by rfl, fun w hSw => by clear hSw; go_simp⟩) hS ?_
      simp only [Act.put, List.setIfInBounds_toArray, List.set_cons_zero, List.set_cons_succ]
      refine wpAnyH_done (by kernel_rfl) ?_ _
      go_wp2
      go_ret2
      exact unhide HE _ _ ((unhide HW3).trans (hS.mono hle))
  | some T =>
    rw [hup] at hck
    change _ = (if dg (T.getLastD ⟨#[]⟩) = root then 0 else 192) at hck
    obtain ⟨m, hTm⟩ : ∃ m, T.length = m + 1 := ⟨T.length - 1, by have := List.length_pos_iff.2 (up_ne hup); omega⟩
    have hmn : m ≤ n := by have := up_len _ _ _ _ _ hup (by omega); omega
    have HRU2 := hide (fun (W : World) (hW : Below (h + 1) x1 W) => (unhide HRU W hW).mono (fun e z (hz : RuQ W n i s P e z) => (show Below W.heap.size W z ∧ ∃ v, e = .returned (.tuple #[v, .bool true]) ∧ z.ownsRow W.heap.size 93 33 v (m + 1) (rgC T) from ⟨hz.1, by have := hz.2.1 T hup; rw [hTm] at this; exact this⟩)))
    have HTO0 := hide (fun W base gv cv (hW : W.ownsRow base 93 33 (.slice (some ⟨gv, 0, none⟩) (m + 1) cv) (m + 1) (rgC T)) => top_any T m cv base hTm (by omega) W gv hW)
    have HNE0 := hide (fun W => neqD (dg (T.getLastD ⟨#[]⟩)) root (dg_size _) hr W)
    have HEO := hide (show dg (T.getLastD ⟨#[]⟩) = root → ∀ z v b3, h ≤ b3 → z.ownsRow b3 93 33 v (m + 1) (rgC T) → Below h w z → ClQ w root n i s P (.returned (.tuple #[v, .int .i64 0])) z from fun he z v b3 h1 h2 h3 => ⟨by rw [hh]; exact h3, v, by rw [hck, if_pos he], fun _ T' hT' => by
      rw [Int.toNat_natCast, Int.toNat_natCast, hup] at hT'
      obtain rfl : T = T' := by simpa using hT'
      rw [hTm, hh]
      exact h2.mono h1⟩)
    have HEN := hide (show ¬ dg (T.getLastD ⟨#[]⟩) = root → ∀ z v, Below h w z → ClQ w root n i s P (.returned (.tuple #[v, .int .i64 192])) z from fun he z v h3 => unhide HER 192 z v (by rw [hck, if_neg he]) (by decide) h3)
    rw [hrr] at HRD HLb HK1
    generalize dg (T.getLastD ⟨#[]⟩) = td at *
    generalize dC root = cb at *
    generalize dC td = ct at *
    generalize rgC T = cT at *
    obtain ⟨bq, hbq⟩ : ∃ z, (!decide (td = root)) = z := ⟨_, rfl⟩
    rw [hbq] at HNE0
    rw [hPV] at HRU2 ⊢
    clear hS hK hq hpv hPV hck hup HRU HER hrr hs hTm
    go_enter Tryd.func31, Tryd.ntmps31
    go_wp2_with fail
    refine (unhide HRD _).mono ?_
    rintro e y1 ⟨rfl, hb1⟩
    have HB1' := hide (show Below (h + 1) x1 y1 from hb1.mono (by rw [unhide HE1]; exact Nat.le_refl _))
    have hs1 : h + 1 ≤ y1.heap.size := by have := hb1.size; rw [unhide HE1] at this; exact this
    clear hb1
    obtain ⟨gd, hgd⟩ : ∃ q, y1.heap.size = q := ⟨_, rfl⟩
    obtain ⟨x2, hx2⟩ : ∃ q, y1.alloc (.cells #[.int .u8 0, .int .u8 0, .int .u8 0, .int .u8 0, .int .u8 0, .int .u8 0, .int .u8 0, .int .u8 0, .int .u8 0, .int .u8 0, .int .u8 0, .int .u8 0, .int .u8 0, .int .u8 0, .int .u8 0, .int .u8 0, .int .u8 0, .int .u8 0, .int .u8 0, .int .u8 0, .int .u8 0, .int .u8 0, .int .u8 0, .int .u8 0, .int .u8 0, .int .u8 0, .int .u8 0, .int .u8 0, .int .u8 0, .int .u8 0, .int .u8 0, .int .u8 0] 46) = q := ⟨_, rfl⟩
    have HT2 := hide (show x2.there gd 0 32 from by rw [← hx2, ← hgd]; simpa using (zD_new y1).there)
    have hb2 : Below (h + 1) x1 x2 := by rw [← hx2]; exact (unhide HB1').alloc (by omega) _
    have hs2 : x2.heap.size = gd + 1 := by rw [← hx2]; simp [hgd]
    obtain ⟨x3, hx3⟩ : ∃ q, x2.setCells gd 0 cb = q := ⟨_, rfl⟩
    have HCD3 := hide (show x3.rangeAt gd 0 cb from by rw [← hx3]; exact World.rangeAt_setCells_same x2 gd 0 cb (by rw [unhide HLb]; exact unhide HT2))
    have HB3 := hide (show Below (h + 1) x1 x3 from by rw [← hx3]; exact below_setCells (by omega) _ _ hb2)
    have HS3 := hide (show gd < x3.heap.size ∧ h + 1 ≤ gd from ⟨by have := (show Below gd x2 x3 from by rw [← hx3]; exact below_setCells (Nat.le_refl _) _ _ (Below.refl _ _)).size; omega, by omega⟩)
    have HW3 := hide (show Below h w x3 from (unhide HB0).trans ((unhide HB3).mono (by omega)))
    have hcA := (unhide HPC x3 (unhide HB3)).2.1
    have hcB := (unhide HPC x3 (unhide HB3)).2.2
    clear hb2 hs2
    go_wp2_with (first | refine wpList_store_mid rfl 46 (.tmp 8) (.tmp 16) rfl gd 0 cb.toArray rfl rfl (by simpa [unhide HLb] using unhide HT2) (by rw [szD]; simp [unhide HLb]) (unhide HK1) ?_ | refine wpList_load_mid rfl 64 (.tmp 3) rfl h 0 rfl _ _ (unhide HPR _ (unhide HB3)) Tryd.underlying64 rfl (by rw [szP, unhide HPL]) ?_)
    · clear hcA hcB
      obtain ⟨b3, hb3⟩ : ∃ z, x3.heap.size = z := ⟨_, rfl⟩
      have HE3 := hide (show h < b3 ∧ gd < b3 from by have := unhide HS3; omega)
      have hle3 : h ≤ b3 := by have := (unhide HE3).1; omega
      refine (unhide HRU2 _ (unhide HB3)).mono ?_
      rintro e y4 ⟨hb4, v, rfl, ho4⟩
      rw [hb3] at hb4 ho4
      obtain ⟨gv, cv, rfl, _, _⟩ := ho4.form (by omega)
      have HB4 := hide hb4
      have HOW := hide ho4
      have HCR := hide (show ∀ W, Below b3 x3 W → W.rangeAt gd 0 cb from fun W hW => rangeAt_below (unhide HCD3) hW (unhide HE3).2)
      have HTO := hide (fun W hW => unhide HTO0 W b3 gv cv hW)
      have HNE := hide (show ∀ W, _ from fun W => unhide HNE0 W)
      clear hb4 ho4 HTO0 HNE0
      go_wp2_with fail
      refine wp_region_held_drew (S := fun W => Below b3 x3 W) (by kernel_rfl) (unhide HB4).drew ?_
      intro hS
      refine wpAnyH_takeD 0 (some 51) (.bool true) rfl rfl (by kernel_rfl) (by kernel_rfl) (by kernel_rfl) (fun _ _ _ h => h) (Or.inl ⟨by rfl, fun w hSw => by clear hSw; go_simp⟩) hS ?_
      simp only [Act.put, List.setIfInBounds_toArray, List.set_cons_zero, List.set_cons_succ]
      refine wpAnyH_takeD 1 (some 52) (.bool false) rfl rfl (by kernel_rfl) (by kernel_rfl) (by kernel_rfl) (fun _ _ _ h => h) (Or.inl ⟨by rfl, fun w hSw => by clear hSw; go_simp⟩) hS ?_
      simp only [Act.put, List.setIfInBounds_toArray, List.set_cons_zero, List.set_cons_succ]
      refine wpAnyH_takeD 2 (some 53) (.bool false) rfl rfl (by kernel_rfl) (by kernel_rfl) (by kernel_rfl) (fun _ _ _ h => h) (Or.inl ⟨by rfl, fun w hSw => by clear hSw; go_simp⟩) hS ?_
      simp only [Act.put, List.setIfInBounds_toArray, List.set_cons_zero, List.set_cons_succ]
      refine wpAnyH_takeD 3 (some 54) (.slice (some ⟨gv, 0, none⟩) (m + 1) cv) rfl rfl (by kernel_rfl) (by kernel_rfl) (by kernel_rfl) (fun _ _ _ h => h) (Or.inl ⟨by rfl, fun w hSw => by clear hSw; go_simp⟩) hS ?_
      simp only [Act.put, List.setIfInBounds_toArray, List.set_cons_zero, List.set_cons_succ]
      refine wpAnyH_takeD 5 (some 56) (.agg cb.toArray) rfl rfl (by kernel_rfl) (by kernel_rfl) (by kernel_rfl) (fun _ _ _ h => h) (yieldsIf_load_mid (by rfl) 46 (.tmp 8) rfl gd 0 rfl _ _ (fun w hSw => unhide HCR w hSw) Tryd.underlying46 rfl (by rw [szD, unhide HLb])) hS ?_
      simp only [Act.put, List.setIfInBounds_toArray, List.set_cons_zero, List.set_cons_succ]
      refine wpAnyH_ready (rs := [4]) (by kernel_rfl) (by simp) ?_
      refine AllReadyH.cons rfl (fun K hK => ?_) AllReadyH.nil
      simp only [List.getElem_toArray, List.getElem_cons_succ, List.getElem_cons_zero]
      go_simp
      refine (unhide HTO _ (unhide HOW).drew).mono ?_
      rintro e y5 ⟨rfl, hb⟩
      have HO5 := hide (own_bel (unhide HOW).drew hb)
      have HB5 := hide (show Below b3 x3 y5 from hS.trans (hb.mono (by have := hS.size; omega)))
      clear hb
      refine hK.out _ _ (unhide HB5) (fun hS => ?_)
      clear hK K
      refine wpAnyH_takeD 6 (some 57) (.bool bq) rfl rfl (by kernel_rfl) (by kernel_rfl) (by kernel_rfl) (fun _ _ _ h => h) (yieldsIf_neqD rfl (.tmp 55) (.tmp 56) rfl _ _ rfl rfl (unhide HNE)) hS ?_
      simp only [Act.put, List.setIfInBounds_toArray, List.set_cons_zero, List.set_cons_succ]
      refine wpAnyH_takeD 7 (some 58) (.bool bq) rfl rfl (by kernel_rfl) (by kernel_rfl) (by kernel_rfl) (fun _ _ _ h => h) (Or.inl ⟨by rfl, fun w hSw => by clear hSw; go_simp⟩) hS ?_
      simp only [Act.put, List.setIfInBounds_toArray, List.set_cons_zero, List.set_cons_succ]
      refine wpAnyH_done (by kernel_rfl) ?_ _
      by_cases hee : td = root
      · have e9 : bq = false := by rw [← hbq, decide_eq_true hee]; rfl
        have HF := hide (unhide HEO hee y5 _ b3 hle3 (unhide HO5) ((unhide HW3).trans ((unhide HB5).mono hle3)))
        clear HEO HEN hbq hee
        subst e9
        go_wp2
        go_ret2
        exact unhide HF
      · have e9 : bq = true := by rw [← hbq, decide_eq_false hee]; rfl
        have HF := hide (unhide HEN hee y5 (.slice none 0 0) ((unhide HW3).trans ((unhide HB5).mono hle3)))
        clear HEO HEN hbq hee
        subst e9
        go_wp2
        go_ret2
        exact unhide HF
set_option maxHeartbeats 1000000 in
theorem check_any (root : ByteArray) (N I0 : Int) (s : ByteArray) (hs : s.size ≤ 140737488355000) (P : List ByteArray) (q : Nat) (hq : P.length = q) (w : World) (B c : Nat) (p : Option Addr) (hS : SB w B p P) (hB : B ≤ w.heap.size) (hK : KTab w) (hqc : q ≤ c) (hc9 : c ≤ 9223372036854775807) : Calls Tryd.prog 16 #[.string root, .int .i64 N, .int .i64 I0, .string s, .slice p q c] w fun e w' => e = .returned (.int .i64 (ckE root N I0 s P)) ∧ Below w.heap.size w w' := by
  have HC := hide (climb_any root N I0 s hs P q hq w B c p hS hB hK hqc hc9)
  unfold PV at HC
  obtain ⟨er, her⟩ : ∃ z, ckE root N I0 s P = z := ⟨_, rfl⟩
  rw [her]
  clear hS hB hK hq hs
  go_enter Tryd.func16, Tryd.ntmps16
  go_wp2_with fail
  refine (unhide HC).mono ?_
  rintro e z ⟨hb, v, rfl, _⟩
  rw [her]
  have HB := hide hb
  clear hb HC her
  go_wp2
  go_ret
  exact ⟨rfl, unhide HB⟩
end Go.Proofs.YtilhilglokblpaaDoor
