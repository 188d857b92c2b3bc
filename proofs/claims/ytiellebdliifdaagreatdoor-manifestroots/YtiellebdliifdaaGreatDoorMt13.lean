import Derived.Test.YtiellebdliifdaaGreatDoorMt11
import Derived.Test.YtiellebdliifdaaGreatDoorMt07
import Derived.Test.YtiellebdliifdaaGreatDoorMt06
import Derived.Test.YtiellebdliifdaaGreatDoorMt12
namespace Go.Proofs.YtiellebdliifdaaGreatDoor
open Go.RowKit
theorem wrv_take : ∀ (l : List Wr1) (k : Nat), (wrv l).take (k * 2) = wrv (l.take k)
 | [], k => by simp [wrv]
 | p :: r, 0 => by simp [wrv]
 | p :: r, k + 1 => by
  have := wrv_take r k
  rw [show (k + 1) * 2 = k * 2 + 1 + 1 by omega]
  simp [wrv, this]
theorem wrv_drop : ∀ (l : List Wr1) (k : Nat), (wrv l).drop (k * 2) = wrv (l.drop k)
 | [], k => by simp [wrv]
 | p :: r, 0 => by simp [wrv]
 | p :: r, k + 1 => by
  have := wrv_drop r k
  rw [show (k + 1) * 2 = k * 2 + 1 + 1 by omega]
  simp [wrv, this]
theorem wrv_one : ∀ (l : List Wr1) (v : Value), v ∈ wrv l → v.oneCell' = true
 | p :: r, v, h => by
  simp only [wrv, List.mem_cons] at h
  rcases h with rfl | rfl | h
  ·rfl
  ·rfl
  ·exact wrv_one r v h
theorem run_copy_rowK (w : World) (dT sT ty elem : TypeId) (k g o dLen dCap : Nat) (a : Addr) (sLen sCap : Nat) (cur : Array Value) (t : TypeId) (cs : List Value) (n : Nat)
  (hu : Tryz.prog.underlying dT = some (.slice elem)) (hs : (Tryz.prog.info? elem).map (·.size) = some k)
  (hg : w.heap[g]? = some (.cells cur t (0, 0))) (hn : n = Nat.min sLen dLen) (hc : cs.length = n * k)
  (hsrc : ∀ j v, cs[j]? = some v → w.cell? (a.add j) = some v) (hfit : o + cs.length ≤ cur.size) (h1 : ∀ v ∈ cs, v.oneCell' = true) :
  (Builtin.copy_ #[dT, sT] ty #[.slice (some ⟨g, o, none⟩) dLen dCap, .slice (some a) sLen sCap]).run Tryz.prog w =
   .ok (goInt n) (w.setRow g (cur.toList.take o ++ cs ++ cur.toList.drop (o + cs.length)).toArray) := by
 have hl := run_loadCells_list (P := Tryz.prog) w a cs hsrc
 have hst := run_storeCells_at Tryz.prog g o t cs 0 cur w hg (by simpa using hfit) h1
 cases hq : Tryz.prog.info? elem with
 | none => simp [hq] at hs
 | some i =>
  have hi : i.size = k := by simpa [hq] using hs
  have hm : Nat.min sLen dLen * k = cs.length := by rw [← hn, hc]
  simp [Builtin.copy_, run_underlying hu, Builtin.lenOf, Builtin.firstCells, sizeOf, typeInfo, hq, hi, hm, hl, hst, hn]
theorem run_copy_zero (w : World) (dT sT ty elem : TypeId) (k g o dLen dCap : Nat) (p : Option Addr) (sCap : Nat) (hu : Tryz.prog.underlying dT = some (.slice elem)) (hs : (Tryz.prog.info? elem).map (·.size) = some k) :
  (Builtin.copy_ #[dT, sT] ty #[.slice (some ⟨g, o, none⟩) dLen dCap, .slice p 0 sCap]).run Tryz.prog w = .ok (goInt 0) w := by
 have hl : ∀ a, (loadCells a 0).run Tryz.prog w = .ok #[] w := fun a => rfl
 cases hq : Tryz.prog.info? elem with
 | none => simp [hq] at hs
 | some i =>
  cases p <;> simp [Builtin.copy_, run_underlying hu, Builtin.lenOf, Builtin.firstCells, sizeOf, typeInfo, hq, storeCells, hl]
theorem infoWs : (Tryz.prog.info? 76).map (·.size) = some 2 := by kernel_rfl
theorem wp_copy_w {o : Oper} {a : Act} {K : Act → World → Prop} {Q : Exit → Act → World → Prop} (d x : Operand) (hop : o.op = .call { callee := .builtin .copy, args := #[d, x], argTypes := #[72, 72] })
  {wr : World} {gd no : Nat} {D src : List Wr1} (hB : Blk wr gd (wrv D).toArray 76) (k : Nat) (hkl : k = src.length) (hfit : no + k ≤ D.length) (dLen dCap sLen sCap : Nat) (ad : Addr) (hd : a.eval d = .slice (some ⟨gd, no * 2, none⟩) dLen dCap) (hs : a.eval x = .slice (some ad) sLen sCap) (hk : k = Nat.min sLen dLen)
  (hsrc : ∀ j v, (wrv src)[j]? = some v → wr.cell? (ad.add j) = some v) (h : ∀ W', Blk W' gd (wrv (D.take no ++ src ++ D.drop (no + k))).toArray 76 → Only (fun q => q = gd) wr W' → K (a.put o.dst (.int .i64 (k : Int))) W') : o.wp Tryz.prog a wr K Q := by
 have hl : (wrv src).length = k * 2 := by rw [wrv_len, hkl]
 have hrun := run_copy_rowK wr 72 72 o.type 76 2 gd (no * 2) dLen dCap ad sLen sCap (wrv D).toArray 76 (wrv src) k Tryz.underlying72 infoWs hB hk hl hsrc (by rw [hl]; simp [wrv_len]; omega) (wrv_one src)
 have e : ((wrv D).toArray.toList.take (no * 2) ++ wrv src ++ (wrv D).toArray.toList.drop (no * 2 + (wrv src).length)) = wrv (D.take no ++ src ++ D.drop (no + k)) := by
  rw [hl, show no * 2 + k * 2 = (no + k) * 2 by omega]
  simp only [wrv_take, wrv_drop, wrv_app]
 rw [e] at hrun
 have hW := h _ (setRow_heap wr gd (wrv D).toArray _ 76 (0, 0) hB) (setRow_only wr gd _)
 unfold Oper.wp
 simp only [execOp, hop]
 simp only [resolve, invoke, builtin, Sem.run_bind, Sem.run_pure, Result.andThen_ok, List.map_toArray, List.map_cons, List.map_nil, hd, hs, hrun]
 exact hW
theorem wpList_copy_w {ops : Array Oper} {rest : List Oper} {o : Oper} {a : Act} {Q : Exit → Act → World → Prop} (hgd : o.guard = none) (d x : Operand) (hop : o.op = .call { callee := .builtin .copy, args := #[d, x], argTypes := #[72, 72] })
  {wr : World} {gd no : Nat} {D src : List Wr1} (hB : Blk wr gd (wrv D).toArray 76) (k : Nat) (hkl : k = src.length) (hfit : no + k ≤ D.length) (dLen dCap sLen sCap : Nat) (ad : Addr) (hd : a.eval d = .slice (some ⟨gd, no * 2, none⟩) dLen dCap) (hs : a.eval x = .slice (some ad) sLen sCap) (hk : k = Nat.min sLen dLen)
  (hsrc : ∀ j v, (wrv src)[j]? = some v → wr.cell? (ad.add j) = some v) (h : ∀ W', Blk W' gd (wrv (D.take no ++ src ++ D.drop (no + k))).toArray 76 → Only (fun q => q = gd) wr W' → wpList Tryz.prog ops Q rest (a.put o.dst (.int .i64 (k : Int))) W') : wpList Tryz.prog ops Q (o :: rest) a wr :=
 wpList_plain hgd fun _ hK => wp_copy_w d x hop hB k hkl hfit dLen dCap sLen sCap ad hd hs hk hsrc fun W' h1 h2 => hK _ _ (h W' h1 h2)
theorem wpList_copy_z {ops : Array Oper} {rest : List Oper} {o : Oper} {a : Act} {Q : Exit → Act → World → Prop} (hgd : o.guard = none) (d x : Operand) (hop : o.op = .call { callee := .builtin .copy, args := #[d, x], argTypes := #[72, 72] })
  {wr : World} (gd no dLen dCap sCap : Nat) (p : Option Addr) (hd : a.eval d = .slice (some ⟨gd, no, none⟩) dLen dCap) (hs : a.eval x = .slice p 0 sCap) (h : wpList Tryz.prog ops Q rest (a.put o.dst (.int .i64 0)) wr) : wpList Tryz.prog ops Q (o :: rest) a wr :=
 wpList_plain hgd fun K hK => by
  have hrun := run_copy_zero wr 72 72 o.type 76 2 gd no dLen dCap p sCap Tryz.underlying72 infoWs
  have hW := hK _ _ h
  unfold Oper.wp
  simp only [execOp, hop]
  simp only [resolve, invoke, builtin, Sem.run_bind, Sem.run_pure, Result.andThen_ok, List.map_toArray, List.map_cons, List.map_nil, hd, hs, hrun]
  exact hW
theorem wls_src {w : World} {g o : Nat} {l : List Wr1} (h : Wls w (some ⟨g, o, none⟩) l) (m : Nat) : ∀ j v, (wrv (l.take m))[j]? = some v → w.cell? (Addr.add ⟨g, o, none⟩ j) = some v := fun j v hv => by
 have hj := (List.getElem?_eq_some_iff.1 hv).1
 rw [wrv_len, List.length_take] at hj
 have hq : j / 2 < (l.take m).length := by rw [List.length_take]; omega
 have hql : j / 2 < l.length := by omega
 obtain ⟨g', o', e, _, h0, h1⟩ := h (j / 2) hql
 cases e
 obtain ⟨a1, a2⟩ := wrv_at (l.take m) (j / 2) hq
 have eg : (l.take m).getD (j / 2) wr0 = l.getD (j / 2) wr0 := by
  rw [List.getD_eq_getElem?_getD, List.getD_eq_getElem?_getD, List.getElem?_take, if_pos (by rw [List.length_take] at hq; omega)]
 rw [eg] at a1 a2
 rw [Addr.add_mid]
 by_cases hm : j % 2 = 0
 ·rw [show j / 2 * 2 = j by omega] at a1 h0
  rw [h0, ← a1, hv]
 ·rw [show j / 2 * 2 + 1 = j by omega] at a2
  rw [show o + j / 2 * 2 + 1 = o + j by omega] at h1
  rw [h1, ← a2, hv]
theorem rep_ok_z (w : World) : Calls Tryz.prog 57 #[.string ⟨#[0]⟩, .int .i64 256] w fun e w' => e = .returned (.string zero256) ∧ Below w.heap.size w w' := by
 have h := Tryz.strings_Repeat ⟨#[0]⟩ 256 w (by omega) (by show 1 * 256 ≤ _; omega)
 rw [rep_zero4] at h
 exact h
def halfW (x : Wr1) (n m : Nat) : List Wr1 := List.replicate n x ++ List.replicate (m - n) wr0
theorem halfW_len (x : Wr1) (n m : Nat) (h : n ≤ m) : (halfW x n m).length = m := by simp [halfW]; omega
theorem halfW_step (x : Wr1) (n k m : Nat) : (halfW x n m).take n ++ List.replicate k x ++ (halfW x n m).drop (n + k) = halfW x (n + k) m := by
 have e1 : (halfW x n m).take n = List.replicate n x := by simp [halfW]
 have e2 : (halfW x n m).drop (n + k) = List.replicate (m - (n + k)) wr0 := by
  simp only [halfW]
  rw [List.drop_append, List.drop_of_length_le (by simp), List.nil_append, List.drop_replicate]
  congr 1
  simp
  omega
 rw [e1, e2, halfW, List.replicate_append_replicate]
def RqI (w : World) (x : Wr1) (n m : Nat) (wr : World) : Prop := Blk wr w.heap.size (wrv (halfW x n m)).toArray 76 ∧ Below w.heap.size w wr
theorem rep_src {w : World} {g o : Nat} {x : Wr1} {k : Nat} (h : ∀ j, j < k → w.cell? ⟨g, o + j * 2, none⟩ = some (.int .i64 x.1) ∧ w.cell? ⟨g, o + j * 2 + 1, none⟩ = some (.string x.2)) : ∀ j v, (wrv (List.replicate k x))[j]? = some v → w.cell? (Addr.add ⟨g, o, none⟩ j) = some v := fun j v hv => by
 have hj := (List.getElem?_eq_some_iff.1 hv).1
 rw [wrv_len, List.length_replicate] at hj
 have hq : j / 2 < (List.replicate k x).length := by rw [List.length_replicate]; omega
 obtain ⟨a1, a2⟩ := wrv_at _ (j / 2) hq
 have eg : (List.replicate k x).getD (j / 2) wr0 = x := by
  rw [List.getD_eq_getElem?_getD, List.getElem?_replicate, if_pos (by omega)]
  rfl
 rw [eg] at a1 a2
 obtain ⟨h0, h1⟩ := h (j / 2) (by omega)
 rw [Addr.add_mid]
 by_cases hm : j % 2 = 0
 ·rw [show j / 2 * 2 = j by omega] at a1 h0
  rw [h0, ← a1, hv]
 ·rw [show j / 2 * 2 + 1 = j by omega] at a2
  rw [show o + j / 2 * 2 + 1 = o + j by omega] at h1
  rw [h1, ← a2, hv]
set_option maxRecDepth 100000 in
set_option maxHeartbeats 2000000 in
theorem wrepeat_any (x : Wr1) (m : Nat) (h1 : 1 ≤ m) (h2 : m ≤ 1024) (w : World) (g0 : Nat) (hg0 : g0 < w.heap.size) (hc0 : w.cell? ⟨g0, 0, none⟩ = some (.int .i64 x.1)) (hc1 : w.cell? ⟨g0, 1, none⟩ = some (.string x.2)) (mi : Int) (hmi : mi = (m : Int)) :
  Calls Tryz.prog 136 #[.slice (some ⟨g0, 0, none⟩) 1 1, .int .i64 mi] w fun e w' => e = .returned (.slice (some ⟨w.heap.size, 0, none⟩) m m) ∧ Blk w' w.heap.size (wrv (List.replicate m x)).toArray 76 ∧ Below w.heap.size w w' := by
 subst hmi
 have hmk := run_make_w m (by omega) w
 have X0 := hide (show RqI w x 0 m (w.alloc (.cells (wrv (List.replicate m wr0)).toArray 76)) from ⟨by simpa [halfW] using Blk.new w 76 (wrv (List.replicate m wr0)).toArray, (Below.refl _ _).alloc (Nat.le_refl _) _⟩)
 generalize hx2 : w.alloc (.cells (wrv (List.replicate m wr0)).toArray 76) = x2 at *
 clear hx2
 have HC := hide (And.intro hc0 hc1)
 have HM := hide hmk
 clear hc0 hc1 hmk
 go_enter Tryz.func136, Tryz.ntmps136
 go_wp2_with fail
 refine (Tryz.bits_Mul 1 m (by omega) (by omega) w).mono ?_
 rintro ev x1 ⟨rfl, rfl⟩
 rw [show (1 * m / 18446744073709551616 : Nat) = 0 by omega, show (1 * m % 18446744073709551616 : Nat) = m by omega]
 have hmk := unhide HM
 have wv : IntKind.i64.wrap (m : Int) = (m : Int) := wrapI_eq _ (by omega) (by omega)
 have HX := hide (show ∀ j, j < 1 → x2.cell? ⟨g0, 0 + j * 2, none⟩ = some (.int .i64 x.1) ∧ x2.cell? ⟨g0, 0 + j * 2 + 1, none⟩ = some (.string x.2) from fun j hj => by
  have hj0 : j = 0 := by omega
  subst hj0
  exact ⟨by rw [(unhide X0).2.cell (p := ⟨g0, 0 + 0 * 2, none⟩) hg0]; exact (unhide HC).1, by rw [(unhide X0).2.cell (p := ⟨g0, 0 + 0 * 2 + 1, none⟩) hg0]; exact (unhide HC).2⟩)
 go_wp2_with (refine wpList_copy_w rfl (.tmp 31) (.tmp 32) rfl (no := 0) (src := List.replicate 1 x) (unhide X0).1 1 rfl (by rw [halfW_len _ _ _ (by omega)]; omega) m m 1 1 ⟨g0, 0, none⟩ rfl rfl (by show 1 = min 1 m; omega) (rep_src (unhide HX)) ?_; intro W1 hI1 hO1; have X1 := hide (show RqI x1 x 1 m W1 from ⟨by have := halfW_step x 0 1 m; simp only [Nat.zero_add] at this hI1; rw [this] at hI1; exact hI1, (unhide X0).2.trans (hO1.below (unhide X0).2.size (fun k hk q => by have q : k = x1.heap.size := q; omega))⟩); clear hI1 hO1)
 clear X0 HX HC HM hmk
 go_loopw [8] (fun i wr => ∃ n : Nat, 1 ≤ n ∧ n ≤ m ∧ i = .int .i64 (n : Int) ∧ RqI x1 x n m wr) (fun i _ => m - (intOf i).toNat)
 case atStart => exact ⟨1, by omega, by omega, rfl, unhide X1⟩
 case round =>
  obtain ⟨n, hn1, hn, rfl, hI⟩ := hrel
  have XI := hide hI
  clear hI X1
  by_cases hnm : n < m
  ·obtain ⟨k, hk⟩ : ∃ k, k = Nat.min n (m - n) := ⟨_, rfl⟩
   have hk1 : 1 ≤ k := by rw [hk]; simp only [Nat.min_def]; split <;> omega
   have hk2 : k ≤ n := by rw [hk]; exact Nat.min_le_left _ _
   have hk3 : n + k ≤ m := by
    have : k ≤ m - n := by rw [hk]; exact Nat.min_le_right _ _
    omega
   have HK := hide hk
   clear hk
   have i0 : 0 ≤ (n : Int) := by omega
   have i1 : (n : Int) ≤ (m : Int) := by omega
   have i2 : ¬ m = n := by omega
   have hw1 : IntKind.i64.wrap ((n : Int) + (k : Int)) = (n : Int) + (k : Int) := wrapI_eq _ (by omega) (by omega)
   go_wp2_with fail
   refine wp_region_held_drew (S := fun _ => True) (by kernel_rfl) trivial ?_
   intro hS
   refine wpAnyH_takeD 0 (some 38) (.int .i64 (n : Int)) rfl rfl (by kernel_rfl) (by kernel_rfl) (by kernel_rfl) (fun _ _ _ h => h) (Or.inl ⟨by rfl, fun w hSw => by go_simp⟩) hS ?_
   simp only [Act.put, List.setIfInBounds_toArray, List.set_cons_zero, List.set_cons_succ]
   refine wpAnyH_takeD 1 (some 39) (.slice (some ⟨x1.heap.size, 0, none⟩) m m) rfl rfl (by kernel_rfl) (by kernel_rfl) (by kernel_rfl) (fun _ _ _ h => h) (Or.inl ⟨by rfl, fun w hSw => by go_simp⟩) hS ?_
   simp only [Act.put, List.setIfInBounds_toArray, List.set_cons_zero, List.set_cons_succ]
   refine wpAnyH_takeD 2 (some 40) (.int .i64 (n : Int)) rfl rfl (by kernel_rfl) (by kernel_rfl) (by kernel_rfl) (fun _ _ _ h => h) (Or.inl ⟨by rfl, fun w hSw => by go_simp⟩) hS ?_
   simp only [Act.put, List.setIfInBounds_toArray, List.set_cons_zero, List.set_cons_succ]
   refine wpAnyH_takeD 3 (some 41) (.slice (some ⟨x1.heap.size, n * 2, none⟩) (m - n) (m - n)) rfl rfl (by kernel_rfl) (by kernel_rfl) (by kernel_rfl) (fun _ _ _ h => h) (Or.inl ⟨by rfl, fun w hSw => by go_simp⟩) hS ?_
   simp only [Act.put, List.setIfInBounds_toArray, List.set_cons_zero, List.set_cons_succ]
   refine wpAnyH_takeD 4 (some 42) (.slice (some ⟨x1.heap.size, 0, none⟩) m m) rfl rfl (by kernel_rfl) (by kernel_rfl) (by kernel_rfl) (fun _ _ _ h => h) (Or.inl ⟨by rfl, fun w hSw => by go_simp⟩) hS ?_
   simp only [Act.put, List.setIfInBounds_toArray, List.set_cons_zero, List.set_cons_succ]
   refine wpAnyH_takeD 5 (some 43) (.int .i64 (n : Int)) rfl rfl (by kernel_rfl) (by kernel_rfl) (by kernel_rfl) (fun _ _ _ h => h) (Or.inl ⟨by rfl, fun w hSw => by go_simp⟩) hS ?_
   simp only [Act.put, List.setIfInBounds_toArray, List.set_cons_zero, List.set_cons_succ]
   refine wpAnyH_takeD 6 (some 44) (.slice (some ⟨x1.heap.size, 0, none⟩) n m) rfl rfl (by kernel_rfl) (by kernel_rfl) (by kernel_rfl) (fun _ _ _ h => h) (Or.inl ⟨by rfl, fun w hSw => by go_simp⟩) hS ?_
   simp only [Act.put, List.setIfInBounds_toArray, List.set_cons_zero, List.set_cons_succ]
   refine wpAnyH_ready (rs := [7]) (by kernel_rfl) (by simp) ?_
   refine AllReadyH.cons rfl (fun K hK => ?_) AllReadyH.nil
   simp only [List.getElem_toArray, List.getElem_cons_succ, List.getElem_cons_zero]
   refine wp_copy_w (.tmp 41) (.tmp 44) rfl (no := n) (src := List.replicate k x) (show Blk wr.drew x1.heap.size (wrv (halfW x n m)).toArray 76 from (unhide XI).1) k (by simp) (by rw [halfW_len _ _ _ hn]; exact hk3) (m - n) (m - n) n m ⟨x1.heap.size, 0, none⟩ rfl rfl (unhide HK) (rep_src (fun j hj => by
    obtain ⟨a1, a2⟩ := wls_blk (unhide XI).1 j (by rw [halfW_len _ _ _ hn]; omega) |>.elim fun g h => h.elim fun o h => by
     obtain ⟨e, _, h0, h1⟩ := h
     cases e
     exact And.intro h0 h1
    have eg : (halfW x n m).getD j wr0 = x := by
     rw [halfW, List.getD_eq_getElem?_getD, List.getElem?_append_left (by simp; omega), List.getElem?_replicate, if_pos (by omega)]
     rfl
    rw [eg] at a1 a2
    exact ⟨a1, a2⟩)) ?_
   intro W2 hI2 hO2
   have X2 := hide (show RqI x1 x (n + k) m W2 from ⟨by rw [halfW_step] at hI2; exact hI2, (unhide XI).2.drew.trans (hO2.below (unhide XI).2.size (fun k hk q => by have q : k = x1.heap.size := q; omega))⟩)
   clear hI2 hO2
   refine hK.out _ _ trivial (fun hS => ?_)
   clear hK K
   simp only [Act.put, List.setIfInBounds_toArray, List.set_cons_zero, List.set_cons_succ]
   refine wpAnyH_takeD 8 (some 46) (.int .i64 ((n : Int) + (k : Int))) rfl rfl (by kernel_rfl) (by kernel_rfl) (by kernel_rfl) (fun _ _ _ h => h) (Or.inl ⟨by rfl, fun w hSw => by go_simp⟩) hS ?_
   simp only [Act.put, List.setIfInBounds_toArray, List.set_cons_zero, List.set_cons_succ]
   refine wpAnyH_takeD 9 (some 8) (.int .i64 ((n : Int) + (k : Int))) rfl rfl (by kernel_rfl) (by kernel_rfl) (by kernel_rfl) (fun _ _ _ h => h) (Or.inl ⟨by rfl, fun w hSw => by go_simp⟩) hS ?_
   simp only [Act.put, List.setIfInBounds_toArray, List.set_cons_zero, List.set_cons_succ]
   refine wpAnyH_done (by kernel_rfl) ?_ _
   clear hS
   go_wp2
   go_roundw
   case rel => exact ⟨n + k, by omega, by omega, by go_num, unhide X2⟩
   case measure => simp [intOf]; omega
  ·obtain rfl : n = m := by omega
   clear hnm
   go_wp2
   go_ret
   refine ⟨rfl, ?_, (unhide XI).2⟩
   have := (unhide XI).1
   simpa [halfW] using this
def fillW : Wr1 := (18, zero256)
def filled (l : List Wr1) : List Wr1 := l ++ List.replicate (16 - l.length) fillW
theorem filled_len (l : List Wr1) (h : l.length ≤ 16) : (filled l).length = 16 := by simp [filled]; omega
theorem filled_eq (l : List Wr1) (n : Nat) (hn : n = l.length) : (List.replicate 16 fillW).take 0 ++ l ++ (List.replicate 16 fillW).drop (0 + n) = filled l := by
 rw [List.take_zero, List.nil_append, List.drop_replicate, Nat.zero_add, hn, filled]
theorem wrepC (w : World) (g : Nat) (hB : Blk w g #[.int .i64 18, .string zero256] 76) : Calls Tryz.prog 136 #[.slice (some ⟨g, 0, none⟩) 1 1, .int .i64 16] w fun e w' => e = .returned (.slice (some ⟨w.heap.size, 0, none⟩) 16 16) ∧ Blk w' w.heap.size (wrv (List.replicate 16 fillW)).toArray 76 ∧ Below w.heap.size w w' :=
 wrepeat_any fillW 16 (by decide) (by decide) w g hB.lt (hB.cell 0) (hB.cell 1) 16 rfl
set_option maxRecDepth 100000 in
set_option maxHeartbeats 2000000 in
theorem filledUp_any (w : World) (p : Option Addr) (c : Nat) (l : List Wr1) (n : Nat) (hn : n = l.length) (hl : Wls w p l) (h16 : n ≤ 16) :
  Calls Tryz.prog 84 #[.slice p n c] w fun e w' => ∃ g, w.heap.size ≤ g ∧ e = .returned (.slice (some ⟨g, 0, none⟩) 16 16) ∧ Blk w' g (wrv (filled l)).toArray 76 ∧ Below w.heap.size w w' := by
 have hrep := rep_ok_z
 have HRP := hide (hrep w)
 have HL := hide hl
 have HN := hide hn
 have HWC := hide wrepC
 obtain ⟨z, hz⟩ : ∃ z, zero256 = z := ⟨_, rfl⟩
 rw [hz] at HRP HWC
 have HZ := hide hz
 clear hrep hl hn hz
 go_enter Tryz.func84, Tryz.ntmps84
 go_wp2_with fail
 refine (unhide HRP).mono ?_
 rintro e x1 ⟨rfl, hb1⟩
 obtain ⟨x2, hx2⟩ : ∃ x, x = (x1.alloc (Obj.cells #[.int .i64 18, .string z] 76)).alloc (Obj.cells #[.int .i64 18, .string z] 76) := ⟨_, rfl⟩
 have hb2 : Below w.heap.size w x2 := by rw [hx2]; exact (hb1.alloc hb1.size _).alloc (by have := hb1.size; simp; omega) _
 have hB2 : Blk x2 (x1.heap.size + 1) #[.int .i64 18, .string z] 76 := by
  rw [hx2]
  have := Blk.new (x1.alloc (Obj.cells #[.int .i64 18, .string z] 76)) 76 #[.int .i64 18, .string z]
  simpa using this
 have HB2 := hide (And.intro hb2 hB2)
 clear hb1 hb2 hB2
 go_wp2_with fail
 rw [← hx2]
 replace hx2 := hide hx2
 refine (unhide HWC _ _ (unhide HB2).2).mono ?_
 rintro e x3 ⟨rfl, hB3, hb3⟩
 have hge : w.heap.size ≤ x2.heap.size := (unhide HB2).1.size
 have hb3' : Below w.heap.size w x3 := (unhide HB2).1.trans (hb3.mono hge)
 have HB3 := hide (And.intro hB3 (And.intro hb3' hge))
 have HL3 := hide ((unhide HL).below hb3')
 obtain ⟨g, hg⟩ : ∃ g, x2.heap.size = g := ⟨_, rfl⟩
 rw [hg] at HB3 ⊢
 clear hB3 hb3 hb3' hg hge HB2
 obtain ⟨D, hD⟩ : ∃ D, List.replicate 16 fillW = D := ⟨_, rfl⟩
 rw [hD] at HB3
 have hDl : D.length = 16 := by rw [← hD, List.length_replicate]
 have HD := hide hD
 clear hD
 by_cases h0 : n = 0
 ·subst h0
  have hfl : filled l = D := by
   have : l = [] := List.eq_nil_of_length_eq_zero (unhide HN).symm
   rw [this, ← unhide HD]
   rfl
  have HF := hide hfl
  clear hfl
  go_wp2_with (refine wpList_copy_z rfl (.tmp 10) (.tmp 11) rfl g 0 16 16 c p rfl rfl ?_)
  go_ret
  exact ⟨g, (unhide HB3).2.2, rfl, by rw [unhide HF]; exact (unhide HB3).1, (unhide HB3).2.1⟩
 ·obtain ⟨gb, o, rfl⟩ : ∃ gb o, p = some ⟨gb, o, none⟩ := by
   obtain ⟨gb, o, e, _⟩ := unhide HL3 0 (by rw [← unhide HN]; omega)
   exact ⟨gb, o, e⟩
  have HSR := hide (wls_src (unhide HL3) l.length)
  rw [List.take_length] at HSR
  go_wp2_with (refine wpList_copy_w rfl (.tmp 10) (.tmp 11) rfl (no := 0) (src := l) (unhide HB3).1 n (unhide HN) (by omega) 16 16 n c ⟨gb, o, none⟩ rfl rfl (by show n = min n 16; omega) (unhide HSR) ?_; intro W1 hI1 hO1; have X1 := hide (show Blk W1 g (wrv (filled l)).toArray 76 ∧ Below w.heap.size w W1 from ⟨by rw [← unhide HD] at hI1; have e := filled_eq l n (unhide HN); rw [e] at hI1; exact hI1, (unhide HB3).2.1.trans (hO1.below (unhide HB3).2.1.size (fun k hk q => by have q : k = g := q; have := (unhide HB3).2.2; omega))⟩); clear hI1 hO1)
  go_ret
  exact ⟨g, (unhide HB3).2.2, rfl, (unhide X1).1, (unhide X1).2⟩
end Go.Proofs.YtiellebdliifdaaGreatDoor
namespace Go.Proofs.YtiellebdliifdaaGreatDoor
open Go.RowKit
def Jb (w : World) (jb b nx : Nat) (lost : Bool) : Prop := Blk w jb #[.pointer (some ⟨b, 0, none⟩), .int .u32 (nx : Int), .bool lost] 133
def runsR : DSt → List (List Wr1) → Int × DSt
 | s, [] => (0, s)
 | s, r :: rs => if (layR s r).1 = 0 then runsR (layR s r).2 rs else layR s r
def runsOf (nx : Nat) (l : List Wr1) : List (List Wr1) := [recL (filled l), [(1, headB nx (secs (filled l)))], filled l, [(1, headB nx [])]]
theorem runsR_drop (s : DSt) (R : List (List Wr1)) (k : Nat) (hk : k < R.length) : runsR s (R.drop k) = if (layR s (R.getD k [])).1 = 0 then runsR (layR s (R.getD k [])).2 (R.drop (k + 1)) else layR s (R.getD k []) := by
 rw [List.drop_eq_getElem_cons hk, runsR]
 have e : R.getD k [] = R[k] := by rw [List.getD_eq_getElem?_getD, List.getElem?_eq_getElem hk]; rfl
 rw [e]
structure CR where
 e : Int
 s : DSt
 nx : Nat
 lost : Bool
def commitR (s : DSt) (nx : Nat) (lost : Bool) (l : List Wr1) : CR :=
 if refE l (s.last.length : Int) ≠ 0 then ⟨refE l (s.last.length : Int), s, nx, lost⟩ else if lost = true then ⟨2, s, nx, lost⟩ else
  if (runsR s (runsOf nx l)).1 = 0 then ⟨0, (runsR s (runsOf nx l)).2, (nx + 1) % 4294967296, lost⟩ else ⟨(runsR s (runsOf nx l)).1, (runsR s (runsOf nx l)).2, nx, true⟩
def JPost (base b jb : Nat) (v : DV) (s : DSt) (nx : Nat) (lost : Bool) (w w' : World) : Prop :=
 ∃ v', Dk w' base b v' s ∧ Jb w' jb b nx lost ∧ Only (fun k => Fd b v k ∨ k = jb) w w' ∧ ∀ k, Fd b v' k → Fd b v k ∨ w.heap.size ≤ k
set_option maxRecDepth 100000 in
set_option maxHeartbeats 400000 in
theorem settleT_any (w : World) (jb b nx : Nat) (lost : Bool) (h : Jb w jb b nx lost) :
  Calls Tryz.prog 83 #[.pointer (some ⟨jb, 0, none⟩), .bool true] w fun e w' => e = .returned (.tuple #[]) ∧ w' = w.setCell ⟨jb, 1, none⟩ (.int .u32 (((nx + 1) % 4294967296 : Nat) : Int)) := by
 have c1 : w.cell? ⟨jb, 1, none⟩ = some (.int .u32 (nx : Int)) := Blk.cell h 1
 have f1 : w.frozen? ⟨jb, 1, none⟩ = false := Blk.frozen h 1
 have hw : IntKind.u32.wrap ((nx : Int) + 1) = (((nx + 1) % 4294967296 : Nat) : Int) := by
  have : IntKind.u32.wrap ((nx : Int) + 1) = ((nx : Int) + 1) % 4294967296 := by simp [IntKind.wrap, IntKind.signed, IntKind.bits]
  rw [this]
  omega
 clear h
 generalize (((nx + 1) % 4294967296 : Nat) : Int) = m at *
 go_enter Tryz.func83, Tryz.ntmps83
 go_wp2
 go_end0
 exact ⟨rfl, rfl⟩
set_option maxRecDepth 100000 in
set_option maxHeartbeats 400000 in
theorem settleF_any (w : World) (jb b nx : Nat) (lost : Bool) (h : Jb w jb b nx lost) :
  Calls Tryz.prog 83 #[.pointer (some ⟨jb, 0, none⟩), .bool false] w fun e w' => e = .returned (.tuple #[]) ∧ w' = w.setCell ⟨jb, 2, none⟩ (.bool true) := by
 have c1 : w.cell? ⟨jb, 2, none⟩ = some (.bool lost) := Blk.cell h 2
 have f1 : w.frozen? ⟨jb, 2, none⟩ = false := Blk.frozen h 2
 clear h
 go_enter Tryz.func83, Tryz.ntmps83
 go_wp2
 go_end0
 exact ⟨rfl, rfl⟩
set_option maxRecDepth 100000 in
set_option maxHeartbeats 400000 in
theorem commit1T_any (w : World) (jb b nx : Nat) (lost : Bool) (h : Jb w jb b nx lost) (bx ge : Nat) (h0 : w.cell? ⟨bx, 0, none⟩ = some (.pointer (some ⟨jb, 0, none⟩))) (h1 : w.cell? ⟨ge, 0, none⟩ = some (.bool true)) :
  CallsD Tryz.prog 82 #[.pointer (some ⟨bx, 0, none⟩), .pointer (some ⟨ge, 0, none⟩)] .returning w fun e u' w' => u' = .returning ∧ (e = .returned (.tuple #[]) ∧ w' = w.setCell ⟨jb, 1, none⟩ (.int .u32 (((nx + 1) % 4294967296 : Nat) : Int))) := by
 have HC := hide (settleT_any w jb b nx lost h)
 clear h
 generalize (((nx + 1) % 4294967296 : Nat) : Int) = m at *
 go_enter_d Tryz.func82, Tryz.ntmps82
 go_wp2_with fail
 refine (unhide HC).mono ?_
 rintro e x1 ⟨rfl, hx⟩
 have HX := hide hx
 clear hx
 go_wp2
 go_end0
 exact ⟨rfl, unhide HX⟩
set_option maxRecDepth 100000 in
set_option maxHeartbeats 400000 in
theorem commit1F_any (w : World) (jb b nx : Nat) (lost : Bool) (h : Jb w jb b nx lost) (bx ge : Nat) (h0 : w.cell? ⟨bx, 0, none⟩ = some (.pointer (some ⟨jb, 0, none⟩))) (h1 : w.cell? ⟨ge, 0, none⟩ = some (.bool false)) :
  CallsD Tryz.prog 82 #[.pointer (some ⟨bx, 0, none⟩), .pointer (some ⟨ge, 0, none⟩)] .returning w fun e u' w' => u' = .returning ∧ (e = .returned (.tuple #[]) ∧ w' = w.setCell ⟨jb, 2, none⟩ (.bool true)) := by
 have HC := hide (settleF_any w jb b nx lost h)
 clear h
 go_enter_d Tryz.func82, Tryz.ntmps82
 go_wp2_with fail
 refine (unhide HC).mono ?_
 rintro e x1 ⟨rfl, hx⟩
 have HX := hide hx
 clear hx
 go_wp2
 go_end0
 exact ⟨rfl, unhide HX⟩
structure CW (w y : World) (jb bx ge gR : Nat) (R : List (List Wr1)) : Prop where
 bel : Below w.heap.size w y
 row : ∀ k, k < 4 → ∃ g, y.cell? ⟨gR, k, none⟩ = some (.slice (some ⟨g, 0, none⟩) (R.getD k []).length (R.getD k []).length) ∧ w.heap.size ≤ g ∧ g < y.heap.size ∧ Wls y (some ⟨g, 0, none⟩) (R.getD k [])
 lr : w.heap.size ≤ gR ∧ gR < y.heap.size
 box : Blk y bx #[.pointer (some ⟨jb, 0, none⟩)] 61
 lb : w.heap.size ≤ bx
 ended : Blk y ge #[.bool false] 4
 le : w.heap.size ≤ ge
theorem CW.keep {w y y2 : World} {jb bx ge gR : Nat} {R : List (List Wr1)} {b : Nat} {v : DV} (h : CW w y jb bx ge gR R) (hlt : ∀ k, Fd b v k → k < w.heap.size) (ho : Only (Fd b v) y y2) (hw : Below w.heap.size w y → Only (Fd b v) w y2) : (∀ k, k < 4 → ∃ g, y2.cell? ⟨gR, k, none⟩ = some (.slice (some ⟨g, 0, none⟩) (R.getD k []).length (R.getD k []).length) ∧ w.heap.size ≤ g ∧ g < y.heap.size ∧ Wls y2 (some ⟨g, 0, none⟩) (R.getD k [])) ∧ Blk y2 bx #[.pointer (some ⟨jb, 0, none⟩)] 61 ∧ Blk y2 ge #[.bool false] 4 ∧ Only (Fd b v) w y2 := by
 have hn : ∀ k, w.heap.size ≤ k → ¬ Fd b v k := fun k hk q => by have := hlt k q; omega
 refine ⟨fun k hk => ?_, h.box.only ho (hn _ h.lb), h.ended.only ho (hn _ h.le), hw h.bel⟩
 obtain ⟨g, c, hg, hgl, hl⟩ := h.row k hk
 exact ⟨g, (World.cell?_of_block (a := ⟨gR, k, none⟩) (ho.2 gR h.lr.2 (hn _ h.lr.1))).trans c, hg, hgl, hl.only ho (fun g' o' e => by cases e; exact hn _ hg)⟩
def CmI (base b : Nat) (v : DV) (s : DSt) (R : List (List Wr1)) (y : World) (k : Nat) (wr : World) : Prop :=
 ∃ s', DPost base b v s' y wr ∧ Sane s' ∧ runsR s R = runsR s' (R.drop k) ∧ s'.pend.length ≤ s.pend.length + 16 * k ∧ s'.acts.length ≤ s.acts.length + 17 * k
theorem getD0 (nx : Nat) (l : List Wr1) : (runsOf nx l).getD 0 [] = recL (filled l) := rfl
theorem getD1 (nx : Nat) (l : List Wr1) : (runsOf nx l).getD 1 [] = [(1, headB nx (secs (filled l)))] := rfl
theorem getD2 (nx : Nat) (l : List Wr1) : (runsOf nx l).getD 2 [] = filled l := rfl
theorem getD3 (nx : Nat) (l : List Wr1) : (runsOf nx l).getD 3 [] = [(1, headB nx [])] := rfl
theorem CW.make {w y : World} {jb bx ge gR gA gB gC gD nx : Nat} {l : List Wr1} (h16 : l.length ≤ 16) (bel : Below w.heap.size w y)
  (hA : Blk y gA (wrv (recL (filled l))).toArray 76) (hB : Blk y gB #[.int .i64 1, .string (headB nx (secs (filled l)))] 76) (hC : Blk y gC (wrv (filled l)).toArray 76) (hD : Blk y gD #[.int .i64 1, .string (headB nx [])] 76)
  (hR : Blk y gR #[.slice (some ⟨gA, 0, none⟩) 16 16, .slice (some ⟨gB, 0, none⟩) 1 1, .slice (some ⟨gC, 0, none⟩) 16 16, .slice (some ⟨gD, 0, none⟩) 1 1] 72)
  (hbx : Blk y bx #[.pointer (some ⟨jb, 0, none⟩)] 61) (hge : Blk y ge #[.bool false] 4) (l1 : w.heap.size ≤ gA) (l2 : w.heap.size ≤ gB) (l3 : w.heap.size ≤ gC) (l4 : w.heap.size ≤ gD) (l5 : w.heap.size ≤ gR) (l6 : w.heap.size ≤ bx) (l7 : w.heap.size ≤ ge) : CW w y jb bx ge gR (runsOf nx l) := by
 have e16 : (filled l).length = 16 := filled_len l h16
 refine ⟨bel, fun k hk => ?_, ⟨l5, hR.lt⟩, hbx, l6, hge, l7⟩
 obtain h | h | h | h : k = 0 ∨ k = 1 ∨ k = 2 ∨ k = 3 := by omega
 ·subst h
  rw [getD0, recL_len, e16]
  exact ⟨gA, hR.cell 0, l1, hA.lt, wls_blk hA⟩
 ·subst h
  rw [getD1]
  exact ⟨gB, hR.cell 1, l2, hB.lt, wls_blk (l := [(1, headB nx (secs (filled l)))]) hB⟩
 ·subst h
  rw [getD2, e16]
  exact ⟨gC, hR.cell 2, l3, hC.lt, wls_blk hC⟩
 ·subst h
  rw [getD3]
  exact ⟨gD, hR.cell 3, l4, hD.lt, wls_blk (l := [(1, headB nx [])]) hD⟩
theorem finF {w y x : World} {base b jb nx : Nat} {v : DV} {s : DSt} {lost : Bool} (hbel : Below w.heap.size w y) (hP : DPost base b v s y x) (hJ : Jb w jb b nx lost) (hjb : ¬ Fd b v jb) : JPost base b jb v s nx true w (x.setCell ⟨jb, 2, none⟩ (.bool true)) := by
 obtain ⟨v', h1, h2, h3⟩ := hP
 have hj : jb < w.heap.size := Blk.lt hJ
 have hs := hbel.size
 have hn : ¬ Fd b v' jb := fun q => by
  rcases h3 jb q with q | q
  ·exact hjb q
  ·omega
 have hJx : Jb x jb b nx lost := Blk.only (Blk.below hJ hbel hj) h2 hjb
 have ho : Only (fun k => k = jb) x (x.setCell ⟨jb, 2, none⟩ (.bool true)) := (Only.refl _ x).setCell _ _ (fun _ => rfl)
 refine ⟨v', h1.only ho (fun k hk q => hn (q ▸ hk)), ?_, ?_, fun k hk => ?_⟩
 ·exact Blk.set hJx 2 (.bool true)
 ·have o1 : Only (fun k => Fd b v k ∨ k = jb) w y := (Only.of_below (P := fun _ => False) hbel).mono (fun _ _ q => q.elim)
  exact (o1.trans h2 (fun _ _ q => .inl q)).trans ho (fun _ _ q => .inr q)
 ·rcases h3 k hk with q | q
  ·exact .inl q
  ·exact .inr (by omega)
theorem finT {w y x : World} {base b jb nx m ge : Nat} {v : DV} {s : DSt} {lost : Bool} (hbel : Below w.heap.size w y) (hP : DPost base b v s y x) (hJ : Jb w jb b nx lost) (hjb : ¬ Fd b v jb) (hlt : ∀ k, Fd b v k → k < w.heap.size) (hge : w.heap.size ≤ ge) (hgy : ge < y.heap.size) : JPost base b jb v s m lost w ((x.setCell ⟨ge, 0, none⟩ (.bool true)).setCell ⟨jb, 1, none⟩ (.int .u32 (m : Int))) := by
 obtain ⟨v', h1, h2, h3⟩ := hP
 have hj : jb < w.heap.size := Blk.lt hJ
 have hs := hbel.size
 have hn : ¬ Fd b v' jb := fun q => by
  rcases h3 jb q with q | q
  ·exact hjb q
  ·omega
 have hg : ¬ Fd b v' ge := fun q => by
  rcases h3 ge q with q | q
  ·have := hlt ge q; omega
  ·omega
 have hJx : Jb x jb b nx lost := Blk.only (Blk.below hJ hbel hj) h2 hjb
 have o0 : Only (fun k => k = ge) x (x.setCell ⟨ge, 0, none⟩ (.bool true)) := (Only.refl _ x).setCell _ _ (fun _ => rfl)
 have o1 : Only (fun k => k = jb) (x.setCell ⟨ge, 0, none⟩ (.bool true)) ((x.setCell ⟨ge, 0, none⟩ (.bool true)).setCell ⟨jb, 1, none⟩ (.int .u32 (m : Int))) := (Only.refl _ _).setCell _ _ (fun _ => rfl)
 refine ⟨v', (h1.only o0 (fun k hk q => hg (q ▸ hk))).only o1 (fun k hk q => hn (q ▸ hk)), ?_, ?_, fun k hk => ?_⟩
 ·exact (Blk.only hJx o0 (fun q => by have q : jb = ge := q; omega)).set 1 (.int .u32 (m : Int))
 ·have q1 : Only (fun k => Fd b v k ∨ k = jb) w y := (Only.of_below (P := fun _ => False) hbel).mono (fun _ _ q => q.elim)
  exact ((q1.trans h2 (fun _ _ q => .inl q)).trans o0 (fun k hk q => by have q : k = ge := q; omega)).trans o1 (fun _ _ q => .inr q)
 ·rcases h3 k hk with q | q
  ·exact .inl q
  ·exact .inr (by omega)
theorem fin0 {w y : World} {base b jb nx : Nat} {v : DV} {s : DSt} {lost : Bool} (hbel : Below w.heap.size w y) (h : Dk w base b v s) (hJ : Jb w jb b nx lost) : JPost base b jb v s nx lost w y :=
 ⟨v, h.below hbel, Blk.below hJ hbel (Blk.lt hJ), (Only.of_below (P := fun _ => False) hbel).mono (fun _ _ q => q.elim), fun _ q => .inl q⟩
theorem secs_fit (l : List Wr1) (size : Int) (hs : size ≤ 1024) (h : l.any (freeP size) = false) : ∀ z ∈ secs (filled l), fitsP z 4 := fun z hz => by
 simp only [secs, filled, List.mem_map, List.mem_append] at hz
 obtain ⟨x, hx, rfl⟩ := hz
 rcases hx with hx | hx
 ·have := List.any_eq_false.1 h x hx
  simp [freeP] at this
  exact fits4j _ (by omega) (by omega)
 ·have := List.eq_of_mem_replicate hx
  rw [this]
  exact fits4j _ (by decide) (by decide)
theorem ref_zero (l : List Wr1) (size : Int) (h : refE l size = 0) : l.length ≤ 16 ∧ l.any (freeP size) = false ∧ (secs l).Nodup ∧ l.any longP = false := by
 unfold refE at h
 split at h
 ·cases h
 ·split at h
  ·cases h
  ·split at h
   ·cases h
   ·split at h
    ·cases h
    ·rename_i h1 h2 h3 h4
     exact ⟨by omega, by simpa using h2, by simpa using h3, by simpa using h4⟩
end Go.Proofs.YtiellebdliifdaaGreatDoor
