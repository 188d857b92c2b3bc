import Derived.Test.YtilhilglokblpaaDoorQmf
import Derived.Great.BuildSlice
namespace Go.Proofs.YtilhilglokblpaaDoor
open Go.RowKit
set_option maxRecDepth 100000
theorem szP : (Tryd.prog.info? 64).map (·.size) = some 4 := by kernel_rfl
theorem fill_rung (l : List Value) (hl : l.length = 33) (z : Value) (hz : z = .agg #[.string ⟨#[]⟩, .int .u8 0, .int .u8 0, .int .u8 0, .int .u8 0, .int .u8 0, .int .u8 0, .int .u8 0, .int .u8 0, .int .u8 0, .int .u8 0, .int .u8 0, .int .u8 0, .int .u8 0, .int .u8 0, .int .u8 0, .int .u8 0, .int .u8 0, .int .u8 0, .int .u8 0, .int .u8 0, .int .u8 0, .int .u8 0, .int .u8 0, .int .u8 0, .int .u8 0, .int .u8 0, .int .u8 0, .int .u8 0, .int .u8 0, .int .u8 0, .int .u8 0, .int .u8 0]) : Instr.fill (fun i => some (i * 33, 33)) ((Array.range (1 * 33)).map (z.cells[· % z.cells.size]!)) [(0, .agg l.toArray)] = some l.toArray := by
  subst hz
  obtain ⟨x, r, rfl⟩ : ∃ x r, l = x :: r := List.exists_cons_of_length_pos (by omega)
  have hr : r.length = 32 := by simpa using hl
  match r, hr with
  | [a0, a1, a2, a3, a4, a5, a6, a7, a8, a9, a10, a11, a12, a13, a14, a15, a16, a17, a18, a19, a20, a21, a22, a23, a24, a25, a26, a27, a28, a29, a30, a31], _ =>
    show Instr.fill _ _ _ = _
    kernel_rfl
theorem wp_rung1 {o : Oper} {a : Act} {w : World} {K : Act → World → Prop} {Q : Exit → Act → World → Prop} (x : Operand) (ho : o.op = .buildSlice 61 1 #[(0, x)]) (l : List Value) (hl : l.length = 33) (hx : a.eval x = .agg l.toArray)
    (h : K (a.put o.dst (.slice (some ⟨w.heap.size, 0, none⟩) 1 1)) (w.alloc (.cells l.toArray 93))) : o.wp Tryd.prog a w K Q := by
  obtain ⟨ie, hi, h0, h1, h2⟩ := info_parts inR
  refine wp_buildSlice 61 93 1 _ ho l.toArray ie (.agg #[.string ⟨#[]⟩, .int .u8 0, .int .u8 0, .int .u8 0, .int .u8 0, .int .u8 0, .int .u8 0, .int .u8 0, .int .u8 0, .int .u8 0, .int .u8 0, .int .u8 0, .int .u8 0, .int .u8 0, .int .u8 0, .int .u8 0, .int .u8 0, .int .u8 0, .int .u8 0, .int .u8 0, .int .u8 0, .int .u8 0, .int .u8 0, .int .u8 0, .int .u8 0, .int .u8 0, .int .u8 0, .int .u8 0, .int .u8 0, .int .u8 0, .int .u8 0, .int .u8 0, .int .u8 0]) Tryd.underlying61 hi h0 (by rw [h1]; decide) (by rw [h1]; decide) ?_ h
  rw [h1]
  simp only [List.map_toArray, List.map_cons, List.map_nil, hx]
  exact fill_rung l hl _ rfl
theorem rg_new (w : World) (T : TypeId) (cs : List Value) (j : Nat) (u : Value) (hu : cs[j]? = some u) : (w.alloc (.cells cs.toArray T)).cell? (Addr.add ⟨w.heap.size, 0, none⟩ j) = some u := by
  rw [Addr.add_mid, Nat.zero_add, (Blk.new w T cs.toArray).cell j, ← hu]
  simp
theorem up_len : ∀ (n i : Nat) (s : ByteArray) (P T : List ByteArray), up n i s P = some T → 1 ≤ n → T.length ≤ n := by
  intro n
  induction n using Nat.strongRecOn with
  | _ n ih =>
  intro i s P T h h1
  by_cases hn : n < 2
  · rw [up, dif_pos hn] at h
    split at h
    · cases h; simpa using h1
    · cases h
  · by_cases hP : P = []
    · rw [hP, up_nil n i s (by omega)] at h; cases h
    · have k1 := kk_pos n
      have k2 := kk_lt n (by omega)
      obtain ⟨Q, b, rfl⟩ := list_last P hP
      by_cases hb : b.size = 32
      · by_cases hk : i < kk n
        · rw [up_left n i s Q b (by omega) hb hk] at h
          obtain ⟨T', h', rfl⟩ := Option.map_eq_some_iff.1 h
          have := ih (kk n) k2 i s Q T' h' k1
          rw [List.length_append]
          simp only [List.length_singleton]
          omega
        · rw [up_right n i s Q b (by omega) hb hk] at h
          obtain ⟨T', h', rfl⟩ := Option.map_eq_some_iff.1 h
          have := ih (n - kk n) (by omega) (i - kk n) s Q T' h' (by omega)
          rw [List.length_append]
          simp only [List.length_singleton]
          omega
      · rw [up_bad n i s Q b (by omega) hb] at h; cases h
/-- what rungs answers -/
def RuQ (w : World) (n i : Nat) (s : ByteArray) (P : List ByteArray) (e : Ending) (w' : World) : Prop := Below w.heap.size w w' ∧ (∀ T, up n i s P = some T → ∃ v, e = .returned (.tuple #[v, .bool true]) ∧ w'.ownsRow w.heap.size 93 33 v T.length (rgC T)) ∧ (up n i s P = none → ∃ v, e = .returned (.tuple #[v, .bool false]))
set_option maxHeartbeats 4000000 in
theorem rungs_any (root : ByteArray) (N I0 : Int) (s : ByteArray) (hs : s.size ≤ 140737488355000) : ∀ (n i : Nat) (P : List ByteArray) (q : Nat), P.length = q → ∀ (w : World) (B c : Nat) (p : Option Addr), 1 ≤ n → n ≤ 65536 → i < n → SB w B p P → B ≤ w.heap.size → KTab w → q ≤ c → c ≤ 9223372036854775807 → Calls Tryd.prog 43 #[PV root N I0, .int .i64 (n : Int), .int .i64 (i : Int), .string s, .slice p q c] w (RuQ w n i s P) := by
  intro n
  induction n using Nat.strongRecOn with
  | _ n ih =>
  intro i P q hq w B c p hn1 hn hin hS hB hK hqc hc9
  obtain ⟨h, hh⟩ : ∃ h, w.heap.size = h := ⟨_, rfl⟩
  obtain ⟨pv, hpv⟩ : ∃ l : List Value, [.string root, .int .i64 N, .int .i64 I0, .func (.func 20) #[] #[]] = l := ⟨_, rfl⟩
  have hPV : PV root N I0 = .agg pv.toArray := by rw [← hpv]; rfl
  obtain ⟨x1, hx1⟩ : ∃ q, w.alloc (.cells pv.toArray 64) = q := ⟨_, rfl⟩
  have HE1 := hide (show x1.heap.size = h + 1 from by rw [← hx1]; simp [hh])
  have HB0 := hide (show Below h w x1 from by rw [← hx1, ← hh]; exact (Below.refl _ w).alloc (Nat.le_refl _) _)
  have HKB := hide (show ∀ W, Below (h + 1) x1 W → KTab W from fun W hW => (hK.below (unhide HB0) (by rw [← hh]; exact hK.1)).below hW (by have := hK.1; omega))
  have HPL := hide (show pv.length = 4 from by rw [← hpv]; rfl)
  have HPR := hide (show ∀ W, Below (h + 1) x1 W → W.rangeAt h 0 pv from fun W hW => rangeAt_below (by
    rw [← hx1, ← hh]
    intro j v hv
    rw [Nat.zero_add, (Blk.new w 64 pv.toArray).cell j, ← hv]
    simp) hW (by omega))
  by_cases hn2 : n = 1
  · subst hn2
    have HLT := hide (fun W => leafText_any s hs W)
    have hsz : (mk0 ++ s).size < 2305843009213693952 := by rw [ByteArray.size_append, mk0_size]; omega
    have HRO := hide (fun W (hW : Below (h + 1) x1 W) => rungOf_any root N I0 (mk0 ++ s) W (unhide HKB W hW) hsz)
    obtain ⟨bz, hbz⟩ : ∃ b, ((q : Int) == 0) = b := ⟨_, rfl⟩
    have HE := hide (show ∀ y, Below (h + 1) x1 y → RuQ w 1 i s P (.returned (.tuple #[.slice (some ⟨y.heap.size, 0, none⟩) 1 1, .bool bz])) (y.alloc (.cells (rC (mk0 ++ s)).toArray 93)) from fun y hy => by
      have hys : h + 1 ≤ y.heap.size := by have := hy.size; rw [unhide HE1] at this; exact this
      refine ⟨by rw [hh]; exact ((unhide HB0).trans (hy.mono (by omega))).alloc (by omega) _, fun T hT => ?_, fun hT => ?_⟩
      · by_cases hP : P = []
        · subst hP
          rw [up_one 1 i s (by omega)] at hT
          obtain rfl : [mk0 ++ s] = T := by simpa using hT
          obtain rfl : q = 0 := by simpa using hq.symm
          refine ⟨_, by rw [← hbz]; rfl, ?_⟩
          rw [show rgC [mk0 ++ s] = rC (mk0 ++ s) from by simp [rgC]]
          refine ⟨by rw [rC_len]; rfl, .inr ⟨y.heap.size, 1, (rC (mk0 ++ s)).toArray, rfl, by omega, Blk.new y _ _, Nat.le_refl _, by unfold maxLen; omega, by simp [rC_len], ?_⟩⟩
          exact List.take_of_length_le (by rw [show (rC (mk0 ++ s)).toArray.toList = rC (mk0 ++ s) from rfl, rC_len]; exact Nat.le_refl _)
        · rw [up_one_no 1 i s P (by omega) hP] at hT; cases hT
      · by_cases hP : P = []
        · rw [hP, up_one 1 i s (by omega)] at hT; cases hT
        · have : q ≠ 0 := by rw [← hq]; exact fun e => hP (List.eq_nil_of_length_eq_zero e)
          exact ⟨_, by rw [← hbz, show ((q : Int) == 0) = false from by simp; omega]⟩)
    have HLR := hide (rC_len (mk0 ++ s))
    generalize rC (mk0 ++ s) = cr at *
    generalize mk0 ++ s = u at *
    rw [hPV] at HRO ⊢
    clear hS hK ih hq hpv hPV hsz
    go_enter Tryd.func43, Tryd.ntmps43
    go_wp2_with fail
    refine wp_region_held_drew (S := fun W => Below (h + 1) x1 W) (by kernel_rfl) (Below.refl _ _).drew ?_
    intro hS
    refine wpAnyH_takeD 0 (some 22) (.agg pv.toArray) rfl rfl (by kernel_rfl) (by kernel_rfl) (by kernel_rfl) (fun _ _ _ h => h) (yieldsIf_load_mid (by rfl) 64 (.tmp 5) rfl h 0 rfl _ _ (fun w hSw => unhide HPR w hSw) Tryd.underlying64 rfl (by rw [szP, unhide HPL])) hS ?_
    simp only [Act.put, List.setIfInBounds_toArray, List.set_cons_zero, List.set_cons_succ]
    refine wpAnyH_takeD 1 (some 23) (.string s) rfl rfl (by kernel_rfl) (by kernel_rfl) (by kernel_rfl) (fun _ _ _ h => h) (Or.inl ⟨by rfl, fun w hSw => by clear hSw; go_simp; try (intro hbad; omega)⟩) hS ?_
    simp only [Act.put, List.setIfInBounds_toArray, List.set_cons_zero, List.set_cons_succ]
    refine wpAnyH_takeD 5 (some 27) (.slice p q c) rfl rfl (by kernel_rfl) (by kernel_rfl) (by kernel_rfl) (fun _ _ _ h => h) (Or.inl ⟨by rfl, fun w hSw => by clear hSw; go_simp; try (intro hbad; omega)⟩) hS ?_
    simp only [Act.put, List.setIfInBounds_toArray, List.set_cons_zero, List.set_cons_succ]
    refine wpAnyH_takeD 6 (some 28) (.int .i64 (q : Int)) rfl rfl (by kernel_rfl) (by kernel_rfl) (by kernel_rfl) (fun _ _ _ h => h) (Or.inl ⟨by rfl, fun w hSw => by clear hSw; go_simp; try (intro hbad; omega)⟩) hS ?_
    simp only [Act.put, List.setIfInBounds_toArray, List.set_cons_zero, List.set_cons_succ]
    refine wpAnyH_takeD 7 (some 29) (.bool bz) rfl rfl (by kernel_rfl) (by kernel_rfl) (by kernel_rfl) (fun _ _ _ h => h) (Or.inl ⟨by rfl, fun w hSw => by clear hSw; go_simp; try (intro hbad; omega)⟩) hS ?_
    simp only [Act.put, List.setIfInBounds_toArray, List.set_cons_zero, List.set_cons_succ]
    refine wpAnyH_ready (rs := [2]) (by kernel_rfl) (by simp) ?_
    refine AllReadyH.cons rfl (fun K hK => ?_) AllReadyH.nil
    simp only [List.getElem_toArray, List.getElem_cons_succ, List.getElem_cons_zero]
    go_simp
    refine (unhide HLT _).mono ?_
    rintro e y1 ⟨rfl, hy1⟩
    subst y1
    refine hK.out _ _ hS (fun hS => ?_)
    clear hK K
    refine wpAnyH_ready (rs := [3]) (by kernel_rfl) (by simp) ?_
    refine AllReadyH.cons rfl (fun K hK => ?_) AllReadyH.nil
    simp only [List.getElem_toArray, List.getElem_cons_succ, List.getElem_cons_zero]
    go_simp
    refine (unhide HRO _ hS).mono ?_
    rintro e y2 ⟨rfl, hb2⟩
    have HB2 := hide (show Below (h + 1) x1 y2 from hS.trans (hb2.mono (by have := hS.size; have := unhide HE1; omega)))
    clear hb2
    refine hK.out _ _ (unhide HB2) (fun hS => ?_)
    clear hK K
    refine wpAnyH_ready (rs := [4]) (by kernel_rfl) (by simp) ?_
    refine AllReadyH.cons rfl (fun K hK => ?_) AllReadyH.nil
    rw [if_pos (by rfl)]
    refine wp_rung1 (.tmp 25) rfl cr (unhide HLR) rfl ?_
    simp only [List.getElem_toArray, List.getElem_cons_succ, List.getElem_cons_zero, Act.put, List.setIfInBounds_toArray, List.set_cons_zero, List.set_cons_succ]
    refine hK.out _ _ ((unhide HB2).alloc (by have := (unhide HB2).size; have := unhide HE1; omega) _) (fun hS => ?_)
    clear hK K
    refine wpAnyH_takeD 8 (some 10) (.slice (some ⟨y2.heap.size, 0, none⟩) 1 1) rfl rfl (by kernel_rfl) (by kernel_rfl) (by kernel_rfl) (fun _ _ _ h => h) (Or.inl ⟨by rfl, fun w hSw => by clear hSw; go_simp; try (intro hbad; omega)⟩) hS ?_
    simp only [Act.put, List.setIfInBounds_toArray, List.set_cons_zero, List.set_cons_succ]
    refine wpAnyH_takeD 9 (some 11) (.bool bz) rfl rfl (by kernel_rfl) (by kernel_rfl) (by kernel_rfl) (fun _ _ _ h => h) (Or.inl ⟨by rfl, fun w hSw => by clear hSw; go_simp; try (intro hbad; omega)⟩) hS ?_
    simp only [Act.put, List.setIfInBounds_toArray, List.set_cons_zero, List.set_cons_succ]
    refine wpAnyH_done (by kernel_rfl) ?_ _
    go_wp2
    go_ret2
    exact unhide HE _ (unhide HB2)
  have k1 := kk_pos n
  have k2 := kk_lt n (by omega)
  have e4 : ((n : Int) == 1) = false := by simp; omega
  have hSx : ∀ W, Below (h + 1) x1 W → SB W B p P := fun W hW => (hS.below ((unhide HB0).mono (by omega))).below (hW.mono (by omega))
  have HCU0 := hide (cutLast_any P q hq x1 B c p (hSx x1 (Below.refl _ _)) (by rw [unhide HE1]; omega) hqc hc9)
  by_cases hno : ∀ Q b, P = Q ++ [b] → b.size ≠ 32
  · have hup : up n i s P = none := by
      by_cases hP : P = []
      · rw [hP]; exact up_nil n i s (by omega)
      · obtain ⟨Q, b, e⟩ := list_last P hP
        rw [e]
        exact up_bad n i s Q b (by omega) (hno Q b e)
    have HCU := hide ((unhide HCU0).mono (fun e z (hz : CuQ x1 p c P e z) => (show Below x1.heap.size x1 z ∧ ∃ (v : Value) (cb : List Value), cb.length = 32 ∧ (cb.toArray.all fun x => x.oneCell') = true ∧ e = .returned (.tuple #[v, .agg cb.toArray, .bool false]) from ⟨hz.1, by
      by_cases hP : P = []
      · exact ⟨_, _, dC_len _ zB_size, dC_all _, hz.2.1 hP⟩
      · obtain ⟨Q, b, e1⟩ := list_last P hP
        have := hz.2.2 Q b e1
        rw [decide_eq_false (hno Q b e1)] at this
        exact ⟨_, _, dC_len _ (rdB_size b), dC_all _, this⟩⟩)))
    have HE := hide (show ∀ z, Below h w z → RuQ w n i s P (.returned (.tuple #[.slice none 0 0, .bool false])) z from fun z hz => ⟨by rw [hh]; exact hz, fun T hT => (by rw [hup] at hT; exact nomatch hT), fun _ => ⟨_, rfl⟩⟩)
    rw [hPV]
    clear hS hK ih hq hpv hPV hup hno HCU0 hSx
    go_enter Tryd.func43, Tryd.ntmps43
    go_wp2_with fail
    refine (unhide HCU).mono ?_
    rintro e y1 ⟨hb1, v, cb, hlb, hcb1, rfl⟩
    have HLb := hide hlb
    have HK1 := hide hcb1
    have hs1 : h + 1 ≤ y1.heap.size := by have := hb1.size; rw [unhide HE1] at this; exact this
    have HB1 := hide (show Below h w y1 from (unhide HB0).trans (hb1.mono (by rw [unhide HE1]; omega)))
    clear hb1 hlb hcb1
    obtain ⟨gd, hgd⟩ : ∃ q, y1.heap.size = q := ⟨_, rfl⟩
    obtain ⟨x2, hx2⟩ : ∃ q, y1.alloc (.cells #[.int .u8 0, .int .u8 0, .int .u8 0, .int .u8 0, .int .u8 0, .int .u8 0, .int .u8 0, .int .u8 0, .int .u8 0, .int .u8 0, .int .u8 0, .int .u8 0, .int .u8 0, .int .u8 0, .int .u8 0, .int .u8 0, .int .u8 0, .int .u8 0, .int .u8 0, .int .u8 0, .int .u8 0, .int .u8 0, .int .u8 0, .int .u8 0, .int .u8 0, .int .u8 0, .int .u8 0, .int .u8 0, .int .u8 0, .int .u8 0, .int .u8 0, .int .u8 0] 46) = q := ⟨_, rfl⟩
    have HT2 := hide (show x2.there gd 0 32 from by rw [← hx2, ← hgd]; simpa using (zD_new y1).there)
    have HB2 := hide (show Below h w (x2.setCells gd 0 cb) from below_setCells (by omega) _ _ (by rw [← hx2]; exact (unhide HB1).alloc (by omega) _))
    go_wp2_with (refine wpList_store_mid rfl 46 (.tmp 13) (.tmp 34) rfl gd 0 cb.toArray rfl rfl (by simpa [unhide HLb] using unhide HT2) (by rw [szD]; simp [unhide HLb]) (unhide HK1) ?_)
    go_ret2
    exact unhide HE _ (unhide HB2)
  obtain ⟨Q, b, rfl, hbs⟩ : ∃ Q b, P = Q ++ [b] ∧ b.size = 32 := Classical.byContradiction (fun hc => hno (fun Q b e hb => hc ⟨Q, b, e, hb⟩))
  obtain ⟨qn, hqn⟩ : ∃ n, Q.length = n := ⟨_, rfl⟩
  obtain rfl : q = qn + 1 := by rw [← hq, List.length_append, hqn]; rfl
  obtain ⟨g, o, rfl, hgB, _⟩ := hS qn (by omega)
  have HCU := hide ((unhide HCU0).mono (fun e z (hz : CuQ x1 (some ⟨g, o, none⟩) c (Q ++ [b]) e z) => (show Below x1.heap.size x1 z ∧ e = .returned (.tuple #[.slice (some ⟨g, o, none⟩) qn c, .agg (dC b).toArray, .bool true]) from ⟨hz.1, by
    have := hz.2.2 Q b rfl
    rw [decide_eq_true hbs, hqn, rdB, if_pos hbs] at this
    exact this⟩)))
  have HSQ := hide (show ∀ W, Below (h + 1) x1 W → SB W B (some ⟨g, o, none⟩) Q from fun W hW => by
    have := (hSx W hW).take Q.length
    rw [List.take_left] at this
    exact this)
  have HFP := hide (fun W => firstPart_any n (by omega) hn W)
  have HLb := hide (dC_len b hbs)
  have HK1 := hide (dC_all b)
  obtain ⟨i0, hi, hz0, hz1, hz2⟩ := info_parts inR
  have HI := hide (And.intro hi (And.intro hz0 (And.intro hz1 hz2)))
  clear hi hz0 hz1 hz2 hno HCU0 hSx hq
  have hT : True := trivial
  by_cases hik : i < kk n
  · have e5 : (i : Int) < (kk n : Int) := by omega
    have HRE := hide (show ∀ W, Below (h + 1) x1 W → Calls Tryd.prog 43 #[PV root N I0, .int .i64 ((kk n : Nat) : Int), .int .i64 ((i : Nat) : Int), .string s, .slice (some ⟨g, o, none⟩) qn c] W (RuQ W (kk n) (i) s Q) from fun W hW => ih (kk n) (by omega) (i) Q qn hqn W B c _ (by omega) (by omega) (by omega) (unhide HSQ W hW) (by have := hW.size; have := unhide HE1; omega) (unhide HKB W hW) (by omega) (by omega))
    have hup := up_left n i s Q b (by omega) hbs hik
    cases hsub : up (kk n) (i) s Q with
    | none =>
      rw [hsub] at hup
      have HE := hide (show ∀ z, Below h w z → RuQ w n i s (Q ++ [b]) (.returned (.tuple #[.slice none 0 0, .bool false])) z from fun z hz => ⟨by rw [hh]; exact hz, fun T hT => (by rw [hup] at hT; exact nomatch hT), fun _ => ⟨_, rfl⟩⟩)
      have HRE2 := hide (fun (W : World) (hW : Below (h + 1) x1 W) => (unhide HRE W hW).mono (fun e z (hz : RuQ W (kk n) (i) s Q e z) => (show Below W.heap.size W z ∧ ∃ v, e = .returned (.tuple #[v, .bool false]) from ⟨hz.1, hz.2.2 hsub⟩)))
      clear hup hsub HRE ih hS hT hK
      generalize kk n = k at *
      generalize dC b = cb at *
      rw [hPV] at HRE2 ⊢
      clear hpv hPV
      go_enter Tryd.func43, Tryd.ntmps43
      go_wp2_with fail
      refine (unhide HCU).mono ?_
      rintro e y1 ⟨hb1, rfl⟩
      have HB1' := hide (show Below (h + 1) x1 y1 from hb1.mono (by rw [unhide HE1]; exact Nat.le_refl _))
      have hs1 : h + 1 ≤ y1.heap.size := by have := hb1.size; rw [unhide HE1] at this; exact this
      clear hb1
      obtain ⟨gd, hgd⟩ : ∃ q, y1.heap.size = q := ⟨_, rfl⟩
      obtain ⟨x2, hx2⟩ : ∃ q, y1.alloc (.cells #[.int .u8 0, .int .u8 0, .int .u8 0, .int .u8 0, .int .u8 0, .int .u8 0, .int .u8 0, .int .u8 0, .int .u8 0, .int .u8 0, .int .u8 0, .int .u8 0, .int .u8 0, .int .u8 0, .int .u8 0, .int .u8 0, .int .u8 0, .int .u8 0, .int .u8 0, .int .u8 0, .int .u8 0, .int .u8 0, .int .u8 0, .int .u8 0, .int .u8 0, .int .u8 0, .int .u8 0, .int .u8 0, .int .u8 0, .int .u8 0, .int .u8 0, .int .u8 0] 46) = q := ⟨_, rfl⟩
      have HT2 := hide (show x2.there gd 0 32 from by rw [← hx2, ← hgd]; simpa using (zD_new y1).there)
      have hb2 : Below (h + 1) x1 x2 := by rw [← hx2]; exact (unhide HB1').alloc (by omega) _
      have hs2 : x2.heap.size = gd + 1 := by rw [← hx2]; simp [hgd]
      obtain ⟨x3, hx3⟩ : ∃ q, x2.setCells gd 0 cb = q := ⟨_, rfl⟩
      have HCD3 := hide (show x3.rangeAt gd 0 cb from by rw [← hx3]; exact World.rangeAt_setCells_same x2 gd 0 cb (by rw [unhide HLb]; exact unhide HT2))
      have HB3 := hide (show Below (h + 1) x1 x3 from by rw [← hx3]; exact below_setCells (by omega) _ _ hb2)
      have HS3 := hide (show gd < x3.heap.size ∧ h + 1 ≤ gd from ⟨by have := (show Below gd x2 x3 from by rw [← hx3]; exact below_setCells (Nat.le_refl _) _ _ (Below.refl _ _)).size; omega, by omega⟩)
      have HW3 := hide (show Below h w x3 from (unhide HB0).trans ((unhide HB3).mono (by omega)))
      have HGD := hide hgd
      clear hb2 hs2
      go_wp2_with (first | refine wpList_store_mid rfl 46 (.tmp 13) (.tmp 34) rfl gd 0 cb.toArray rfl rfl (by simpa [unhide HLb] using unhide HT2) (by rw [szD]; simp [unhide HLb]) (unhide HK1) ?_ | fail)
      refine (unhide HFP _).mono ?_
      rintro e y9 ⟨rfl, hy9⟩
      subst y9
      go_wp2_with (refine wpList_load_mid rfl 64 (.tmp 5) rfl h 0 rfl _ _ (unhide HPR _ (unhide HB3)) Tryd.underlying64 rfl (by rw [szP, unhide HPL]) ?_)
      refine (unhide HRE2 _ (unhide HB3)).mono ?_
      rintro e y4 ⟨hb4, v, rfl⟩
      have HB4 := hide (show Below h w y4 from (unhide HW3).trans (hb4.mono (by have := unhide HS3; omega)))
      clear hb4
      go_wp2
      go_ret2
      exact unhide HE _ (unhide HB4)
    | some T =>
      rw [hsub] at hup
      obtain ⟨m, hTm⟩ : ∃ m, T.length = m + 1 := ⟨T.length - 1, by have := List.length_pos_iff.2 (up_ne hsub); omega⟩
      have hmn : m ≤ n := by have := up_len _ _ _ _ _ hsub (by omega); omega
      have hts : (mk1 ++ dg (T.getLastD ⟨#[]⟩) ++ b).size < 2305843009213693952 := by simp only [ByteArray.size_append, mk1_size, dg_size, hbs]; omega
      have HNT := hide (fun W => nodeText_any (dg (T.getLastD ⟨#[]⟩)) (b) (dg_size _) (hbs) W)
      have HTO0 := hide (fun W base gv cv (hW : W.ownsRow base 93 33 (.slice (some ⟨gv, 0, none⟩) (m + 1) cv) (m + 1) (rgC T)) => top_any T m cv base hTm (by omega) W gv hW)
      have HRE2 := hide (fun (W : World) (hW : Below (h + 1) x1 W) => (unhide HRE W hW).mono (fun e z (hz : RuQ W (kk n) (i) s Q e z) => (show Below W.heap.size W z ∧ ∃ v, e = .returned (.tuple #[v, .bool true]) ∧ z.ownsRow W.heap.size 93 33 v (m + 1) (rgC T) from ⟨hz.1, by have := hz.2.1 T hsub; rw [hTm] at this; exact this⟩)))
      have HRO0 := hide (fun W (hW : Below (h + 1) x1 W) => rungOf_any root N I0 (mk1 ++ dg (T.getLastD ⟨#[]⟩) ++ b) W (unhide HKB W hW) hts)
      have HLR := hide (rC_len (mk1 ++ dg (T.getLastD ⟨#[]⟩) ++ b))
      have HC1 := hide (rC_one (mk1 ++ dg (T.getLastD ⟨#[]⟩) ++ b))
      have HFF := hide (show ∀ b3, h ≤ b3 → ∀ g5 cap5 x5, x5.ownsRow b3 93 33 (.slice (some ⟨g5, 0, none⟩) (m + 1 + 1) cap5) (m + 1 + 1) (rgC T ++ rC (mk1 ++ dg (T.getLastD ⟨#[]⟩) ++ b)) → Below h w x5 → RuQ w n i s (Q ++ [b]) (.returned (.tuple #[.slice (some ⟨g5, 0, none⟩) (m + 1 + 1) cap5, .bool true])) x5 from fun b3 hb3 g5 cap5 x5 a1 a2 => ⟨by rw [hh]; exact a2, fun T' hT' => by
        rw [hup] at hT'
        obtain rfl : T ++ [mk1 ++ dg (T.getLastD ⟨#[]⟩) ++ b] = T' := by simpa using hT'
        refine ⟨_, rfl, ?_⟩
        rw [rgC_app, List.length_append, hTm, hh]
        exact a1.mono hb3, fun hn => by rw [hup] at hn; cases hn⟩)
      generalize rC (mk1 ++ dg (T.getLastD ⟨#[]⟩) ++ b) = cr at *
      generalize mk1 ++ dg (T.getLastD ⟨#[]⟩) ++ b = u at *
      generalize dC (dg (T.getLastD ⟨#[]⟩)) = ct at *
      generalize rgC T = cT at *
      clear hup hsub HRE ih hS hT hK hTm hts
      generalize kk n = k at *
      generalize dC b = cb at *
      rw [hPV] at HRE2 HRO0 ⊢
      clear hpv hPV
      go_enter Tryd.func43, Tryd.ntmps43
      go_wp2_with fail
      refine (unhide HCU).mono ?_
      rintro e y1 ⟨hb1, rfl⟩
      have HB1' := hide (show Below (h + 1) x1 y1 from hb1.mono (by rw [unhide HE1]; exact Nat.le_refl _))
      have hs1 : h + 1 ≤ y1.heap.size := by have := hb1.size; rw [unhide HE1] at this; exact this
      clear hb1
      obtain ⟨gd, hgd⟩ : ∃ q, y1.heap.size = q := ⟨_, rfl⟩
      obtain ⟨x2, hx2⟩ : ∃ q, y1.alloc (.cells #[.int .u8 0, .int .u8 0, .int .u8 0, .int .u8 0, .int .u8 0, .int .u8 0, .int .u8 0, .int .u8 0, .int .u8 0, .int .u8 0, .int .u8 0, .int .u8 0, .int .u8 0, .int .u8 0, .int .u8 0, .int .u8 0, .int .u8 0, .int .u8 0, .int .u8 0, .int .u8 0, .int .u8 0, .int .u8 0, .int .u8 0, .int .u8 0, .int .u8 0, .int .u8 0, .int .u8 0, .int .u8 0, .int .u8 0, .int .u8 0, .int .u8 0, .int .u8 0] 46) = q := ⟨_, rfl⟩
      have HT2 := hide (show x2.there gd 0 32 from by rw [← hx2, ← hgd]; simpa using (zD_new y1).there)
      have hb2 : Below (h + 1) x1 x2 := by rw [← hx2]; exact (unhide HB1').alloc (by omega) _
      have hs2 : x2.heap.size = gd + 1 := by rw [← hx2]; simp [hgd]
      obtain ⟨x3, hx3⟩ : ∃ q, x2.setCells gd 0 cb = q := ⟨_, rfl⟩
      have HCD3 := hide (show x3.rangeAt gd 0 cb from by rw [← hx3]; exact World.rangeAt_setCells_same x2 gd 0 cb (by rw [unhide HLb]; exact unhide HT2))
      have HB3 := hide (show Below (h + 1) x1 x3 from by rw [← hx3]; exact below_setCells (by omega) _ _ hb2)
      have HS3 := hide (show gd < x3.heap.size ∧ h + 1 ≤ gd from ⟨by have := (show Below gd x2 x3 from by rw [← hx3]; exact below_setCells (Nat.le_refl _) _ _ (Below.refl _ _)).size; omega, by omega⟩)
      have HW3 := hide (show Below h w x3 from (unhide HB0).trans ((unhide HB3).mono (by omega)))
      have HGD := hide hgd
      clear hb2 hs2
      go_wp2_with (first | refine wpList_store_mid rfl 46 (.tmp 13) (.tmp 34) rfl gd 0 cb.toArray rfl rfl (by simpa [unhide HLb] using unhide HT2) (by rw [szD]; simp [unhide HLb]) (unhide HK1) ?_ | fail)
      refine (unhide HFP _).mono ?_
      rintro e y9 ⟨rfl, hy9⟩
      subst y9
      go_wp2_with (refine wpList_load_mid rfl 64 (.tmp 5) rfl h 0 rfl _ _ (unhide HPR _ (unhide HB3)) Tryd.underlying64 rfl (by rw [szP, unhide HPL]) ?_)
      obtain ⟨b3, hb3⟩ : ∃ z, x3.heap.size = z := ⟨_, rfl⟩
      have HE3 := hide (show h + 1 < b3 ∧ gd < b3 from by have := unhide HS3; omega)
      have hle3 : h ≤ b3 := by have := (unhide HE3).1; omega
      refine (unhide HRE2 _ (unhide HB3)).mono ?_
      rintro e y4 ⟨hb4, v, rfl, ho4⟩
      rw [hb3] at hb4 ho4
      obtain ⟨gv, cv, rfl, _, _⟩ := ho4.form (by omega)
      have HB4 := hide hb4
      have HOW := hide ho4
      have HPR3 := hide (show ∀ W, Below b3 x3 W → W.rangeAt h 0 pv from fun W hW => rangeAt_below (unhide HPR _ (unhide HB3)) hW (by have := (unhide HE3).1; omega))
      have HCR := hide (show ∀ W, Below b3 x3 W → W.rangeAt gd 0 cb from fun W hW => rangeAt_below (unhide HCD3) hW (unhide HE3).2)
      have HTO := hide (fun W hW => unhide HTO0 W b3 gv cv hW)
      have HRO := hide (fun W (hW : Below b3 x3 W) => unhide HRO0 W ((unhide HB3).trans (hW.mono (by have := (unhide HE3).1; omega))))
      have HF9 := hide (fun g5 cap5 x5 a1 (a2 : Below b3 x3 x5) => unhide HFF b3 hle3 g5 cap5 x5 a1 ((unhide HW3).trans (a2.mono hle3)))
      clear hb4 ho4 HFF HRO0 HTO0
      go_wp2_with fail
      refine wp_region_held_drew (S := fun W => Below b3 x3 W) (by kernel_rfl) (unhide HB4).drew ?_
      intro hS
      refine wpAnyH_takeD 0 (some 54) (.slice (some ⟨gv, 0, none⟩) (m + 1) cv) rfl rfl (by kernel_rfl) (by kernel_rfl) (by kernel_rfl) (fun _ _ _ h => h) (Or.inl ⟨by rfl, fun w hSw => by clear hSw; go_simp; try (intro hbad; omega)⟩) hS ?_
      simp only [Act.put, List.setIfInBounds_toArray, List.set_cons_zero, List.set_cons_succ]
      refine wpAnyH_takeD 1 (some 55) (.agg pv.toArray) rfl rfl (by kernel_rfl) (by kernel_rfl) (by kernel_rfl) (fun _ _ _ h => h) (yieldsIf_load_mid (by rfl) 64 (.tmp 5) rfl h 0 rfl _ _ (fun w hSw => unhide HPR3 w hSw) Tryd.underlying64 rfl (by rw [szP, unhide HPL])) hS ?_
      simp only [Act.put, List.setIfInBounds_toArray, List.set_cons_zero, List.set_cons_succ]
      refine wpAnyH_takeD 2 (some 56) (.slice (some ⟨gv, 0, none⟩) (m + 1) cv) rfl rfl (by kernel_rfl) (by kernel_rfl) (by kernel_rfl) (fun _ _ _ h => h) (Or.inl ⟨by rfl, fun w hSw => by clear hSw; go_simp; try (intro hbad; omega)⟩) hS ?_
      simp only [Act.put, List.setIfInBounds_toArray, List.set_cons_zero, List.set_cons_succ]
      refine wpAnyH_takeD 4 (some 58) (.agg cb.toArray) rfl rfl (by kernel_rfl) (by kernel_rfl) (by kernel_rfl) (fun _ _ _ h => h) (yieldsIf_load_mid (by rfl) 46 (.tmp 13) rfl gd 0 rfl _ _ (fun w hSw => unhide HCR w hSw) Tryd.underlying46 rfl (by rw [szD, unhide HLb])) hS ?_
      simp only [Act.put, List.setIfInBounds_toArray, List.set_cons_zero, List.set_cons_succ]
      refine wpAnyH_ready (rs := [3]) (by kernel_rfl) (by simp) ?_
      refine AllReadyH.cons rfl (fun K hK => ?_) AllReadyH.nil
      simp only [List.getElem_toArray, List.getElem_cons_succ, List.getElem_cons_zero]
      go_simp
      refine (unhide HTO _ (unhide HOW).drew).mono ?_
      rintro e y5 ⟨rfl, hb⟩
      have HO5 := hide (own_bel (unhide HOW).drew hb)
      have HB5 := hide (show Below b3 x3 y5 from hS.trans (hb.mono (by have := hS.size; omega)))
      clear hb
      refine hK.out _ _ (unhide HB5) (fun hS => ?_)
      clear hK K
      refine wpAnyH_ready (rs := [5]) (by kernel_rfl) (by simp) ?_
      refine AllReadyH.cons rfl (fun K hK => ?_) AllReadyH.nil
      simp only [List.getElem_toArray, List.getElem_cons_succ, List.getElem_cons_zero]
      go_simp
      refine (unhide HNT _).mono ?_
      rintro e y6 ⟨rfl, hb⟩
      have HO6 := hide (own_bel (unhide HO5) hb)
      have HB6 := hide (show Below b3 x3 y6 from hS.trans (hb.mono (by have := hS.size; omega)))
      clear hb HO5
      refine hK.out _ _ (unhide HB6) (fun hS => ?_)
      clear hK K
      refine wpAnyH_ready (rs := [6]) (by kernel_rfl) (by simp) ?_
      refine AllReadyH.cons rfl (fun K hK => ?_) AllReadyH.nil
      simp only [List.getElem_toArray, List.getElem_cons_succ, List.getElem_cons_zero]
      go_simp
      refine (unhide HRO _ hS).mono ?_
      rintro e y7 ⟨rfl, hb⟩
      have HO7 := hide ((own_bel (unhide HO6) hb).alloc (.cells cr.toArray 93))
      have HB7 := hide (show Below b3 x3 y7 from hS.trans (hb.mono (by have := hS.size; omega)))
      have hs7 : b3 ≤ y7.heap.size := by have := (unhide HB7).size; omega
      clear hb HO6
      refine hK.out _ _ (unhide HB7) (fun hS => ?_)
      clear hK K
      refine wpAnyH_ready (rs := [7]) (by kernel_rfl) (by simp) ?_
      refine AllReadyH.cons rfl (fun K hK => ?_) AllReadyH.nil
      rw [if_pos (by rfl)]
      refine wp_rung1 (.tmp 60) rfl cr (unhide HLR) rfl ?_
      simp only [List.getElem_toArray, List.getElem_cons_succ, List.getElem_cons_zero, Act.put, List.setIfInBounds_toArray, List.set_cons_zero, List.set_cons_succ]
      refine hK.out _ _ ((unhide HB7).alloc hs7 _) (fun hS => ?_)
      clear hK K
      refine wpAnyH_ready (rs := [8]) (by kernel_rfl) (by simp) ?_
      refine AllReadyH.cons rfl (fun K hK => ?_) AllReadyH.nil
      rw [if_pos (by rfl)]
      refine wp_append_lies _ (.tmp 54) (.tmp 61) 61 rfl b3 93 i0 (.agg #[.string ⟨#[]⟩, .int .u8 0, .int .u8 0, .int .u8 0, .int .u8 0, .int .u8 0, .int .u8 0, .int .u8 0, .int .u8 0, .int .u8 0, .int .u8 0, .int .u8 0, .int .u8 0, .int .u8 0, .int .u8 0, .int .u8 0, .int .u8 0, .int .u8 0, .int .u8 0, .int .u8 0, .int .u8 0, .int .u8 0, .int .u8 0, .int .u8 0, .int .u8 0, .int .u8 0, .int .u8 0, .int .u8 0, .int .u8 0, .int .u8 0, .int .u8 0, .int .u8 0, .int .u8 0]) 33 48 Tryd.underlying61 (unhide HI).1 (unhide HI).2.1 (unhide HI).2.2.1 (unhide HI).2.2.2 rfl (by decide) _ (m + 1) _ rfl (unhide HO7) ⟨y7.heap.size, 0, none⟩ 1 1 cr rfl (by rw [unhide HLR]) (fun j z hz => rg_new y7 93 cr j z hz) (unhide HC1) (by decide) (by unfold maxLen; omega) (by omega) (by simp; omega) (y7.heap.size + 1) (by simp) ?_
      intro g5 cap5 x5 ho5 hg5 _ _
      have HB8 := hide (show Below b3 x3 x5 from ((unhide HB7).alloc hs7 _).grown hg5 (by simp; omega) (fun k hk => ((unhide HO7).lt k hk).1))
      have HN := hide (unhide HF9 g5 cap5 x5 ho5 (unhide HB8))
      clear ho5 hg5 HO7 HB7
      simp only [List.getElem_toArray, List.getElem_cons_succ, List.getElem_cons_zero, Act.put, List.setIfInBounds_toArray, List.set_cons_zero, List.set_cons_succ]
      refine hK.out _ _ (unhide HB8) (fun hS => ?_)
      clear hK K
      refine wpAnyH_takeD 9 (some 10) (.slice (some ⟨g5, 0, none⟩) (m + 1 + 1) cap5) rfl rfl (by kernel_rfl) (by kernel_rfl) (by kernel_rfl) (fun _ _ _ h => h) (Or.inl ⟨by rfl, fun w hSw => by clear hSw; go_simp; try (intro hbad; omega)⟩) hS ?_
      simp only [Act.put, List.setIfInBounds_toArray, List.set_cons_zero, List.set_cons_succ]
      refine wpAnyH_takeD 10 (some 11) (.bool true) rfl rfl (by kernel_rfl) (by kernel_rfl) (by kernel_rfl) (fun _ _ _ h => h) (Or.inl ⟨by rfl, fun w hSw => by clear hSw; go_simp; try (intro hbad; omega)⟩) hS ?_
      simp only [Act.put, List.setIfInBounds_toArray, List.set_cons_zero, List.set_cons_succ]
      refine wpAnyH_done (by kernel_rfl) ?_ _
      go_wp2
      go_ret2
      exact unhide HN

  · have e5 : ¬ (i : Int) < (kk n : Int) := by omega
    have hd1 : ((n : Int) - (kk n : Int)) = ((n - kk n : Nat) : Int) := by omega
    have hd2 : IntKind.i64.wrap ((n - kk n : Nat) : Int) = ((n - kk n : Nat) : Int) := wrapI_eq _ (by omega) (by omega)
    have hd3 : ((i : Int) - (kk n : Int)) = ((i - kk n : Nat) : Int) := by omega
    have hd4 : IntKind.i64.wrap ((i - kk n : Nat) : Int) = ((i - kk n : Nat) : Int) := wrapI_eq _ (by omega) (by omega)
    have HRE := hide (show ∀ W, Below (h + 1) x1 W → Calls Tryd.prog 43 #[PV root N I0, .int .i64 ((n - kk n : Nat) : Int), .int .i64 ((i - kk n : Nat) : Int), .string s, .slice (some ⟨g, o, none⟩) qn c] W (RuQ W (n - kk n) (i - kk n) s Q) from fun W hW => ih (n - kk n) (by omega) (i - kk n) Q qn hqn W B c _ (by omega) (by omega) (by omega) (unhide HSQ W hW) (by have := hW.size; have := unhide HE1; omega) (unhide HKB W hW) (by omega) (by omega))
    have hup := up_right n i s Q b (by omega) hbs hik
    cases hsub : up (n - kk n) (i - kk n) s Q with
    | none =>
      rw [hsub] at hup
      have HE := hide (show ∀ z, Below h w z → RuQ w n i s (Q ++ [b]) (.returned (.tuple #[.slice none 0 0, .bool false])) z from fun z hz => ⟨by rw [hh]; exact hz, fun T hT => (by rw [hup] at hT; exact nomatch hT), fun _ => ⟨_, rfl⟩⟩)
      have HRE2 := hide (fun (W : World) (hW : Below (h + 1) x1 W) => (unhide HRE W hW).mono (fun e z (hz : RuQ W (n - kk n) (i - kk n) s Q e z) => (show Below W.heap.size W z ∧ ∃ v, e = .returned (.tuple #[v, .bool false]) from ⟨hz.1, hz.2.2 hsub⟩)))
      clear hup hsub HRE ih hS hT hK
      generalize n - kk n = n' at *
      generalize i - kk n = i' at *
      generalize kk n = k at *
      generalize dC b = cb at *
      rw [hPV] at HRE2 ⊢
      clear hpv hPV
      go_enter Tryd.func43, Tryd.ntmps43
      go_wp2_with fail
      refine (unhide HCU).mono ?_
      rintro e y1 ⟨hb1, rfl⟩
      have HB1' := hide (show Below (h + 1) x1 y1 from hb1.mono (by rw [unhide HE1]; exact Nat.le_refl _))
      have hs1 : h + 1 ≤ y1.heap.size := by have := hb1.size; rw [unhide HE1] at this; exact this
      clear hb1
      obtain ⟨gd, hgd⟩ : ∃ q, y1.heap.size = q := ⟨_, rfl⟩
      obtain ⟨x2, hx2⟩ : ∃ q, y1.alloc (.cells #[.int .u8 0, .int .u8 0, .int .u8 0, .int .u8 0, .int .u8 0, .int .u8 0, .int .u8 0, .int .u8 0, .int .u8 0, .int .u8 0, .int .u8 0, .int .u8 0, .int .u8 0, .int .u8 0, .int .u8 0, .int .u8 0, .int .u8 0, .int .u8 0, .int .u8 0, .int .u8 0, .int .u8 0, .int .u8 0, .int .u8 0, .int .u8 0, .int .u8 0, .int .u8 0, .int .u8 0, .int .u8 0, .int .u8 0, .int .u8 0, .int .u8 0, .int .u8 0] 46) = q := ⟨_, rfl⟩
      have HT2 := hide (show x2.there gd 0 32 from by rw [← hx2, ← hgd]; simpa using (zD_new y1).there)
      have hb2 : Below (h + 1) x1 x2 := by rw [← hx2]; exact (unhide HB1').alloc (by omega) _
      have hs2 : x2.heap.size = gd + 1 := by rw [← hx2]; simp [hgd]
      obtain ⟨x3, hx3⟩ : ∃ q, x2.setCells gd 0 cb = q := ⟨_, rfl⟩
      have HCD3 := hide (show x3.rangeAt gd 0 cb from by rw [← hx3]; exact World.rangeAt_setCells_same x2 gd 0 cb (by rw [unhide HLb]; exact unhide HT2))
      have HB3 := hide (show Below (h + 1) x1 x3 from by rw [← hx3]; exact below_setCells (by omega) _ _ hb2)
      have HS3 := hide (show gd < x3.heap.size ∧ h + 1 ≤ gd from ⟨by have := (show Below gd x2 x3 from by rw [← hx3]; exact below_setCells (Nat.le_refl _) _ _ (Below.refl _ _)).size; omega, by omega⟩)
      have HW3 := hide (show Below h w x3 from (unhide HB0).trans ((unhide HB3).mono (by omega)))
      have HGD := hide hgd
      clear hb2 hs2
      go_wp2_with (first | refine wpList_store_mid rfl 46 (.tmp 13) (.tmp 34) rfl gd 0 cb.toArray rfl rfl (by simpa [unhide HLb] using unhide HT2) (by rw [szD]; simp [unhide HLb]) (unhide HK1) ?_ | fail)
      refine (unhide HFP _).mono ?_
      rintro e y9 ⟨rfl, hy9⟩
      subst y9
      go_wp2_with (refine wpList_load_mid rfl 64 (.tmp 5) rfl h 0 rfl _ _ (unhide HPR _ (unhide HB3)) Tryd.underlying64 rfl (by rw [szP, unhide HPL]) ?_)
      refine (unhide HRE2 _ (unhide HB3)).mono ?_
      rintro e y4 ⟨hb4, v, rfl⟩
      have HB4 := hide (show Below h w y4 from (unhide HW3).trans (hb4.mono (by have := unhide HS3; omega)))
      clear hb4
      go_wp2
      go_ret2
      exact unhide HE _ (unhide HB4)
    | some T =>
      rw [hsub] at hup
      obtain ⟨m, hTm⟩ : ∃ m, T.length = m + 1 := ⟨T.length - 1, by have := List.length_pos_iff.2 (up_ne hsub); omega⟩
      have hmn : m ≤ n := by have := up_len _ _ _ _ _ hsub (by omega); omega
      have hts : (mk1 ++ b ++ dg (T.getLastD ⟨#[]⟩)).size < 2305843009213693952 := by simp only [ByteArray.size_append, mk1_size, dg_size, hbs]; omega
      have HNT := hide (fun W => nodeText_any (b) (dg (T.getLastD ⟨#[]⟩)) (hbs) (dg_size _) W)
      have HTO0 := hide (fun W base gv cv (hW : W.ownsRow base 93 33 (.slice (some ⟨gv, 0, none⟩) (m + 1) cv) (m + 1) (rgC T)) => top_any T m cv base hTm (by omega) W gv hW)
      have HRE2 := hide (fun (W : World) (hW : Below (h + 1) x1 W) => (unhide HRE W hW).mono (fun e z (hz : RuQ W (n - kk n) (i - kk n) s Q e z) => (show Below W.heap.size W z ∧ ∃ v, e = .returned (.tuple #[v, .bool true]) ∧ z.ownsRow W.heap.size 93 33 v (m + 1) (rgC T) from ⟨hz.1, by have := hz.2.1 T hsub; rw [hTm] at this; exact this⟩)))
      have HRO0 := hide (fun W (hW : Below (h + 1) x1 W) => rungOf_any root N I0 (mk1 ++ b ++ dg (T.getLastD ⟨#[]⟩)) W (unhide HKB W hW) hts)
      have HLR := hide (rC_len (mk1 ++ b ++ dg (T.getLastD ⟨#[]⟩)))
      have HC1 := hide (rC_one (mk1 ++ b ++ dg (T.getLastD ⟨#[]⟩)))
      have HFF := hide (show ∀ b3, h ≤ b3 → ∀ g5 cap5 x5, x5.ownsRow b3 93 33 (.slice (some ⟨g5, 0, none⟩) (m + 1 + 1) cap5) (m + 1 + 1) (rgC T ++ rC (mk1 ++ b ++ dg (T.getLastD ⟨#[]⟩))) → Below h w x5 → RuQ w n i s (Q ++ [b]) (.returned (.tuple #[.slice (some ⟨g5, 0, none⟩) (m + 1 + 1) cap5, .bool true])) x5 from fun b3 hb3 g5 cap5 x5 a1 a2 => ⟨by rw [hh]; exact a2, fun T' hT' => by
        rw [hup] at hT'
        obtain rfl : T ++ [mk1 ++ b ++ dg (T.getLastD ⟨#[]⟩)] = T' := by simpa using hT'
        refine ⟨_, rfl, ?_⟩
        rw [rgC_app, List.length_append, hTm, hh]
        exact a1.mono hb3, fun hn => by rw [hup] at hn; cases hn⟩)
      generalize rC (mk1 ++ b ++ dg (T.getLastD ⟨#[]⟩)) = cr at *
      generalize mk1 ++ b ++ dg (T.getLastD ⟨#[]⟩) = u at *
      generalize dC (dg (T.getLastD ⟨#[]⟩)) = ct at *
      generalize rgC T = cT at *
      clear hup hsub HRE ih hS hT hK hTm hts
      generalize n - kk n = n' at *
      generalize i - kk n = i' at *
      generalize kk n = k at *
      generalize dC b = cb at *
      rw [hPV] at HRE2 HRO0 ⊢
      clear hpv hPV
      go_enter Tryd.func43, Tryd.ntmps43
      go_wp2_with fail
      refine (unhide HCU).mono ?_
      rintro e y1 ⟨hb1, rfl⟩
      have HB1' := hide (show Below (h + 1) x1 y1 from hb1.mono (by rw [unhide HE1]; exact Nat.le_refl _))
      have hs1 : h + 1 ≤ y1.heap.size := by have := hb1.size; rw [unhide HE1] at this; exact this
      clear hb1
      obtain ⟨gd, hgd⟩ : ∃ q, y1.heap.size = q := ⟨_, rfl⟩
      obtain ⟨x2, hx2⟩ : ∃ q, y1.alloc (.cells #[.int .u8 0, .int .u8 0, .int .u8 0, .int .u8 0, .int .u8 0, .int .u8 0, .int .u8 0, .int .u8 0, .int .u8 0, .int .u8 0, .int .u8 0, .int .u8 0, .int .u8 0, .int .u8 0, .int .u8 0, .int .u8 0, .int .u8 0, .int .u8 0, .int .u8 0, .int .u8 0, .int .u8 0, .int .u8 0, .int .u8 0, .int .u8 0, .int .u8 0, .int .u8 0, .int .u8 0, .int .u8 0, .int .u8 0, .int .u8 0, .int .u8 0, .int .u8 0] 46) = q := ⟨_, rfl⟩
      have HT2 := hide (show x2.there gd 0 32 from by rw [← hx2, ← hgd]; simpa using (zD_new y1).there)
      have hb2 : Below (h + 1) x1 x2 := by rw [← hx2]; exact (unhide HB1').alloc (by omega) _
      have hs2 : x2.heap.size = gd + 1 := by rw [← hx2]; simp [hgd]
      obtain ⟨x3, hx3⟩ : ∃ q, x2.setCells gd 0 cb = q := ⟨_, rfl⟩
      have HCD3 := hide (show x3.rangeAt gd 0 cb from by rw [← hx3]; exact World.rangeAt_setCells_same x2 gd 0 cb (by rw [unhide HLb]; exact unhide HT2))
      have HB3 := hide (show Below (h + 1) x1 x3 from by rw [← hx3]; exact below_setCells (by omega) _ _ hb2)
      have HS3 := hide (show gd < x3.heap.size ∧ h + 1 ≤ gd from ⟨by have := (show Below gd x2 x3 from by rw [← hx3]; exact below_setCells (Nat.le_refl _) _ _ (Below.refl _ _)).size; omega, by omega⟩)
      have HW3 := hide (show Below h w x3 from (unhide HB0).trans ((unhide HB3).mono (by omega)))
      have HGD := hide hgd
      clear hb2 hs2
      go_wp2_with (first | refine wpList_store_mid rfl 46 (.tmp 13) (.tmp 34) rfl gd 0 cb.toArray rfl rfl (by simpa [unhide HLb] using unhide HT2) (by rw [szD]; simp [unhide HLb]) (unhide HK1) ?_ | fail)
      refine (unhide HFP _).mono ?_
      rintro e y9 ⟨rfl, hy9⟩
      subst y9
      go_wp2_with (refine wpList_load_mid rfl 64 (.tmp 5) rfl h 0 rfl _ _ (unhide HPR _ (unhide HB3)) Tryd.underlying64 rfl (by rw [szP, unhide HPL]) ?_)
      obtain ⟨b3, hb3⟩ : ∃ z, x3.heap.size = z := ⟨_, rfl⟩
      have HE3 := hide (show h + 1 < b3 ∧ gd < b3 from by have := unhide HS3; omega)
      have hle3 : h ≤ b3 := by have := (unhide HE3).1; omega
      refine (unhide HRE2 _ (unhide HB3)).mono ?_
      rintro e y4 ⟨hb4, v, rfl, ho4⟩
      rw [hb3] at hb4 ho4
      obtain ⟨gv, cv, rfl, _, _⟩ := ho4.form (by omega)
      have HB4 := hide hb4
      have HOW := hide ho4
      have HPR3 := hide (show ∀ W, Below b3 x3 W → W.rangeAt h 0 pv from fun W hW => rangeAt_below (unhide HPR _ (unhide HB3)) hW (by have := (unhide HE3).1; omega))
      have HCR := hide (show ∀ W, Below b3 x3 W → W.rangeAt gd 0 cb from fun W hW => rangeAt_below (unhide HCD3) hW (unhide HE3).2)
      have HTO := hide (fun W hW => unhide HTO0 W b3 gv cv hW)
      have HRO := hide (fun W (hW : Below b3 x3 W) => unhide HRO0 W ((unhide HB3).trans (hW.mono (by have := (unhide HE3).1; omega))))
      have HF9 := hide (fun g5 cap5 x5 a1 (a2 : Below b3 x3 x5) => unhide HFF b3 hle3 g5 cap5 x5 a1 ((unhide HW3).trans (a2.mono hle3)))
      clear hb4 ho4 HFF HRO0 HTO0
      go_wp2_with fail
      refine wp_region_held_drew (S := fun W => Below b3 x3 W) (by kernel_rfl) (unhide HB4).drew ?_
      intro hS
      refine wpAnyH_takeD 0 (some 78) (.slice (some ⟨gv, 0, none⟩) (m + 1) cv) rfl rfl (by kernel_rfl) (by kernel_rfl) (by kernel_rfl) (fun _ _ _ h => h) (Or.inl ⟨by rfl, fun w hSw => by clear hSw; go_simp; try (intro hbad; omega)⟩) hS ?_
      simp only [Act.put, List.setIfInBounds_toArray, List.set_cons_zero, List.set_cons_succ]
      refine wpAnyH_takeD 1 (some 79) (.agg pv.toArray) rfl rfl (by kernel_rfl) (by kernel_rfl) (by kernel_rfl) (fun _ _ _ h => h) (yieldsIf_load_mid (by rfl) 64 (.tmp 5) rfl h 0 rfl _ _ (fun w hSw => unhide HPR3 w hSw) Tryd.underlying64 rfl (by rw [szP, unhide HPL])) hS ?_
      simp only [Act.put, List.setIfInBounds_toArray, List.set_cons_zero, List.set_cons_succ]
      refine wpAnyH_takeD 2 (some 80) (.agg cb.toArray) rfl rfl (by kernel_rfl) (by kernel_rfl) (by kernel_rfl) (fun _ _ _ h => h) (yieldsIf_load_mid (by rfl) 46 (.tmp 13) rfl gd 0 rfl _ _ (fun w hSw => unhide HCR w hSw) Tryd.underlying46 rfl (by rw [szD, unhide HLb])) hS ?_
      simp only [Act.put, List.setIfInBounds_toArray, List.set_cons_zero, List.set_cons_succ]
      refine wpAnyH_takeD 3 (some 81) (.slice (some ⟨gv, 0, none⟩) (m + 1) cv) rfl rfl (by kernel_rfl) (by kernel_rfl) (by kernel_rfl) (fun _ _ _ h => h) (Or.inl ⟨by rfl, fun w hSw => by clear hSw; go_simp; try (intro hbad; omega)⟩) hS ?_
      simp only [Act.put, List.setIfInBounds_toArray, List.set_cons_zero, List.set_cons_succ]
      refine wpAnyH_ready (rs := [4]) (by kernel_rfl) (by simp) ?_
      refine AllReadyH.cons rfl (fun K hK => ?_) AllReadyH.nil
      simp only [List.getElem_toArray, List.getElem_cons_succ, List.getElem_cons_zero]
      go_simp
      refine (unhide HTO _ (unhide HOW).drew).mono ?_
      rintro e y5 ⟨rfl, hb⟩
      have HO5 := hide (own_bel (unhide HOW).drew hb)
      have HB5 := hide (show Below b3 x3 y5 from hS.trans (hb.mono (by have := hS.size; omega)))
      clear hb
      refine hK.out _ _ (unhide HB5) (fun hS => ?_)
      clear hK K
      refine wpAnyH_ready (rs := [5]) (by kernel_rfl) (by simp) ?_
      refine AllReadyH.cons rfl (fun K hK => ?_) AllReadyH.nil
      simp only [List.getElem_toArray, List.getElem_cons_succ, List.getElem_cons_zero]
      go_simp
      refine (unhide HNT _).mono ?_
      rintro e y6 ⟨rfl, hb⟩
      have HO6 := hide (own_bel (unhide HO5) hb)
      have HB6 := hide (show Below b3 x3 y6 from hS.trans (hb.mono (by have := hS.size; omega)))
      clear hb HO5
      refine hK.out _ _ (unhide HB6) (fun hS => ?_)
      clear hK K
      refine wpAnyH_ready (rs := [6]) (by kernel_rfl) (by simp) ?_
      refine AllReadyH.cons rfl (fun K hK => ?_) AllReadyH.nil
      simp only [List.getElem_toArray, List.getElem_cons_succ, List.getElem_cons_zero]
      go_simp
      refine (unhide HRO _ hS).mono ?_
      rintro e y7 ⟨rfl, hb⟩
      have HO7 := hide ((own_bel (unhide HO6) hb).alloc (.cells cr.toArray 93))
      have HB7 := hide (show Below b3 x3 y7 from hS.trans (hb.mono (by have := hS.size; omega)))
      have hs7 : b3 ≤ y7.heap.size := by have := (unhide HB7).size; omega
      clear hb HO6
      refine hK.out _ _ (unhide HB7) (fun hS => ?_)
      clear hK K
      refine wpAnyH_ready (rs := [7]) (by kernel_rfl) (by simp) ?_
      refine AllReadyH.cons rfl (fun K hK => ?_) AllReadyH.nil
      rw [if_pos (by rfl)]
      refine wp_rung1 (.tmp 84) rfl cr (unhide HLR) rfl ?_
      simp only [List.getElem_toArray, List.getElem_cons_succ, List.getElem_cons_zero, Act.put, List.setIfInBounds_toArray, List.set_cons_zero, List.set_cons_succ]
      refine hK.out _ _ ((unhide HB7).alloc hs7 _) (fun hS => ?_)
      clear hK K
      refine wpAnyH_ready (rs := [8]) (by kernel_rfl) (by simp) ?_
      refine AllReadyH.cons rfl (fun K hK => ?_) AllReadyH.nil
      rw [if_pos (by rfl)]
      refine wp_append_lies _ (.tmp 78) (.tmp 85) 61 rfl b3 93 i0 (.agg #[.string ⟨#[]⟩, .int .u8 0, .int .u8 0, .int .u8 0, .int .u8 0, .int .u8 0, .int .u8 0, .int .u8 0, .int .u8 0, .int .u8 0, .int .u8 0, .int .u8 0, .int .u8 0, .int .u8 0, .int .u8 0, .int .u8 0, .int .u8 0, .int .u8 0, .int .u8 0, .int .u8 0, .int .u8 0, .int .u8 0, .int .u8 0, .int .u8 0, .int .u8 0, .int .u8 0, .int .u8 0, .int .u8 0, .int .u8 0, .int .u8 0, .int .u8 0, .int .u8 0, .int .u8 0]) 33 48 Tryd.underlying61 (unhide HI).1 (unhide HI).2.1 (unhide HI).2.2.1 (unhide HI).2.2.2 rfl (by decide) _ (m + 1) _ rfl (unhide HO7) ⟨y7.heap.size, 0, none⟩ 1 1 cr rfl (by rw [unhide HLR]) (fun j z hz => rg_new y7 93 cr j z hz) (unhide HC1) (by decide) (by unfold maxLen; omega) (by omega) (by simp; omega) (y7.heap.size + 1) (by simp) ?_
      intro g5 cap5 x5 ho5 hg5 _ _
      have HB8 := hide (show Below b3 x3 x5 from ((unhide HB7).alloc hs7 _).grown hg5 (by simp; omega) (fun k hk => ((unhide HO7).lt k hk).1))
      have HN := hide (unhide HF9 g5 cap5 x5 ho5 (unhide HB8))
      clear ho5 hg5 HO7 HB7
      simp only [List.getElem_toArray, List.getElem_cons_succ, List.getElem_cons_zero, Act.put, List.setIfInBounds_toArray, List.set_cons_zero, List.set_cons_succ]
      refine hK.out _ _ (unhide HB8) (fun hS => ?_)
      clear hK K
      refine wpAnyH_takeD 9 (some 10) (.slice (some ⟨g5, 0, none⟩) (m + 1 + 1) cap5) rfl rfl (by kernel_rfl) (by kernel_rfl) (by kernel_rfl) (fun _ _ _ h => h) (Or.inl ⟨by rfl, fun w hSw => by clear hSw; go_simp; try (intro hbad; omega)⟩) hS ?_
      simp only [Act.put, List.setIfInBounds_toArray, List.set_cons_zero, List.set_cons_succ]
      refine wpAnyH_takeD 10 (some 11) (.bool true) rfl rfl (by kernel_rfl) (by kernel_rfl) (by kernel_rfl) (fun _ _ _ h => h) (Or.inl ⟨by rfl, fun w hSw => by clear hSw; go_simp; try (intro hbad; omega)⟩) hS ?_
      simp only [Act.put, List.setIfInBounds_toArray, List.set_cons_zero, List.set_cons_succ]
      refine wpAnyH_done (by kernel_rfl) ?_ _
      go_wp2
      go_ret2
      exact unhide HN

end Go.Proofs.YtilhilglokblpaaDoor
