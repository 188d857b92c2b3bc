import Derived.Test.YtolblldpdgfkmaaDoorGpk
namespace Go.Proofs.YtolblldpdgfkmaaDoor
open Go.RowKit
set_option maxRecDepth 100000
theorem iload_blk {W : World} {b : Nat} {cur : Array Value} {T : TypeId} (ty : TypeId) (d : TypeDesc) (h : Blk W b cur T) (hu : Tryd.prog.underlying ty = some d) (hd : d.isRow = true) (hi : (Tryd.prog.info? ty).map (·.size) = some cur.size) : (loadVar ty ⟨b, 0, none⟩).run Tryd.prog W = .ok (.agg cur) W := by
  refine run_loadVar_mid (P := Tryd.prog) W b 0 ty cur.toList _ (fun j v hv => ?_) hu hd (by simpa using hi)
  rw [Nat.zero_add, h.cell]
  simpa using hv
def aggE : Value := .agg #[.slice none 0 0, .slice none 0 0]
/-- what firstOf answers, of numbers that may be -/
def FfQ (L : List ByteArray) (N n : Nat) (w : World) (e : Ending) (w' : World) : Prop := Below w.heap.size w w' ∧ (¬ frm L N → e = .returned (.tuple #[aggE, .int .i64 181])) ∧ (frm L N → (thr L N).length < n → e = .returned (.tuple #[aggE, .int .i64 182])) ∧ (frm L N → n ≤ (thr L N).length → ∃ pn cn ps cs len, e = .returned (.tuple #[.agg #[.slice pn n cn, .slice ps n cs], .int .i64 0]) ∧ len ≤ 60004 ∧ (∀ r, r < n → sz L ((thr L N).getD r 0) = len) ∧ FoM w' w'.heap.size n len pn ps (fun r => (thr L N).getD r 0) (fun r q => gB (L.getD ((thr L N).getD r 0) ByteArray.empty) q))
theorem pfirst_bad (w : World) (N c : Nat) (p : Option Addr) (n m : Int) (h : cntB n m = false ∨ (N : Int) ≠ n + m) (hn : -100 ≤ n + m ∧ n + m ≤ 100 ∨ cntB n m = false) : Calls Tryd.prog 18 #[.slice p N c, .int .i64 n, .int .i64 m] w fun e w' => e = .returned (.tuple #[aggE, .int .i64 180]) ∧ Below w.heap.size w w' := by
  have HC := hide (fun W => pmay_any n m W)
  obtain ⟨wb, hwb⟩ : ∃ q, w.alloc (.cells #[.slice none 0 0, .slice none 0 0] 43) = q := ⟨_, rfl⟩
  have HW := hide (show Below w.heap.size w wb ∧ Blk wb w.heap.size #[.slice none 0 0, .slice none 0 0] 43 from by
    subst hwb
    exact ⟨(Below.refl _ _).alloc (Nat.le_refl _) _, Blk.new w _ _⟩)
  have r0 := (unhide HW).2.cell 0
  have r1 := (unhide HW).2.cell 1
  have s0 := (unhide HW).2.frozen 0
  have s1 := (unhide HW).2.frozen 1
  have HFIN := hide (show ((wb.setCell ⟨w.heap.size, 0, none⟩ (.slice none 0 0)).setCell ⟨w.heap.size, 1, none⟩ (.slice none 0 0)).heap[w.heap.size]? = some (.cells #[.slice none 0 0, .slice none 0 0] 43 (0, 0)) ∧ Below w.heap.size w ((wb.setCell ⟨w.heap.size, 0, none⟩ (.slice none 0 0)).setCell ⟨w.heap.size, 1, none⟩ (.slice none 0 0)) from ⟨((unhide HW).2.set 0 _).set 1 _, ((unhide HW).1.setCell (p := ⟨w.heap.size, 0, none⟩) (Nat.le_refl _) _).setCell (p := ⟨w.heap.size, 1, none⟩) (Nat.le_refl _) _⟩)
  cases hc : cntB n m with
  | false =>
    rw [hc] at HC
    clear h hn
    go_enter Tryd.func18, Tryd.ntmps18
    go_wp2_with fail
    refine (unhide HC _).mono ?_
    rintro e w' ⟨rfl, hw'⟩
    subst w'
    go_wp2
    have hld := iload_blk 43 _ (unhide HFIN).1 Tryd.underlying43 rfl (by kernel_rfl)
    exact bodyPost_ret (v := .tuple #[aggE, .int .i64 180]) (results_cell2 (p := 6) (q := 7) (ty := 43) rfl _ _ _ ⟨w.heap.size, 0, none⟩ rfl _ hld) rfl ⟨rfl, (unhide HFIN).2⟩
  | true =>
    rw [hc] at HC h hn
    have h1 : (N : Int) ≠ n + m := by
      rcases h with q | q
      · cases q
      · exact q
    have h2 : -100 ≤ n + m ∧ n + m ≤ 100 := by
      rcases hn with q | q
      · exact q
      · cases q
    have hw : wrap64 (n + m) = n + m := wrap64_eq _ (by omega) (by omega)
    have hne : ((N : Int) != n + m) = true := by simp [h1]
    clear h hn
    go_enter Tryd.func18, Tryd.ntmps18
    go_wp2_with fail
    refine (unhide HC _).mono ?_
    rintro e w' ⟨rfl, hw'⟩
    subst w'
    go_wp2
    have hld := iload_blk 43 _ (unhide HFIN).1 Tryd.underlying43 rfl (by kernel_rfl)
    exact bodyPost_ret (v := .tuple #[aggE, .int .i64 180]) (results_cell2 (p := 6) (q := 7) (ty := 43) rfl _ _ _ ⟨w.heap.size, 0, none⟩ rfl _ hld) rfl ⟨rfl, (unhide HFIN).2⟩
/-- what has been found of the first k -/
structure FoK (L : List ByteArray) (w : World) (gf n k ln : Nat) (un us : Value) (v : Nat → Value) (wr : World) : Prop where
  g : FoG w gf wr un us ((thr L k).take n) ((thr L k).take n).length ln v (fun r => L.getD (((thr L k).take n).getD r 0) ByteArray.empty)
  le : ln ≤ 60004
  eq : ∀ j, j < k → sz L j ≠ 0 → sz L j = ln
  no : ln = 0 → ∀ j, j < k → sz L j = 0
  yes : ln ≠ 0 → ∃ j, j < k ∧ sz L j = ln
theorem thr_mem (L : List ByteArray) (k j : Nat) (h : j ∈ thr L k) : j < k ∧ sz L j ≠ 0 := by
  unfold thr at h
  rw [List.mem_filter, List.mem_range] at h
  exact ⟨h.1, by simpa using h.2⟩
theorem thr_none (L : List ByteArray) (k : Nat) (h : ∀ j, j < k → sz L j = 0) : thr L k = [] := by
  refine List.eq_nil_iff_forall_not_mem.2 (fun j hj => ?_)
  have := thr_mem L k j hj
  exact this.2 (h j this.1)
theorem FoG.ends {w : World} {gf : Nat} {wr : World} {un us : Value} {NL : List Nat} {ts ln : Nat} {v : Nat → Value} {TX : Nat → ByteArray} (h : FoG w gf wr un us NL ts ln v TX) (a b : Value) : Blk ((wr.setCell ⟨w.heap.size, 0, none⟩ a).setCell ⟨w.heap.size, 1, none⟩ b) w.heap.size #[a, b] 43 ∧ Below w.heap.size w ((wr.setCell ⟨w.heap.size, 0, none⟩ a).setCell ⟨w.heap.size, 1, none⟩ b) :=
  ⟨(h.res.set 0 a).set 1 b, (h.bel.setCell (p := ⟨w.heap.size, 0, none⟩) (Nat.le_refl _) _).setCell (p := ⟨w.heap.size, 1, none⟩) (Nat.le_refl _) _⟩
theorem FoG.fom {w : World} {gf : Nat} {wr : World} {p1 p2 : Option Addr} {c1 c2 : Nat} {NL : List Nat} {ts ln n : Nat} {v : Nat → Value} {TX : Nat → ByteArray} (h : FoG w gf wr (.slice p1 n c1) (.slice p2 n c2) NL ts ln v TX) (hn : NL.length = n) (ht : ts = n) (a b : Value) : FoM ((wr.setCell ⟨w.heap.size, 0, none⟩ a).setCell ⟨w.heap.size, 1, none⟩ b) wr.heap.size n ln p1 p2 (fun r => NL.getD r 0) (fun r q => gB (TX r) q) := by
  subst ht
  have far : ∀ q k, w.heap.size < q → ((wr.setCell ⟨w.heap.size, 0, none⟩ a).setCell ⟨w.heap.size, 1, none⟩ b).cell? ⟨q, k, none⟩ = wr.cell? ⟨q, k, none⟩ := fun q k hq => by
    rw [World.cell?_setCell_far _ _ _ _ (fun z => by have z2 : w.heap.size = q := z; omega), World.cell?_setCell_far _ _ _ _ (fun z => by have z2 : w.heap.size = q := z; omega)]
  refine ⟨fun r hr => ?_, fun r hr => ?_⟩
  · obtain ⟨g, e, h1, _, h3, h4⟩ := gr_cell (by have := h.rn; rw [hn] at this; exact this) r hr
    refine ⟨g, 0, e, h4, ?_⟩
    rw [far g _ (by omega), Nat.zero_add, h1]
    unfold nV
    have hr2 : r < NL.length := by omega
    rw [List.getElem?_map, List.getElem?_eq_getElem hr2, List.getD_eq_getElem?_getD, List.getElem?_eq_getElem hr2]
    rfl
  · obtain ⟨g, e, h1, _, h3, h4⟩ := gr_cell h.rs r hr
    obtain ⟨q, c, e2, q1, q2, _, _, _, q6⟩ := h.iv r hr
    refine ⟨g, 0, q, c, e, h4, ?_, q2, fun k hk => ?_⟩
    · rw [far g _ (by omega), Nat.zero_add, h1, ← e2]
      simp [hr]
    · rw [far q _ q1]
      exact q6 k hk
theorem FoG.numB {w : World} {gf : Nat} {wr : World} {un us : Value} {NL : List Nat} {ts ln : Nat} {v : Nat → Value} {TX : Nat → ByteArray} (h : FoG w gf wr un us NL ts ln v TX) (j : Nat) (x1 : World) (hg : (wr.alloc (.cells #[.int .i64 (j : Int)] 3)).grownBy x1 un.ownBlock) : Blk x1 gf #[un, us] 43 := by
  have hs0 : (wr.alloc (.cells #[.int .i64 (j : Int)] 3)).heap.size = wr.heap.size + 1 := by simp
  exact h.blk.kept ((hg.block gf (by have := h.blk.lt; omega) (fun e => h.blk.not_row (by decide) h.rn e.symm)).trans (Below.heap_alloc _ _ _ h.blk.lt))
theorem FoG.shdB {w : World} {gf : Nat} {wr : World} {un us : Value} {NL : List Nat} {ts ln : Nat} {v : Nat → Value} {TX : Nat → ByteArray} (h : FoG w gf wr un us NL ts ln v TX) (x : Value) (W x1 : World) (hW : Below wr.heap.size wr W) (hg : (W.alloc (.cells #[x] 51)).grownBy x1 us.ownBlock) : Blk x1 gf #[un, us] 43 := by
  have hs0 : (W.alloc (.cells #[x] 51)).heap.size = W.heap.size + 1 := by simp
  have hl := h.blk.lt
  have hs := hW.size
  exact h.blk.kept (((hg.block gf (by omega) (fun e => h.blk.not_row (by decide) h.rs e.symm)).trans (Below.heap_alloc _ _ _ (by omega))).trans (hW.block gf hl))
theorem FoG.congr {w : World} {gf : Nat} {wr : World} {un us : Value} {NL : List Nat} {ts ln : Nat} {v : Nat → Value} {TX TY : Nat → ByteArray} (h : FoG w gf wr un us NL ts ln v TX) (ht : ∀ r, r < ts → TX r = TY r) : FoG w gf wr un us NL ts ln v TY :=
  ⟨h.gfl, h.blk, h.res, h.rn, h.rs, fun r hr => by rw [← ht r hr]; exact h.iv r hr, h.bel⟩
theorem FoG.len0 {w : World} {gf : Nat} {wr : World} {un us : Value} {NL : List Nat} {ts ln : Nat} {v : Nat → Value} {TX : Nat → ByteArray} (h : FoG w gf wr un us NL ts ln v TX) (ht : ts = 0) (l2 : Nat) : FoG w gf wr un us NL ts l2 v TX :=
  ⟨h.gfl, h.blk, h.res, h.rn, h.rs, fun r hr => absurd hr (by omega), h.bel⟩
set_option maxHeartbeats 16000000 in
theorem pfirst_any (w : World) (L : List ByteArray) (N n m B c : Nat) (p : Option Addr) (hN : L.length = N) (hNm : N = n + m) (hn1 : 1 ≤ n) (hn2 : n ≤ 16) (hm : m ≤ 8) (hL : GTx w B p L) (hB : B ≤ w.heap.size) (hsb : ∀ j, sz L j ≤ 9223372036854775807) : Calls Tryd.prog 18 #[.slice p N c, .int .i64 (n : Int), .int .i64 (m : Int)] w (FfQ L N n w) := by
  have HC := hide (fun W => pmay_any (n : Int) (m : Int) W)
  rw [show cntB (n : Int) (m : Int) = true from decide_eq_true ⟨by omega, by omega, by omega, by omega⟩] at HC
  have hNN : (N : Int) = (n : Int) + (m : Int) := by omega
  have hne : ((N : Int) != (n : Int) + (m : Int)) = false := by rw [hNN]; simp
  have HL := hide (And.intro hN (And.intro hL (And.intro hB hsb)))
  obtain ⟨i0, hi, hz0, hz1, hz2⟩ := info_parts gr_int
  have HI := hide (And.intro hi (And.intro hz0 (And.intro hz1 hz2)))
  clear hi hz0 hz1 hz2 hN hL hB hsb
  obtain ⟨i9, hi, hz0, hz1, hz2⟩ := info_parts gr_brow
  have HJ := hide (And.intro hi (And.intro hz0 (And.intro hz1 hz2)))
  clear hi hz0 hz1 hz2
  have hN24 : N ≤ 24 := by omega
  clear hNN hNm
  obtain ⟨wb, hwb⟩ : ∃ q, (w.alloc (.cells #[.slice none 0 0, .slice none 0 0] 43)).alloc (.cells #[.slice none 0 0, .slice none 0 0] 43) = q := ⟨_, rfl⟩
  have HK0 := hide (show FoK L w (w.heap.size + 1) n 0 0 (.slice none 0 0) (.slice none 0 0) (fun _ => .slice none 0 0) wb from by
    subst hwb
    have b2 := Blk.new (w.alloc (.cells #[.slice none 0 0, .slice none 0 0] 43)) 43 #[.slice none 0 0, .slice none 0 0]
    have e2 : (w.alloc (.cells #[.slice none 0 0, .slice none 0 0] 43)).heap.size = w.heap.size + 1 := by simp
    rw [e2] at b2
    have e0 : (thr L 0).take n = [] := by simp [thr]
    refine ⟨?_, by omega, fun j hj => absurd hj (by omega), fun _ j hj => absurd hj (by omega), fun h => absurd rfl h⟩
    rw [e0]
    exact ⟨by omega, b2, (Blk.new w _ _).alloc _, World.ownsRow_nil _ _ _ _, World.ownsRow_nil _ _ _ _, fun r hr => absurd hr (by simp), ((Below.refl _ _).alloc (Nat.le_refl _) _).alloc (by simp) _⟩)
  go_enter Tryd.func18, Tryd.ntmps18
  go_wp2_with fail
  refine (unhide HC _).mono ?_
  rintro e w' ⟨rfl, hw'⟩
  subst w'
  clear HC
  go_wp2
  clear hwb
  obtain ⟨gf, hgf⟩ : ∃ q, w.heap.size + 1 = q := ⟨_, rfl⟩
  rw [hgf] at HK0 ⊢
  clear hgf
  go_loopw [9, 27] (fun x i wr => ∃ (k ln : Nat) (un us : Value) (v : Nat → Value), k ≤ N ∧ i = .int .i64 (k : Int) ∧ x = .int .i64 (ln : Int) ∧ Hid (FoK L w gf n k ln un us v wr)) (fun _ i _ => N - (intOf i).toNat)
  case atStart => exact ⟨0, 0, _, _, _, by omega, rfl, rfl, HK0⟩
  case round =>
  obtain ⟨k, ln, un, us, v, hk, rfl, rfl, HF⟩ := hrel
  obtain ⟨wi, rfl⟩ : ∃ q, q = wr := ⟨_, rfl⟩
  clear HK0
  obtain ⟨pn, cn, rfl, _⟩ := gr_form (unhide HF).g.rn
  obtain ⟨ps, cs, rfl, _⟩ := gr_form (unhide HF).g.rs
  have r0 := (unhide HF).g.res.cell 0
  have r1 := (unhide HF).g.res.cell 1
  have s0 := (unhide HF).g.res.frozen 0
  have s1 := (unhide HF).g.res.frozen 1
  have hgfl := (unhide HF).g.gfl
  have hgfw := (unhide HF).g.blk.lt
  have f0 : wi.cell? ⟨gf, 0, none⟩ = some (.slice pn ((thr L k).take n).length cn) := (unhide HF).g.blk.cell 0
  have f1 : wi.cell? ⟨gf, 1, none⟩ = some (.slice ps ((thr L k).take n).length cs) := (unhide HF).g.blk.cell 1
  have t0 := (unhide HF).g.blk.frozen 0
  have t1 := (unhide HF).g.blk.frozen 1
  have hngw : w.heap.size ≠ gf := by omega
  by_cases hkn : k < N
  case neg =>
    obtain rfl : k = N := by omega
    have hkn' : ¬ (k : Int) < (k : Int) := by omega
    have HFR := hide (show frm L k from ⟨ln, (unhide HF).le, (unhide HF).eq⟩)
    have htl : ((thr L k).take n).length = min n (thr L k).length := List.length_take
    obtain ⟨t, ht⟩ : ∃ q, ((thr L k).take n).length = q := ⟨_, rfl⟩
    have HT := hide (show t = min n (thr L k).length from by rw [← ht]; exact htl)
    rw [ht] at f0 f1
    have HTT := hide ht
    clear htl ht
    by_cases hfew : t < n
    · have hfew' : (t : Int) < (n : Int) := by omega
      have HFIN := hide ((unhide HF).g.ends (.slice none 0 0) (.slice none 0 0))
      have HE := hide (show FfQ L k n w (.returned (.tuple #[aggE, .int .i64 182])) ((wi.setCell ⟨w.heap.size, 0, none⟩ (.slice none 0 0)).setCell ⟨w.heap.size, 1, none⟩ (.slice none 0 0)) from ⟨(unhide HFIN).2, fun q => absurd (unhide HFR) q, fun _ _ => rfl, fun _ q => by have := unhide HT; omega⟩)
      go_wp2
      have hld := iload_blk 43 _ (unhide HFIN).1 Tryd.underlying43 rfl (by kernel_rfl)
      exact bodyPost_ret (v := .tuple #[aggE, .int .i64 182]) (results_cell2 (p := 6) (q := 7) (ty := 43) rfl _ _ _ ⟨w.heap.size, 0, none⟩ rfl _ hld) rfl (unhide HE)
    · have hfew' : ¬ (t : Int) < (n : Int) := by omega
      obtain rfl : t = n := by have := unhide HT; omega
      have HFIN := hide ((unhide HF).g.ends (.slice pn t cn) (.slice ps t cs))
      have HE := hide (show FfQ L k t w (.returned (.tuple #[.agg #[.slice pn t cn, .slice ps t cs], .int .i64 0])) ((wi.setCell ⟨w.heap.size, 0, none⟩ (.slice pn t cn)).setCell ⟨w.heap.size, 1, none⟩ (.slice ps t cs)) from by
        have hmin := unhide HT
        have hget : ∀ r, r < t → ((thr L k).take t).getD r 0 = (thr L k).getD r 0 := fun r hr => by
          rw [List.getD_eq_getElem?_getD, List.getD_eq_getElem?_getD, List.getElem?_take, if_pos hr]
        refine ⟨(unhide HFIN).2, fun q => absurd (unhide HFR) q, fun _ q => by omega, fun _ _ => ⟨pn, cn, ps, cs, ln, rfl, (unhide HF).le, fun r hr => ?_, ?_⟩⟩
        · have hr2 : r < (thr L k).length := by omega
          have hm2 : (thr L k).getD r 0 ∈ thr L k := by
            rw [List.getD_eq_getElem?_getD, List.getElem?_eq_getElem hr2]
            exact List.getElem_mem hr2
          have := thr_mem L k _ hm2
          exact (unhide HF).eq _ this.1 this.2
        · have hg := (unhide HF).g
          rw [unhide HTT] at hg
          have h9 := hg.fom (unhide HTT) rfl (.slice pn t cn) (.slice ps t cs)
          have hsz : ((wi.setCell ⟨w.heap.size, 0, none⟩ (.slice pn t cn)).setCell ⟨w.heap.size, 1, none⟩ (.slice ps t cs)).heap.size = wi.heap.size := by simp [World.setCell]
          rw [hsz]
          refine ⟨fun r hr => ?_, fun r hr => ?_⟩
          · have := h9.nums r hr
            simp only [hget r hr] at this
            exact this
          · have := h9.shs r hr
            simp only [hget r hr] at this
            exact this)
      go_wp2
      have hld := iload_blk 43 _ (unhide HFIN).1 Tryd.underlying43 rfl (by kernel_rfl)
      exact bodyPost_ret (v := .tuple #[.agg #[.slice pn t cn, .slice ps t cs], .int .i64 0]) (results_cell2 (p := 6) (q := 7) (ty := 43) rfl _ _ _ ⟨w.heap.size, 0, none⟩ rfl _ hld) rfl (unhide HE)
  have hkn' : (k : Int) < (N : Int) := by omega
  have hb := (unhide HF).g.bel
  obtain ⟨g, o, rfl, hg, hc0⟩ := (unhide HL).2.1 k (by rw [(unhide HL).1]; exact hkn)
  have hck : wi.cell? ⟨g, o + k, none⟩ = some (.string (L.getD k ByteArray.empty)) := (hb.cell (p := ⟨g, o + k, none⟩) (Nat.lt_of_lt_of_le hg (unhide HL).2.2.1)).trans hc0
  have hsk : sz L k = (L.getD k ByteArray.empty).size := rfl
  have hsk2 := (unhide HL).2.2.2 k
  have HSS := hide (show ∀ S, L.getD k ByteArray.empty = S → L.getD k ByteArray.empty = S from fun _ h => h)
  obtain ⟨S, hS⟩ : ∃ q, L.getD k ByteArray.empty = q := ⟨_, rfl⟩
  rw [hS] at hck hsk
  have HLS := hide hS
  clear hc0 hS HSS
  by_cases hz : S.size = 0
  case pos =>
    obtain rfl : S = ⟨#[]⟩ := by
      cases S with
      | mk a =>
        have h : a = #[] := Array.eq_empty_of_size_eq_zero hz
        rw [h]
    have HN := hide (show FoK L w gf n (k + 1) ln (.slice pn ((thr L k).take n).length cn) (.slice ps ((thr L k).take n).length cs) v wi from by
      have e : thr L (k + 1) = thr L k := by rw [thr_succ, if_neg (by rw [hsk, hz]; decide)]
      refine ⟨by rw [e]; exact (unhide HF).g, (unhide HF).le, fun j hj hs => ?_, fun h0 j hj => ?_, fun h0 => ?_⟩
      · by_cases q : j = k
        · rw [q, hsk, hz] at hs; exact absurd rfl hs
        · exact (unhide HF).eq j (by omega) hs
      · by_cases q : j = k
        · rw [q, hsk, hz]
        · exact (unhide HF).no h0 j (by omega)
      · obtain ⟨j, h1, h2⟩ := (unhide HF).yes h0
        exact ⟨j, by omega, h2⟩)
    generalize ((thr L k).take n).length = tl at *
    clear HF hsk r0 r1 s0 s1 f0 f1 t0 t1 hb
    go_wp2
    go_roundw
    case rel => exact ⟨k + 1, ln, _, _, v, by omega, by go_num, rfl, HN⟩
    case measure => simp [intOf] <;> omega
  have hem : (S.toList == (⟨#[]⟩ : ByteArray).toList) = false := str_ne (fun e => hz (by rw [e]; rfl))
  have hem2 : S.toList.isEmpty = false := by simpa using hem
  have e1 : thr L (k + 1) = thr L k ++ [k] := by rw [thr_succ, if_pos (by rw [hsk]; exact hz)]
  have htl2 := thr_len L k
  have HE1 := hide e1
  have HSK := hide hsk
  have HSZ := hide (show sz L k ≠ 0 from by rw [hsk]; exact hz)
  rw [hsk] at hsk2
  clear hsk hb e1
  -- the size that all must have
  obtain ⟨ls, hls⟩ : ∃ q, q = if ln = 0 then S.size else ln := ⟨_, rfl⟩
  have hnf : (S.size ≠ ls ∨ 60004 < ls) → ¬ frm L N := fun hbad ⟨l, h1, h2⟩ => by
    have h3 := h2 k hkn (unhide HSZ)
    rw [unhide HSK] at h3
    by_cases h0 : ln = 0
    · rw [if_pos h0] at hls
      omega
    · rw [if_neg h0] at hls
      obtain ⟨j, h4, h5⟩ := (unhide HF).yes h0
      have h6 := h2 j (by omega) (by rw [h5]; exact h0)
      rw [h5] at h6
      have := (unhide HF).le
      omega
  have HBAD := hide (show (S.size ≠ ls ∨ 60004 < ls) → FfQ L N n w (.returned (.tuple #[aggE, .int .i64 181])) ((wi.setCell ⟨w.heap.size, 0, none⟩ (.slice none 0 0)).setCell ⟨w.heap.size, 1, none⟩ (.slice none 0 0)) from fun hbad => ⟨((unhide HF).g.ends (.slice none 0 0) (.slice none 0 0)).2, fun _ => rfl, fun q => absurd q (hnf hbad), fun q => absurd q (hnf hbad)⟩)
  have HFIN := hide ((unhide HF).g.ends (.slice none 0 0) (.slice none 0 0))
  clear hnf
  by_cases hl0 : ln = 0
  case pos =>
    rw [if_pos hl0] at hls
    subst hls
    by_cases hbig : 60004 < S.size
    case pos =>
      have hbig' : (60004 : Int) < (S.size : Int) := by omega
      have HE := unhide HBAD (.inr hbig)
      subst hl0
      clear HBAD HF
      go_wp2
      have hld := iload_blk 43 _ (unhide HFIN).1 Tryd.underlying43 rfl (by kernel_rfl)
      exact bodyPost_ret (v := .tuple #[aggE, .int .i64 181]) (results_cell2 (p := 6) (q := 7) (ty := 43) rfl _ _ _ ⟨w.heap.size, 0, none⟩ rfl _ hld) rfl HE
    have hbig' : ¬ (60004 : Int) < (S.size : Int) := by omega
    have HQ := hide (show S.size ≤ 60004 ∧ (∀ j, j < k + 1 → sz L j ≠ 0 → sz L j = S.size) ∧ (S.size = 0 → ∀ j, j < k + 1 → sz L j = 0) ∧ (S.size ≠ 0 → ∃ j, j < k + 1 ∧ sz L j = S.size) from ⟨by omega, fun j hj hs => by
      by_cases q : j = k
      · rw [q]; exact unhide HSK
      · exact absurd ((unhide HF).no hl0 j (by omega)) hs, fun h0 => absurd h0 hz, fun _ => ⟨k, by omega, unhide HSK⟩⟩)
    have HG := hide ((unhide HF).g.len0 (by rw [thr_none L k ((unhide HF).no hl0)]; simp) S.size)
    subst hl0
    clear HBAD HFIN HF hbig
    have HTK := hide (show ∀ T, (thr L k).take n = T → (T.length < n → thr L k = T) from fun T hT hl => by
      rw [← hT] at hl ⊢
      rw [List.length_take] at hl
      exact (List.take_of_length_le (by omega)).symm)
    obtain ⟨T, hT⟩ : ∃ q, (thr L k).take n = q := ⟨_, rfl⟩
    rw [hT] at HG f0 f1
    have HTT := hide hT
    obtain ⟨tl, htl⟩ : ∃ q, T.length = q := ⟨_, rfl⟩
    have HTL := hide htl
    have htl3 : tl ≤ 24 := by rw [← htl, ← hT, List.length_take]; omega
    rw [htl] at HG f0 f1
    clear hT htl htl2
    by_cases hlt : tl < n
    case neg =>
      have hlt' : ¬ (tl : Int) < (n : Int) := by omega
      have HN := hide (show FoK L w gf n (k + 1) S.size (.slice pn tl cn) (.slice ps tl cs) v wi from ⟨by
        have e : (thr L (k + 1)).take n = T := by
          rw [unhide HE1, List.take_append_of_le_length (by have h9 := congrArg List.length (unhide HTT); rw [List.length_take, unhide HTL] at h9; omega), unhide HTT]
        rw [e, unhide HTL]
        exact unhide HG, (unhide HQ).1, (unhide HQ).2.1, (unhide HQ).2.2.1, (unhide HQ).2.2.2⟩)
      clear HG HQ
      go_wp2
      go_roundw
      case rel => exact ⟨k + 1, S.size, _, _, v, by omega, by go_num, rfl, HN⟩
      case measure => simp [intOf] <;> omega
    have hlt' : (tl : Int) < (n : Int) := by omega
    have HO := hide (show (wi.alloc (.cells #[.int .i64 (k : Int)] 3)).ownsRow (w.heap.size + 1) 3 1 (.slice pn tl cn) tl (nV T) from by have h9 := (unhide HG).rn; rw [unhide HTL] at h9; exact h9.alloc _)
    have hwl := (unhide HG).bel.size
    have hwl2 := (unhide HG).res.lt
    go_wp2_with (refine wpList_append_lies _ rfl (.tmp 53) (.tmp 55) 40 rfl (w.heap.size + 1) 3 i0 (.int .i64 0) 1 8 Tryd.underlying40 (unhide HI).1 (unhide HI).2.1 (unhide HI).2.2.1 (unhide HI).2.2.2 rfl (by decide) _ tl _ rfl (unhide HO) ⟨wi.heap.size, 0, none⟩ 1 1 [.int .i64 (k : Int)] rfl rfl (fun q u hu => gr_new wi 3 _ q u hu) (by simp [Value.oneCell']) (by decide) (by unfold maxLen; omega) (by omega) (by simp; omega) (wi.heap.size + 1) (by simp) ?_)
    intro g5 c5 x1 ho5 hg5 hgg5 _
    have hB1 := (unhide HG).numB k x1 hg5
    have x0 : x1.cell? ⟨gf, 0, none⟩ = some (.slice pn tl cn) := hB1.cell 0
    have x0f := hB1.frozen 0
    have HG1 := hide ((unhide HG).num k g5 c5 x1 (by rw [unhide HTL]; exact ho5) hg5 hgg5)
    rw [unhide HTL] at HG1
    obtain ⟨y1, hy1⟩ : ∃ q, x1.setCell ⟨gf, 0, none⟩ (.slice (some ⟨g5, 0, none⟩) (tl + 1) c5) = q := ⟨_, rfl⟩
    rw [hy1] at HG1
    have y1c : y1.cell? ⟨gf, 1, none⟩ = some (.slice ps tl cs) := (unhide HG1).blk.cell 1
    obtain ⟨cap, W, hcv, hbsl, hbW⟩ := Bsl.of_string y1 S (by omega)
    have HW := hide (And.intro hbsl hbW)
    have HO2 := hide (show (W.alloc (.cells #[.slice (some ⟨y1.heap.size, 0, none⟩) S.size cap] 51)).ownsRow (w.heap.size + 1) 51 1 (.slice ps tl cs) tl ((List.range tl).map v) from (owns_only (unhide HG1).rs (Only.of_below (P := fun _ => False) hbW) (fun _ _ q => q)).alloc _)
    have hWs := hbW.size
    have hy1s := (unhide HG1).res.lt
    clear hB1 ho5 hg5 hgg5 hbsl hbW HO HG f0 f1 t0 t1 r0 r1 s0 s1
    go_wp2_with (refine wpList_append_lies _ rfl (.tmp 59) (.tmp 62) 41 rfl (w.heap.size + 1) 51 i9 (.slice none 0 0) 1 24 Tryd.underlying41 (unhide HJ).1 (unhide HJ).2.1 (unhide HJ).2.2.1 (unhide HJ).2.2.2 rfl (by decide) _ tl _ rfl (unhide HO2) ⟨W.heap.size, 0, none⟩ 1 1 [.slice (some ⟨y1.heap.size, 0, none⟩) S.size cap] rfl rfl (fun q u hu => gr_new W 51 _ q u hu) (by simp [Value.oneCell']) (by decide) (by unfold maxLen; omega) (by omega) (by simp; omega) (W.heap.size + 1) (by simp) ?_)
    intro g6 c6 x2 ho6 hg6 hgg6 _
    have hB2 := (unhide HG1).shdB _ W x2 (unhide HW).2 hg6
    have z1 : x2.cell? ⟨gf, 1, none⟩ = some (.slice ps tl cs) := hB2.cell 1
    have z1f := hB2.frozen 1
    have HG2 := hide ((unhide HG1).shd S rfl cap g6 c6 W x2 (unhide HW).2 (unhide HW).1.2.2.2.2.1 (unhide HW).1.2.1 ho6 hg6 hgg6)
    have HN := hide (show FoK L w gf n (k + 1) S.size (.slice (some ⟨g5, 0, none⟩) (tl + 1) c5) (.slice (some ⟨g6, 0, none⟩) (tl + 1) c6) (fun r => if r = tl then .slice (some ⟨y1.heap.size, 0, none⟩) S.size cap else v r) (x2.setCell ⟨gf, 1, none⟩ (.slice (some ⟨g6, 0, none⟩) (tl + 1) c6)) from ⟨by
      have hT9 := unhide HTK T (unhide HTT) (by rw [unhide HTL]; exact hlt)
      have e : (thr L (k + 1)).take n = T ++ [k] := by
        rw [unhide HE1, hT9]
        exact List.take_of_length_le (by rw [List.length_append, unhide HTL]; show tl + 1 ≤ n; omega)
      have e2 : (T ++ [k]).length = tl + 1 := by rw [List.length_append, unhide HTL]; rfl
      rw [e, e2]
      refine (unhide HG2).congr (fun r hr => ?_)
      by_cases q : r = tl
      · rw [if_pos q, q, List.getD_eq_getElem?_getD (l := T ++ [k]), List.getElem?_append_right (by rw [unhide HTL]; omega), unhide HTL, Nat.sub_self]
        exact (unhide HLS).symm
      · rw [if_neg q, List.getD_eq_getElem?_getD (l := T ++ [k]), List.getElem?_append_left (by rw [unhide HTL]; omega), ← List.getD_eq_getElem?_getD], (unhide HQ).1, (unhide HQ).2.1, (unhide HQ).2.2.1, (unhide HQ).2.2.2⟩)
    clear hB2 ho6 hg6 hgg6 HO2 HG1 HG2 HW HQ
    go_wp2
    go_roundw
    case rel => exact ⟨k + 1, S.size, _, _, _, by omega, by go_num, rfl, HN⟩
    case measure => simp [intOf] <;> omega
  rw [if_neg hl0] at hls
  subst hls
  have hl0' : ((ls : Int) == 0) = false := by simp; omega
  by_cases hsl : S.size = ls
  case neg =>
      have hsl' : ((S.size : Int) != (ls : Int)) = true := by simp; omega
      have HE := unhide HBAD (.inl hsl)
      clear HBAD HF
      go_wp2
      have hld := iload_blk 43 _ (unhide HFIN).1 Tryd.underlying43 rfl (by kernel_rfl)
      exact bodyPost_ret (v := .tuple #[aggE, .int .i64 181]) (results_cell2 (p := 6) (q := 7) (ty := 43) rfl _ _ _ ⟨w.heap.size, 0, none⟩ rfl _ hld) rfl HE
  have hle := (unhide HF).le
  have hbig' : ¬ (60004 : Int) < (S.size : Int) := by omega
  have HQ := hide (show S.size ≤ 60004 ∧ (∀ j, j < k + 1 → sz L j ≠ 0 → sz L j = S.size) ∧ (S.size = 0 → ∀ j, j < k + 1 → sz L j = 0) ∧ (S.size ≠ 0 → ∃ j, j < k + 1 ∧ sz L j = S.size) from ⟨by omega, fun j hj hs => by
    by_cases q : j = k
    · rw [q]; exact unhide HSK
    · rw [hsl]; exact (unhide HF).eq j (by omega) hs, fun h0 => absurd h0 hz, fun _ => ⟨k, by omega, unhide HSK⟩⟩)
  have HG := hide (unhide HF).g
  subst hsl
  clear HBAD HFIN HF hle
  have hsl' : ((S.size : Int) != (S.size : Int)) = false := by simp
  have HTK := hide (show ∀ T, (thr L k).take n = T → (T.length < n → thr L k = T) from fun T hT hl => by
    rw [← hT] at hl ⊢
    rw [List.length_take] at hl
    exact (List.take_of_length_le (by omega)).symm)
  obtain ⟨T, hT⟩ : ∃ q, (thr L k).take n = q := ⟨_, rfl⟩
  rw [hT] at HG f0 f1
  have HTT := hide hT
  obtain ⟨tl, htl⟩ : ∃ q, T.length = q := ⟨_, rfl⟩
  have HTL := hide htl
  have htl3 : tl ≤ 24 := by rw [← htl, ← hT, List.length_take]; omega
  rw [htl] at HG f0 f1
  clear hT htl htl2
  by_cases hlt : tl < n
  case neg =>
    have hlt' : ¬ (tl : Int) < (n : Int) := by omega
    have HN := hide (show FoK L w gf n (k + 1) S.size (.slice pn tl cn) (.slice ps tl cs) v wi from ⟨by
      have e : (thr L (k + 1)).take n = T := by
        rw [unhide HE1, List.take_append_of_le_length (by have h9 := congrArg List.length (unhide HTT); rw [List.length_take, unhide HTL] at h9; omega), unhide HTT]
      rw [e, unhide HTL]
      exact unhide HG, (unhide HQ).1, (unhide HQ).2.1, (unhide HQ).2.2.1, (unhide HQ).2.2.2⟩)
    clear HG HQ
    go_wp2
    go_roundw
    case rel => exact ⟨k + 1, S.size, _, _, v, by omega, by go_num, rfl, HN⟩
    case measure => simp [intOf] <;> omega
  have hlt' : (tl : Int) < (n : Int) := by omega
  have HO := hide (show (wi.alloc (.cells #[.int .i64 (k : Int)] 3)).ownsRow (w.heap.size + 1) 3 1 (.slice pn tl cn) tl (nV T) from by have h9 := (unhide HG).rn; rw [unhide HTL] at h9; exact h9.alloc _)
  have hwl := (unhide HG).bel.size
  have hwl2 := (unhide HG).res.lt
  go_wp2_with (refine wpList_append_lies _ rfl (.tmp 53) (.tmp 55) 40 rfl (w.heap.size + 1) 3 i0 (.int .i64 0) 1 8 Tryd.underlying40 (unhide HI).1 (unhide HI).2.1 (unhide HI).2.2.1 (unhide HI).2.2.2 rfl (by decide) _ tl _ rfl (unhide HO) ⟨wi.heap.size, 0, none⟩ 1 1 [.int .i64 (k : Int)] rfl rfl (fun q u hu => gr_new wi 3 _ q u hu) (by simp [Value.oneCell']) (by decide) (by unfold maxLen; omega) (by omega) (by simp; omega) (wi.heap.size + 1) (by simp) ?_)
  intro g5 c5 x1 ho5 hg5 hgg5 _
  have hB1 := (unhide HG).numB k x1 hg5
  have x0 : x1.cell? ⟨gf, 0, none⟩ = some (.slice pn tl cn) := hB1.cell 0
  have x0f := hB1.frozen 0
  have HG1 := hide ((unhide HG).num k g5 c5 x1 (by rw [unhide HTL]; exact ho5) hg5 hgg5)
  rw [unhide HTL] at HG1
  obtain ⟨y1, hy1⟩ : ∃ q, x1.setCell ⟨gf, 0, none⟩ (.slice (some ⟨g5, 0, none⟩) (tl + 1) c5) = q := ⟨_, rfl⟩
  rw [hy1] at HG1
  have y1c : y1.cell? ⟨gf, 1, none⟩ = some (.slice ps tl cs) := (unhide HG1).blk.cell 1
  obtain ⟨cap, W, hcv, hbsl, hbW⟩ := Bsl.of_string y1 S (by omega)
  have HW := hide (And.intro hbsl hbW)
  have HO2 := hide (show (W.alloc (.cells #[.slice (some ⟨y1.heap.size, 0, none⟩) S.size cap] 51)).ownsRow (w.heap.size + 1) 51 1 (.slice ps tl cs) tl ((List.range tl).map v) from (owns_only (unhide HG1).rs (Only.of_below (P := fun _ => False) hbW) (fun _ _ q => q)).alloc _)
  have hWs := hbW.size
  have hy1s := (unhide HG1).res.lt
  clear hB1 ho5 hg5 hgg5 hbsl hbW HO HG f0 f1 t0 t1 r0 r1 s0 s1
  go_wp2_with (refine wpList_append_lies _ rfl (.tmp 59) (.tmp 62) 41 rfl (w.heap.size + 1) 51 i9 (.slice none 0 0) 1 24 Tryd.underlying41 (unhide HJ).1 (unhide HJ).2.1 (unhide HJ).2.2.1 (unhide HJ).2.2.2 rfl (by decide) _ tl _ rfl (unhide HO2) ⟨W.heap.size, 0, none⟩ 1 1 [.slice (some ⟨y1.heap.size, 0, none⟩) S.size cap] rfl rfl (fun q u hu => gr_new W 51 _ q u hu) (by simp [Value.oneCell']) (by decide) (by unfold maxLen; omega) (by omega) (by simp; omega) (W.heap.size + 1) (by simp) ?_)
  intro g6 c6 x2 ho6 hg6 hgg6 _
  have hB2 := (unhide HG1).shdB _ W x2 (unhide HW).2 hg6
  have z1 : x2.cell? ⟨gf, 1, none⟩ = some (.slice ps tl cs) := hB2.cell 1
  have z1f := hB2.frozen 1
  have HG2 := hide ((unhide HG1).shd S rfl cap g6 c6 W x2 (unhide HW).2 (unhide HW).1.2.2.2.2.1 (unhide HW).1.2.1 ho6 hg6 hgg6)
  have HN := hide (show FoK L w gf n (k + 1) S.size (.slice (some ⟨g5, 0, none⟩) (tl + 1) c5) (.slice (some ⟨g6, 0, none⟩) (tl + 1) c6) (fun r => if r = tl then .slice (some ⟨y1.heap.size, 0, none⟩) S.size cap else v r) (x2.setCell ⟨gf, 1, none⟩ (.slice (some ⟨g6, 0, none⟩) (tl + 1) c6)) from ⟨by
    have hT9 := unhide HTK T (unhide HTT) (by rw [unhide HTL]; exact hlt)
    have e : (thr L (k + 1)).take n = T ++ [k] := by
      rw [unhide HE1, hT9]
      exact List.take_of_length_le (by rw [List.length_append, unhide HTL]; show tl + 1 ≤ n; omega)
    have e2 : (T ++ [k]).length = tl + 1 := by rw [List.length_append, unhide HTL]; rfl
    rw [e, e2]
    refine (unhide HG2).congr (fun r hr => ?_)
    by_cases q : r = tl
    · rw [if_pos q, q, List.getD_eq_getElem?_getD (l := T ++ [k]), List.getElem?_append_right (by rw [unhide HTL]; omega), unhide HTL, Nat.sub_self]
      exact (unhide HLS).symm
    · rw [if_neg q, List.getD_eq_getElem?_getD (l := T ++ [k]), List.getElem?_append_left (by rw [unhide HTL]; omega), ← List.getD_eq_getElem?_getD], (unhide HQ).1, (unhide HQ).2.1, (unhide HQ).2.2.1, (unhide HQ).2.2.2⟩)
  clear hB2 ho6 hg6 hgg6 HO2 HG1 HG2 HW HQ
  go_wp2
  go_roundw
  case rel => exact ⟨k + 1, S.size, _, _, _, by omega, by go_num, rfl, HN⟩
  case measure => simp [intOf] <;> omega
end Go.Proofs.YtolblldpdgfkmaaDoor
